/-
  MeetBox of the model, InBox of the program and of the model: what each call returns and that nothing that was there has turned; condition for InBox of the program: the two numbers are ints.
-/
import Derived.Test.YtgognnecmhfhpaaBox
import Derived.Deep.RegionHeld3
import Derived.Lib.Hide
namespace Go.Proofs.Ytgognnecmhfhpaa.Dot
open Go.ChangeShapes Go.WideShapes Go.ChangeAt Go.RowKit
open Point Box
set_option linter.unusedVariables false
set_option linter.unusedSimpArgs false
attribute [local go_sem ↓] run_mx run_mn

set_option maxHeartbeats 2000000 in
theorem meet_spec (x0 y0 x1 y1 u0 v0 u1 v1 : Int) (w : World) : Calls Try.prog 29 #[.agg #[.int .i64 x0, .int .i64 y0, .int .i64 x1, .int .i64 y1], .agg #[.int .i64 u0, .int .i64 v0, .int .i64 u1, .int .i64 v1]] w fun e w' => e = .returned (meetV x0 y0 x1 y1 u0 v0 u1 v1) ∧ Below w.heap.size w w' := by
  cases h1 : bokB x0 y0 x1 y1 <;> cases h2 : bokB u0 v0 u1 v1
  all_goals
    go_enter Try.func29, Try.ntmps29
    go_wp2_with (go_at_call 21; refine (bok_spec _ _ _ _ _).mono ?_; rintro e w' ⟨rfl, hb⟩; have hB := on_of (W := w) (by go_grown) hb; obtain ⟨hc, hf⟩ := bcell hb; have hz : w.heap.size < w'.heap.size := (by have := hb.size; (try simp at this); omega); have hz1 : w.heap.size + 1 < w'.heap.size := (by have := hb.size; (try simp at this); omega); have hz2 : w.heap.size + 1 + 1 < w'.heap.size := (by have := hb.size; (try simp at this); omega); have hz3 : w.heap.size + 1 + 1 + 1 < w'.heap.size := (by have := hb.size; (try simp at this); omega); clear hb)
    all_goals refine bodyPost_ret (by simp [results, Try.results29, go_sem, *]; try rfl) rfl ?_
  all_goals first | exact ⟨meet_no (.inl h1), by go_grown⟩ | exact ⟨meet_no (.inr (.inl h2)), by go_grown⟩ | exact ⟨meet_no (.inr (.inr (by omega))), by go_grown⟩ | exact ⟨meet_yes h1 h2 (by omega), by go_grown⟩

def inboxB (x0 y0 x1 y1 x y : Int) : Bool := bokB x0 y0 x1 y1 && decide (x0 ≤ x ∧ x < x1 ∧ y0 ≤ y ∧ y < y1)

theorem inbox_spec (x0 y0 x1 y1 x y : Int) (w : World) : Calls Try.prog 31 #[.agg #[.int .i64 x0, .int .i64 y0, .int .i64 x1, .int .i64 y1], .int .i64 x, .int .i64 y] w fun e w' => e = .returned (.bool (inboxB x0 y0 x1 y1 x y)) ∧ Below w.heap.size w w' := by
  cases h1 : bokB x0 y0 x1 y1
  all_goals
    go_enter Try.func31, Try.ntmps31
    go_wp2_with (go_at_call 21; refine (bok_spec _ _ _ _ _).mono ?_; rintro e w' ⟨rfl, hb⟩; have hB := on_of (W := w) (by go_grown) hb; obtain ⟨hc, hf⟩ := bcell hb; have hz : w.heap.size < w'.heap.size := (by have := hb.size; (try simp at this); omega); clear hb)
    all_goals go_ret
  all_goals exact ⟨ret_bool (by rw [Bool.eq_iff_iff]; simp [inboxB, h1]; try omega), by go_grown⟩

/-- The numbers of the common part, as one fact. -/
def MeetOf (x0 y0 x1 y1 u0 v0 u1 v1 a b c d : Int) : Prop :=
  (a = mx x0 u0 ∧ b = mx y0 v0 ∧ c = mn x1 u1 ∧ d = mn y1 v1 ∧ a < c ∧ b < d ∧ bokB x0 y0 x1 y1 = true ∧ bokB u0 v0 u1 v1 = true) ∨
  (a = 0 ∧ b = 0 ∧ c = 0 ∧ d = 0 ∧ (bokB x0 y0 x1 y1 = false ∨ bokB u0 v0 u1 v1 = false ∨ ¬ (mx x0 u0 < mn x1 u1 ∧ mx y0 v0 < mn y1 v1)))
theorem meet_of (x0 y0 x1 y1 u0 v0 u1 v1 : Int) : ∃ a b c d : Int, MeetOf x0 y0 x1 y1 u0 v0 u1 v1 a b c d ∧ meetV x0 y0 x1 y1 u0 v0 u1 v1 = .agg #[.int .i64 a, .int .i64 b, .int .i64 c, .int .i64 d] := by
  by_cases h : bokB x0 y0 x1 y1 = true ∧ bokB u0 v0 u1 v1 = true ∧ (mx x0 u0 < mn x1 u1 ∧ mx y0 v0 < mn y1 v1)
  · obtain ⟨h1, h2, h3⟩ := h
    have := meet_yes h1 h2 h3
    exact ⟨_, _, _, _, .inl ⟨rfl, rfl, rfl, rfl, h3.1, h3.2, h1, h2⟩, by injection this with this; exact this.symm⟩
  · have h' : bokB x0 y0 x1 y1 = false ∨ bokB u0 v0 u1 v1 = false ∨ ¬ (mx x0 u0 < mn x1 u1 ∧ mx y0 v0 < mn y1 v1) := by
      cases h1 : bokB x0 y0 x1 y1
      · exact .inl rfl
      · cases h2 : bokB u0 v0 u1 v1
        · exact .inr (.inl rfl)
        · exact .inr (.inr fun h3 => h ⟨h1, h2, h3⟩)
    have := meet_no h'
    exact ⟨_, _, _, _, .inr ⟨rfl, rfl, rfl, rfl, h'⟩, by injection this with this; exact this.symm⟩
theorem meet_impl' (x0 y0 x1 y1 u0 v0 u1 v1 : Int) (w : World) : Calls Try.prog 13 #[.agg #[.int .i64 x0, .int .i64 y0, .int .i64 x1, .int .i64 y1], .agg #[.int .i64 u0, .int .i64 v0, .int .i64 u1, .int .i64 v1]] w fun e w' => ∃ a b c d : Int, MeetOf x0 y0 x1 y1 u0 v0 u1 v1 a b c d ∧ e = .returned (.agg #[.int .i64 a, .int .i64 b, .int .i64 c, .int .i64 d]) ∧ Below w.heap.size w w' :=
  (meet_impl _ _ _ _ _ _ _ _ w).mono fun _ _ ⟨he, hb⟩ => by
    obtain ⟨a, b, c, d, hm, hv⟩ := meet_of x0 y0 x1 y1 u0 v0 u1 v1
    exact ⟨a, b, c, d, hm, by rw [he, hv], hb⟩

theorem nxt_of (x : Int) (h : -9223372036854775808 ≤ x ∧ x ≤ 9223372036854775807) : (x < 9223372036854775807 ∧ wrap64 (x + 1) = x + 1) ∨ (x = 9223372036854775807 ∧ wrap64 (x + 1) = -9223372036854775808) := by
  by_cases hx : x < 9223372036854775807
  · exact .inl ⟨hx, IntWalk.wrap64_in _ (by omega)⟩
  · have : x = 9223372036854775807 := by omega
    subst this
    exact .inr ⟨rfl, by go_arith⟩

theorem bok_iff (x0 y0 x1 y1 : Int) : bokB x0 y0 x1 y1 = true ↔ -200 ≤ x0 ∧ -200 ≤ y0 ∧ x1 ≤ 200 ∧ y1 ≤ 200 ∧ x0 ≤ x1 ∧ y0 ≤ y1 := by
  simp [bokB, inB]; omega
theorem inbox_iff {x0 y0 x1 y1 x y p q a b c d : Int} (hm : MeetOf x0 y0 x1 y1 x y p q a b c d)
    (kx : (x < 9223372036854775807 ∧ p = x + 1) ∨ (x = 9223372036854775807 ∧ p = -9223372036854775808)) (ky : (y < 9223372036854775807 ∧ q = y + 1) ∨ (y = 9223372036854775807 ∧ q = -9223372036854775808)) :
    (a = x ∧ b = y ∧ c = p ∧ d = q) ↔ inboxB x0 y0 x1 y1 x y = true := by
  simp only [inboxB, Bool.and_eq_true, decide_eq_true_eq, MeetOf, ← Bool.not_eq_true, bok_iff, mx, mn] at *
  omega

theorem run_eql_box (w : World) (a b c d x y p q : Int) : (binOp .eql 25 (.agg #[.int .i64 a, .int .i64 b, .int .i64 c, .int .i64 d]) (.agg #[.int .i64 x, .int .i64 y, .int .i64 p, .int .i64 q])).run Try.prog w = .ok (.bool (decide (a = x ∧ b = y ∧ c = p ∧ d = q))) w := by
  by_cases h1 : a = x <;> by_cases h2 : b = y <;> by_cases h3 : c = p <;> by_cases h4 : d = q
  all_goals simp [go_sem, *]
attribute [local go_sem ↓] run_eql_box

set_option maxHeartbeats 1000000 in
theorem inbox_impl (x0 y0 x1 y1 x y : Int) (w : World) (hx : -9223372036854775808 ≤ x ∧ x ≤ 9223372036854775807) (hy : -9223372036854775808 ≤ y ∧ y ≤ 9223372036854775807) : Calls Try.prog 14 #[.agg #[.int .i64 x0, .int .i64 y0, .int .i64 x1, .int .i64 y1], .int .i64 x, .int .i64 y] w fun e w' => e = .returned (.bool (inboxB x0 y0 x1 y1 x y)) ∧ Below w.heap.size w w' := by
  have kx := Lib.hid (nxt_of x hx)
  have ky := Lib.hid (nxt_of y hy)
  obtain ⟨p, hp⟩ : ∃ p, wrap64 (x + 1) = p := ⟨_, rfl⟩
  obtain ⟨q, hq⟩ : ∃ q, wrap64 (y + 1) = q := ⟨_, rfl⟩
  clear hx hy
  rw [hp] at kx
  rw [hq] at ky
  go_enter Try.func14, Try.ntmps14
  go_wp2
  clear hp hq
  go_region_held3 (fun w' => w'.cell? ⟨w.heap.size, 0, none⟩ = some (.int .i64 x0) ∧ w'.cell? ⟨w.heap.size, 1, none⟩ = some (.int .i64 y0) ∧ w'.cell? ⟨w.heap.size, 2, none⟩ = some (.int .i64 x1) ∧ w'.cell? ⟨w.heap.size, 3, none⟩ = some (.int .i64 y1) ∧ w'.cell? ⟨w.heap.size + 1, 0, none⟩ = some (.int .i64 x) ∧ w'.cell? ⟨w.heap.size + 1, 1, none⟩ = some (.int .i64 y) ∧ w'.cell? ⟨w.heap.size + 1, 2, none⟩ = some (.int .i64 p) ∧ w'.cell? ⟨w.heap.size + 1, 3, none⟩ = some (.int .i64 q) ∧ Below w.heap.size w w' ∧ w.heap.size + 1 < w'.heap.size)
    (refine ⟨?_, ?_, ?_, ?_, ?_, ?_, ?_, ?_, ?_, ?_⟩ <;> first | exact hB | (go_grown; done) | (rw [hc _ _ (by first | (simp; done) | (simp; omega))]; simp [*]; done) | go_keep)
    ((go_at_call 13; refine (meet_impl' _ _ _ _ _ _ _ _ _).mono ?_; rintro e w' ⟨a, b, c, d, hm, rfl, hb⟩; obtain ⟨hc, hf⟩ := bcell hb; have hB := on_of (W := w) (by go_grown) hb; have hz := hb.size; have hz1 : w.heap.size + 1 < w'.heap.size := (by have := hb.size; (try simp at this); omega)))
  go_wp2
  go_ret
  refine ⟨ret_bool ?_, hB⟩
  rw [Bool.eq_iff_iff, ← inbox_iff hm kx.out ky.out]
  simp
end Go.Proofs.Ytgognnecmhfhpaa.Dot
