/-
  Texts of this seat, laid together: Box, Bo10, Ds8
-/
import Derived.BigQuiet
import Derived.Deep.QuietTactic
import Derived.Deep.RegionHeld3
import Derived.WalkKit
import Derived.Handy
import Derived.Lib.Hide
import Derived.Test.YtbdjnfnphilklaaGreatV04
import Derived.Test.YtbdjnfnphilklaaGreatV03
import Derived.Test.YtbdjnfnphilklaaGreatV17
import Derived.Test.YtbdjnfnphilklaaGreatV12
import Derived.Test.YtbdjnfnphilklaaGreatV07
namespace Go.Proofs.YtbdjnfnphilklaaGreat.Box
open Go.ChangeShapes Go.WideShapes Go.ChangeAt Go.RowKit
open Kit Point
set_option linter.unusedVariables false
set_option linter.unusedSimpArgs false
set_option linter.unnecessarySimpa false
attribute [local go_sem ↓] run_mx run_mn
def dots (x0 y0 x1 y1 : Int) : Int := if bokB x0 y0 x1 y1 = true then (x1 - x0) * (y1 - y0) else 0
theorem area_le {a b : Int} (h0 : 0 ≤ a) (h1 : a ≤ 400) (h2 : 0 ≤ b) (h3 : b ≤ 400) : 0 ≤ a * b ∧ a * b ≤ 160000 :=
  ⟨Int.mul_nonneg h0 h2, Int.le_trans (Int.mul_le_mul h1 h3 h2 (by omega)) (by omega)⟩
set_option maxHeartbeats 400000 in
theorem dots_impl (x0 y0 x1 y1 : Int) (w : World) : Calls Tryz.prog 118 #[.agg #[.int .i64 x0, .int .i64 y0, .int .i64 x1, .int .i64 y1]] w fun e w' => e = .returned (.int .i64 (dots x0 y0 x1 y1)) ∧ Below w.heap.size w w' := by
  cases h : bokB x0 y0 x1 y1
  · go_enter Tryz.func118, Tryz.ntmps118
    go_wp2_with (go_at_call 109; refine (bok_impl _ _ _ _ _).mono ?_; rintro e w' ⟨rfl, hb⟩; have hB := on_of (W := w) (by go_grown) hb; obtain ⟨hc, hf⟩ := bcell hb; have hz : w.heap.size < w'.heap.size := (by have := hb.size; (try simp at this); omega); clear hb)
    go_ret
    exact ⟨ret_int (by simp [dots, h]), by go_grown⟩
  · obtain ⟨b0, b1, b2, b3, b4, b5⟩ := bok_true h
    obtain ⟨a0, a1⟩ := area_le (a := x1 - x0) (b := y1 - y0) (by omega) (by omega) (by omega) (by omega)
    go_enter Tryz.func118, Tryz.ntmps118
    go_wp2_with (go_at_call 109; refine (bok_impl _ _ _ _ _).mono ?_; rintro e w' ⟨rfl, hb⟩; have hB := on_of (W := w) (by go_grown) hb; obtain ⟨hc, hf⟩ := bcell hb; have hz : w.heap.size < w'.heap.size := (by have := hb.size; (try simp at this); omega); clear hb)
    go_ret
    exact ⟨ret_int (by simp [dots, h]), by go_grown⟩
set_option maxHeartbeats 400000 in
theorem dots_spec (x0 y0 x1 y1 : Int) (w : World) : Calls Tryz.prog 88 #[.agg #[.int .i64 x0, .int .i64 y0, .int .i64 x1, .int .i64 y1]] w fun e w' => e = .returned (.int .i64 (dots x0 y0 x1 y1)) ∧ Below w.heap.size w w' := by
  cases h : bokB x0 y0 x1 y1
  · go_enter Tryz.func88, Tryz.ntmps88
    go_wp2_with (go_at_call 115; refine (bok_spec _ _ _ _ _).mono ?_; rintro e w' ⟨rfl, hb⟩; have hB := on_of (W := w) (by go_grown) hb; obtain ⟨hc, hf⟩ := bcell hb; have hz : w.heap.size < w'.heap.size := (by have := hb.size; (try simp at this); omega); clear hb)
    go_ret
    exact ⟨ret_int (by simp [dots, h]), by go_grown⟩
  · obtain ⟨b0, b1, b2, b3, b4, b5⟩ := bok_true h
    obtain ⟨a0, a1⟩ := area_le (a := x1 - x0) (b := y1 - y0) (by omega) (by omega) (by omega) (by omega)
    go_enter Tryz.func88, Tryz.ntmps88
    go_wp2_with (go_at_call 115; refine (bok_spec _ _ _ _ _).mono ?_; rintro e w' ⟨rfl, hb⟩; have hB := on_of (W := w) (by go_grown) hb; obtain ⟨hc, hf⟩ := bcell hb; have hz : w.heap.size < w'.heap.size := (by have := hb.size; (try simp at this); omega); clear hb)
    go_ret
    exact ⟨ret_int (by simp [dots, h]), by go_grown⟩
def DotsOf (x0 y0 x1 y1 n : Int) : Prop := (n = 0 ∧ ¬ (x0 < x1 ∧ y0 < y1)) ∨ (1 ≤ n ∧ x0 < x1 ∧ y0 < y1)
theorem dots_of {x0 y0 x1 y1 : Int} (h0 : -200 ≤ x0 ∧ x0 ≤ 200) (h1 : -200 ≤ y0 ∧ y0 ≤ 200) (h2 : -200 ≤ x1 ∧ x1 ≤ 200) (h3 : -200 ≤ y1 ∧ y1 ≤ 200) : DotsOf x0 y0 x1 y1 (dots x0 y0 x1 y1) := by
  unfold dots DotsOf
  by_cases h : x0 < x1 ∧ y0 < y1
  · have hb : bokB x0 y0 x1 y1 = true := by simp [bokB, inB]; omega
    rw [if_pos hb]
    have := Int.mul_pos (show 0 < x1 - x0 by omega) (show 0 < y1 - y0 by omega)
    exact .inr ⟨by omega, h⟩
  · refine .inl ⟨?_, h⟩
    by_cases hb : bokB x0 y0 x1 y1 = true
    · rw [if_pos hb]
      obtain ⟨_, _, _, _, a, b⟩ := bok_true hb
      by_cases hx : x0 = x1
      · subst hx; simp
      · have : y0 = y1 := by omega
        subst this; simp
    · rw [if_neg hb]
theorem dots_impl' (x0 y0 x1 y1 : Int) (w : World) (h : (-200 ≤ x0 ∧ x0 ≤ 200) ∧ (-200 ≤ y0 ∧ y0 ≤ 200) ∧ (-200 ≤ x1 ∧ x1 ≤ 200) ∧ (-200 ≤ y1 ∧ y1 ≤ 200)) : Calls Tryz.prog 118 #[.agg #[.int .i64 x0, .int .i64 y0, .int .i64 x1, .int .i64 y1]] w fun e w' => ∃ n : Int, DotsOf x0 y0 x1 y1 n ∧ e = .returned (.int .i64 n) ∧ Below w.heap.size w w' :=
  (dots_impl _ _ _ _ w).mono fun _ _ ⟨he, hb⟩ => ⟨_, dots_of h.1 h.2.1 h.2.2.1 h.2.2.2, he, hb⟩
def meetB (x0 y0 x1 y1 u0 v0 u1 v1 : Int) : Bool := bokB x0 y0 x1 y1 && bokB u0 v0 u1 v1 && decide (mx x0 u0 < mn x1 u1 ∧ mx y0 v0 < mn y1 v1)
def meetV (x0 y0 x1 y1 u0 v0 u1 v1 : Int) : Value :=
  .agg #[.int .i64 (sel (meetB x0 y0 x1 y1 u0 v0 u1 v1) (mx x0 u0)), .int .i64 (sel (meetB x0 y0 x1 y1 u0 v0 u1 v1) (mx y0 v0)), .int .i64 (sel (meetB x0 y0 x1 y1 u0 v0 u1 v1) (mn x1 u1)), .int .i64 (sel (meetB x0 y0 x1 y1 u0 v0 u1 v1) (mn y1 v1))]
theorem meet_no {x0 y0 x1 y1 u0 v0 u1 v1 : Int} (h : bokB x0 y0 x1 y1 = false ∨ bokB u0 v0 u1 v1 = false ∨ ¬ (mx x0 u0 < mn x1 u1 ∧ mx y0 v0 < mn y1 v1)) : Ending.returned (.agg #[.int .i64 0, .int .i64 0, .int .i64 0, .int .i64 0]) = .returned (meetV x0 y0 x1 y1 u0 v0 u1 v1) := by
  have hm : meetB x0 y0 x1 y1 u0 v0 u1 v1 = false := by
    rcases h with h | h | h
    · simp [meetB, h]
    · simp [meetB, h]
    · simp only [meetB, Bool.and_eq_false_iff, decide_eq_false_iff_not]; exact .inr h
  simp [meetV, hm, sel]
theorem meet_yes {x0 y0 x1 y1 u0 v0 u1 v1 : Int} (h1 : bokB x0 y0 x1 y1 = true) (h2 : bokB u0 v0 u1 v1 = true) (h3 : mx x0 u0 < mn x1 u1 ∧ mx y0 v0 < mn y1 v1) : Ending.returned (.agg #[.int .i64 (mx x0 u0), .int .i64 (mx y0 v0), .int .i64 (mn x1 u1), .int .i64 (mn y1 v1)]) = .returned (meetV x0 y0 x1 y1 u0 v0 u1 v1) := by
  have hm : meetB x0 y0 x1 y1 u0 v0 u1 v1 = true := by
    simp only [meetB, h1, h2, Bool.true_and, decide_eq_true_eq]; exact h3
  simp [meetV, hm, sel]
set_option maxHeartbeats 2000000 in
theorem meet_impl (x0 y0 x1 y1 u0 v0 u1 v1 : Int) (w : World) : Calls Tryz.prog 90 #[.agg #[.int .i64 x0, .int .i64 y0, .int .i64 x1, .int .i64 y1], .agg #[.int .i64 u0, .int .i64 v0, .int .i64 u1, .int .i64 v1]] w fun e w' => e = .returned (meetV x0 y0 x1 y1 u0 v0 u1 v1) ∧ Below w.heap.size w w' := by
  cases h1 : bokB x0 y0 x1 y1 <;> cases h2 : bokB u0 v0 u1 v1
  · go_enter Tryz.func90, Tryz.ntmps90
    go_wp2_with (go_at_call 109; refine (bok_impl _ _ _ _ _).mono ?_; rintro e w' ⟨rfl, hb⟩; have hB := on_of (W := w) (by go_grown) hb; obtain ⟨hc, hf⟩ := bcell hb; have hz : w.heap.size < w'.heap.size := (by have := hb.size; (try simp at this); omega); have hz1 : w.heap.size + 1 < w'.heap.size := (by have := hb.size; (try simp at this); omega); have hz2 : w.heap.size + 1 + 1 < w'.heap.size := (by have := hb.size; (try simp at this); omega); clear hb)
    refine bodyPost_ret (by simp [results, Tryz.results90, go_sem, hc, hz2]; try rfl) rfl ?_
    exact ⟨meet_no (.inl h1), by go_grown⟩
  · go_enter Tryz.func90, Tryz.ntmps90
    go_wp2_with (go_at_call 109; refine (bok_impl _ _ _ _ _).mono ?_; rintro e w' ⟨rfl, hb⟩; have hB := on_of (W := w) (by go_grown) hb; obtain ⟨hc, hf⟩ := bcell hb; have hz : w.heap.size < w'.heap.size := (by have := hb.size; (try simp at this); omega); have hz1 : w.heap.size + 1 < w'.heap.size := (by have := hb.size; (try simp at this); omega); have hz2 : w.heap.size + 1 + 1 < w'.heap.size := (by have := hb.size; (try simp at this); omega); clear hb)
    refine bodyPost_ret (by simp [results, Tryz.results90, go_sem, hc, hz2]; try rfl) rfl ?_
    exact ⟨meet_no (.inl h1), by go_grown⟩
  · go_enter Tryz.func90, Tryz.ntmps90
    go_wp2_with (go_at_call 109; refine (bok_impl _ _ _ _ _).mono ?_; rintro e w' ⟨rfl, hb⟩; have hB := on_of (W := w) (by go_grown) hb; obtain ⟨hc, hf⟩ := bcell hb; have hz : w.heap.size < w'.heap.size := (by have := hb.size; (try simp at this); omega); have hz1 : w.heap.size + 1 < w'.heap.size := (by have := hb.size; (try simp at this); omega); have hz2 : w.heap.size + 1 + 1 < w'.heap.size := (by have := hb.size; (try simp at this); omega); clear hb)
    refine bodyPost_ret (by simp [results, Tryz.results90, go_sem, *]; try rfl) rfl ?_
    exact ⟨meet_no (.inr (.inl h2)), by go_grown⟩
  · have r1 := bok_true h1
    have r2 := bok_true h2
    have m0 := mx_in (a := x0) (b := u0) (by omega) (by omega)
    have m1 := mx_in (a := y0) (b := v0) (by omega) (by omega)
    have m2 := mn_in (a := x1) (b := u1) (by omega) (by omega)
    have m3 := mn_in (a := y1) (b := v1) (by omega) (by omega)
    go_enter Tryz.func90, Tryz.ntmps90
    go_wp2_with (first | (go_at_call 109; refine (bok_impl _ _ _ _ _).mono ?_; rintro e w' ⟨rfl, hb⟩; have hB := on_of (W := w) (by go_grown) hb; obtain ⟨hc, hf⟩ := bcell hb; have hz : w.heap.size < w'.heap.size := (by have := hb.size; (try simp at this); omega); have hz1 : w.heap.size + 1 < w'.heap.size := (by have := hb.size; (try simp at this); omega); have hz2 : w.heap.size + 1 + 1 < w'.heap.size := (by have := hb.size; (try simp at this); omega); clear hb) | (go_at_call 118; refine (dots_impl' _ _ _ _ _ ⟨m0, m1, m2, m3⟩).mono ?_; rintro e w' ⟨n, hn, rfl, hb⟩; have hB := on_of (W := w) (by go_grown) hb; obtain ⟨hc, hf⟩ := bcell hb; have hz : w.heap.size + 1 + 1 < w'.heap.size := (by have := hb.size; (try simp at this); omega); have hz1 := hb.size; clear hb; rcases hn with ⟨rfl, hn⟩ | ⟨hn1, hn⟩))
    all_goals refine bodyPost_ret (by simp [results, Tryz.results90, go_sem, *]; try rfl) rfl ?_
    all_goals first | exact ⟨meet_no (.inr (.inr hn)), by go_grown⟩ | exact ⟨meet_yes h1 h2 hn, by go_grown⟩
set_option maxHeartbeats 2000000 in
theorem meet_spec (x0 y0 x1 y1 u0 v0 u1 v1 : Int) (w : World) : Calls Tryz.prog 116 #[.agg #[.int .i64 x0, .int .i64 y0, .int .i64 x1, .int .i64 y1], .agg #[.int .i64 u0, .int .i64 v0, .int .i64 u1, .int .i64 v1]] w fun e w' => e = .returned (meetV x0 y0 x1 y1 u0 v0 u1 v1) ∧ Below w.heap.size w w' := by
  cases h1 : bokB x0 y0 x1 y1 <;> cases h2 : bokB u0 v0 u1 v1
  all_goals
    go_enter Tryz.func116, Tryz.ntmps116
    go_wp2_with (go_at_call 115; refine (bok_spec _ _ _ _ _).mono ?_; rintro e w' ⟨rfl, hb⟩; have hB := on_of (W := w) (by go_grown) hb; obtain ⟨hc, hf⟩ := bcell hb; have hz : w.heap.size < w'.heap.size := (by have := hb.size; (try simp at this); omega); have hz1 : w.heap.size + 1 < w'.heap.size := (by have := hb.size; (try simp at this); omega); have hz2 : w.heap.size + 1 + 1 < w'.heap.size := (by have := hb.size; (try simp at this); omega); have hz3 : w.heap.size + 1 + 1 + 1 < w'.heap.size := (by have := hb.size; (try simp at this); omega); clear hb)
    all_goals refine bodyPost_ret (by simp [results, Tryz.results116, go_sem, *]; try rfl) rfl ?_
  all_goals first | exact ⟨meet_no (.inl h1), by go_grown⟩ | exact ⟨meet_no (.inr (.inl h2)), by go_grown⟩ | exact ⟨meet_no (.inr (.inr (by omega))), by go_grown⟩ | exact ⟨meet_yes h1 h2 (by omega), by go_grown⟩
def MeetOf (x0 y0 x1 y1 u0 v0 u1 v1 a b c d : Int) : Prop :=
  (a = mx x0 u0 ∧ b = mx y0 v0 ∧ c = mn x1 u1 ∧ d = mn y1 v1 ∧ a < c ∧ b < d ∧ bokB x0 y0 x1 y1 = true ∧ bokB u0 v0 u1 v1 = true) ∨
  (a = 0 ∧ b = 0 ∧ c = 0 ∧ d = 0 ∧ (bokB x0 y0 x1 y1 = false ∨ bokB u0 v0 u1 v1 = false ∨ ¬ (mx x0 u0 < mn x1 u1 ∧ mx y0 v0 < mn y1 v1)))
theorem meet_of (x0 y0 x1 y1 u0 v0 u1 v1 : Int) : ∃ a b c d : Int, MeetOf x0 y0 x1 y1 u0 v0 u1 v1 a b c d ∧ meetV x0 y0 x1 y1 u0 v0 u1 v1 = .agg #[.int .i64 a, .int .i64 b, .int .i64 c, .int .i64 d] := by
  by_cases h : bokB x0 y0 x1 y1 = true ∧ bokB u0 v0 u1 v1 = true ∧ (mx x0 u0 < mn x1 u1 ∧ mx y0 v0 < mn y1 v1)
  · obtain ⟨h1, h2, h3⟩ := h
    have := meet_yes h1 h2 h3
    exact ⟨_, _, _, _, .inl ⟨rfl, rfl, rfl, rfl, h3.1, h3.2, h1, h2⟩, by injection this with this; exact this.symm⟩
  · have h' : bokB x0 y0 x1 y1 = false ∨ bokB u0 v0 u1 v1 = false ∨ ¬ (mx x0 u0 < mn x1 u1 ∧ mx y0 v0 < mn y1 v1) := by
      cases h1 : bokB x0 y0 x1 y1
      · exact .inl rfl
      · cases h2 : bokB u0 v0 u1 v1
        · exact .inr (.inl rfl)
        · exact .inr (.inr fun h3 => h ⟨h1, h2, h3⟩)
    have := meet_no h'
    exact ⟨_, _, _, _, .inr ⟨rfl, rfl, rfl, rfl, h'⟩, by injection this with this; exact this.symm⟩
theorem meet_impl' (x0 y0 x1 y1 u0 v0 u1 v1 : Int) (w : World) : Calls Tryz.prog 90 #[.agg #[.int .i64 x0, .int .i64 y0, .int .i64 x1, .int .i64 y1], .agg #[.int .i64 u0, .int .i64 v0, .int .i64 u1, .int .i64 v1]] w fun e w' => ∃ a b c d : Int, MeetOf x0 y0 x1 y1 u0 v0 u1 v1 a b c d ∧ e = .returned (.agg #[.int .i64 a, .int .i64 b, .int .i64 c, .int .i64 d]) ∧ Below w.heap.size w w' :=
  (meet_impl _ _ _ _ _ _ _ _ w).mono fun _ _ ⟨he, hb⟩ => by
    obtain ⟨a, b, c, d, hm, hv⟩ := meet_of x0 y0 x1 y1 u0 v0 u1 v1
    exact ⟨a, b, c, d, hm, by rw [he, hv], hb⟩
end Go.Proofs.YtbdjnfnphilklaaGreat.Box
namespace Go.Proofs.YtbdjnfnphilklaaGreat.Ins
open Go.ChangeShapes Go.WideShapes Go.ChangeAt Go.RowKit
open Kit Point
set_option linter.unusedVariables false
set_option linter.unusedSimpArgs false
set_option linter.unnecessarySimpa false
structure Bx where
  x0 : Int
  y0 : Int
  x1 : Int
  y1 : Int
def Bx.v (b : Bx) : Value := .agg #[.int .i64 b.x0, .int .i64 b.y0, .int .i64 b.x1, .int .i64 b.y1]
def pbx (l : List Pt) : Bx :=
  if ptsB l = true ∧ 0 < l.length then ⟨Pts.acc mn (pX l) l.length, Pts.acc mn (pY l) l.length, Pts.acc mx (pX l) l.length, Pts.acc mx (pY l) l.length⟩ else ⟨0, 0, 0, 0⟩
def Bx.ok (b : Bx) : Bool := bokB b.x0 b.y0 b.x1 b.y1
def mtx (b d : Bx) : Bx :=
  if b.ok = true ∧ d.ok = true ∧ mx b.x0 d.x0 < mn b.x1 d.x1 ∧ mx b.y0 d.y0 < mn b.y1 d.y1 then ⟨mx b.x0 d.x0, mx b.y0 d.y0, mn b.x1 d.x1, mn b.y1 d.y1⟩ else ⟨0, 0, 0, 0⟩
def pgx : Bx := ⟨0, 0, 32, 32⟩
theorem meet_v (b d : Bx) : Box.meetV b.x0 b.y0 b.x1 b.y1 d.x0 d.y0 d.x1 d.y1 = (mtx b d).v := by
  unfold mtx
  by_cases h : b.ok = true ∧ d.ok = true ∧ mx b.x0 d.x0 < mn b.x1 d.x1 ∧ mx b.y0 d.y0 < mn b.y1 d.y1
  · rw [if_pos h]
    have hm : Box.meetB b.x0 b.y0 b.x1 b.y1 d.x0 d.y0 d.x1 d.y1 = true := by
      simp only [Box.meetB, show bokB b.x0 b.y0 b.x1 b.y1 = true from h.1, show bokB d.x0 d.y0 d.x1 d.y1 = true from h.2.1, Bool.true_and, decide_eq_true_eq]; exact h.2.2
    simp [Box.meetV, hm, sel, Bx.v]
  · rw [if_neg h]
    have hm : Box.meetB b.x0 b.y0 b.x1 b.y1 d.x0 d.y0 d.x1 d.y1 = false := by
      cases e : Box.meetB b.x0 b.y0 b.x1 b.y1 d.x0 d.y0 d.x1 d.y1
      · rfl
      · simp only [Box.meetB, Bool.and_eq_true, decide_eq_true_eq] at e
        exact absurd ⟨e.1.1, e.1.2, e.2⟩ h
    simp [Box.meetV, hm, sel, Bx.v]
theorem meetbox_impl (b d : Bx) (w : World) : Calls Tryz.prog 90 #[b.v, d.v] w fun e w' => e = .returned (mtx b d).v ∧ Below w.heap.size w w' := by
  rw [← meet_v]; exact Box.meet_impl _ _ _ _ _ _ _ _ w
theorem meetbox_spec (b d : Bx) (w : World) : Calls Tryz.prog 116 #[b.v, d.v] w fun e w' => e = .returned (mtx b d).v ∧ Below w.heap.size w w' := by
  rw [← meet_v]; exact Box.meet_spec _ _ _ _ _ _ _ _ w
theorem okB_pts (l : List Pt) : Pts.okB (pX l) (pY l) l.length = ptsB l := by
  cases h : ptsB l
  · rw [ptsB, List.all_eq_false] at h
    obtain ⟨p, hp, hb⟩ := h
    obtain ⟨k, hk, rfl⟩ := List.getElem_of_mem hp
    have e : l.getD k (0, 0) = l[k] := by simp [List.getD, List.getElem?_eq_getElem hk]
    exact Pts.okB_bad hk (by simp only [pX, pY, e]; simpa using hb)
  · refine Pts.okB_good fun i hi => ?_
    rw [ptsB, List.all_eq_true] at h
    have e : l.getD i (0, 0) = l[i] := by simp [List.getD, List.getElem?_eq_getElem hi]
    simpa only [pX, pY, e] using h _ (List.getElem_mem hi)
theorem boxof_v (l : List Pt) : Pts.boxofV (pX l) (pY l) l.length = (pbx l).v := by
  unfold pbx
  by_cases h : ptsB l = true ∧ 0 < l.length
  · rw [if_pos h]; simp [Pts.boxofV, sel, okB_pts, h.1, h.2, Bx.v]
  · rw [if_neg h]
    by_cases h1 : ptsB l = true
    · have h2 : l.length = 0 := by have : ¬ 0 < l.length := fun h2 => h ⟨h1, h2⟩; omega
      rw [h2]; simp [Pts.boxofV, sel, Bx.v]
    · have h1 : ptsB l = false := by simpa using h1
      simp [Pts.boxofV, sel, okB_pts, h1, Bx.v]
theorem boxof_impl_at (w : World) (a : Option Addr) (c : Nat) (l : List Pt) (h0 : 0 < l.length) (hn : l.length ≤ 1048576) (h : PathAt w a l) :
    Calls Tryz.prog 138 #[.slice a l.length c] w fun e w' => e = .returned (pbx l).v ∧ Below w.heap.size w w' := by
  rcases h with rfl | ⟨g, rfl, hg, hc⟩
  · simp at h0
  · rw [← boxof_v]
    exact Pts.boxof_impl g l.length c (pX l) (pY l) w hn hg hc
theorem boxof_spec_at (w : World) (a : Option Addr) (c : Nat) (l : List Pt) (h0 : 0 < l.length) (hn : l.length ≤ 1048576) (h : PathAt w a l) :
    Calls Tryz.prog 117 #[.slice a l.length c] w fun e w' => e = .returned (pbx l).v ∧ Below w.heap.size w w' := by
  rcases h with rfl | ⟨g, rfl, hg, hc⟩
  · simp at h0
  · rw [← boxof_v]
    exact Pts.boxof_spec g l.length c (pX l) (pY l) w hn hg hc
theorem box_path (w : World) (a : Option Addr) (c : Nat) (l : List Pt) (h0 : 0 < l.length) (hn : l.length ≤ 1048576) (h : PathAt w a l) :
    Calls Tryz.prog 131 #[.slice a l.length c] w fun e w' => e = .returned (pbx l).v ∧ Below w.heap.size w w' := by
  have HP := Lib.hid (And.intro h (And.intro h0 hn))
  obtain ⟨b, hb⟩ : ∃ b, pbx l = b := ⟨_, rfl⟩
  have HC : Hid (∀ W, PathAt W a l → Calls Tryz.prog 138 #[.slice a l.length c] W fun e w' => e = .returned (.agg #[.int .i64 b.x0, .int .i64 b.y0, .int .i64 b.x1, .int .i64 b.y1]) ∧ Below W.heap.size W w') := Lib.hid (fun W h => hb ▸ boxof_impl_at W a c l HP.out.2.1 HP.out.2.2 h)
  rw [hb]
  clear hb h h0 hn
  unfold Bx.v
  have HP := Lib.hid (HP.out.1.on (show Below w.heap.size w (w.alloc (.cells #[.int .i64 0, .int .i64 0, .int .i64 0, .int .i64 0] 51)) from by go_grown))
  go_enter Tryz.func131, Tryz.ntmps131
  go_wp2_with fail
  ((with_reducible refine (HC.out _ HP.out).mono ?_); rintro e w1 ⟨rfl, bb⟩)
  have hB := on_of (W := w) (by go_grown) bb
  obtain ⟨hc, hf⟩ := bcell bb
  have hz : w.heap.size < w1.heap.size := (by have := bb.size; (try simp at this); omega)
  clear bb
  go_wp2
  refine bodyPost_ret (by simp [results, Tryz.results131, go_sem, *]; try rfl) rfl ?_
  exact ⟨rfl, by go_grown⟩
theorem page_box (w : World) : Calls Tryz.prog 132 #[] w fun e w' => e = .returned pgx.v ∧ Below w.heap.size w w' := by
  go_enter Tryz.func132, Tryz.ntmps132
  go_wp2
  refine bodyPost_ret (by simp [results, Tryz.results132, go_sem, *]; try rfl) rfl ?_
  exact ⟨rfl, by go_grown⟩
theorem page_full (w : World) : Calls Tryz.prog 100 #[] w fun e w' => e = .returned pgx.v ∧ Below w.heap.size w w' := by
  go_enter Tryz.func100, Tryz.ntmps100
  go_wp2
  refine bodyPost_ret (by simp [results, Tryz.results100, go_sem, *]; try rfl) rfl ?_
  exact ⟨rfl, by go_grown⟩
def Bx.mv (b : Bx) (dx dy : Int) : Bx := ⟨IntKind.i64.wrap (b.x0 + dx), IntKind.i64.wrap (b.y0 + dy), IntKind.i64.wrap (b.x1 + dx), IntKind.i64.wrap (b.y1 + dy)⟩
theorem fig_of (w : World) (a : Option Addr) (n c : Nat) (g x0 y0 x1 y1 : Int) :
    Calls Tryz.prog 119 #[.agg #[.slice a n c, .int .i64 g, .int .i64 x0, .int .i64 y0, .int .i64 x1, .int .i64 y1]] w fun e w' => e = .returned (.agg #[.slice a n c, .int .i64 g, .int .i64 x0, .int .i64 y0, .int .i64 x1, .int .i64 y1]) ∧ Below w.heap.size w w' := by
  go_enter Tryz.func119, Tryz.ntmps119
  go_wp2
  refine bodyPost_ret (by simp [results, Tryz.results119, go_sem, *]; try rfl) rfl ?_
  exact ⟨rfl, by go_grown⟩
end Go.Proofs.YtbdjnfnphilklaaGreat.Ins
namespace Go.Proofs.YtbdjnfnphilklaaGreat.Ins
open Go.ChangeShapes Go.WideShapes Go.ChangeAt Go.RowKit
open Kit Point Slabs Draw
set_option linter.unusedVariables false
set_option linter.unusedSimpArgs false
set_option linter.unnecessarySimpa false
def Shp (l : List Pt) : Prop := ∀ p ∈ l, InPage p.1 ∧ InPage p.2
theorem shp_snoc {l : List Pt} {x y : Int} (h : Shp l) (hx : InPage x) (hy : InPage y) : Shp (l ++ [(x, y)]) := by
  intro p hp
  rcases List.mem_append.1 hp with h1 | h1
  · exact h p h1
  · rw [List.mem_singleton.1 h1]; exact ⟨hx, hy⟩
theorem shp_ok {l : List Pt} (h : Shp l) (h8 : l.length ≤ 8) : pathB l = true := by
  have : ptsB l = true := by
    rw [ptsB, List.all_eq_true]
    intro p hp
    have := h p hp
    unfold InPage at this
    simp [pokB, inB]; omega
  simp [pathB, this, h8]
theorem below4 {r : Int} (h : Within 4 r) : 0 ≤ r ∧ r ≤ 3 := by obtain ⟨h0, h1, _⟩ := h; have := h1 (by omega); omega
set_option maxHeartbeats 2000000 in
theorem path_on (W w0 w : World) (b : Nat) (a : Option Addr) (len cap : Nat) (z : List Int) (d : Drawn W a len cap z b w0 w) :
    Calls Tryz.prog 99 #[.pointer (some ⟨b, 0, none⟩)] w fun e w' => ∃ (v : Value) (l : List Pt), e = .returned v ∧ 3 ≤ l.length ∧ l.length ≤ 6 ∧ Shp l ∧ w'.ownsRow w.heap.size 110 2 v l.length (cellsP l) ∧ Drawn W a len cap z b w0 w' := by
  obtain ⟨i0, hi0, hz0, hz1, hz2⟩ := info_parts info_pt8
  have D := (d.alloc (.cells #[] 110)).1.same
  have D0 := d.1.same.alloc (.cells #[] 110)
  have hbl := d.1.here
  have hW := Nat.le_trans d.1.far (Nat.le_of_lt d.1.here)
  have ho0 := World.ownsRow_made w #[] (e := 110) (size := 2) 0 (Nat.le_refl _) (by decide) (by simp)
  have HD := Lib.hid (And.intro d ho0)
  clear d ho0
  go_enter Tryz.func99, Tryz.ntmps99
  go_wp2_with fail
  (refine (below_on W _ _ b a len cap z 4 D).mono ?_; rintro e w1 ⟨r, hr, rfl, d1⟩)
  have hr4 := below4 hr
  have hown := HD.out.2.kept d1.2 (.inr fun e => by simp [Value.ownBlock] at e; omega)
  have dA := D0.trans d1
  have HA := Lib.hid (And.intro hown dA)
  have hs1 : w.heap.size ≤ w1.heap.size := by have := dA.2.size; omega
  obtain ⟨t, rfl⟩ : ∃ t : Nat, r = (t : Int) := ⟨r.toNat, by omega⟩
  clear hown dA d1 D D0 hr
  go_wp2
  go_loopw [3, 5] (fun v i wr => ∃ l : List Pt, l.length ≤ 3 + t ∧ i = .int .i64 (l.length : Int) ∧ Hid (Shp l) ∧ wr.ownsRow w.heap.size 110 2 v l.length (cellsP l) ∧ w.heap.size ≤ wr.heap.size ∧ Drawn W a len cap z b w wr) (fun _ i _ => 3 + t - (intOf i).toNat)
  case atStart => exact ⟨[], by simp, rfl, Lib.hid (by intro p hp; simp at hp), HA.out.1, hs1, HA.out.2⟩
  case round =>
    obtain ⟨l, hk, rfl, hX, hown, hws, hd⟩ := hrel
    obtain ⟨k, hlk⟩ : ∃ k, l.length = k := ⟨_, rfl⟩
    have HK := Lib.hid hlk
    rw [hlk] at hk hown ⊢
    clear hlk
    by_cases hlt : k < 3 + t
    · have hlt' : (k : Int) < 3 + (t : Int) := by omega
      have hdS := hd.1.same
      have HH := Lib.hid (And.intro hown hd)
      clear hown hd
      go_wp2_with fail
      (refine (point_on W _ _ b a len cap z hdS).mono ?_; rintro e w2 ⟨x, y, hx, hy, rfl, d1⟩)
      have hown1 := HH.out.1.kept d1.2 (.inr fun e => by have := (HH.out.1.lt _ e).1; omega)
      have hd1 := HH.out.2.trans d1
      have hsz1 := d1.2.size
      have HY := Lib.hid (And.intro (shp_snoc hX.out hx hy) (And.intro hown1 hd1))
      have hown1' := hown1.alloc (.cells #[.int .i64 x, .int .i64 y] 110)
      clear hx hy hown1 hd1 d1 hdS
      go_wp2_with (at_builtin; refine wpList_append_own _ rfl _ _ 50 rfl w.heap.size 110 i0 (.agg #[.int .i64 0, .int .i64 0]) 2 16 Tryz.underlying50 hi0 hz0 hz1 hz2 rfl (by decide) _ _ _ rfl (hown1'.alloc _) ⟨w2.heap.size + 1, 0, none⟩ 1 1 [.int .i64 x, .int .i64 y] rfl rfl ?c1 ?c2 ?c3 ?c4 ?c5 ?_)
      case c1 => exact World.news_of_block (cs := #[.int .i64 x, .int .i64 y]) (t := 110) (fr := (0, 0)) (by have := heap_alloc_new (w2.alloc (.cells #[.int .i64 x, .int .i64 y] 110)) (.cells #[.int .i64 x, .int .i64 y] 110); simpa using this)
      case c2 => simp [Value.oneCell']
      case c3 => unfold maxLen; omega
      case c4 => omega
      case c5 => simp; omega
      intro v2 w3 hown2 hgrow _
      have hd2 := ((HY.out.2.2.alloc (.cells #[.int .i64 x, .int .i64 y] 110)).alloc (.cells #[.int .i64 x, .int .i64 y] 110)).grown hgrow (fun q hq => by have := (HY.out.2.1.lt q hq).1; omega)
      have hws2 : w.heap.size ≤ w3.heap.size := by have := hgrow.size; simp at this; omega
      have hrel2 : w3.ownsRow w.heap.size 110 2 v2 (l ++ [(x, y)]).length (cellsP (l ++ [(x, y)])) := by rw [cellsP_snoc, List.length_append, HK.out]; exact hown2
      have HZ := Lib.hid (And.intro hrel2 hd2)
      clear hown2 hown1' hrel2 hd2 hgrow
      go_wp2
      go_roundw
      case rel => exact ⟨l ++ [(x, y)], by simp [HK.out]; omega, by rw [List.length_append, HK.out]; go_num, Lib.hid HY.out.1, HZ.out.1, hws2, HZ.out.2⟩
      case measure => simp [intOf]; omega
    · obtain rfl : k = 3 + t := by omega
      have HX := Lib.hid (And.intro hown (HD.out.1.trans hd))
      clear hown hd
      go_wp2
      go_ret
      exact ⟨_, l, rfl, by rw [HK.out]; omega, by rw [HK.out]; omega, hX.out, by rw [HK.out]; exact HX.out.1, HX.out.2⟩
theorem cellsP_get : ∀ (l : List Pt) (i : Nat) (h : i < l.length), (cellsP l)[i * 2]? = some (.int .i64 l[i].1) ∧ (cellsP l)[i * 2 + 1]? = some (.int .i64 l[i].2)
  | [], i, h => by simp at h
  | p :: l, 0, h => by simp [cellsP]
  | p :: l, i + 1, h => by
    have := cellsP_get l i (by simpa using h)
    have e : cellsP (p :: l) = .int .i64 p.1 :: .int .i64 p.2 :: cellsP l := by simp [cellsP]
    rw [e, show (i + 1) * 2 = i * 2 + 1 + 1 by omega]
    simpa using this
theorem path_of_owns {w : World} {base : Nat} {e : TypeId} {v : Value} {l : List Pt} (h : w.ownsRow base e 2 v l.length (cellsP l)) : ∃ a c, v = .slice a l.length c ∧ PathAt w a l := by
  rcases h.2 with ⟨hv, h0⟩ | ⟨g, cap, cur, hv, hb, hg, _⟩
  · exact ⟨none, 0, by rw [hv, h0], .inl (List.eq_nil_of_length_eq_zero h0)⟩
  · refine ⟨_, _, hv, .inr ⟨g, rfl, (Array.getElem?_eq_some_iff.1 hg).1, fun i hi => ?_⟩⟩
    have hadd : ∀ j, (⟨g, 0, none⟩ : Addr).add j = ⟨g, j, none⟩ := fun j => by unfold Addr.add; split <;> simp_all
    have c := cellsP_get l i hi
    rw [getp l hi] at c
    have h1 := World.ownsRow.cells h (g := g) (by rw [hv]; rfl) (i * 2) _ c.1
    have h2 := World.ownsRow.cells h (g := g) (by rw [hv]; rfl) (i * 2 + 1) _ c.2
    rw [hadd] at h1 h2
    exact ⟨h1, h2⟩
end Go.Proofs.YtbdjnfnphilklaaGreat.Ins
