/-
  Texts of this seat, laid together: Box, Tg9, Ck9, Tg9b
-/
import Derived.BigQuiet
import Derived.Deep.QuietTactic
import Derived.Deep.RegionHeld3
import Derived.Lib.LazyBuf
import Derived.Test.YtbdjnfnphilklaaP06
import Derived.Test.YtbdjnfnphilklaaP21
import Derived.Test.YtbdjnfnphilklaaP04
import Derived.Test.YtbdjnfnphilklaaP17
namespace Go.Proofs.Ytbdjnfnphilklaa.Box
open Go.ChangeShapes Go.WideShapes Go.ChangeAt Go.RowKit
open Kit Point
set_option linter.unusedVariables false
set_option linter.unusedSimpArgs false
set_option linter.unnecessarySimpa false
attribute [local go_sem ↓] run_mx run_mn
def dots (x0 y0 x1 y1 : Int) : Int := if bokB x0 y0 x1 y1 = true then (x1 - x0) * (y1 - y0) else 0
theorem area_le {a b : Int} (h0 : 0 ≤ a) (h1 : a ≤ 400) (h2 : 0 ≤ b) (h3 : b ≤ 400) : 0 ≤ a * b ∧ a * b ≤ 160000 :=
  ⟨Int.mul_nonneg h0 h2, Int.le_trans (Int.mul_le_mul h1 h3 h2 (by omega)) (by omega)⟩
set_option maxHeartbeats 400000 in
theorem dots_impl (x0 y0 x1 y1 : Int) (w : World) : Calls Try.prog 98 #[.agg #[.int .i64 x0, .int .i64 y0, .int .i64 x1, .int .i64 y1]] w fun e w' => e = .returned (.int .i64 (dots x0 y0 x1 y1)) ∧ Below w.heap.size w w' := by
  cases h : bokB x0 y0 x1 y1
  · go_enter Try.func98, Try.ntmps98
    go_wp2_with (go_at_call 97; refine (bok_impl _ _ _ _ _).mono ?_; rintro e w' ⟨rfl, hb⟩; have hB := on_of (W := w) (by go_grown) hb; obtain ⟨hc, hf⟩ := bcell hb; have hz : w.heap.size < w'.heap.size := (by have := hb.size; (try simp at this); omega); clear hb)
    go_ret
    exact ⟨ret_int (by simp [dots, h]), by go_grown⟩
  · obtain ⟨b0, b1, b2, b3, b4, b5⟩ := bok_true h
    obtain ⟨a0, a1⟩ := area_le (a := x1 - x0) (b := y1 - y0) (by omega) (by omega) (by omega) (by omega)
    go_enter Try.func98, Try.ntmps98
    go_wp2_with (go_at_call 97; refine (bok_impl _ _ _ _ _).mono ?_; rintro e w' ⟨rfl, hb⟩; have hB := on_of (W := w) (by go_grown) hb; obtain ⟨hc, hf⟩ := bcell hb; have hz : w.heap.size < w'.heap.size := (by have := hb.size; (try simp at this); omega); clear hb)
    go_ret
    exact ⟨ret_int (by simp [dots, h]), by go_grown⟩
def DotsOf (x0 y0 x1 y1 n : Int) : Prop := (n = 0 ∧ ¬ (x0 < x1 ∧ y0 < y1)) ∨ (1 ≤ n ∧ x0 < x1 ∧ y0 < y1)
theorem dots_of {x0 y0 x1 y1 : Int} (h0 : -200 ≤ x0 ∧ x0 ≤ 200) (h1 : -200 ≤ y0 ∧ y0 ≤ 200) (h2 : -200 ≤ x1 ∧ x1 ≤ 200) (h3 : -200 ≤ y1 ∧ y1 ≤ 200) : DotsOf x0 y0 x1 y1 (dots x0 y0 x1 y1) := by
  unfold dots DotsOf
  by_cases h : x0 < x1 ∧ y0 < y1
  · have hb : bokB x0 y0 x1 y1 = true := by simp [bokB, inB]; omega
    rw [if_pos hb]
    have := Int.mul_pos (show 0 < x1 - x0 by omega) (show 0 < y1 - y0 by omega)
    exact .inr ⟨by omega, h⟩
  · refine .inl ⟨?_, h⟩
    by_cases hb : bokB x0 y0 x1 y1 = true
    · rw [if_pos hb]
      obtain ⟨_, _, _, _, a, b⟩ := bok_true hb
      by_cases hx : x0 = x1
      · subst hx; simp
      · have : y0 = y1 := by omega
        subst this; simp
    · rw [if_neg hb]
theorem dots_impl' (x0 y0 x1 y1 : Int) (w : World) (h : (-200 ≤ x0 ∧ x0 ≤ 200) ∧ (-200 ≤ y0 ∧ y0 ≤ 200) ∧ (-200 ≤ x1 ∧ x1 ≤ 200) ∧ (-200 ≤ y1 ∧ y1 ≤ 200)) : Calls Try.prog 98 #[.agg #[.int .i64 x0, .int .i64 y0, .int .i64 x1, .int .i64 y1]] w fun e w' => ∃ n : Int, DotsOf x0 y0 x1 y1 n ∧ e = .returned (.int .i64 n) ∧ Below w.heap.size w w' :=
  (dots_impl _ _ _ _ w).mono fun _ _ ⟨he, hb⟩ => ⟨_, dots_of h.1 h.2.1 h.2.2.1 h.2.2.2, he, hb⟩
def meetB (x0 y0 x1 y1 u0 v0 u1 v1 : Int) : Bool := bokB x0 y0 x1 y1 && bokB u0 v0 u1 v1 && decide (mx x0 u0 < mn x1 u1 ∧ mx y0 v0 < mn y1 v1)
def meetV (x0 y0 x1 y1 u0 v0 u1 v1 : Int) : Value :=
  .agg #[.int .i64 (sel (meetB x0 y0 x1 y1 u0 v0 u1 v1) (mx x0 u0)), .int .i64 (sel (meetB x0 y0 x1 y1 u0 v0 u1 v1) (mx y0 v0)), .int .i64 (sel (meetB x0 y0 x1 y1 u0 v0 u1 v1) (mn x1 u1)), .int .i64 (sel (meetB x0 y0 x1 y1 u0 v0 u1 v1) (mn y1 v1))]
theorem meet_no {x0 y0 x1 y1 u0 v0 u1 v1 : Int} (h : bokB x0 y0 x1 y1 = false ∨ bokB u0 v0 u1 v1 = false ∨ ¬ (mx x0 u0 < mn x1 u1 ∧ mx y0 v0 < mn y1 v1)) : Ending.returned (.agg #[.int .i64 0, .int .i64 0, .int .i64 0, .int .i64 0]) = .returned (meetV x0 y0 x1 y1 u0 v0 u1 v1) := by
  have hm : meetB x0 y0 x1 y1 u0 v0 u1 v1 = false := by
    rcases h with h | h | h
    · simp [meetB, h]
    · simp [meetB, h]
    · simp only [meetB, Bool.and_eq_false_iff, decide_eq_false_iff_not]; exact .inr h
  simp [meetV, hm, sel]
theorem meet_yes {x0 y0 x1 y1 u0 v0 u1 v1 : Int} (h1 : bokB x0 y0 x1 y1 = true) (h2 : bokB u0 v0 u1 v1 = true) (h3 : mx x0 u0 < mn x1 u1 ∧ mx y0 v0 < mn y1 v1) : Ending.returned (.agg #[.int .i64 (mx x0 u0), .int .i64 (mx y0 v0), .int .i64 (mn x1 u1), .int .i64 (mn y1 v1)]) = .returned (meetV x0 y0 x1 y1 u0 v0 u1 v1) := by
  have hm : meetB x0 y0 x1 y1 u0 v0 u1 v1 = true := by
    simp only [meetB, h1, h2, Bool.true_and, decide_eq_true_eq]; exact h3
  simp [meetV, hm, sel]
set_option maxHeartbeats 2000000 in
theorem meet_impl (x0 y0 x1 y1 u0 v0 u1 v1 : Int) (w : World) : Calls Try.prog 67 #[.agg #[.int .i64 x0, .int .i64 y0, .int .i64 x1, .int .i64 y1], .agg #[.int .i64 u0, .int .i64 v0, .int .i64 u1, .int .i64 v1]] w fun e w' => e = .returned (meetV x0 y0 x1 y1 u0 v0 u1 v1) ∧ Below w.heap.size w w' := by
  cases h1 : bokB x0 y0 x1 y1 <;> cases h2 : bokB u0 v0 u1 v1
  · go_enter Try.func67, Try.ntmps67
    go_wp2_with (go_at_call 97; refine (bok_impl _ _ _ _ _).mono ?_; rintro e w' ⟨rfl, hb⟩; have hB := on_of (W := w) (by go_grown) hb; obtain ⟨hc, hf⟩ := bcell hb; have hz : w.heap.size < w'.heap.size := (by have := hb.size; (try simp at this); omega); have hz1 : w.heap.size + 1 < w'.heap.size := (by have := hb.size; (try simp at this); omega); have hz2 : w.heap.size + 1 + 1 < w'.heap.size := (by have := hb.size; (try simp at this); omega); clear hb)
    refine bodyPost_ret (by simp [results, Try.results67, go_sem, hc, hz2]; try rfl) rfl ?_
    exact ⟨meet_no (.inl h1), by go_grown⟩
  · go_enter Try.func67, Try.ntmps67
    go_wp2_with (go_at_call 97; refine (bok_impl _ _ _ _ _).mono ?_; rintro e w' ⟨rfl, hb⟩; have hB := on_of (W := w) (by go_grown) hb; obtain ⟨hc, hf⟩ := bcell hb; have hz : w.heap.size < w'.heap.size := (by have := hb.size; (try simp at this); omega); have hz1 : w.heap.size + 1 < w'.heap.size := (by have := hb.size; (try simp at this); omega); have hz2 : w.heap.size + 1 + 1 < w'.heap.size := (by have := hb.size; (try simp at this); omega); clear hb)
    refine bodyPost_ret (by simp [results, Try.results67, go_sem, hc, hz2]; try rfl) rfl ?_
    exact ⟨meet_no (.inl h1), by go_grown⟩
  · go_enter Try.func67, Try.ntmps67
    go_wp2_with (go_at_call 97; refine (bok_impl _ _ _ _ _).mono ?_; rintro e w' ⟨rfl, hb⟩; have hB := on_of (W := w) (by go_grown) hb; obtain ⟨hc, hf⟩ := bcell hb; have hz : w.heap.size < w'.heap.size := (by have := hb.size; (try simp at this); omega); have hz1 : w.heap.size + 1 < w'.heap.size := (by have := hb.size; (try simp at this); omega); have hz2 : w.heap.size + 1 + 1 < w'.heap.size := (by have := hb.size; (try simp at this); omega); clear hb)
    refine bodyPost_ret (by simp [results, Try.results67, go_sem, *]; try rfl) rfl ?_
    exact ⟨meet_no (.inr (.inl h2)), by go_grown⟩
  · have r1 := bok_true h1
    have r2 := bok_true h2
    have m0 := mx_in (a := x0) (b := u0) (by omega) (by omega)
    have m1 := mx_in (a := y0) (b := v0) (by omega) (by omega)
    have m2 := mn_in (a := x1) (b := u1) (by omega) (by omega)
    have m3 := mn_in (a := y1) (b := v1) (by omega) (by omega)
    go_enter Try.func67, Try.ntmps67
    go_wp2_with (first | (go_at_call 97; refine (bok_impl _ _ _ _ _).mono ?_; rintro e w' ⟨rfl, hb⟩; have hB := on_of (W := w) (by go_grown) hb; obtain ⟨hc, hf⟩ := bcell hb; have hz : w.heap.size < w'.heap.size := (by have := hb.size; (try simp at this); omega); have hz1 : w.heap.size + 1 < w'.heap.size := (by have := hb.size; (try simp at this); omega); have hz2 : w.heap.size + 1 + 1 < w'.heap.size := (by have := hb.size; (try simp at this); omega); clear hb) | (go_at_call 98; refine (dots_impl' _ _ _ _ _ ⟨m0, m1, m2, m3⟩).mono ?_; rintro e w' ⟨n, hn, rfl, hb⟩; have hB := on_of (W := w) (by go_grown) hb; obtain ⟨hc, hf⟩ := bcell hb; have hz : w.heap.size + 1 + 1 < w'.heap.size := (by have := hb.size; (try simp at this); omega); have hz1 := hb.size; clear hb; rcases hn with ⟨rfl, hn⟩ | ⟨hn1, hn⟩))
    all_goals refine bodyPost_ret (by simp [results, Try.results67, go_sem, *]; try rfl) rfl ?_
    all_goals first | exact ⟨meet_no (.inr (.inr hn)), by go_grown⟩ | exact ⟨meet_yes h1 h2 hn, by go_grown⟩
def MeetOf (x0 y0 x1 y1 u0 v0 u1 v1 a b c d : Int) : Prop :=
  (a = mx x0 u0 ∧ b = mx y0 v0 ∧ c = mn x1 u1 ∧ d = mn y1 v1 ∧ a < c ∧ b < d ∧ bokB x0 y0 x1 y1 = true ∧ bokB u0 v0 u1 v1 = true) ∨
  (a = 0 ∧ b = 0 ∧ c = 0 ∧ d = 0 ∧ (bokB x0 y0 x1 y1 = false ∨ bokB u0 v0 u1 v1 = false ∨ ¬ (mx x0 u0 < mn x1 u1 ∧ mx y0 v0 < mn y1 v1)))
theorem meet_of (x0 y0 x1 y1 u0 v0 u1 v1 : Int) : ∃ a b c d : Int, MeetOf x0 y0 x1 y1 u0 v0 u1 v1 a b c d ∧ meetV x0 y0 x1 y1 u0 v0 u1 v1 = .agg #[.int .i64 a, .int .i64 b, .int .i64 c, .int .i64 d] := by
  by_cases h : bokB x0 y0 x1 y1 = true ∧ bokB u0 v0 u1 v1 = true ∧ (mx x0 u0 < mn x1 u1 ∧ mx y0 v0 < mn y1 v1)
  · obtain ⟨h1, h2, h3⟩ := h
    have := meet_yes h1 h2 h3
    exact ⟨_, _, _, _, .inl ⟨rfl, rfl, rfl, rfl, h3.1, h3.2, h1, h2⟩, by injection this with this; exact this.symm⟩
  · have h' : bokB x0 y0 x1 y1 = false ∨ bokB u0 v0 u1 v1 = false ∨ ¬ (mx x0 u0 < mn x1 u1 ∧ mx y0 v0 < mn y1 v1) := by
      cases h1 : bokB x0 y0 x1 y1
      · exact .inl rfl
      · cases h2 : bokB u0 v0 u1 v1
        · exact .inr (.inl rfl)
        · exact .inr (.inr fun h3 => h ⟨h1, h2, h3⟩)
    have := meet_no h'
    exact ⟨_, _, _, _, .inr ⟨rfl, rfl, rfl, rfl, h'⟩, by injection this with this; exact this.symm⟩
theorem meet_impl' (x0 y0 x1 y1 u0 v0 u1 v1 : Int) (w : World) : Calls Try.prog 67 #[.agg #[.int .i64 x0, .int .i64 y0, .int .i64 x1, .int .i64 y1], .agg #[.int .i64 u0, .int .i64 v0, .int .i64 u1, .int .i64 v1]] w fun e w' => ∃ a b c d : Int, MeetOf x0 y0 x1 y1 u0 v0 u1 v1 a b c d ∧ e = .returned (.agg #[.int .i64 a, .int .i64 b, .int .i64 c, .int .i64 d]) ∧ Below w.heap.size w w' :=
  (meet_impl _ _ _ _ _ _ _ _ w).mono fun _ _ ⟨he, hb⟩ => by
    obtain ⟨a, b, c, d, hm, hv⟩ := meet_of x0 y0 x1 y1 u0 v0 u1 v1
    exact ⟨a, b, c, d, hm, by rw [he, hv], hb⟩
end Go.Proofs.Ytbdjnfnphilklaa.Box
namespace Go.Proofs.Ytbdjnfnphilklaa.Ins
open Go.ChangeShapes Go.WideShapes Go.ChangeAt Go.RowKit Go.Shelf
open Kit
set_option linter.unusedVariables false
set_option linter.unusedSimpArgs false
set_option linter.unnecessarySimpa false
def Cols (w : World) (B : Nat) (v : Value) (zs : List Int) : Prop :=
  (v = .slice none 0 0 ∧ zs = []) ∨ ∃ (g c : Nat) (f : Nat → Value), v = .slice (some ⟨g, 0, none⟩) zs.length c ∧ B ≤ g ∧ zs.length ≤ c ∧ c ≤ maxLen ∧ w.rowIs g 3 c f ∧ ∀ j, j < zs.length → f j = .int .i64 (zs.getD j 0)
theorem Cols.keep {w w' : World} {B : Nat} {v : Value} {zs : List Int} (h : Cols w B v zs) (hb : Below w.heap.size w w') : Cols w' B v zs := by
  rcases h with h | ⟨g, c, f, h1, h2, h3, h4, h5, h6⟩
  · exact .inl h
  · exact .inr ⟨g, c, f, h1, h2, h3, h4, h5.of_block (hb.block g h5.lt), h6⟩
theorem Cols.nil (w : World) (B : Nat) : Cols w B (.slice none 0 0) [] := .inl ⟨rfl, rfl⟩
theorem Cols.size {w : World} {B : Nat} {v : Value} {zs : List Int} (h : Cols w B v zs) : ∃ a c, v = .slice a zs.length c := by
  rcases h with ⟨h, rfl⟩ | ⟨g, c, f, h1, _⟩
  · exact ⟨_, _, h⟩
  · exact ⟨_, _, h1⟩
theorem setCells_below (g : Nat) {B : Nat} {a : World} (hb : B ≤ g) (vs : List Value) (o : Nat) (w : World) (h : Below B a w) : Below B a (w.setCells g o vs) := Go.below_setCells hb vs o w h
theorem getD_map_int (zs : List Int) (j : Nat) (h : j < zs.length) : (zs.map (Value.int .i64))[j]? = some (.int .i64 (zs.getD j 0)) := by
  rw [List.getElem?_map, List.getElem?_eq_getElem h]; simp [List.getD, h]
theorem ins_get (zs : List Int) (x : Int) {i : Nat} (hi : i ≤ zs.length) (j : Nat) (hj : j < zs.length + 1) :
    (zs.take i ++ x :: zs.drop i).getD j 0 = if j < i then zs.getD j 0 else if j = i then x else zs.getD (j - 1) 0 := by
  have hl : (zs.take i).length = i := by rw [List.length_take]; omega
  by_cases h1 : j < i
  · rw [if_pos h1]
    simp only [List.getD]
    rw [List.getElem?_append_left (by omega), List.getElem?_take, if_pos h1]
  · rw [if_neg h1]
    simp only [List.getD]
    rw [List.getElem?_append_right (by omega), hl]
    by_cases h2 : j = i
    · subst h2; simp
    · rw [if_neg h2]
      obtain ⟨m, rfl⟩ : ∃ m, j = i + (m + 1) := ⟨j - i - 1, by omega⟩
      rw [show i + (m + 1) - i = m + 1 by omega, List.getElem?_cons_succ, List.getElem?_drop]
      congr 2
theorem ins_len (zs : List Int) (x : Int) {i : Nat} (hi : i ≤ zs.length) : (zs.take i ++ x :: zs.drop i).length = zs.length + 1 := by
  rw [List.length_append, List.length_cons, List.length_take, List.length_drop]; omega
theorem zero_size (n : Nat) : (Builtin.zeroCells (Value.int .i64 0).cells n).size = n := by simp [Builtin.zeroCells, Value.cells]
theorem cols_new (w : World) {B G n : Nat} (ys : List Int) (A : Array Value) (hA : A.size = G) (hn : ys.length = n) (hG : n ≤ G) (hm : G ≤ maxLen) (hB : B ≤ w.heap.size) (h : ∀ j, j < ys.length → A[j]? = some (.int .i64 (ys.getD j 0))) :
    Cols (w.alloc (.cells A 3)) B (.slice (some ⟨w.heap.size, 0, none⟩) n G) ys := by
  refine .inr ⟨w.heap.size, G, fun j => (A[j]?).getD default, by rw [hn], hB, by omega, hm, ?_, fun j hj => by simp [h j hj]⟩
  have := World.rowIs_alloc w A 3 (fun j => (A[j]?).getD default) (fun i hi => by rw [Array.getElem?_eq_getElem hi]; rfl)
  rwa [hA] at this
set_option maxHeartbeats 1000000 in
theorem ins_impl (w : World) (B : Nat) (v : Value) (zs : List Int) (x : Int) (i vb : Nat) (hv : Cols w B v zs) (hB : B ≤ w.heap.size) (hn : zs.length ≤ 1048576) (hi : i ≤ zs.length)
    (hvb : w.rowIs vb 3 1 (fun _ => .int .i64 x)) (hne : ∀ a n c, v = .slice (some a) n c → vb ≠ a.block) :
    Calls Try.prog 141 #[v, .int .i64 (i : Int), .slice (some ⟨vb, 0, none⟩) 1 1] w fun e w' => ∃ u, e = .returned u ∧ Cols w' B u (zs.take i ++ x :: zs.drop i) ∧ Below B w w' := by
  have hvs : ∀ j u, [Value.int .i64 x][j]? = some u → w.cell? ⟨vb, 0 + j, none⟩ = some u := fun j u hj => by
    have hj0 : j = 0 := by have := (List.getElem?_eq_some_iff.1 hj).1; simpa using this
    subst hj0
    simp at hj
    rw [← hj]; exact hvb.cell (by omega)
  have h1v : ∀ u ∈ [Value.int .i64 x], u.oneCell' = true := by simp [Value.oneCell']
  have h1c : ∀ u ∈ zs.map (Value.int .i64), u.oneCell' = true := by
    intro u hu; obtain ⟨z, _, rfl⟩ := List.mem_map.1 hu; rfl
  have hcl : (zs.map (Value.int .i64)).length = zs.length := List.length_map ..
  rcases hv with ⟨rfl, rfl⟩ | ⟨g, c, f, rfl, hg, hc, hm, hr, hf⟩
  · obtain rfl : i = 0 := by simpa using hi
    refine (Any2.slices_Insert_int_end_grow Try.laysNm221 none 0 0 vb 0 1 1 [] [.int .i64 x] w (by omega) (by omega) (by omega) (by omega) rfl rfl (fun _ => rfl) (fun a ha => by cases ha) hvs h1v).mono ?_
    rintro e w' ⟨rfl, rfl⟩
    have hGn := grownCap_ge w (0 + 1) 0 (Try.laysNm221_ren.t 3)
    have hGm := grownCap_le_maxLen w (0 + 1) 0 (Try.laysNm221_ren.t 3) (by unfold maxLen; omega)
    refine ⟨_, rfl, cols_new w.drew (n := 0 + 1) [x] _ ?_ rfl hGn hGm hB ?_, ((Below.refl B w).drew).alloc hB _⟩
    · rw [Array.size_append, zero_size]; show 1 + _ = _; omega
    · intro j hj
      have hj0 : j = 0 := by simpa using hj
      subst hj0
      rw [Array.getElem?_append_left (by simp)]; simp
  · have hcs : ∀ j u, (zs.map (Value.int .i64))[j]? = some u → w.cell? ⟨g, 0 + j, none⟩ = some u := fun j u hj => by
      have hjl : j < zs.length := by have := (List.getElem?_eq_some_iff.1 hj).1; simpa using this
      rw [getD_map_int zs j hjl] at hj
      rw [Nat.zero_add, hr.cell (show j < c by omega), hf j hjl]; exact hj
    have hne' : vb ≠ g := hne _ _ _ rfl
    have hml : c ≤ 9223372036854775807 := by unfold maxLen at hm; omega
    have hgl := hr.lt
    by_cases hin : i = zs.length
    · subst hin
      have hl := ins_len zs x (Nat.le_refl _)
      by_cases hroom : zs.length + 1 ≤ c
      · refine (Any2.slices_Insert_int_end_room Try.laysNm221 g 0 zs.length c vb 0 1 1 [.int .i64 x] w (by omega) hroom hml rfl (fun j hj => ?_) (fun j hj => hr.frozen _) hvs h1v).mono ?_
        · rw [hr.cell (by omega)]; rfl
        rintro e w' ⟨rfl, rfl⟩
        refine ⟨_, rfl, .inr ⟨g, c, _, by rw [hl], hg, by rw [hl]; exact hroom, hm, Go.rowIs_setCells _ _ _ _ hr, fun j hj => ?_⟩, setCells_below g hg _ _ _ (Below.refl _ _)⟩
        rw [hl] at hj
        rw [ins_get zs x (Nat.le_refl _) j hj]
        by_cases h1 : j < zs.length
        · rw [if_pos h1, if_neg (by simp; omega), hf j h1]
        · have e : j = zs.length := by omega
          subst e; simp
      · refine (Any2.slices_Insert_int_end_grow Try.laysNm221 (some ⟨g, 0, none⟩) zs.length c vb 0 1 1 (zs.map (Value.int .i64)) [.int .i64 x] w (by omega) hc (by omega) (by omega) hcl rfl (fun h => by cases h) (fun a ha j u hj => by cases ha; rw [Addr.add_lit]; exact hcs j u hj) hvs h1v).mono ?_
        rintro e w' ⟨rfl, rfl⟩
        have hGn := grownCap_ge w (zs.length + 1) c (Try.laysNm221_ren.t 3)
        have hGm := grownCap_le_maxLen w (zs.length + 1) c (Try.laysNm221_ren.t 3) (by unfold maxLen; omega)
        refine ⟨_, rfl, cols_new w.drew (n := zs.length + 1) _ _ ?_ hl hGn hGm hB ?_, ((Below.refl B w).drew).alloc hB _⟩
        · rw [Array.size_append, zero_size]; simp; omega
        · intro j hj
          rw [hl] at hj
          rw [Array.getElem?_append_left (by simp; omega), ins_get zs x (Nat.le_refl _) j hj]
          by_cases h1 : j < zs.length
          · rw [if_pos h1, List.getElem?_toArray, List.getElem?_append_left (by simpa using h1), getD_map_int zs j h1]
          · have e : j = zs.length := by omega
            subst e; simp
    · have hil : i < zs.length := by omega
      have hl := ins_len zs x hi
      have hdl : ((zs.map (Value.int .i64)).drop i).length = zs.length - i := by rw [List.length_drop, hcl]
      have hdg : ∀ j, i + 1 ≤ j → j < zs.length + 1 → ((zs.map (Value.int .i64)).drop i)[j - (i + 1)]? = some (.int .i64 (zs.getD (j - 1) 0)) := fun j h1 h2 => by
        rw [List.getElem?_drop, show i + (j - (i + 1)) = j - 1 by omega, getD_map_int zs _ (by omega)]
      by_cases hroom : zs.length + 1 ≤ c
      · have hsa : w.shape? vb = some (3, 1) := by obtain ⟨A, hA, hs, _⟩ := hvb; simp [World.shape?, hA, hs]
        have hsb : w.shape? g = some (3, c) := by obtain ⟨A, hA, hs, _⟩ := hr; simp [World.shape?, hA, hs]
        refine (Any2.slices_Insert_int_shift Try.laysNm221 g 0 zs.length c i vb 0 1 1 (zs.map (Value.int .i64)) [.int .i64 x] w hil (by omega) hroom hml hne' hcl rfl hcs (fun j hj => ?_) (fun j hj => hr.frozen _) hvs h1c h1v _ _ _ _ hsa hsb (by omega) (hvb.frozen _) (hvb.frozen _)).mono ?_
        · rw [hr.cell (by omega)]; rfl
        rintro e w' ⟨rfl, rfl⟩
        refine ⟨_, rfl, .inr ⟨g, c, _, by rw [hl], hg, by rw [hl]; exact hroom, hm, Go.rowIs_setCells _ _ _ _ (Go.rowIs_setCells _ _ _ _ hr.drew), fun j hj => ?_⟩, setCells_below g hg _ _ _ (setCells_below g hg _ _ _ (Below.refl B w).drew)⟩
        rw [hl] at hj
        rw [ins_get zs x hi j hj]
        simp only [List.length_singleton, hdl, Nat.zero_add]
        by_cases h1 : j < i
        · rw [if_pos h1, if_neg (by omega), if_neg (by omega), hf j (by omega)]
        · by_cases h2 : j = i
          · subst h2; simp
          · rw [if_neg h1, if_neg h2, if_neg (by omega), if_pos (by omega), hdg j (by omega) hj]; rfl
      · refine (Any2.slices_Insert_int_grow Try.laysNm221 g 0 zs.length c i vb 0 1 1 (zs.map (Value.int .i64)) [.int .i64 x] w hil (by omega) hc (by omega) (by omega) hcl rfl hcs hvs h1c h1v).mono ?_
        rintro e w' ⟨rfl, rfl⟩
        have hGn := grownCap_ge w (zs.length + 1) c (Try.laysNm221_ren.t 3)
        have hGm := grownCap_le_maxLen w (zs.length + 1) c (Try.laysNm221_ren.t 3) (by unfold maxLen; omega)
        have htl : ((zs.map (Value.int .i64)).take i).length = i := by rw [List.length_take, hcl]; omega
        have hsz : (((zs.map (Value.int .i64)).take i).toArray ++ Builtin.zeroCells (Value.int .i64 0).cells (zs.length + 1 - i) ++ Builtin.zeroCells (Value.int .i64 0).cells (grownCap w (zs.length + 1) c (Try.laysNm221_ren.t 3) - (zs.length + 1))).size = grownCap w (zs.length + 1) c (Try.laysNm221_ren.t 3) := by
          rw [Array.size_append, Array.size_append, zero_size, zero_size, List.size_toArray, htl]; omega
        generalize hRow : ((zs.map (Value.int .i64)).take i).toArray ++ Builtin.zeroCells (Value.int .i64 0).cells (zs.length + 1 - i) ++ Builtin.zeroCells (Value.int .i64 0).cells (grownCap w (zs.length + 1) c (Try.laysNm221_ren.t 3) - (zs.length + 1)) = ROW at *
        generalize grownCap w (zs.length + 1) c (Try.laysNm221_ren.t 3) = G at *
        have hr0 := World.rowIs_alloc w ROW 3 (fun j => (ROW[j]?).getD default) (fun i hi => by rw [Array.getElem?_eq_getElem hi]; rfl)
        rw [hsz] at hr0
        have hb0 : Below B w (w.alloc (.cells ROW 3)) := (Below.refl B w).alloc hB _
        refine ⟨_, rfl, .inr ⟨w.heap.size, G, _, by rw [hl], hB, by rw [hl]; exact hGn, hGm, Go.rowIs_setCells _ _ _ _ (Go.rowIs_setCells _ _ _ _ hr0.drew).drew, fun j hj => ?_⟩, setCells_below _ hB _ _ _ (setCells_below _ hB _ _ _ hb0.drew).drew⟩
        rw [hl] at hj
        rw [ins_get zs x hi j hj]
        simp only [List.length_singleton, hdl]
        by_cases h1 : j < i
        · rw [if_pos h1, if_neg (by omega), if_neg (by omega), ← hRow, Array.getElem?_append_left (by rw [Array.size_append, List.size_toArray, htl]; omega), Array.getElem?_append_left (by rw [List.size_toArray, htl]; exact h1), List.getElem?_toArray, List.getElem?_take, if_pos h1, getD_map_int zs j (by omega)]; rfl
        · by_cases h2 : j = i
          · subst h2; simp [show ¬ (j + 1 ≤ j) by omega]
          · rw [if_neg h1, if_neg h2, if_pos (by omega), hdg j (by omega) hj]; rfl
end Go.Proofs.Ytbdjnfnphilklaa.Ins
namespace Go.Proofs.Ytbdjnfnphilklaa.Ins
open Go.ChangeShapes Go.WideShapes Go.ChangeAt Go.RowKit Go.Shelf
open Kit
set_option linter.unusedVariables false
set_option linter.unusedSimpArgs false
set_option linter.unnecessarySimpa false
attribute [local go_sem] Oper.semAt_some
attribute [local go_sem ↓] run_mn
def KeepT (V V' : World) : Prop := ∀ (k : Nat) (c : Array Value) (t : TypeId) (z : Nat × Nat), V.heap[k]? = some (.cells c t z) → t ≠ 96 → t ≠ 93 → V'.heap[k]? = some (.cells c t z)
theorem KeepT.trans {X Y Z : World} (h : KeepT X Y) (k : KeepT Y Z) : KeepT X Z := fun i c t z hi h1 h2 => k i c t z (h i c t z hi h1 h2) h1 h2
theorem KeepT.refl (X : World) : KeepT X X := fun _ _ _ _ h _ _ => h
theorem KeepT.putObj (V : World) (l : Nat) (r : Loop) (o : Obj) (h : V.heap[l]? = some (.loop r)) : KeepT V (V.putObj l o) := fun i c t z hi _ _ => by
  refine (World.putObj_heap_other fun e => ?_).trans hi
  subst e; rw [h] at hi; cases hi
theorem KeepT.below {V V' : World} (h : Below V.heap.size V V') : KeepT V V' := fun i c t z hi _ _ => (h.block i (Array.getElem?_eq_some_iff.1 hi).1).trans hi
theorem KeepT.boxed {V V' : World} (h : KeepT V V') {B : Nat} {t : TypeId} {v : Value} (hb : Boxed V B t v) (h1 : t ≠ 96) (h2 : t ≠ 93) : Boxed V' B t v := h B _ t _ hb h1 h2
theorem KeepT.row {V V' : World} (h : KeepT V V') {b n : Nat} {t : TypeId} {f : Nat → Value} (hr : V.rowIs b t n f) (h1 : t ≠ 96) (h2 : t ≠ 93) : V'.rowIs b t n f := by
  obtain ⟨c, hb, hn, hc⟩ := hr
  exact ⟨c, h b c t _ hb h1 h2, hn, hc⟩
theorem range_part {m k : Nat} (h : k < m) : List.range m = List.range k ++ k :: (List.range m).drop (k + 1) := by
  have h1 : (List.range m).take k = List.range k := by rw [List.take_range]; congr 1; omega
  have h2 : (List.range m).drop k = k :: (List.range m).drop (k + 1) := by
    rw [List.drop_eq_getElem_cons (by simpa using h)]; simp
  rw [← h2, ← h1, List.take_append_drop]
theorem ownFrom_drew {β : Type} {B : Nat} {J : β → World → Prop} (h : OwnFrom B J) {s : β} {V : World} (hs : J s V) : J s V.drew :=
  h s V V.drew none hs ⟨rfl, rfl, rfl, Nat.le_refl _, fun _ _ _ => rfl⟩ (fun r e => by cases e)
theorem ownFrom_on {β : Type} {B : Nat} {J : β → World → Prop} (h : OwnFrom B J) {s : β} {V V' : World} (hs : J s V) (hb : Below V.heap.size V V') : J s V' :=
  h s V V' none hs ⟨hb.os, hb.tape, hb.output, hb.size, fun k hk _ => hb.block k hk⟩ (fun r e => by cases e)
set_option maxRecDepth 100000 in
set_option maxHeartbeats 2000000 in
theorem chunk_gives (b0 b1 g c m : Nat) (w : World) (h0 : Boxed w b0 27 (.slice (some ⟨g, 0, none⟩) (2 * m) c)) (h1 : Boxed w b1 3 (.int .i64 2)) (hc : 2 * m ≤ c) (hm : c ≤ maxLen) :
    Gives Try.prog 134 #[.pointer (some ⟨b0, 0, none⟩), .pointer (some ⟨b1, 0, none⟩)] (fun k : Nat => #[.slice (some ⟨g, 2 * k, none⟩) 2 2]) KeepT (List.range m) w := by
  intro l n J W hW hJ hY hJ0
  have hm : c ≤ 9223372036854775807 := by unfold maxLen at hm; omega
  have H0 : Boxed W b0 27 (.slice (some ⟨g, 0, none⟩) (2 * m) c) := (hW.block _ h0.lt).trans h0
  have H1 : Boxed W b1 3 (.int .i64 2) := (hW.block _ h1.lt).trans h1
  refine callsIn_of_wp Try.func134 rfl trivial ?_ rfl
  simp only [Try.ntmps134, List.size_toArray, List.length_cons, List.length_nil, Nat.reduceAdd, Nat.reduceSub, Array.replicate_succ, Array.replicate_zero, List.push_toArray, List.append_toArray, List.nil_append, List.cons_append]
  gi_wp2
  gi_loopw [4] (fun p wr => ∃ k : Nat, k ≤ m ∧ p = .int .i64 (2 * (k : Int)) ∧ Boxed wr b0 27 (.slice (some ⟨g, 0, none⟩) (2 * m) c) ∧ Boxed wr b1 3 (.int .i64 2) ∧ J (List.range k) wr) (fun p wr => 2 * m - (intOf p).toNat)
  case atStart => exact ⟨0, Nat.zero_le _, rfl, H0, H1, hJ0⟩
  case round =>
    obtain ⟨k, hk, rfl, B0, B1, hJk⟩ := hrel
    have c0 := B0.cell
    have c1 := B1.cell
    by_cases hlt : k < m
    · have i0 : (0 : Int) ≤ 2 * (k : Int) := by omega
      have i1 : 2 * (k : Int) < 2 * (m : Int) := by omega
      have hck : ¬ (c = 2 * k) := by omega
      have hmn : mn 2 ((2 * m - 2 * k : Nat) : Int) = 2 := by unfold mn; omega
      have hw2 : wrap64 (2 * (k : Int) + 2) = 2 * (k : Int) + 2 := by unfold wrap64; omega
      have ht2 : (2 * (k : Int) + 2).toNat = 2 * k + 2 := by omega
      have j0 : (0 : Int) ≤ 2 * (k : Int) + 2 := by omega
      have j1 : 2 * (k : Int) + 2 ≤ (c : Int) := by omega
      have j2 : ¬ (2 * k + 2 = 2 * k) := by omega
      have j3 : max (2 * (k : Int) + 2) 0 = 2 * (k : Int) + 2 := by omega
      have j4 : 2 * (k : Int) ≤ 2 * (k : Int) + 2 := by omega
      obtain ⟨fn, tmps, assign, body, hy, hR⟩ := hY (n - 1) (List.range k) k _ wr.drew (range_part hlt) (ownFrom_drew hJ hJk)
      gi_wp2
      gi_region
      gi_wp2
      refine ⟨fun h => by simp [Fence.wide] at h, hR.mono ?_⟩
      rintro e W3 ⟨rfl, hJ3, hk3, _⟩
      have B03 : Boxed W3 b0 27 (.slice (some ⟨g, 0, none⟩) (2 * m) c) := hk3.boxed B0 (by decide) (by decide)
      have B13 : Boxed W3 b1 3 (.int .i64 2) := hk3.boxed B1 (by decide) (by decide)
      have c03 := B03.cell
      have c13 := B13.cell
      gi_wp2
      go_roundw
      case rel => exact ⟨k + 1, by omega, by go_num, B03, B13, by rw [List.range_succ]; exact hJ3⟩
      case measure => simp [intOf]; omega
    · obtain rfl : k = m := by omega
      gi_wp2
      go_end0
      exact ⟨⟨_, rfl⟩, hJk⟩
theorem chunk_none (b0 b1 g : Nat) (w : World) (h0 : Boxed w b0 27 (.slice none 0 0)) :
    Gives Try.prog 134 #[.pointer (some ⟨b0, 0, none⟩), .pointer (some ⟨b1, 0, none⟩)] (fun k : Nat => #[.slice (some ⟨g, 2 * k, none⟩) 2 2]) KeepT (List.range 0) w := by
  intro l n J W hW hJ hY hJ0
  have H0 : Boxed W b0 27 (.slice none 0 0) := (hW.block _ h0.lt).trans h0
  have c0 := H0.cell
  refine callsIn_of_wp Try.func134 rfl trivial ?_ rfl
  simp only [Try.ntmps134, List.size_toArray, List.length_cons, List.length_nil, Nat.reduceAdd, Nat.reduceSub, Array.replicate_succ, Array.replicate_zero, List.push_toArray, List.append_toArray, List.nil_append, List.cons_append]
  gi_wp2
  gi_loopw [4] (fun p wr => p = .int .i64 0 ∧ wr = W) (fun p wr => 0)
  case atStart => exact ⟨rfl, rfl⟩
  case round =>
    obtain ⟨rfl, rfl⟩ := hrel
    gi_wp2
    go_end0
    exact ⟨⟨_, rfl⟩, hJ0⟩
theorem chunk_call (a : Option Addr) (n c : Nat) (w : World) :
    Calls Try.prog 132 #[.slice a n c, .int .i64 2] w fun e w' => e = .returned (.func (.func 134) #[] #[.pointer (some ⟨w.heap.size, 0, none⟩), .pointer (some ⟨w.heap.size + 1, 0, none⟩)]) ∧ w' = (w.alloc (.cells #[.slice a n c] 27)).alloc (.cells #[.int .i64 2] 3) := by
  go_enter Try.func132, Try.ntmps132
  go_wp2
  go_ret
  exact ⟨rfl, rfl⟩
end Go.Proofs.Ytbdjnfnphilklaa.Ins
namespace Go.Proofs.Ytbdjnfnphilklaa.Ins
open Go.ChangeShapes Go.WideShapes Go.ChangeAt Go.RowKit Go.Shelf
open Kit
set_option linter.unusedVariables false
set_option linter.unusedSimpArgs false
set_option linter.unnecessarySimpa false
theorem del_get (zs : List Int) {i : Nat} (hi : i < zs.length) (j : Nat) (hj : j < zs.length - 1) (r : List Int) :
    (zs.take i ++ zs.drop (i + 1) ++ r)[j]? = some ((zs.take i ++ zs.drop (i + 1)).getD j 0) := by
  have hl : (zs.take i ++ zs.drop (i + 1)).length = zs.length - 1 := by rw [List.length_append, List.length_take, List.length_drop]; omega
  rw [List.getElem?_append_left (by omega), List.getElem?_eq_getElem (by omega)]
  simp [List.getD, hl, hj]
theorem del_impl (w : World) (B : Nat) (v : Value) (zs : List Int) (i : Nat) (hv : Cols w B v zs) (hn : zs.length ≤ 1048576) (hi : i < zs.length) :
    Calls Try.prog 140 #[v, .int .i64 (i : Int), .int .i64 ((i : Int) + 1)] w fun e w' => ∃ u, e = .returned u ∧ Cols w' B u (zs.take i ++ zs.drop (i + 1)) ∧ Below B w w' := by
  rcases hv with ⟨rfl, rfl⟩ | ⟨g, c, f, rfl, hg, hc, hm, hr, hf⟩
  · simp at hi
  · have hl : (zs.take i ++ zs.drop (i + 1)).length = zs.length - 1 := by rw [List.length_append, List.length_take, List.length_drop]; omega
    have h := Try.slices_Delete_int_cells g 0 zs.length c i (i + 1) zs w (Nat.le_refl _) hc (by unfold maxLen at hm; omega) (by omega) (by omega) (fun j hj => by rw [Nat.zero_add, hr.cell (show j < c by omega), hf j hj]) (fun j hj => hr.frozen _)
    rw [show (((i + 1 : Nat)) : Int) = (i : Int) + 1 by omega] at h
    refine h.mono ?_
    rintro e w' ⟨rfl, q, rfl⟩
    rw [List.take_length, show i + 1 - i = 1 by omega]
    refine ⟨_, rfl, .inr ⟨g, c, _, by rw [hl], hg, by omega, hm, Go.rowIs_setCells _ _ _ _ (show (w.drewN q).rowIs g 3 c f from hr), fun j hj => ?_⟩, setCells_below g hg _ _ _ ((Below.refl B w).trans ⟨rfl, rfl, rfl, Nat.le_refl _, fun _ _ => rfl⟩)⟩
    rw [hl] at hj
    have hlen : ((zs.take i ++ zs.drop (i + 1) ++ List.replicate 1 0).map (Value.int .i64)).length = zs.length := by
      rw [List.length_map, List.length_append, hl, List.length_replicate]; omega
    rw [hlen, if_pos (by omega), Nat.sub_zero, List.getElem?_map, del_get zs hi j hj]; rfl
theorem cnt_found {zs : List Int} {x : Int} (h : zs.contains x = true) : zs.countP (fun d => decide (d < x)) < zs.length := by
  have hle := List.countP_le_length (p := fun d => decide (d < x)) (l := zs)
  rcases Nat.lt_or_ge (zs.countP fun d => decide (d < x)) zs.length with h1 | h1
  · exact h1
  · have := (List.countP_eq_length (p := fun d => decide (d < x)) (l := zs)).1 (Nat.le_antisymm hle h1) x (by simpa using h)
    simp at this
theorem bs_impl (w : World) (B : Nat) (v : Value) (zs : List Int) (x : Int) (hv : Cols w B v zs) (hn : zs.length ≤ 1048576) (hs : zs.Pairwise (· < ·)) :
    Calls Try.prog 139 #[v, .int .i64 x] w fun e w' => e = .returned (.tuple #[.int .i64 ((zs.countP fun d => decide (d < x) : Nat) : Int), .bool (zs.contains x)]) ∧ ∃ q, w' = w.drewN q := by
  rcases hv with ⟨rfl, rfl⟩ | ⟨g, c, f, rfl, hg, hc, hm, hr, hf⟩
  · refine (Try.slices_BinarySearch_int_empty none 0 x w).mono ?_
    rintro e w' ⟨rfl, rfl⟩
    exact ⟨rfl, 0, rfl⟩
  · have h := Try.slices_BinarySearch_int g 0 zs.length c zs x w (Nat.le_refl _) (by omega) (fun j hj => by rw [Nat.zero_add, hr.cell (show j < c by omega), hf j hj]) (by rw [List.take_length]; exact hs.imp (fun h => by omega))
    rw [List.take_length] at h
    exact h
set_option maxHeartbeats 1000000 in
theorem tog_impl (w : World) (B : Nat) (v : Value) (zs : List Int) (x : Int) (hv : Cols w B v zs) (hB : B ≤ w.heap.size) (hn : zs.length ≤ 1000000) (hs : zs.Pairwise (· < ·)) :
    Calls Try.prog 137 #[v, .int .i64 x] w fun e w' => ∃ u, e = .returned u ∧ Cols w' B u (tog zs x) ∧ Below B w w' := by
  have hbs := bs_impl w B v zs x hv (by omega) hs
  have HV := Lib.hid (And.intro hv (And.intro hB hn))
  have hi : zs.countP (fun d => decide (d < x)) ≤ zs.length := List.countP_le_length
  clear hs hv hB hn
  cases hf : zs.contains x
  · have et : tog zs x = zs.take (zs.countP fun d => decide (d < x)) ++ x :: zs.drop (zs.countP fun d => decide (d < x)) := by
      unfold tog; rw [hf]; simp
    rw [hf] at hbs
    rw [et]
    clear et hf
    generalize zs.countP (fun d => decide (d < x)) = i at *
    have HI := Lib.hid hi
    clear hi
    go_enter Try.func137, Try.ntmps137
    go_wp2_with (go_at_call 139; refine hbs.mono ?_; rintro e w1 ⟨rfl, q, rfl⟩)
    refine (ins_impl ((w.drewN q).alloc (.cells #[.int .i64 x] 3)) B v zs x i w.heap.size ?_ ?_ (by have := HV.out.2.2; omega) HI.out ?_ ?_).mono ?_
    · exact (HV.out.1.keep (w' := w.drewN q) ⟨rfl, rfl, rfl, Nat.le_refl _, fun _ _ => rfl⟩).keep ((Below.refl _ _).alloc (Nat.le_refl _) _)
    · have := HV.out.2.1; rw [World.size_alloc]; show B ≤ w.heap.size + 1; omega
    · have := World.rowIs_alloc (w.drewN q) #[.int .i64 x] 3 (fun _ => .int .i64 x) (fun i hi => by
        have h0 : i = 0 := by simpa using hi
        subst h0; rfl)
      exact this
    · rintro a n c rfl
      rcases HV.out.1 with ⟨h, _⟩ | ⟨g, c', f, h, _, _, _, hr, _⟩
      · cases h
      · injection h with h1 _ _
        injection h1 with h1
        have := hr.lt
        rw [h1]; show w.heap.size ≠ g; omega
    · rintro e w' ⟨u, rfl, hc, hb⟩
      go_wp2
      go_ret
      exact ⟨_, rfl, hc, (((Below.refl B w).trans (c := w.drewN q) ⟨rfl, rfl, rfl, Nat.le_refl _, fun _ _ => rfl⟩).alloc HV.out.2.1 _).trans hb⟩
  · have et : tog zs x = zs.take (zs.countP fun d => decide (d < x)) ++ zs.drop ((zs.countP fun d => decide (d < x)) + 1) := by
      unfold tog; rw [hf]; simp
    have hil := cnt_found hf
    rw [hf] at hbs
    rw [et]
    clear et hf
    generalize zs.countP (fun d => decide (d < x)) = i at *
    have HI := Lib.hid hil
    have w1 : IntKind.i64.wrap ((i : Int) + 1) = (i : Int) + 1 := by have := HV.out.2.2; rw [IntKind.wrap_i64]; omega
    clear hi hil
    go_enter Try.func137, Try.ntmps137
    go_wp2_with (go_at_call 139; refine hbs.mono ?_; rintro e w1 ⟨rfl, q, rfl⟩)
    refine (del_impl (w.drewN q) B v zs i ?_ (by have := HV.out.2.2; omega) HI.out).mono ?_
    · exact HV.out.1.keep (w' := w.drewN q) ⟨rfl, rfl, rfl, Nat.le_refl _, fun _ _ => rfl⟩
    · rintro e w' ⟨u, rfl, hc, hb⟩
      go_wp2
      go_ret
      exact ⟨_, rfl, hc, ((Below.refl B w).trans (c := w.drewN q) ⟨rfl, rfl, rfl, Nat.le_refl _, fun _ _ => rfl⟩).trans hb⟩
end Go.Proofs.Ytbdjnfnphilklaa.Ins
