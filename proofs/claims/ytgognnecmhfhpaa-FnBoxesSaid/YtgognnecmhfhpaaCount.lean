/-
  The plain mathematics of FnBoxes: how many dots of a box are counted up to a place, row by row; and that the common part of two boxes holds just the dots of both.
-/
import Derived.Test.YtgognnecmhfhpaaDot
import Derived.Test.YtgognnecmhfhpaaDrawBox
import Derived.Test.YtgognnecmhfhpaaPts
namespace Go.Proofs.Ytgognnecmhfhpaa.Count
open Go.ChangeShapes Go.WideShapes Go.ChangeAt Go.RowKit
open Point Box Dot Draw Pts
set_option linter.unusedVariables false

/-- How many of the numbers from lo to hi - 1 lie below t. -/
def cnt (lo hi t : Int) : Int := if t ≤ lo then 0 else if t ≤ hi then t - lo else hi - lo
theorem cnt_step {lo hi t : Int} (h : lo ≤ hi) : cnt lo hi (t + 1) = cnt lo hi t + if lo ≤ t ∧ t < hi then 1 else 0 := by
  unfold cnt; split <;> split <;> (try split) <;> (try split) <;> (try split) <;> omega
theorem cnt_start {lo hi t : Int} (h : t ≤ lo) : cnt lo hi t = 0 := by unfold cnt; rw [if_pos h]
theorem cnt_end {lo hi t : Int} (h : lo ≤ hi) (k : hi ≤ t) : cnt lo hi t = hi - lo := by unfold cnt; split <;> (try split) <;> omega
/-- Up to row y, and in it up to column x. -/
def tot (a b c d y x : Int) : Int := (c - a) * cnt b d y + if b ≤ y ∧ y < d then cnt a c x else 0
theorem tot_step {a b c d y x : Int} (h : a ≤ c) : tot a b c d y (x + 1) = tot a b c d y x + if (a ≤ x ∧ x < c) ∧ (b ≤ y ∧ y < d) then 1 else 0 := by
  unfold tot
  rw [cnt_step h]
  by_cases h1 : b ≤ y ∧ y < d <;> by_cases h2 : a ≤ x ∧ x < c
  · rw [if_pos h1, if_pos h1, if_pos h2, if_pos ⟨h2, h1⟩]; omega
  · rw [if_pos h1, if_pos h1, if_neg h2, if_neg (fun h => h2 h.1)]; omega
  · rw [if_neg h1, if_neg h1, if_neg (fun h => h1 h.2)]; omega
  · rw [if_neg h1, if_neg h1, if_neg (fun h => h1 h.2)]; omega
theorem tot_row {a b c d y : Int} (h : a ≤ c) (k : b ≤ d) (ha : -6 ≤ a) (hc : c ≤ 38) : tot a b c d (y + 1) (-6) = tot a b c d y 38 := by
  unfold tot
  rw [cnt_step k, cnt_start ha, cnt_end h hc]
  by_cases h1 : b ≤ y ∧ y < d
  · rw [if_pos h1, if_pos h1, Int.mul_add, Int.mul_one]; split <;> omega
  · rw [if_neg h1, if_neg h1, Int.add_zero]; split <;> omega
theorem tot_start {a b c d : Int} (ha : -6 ≤ a) (hb : -6 ≤ b) : tot a b c d (-6) (-6) = 0 := by
  unfold tot; rw [cnt_start ha, cnt_start hb]; simp
theorem tot_end {a b c d : Int} (k : b ≤ d) (hd : d ≤ 38) (ha : -6 ≤ a) : tot a b c d 38 (-6) = (c - a) * (d - b) := by
  unfold tot; rw [cnt_end k hd, cnt_start ha]; simp

/-- The common part of two drawn boxes: its numbers lie where the loops look. -/
structure Inside (x0 y0 x1 y1 u0 v0 u1 v1 a b c d : Int) : Prop where
  a0 : -4 ≤ a
  ac : a ≤ c
  c1 : c ≤ 36
  b0 : -4 ≤ b
  bd : b ≤ d
  d1 : d ≤ 36
  w : c - a ≤ x1 - x0
  h : d - b ≤ y1 - y0
  dot : ∀ x y, inboxB a b c d x y = (inboxB x0 y0 x1 y1 x y && inboxB u0 v0 u1 v1 x y)
  one : ∀ x y, inboxB a b c d x y = decide ((a ≤ x ∧ x < c) ∧ (b ≤ y ∧ y < d))
theorem inside_of {x0 y0 x1 y1 u0 v0 u1 v1 a b c d : Int} (hx : BoxIn x0 y0 x1 y1) (hu : BoxIn u0 v0 u1 v1) (hm : MeetOf x0 y0 x1 y1 u0 v0 u1 v1 a b c d) : Inside x0 y0 x1 y1 u0 v0 u1 v1 a b c d := by
  simp only [MeetOf, BoxIn, mx, mn, ← Bool.not_eq_true, bok_iff] at hm hx hu
  refine ⟨by omega, by omega, by omega, by omega, by omega, by omega, by omega, by omega, fun x y => ?_, fun x y => ?_⟩
  · rw [Bool.eq_iff_iff]
    simp only [inboxB, Bool.and_eq_true, decide_eq_true_eq, bok_iff]
    omega
  · rw [Bool.eq_iff_iff]
    simp only [inboxB, Bool.and_eq_true, decide_eq_true_eq, bok_iff]
    omega
theorem dots_ge {a b c d x0 y0 x1 y1 : Int} (h1 : 0 ≤ c - a) (h2 : c - a ≤ x1 - x0) (h3 : 0 ≤ d - b) (h4 : d - b ≤ y1 - y0) : (c - a) * (d - b) ≤ (x1 - x0) * (y1 - y0) :=
  Int.mul_le_mul h2 h4 h3 (by omega)
theorem dots_in {x0 y0 x1 y1 : Int} (h : -4 ≤ x0 ∧ x0 ≤ x1 ∧ x1 ≤ 36 ∧ -4 ≤ y0 ∧ y0 ≤ y1 ∧ y1 ≤ 36) : dots x0 y0 x1 y1 = (x1 - x0) * (y1 - y0) := by
  have : bokB x0 y0 x1 y1 = true := by rw [bok_iff]; omega
  simp [dots, this]

/-- BoxOf of the two other corners is the box itself. -/
theorem corners {x0 y0 x1 y1 : Int} (h : BoxIn x0 y0 x1 y1) : boxofV (fun i => if i = 0 then x1 else x0) (fun i => if i = 0 then y0 else y1) 2 = .agg #[.int .i64 x0, .int .i64 y0, .int .i64 x1, .int .i64 y1] := by
  unfold BoxIn at h
  have hp : pokB x1 y0 = true ∧ pokB x0 y1 = true := by simp [pokB, inB]; omega
  have e0 : mn (mn x1 x1) x0 = x0 := by unfold mn; omega
  have e1 : mn (mn y0 y0) y1 = y0 := by unfold mn; omega
  have e2 : mx (mx x1 x1) x0 = x1 := by unfold mx; omega
  have e3 : mx (mx y0 y0) y1 = y1 := by unfold mx; omega
  simp [boxofV, sel, okB, acc, hp, e0, e1, e2, e3]
theorem rem_in {q : Int} (h0 : 0 ≤ q) (h1 : q < 10000) : pokB (q % 200) 0 = true := by
  simp [pokB, inB]; omega
end Go.Proofs.Ytgognnecmhfhpaa.Count
