/-
  Chapter 8: the dots inside a rectangle, counted. No program in it.
-/
import Derived.Test.YtjmcpijmhfdbiaaIn8
namespace Go.Proofs.Ytjmcpijmhfdbiaa.Ins
set_option linter.unusedVariables false
set_option linter.unusedSimpArgs false
set_option linter.unnecessarySimpa false
/-- A vertical side. -/
theorem crs_vert {c lo hi x y : Int} (h : lo ≤ hi) : crs (c, lo) (c, hi) x y = decide (lo ≤ y ∧ y < hi ∧ x < c) := by
  unfold crs
  simp only
  by_cases h1 : 2 * y + 1 < 2 * lo
  · have h2 : 2 * y + 1 < 2 * hi := by omega
    rw [if_pos (by simp [h1, h2])]
    simp; omega
  · by_cases h2 : 2 * y + 1 < 2 * hi
    · rw [if_neg (by simp [h1, h2]), if_neg (by omega)]
      have e : (2 * y + 1 - 2 * lo) * 2 * (c - c) = 0 := by rw [Int.sub_self, Int.mul_zero]
      rw [e]
      congr 1
      apply propext
      have hp : 0 < hi - lo := by omega
      constructor
      · intro hm
        refine ⟨by omega, by omega, ?_⟩
        refine Int.lt_of_not_ge fun hx => ?_
        have : 0 ≤ (2 * x + 1 - 2 * c) * 2 * (hi - lo) := Int.mul_nonneg (by omega) (by omega)
        omega
      · rintro ⟨_, _, hx⟩
        have : 0 < -((2 * x + 1 - 2 * c) * 2) * (hi - lo) := Int.mul_pos (by omega) hp
        rw [Int.neg_mul] at this
        omega
    · rw [if_pos (by simp [h1, h2])]
      simp; omega
theorem crs_flat (a b c x y : Int) : crs (a, c) (b, c) x y = false := by
  unfold crs
  rw [if_pos (by simp)]
def rect (x0 y0 x1 y1 : Int) : List Pt := [(x0, y0), (x1, y0), (x1, y1), (x0, y1)]
theorem insP_rect {x0 y0 x1 y1 x y : Int} (hx : x0 ≤ x1) (hy : y0 ≤ y1) : insP (rect x0 y0 x1 y1) x y = decide ((y0 ≤ y ∧ y < y1) ∧ x0 ≤ x ∧ x < x1) := by
  have e : insP (rect x0 y0 x1 y1) x y = odd [crs (x0, y0) (x1, y0) x y, crs (x1, y0) (x1, y1) x y, crs (x1, y1) (x0, y1) x y, crs (x0, y1) (x0, y0) x y] := rfl
  rw [e, crs_flat, crs_flat, crs_vert hy, crs_comm, crs_vert hy]
  simp only [odd, Bool.bne_false, Bool.false_bne]
  by_cases h1 : y0 ≤ y ∧ y < y1
  · obtain ⟨a, b⟩ := h1
    by_cases h2 : x < x1 <;> by_cases h3 : x < x0 <;> simp [a, b, h2, h3] <;> omega
  · have n1 : ¬ (y0 ≤ y ∧ y < y1 ∧ x < x1) := fun h => h1 ⟨h.1, h.2.1⟩
    have n2 : ¬ (y0 ≤ y ∧ y < y1 ∧ x < x0) := fun h => h1 ⟨h.1, h.2.1⟩
    have n3 : ¬ ((y0 ≤ y ∧ y < y1) ∧ x0 ≤ x ∧ x < x1) := fun h => h1 h.1
    rw [decide_eq_false n1, decide_eq_false n2, decide_eq_false n3]; rfl
theorem arP_rect (x0 y0 x1 y1 : Int) : arP (rect x0 y0 x1 y1) = 2 * ((x1 - x0) * (y1 - y0)) := by
  show (crA (x0, y0) (x1, y0) + (crA (x1, y0) (x1, y1) + (crA (x1, y1) (x0, y1) + (crA (x0, y1) (x0, y0) + 0)))) = _
  unfold crA
  simp only [Int.sub_mul, Int.mul_sub]
  have := Int.mul_comm x0 y0; have := Int.mul_comm x0 y1; have := Int.mul_comm x1 y0; have := Int.mul_comm x1 y1
  omega
/-- How many of the first n places f has. -/
def cnt (f : Nat → Bool) : Nat → Nat
  | 0 => 0
  | n + 1 => cnt f n + (if f n = true then 1 else 0)
theorem cnt_range (lo hi : Int) (h : lo ≤ hi) : ∀ n : Nat, (cnt (fun i => decide (lo ≤ (i : Int) ∧ (i : Int) < hi)) n : Int) = max 0 (min hi n - max lo 0)
  | 0 => by simp only [cnt]; omega
  | n + 1 => by
    have ih := cnt_range lo hi h n
    simp only [cnt]
    by_cases hd : lo ≤ (n : Int) ∧ (n : Int) < hi
    · rw [if_pos (by simp [hd])]; omega
    · rw [if_neg (by simp; omega)]; omega
/-- The same over rows. -/
def cnt2 (f : Nat → Nat → Bool) (m : Nat) : Nat → Nat
  | 0 => 0
  | n + 1 => cnt2 f m n + cnt (f n) m
theorem cnt_and (b : Bool) (h : Nat → Bool) (n : Nat) : cnt (fun i => b && h i) n = if b = true then cnt h n else 0 := by
  induction n with
  | zero => cases b <;> rfl
  | succ n ih => simp only [cnt, ih]; cases b <;> simp
theorem cnt2_mul (g h : Nat → Bool) (m : Nat) : ∀ n, cnt2 (fun y x => g y && h x) m n = cnt g n * cnt h m
  | 0 => by simp [cnt2, cnt]
  | n + 1 => by
    simp only [cnt2, cnt, cnt2_mul g h m n, cnt_and]
    cases g n
    · simp
    · simp [Nat.add_mul]
theorem cnt_ext {f g : Nat → Bool} (h : ∀ i, f i = g i) (n : Nat) : cnt f n = cnt g n := by rw [show f = g from funext h]
theorem cnt2_ext {f g : Nat → Nat → Bool} (h : ∀ i j, f i j = g i j) (m n : Nat) : cnt2 f m n = cnt2 g m n := by rw [show f = g from funext fun i => funext fun j => h i j]
/-- The dots of the page inside a rectangle. -/
theorem rect_cnt {x0 y0 x1 y1 : Int} (hx : x0 ≤ x1) (hy : y0 ≤ y1) : (cnt2 (fun y x => insP (rect x0 y0 x1 y1) (x : Int) (y : Int)) 32 32 : Int) = max 0 (min y1 32 - max y0 0) * max 0 (min x1 32 - max x0 0) := by
  rw [cnt2_ext (g := fun y x => decide (y0 ≤ (y : Int) ∧ (y : Int) < y1) && decide (x0 ≤ (x : Int) ∧ (x : Int) < x1)) (fun y x => by rw [insP_rect hx hy]; simp [Bool.decide_and])]
  rw [cnt2_mul (fun y => decide (y0 ≤ (y : Int) ∧ (y : Int) < y1)) (fun x => decide (x0 ≤ (x : Int) ∧ (x : Int) < x1)), Int.natCast_mul, cnt_range y0 y1 hy 32, cnt_range x0 x1 hx 32]
  rfl
end Go.Proofs.Ytjmcpijmhfdbiaa.Ins
