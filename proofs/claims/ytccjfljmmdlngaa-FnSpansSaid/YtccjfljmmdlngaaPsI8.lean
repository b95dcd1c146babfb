/-
  passing (program): what the call returns for a center and a side within the page's limits.
-/
import Derived.Test.YtccjfljmmdlngaaCr8
import Derived.Test.YtccjfljmmdlngaaIns8
namespace Go.Proofs.Ytccjfljmmdlngaa.Ins
open Go.ChangeShapes Go.WideShapes Go.ChangeAt Go.RowKit
open Kit Point
set_option linter.unusedVariables false
set_option linter.unusedSimpArgs false
set_option linter.unnecessarySimpa false

/-- How far the side from (lx, ly) up to (hx, hy) passes beyond the center, times twice its height. -/
def byd (lx ly hx hy x y : Int) : Int := (2 * (lx - x) - 1) * (hy - ly) + (2 * (y - ly) + 1) * (hx - lx)
/-- The case of a side whose first end is the lower one. -/
def psL (lx ly hx hy x y : Int) : Int := if y < ly ∨ hy ≤ y then 0 else if 0 < byd lx ly hx hy x y then 2 else 1
def psV (ax ay bx b1 x y : Int) : Int := if b1 < ay then psL bx b1 ax ay x y else psL ax ay bx b1 x y
theorem byd_lt (lx ly hx hy x y : Int) : 0 < byd lx ly hx hy x y ↔ (2 * x + 1 - 2 * lx) * 2 * (hy - ly) < (2 * y + 1 - 2 * ly) * 2 * (hx - lx) := by
  unfold byd
  have e1 : (2 * x + 1 - 2 * lx) * 2 * (hy - ly) = -(2 * ((2 * (lx - x) - 1) * (hy - ly))) := by
    rw [show (2 * x + 1 - 2 * lx) * 2 = -(2 * (2 * (lx - x) - 1)) by omega, Int.neg_mul, Int.mul_assoc]
  have e2 : (2 * y + 1 - 2 * ly) * 2 * (hx - lx) = 2 * ((2 * (y - ly) + 1) * (hx - lx)) := by
    rw [show (2 * y + 1 - 2 * ly) * 2 = 2 * (2 * (y - ly) + 1) by omega, Int.mul_assoc]
  rw [e1, e2]; omega
theorem psL_two (lx ly hx hy x y : Int) : psL lx ly hx hy x y = 2 ↔ ly ≤ y ∧ y < hy ∧ 0 < byd lx ly hx hy x y := by
  unfold psL
  by_cases h : y < ly ∨ hy ≤ y
  · rw [if_pos h]; omega
  · rw [if_neg h]; by_cases h2 : 0 < byd lx ly hx hy x y
    · rw [if_pos h2]; omega
    · rw [if_neg h2]; omega
theorem ps_crs (ax ay bx b1 x y : Int) : decide (psV ax ay bx b1 x y = 2) = crs (ax, ay) (bx, b1) x y := by
  unfold psV crs
  by_cases hl : b1 < ay
  · rw [if_pos hl]
    simp only [psL_two, byd_lt]
    by_cases h : (decide (2 * y + 1 < 2 * ay) == decide (2 * y + 1 < 2 * b1)) = true
    · rw [if_pos h, decide_eq_false_iff_not]; simp only [beq_iff_eq, decide_eq_decide] at h; omega
    · rw [if_neg h, if_pos hl, decide_eq_decide]; simp only [beq_iff_eq, decide_eq_decide] at h
      refine ⟨fun k => k.2.2, fun k => ⟨by omega, by omega, k⟩⟩
  · rw [if_neg hl]
    simp only [psL_two, byd_lt]
    by_cases h : (decide (2 * y + 1 < 2 * ay) == decide (2 * y + 1 < 2 * b1)) = true
    · rw [if_pos h, decide_eq_false_iff_not]; simp only [beq_iff_eq, decide_eq_decide] at h; omega
    · rw [if_neg h, if_neg hl, decide_eq_decide]; simp only [beq_iff_eq, decide_eq_decide] at h
      refine ⟨fun k => k.2.2, fun k => ⟨by omega, by omega, k⟩⟩

set_option maxHeartbeats 1000000 in
theorem ps_impl (ax ay bx b1 x y : Int) (w : World) (ha : pokB ax ay = true) (hb : pokB bx b1 = true) (hx : inB x = true) (hy : inB y = true) :
    Calls Try.prog 42 #[.agg #[.int .i64 ax, .int .i64 ay, .int .i64 bx, .int .i64 b1], .int .i64 x, .int .i64 y] w fun e w' => e = .returned (.int .i64 (psV ax ay bx b1 x y)) ∧ Below w.heap.size w w' := by
  simp only [pokB, Bool.and_eq_true] at ha hb
  obtain ⟨a0, a1⟩ := ha
  obtain ⟨c0, c1⟩ := hb
  have a2 := inB_true a0; have a3 := inB_true a1; have c2 := inB_true c0; have c3 := inB_true c1; have x2 := inB_true hx; have y2 := inB_true hy
  clear a0 a1 c0 c1 hx hy
  by_cases hl : b1 < ay
  · have HV : psV ax ay bx b1 x y = psL bx b1 ax ay x y := by simp [psV, hl]
    rw [HV]
    clear HV
    obtain ⟨m0, m1⟩ := @mul_bd (2 * (bx - x) - 1) (ay - b1) 802 400 (by omega) (by omega)
    obtain ⟨m2, m3⟩ := @mul_bd (2 * (y - b1) + 1) (ax - bx) 802 400 (by omega) (by omega)
    rcases (show y < b1 ∨ (b1 ≤ y ∧ ay ≤ y) ∨ (b1 ≤ y ∧ y < ay) by omega) with h | ⟨h, h2⟩ | ⟨h, h2⟩
    · rw [show psL bx b1 ax ay x y = 0 by simp [psL, h]]
      go_enter Try.func42, Try.ntmps42
      go_upto_region 1 with (fail)
      go_region
      all_goals
        go_wp2
        go_ret
        exact ⟨rfl, by go_grown⟩
    · rw [show psL bx b1 ax ay x y = 0 by simp [psL, h2]]
      go_enter Try.func42, Try.ntmps42
      go_upto_region 1 with (fail)
      go_region
      all_goals
        go_wp2
        go_ret
        exact ⟨rfl, by go_grown⟩
    · have HL : psL bx b1 ax ay x y = if 0 < byd bx b1 ax ay x y then 2 else 1 := by
        unfold psL; rw [if_neg (by omega)]
      rw [HL]; clear HL
      by_cases hz : 0 < byd bx b1 ax ay x y
      · rw [if_pos hz]; unfold byd at hz
        go_enter Try.func42, Try.ntmps42
        go_upto_region 1 with (fail)
        go_region
        all_goals
          go_wp2
          go_ret
          exact ⟨rfl, by go_grown⟩
      · rw [if_neg hz]; unfold byd at hz
        go_enter Try.func42, Try.ntmps42
        go_upto_region 1 with (fail)
        go_region
        all_goals
          go_wp2
          go_ret
          exact ⟨rfl, by go_grown⟩
  · have HV : psV ax ay bx b1 x y = psL ax ay bx b1 x y := by simp [psV, hl]
    have hl : ay ≤ b1 := by omega
    rw [HV]
    clear HV
    obtain ⟨m0, m1⟩ := @mul_bd (2 * (ax - x) - 1) (b1 - ay) 802 400 (by omega) (by omega)
    obtain ⟨m2, m3⟩ := @mul_bd (2 * (y - ay) + 1) (bx - ax) 802 400 (by omega) (by omega)
    rcases (show y < ay ∨ (ay ≤ y ∧ b1 ≤ y) ∨ (ay ≤ y ∧ y < b1) by omega) with h | ⟨h, h2⟩ | ⟨h, h2⟩
    · rw [show psL ax ay bx b1 x y = 0 by simp [psL, h]]
      go_enter Try.func42, Try.ntmps42
      go_upto_region 1 with (fail)
      go_region
      all_goals
        go_wp2
        go_ret
        exact ⟨rfl, by go_grown⟩
    · rw [show psL ax ay bx b1 x y = 0 by simp [psL, h2]]
      go_enter Try.func42, Try.ntmps42
      go_upto_region 1 with (fail)
      go_region
      all_goals
        go_wp2
        go_ret
        exact ⟨rfl, by go_grown⟩
    · have HL : psL ax ay bx b1 x y = if 0 < byd ax ay bx b1 x y then 2 else 1 := by
        unfold psL; rw [if_neg (by omega)]
      rw [HL]; clear HL
      by_cases hz : 0 < byd ax ay bx b1 x y
      · rw [if_pos hz]; unfold byd at hz
        go_enter Try.func42, Try.ntmps42
        go_upto_region 1 with (fail)
        go_region
        all_goals
          go_wp2
          go_ret
          exact ⟨rfl, by go_grown⟩
      · rw [if_neg hz]; unfold byd at hz
        go_enter Try.func42, Try.ntmps42
        go_upto_region 1 with (fail)
        go_region
        all_goals
          go_wp2
          go_ret
          exact ⟨rfl, by go_grown⟩
end Go.Proofs.Ytccjfljmmdlngaa.Ins
