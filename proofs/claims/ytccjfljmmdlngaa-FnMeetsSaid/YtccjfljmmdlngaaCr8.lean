/-
  l08Crosses (model): what the call returns for a center and a side within the page's limits.
-/
import Derived.Test.YtccjfljmmdlngaaPoint
import Derived.Test.YtccjfljmmdlngaaIn8
namespace Go.Proofs.Ytccjfljmmdlngaa.Ins
open Go.ChangeShapes Go.WideShapes Go.ChangeAt Go.RowKit
open Kit Point
set_option linter.unusedVariables false
set_option linter.unusedSimpArgs false
set_option linter.unnecessarySimpa false

/-- A product of two bounded numbers is bounded. -/
theorem mul_bd {a b A B : Int} (ha : -A ≤ a ∧ a ≤ A) (hb : -B ≤ b ∧ b ≤ B) : -(A * B) ≤ a * b ∧ a * b ≤ A * B := by
  have hA : 0 ≤ A := by omega
  have hB : 0 ≤ B := by omega
  have n1 : a.natAbs ≤ A.toNat := by omega
  have n2 : b.natAbs ≤ B.toNat := by omega
  have n3 := Nat.mul_le_mul n1 n2
  rw [← Int.natAbs_mul] at n3
  have n4 : ((A.toNat * B.toNat : Nat) : Int) = A * B := by rw [Int.natCast_mul, Int.toNat_of_nonneg hA, Int.toNat_of_nonneg hB]
  have n5 : (((a * b).natAbs : Nat) : Int) ≤ A * B := by rw [← n4]; exact_mod_cast n3
  omega
set_option maxHeartbeats 1000000 in
theorem cr_spec (ax ay bx b1 x y : Int) (w : World) (ha : pokB ax ay = true) (hb : pokB bx b1 = true) (hx : inB x = true) (hy : inB y = true) :
    Calls Try.prog 67 #[.agg #[.int .i64 ax, .int .i64 ay], .agg #[.int .i64 bx, .int .i64 b1], .int .i64 x, .int .i64 y] w fun e w' => e = .returned (.bool (crs (ax, ay) (bx, b1) x y)) ∧ Below w.heap.size w w' := by
  simp only [pokB, Bool.and_eq_true] at ha hb
  obtain ⟨a0, a1⟩ := ha
  obtain ⟨c0, c1⟩ := hb
  have a2 := inB_true a0; have a3 := inB_true a1; have c2 := inB_true c0; have c3 := inB_true c1; have x2 := inB_true hx; have y2 := inB_true hy
  clear a0 a1 c0 c1 hx hy
  obtain ⟨m0, m1⟩ := @mul_bd ((2 * x + 1 - 2 * ax) * 2) (b1 - ay) 1602 400 (by omega) (by omega)
  obtain ⟨m2, m3⟩ := @mul_bd ((2 * y + 1 - 2 * ay) * 2) (bx - ax) 1602 400 (by omega) (by omega)
  obtain ⟨m4, m5⟩ := @mul_bd ((2 * x + 1 - 2 * bx) * 2) (ay - b1) 1602 400 (by omega) (by omega)
  obtain ⟨m6, m7⟩ := @mul_bd ((2 * y + 1 - 2 * b1) * 2) (ax - bx) 1602 400 (by omega) (by omega)
  by_cases h : (decide (2 * y + 1 < 2 * ay) == decide (2 * y + 1 < 2 * b1)) = true
  · go_enter Try.func67, Try.ntmps67
    go_wp2
    go_ret
    exact ⟨ret_bool (by unfold crs; rw [if_pos h]), by go_grown⟩
  · have h' : (decide (2 * y + 1 < 2 * ay) == decide (2 * y + 1 < 2 * b1)) = false := by simpa using h
    by_cases hl : b1 < ay
    · go_enter Try.func67, Try.ntmps67
      go_wp2
      go_ret
      exact ⟨ret_bool (by unfold crs; rw [if_neg h, if_pos hl]), by go_grown⟩
    · have hl' : ay ≤ b1 := by omega
      go_enter Try.func67, Try.ntmps67
      go_wp2
      go_ret
      exact ⟨ret_bool (by unfold crs; rw [if_neg h, if_neg (by omega)]), by go_grown⟩
end Go.Proofs.Ytccjfljmmdlngaa.Ins
