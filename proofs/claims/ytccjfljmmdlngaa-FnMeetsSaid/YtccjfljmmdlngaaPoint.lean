/-
  Chapter 2 on one point and one box (PointOk, BoxOk; program and model): what each call returns and that nothing that was there has turned; no condition.
-/
import Derived.Test.YtccjfljmmdlngaaKit
namespace Go.Proofs.Ytccjfljmmdlngaa.Point
open Go.ChangeShapes Go.WideShapes Go.ChangeAt Go.RowKit
open Kit
set_option linter.unusedVariables false
set_option linter.unusedSimpArgs false
set_option linter.unnecessarySimpa false
attribute [local go_sem ↓] run_mx run_mn

def inB (n : Int) : Bool := decide (-200 ≤ n ∧ n ≤ 200)

def pokB (x y : Int) : Bool := inB x && inB y

def bokB (x0 y0 x1 y1 : Int) : Bool := inB x0 && inB y0 && inB x1 && inB y1 && decide (x0 ≤ x1) && decide (y0 ≤ y1)

theorem inB_true {n : Int} (h : inB n = true) : -200 ≤ n ∧ n ≤ 200 := by simpa [inB] using h

theorem coord_any (n : Int) (w : World) : Calls Try.prog 39 #[.int .i64 n] w fun e w' => e = .returned (.bool (inB n)) ∧ w = w' := by
  by_cases h1 : -200 ≤ n <;> by_cases h2 : n ≤ 200
  all_goals
    go_enter Try.func39, Try.ntmps39
    go_wp2
    go_ret
    exact ⟨ret_bool (by simp [inB, h1, h2]), rfl⟩

theorem in_any (x a b : Int) (w : World) : Calls Try.prog 66 #[.int .i64 x, .int .i64 a, .int .i64 b] w fun e w' => e = .returned (.bool (decide (a ≤ x ∧ x ≤ b))) ∧ w = w' := by
  by_cases h1 : a ≤ x <;> by_cases h2 : x ≤ b
  all_goals
    go_enter Try.func66, Try.ntmps66
    go_wp2
    go_ret
    exact ⟨ret_bool (by simp [h1, h2]), rfl⟩

theorem in2_any (n : Int) (w : World) : Calls Try.prog 52 #[.int .i64 n] w fun e w' => e = .returned (.bool (inB n)) ∧ w = w' := by
  go_enter Try.func52, Try.ntmps52
  go_wp2_with (go_at_call 66; refine (in_any _ _ _ _).mono ?_; rintro e w' ⟨rfl, rfl⟩)
  go_ret
  exact ⟨ret_bool (by simp [inB]), rfl⟩

theorem pok_impl (x y : Int) (w : World) : Calls Try.prog 60 #[.agg #[.int .i64 x, .int .i64 y]] w fun e w' => e = .returned (.bool (pokB x y)) ∧ Below w.heap.size w w' := by
  by_cases h1 : inB x = true
  all_goals
    try simp only [Bool.not_eq_true] at h1
    go_enter Try.func60, Try.ntmps60
    go_wp2_with (go_at_call 39; refine (coord_any _ _).mono ?_; rintro e w' ⟨rfl, rfl⟩)
    go_ret
    exact ⟨ret_bool (by simp [pokB, h1]), by go_grown⟩

theorem pok_spec (x y : Int) (w : World) : Calls Try.prog 65 #[.agg #[.int .i64 x, .int .i64 y]] w fun e w' => e = .returned (.bool (pokB x y)) ∧ Below w.heap.size w w' := by
  by_cases h1 : inB x = true
  all_goals
    try simp only [Bool.not_eq_true] at h1
    go_enter Try.func65, Try.ntmps65
    go_wp2_with (go_at_call 52; refine (in2_any _ _).mono ?_; rintro e w' ⟨rfl, rfl⟩)
    go_ret
    exact ⟨ret_bool (by simp [pokB, h1]), by go_grown⟩


theorem bok_two (x0 y0 x1 y1 : Int) : bokB x0 y0 x1 y1 = (pokB x0 y0 && pokB x1 y1 && (decide (x0 ≤ x1) && decide (y0 ≤ y1))) := by
  simp [bokB, pokB, Bool.and_assoc]


theorem bok_true {x0 y0 x1 y1 : Int} (h : bokB x0 y0 x1 y1 = true) : -200 ≤ x0 ∧ -200 ≤ y0 ∧ x1 ≤ 200 ∧ y1 ≤ 200 ∧ x0 ≤ x1 ∧ y0 ≤ y1 := by
  simp [bokB, inB] at h; omega

theorem bok_iff (x0 y0 x1 y1 : Int) : bokB x0 y0 x1 y1 = true ↔ -200 ≤ x0 ∧ -200 ≤ y0 ∧ x1 ≤ 200 ∧ y1 ≤ 200 ∧ x0 ≤ x1 ∧ y0 ≤ y1 := by
  simp [bokB, inB]; omega

end Go.Proofs.Ytccjfljmmdlngaa.Point
