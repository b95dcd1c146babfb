/-
  InsidePath (model): what the call returns for any path and any center.
-/
import Derived.Test.YtccjfljmmdlngaaIns8
namespace Go.Proofs.Ytccjfljmmdlngaa.Ins
open Go.ChangeShapes Go.WideShapes Go.ChangeAt Go.RowKit
open Kit Point
set_option linter.unusedVariables false
set_option linter.unusedSimpArgs false
set_option linter.unnecessarySimpa false
/-- The answer of InsidePath. -/
def inpB (l : List Pt) (x y : Int) : Bool := pathB l && inB x && inB y && insP l x y
theorem three3 (a b c : Bool) : a = false ∨ (a = true ∧ b = false) ∨ (a = true ∧ b = true ∧ c = false) ∨ (a = true ∧ b = true ∧ c = true) := by
  cases a <;> cases b <;> cases c <;> simp
end Go.Proofs.Ytccjfljmmdlngaa.Ins
