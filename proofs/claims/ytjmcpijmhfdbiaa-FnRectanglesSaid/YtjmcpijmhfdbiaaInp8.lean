/-
  InsidePath (model): what the call returns for any path and any center.
-/
import Derived.Test.YtjmcpijmhfdbiaaIns8
namespace Go.Proofs.Ytjmcpijmhfdbiaa.Ins
open Go.ChangeShapes Go.WideShapes Go.ChangeAt Go.RowKit
open Kit Point
set_option linter.unusedVariables false
set_option linter.unusedSimpArgs false
set_option linter.unnecessarySimpa false
/-- The answer of InsidePath. -/
def inpB (l : List Pt) (x y : Int) : Bool := pathB l && inB x && inB y && insP l x y
theorem three3 (a b c : Bool) : a = false ∨ (a = true ∧ b = false) ∨ (a = true ∧ b = true ∧ c = false) ∨ (a = true ∧ b = true ∧ c = true) := by
  cases a <;> cases b <;> cases c <;> simp
set_option maxHeartbeats 1000000 in
theorem inp_spec (w : World) (a : Option Addr) (c : Nat) (l : List Pt) (x y : Int) (hn : l.length ≤ 1048576) (h : PathAt w a l) :
    Calls Try.prog 22 #[.slice a l.length c, .int .i64 x, .int .i64 y] w fun e w' => e = .returned (.bool (inpB l x y)) ∧ Below w.heap.size w w' := by
  have H := Lib.hid (And.intro h hn)
  clear h hn
  rcases three3 (pathB l) (inB x) (inB y) with h1 | ⟨h1, h2⟩ | ⟨h1, h2, h3⟩ | ⟨h1, h2, h3⟩
  all_goals
    go_enter Try.func22, Try.ntmps22
    go_wp2_with (first
      | (go_at_call 38; refine (pts_spec _ _ _ _ H.out.2 H.out.1).mono ?_; rintro e w' ⟨rfl, hb⟩)
      | (go_at_call 42; refine (in2_any _ _).mono ?_; rintro e w' ⟨rfl, rfl⟩)
      | (go_at_call 43; refine (in_spec _ _ _ _ _ _ H.out.2 (H.out.1.on hb) (by simp only [pathB, Bool.and_eq_true] at h1; exact h1.2) h2 h3).mono ?_; rintro e w'' ⟨rfl, hb2⟩; have hb := hb.trans (hb2.mono hb.size)))
    go_ret
    exact ⟨ret_bool (by simp [inpB, *]), by assumption⟩
end Go.Proofs.Ytjmcpijmhfdbiaa.Ins
