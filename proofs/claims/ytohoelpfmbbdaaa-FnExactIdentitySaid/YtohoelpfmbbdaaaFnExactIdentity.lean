/-
  Identity answers as its model does. No condition.
  The frame of the proof was written by a tool of this repo after the guide's shells; the walk is this text's own.
-/
import Derived.Test.YtohoelpfmbbdaaaRows
import Derived.WalkKit
import Derived.ProofKit
import Derived.OpenShut
import Derived.ShutString
import Derived.ChangeOld
import Derived.ChangeArms
import Derived.Below
import Derived.Handy
import Derived.Lib.SmallJoins
import Derived.Test.YtohoelpfmbbdaaaKit
import Derived.Test.YtohoelpfmbbdaaaConver
import Derived.Test.YtohoelpfmbbdaaaTurn
import Derived.Test.YtohoelpfmbbdaaaJoin
namespace Go.Proofs.Ytohoelpfmbbdaaa.fnExactIdentity
open Go.ChangeShapes Go.WideShapes Go.ChangeAt Go.RowKit
open Go.ChangeMaps (open_string shut_string)
open Kit
open Conver
open Turn
open Join
set_option linter.unusedVariables false
set_option linter.unusedSimpArgs false

theorem own : ownKnob Try.prog.godebug = none := by kernel_rfl
theorem laidOut : laidOutB Try.prog = true := by kernel_rfl

theorem walk (w : World)  :
    Calls Try.prog 8 #[] w fun e w' => e = .returned (.bool true) ∧ Below w.heap.size w w' := by
  go_enter Try.func8, Try.ntmps8
  go_wp2_with fail
  (refine (ident_spec _).mono ?_; rintro e w1 ⟨rfl, hb1⟩)
  have F1 := Four.new w1 25 0 1 0 0
  have hB1 := (hb1).alloc hb1.size (.cells #[.int .i64 0, .int .i64 1, .int .i64 0, .int .i64 0] 25)
  go_wp2_with fail
  (refine (ident_impl _).mono ?_; rintro e w2 ⟨rfl, hb2⟩)
  have F2 := F1.keep hb2 F1.lt
  have hB2 := on_of hB1 hb2
  obtain ⟨a0, a1, a2, a3, a4⟩ := Four.lay F2
  have hl := F2.lt
  have hs2 := hB2.size
  clear F1 F2 hb2 hb1 hB1
  go_wp2_with (go_at_call 22; (with_reducible refine (eqTurn_same _ _ _ _ _).mono ?_); rintro e w' ⟨rfl, hb⟩; have hB := on_of (W := w) (by go_grown) hb; clear hb)
  go_ret
  exact ⟨by simp, by go_grown⟩

/-! ### THE ROW's STEP -/
set_option maxRecDepth 100000 in
theorem lifted (os : Os) (started : os.Started) (H : Type) (enc : TypeId × Value → H) :
    ReturnsInHanded {} Try.checked os 8 .any (Rows.fnExactIdentitySpec.pre6 enc Try.prog Try.f8 Rows.fnExactIdentityRow.domain false) (Rows.fnExactIdentitySpec.post enc Try.prog Try.f8 false true false false) := by
  refine returnsInHanded_of_change (C := Try.checked) own started (by kernel_rfl) Try.func8
    (ChangeSpec.witness6 (enc := enc) (C := Try.checked) false ⟨#[], #[], []⟩ 8 (by kernel_rfl) (by kernel_rfl) (by kernel_rfl) (by kernel_rfl)) ?_
  intro W base args ds gs before hval0 hW hcnd _
  have hval : ∀ (j : Nat) t v, Try.f8.params[j]? = some t → args[j]? = some v → Value.okWide Try.prog W .any base t v := hval0
  have hW' := hW
  obtain ⟨p, q, hA0, hV, rfl, hfz, hnd⟩ := hW
  have hA : DataW.TrodAll enc Try.prog W 0 (fun _ => true) true Try.f8.params.toList args.toList ds p := hA0
  rw [Try.params8] at hA hval
  obtain ⟨hargs, rfl, rfl⟩ := trodAll_nil hA
  obtain rfl : args = #[] := by cases args; simp_all
  obtain ⟨rfl, rfl⟩ := trodVars_none hV
  clear hA0 hval0
  refine (walk W ).mono fun e W' ⟨he, bel⟩ => ?_
  subst he
  exact ⟨_, rfl, _, _, _, [], _, [], hW', trodAll_mk1 (shut_bool Try.underlying4 _), trodAll_mk0, rfl, bel.frame _, fun h => by cases h⟩

theorem over : Rows.fnExactIdentityRow.holds Try.pinned (OpenSpec.ofChange Rows.fnExactIdentitySpec) :=
  OpenClaim.holds_of_wide 8 Try.f8 rfl rfl rfl rfl rfl rfl rfl ⟨rfl, rfl, rfl, rfl, rfl⟩ rfl rfl rfl rfl rfl (by kernel_rfl) Try.func8 (by kernel_rfl)
    (of_decide_eq_true (by kernel_rfl)) (by unfold Func.isWrapper; first | (rw [if_pos (by decide +kernel)]; kernel_rfl) | (rw [if_neg (by decide +kernel)]; exact ⟨rfl, rfl⟩))
    (fun os started H enc _ => lifted os started H enc)

/-- ████ THE STATEMENT ████ -/
theorem proved : Rows.FnExactIdentitySaid := over
#print axioms proved
end Go.Proofs.Ytohoelpfmbbdaaa.fnExactIdentity
