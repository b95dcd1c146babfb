/-
  For every string FnExactSplitFields returns true (SplitFields answers as its model, in memory of its own) and the string reads as before; no condition.
  The frame of the proof was written by the guide's proof-skeleton; the walk is this text's own.
-/
import Derived.Test.YthemadiofegjmaaRows
import Derived.WalkKit
import Derived.ProofKit
import Derived.OpenShut
import Derived.ShutString
import Derived.ChangeOld
import Derived.Below
import Derived.Handy
import Derived.Test.YthemadiofegjmaaTexts
namespace Go.Proofs.Ythemadiofegjmaa.fnExactSplitFields
open Go.ChangeShapes Go.WideShapes Go.ChangeAt Go.RowKit
open Go.ChangeMaps (open_string shut_string)
open Split Texts
set_option linter.unusedVariables false      -- a walk need not use every 'w<i>' (that an integer argument fits its kind)

theorem own : ownKnob Try.prog.godebug = none := by kernel_rfl

/-! ### STEP 1: THE WALK: the Go text returns true. 'Below w.heap.size w w'': the world has at most new blocks (Derived/RowKit3.lean). Part the cases AHEAD of 'go_enter' where a test parts the walk; take each callee by a contract of your own. -/
theorem walk (a0 : ByteArray) (w0 : a0.size ≤ maxLen) (w : World) :
    Calls Try.prog 6 #[.string a0] w fun e w' => e = .returned (.bool true) ∧ Below w.heap.size w w' := by
  have hm := w0
  unfold maxLen at hm
  by_cases h1 : (1048576 : Int) < a0.size
  · go_enter Try.func6, Try.ntmps6
    go_wp2
    go_ret
    exact ⟨rfl, Below.refl _ _⟩
  · have hs : a0.size ≤ 1048576 := by omega
    obtain ⟨b, l, ha⟩ := ans_one a0
    have hlen := ans_len ha
    have HA := Lib.hid ha
    clear ha
    cases b
    all_goals
      go_enter Try.func6, Try.ntmps6
      go_wp2_with (go_at_call 15; refine (spec_is a0 _ l HA.out hs _).mono ?_; rintro e w1 ⟨v0, rfl, ho0, c1⟩)
      go_wp2_with (go_at_call 16; refine (impl_is a0 _ l HA.out hs _).mono ?_; rintro e w2 ⟨v1, rfl, ho1, c2⟩; have k2 := c2)
      go_wp2_with (go_at_call 17; refine (eq_any _ _ _ _ _ l (by omega) ho1 (ho0.below c2)).mono ?_; rintro e w3 ⟨rfl, c3⟩; have k3 := k2.trans (c3.mono k2.size); have ho3 := ho1.below c3; clear ho1 c3 k2)
      go_wp2_with (go_at_call 18; refine (mark_one _ _ _ l hlen k3.size ho3).mono ?_; rintro e w4 ⟨rfl, ho4, c4⟩; have k4 := k3.trans c4; clear ho3 c4 k3)
      go_wp2_with (go_at_call 19; refine (held_one _ _ _ _ hlen ho4).mono ?_; rintro e w5 ⟨rfl, c5⟩; have k5 := k4.trans (c5.mono k4.size); have ho5 := ho4.below c5; clear ho4 c5 k4)
      go_wp2_with (go_at_call 16; refine (impl_is a0 _ l HA.out hs _).mono ?_; rintro e w6 ⟨v2, rfl, ho6, c6⟩; have k6 := k5.trans (c6.mono k5.size); have hoA := ho5.below c6; clear ho5 c6 k5)
      go_wp2_with (go_at_call 17; refine (eq_any _ _ _ _ _ l (by omega) ho6 (ho0.below k6)).mono ?_; rintro e w7 ⟨rfl, c7⟩; have k7 := k6.trans (c7.mono k6.size); have hoB := hoA.below c7; clear hoA ho6 c7 k6)
      go_wp2_with (go_at_call 19; refine (held_one _ _ _ _ hlen hoB).mono ?_; rintro e w8 ⟨rfl, c8⟩; have k8 := k7.trans (c8.mono k7.size); clear hoB c8 k7)
      go_ret
      exact ⟨rfl, c1.trans (k8.mono c1.size)⟩

/-! ### THE ROW's STEP: WRITTEN OUT: LEAVE IT -/
set_option maxRecDepth 100000 in
theorem lifted (os : Os) (started : os.Started) (H : Type) (enc : TypeId × Value → H) :
    ReturnsInHanded {} Try.checked os 6 .any (Rows.fnExactSplitFieldsSpec.pre6 enc Try.prog Try.f6 Rows.fnExactSplitFieldsRow.domain false) (Rows.fnExactSplitFieldsSpec.post enc Try.prog Try.f6 false true false false) := by
  refine returnsInHanded_of_change (C := Try.checked) own started (by kernel_rfl) Try.func6
    (ChangeSpec.witness6 (enc := enc) (C := Try.checked) false ⟨#[], #[.string ByteArray.empty], []⟩ 8 (by kernel_rfl) (by kernel_rfl) (by kernel_rfl) (by kernel_rfl)) ?_
  intro W base args ds gs before hval0 hW hcnd _
  have hval : ∀ (j : Nat) t v, Try.f6.params[j]? = some t → args[j]? = some v → Value.okWide Try.prog W .any base t v := hval0
  have hW' := hW
  obtain ⟨p, q, hA0, hV, rfl, hfz, hnd⟩ := hW
  have hA : DataW.TrodAll enc Try.prog W 0 (fun _ => true) true Try.f6.params.toList args.toList ds p := hA0
  rw [Try.params6] at hA hval
  obtain ⟨v0, vs0, d0, ds0, p0, q0, hargs, rfl, rfl, h0, r0⟩ := trodAll_cons hA
  obtain ⟨rfl, rfl, rfl⟩ := trodAll_nil r0
  obtain rfl : args = #[v0] := by cases args; simp_all
  obtain ⟨rfl, rfl⟩ := trodVars_none hV
  obtain ⟨a0, rfl, rfl, rfl, w0⟩ := open_string Try.underlying9 (hval 0 9 v0 rfl rfl) h0
  clear hA0 hval0
  refine (walk a0 w0 W).mono fun e W' ⟨he, bel⟩ => ?_
  subst he
  exact ⟨_, rfl, _, _, _, [], _, [], hW', trodAll_mk1 (shut_bool Try.underlying4 _), (trodAll_cons_mk (shut_string Try.underlying9 w0) trodAll_mk0), rfl, bel.frame _, fun h => by cases h⟩

theorem over : Rows.fnExactSplitFieldsRow.holds Try.pinned (OpenSpec.ofChange Rows.fnExactSplitFieldsSpec) :=
  OpenClaim.holds_of_wide 6 Try.f6 rfl rfl rfl rfl rfl rfl rfl ⟨rfl, rfl, rfl, rfl, rfl⟩ rfl rfl rfl rfl rfl (by kernel_rfl) Try.func6 (by kernel_rfl)
    (of_decide_eq_true (by kernel_rfl)) (by unfold Func.isWrapper; first | (rw [if_pos (by decide +kernel)]; kernel_rfl) | (rw [if_neg (by decide +kernel)]; exact ⟨rfl, rfl⟩))
    (fun os started H enc _ => lifted os started H enc)

/-- ████ THE STATEMENT ████ -/
theorem proved : Rows.FnExactSplitFieldsSaid :=
  over
#print axioms proved
end Go.Proofs.Ythemadiofegjmaa.fnExactSplitFields
