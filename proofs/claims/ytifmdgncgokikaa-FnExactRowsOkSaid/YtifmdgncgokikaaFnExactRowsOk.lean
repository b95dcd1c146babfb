/-
  The law FnExactRowsOk holds of every argument: the program's RowsOk answers as the model does and leaves its argument as it was. No condition (the law itself returns true where the argument takes more than 1048576 cells).
  The frame of the proof was written by a tool of this repo after the guide's shells; the walk is this text's own.
-/
import Derived.Test.YtifmdgncgokikaaRows
import Derived.WalkKit
import Derived.ProofKit
import Derived.OpenShut
import Derived.ShutString
import Derived.ChangeOld
import Derived.ChangeArms
import Derived.Below
import Derived.Handy
import Derived.Lib.SmallJoins
import Derived.Lib.Hide
import Derived.Deep.RegionHeld3
import Derived.Deep.DeepCutAuto
import Derived.BigQuiet
import Derived.Deep.QuietTactic
import Derived.Test.YtifmdgncgokikaaP44
namespace Go.Proofs.Ytifmdgncgokikaa.fnExactRowsOk
open Go.ChangeShapes Go.WideShapes Go.ChangeAt Go.RowKit
open Go.ChangeMaps (open_string shut_string)
open Kit
open Slabs
open Go.Proofs.Ytifmdgncgokikaa.Own
set_option linter.unusedVariables false
set_option linter.unusedSimpArgs false
theorem own : ownKnob Try.prog.godebug = none := by kernel_rfl
theorem laidOut : laidOutB Try.prog = true := by kernel_rfl
set_option maxHeartbeats 4000000 in
theorem walk (w : World) (b0 : Option Addr) (l0 p0c : Nat) (a0 : Own.Dt) (wa0 : Own.Came w (.sl (.sl (.int))) [.slice b0 l0 p0c] a0) :
    Calls Try.prog 5 #[.slice b0 l0 p0c] w fun e w' => e = .returned (.bool true) ∧ Below w.heap.size w w' := by
  have HW0 := Lib.hid (Below.refl w.heap.size w)
  obtain ⟨R_aRows, rfl, rfl, hm_aRows, hr_aRows, rr_aRows⟩ := came_ss wa0
  have HC_aRows := Lib.hid rr_aRows
  have HM_aRows := Lib.hid (And.intro hm_aRows hr_aRows)
  clear wa0 rr_aRows hm_aRows hr_aRows
  go_enter Try.func5, Try.ntmps5
  obtain ⟨Y1, hY1⟩ : ∃ Y, szv 1048576 (R_aRows.length + tot R_aRows) = Y := ⟨_, rfl⟩
  go_wp2_with fail
  ((with_reducible refine (sz_SS _ (HC_aRows.out.on HW0.out) HM_aRows.out.1 HM_aRows.out.2 1048576 (by omega) (by omega)).mono ?_); rintro e w2 ⟨rfl, bb⟩)
  rw [hY1]
  have HW3 := Lib.hid (on_of HW0.out bb)
  have sz4 := bb.size
  clear bb
  by_cases neg_Y1 : Y1 < 0
  · go_wp2
    go_ret
    exact ⟨rfl, HW3.out⟩
  have hb_aRows : R_aRows.length + tot R_aRows ≤ 1048576 := by rw [← hY1] at neg_Y1; unfold szv at neg_Y1; split at neg_Y1 <;> omega
  have pos_Y1 : 0 ≤ Y1 := by omega
  have top_Y1 : Y1 ≤ 1048576 := by have := szv_le (a := R_aRows.length + tot R_aRows) (show 0 ≤ (1048576 : Int) by omega); rw [hY1] at this; omega
  clear hY1
  go_wp2_with fail
  ((with_reducible refine (to_SS _ _ _ R_aRows hb_aRows (HC_aRows.out.on HW3.out)).mono ?_); rintro e w6 ⟨a_t5, c_t5, f_t5, rfl, o_t5, nd_t5, ge_t5, bb⟩)
  have HW7 := Lib.hid (on_of HW3.out bb)
  have sz8 := bb.size
  have HO_t5 := Lib.hid o_t5
  have lt_t5 : ∀ b ∈ f_t5, b < w6.heap.size := o_t5.lt
  clear o_t5 bb
  go_wp2_with fail
  ((with_reducible refine (rowsok_spec _ _ _ R_aRows  (by omega) (by omega) (rr_of HO_t5.out)).mono ?_); rintro e w9 ⟨rfl, bb⟩)
  have HO_t5 := Lib.hid (HO_t5.out.under bb)
  have HW10 := Lib.hid (on_of HW7.out bb)
  have sz11 := bb.size
  clear bb
  go_wp2_with fail
  ((with_reducible refine (to_SS _ _ _ R_aRows hb_aRows (HC_aRows.out.on HW10.out)).mono ?_); rintro e w12 ⟨a_x0, c_x0, f_x0, rfl, o_x0, nd_x0, ge_x0, bb⟩)
  have HO_t5 := Lib.hid (HO_t5.out.under bb)
  have HW13 := Lib.hid (on_of HW10.out bb)
  have sz14 := bb.size
  have HO_x0 := Lib.hid o_x0
  have lt_x0 : ∀ b ∈ f_x0, b < w12.heap.size := o_x0.lt
  clear o_x0 bb
  go_wp2_with fail
  ((with_reducible refine (rowsok_impl _ _ _ R_aRows  (by omega) (by omega) (rr_of HO_x0.out)).mono ?_); rintro e w15 ⟨rfl, bb⟩)
  have HO_t5 := Lib.hid (HO_t5.out.under bb)
  have HO_x0 := Lib.hid (HO_x0.out.under bb)
  have HW16 := Lib.hid (on_of HW13.out bb)
  have sz17 := bb.size
  clear bb
  go_wp2_with fail
  ((with_reducible refine (to_SS _ _ _ R_aRows hb_aRows (HC_aRows.out.on HW16.out)).mono ?_); rintro e w19 ⟨a_t18, c_t18, f_t18, rfl, o_t18, nd_t18, ge_t18, bb⟩)
  have HO_t5 := Lib.hid (HO_t5.out.under bb)
  have HO_x0 := Lib.hid (HO_x0.out.under bb)
  have HW20 := Lib.hid (on_of HW16.out bb)
  have sz21 := bb.size
  have HO_t18 := Lib.hid o_t18
  have lt_t18 : ∀ b ∈ f_t18, b < w19.heap.size := o_t18.lt
  clear o_t18 bb
  go_wp2_with fail
  ((with_reducible refine (eq_SS _ hb_aRows HO_x0.out HO_t18.out).mono ?_); rintro e w22 ⟨rfl, bb⟩)
  have HO_t5 := Lib.hid (HO_t5.out.under bb)
  have HO_x0 := Lib.hid (HO_x0.out.under bb)
  have HO_t18 := Lib.hid (HO_t18.out.under bb)
  have HW23 := Lib.hid (on_of HW20.out bb)
  have sz24 := bb.size
  clear bb
  go_wp2
  go_ret
  exact ⟨rfl, HW23.out⟩
/-! ### THE ROW's STEP -/
set_option maxRecDepth 100000 in
theorem lifted (os : Os) (started : os.Started) (H : Type) (enc : TypeId × Value → H) :
    ReturnsInHanded {} Try.checked os 5 .any (Rows.fnExactRowsOkSpec.pre6 enc Try.prog Try.f5 Rows.fnExactRowsOkRow.domain false) (Rows.fnExactRowsOkSpec.post enc Try.prog Try.f5 false true false false) := by
  refine returnsInHanded_of_change (C := Try.checked) own started (by kernel_rfl) Try.func5
    (ChangeSpec.witness6 (enc := enc) (C := Try.checked) false ⟨#[], #[.slice none 0 0], []⟩ 8 (by kernel_rfl) (by kernel_rfl) (by kernel_rfl) (by kernel_rfl)) ?_
  intro W base args ds gs before hval0 hW hcnd _
  have hval : ∀ (j : Nat) t v, Try.f5.params[j]? = some t → args[j]? = some v → Value.okWide Try.prog W .any base t v := hval0
  have hW' := hW
  obtain ⟨p, q, hA0, hV, rfl, hfz, hnd⟩ := hW
  have hA : DataW.TrodAll enc Try.prog W 0 (fun _ => true) true Try.f5.params.toList args.toList ds p := hA0
  rw [Try.params5] at hA hval
  obtain ⟨v0, vs0, d0, ds0, p0, q0, hargs, rfl, rfl, h0, r0⟩ := trodAll_cons hA
  obtain ⟨rfl, rfl, rfl⟩ := trodAll_nil r0
  obtain rfl : args = #[v0] := by cases args; simp_all
  obtain ⟨rfl, rfl⟩ := trodVars_none hV
  have k0 := h0
  have lt0 : ∀ x ∈ p0, x.block < W.heap.size := by obtain ⟨m, hm⟩ := k0; exact DataW.trod_lt m _ _ _ hm
  obtain ⟨b0, l0, p0c, rfl⟩ := okWide_slice Try.underlying24 (hval 0 24 v0 rfl rfl)
  obtain ⟨a0, wa0⟩ : ∃ d, Own.Came W (.sl (.sl (.int))) [.slice b0 l0 p0c] d := by
    obtain ⟨fuel, hf⟩ := h0
    exact Own.came_of (.sl (.sl (.int))) 24 fuel _ _ (by kernel_rfl) hf
  clear hA0 hval0
  refine (walk W b0 l0 p0c a0 wa0).mono fun e W' ⟨he, bel⟩ => ?_
  subst he
  exact ⟨_, rfl, _, _, _, [], _, [], hW', trodAll_mk1 (shut_bool Try.underlying4 _), (trodAll_cons_mk (Below.trod laidOut (by kernel_rfl) (of_decide_eq_true (by kernel_rfl)) k0 bel lt0) trodAll_mk0), rfl, bel.frame _, fun h => by cases h⟩
theorem over : Rows.fnExactRowsOkRow.holds Try.pinned (OpenSpec.ofChange Rows.fnExactRowsOkSpec) :=
  OpenClaim.holds_of_wide 5 Try.f5 rfl rfl rfl rfl rfl rfl rfl ⟨rfl, rfl, rfl, rfl, rfl⟩ rfl rfl rfl rfl rfl (by kernel_rfl) Try.func5 (by kernel_rfl)
    (of_decide_eq_true (by kernel_rfl)) (by unfold Func.isWrapper; first | (rw [if_pos (by decide +kernel)]; kernel_rfl) | (rw [if_neg (by decide +kernel)]; exact ⟨rfl, rfl⟩))
    (fun os started H enc _ => lifted os started H enc)
theorem proved : Rows.FnExactRowsOkSaid := over
#print axioms proved
end Go.Proofs.Ytifmdgncgokikaa.fnExactRowsOk
