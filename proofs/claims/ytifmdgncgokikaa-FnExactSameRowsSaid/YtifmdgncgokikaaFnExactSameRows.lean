/-
  The law FnExactSameRows holds of every two arguments: the program's SameRows answers as the model does and leaves its arguments as they were. No condition (the law itself returns true where the arguments take more than 1048576 cells).
  The frame of the proof was written by a tool of this repo after the guide's shells; the walk is this text's own.
-/
import Derived.Test.YtifmdgncgokikaaRows
import Derived.WalkKit
import Derived.ProofKit
import Derived.OpenShut
import Derived.ShutString
import Derived.ChangeOld
import Derived.ChangeArms
import Derived.Below
import Derived.Handy
import Derived.Lib.SmallJoins
import Derived.Lib.Hide
import Derived.Deep.RegionHeld3
import Derived.Deep.DeepCutAuto
import Derived.BigQuiet
import Derived.Deep.QuietTactic
import Derived.Test.YtifmdgncgokikaaP44
namespace Go.Proofs.Ytifmdgncgokikaa.fnExactSameRows
open Go.ChangeShapes Go.WideShapes Go.ChangeAt Go.RowKit
open Go.ChangeMaps (open_string shut_string)
open Kit
open Slabs
open Go.Proofs.Ytifmdgncgokikaa.Own
set_option linter.unusedVariables false
set_option linter.unusedSimpArgs false
theorem own : ownKnob Try.prog.godebug = none := by kernel_rfl
theorem laidOut : laidOutB Try.prog = true := by kernel_rfl
set_option maxHeartbeats 4000000 in
theorem walk (w : World) (b0 : Option Addr) (l0 p0c : Nat) (a0 : Own.Dt) (wa0 : Own.Came w (.sl (.sl (.int))) [.slice b0 l0 p0c] a0) (b1 : Option Addr) (l1 p1c : Nat) (a1 : Own.Dt) (wa1 : Own.Came w (.sl (.sl (.int))) [.slice b1 l1 p1c] a1) :
    Calls Try.prog 8 #[.slice b0 l0 p0c, .slice b1 l1 p1c] w fun e w' => e = .returned (.bool true) ∧ Below w.heap.size w w' := by
  have HW0 := Lib.hid (Below.refl w.heap.size w)
  obtain ⟨R_aA, rfl, rfl, hm_aA, hr_aA, rr_aA⟩ := came_ss wa0
  have HC_aA := Lib.hid rr_aA
  have HM_aA := Lib.hid (And.intro hm_aA hr_aA)
  clear wa0 rr_aA hm_aA hr_aA
  obtain ⟨R_aB, rfl, rfl, hm_aB, hr_aB, rr_aB⟩ := came_ss wa1
  have HC_aB := Lib.hid rr_aB
  have HM_aB := Lib.hid (And.intro hm_aB hr_aB)
  clear wa1 rr_aB hm_aB hr_aB
  go_enter Try.func8, Try.ntmps8
  obtain ⟨Y1, hY1⟩ : ∃ Y, szv 1048576 (R_aA.length + tot R_aA) = Y := ⟨_, rfl⟩
  go_wp2_with fail
  ((with_reducible refine (sz_SS _ (HC_aA.out.on HW0.out) HM_aA.out.1 HM_aA.out.2 1048576 (by omega) (by omega)).mono ?_); rintro e w2 ⟨rfl, bb⟩)
  rw [hY1]
  have HW3 := Lib.hid (on_of HW0.out bb)
  have sz4 := bb.size
  clear bb
  by_cases neg_Y1 : Y1 < 0
  · go_wp2
    go_ret
    exact ⟨rfl, HW3.out⟩
  have hb_aA : R_aA.length + tot R_aA ≤ 1048576 := by rw [← hY1] at neg_Y1; unfold szv at neg_Y1; split at neg_Y1 <;> omega
  have pos_Y1 : 0 ≤ Y1 := by omega
  have top_Y1 : Y1 ≤ 1048576 := by have := szv_le (a := R_aA.length + tot R_aA) (show 0 ≤ (1048576 : Int) by omega); rw [hY1] at this; omega
  clear hY1
  obtain ⟨Y5, hY5⟩ : ∃ Y, szv Y1 (R_aB.length + tot R_aB) = Y := ⟨_, rfl⟩
  go_wp2_with fail
  ((with_reducible refine (sz_SS _ (HC_aB.out.on HW3.out) HM_aB.out.1 HM_aB.out.2 Y1 (by omega) (by omega)).mono ?_); rintro e w6 ⟨rfl, bb⟩)
  rw [hY5]
  have HW7 := Lib.hid (on_of HW3.out bb)
  have sz8 := bb.size
  clear bb
  by_cases neg_Y5 : Y5 < 0
  · go_wp2
    go_ret
    exact ⟨rfl, HW7.out⟩
  have hb_aB : R_aB.length + tot R_aB ≤ 1048576 := by rw [← hY5] at neg_Y5; unfold szv at neg_Y5; split at neg_Y5 <;> omega
  have pos_Y5 : 0 ≤ Y5 := by omega
  have top_Y5 : Y5 ≤ 1048576 := by have := szv_le (a := R_aB.length + tot R_aB) (show 0 ≤ (Y1 : Int) by omega); rw [hY5] at this; omega
  clear hY5
  go_wp2_with fail
  ((with_reducible refine (to_SS _ _ _ R_aA hb_aA (HC_aA.out.on HW7.out)).mono ?_); rintro e w10 ⟨a_t9, c_t9, f_t9, rfl, o_t9, nd_t9, ge_t9, bb⟩)
  have HW11 := Lib.hid (on_of HW7.out bb)
  have sz12 := bb.size
  have HO_t9 := Lib.hid o_t9
  have lt_t9 : ∀ b ∈ f_t9, b < w10.heap.size := o_t9.lt
  clear o_t9 bb
  go_wp2_with fail
  ((with_reducible refine (to_SS _ _ _ R_aB hb_aB (HC_aB.out.on HW11.out)).mono ?_); rintro e w14 ⟨a_t13, c_t13, f_t13, rfl, o_t13, nd_t13, ge_t13, bb⟩)
  have HO_t9 := Lib.hid (HO_t9.out.under bb)
  have HW15 := Lib.hid (on_of HW11.out bb)
  have sz16 := bb.size
  have HO_t13 := Lib.hid o_t13
  have lt_t13 : ∀ b ∈ f_t13, b < w14.heap.size := o_t13.lt
  clear o_t13 bb
  go_wp2_with fail
  ((with_reducible refine (same_spec _ _ _ _ _ R_aA R_aB  (by omega) (by omega) (by omega) (by omega) (rr_of HO_t9.out) (rr_of HO_t13.out)).mono ?_); rintro e w17 ⟨rfl, bb⟩)
  have HO_t9 := Lib.hid (HO_t9.out.under bb)
  have HO_t13 := Lib.hid (HO_t13.out.under bb)
  have HW18 := Lib.hid (on_of HW15.out bb)
  have sz19 := bb.size
  clear bb
  go_wp2_with fail
  ((with_reducible refine (to_SS _ _ _ R_aA hb_aA (HC_aA.out.on HW18.out)).mono ?_); rintro e w20 ⟨a_x0, c_x0, f_x0, rfl, o_x0, nd_x0, ge_x0, bb⟩)
  have HO_t9 := Lib.hid (HO_t9.out.under bb)
  have HO_t13 := Lib.hid (HO_t13.out.under bb)
  have HW21 := Lib.hid (on_of HW18.out bb)
  have sz22 := bb.size
  have HO_x0 := Lib.hid o_x0
  have lt_x0 : ∀ b ∈ f_x0, b < w20.heap.size := o_x0.lt
  clear o_x0 bb
  go_wp2_with fail
  ((with_reducible refine (to_SS _ _ _ R_aB hb_aB (HC_aB.out.on HW21.out)).mono ?_); rintro e w23 ⟨a_x1, c_x1, f_x1, rfl, o_x1, nd_x1, ge_x1, bb⟩)
  have HO_t9 := Lib.hid (HO_t9.out.under bb)
  have HO_t13 := Lib.hid (HO_t13.out.under bb)
  have HO_x0 := Lib.hid (HO_x0.out.under bb)
  have HW24 := Lib.hid (on_of HW21.out bb)
  have sz25 := bb.size
  have HO_x1 := Lib.hid o_x1
  have lt_x1 : ∀ b ∈ f_x1, b < w23.heap.size := o_x1.lt
  clear o_x1 bb
  go_wp2_with fail
  ((with_reducible refine (same_impl _ _ _ _ _ R_aA R_aB  (by omega) (by omega) (by omega) (by omega) (rr_of HO_x0.out) (rr_of HO_x1.out)).mono ?_); rintro e w26 ⟨rfl, bb⟩)
  have HO_t9 := Lib.hid (HO_t9.out.under bb)
  have HO_t13 := Lib.hid (HO_t13.out.under bb)
  have HO_x0 := Lib.hid (HO_x0.out.under bb)
  have HO_x1 := Lib.hid (HO_x1.out.under bb)
  have HW27 := Lib.hid (on_of HW24.out bb)
  have sz28 := bb.size
  clear bb
  go_wp2_with fail
  ((with_reducible refine (to_SS _ _ _ R_aA hb_aA (HC_aA.out.on HW27.out)).mono ?_); rintro e w30 ⟨a_t29, c_t29, f_t29, rfl, o_t29, nd_t29, ge_t29, bb⟩)
  have HO_t9 := Lib.hid (HO_t9.out.under bb)
  have HO_t13 := Lib.hid (HO_t13.out.under bb)
  have HO_x0 := Lib.hid (HO_x0.out.under bb)
  have HO_x1 := Lib.hid (HO_x1.out.under bb)
  have HW31 := Lib.hid (on_of HW27.out bb)
  have sz32 := bb.size
  have HO_t29 := Lib.hid o_t29
  have lt_t29 : ∀ b ∈ f_t29, b < w30.heap.size := o_t29.lt
  clear o_t29 bb
  go_wp2_with fail
  ((with_reducible refine (eq_SS _ hb_aA HO_x0.out HO_t29.out).mono ?_); rintro e w33 ⟨rfl, bb⟩)
  have HO_t9 := Lib.hid (HO_t9.out.under bb)
  have HO_t13 := Lib.hid (HO_t13.out.under bb)
  have HO_x0 := Lib.hid (HO_x0.out.under bb)
  have HO_x1 := Lib.hid (HO_x1.out.under bb)
  have HO_t29 := Lib.hid (HO_t29.out.under bb)
  have HW34 := Lib.hid (on_of HW31.out bb)
  have sz35 := bb.size
  clear bb
  go_wp2_with fail
  ((with_reducible refine (to_SS _ _ _ R_aB hb_aB (HC_aB.out.on HW34.out)).mono ?_); rintro e w37 ⟨a_t36, c_t36, f_t36, rfl, o_t36, nd_t36, ge_t36, bb⟩)
  have HO_t9 := Lib.hid (HO_t9.out.under bb)
  have HO_t13 := Lib.hid (HO_t13.out.under bb)
  have HO_x0 := Lib.hid (HO_x0.out.under bb)
  have HO_x1 := Lib.hid (HO_x1.out.under bb)
  have HO_t29 := Lib.hid (HO_t29.out.under bb)
  have HW38 := Lib.hid (on_of HW34.out bb)
  have sz39 := bb.size
  have HO_t36 := Lib.hid o_t36
  have lt_t36 : ∀ b ∈ f_t36, b < w37.heap.size := o_t36.lt
  clear o_t36 bb
  go_wp2_with fail
  ((with_reducible refine (eq_SS _ hb_aB HO_x1.out HO_t36.out).mono ?_); rintro e w40 ⟨rfl, bb⟩)
  have HO_t9 := Lib.hid (HO_t9.out.under bb)
  have HO_t13 := Lib.hid (HO_t13.out.under bb)
  have HO_x0 := Lib.hid (HO_x0.out.under bb)
  have HO_x1 := Lib.hid (HO_x1.out.under bb)
  have HO_t29 := Lib.hid (HO_t29.out.under bb)
  have HO_t36 := Lib.hid (HO_t36.out.under bb)
  have HW41 := Lib.hid (on_of HW38.out bb)
  have sz42 := bb.size
  clear bb
  go_wp2
  go_ret
  exact ⟨rfl, HW41.out⟩
/-! ### THE ROW's STEP -/
set_option maxRecDepth 100000 in
theorem lifted (os : Os) (started : os.Started) (H : Type) (enc : TypeId × Value → H) :
    ReturnsInHanded {} Try.checked os 8 .any (Rows.fnExactSameRowsSpec.pre6 enc Try.prog Try.f8 Rows.fnExactSameRowsRow.domain false) (Rows.fnExactSameRowsSpec.post enc Try.prog Try.f8 false true false false) := by
  refine returnsInHanded_of_change (C := Try.checked) own started (by kernel_rfl) Try.func8
    (ChangeSpec.witness6 (enc := enc) (C := Try.checked) false ⟨#[], #[.slice none 0 0, .slice none 0 0], []⟩ 8 (by kernel_rfl) (by kernel_rfl) (by kernel_rfl) (by kernel_rfl)) ?_
  intro W base args ds gs before hval0 hW hcnd _
  have hval : ∀ (j : Nat) t v, Try.f8.params[j]? = some t → args[j]? = some v → Value.okWide Try.prog W .any base t v := hval0
  have hW' := hW
  obtain ⟨p, q, hA0, hV, rfl, hfz, hnd⟩ := hW
  have hA : DataW.TrodAll enc Try.prog W 0 (fun _ => true) true Try.f8.params.toList args.toList ds p := hA0
  rw [Try.params8] at hA hval
  obtain ⟨v0, vs0, d0, ds0, p0, q0, hargs, rfl, rfl, h0, r0⟩ := trodAll_cons hA
  obtain ⟨v1, vs1, d1, ds1, p1, q1, rfl, rfl, rfl, h1, r1⟩ := trodAll_cons r0
  obtain ⟨rfl, rfl, rfl⟩ := trodAll_nil r1
  obtain rfl : args = #[v0, v1] := by cases args; simp_all
  obtain ⟨rfl, rfl⟩ := trodVars_none hV
  have k0 := h0
  have lt0 : ∀ x ∈ p0, x.block < W.heap.size := by obtain ⟨m, hm⟩ := k0; exact DataW.trod_lt m _ _ _ hm
  have k1 := h1
  have lt1 : ∀ x ∈ p1, x.block < W.heap.size := by obtain ⟨m, hm⟩ := k1; exact DataW.trod_lt m _ _ _ hm
  obtain ⟨b0, l0, p0c, rfl⟩ := okWide_slice Try.underlying24 (hval 0 24 v0 rfl rfl)
  obtain ⟨a0, wa0⟩ : ∃ d, Own.Came W (.sl (.sl (.int))) [.slice b0 l0 p0c] d := by
    obtain ⟨fuel, hf⟩ := h0
    exact Own.came_of (.sl (.sl (.int))) 24 fuel _ _ (by kernel_rfl) hf
  obtain ⟨b1, l1, p1c, rfl⟩ := okWide_slice Try.underlying24 (hval 1 24 v1 rfl rfl)
  obtain ⟨a1, wa1⟩ : ∃ d, Own.Came W (.sl (.sl (.int))) [.slice b1 l1 p1c] d := by
    obtain ⟨fuel, hf⟩ := h1
    exact Own.came_of (.sl (.sl (.int))) 24 fuel _ _ (by kernel_rfl) hf
  clear hA0 hval0
  refine (walk W b0 l0 p0c a0 wa0 b1 l1 p1c a1 wa1).mono fun e W' ⟨he, bel⟩ => ?_
  subst he
  exact ⟨_, rfl, _, _, _, [], _, [], hW', trodAll_mk1 (shut_bool Try.underlying4 _), (trodAll_cons_mk (Below.trod laidOut (by kernel_rfl) (of_decide_eq_true (by kernel_rfl)) k0 bel lt0) (trodAll_cons_mk (Below.trod laidOut (by kernel_rfl) (of_decide_eq_true (by kernel_rfl)) k1 bel lt1) trodAll_mk0)), rfl, bel.frame _, fun h => by cases h⟩
theorem over : Rows.fnExactSameRowsRow.holds Try.pinned (OpenSpec.ofChange Rows.fnExactSameRowsSpec) :=
  OpenClaim.holds_of_wide 8 Try.f8 rfl rfl rfl rfl rfl rfl rfl ⟨rfl, rfl, rfl, rfl, rfl⟩ rfl rfl rfl rfl rfl (by kernel_rfl) Try.func8 (by kernel_rfl)
    (of_decide_eq_true (by kernel_rfl)) (by unfold Func.isWrapper; first | (rw [if_pos (by decide +kernel)]; kernel_rfl) | (rw [if_neg (by decide +kernel)]; exact ⟨rfl, rfl⟩))
    (fun os started H enc _ => lifted os started H enc)
theorem proved : Rows.FnExactSameRowsSaid := over
#print axioms proved
end Go.Proofs.Ytifmdgncgokikaa.fnExactSameRows
