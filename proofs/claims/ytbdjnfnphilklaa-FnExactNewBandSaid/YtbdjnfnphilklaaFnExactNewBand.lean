/-
  The law FnExactNewBand holds of every argument: NewBand answers as its model does, every field, and owns what it answers. No condition.
  The frame of the proof was written by a tool of this repo after the guide's shells; the walk is this text's own.
-/
import Derived.Test.YtbdjnfnphilklaaRows
import Derived.WalkKit
import Derived.ProofKit
import Derived.OpenShut
import Derived.ShutString
import Derived.ChangeOld
import Derived.ChangeArms
import Derived.Below
import Derived.Handy
import Derived.Lib.SmallJoins
import Derived.Lib.Hide
import Derived.Deep.RegionHeld3
import Derived.Deep.DeepCutAuto
import Derived.BigQuiet
import Derived.Deep.QuietTactic
import Derived.Test.YtbdjnfnphilklaaP38
import Derived.Test.YtbdjnfnphilklaaP40
import Derived.Test.YtbdjnfnphilklaaP36
namespace Go.Proofs.Ytbdjnfnphilklaa.fnExactNewBand
open Go.ChangeShapes Go.WideShapes Go.ChangeAt Go.RowKit
open Go.ChangeMaps (open_string shut_string)
open Kit
open Slabs
open Go.Proofs.Ytbdjnfnphilklaa.Own
set_option linter.unusedVariables false
set_option linter.unusedSimpArgs false
theorem own : ownKnob Try.prog.godebug = none := by kernel_rfl
theorem laidOut : laidOutB Try.prog = true := by kernel_rfl
attribute [local go_sem ↓] hstore_Object hload_Object hloadL_Object hstore_Band hload_Band hloadL_Band
set_option maxRecDepth 100000 in
set_option maxHeartbeats 8000000 in
theorem walk (w : World) (a0 : Int) (wa0 : (Lit.int .i64 a0).wf = true) (a1 : Int) (wa1 : (Lit.int .i64 a1).wf = true) :
    Calls Try.prog 4 #[.int .i64 a0, .int .i64 a1] w fun e w' => e = .returned (.bool true) ∧ Below w.heap.size w w' := by
  have HW0 := Lib.hid (Below.refl w.heap.size w)
  go_enter Try.func4, Try.ntmps4
  go_wp2_with fail
  ((with_reducible refine (spec_NewBand _ a0 a1).mono ?_); rintro e w2 ⟨R_r1, f_r1, rfl, o_r1, nd_r1, ge_r1, b_r1⟩)
  have HW3 := Lib.hid (on_of HW0.out b_r1)
  have sz4 := b_r1.size
  have hb_res : bulkL ((nbD a0 a1).dt) ≤ 1048576 := nbD_le _ _
  have hc_res : 1 + cnt0L ((nbD a0 a1).dt) ≤ 1000000000 := marks_bound o_r1 (by decide) hb_res
  have lt_w0 : ∀ b ∈ f_r1, b < w2.heap.size := o_r1.lt
  have ge_w0 := ge_r1
  have nd_w0 := nd_r1
  obtain ⟨E5, st_w0, BX, cx, zx⟩ := var_new (P := Try.prog) (T := 32) Try.sizeOf32 w2 #[.int .i64 0, .int .i64 0, .slice none 0 0, .slice none 0 0] rfl o_r1 rfl
  have HO_w0 := Lib.hid o_r1
  have HW6 := Lib.hid (on_of HW3.out cx)
  have sz7 := cx.size
  have HO_w0 := Lib.hid (HO_w0.out.under cx)
  have HB_w0 := Lib.hid BX
  obtain ⟨X_w0, hX_w0⟩ : ∃ X, w2.heap.size = X := ⟨_, rfl⟩
  have xl_w0 := Nat.le_of_eq hX_w0
  have xu_w0 := Nat.le_of_eq hX_w0.symm
  rw [hX_w0] at st_w0 HB_w0 zx
  have zz_w0 := zx
  clear BX cx zx
  go_wp2_with fail
  clear st_w0
  clear hX_w0
  ((with_reducible refine (impl_NewBand _ a0 a1).mono ?_); rintro e w9 ⟨R_r8, f_r8, rfl, o_r8, nd_r8, ge_r8, b_r8⟩)
  have HB_w0 := Lib.hid (HB_w0.out.keep b_r8)
  have HO_w0 := Lib.hid (HO_w0.out.under b_r8)
  have HW10 := Lib.hid (on_of HW6.out b_r8)
  have sz11 := b_r8.size
  have lt_g0 : ∀ b ∈ f_r8, b < w9.heap.size := o_r8.lt
  have ge_g0 := ge_r8
  have nd_g0 := nd_r8
  obtain ⟨E12, st_g0, BX, cx, zx⟩ := var_new (P := Try.prog) (T := 32) Try.sizeOf32 w9 #[.int .i64 0, .int .i64 0, .slice none 0 0, .slice none 0 0] rfl o_r8 rfl
  have HO_g0 := Lib.hid o_r8
  have HB_w0 := Lib.hid (HB_w0.out.keep cx)
  have HO_w0 := Lib.hid (HO_w0.out.under cx)
  have HW13 := Lib.hid (on_of HW10.out cx)
  have sz14 := cx.size
  have HO_g0 := Lib.hid (HO_g0.out.under cx)
  have HB_g0 := Lib.hid BX
  obtain ⟨X_g0, hX_g0⟩ : ∃ X, w9.heap.size = X := ⟨_, rfl⟩
  have xl_g0 := Nat.le_of_eq hX_g0
  have xu_g0 := Nat.le_of_eq hX_g0.symm
  rw [hX_g0] at st_g0 HB_g0 zx
  have zz_g0 := zx
  clear BX cx zx
  have l_g0 := var_load (P := Try.prog) (T := 32) Try.isAgg32 Try.sizeOf32 HB_g0.out HO_g0.out rfl
  have l_w0 := var_load (P := Try.prog) (T := 32) Try.isAgg32 Try.sizeOf32 HB_w0.out HO_w0.out rfl
  go_wp2_with fail
  clear st_g0 l_g0 l_w0
  clear hX_g0
  ((with_reducible refine (eq_Band _ hb_res HO_g0.out HO_w0.out).mono ?_); rintro e w15 ⟨rfl, bb⟩)
  have HB_w0 := Lib.hid (HB_w0.out.keep bb)
  have HO_w0 := Lib.hid (HO_w0.out.under bb)
  have HB_g0 := Lib.hid (HB_g0.out.keep bb)
  have HO_g0 := Lib.hid (HO_g0.out.under bb)
  have HW16 := Lib.hid (on_of HW13.out bb)
  have sz17 := bb.size
  clear bb
  have l_g0 := var_load (P := Try.prog) (T := 32) Try.isAgg32 Try.sizeOf32 HB_g0.out HO_g0.out rfl
  obtain ⟨M_g0, hM_g0⟩ : ∃ M, 1 + cnt0L ((nbD a0 a1).dt) = M := ⟨_, rfl⟩
  have hp_g0 : ¬ ((M_g0 : Int) < 0) := by omega
  go_wp2_with fail
  clear l_g0
  ((refine (mark_Band _ 1 hb_res (by omega) hc_res HO_g0.out nd_g0).mono ?_); rintro e w18 ⟨rfl, mm, tt⟩)
  rw [hM_g0]
  have HB_w0 := Lib.hid (HB_w0.out.turned tt (fun hb => by have := ge_g0 _ hb; have := lt_g0 _ hb; omega))
  have HO_w0 := Lib.hid (HO_w0.out.turned tt (fun b hb hc => by have := ge_w0 b hb; have := lt_w0 b hb; have := ge_g0 b hc; have := lt_g0 b hc; omega))
  have HB_g0 := Lib.hid (HB_g0.out.turned tt (fun hb => by have := ge_g0 _ hb; have := lt_g0 _ hb; omega))
  have HW19 := Lib.hid (tt.low HW16.out HW16.out.size (fun b hb => by have := ge_g0 b hb; omega))
  have sz20 := tt.size
  have HD_g0 := Lib.hid HO_g0.out
  have HO_g0 := Lib.hid mm
  clear mm tt
  have l_g0 := var_load (P := Try.prog) (T := 32) Try.isAgg32 Try.sizeOf32 HB_g0.out HO_g0.out rfl
  go_wp2_with fail
  clear l_g0
  ((refine (held_Band _ 1 hb_res (by omega) hc_res HD_g0.out HO_g0.out).mono ?_); rintro e w21 ⟨rfl, bb⟩)
  rw [hM_g0]
  have HB_w0 := Lib.hid (HB_w0.out.keep bb)
  have HO_w0 := Lib.hid (HO_w0.out.under bb)
  have HB_g0 := Lib.hid (HB_g0.out.keep bb)
  have HO_g0 := Lib.hid (HO_g0.out.under bb)
  have HW22 := Lib.hid (on_of HW19.out bb)
  have sz23 := bb.size
  clear bb
  go_wp2_with fail
  ((with_reducible refine (impl_NewBand _ a0 a1).mono ?_); rintro e w25 ⟨R_r24, f_r24, rfl, o_r24, nd_r24, ge_r24, b_r24⟩)
  have HB_w0 := Lib.hid (HB_w0.out.keep b_r24)
  have HO_w0 := Lib.hid (HO_w0.out.under b_r24)
  have HB_g0 := Lib.hid (HB_g0.out.keep b_r24)
  have HO_g0 := Lib.hid (HO_g0.out.under b_r24)
  have HW26 := Lib.hid (on_of HW22.out b_r24)
  have sz27 := b_r24.size
  have lt_h0 : ∀ b ∈ f_r24, b < w25.heap.size := o_r24.lt
  have ge_h0 := ge_r24
  have nd_h0 := nd_r24
  obtain ⟨E28, st_h0, BX, cx, zx⟩ := var_new (P := Try.prog) (T := 32) Try.sizeOf32 w25 #[.int .i64 0, .int .i64 0, .slice none 0 0, .slice none 0 0] rfl o_r24 rfl
  have HO_h0 := Lib.hid o_r24
  have HB_w0 := Lib.hid (HB_w0.out.keep cx)
  have HO_w0 := Lib.hid (HO_w0.out.under cx)
  have HB_g0 := Lib.hid (HB_g0.out.keep cx)
  have HO_g0 := Lib.hid (HO_g0.out.under cx)
  have HW29 := Lib.hid (on_of HW26.out cx)
  have sz30 := cx.size
  have HO_h0 := Lib.hid (HO_h0.out.under cx)
  have HB_h0 := Lib.hid BX
  obtain ⟨X_h0, hX_h0⟩ : ∃ X, w25.heap.size = X := ⟨_, rfl⟩
  have xl_h0 := Nat.le_of_eq hX_h0
  have xu_h0 := Nat.le_of_eq hX_h0.symm
  rw [hX_h0] at st_h0 HB_h0 zx
  have zz_h0 := zx
  clear BX cx zx
  have l_h0 := var_load (P := Try.prog) (T := 32) Try.isAgg32 Try.sizeOf32 HB_h0.out HO_h0.out rfl
  have l_w0 := var_load (P := Try.prog) (T := 32) Try.isAgg32 Try.sizeOf32 HB_w0.out HO_w0.out rfl
  go_wp2_with fail
  clear st_h0 l_h0 l_w0
  clear hX_h0
  ((with_reducible refine (eq_Band _ hb_res HO_h0.out HO_w0.out).mono ?_); rintro e w31 ⟨rfl, bb⟩)
  have HB_w0 := Lib.hid (HB_w0.out.keep bb)
  have HO_w0 := Lib.hid (HO_w0.out.under bb)
  have HB_g0 := Lib.hid (HB_g0.out.keep bb)
  have HO_g0 := Lib.hid (HO_g0.out.under bb)
  have HB_h0 := Lib.hid (HB_h0.out.keep bb)
  have HO_h0 := Lib.hid (HO_h0.out.under bb)
  have HW32 := Lib.hid (on_of HW29.out bb)
  have sz33 := bb.size
  clear bb
  have l_g0 := var_load (P := Try.prog) (T := 32) Try.isAgg32 Try.sizeOf32 HB_g0.out HO_g0.out rfl
  go_wp2_with fail
  clear l_g0
  ((refine (held_Band _ 1 hb_res (by omega) hc_res HD_g0.out HO_g0.out).mono ?_); rintro e w34 ⟨rfl, bb⟩)
  rw [hM_g0]
  have HB_w0 := Lib.hid (HB_w0.out.keep bb)
  have HO_w0 := Lib.hid (HO_w0.out.under bb)
  have HB_g0 := Lib.hid (HB_g0.out.keep bb)
  have HO_g0 := Lib.hid (HO_g0.out.under bb)
  have HB_h0 := Lib.hid (HB_h0.out.keep bb)
  have HO_h0 := Lib.hid (HO_h0.out.under bb)
  have HW35 := Lib.hid (on_of HW32.out bb)
  have sz36 := bb.size
  clear bb
  go_wp2
  go_ret
  exact ⟨rfl, HW35.out⟩
/-! ### THE ROW's STEP -/
set_option maxRecDepth 100000 in
theorem lifted (os : Os) (started : os.Started) (H : Type) (enc : TypeId × Value → H) :
    ReturnsInHanded {} Try.checked os 4 .any (Rows.fnExactNewBandSpec.pre6 enc Try.prog Try.f4 Rows.fnExactNewBandRow.domain false) (Rows.fnExactNewBandSpec.post enc Try.prog Try.f4 false true false false) := by
  refine returnsInHanded_of_change (C := Try.checked) own started (by kernel_rfl) Try.func4
    (ChangeSpec.witness6 (enc := enc) (C := Try.checked) false ⟨#[], #[.int .i64 0, .int .i64 0], []⟩ 8 (by kernel_rfl) (by kernel_rfl) (by kernel_rfl) (by kernel_rfl)) ?_
  intro W base args ds gs before hval0 hW hcnd _
  have hval : ∀ (j : Nat) t v, Try.f4.params[j]? = some t → args[j]? = some v → Value.okWide Try.prog W .any base t v := hval0
  have hW' := hW
  obtain ⟨p, q, hA0, hV, rfl, hfz, hnd⟩ := hW
  have hA : DataW.TrodAll enc Try.prog W 0 (fun _ => true) true Try.f4.params.toList args.toList ds p := hA0
  rw [Try.params4] at hA hval
  obtain ⟨v0, vs0, d0, ds0, p0, q0, hargs, rfl, rfl, h0, r0⟩ := trodAll_cons hA
  obtain ⟨v1, vs1, d1, ds1, p1, q1, rfl, rfl, rfl, h1, r1⟩ := trodAll_cons r0
  obtain ⟨rfl, rfl, rfl⟩ := trodAll_nil r1
  obtain rfl : args = #[v0, v1] := by cases args; simp_all
  obtain ⟨rfl, rfl⟩ := trodVars_none hV
  have k0 := h0
  have lt0 : ∀ x ∈ p0, x.block < W.heap.size := by obtain ⟨m, hm⟩ := k0; exact DataW.trod_lt m _ _ _ hm
  have k1 := h1
  have lt1 : ∀ x ∈ p1, x.block < W.heap.size := by obtain ⟨m, hm⟩ := k1; exact DataW.trod_lt m _ _ _ hm
  obtain ⟨a0, rfl, rfl, rfl, wa0⟩ := open_int Try.underlying3 (hval 0 3 v0 rfl rfl) h0
  obtain ⟨a1, rfl, rfl, rfl, wa1⟩ := open_int Try.underlying3 (hval 1 3 v1 rfl rfl) h1
  clear hA0 hval0
  refine (walk W a0 wa0 a1 wa1).mono fun e W' ⟨he, bel⟩ => ?_
  subst he
  exact ⟨_, rfl, _, _, _, [], _, [], hW', trodAll_mk1 (shut_bool Try.underlying4 _), (trodAll_cons_mk (Below.trod laidOut (by kernel_rfl) (of_decide_eq_true (by kernel_rfl)) k0 bel lt0) (trodAll_cons_mk (Below.trod laidOut (by kernel_rfl) (of_decide_eq_true (by kernel_rfl)) k1 bel lt1) trodAll_mk0)), rfl, bel.frame _, fun h => by cases h⟩
theorem over : Rows.fnExactNewBandRow.holds Try.pinned (OpenSpec.ofChange Rows.fnExactNewBandSpec) :=
  OpenClaim.holds_of_wide 4 Try.f4 rfl rfl rfl rfl rfl rfl rfl ⟨rfl, rfl, rfl, rfl, rfl⟩ rfl rfl rfl rfl rfl (by kernel_rfl) Try.func4 (by kernel_rfl)
    (of_decide_eq_true (by kernel_rfl)) (by unfold Func.isWrapper; first | (rw [if_pos (by decide +kernel)]; kernel_rfl) | (rw [if_neg (by decide +kernel)]; exact ⟨rfl, rfl⟩))
    (fun os started H enc _ => lifted os started H enc)
theorem proved : Rows.FnExactNewBandSaid := over
#print axioms proved
end Go.Proofs.Ytbdjnfnphilklaa.fnExactNewBand
