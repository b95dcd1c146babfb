/-
  The law FnExactMergeBand holds of every argument: MergeBand answers as its model does, every field, leaves its argument as it was and owns what it answers. No condition (the law itself returns true at more than 1048576 elements).
  The frame of the proof was written by a tool of this repo after the guide's shells; the walk is this text's own.
-/
import Derived.Test.YtbdjnfnphilklaaGreatRows
import Derived.WalkKit
import Derived.ProofKit
import Derived.OpenShut
import Derived.ShutString
import Derived.ChangeOld
import Derived.ChangeArms
import Derived.Below
import Derived.Handy
import Derived.Lib.SmallJoins
import Derived.Lib.Hide
import Derived.Deep.RegionHeld3
import Derived.Deep.DeepCutAuto
import Derived.BigQuiet
import Derived.Deep.QuietTactic
import Derived.Test.YtbdjnfnphilklaaGreatV45
import Derived.Test.YtbdjnfnphilklaaGreatV44
import Derived.Test.YtbdjnfnphilklaaGreatV43
import Derived.Test.YtbdjnfnphilklaaGreatV32
import Derived.Test.YtbdjnfnphilklaaGreatV16
import Derived.Test.YtbdjnfnphilklaaGreatV40
namespace Go.Proofs.YtbdjnfnphilklaaGreat.fnExactMergeBand
open Go.ChangeShapes Go.WideShapes Go.ChangeAt Go.RowKit
open Go.ChangeMaps (open_string shut_string)
open Kit
open Slabs
open Go.Proofs.YtbdjnfnphilklaaGreat.Own
set_option linter.unusedVariables false
set_option linter.unusedSimpArgs false
theorem own : ownKnob Tryz.prog.godebug = none := by kernel_rfl
theorem laidOut : laidOutB Tryz.prog = true := by kernel_rfl
attribute [local go_sem ↓] hstore_Object hload_Object hloadL_Object hstore_Band hload_Band hloadL_Band
set_option maxRecDepth 100000 in
set_option maxHeartbeats 8000000 in
theorem walk (w : World) (c0 : Array Value) (a0 : Own.Dt) (wa0 : Own.Came w (.st [.int, .int, .sl (.sl (.int)), .sl (.st [.sl (.st [.int, .int]), .int, .st [.int, .int, .int, .int]])]) c0.toList a0) :
    Calls Tryz.prog 4 #[.agg c0] w fun e w' => e = .returned (.bool true) ∧ Below w.heap.size w w' := by
  have HW0 := Lib.hid (Below.refl w.heap.size w)
  obtain ⟨ds_aB, hC_aB⟩ := came_st (ks := LBand) wa0 rfl
  have HC_aB := Lib.hid hC_aB
  clear hC_aB wa0
  go_enter Tryz.func4, Tryz.ntmps4
  have bx_aB : Blk (w.alloc (.cells c0 36)) w.heap.size c0.toList := Blk.new _ _ _ rfl
  have hw0 : Below w.heap.size w (w.alloc (.cells c0 36)) := by go_grown
  have HB_aB := Lib.hid bx_aB
  have HWb := Lib.hid hw0
  clear hw0 bx_aB
  obtain ⟨Y1, hY1⟩ : ∃ Y, szv 1048576 (bulkL ds_aB) = Y := ⟨_, rfl⟩
  have l_aB := varC_load (P := Tryz.prog) (T := 36) Tryz.isAgg36 Tryz.sizeOf36 HB_aB.out HC_aB.out rfl
  go_wp2_with fail
  clear l_aB
  ((with_reducible refine (sz_Band _ (HC_aB.out.on HWb.out) 1048576 (by omega) (by omega)).mono ?_); rintro e w2 ⟨rfl, bb⟩)
  rw [hY1]
  have HB_aB := Lib.hid (HB_aB.out.keep bb)
  have HW3 := Lib.hid (on_of HWb.out bb)
  have sz4 := bb.size
  clear bb
  obtain ⟨X_aB, hX_aB⟩ : ∃ X, w.heap.size = X := ⟨_, rfl⟩
  have HB_aB := Lib.hid (show Blk w2 X_aB (c0.toList) from hX_aB ▸ HB_aB.out)
  have zz_aB : X_aB < w2.heap.size := HB_aB.out.2.2
  try simp only [hX_aB]
  by_cases neg_Y1 : Y1 < 0
  · go_wp2
    go_ret
    exact ⟨rfl, HW3.out⟩
  have hb_aB : (bulkL ds_aB) ≤ 1048576 := by rw [← hY1] at neg_Y1; unfold szv at neg_Y1; split at neg_Y1 <;> omega
  have pos_Y1 : 0 ≤ Y1 := by omega
  have top_Y1 : Y1 ≤ 1048576 := by have := szv_le (a := (bulkL ds_aB)) (show 0 ≤ (1048576 : Int) by omega); rw [hY1] at this; omega
  have l_aB := varC_load (P := Tryz.prog) (T := 36) Tryz.isAgg36 Tryz.sizeOf36 HB_aB.out HC_aB.out rfl
  go_wp2_with fail
  clear l_aB
  ((with_reducible refine (to_Band _ hb_aB (HC_aB.out.on HW3.out)).mono ?_); rintro e w6 ⟨R_r5, f_r5, rfl, o_r5, nd_r5, ge_r5, b_r5⟩)
  have HB_aB := Lib.hid (HB_aB.out.keep b_r5)
  have HW7 := Lib.hid (on_of HW3.out b_r5)
  have sz8 := b_r5.size
  have HO_tr5 := Lib.hid o_r5
  clear o_r5 b_r5
  have HDd := Lib.hid (bd_dt HO_tr5.out)
  go_wp2_with fail
  ((with_reducible refine (spec_MergeBand _ hb_aB HO_tr5.out).mono ?_); rintro e w10 ⟨R_r9, f_r9, rfl, o_r9, nd_r9, ge_r9, b_r9⟩)
  have HB_aB := Lib.hid (HB_aB.out.keep b_r9)
  have HO_tr5 := Lib.hid (HO_tr5.out.under b_r9)
  have HW11 := Lib.hid (on_of HW7.out b_r9)
  have sz12 := b_r9.size
  have hb_res : bulkL ((mgD (bdOf ds_aB)).dt) ≤ 1048576 := mgD_le HDd.out hb_aB
  have hc_res : 1 + cnt0L ((mgD (bdOf ds_aB)).dt) ≤ 1000000000 := marks_bound o_r9 (by decide) hb_res
  have lt_w0 : ∀ b ∈ f_r9, b < w10.heap.size := o_r9.lt
  have ge_w0 := ge_r9
  have nd_w0 := nd_r9
  obtain ⟨E13, st_w0, BX, cx, zx⟩ := var_new (P := Tryz.prog) (T := 27) Tryz.sizeOf27 w10 #[.int .i64 0, .int .i64 0, .slice none 0 0, .slice none 0 0] rfl o_r9 rfl
  have HO_w0 := Lib.hid o_r9
  have HB_aB := Lib.hid (HB_aB.out.keep cx)
  have HW14 := Lib.hid (on_of HW11.out cx)
  have sz15 := cx.size
  have HO_w0 := Lib.hid (HO_w0.out.under cx)
  have HB_w0 := Lib.hid BX
  obtain ⟨X_w0, hX_w0⟩ : ∃ X, w10.heap.size = X := ⟨_, rfl⟩
  have xl_w0 := Nat.le_of_eq hX_w0
  have xu_w0 := Nat.le_of_eq hX_w0.symm
  rw [hX_w0] at st_w0 HB_w0 zx
  have zz_w0 := zx
  clear BX cx zx
  have l_aB := varC_load (P := Tryz.prog) (T := 36) Tryz.isAgg36 Tryz.sizeOf36 HB_aB.out HC_aB.out rfl
  go_wp2_with fail
  clear st_w0 l_aB
  clear hX_w0
  ((with_reducible refine (to_Band _ hb_aB (HC_aB.out.on HW14.out)).mono ?_); rintro e w17 ⟨R_r16, f_r16, rfl, o_r16, nd_r16, ge_r16, b_r16⟩)
  have HB_aB := Lib.hid (HB_aB.out.keep b_r16)
  have HB_w0 := Lib.hid (HB_w0.out.keep b_r16)
  have HO_w0 := Lib.hid (HO_w0.out.under b_r16)
  have HW18 := Lib.hid (on_of HW14.out b_r16)
  have sz19 := b_r16.size
  have lt_x0 : ∀ b ∈ f_r16, b < w17.heap.size := o_r16.lt
  have ge_x0 := ge_r16
  have nd_x0 := nd_r16
  obtain ⟨E20, st_x0, BX, cx, zx⟩ := var_new (P := Tryz.prog) (T := 27) Tryz.sizeOf27 w17 #[.int .i64 0, .int .i64 0, .slice none 0 0, .slice none 0 0] rfl o_r16 rfl
  have HO_x0 := Lib.hid o_r16
  have HB_aB := Lib.hid (HB_aB.out.keep cx)
  have HB_w0 := Lib.hid (HB_w0.out.keep cx)
  have HO_w0 := Lib.hid (HO_w0.out.under cx)
  have HW21 := Lib.hid (on_of HW18.out cx)
  have sz22 := cx.size
  have HO_x0 := Lib.hid (HO_x0.out.under cx)
  have HB_x0 := Lib.hid BX
  obtain ⟨X_x0, hX_x0⟩ : ∃ X, w17.heap.size = X := ⟨_, rfl⟩
  have xl_x0 := Nat.le_of_eq hX_x0
  have xu_x0 := Nat.le_of_eq hX_x0.symm
  rw [hX_x0] at st_x0 HB_x0 zx
  have zz_x0 := zx
  clear BX cx zx
  have l_x0 := var_load (P := Tryz.prog) (T := 27) Tryz.isAgg27 Tryz.sizeOf27 HB_x0.out HO_x0.out rfl
  go_wp2_with fail
  clear st_x0 l_x0
  clear hX_x0
  ((with_reducible refine (impl_MergeBand _ hb_aB HO_x0.out).mono ?_); rintro e w24 ⟨R_r23, f_r23, rfl, o_r23, nd_r23, ge_r23, b_r23⟩)
  have HB_aB := Lib.hid (HB_aB.out.keep b_r23)
  have HB_w0 := Lib.hid (HB_w0.out.keep b_r23)
  have HO_w0 := Lib.hid (HO_w0.out.under b_r23)
  have HB_x0 := Lib.hid (HB_x0.out.keep b_r23)
  have HO_x0 := Lib.hid (HO_x0.out.under b_r23)
  have HW25 := Lib.hid (on_of HW21.out b_r23)
  have sz26 := b_r23.size
  have lt_g0 : ∀ b ∈ f_r23, b < w24.heap.size := o_r23.lt
  have ge_g0 := ge_r23
  have nd_g0 := nd_r23
  obtain ⟨E27, st_g0, BX, cx, zx⟩ := var_new (P := Tryz.prog) (T := 27) Tryz.sizeOf27 w24 #[.int .i64 0, .int .i64 0, .slice none 0 0, .slice none 0 0] rfl o_r23 rfl
  have HO_g0 := Lib.hid o_r23
  have HB_aB := Lib.hid (HB_aB.out.keep cx)
  have HB_w0 := Lib.hid (HB_w0.out.keep cx)
  have HO_w0 := Lib.hid (HO_w0.out.under cx)
  have HB_x0 := Lib.hid (HB_x0.out.keep cx)
  have HO_x0 := Lib.hid (HO_x0.out.under cx)
  have HW28 := Lib.hid (on_of HW25.out cx)
  have sz29 := cx.size
  have HO_g0 := Lib.hid (HO_g0.out.under cx)
  have HB_g0 := Lib.hid BX
  obtain ⟨X_g0, hX_g0⟩ : ∃ X, w24.heap.size = X := ⟨_, rfl⟩
  have xl_g0 := Nat.le_of_eq hX_g0
  have xu_g0 := Nat.le_of_eq hX_g0.symm
  rw [hX_g0] at st_g0 HB_g0 zx
  have zz_g0 := zx
  clear BX cx zx
  have l_g0 := var_load (P := Tryz.prog) (T := 27) Tryz.isAgg27 Tryz.sizeOf27 HB_g0.out HO_g0.out rfl
  have l_w0 := var_load (P := Tryz.prog) (T := 27) Tryz.isAgg27 Tryz.sizeOf27 HB_w0.out HO_w0.out rfl
  go_wp2_with fail
  clear st_g0 l_g0 l_w0
  clear hX_g0
  ((with_reducible refine (eq_Band _ hb_res HO_g0.out HO_w0.out).mono ?_); rintro e w30 ⟨rfl, bb⟩)
  have HB_aB := Lib.hid (HB_aB.out.keep bb)
  have HB_w0 := Lib.hid (HB_w0.out.keep bb)
  have HO_w0 := Lib.hid (HO_w0.out.under bb)
  have HB_x0 := Lib.hid (HB_x0.out.keep bb)
  have HO_x0 := Lib.hid (HO_x0.out.under bb)
  have HB_g0 := Lib.hid (HB_g0.out.keep bb)
  have HO_g0 := Lib.hid (HO_g0.out.under bb)
  have HW31 := Lib.hid (on_of HW28.out bb)
  have sz32 := bb.size
  clear bb
  have LA := Lib.hid (fun W (hW : Below w30.heap.size w30 W) => varC_load (P := Tryz.prog) (T := 36) Tryz.isAgg36 Tryz.sizeOf36 (HB_aB.out.keep hW) HC_aB.out rfl)
  have LX := Lib.hid (fun W (hW : Below w30.heap.size w30 W) => var_load (P := Tryz.prog) (T := 27) Tryz.isAgg27 Tryz.sizeOf27 (HB_x0.out.keep hW) HO_x0.out rfl)
  go_wp2_with fail
  go_region_held3 (fun w' => (hload 36 ⟨X_aB, 0, none⟩).run Tryz.prog w' = .ok (.agg c0) w' ∧ (hload 27 ⟨X_x0, 0, none⟩).run Tryz.prog w' = .ok (.agg R_r16) w' ∧ Below w30.heap.size w30 w') (first | exact ⟨LA.out _ hB, LX.out _ hB, hB⟩ | exact ⟨LA.out _ (by go_grown), LX.out _ (by go_grown), by go_grown⟩)
    (first
      | (go_at_call 16; (with_reducible refine (to_Band _ hb_aB (HC_aB.out.on (on_of HW31.out (by go_grown)))).mono ?_); rintro e w33 ⟨R3, f3, rfl, o3, n3, g3, b6⟩; have hB := on_of (W := w30) (by go_grown) b6; have HO3 := Lib.hid o3; clear o3)
      | (go_at_call 17; (with_reducible refine (eq_Band _ hb_aB (HO_x0.out.under hB) HO3.out).mono ?_); rintro e w34 ⟨rfl, b7⟩; have hB := on_of hB b7))
  have bb := hB
  clear hB b6 b7 LA LX HO3 g3 n3
  have HB_aB := Lib.hid (HB_aB.out.keep bb)
  have HB_w0 := Lib.hid (HB_w0.out.keep bb)
  have HO_w0 := Lib.hid (HO_w0.out.under bb)
  have HB_x0 := Lib.hid (HB_x0.out.keep bb)
  have HO_x0 := Lib.hid (HO_x0.out.under bb)
  have HB_g0 := Lib.hid (HB_g0.out.keep bb)
  have HO_g0 := Lib.hid (HO_g0.out.under bb)
  have HW35 := Lib.hid (on_of HW31.out bb)
  have sz36 := bb.size
  clear bb
  have l_x0 := var_load (P := Tryz.prog) (T := 27) Tryz.isAgg27 Tryz.sizeOf27 HB_x0.out HO_x0.out rfl
  have hc_x0 : 1 + cnt0L (ds_aB) ≤ 1000000000 := marks_bound HO_x0.out (by decide) hb_aB
  obtain ⟨M_x0, hM_x0⟩ : ∃ M, 1 + cnt0L (ds_aB) = M := ⟨_, rfl⟩
  have hp_x0 : ¬ ((M_x0 : Int) < 0) := by omega
  go_wp2_with fail
  clear l_x0
  ((refine (mark_Band _ 1 hb_aB (by omega) hc_x0 HO_x0.out nd_x0).mono ?_); rintro e w37 ⟨rfl, mm, tt⟩)
  rw [hM_x0]
  have HB_aB := Lib.hid (HB_aB.out.turned tt (fun hb => by have := ge_x0 _ hb; have := lt_x0 _ hb; omega))
  have HB_w0 := Lib.hid (HB_w0.out.turned tt (fun hb => by have := ge_x0 _ hb; have := lt_x0 _ hb; omega))
  have HO_w0 := Lib.hid (HO_w0.out.turned tt (fun b hb hc => by have := ge_w0 b hb; have := lt_w0 b hb; have := ge_x0 b hc; have := lt_x0 b hc; omega))
  have HB_x0 := Lib.hid (HB_x0.out.turned tt (fun hb => by have := ge_x0 _ hb; have := lt_x0 _ hb; omega))
  have HB_g0 := Lib.hid (HB_g0.out.turned tt (fun hb => by have := ge_x0 _ hb; have := lt_x0 _ hb; omega))
  have HO_g0 := Lib.hid (HO_g0.out.turned tt (fun b hb hc => by have := ge_g0 b hb; have := lt_g0 b hb; have := ge_x0 b hc; have := lt_x0 b hc; omega))
  have HW38 := Lib.hid (tt.low HW35.out HW35.out.size (fun b hb => by have := ge_x0 b hb; omega))
  have sz39 := tt.size
  have HD_x0 := Lib.hid HO_x0.out
  have HO_x0 := Lib.hid mm
  clear mm tt
  have l_g0 := var_load (P := Tryz.prog) (T := 27) Tryz.isAgg27 Tryz.sizeOf27 HB_g0.out HO_g0.out rfl
  have l_w0 := var_load (P := Tryz.prog) (T := 27) Tryz.isAgg27 Tryz.sizeOf27 HB_w0.out HO_w0.out rfl
  go_wp2_with fail
  clear l_g0 l_w0
  ((with_reducible refine (eq_Band _ hb_res HO_g0.out HO_w0.out).mono ?_); rintro e w40 ⟨rfl, bb⟩)
  have HB_aB := Lib.hid (HB_aB.out.keep bb)
  have HB_w0 := Lib.hid (HB_w0.out.keep bb)
  have HO_w0 := Lib.hid (HO_w0.out.under bb)
  have HB_x0 := Lib.hid (HB_x0.out.keep bb)
  have HO_x0 := Lib.hid (HO_x0.out.under bb)
  have HB_g0 := Lib.hid (HB_g0.out.keep bb)
  have HO_g0 := Lib.hid (HO_g0.out.under bb)
  have HW41 := Lib.hid (on_of HW38.out bb)
  have sz42 := bb.size
  clear bb
  have l_g0 := var_load (P := Tryz.prog) (T := 27) Tryz.isAgg27 Tryz.sizeOf27 HB_g0.out HO_g0.out rfl
  obtain ⟨M_g0, hM_g0⟩ : ∃ M, 1 + cnt0L ((mgD (bdOf ds_aB)).dt) = M := ⟨_, rfl⟩
  have hp_g0 : ¬ ((M_g0 : Int) < 0) := by omega
  go_wp2_with fail
  clear l_g0
  ((refine (mark_Band _ 1 hb_res (by omega) hc_res HO_g0.out nd_g0).mono ?_); rintro e w43 ⟨rfl, mm, tt⟩)
  rw [hM_g0]
  have HB_aB := Lib.hid (HB_aB.out.turned tt (fun hb => by have := ge_g0 _ hb; have := lt_g0 _ hb; omega))
  have HB_w0 := Lib.hid (HB_w0.out.turned tt (fun hb => by have := ge_g0 _ hb; have := lt_g0 _ hb; omega))
  have HO_w0 := Lib.hid (HO_w0.out.turned tt (fun b hb hc => by have := ge_w0 b hb; have := lt_w0 b hb; have := ge_g0 b hc; have := lt_g0 b hc; omega))
  have HB_x0 := Lib.hid (HB_x0.out.turned tt (fun hb => by have := ge_g0 _ hb; have := lt_g0 _ hb; omega))
  have HO_x0 := Lib.hid (HO_x0.out.turned tt (fun b hb hc => by have := ge_x0 b hb; have := lt_x0 b hb; have := ge_g0 b hc; have := lt_g0 b hc; omega))
  have HB_g0 := Lib.hid (HB_g0.out.turned tt (fun hb => by have := ge_g0 _ hb; have := lt_g0 _ hb; omega))
  have HW44 := Lib.hid (tt.low HW41.out HW41.out.size (fun b hb => by have := ge_g0 b hb; omega))
  have sz45 := tt.size
  have HD_g0 := Lib.hid HO_g0.out
  have HO_g0 := Lib.hid mm
  clear mm tt
  have l_g0 := var_load (P := Tryz.prog) (T := 27) Tryz.isAgg27 Tryz.sizeOf27 HB_g0.out HO_g0.out rfl
  go_wp2_with fail
  clear l_g0
  ((refine (held_Band _ 1 hb_res (by omega) hc_res HD_g0.out HO_g0.out).mono ?_); rintro e w46 ⟨rfl, bb⟩)
  rw [hM_g0]
  have HB_aB := Lib.hid (HB_aB.out.keep bb)
  have HB_w0 := Lib.hid (HB_w0.out.keep bb)
  have HO_w0 := Lib.hid (HO_w0.out.under bb)
  have HB_x0 := Lib.hid (HB_x0.out.keep bb)
  have HO_x0 := Lib.hid (HO_x0.out.under bb)
  have HB_g0 := Lib.hid (HB_g0.out.keep bb)
  have HO_g0 := Lib.hid (HO_g0.out.under bb)
  have HW47 := Lib.hid (on_of HW44.out bb)
  have sz48 := bb.size
  clear bb
  have l_aB := varC_load (P := Tryz.prog) (T := 36) Tryz.isAgg36 Tryz.sizeOf36 HB_aB.out HC_aB.out rfl
  go_wp2_with fail
  clear l_aB
  ((with_reducible refine (to_Band _ hb_aB (HC_aB.out.on HW47.out)).mono ?_); rintro e w50 ⟨R_r49, f_r49, rfl, o_r49, nd_r49, ge_r49, b_r49⟩)
  have HB_aB := Lib.hid (HB_aB.out.keep b_r49)
  have HB_w0 := Lib.hid (HB_w0.out.keep b_r49)
  have HO_w0 := Lib.hid (HO_w0.out.under b_r49)
  have HB_x0 := Lib.hid (HB_x0.out.keep b_r49)
  have HO_x0 := Lib.hid (HO_x0.out.under b_r49)
  have HB_g0 := Lib.hid (HB_g0.out.keep b_r49)
  have HO_g0 := Lib.hid (HO_g0.out.under b_r49)
  have HW51 := Lib.hid (on_of HW47.out b_r49)
  have sz52 := b_r49.size
  have HO_tr49 := Lib.hid o_r49
  clear o_r49 b_r49
  go_wp2_with fail
  ((with_reducible refine (impl_MergeBand _ hb_aB HO_tr49.out).mono ?_); rintro e w54 ⟨R_r53, f_r53, rfl, o_r53, nd_r53, ge_r53, b_r53⟩)
  have HB_aB := Lib.hid (HB_aB.out.keep b_r53)
  have HB_w0 := Lib.hid (HB_w0.out.keep b_r53)
  have HO_w0 := Lib.hid (HO_w0.out.under b_r53)
  have HB_x0 := Lib.hid (HB_x0.out.keep b_r53)
  have HO_x0 := Lib.hid (HO_x0.out.under b_r53)
  have HB_g0 := Lib.hid (HB_g0.out.keep b_r53)
  have HO_g0 := Lib.hid (HO_g0.out.under b_r53)
  have HO_tr49 := Lib.hid (HO_tr49.out.under b_r53)
  have HW55 := Lib.hid (on_of HW51.out b_r53)
  have sz56 := b_r53.size
  have lt_h0 : ∀ b ∈ f_r53, b < w54.heap.size := o_r53.lt
  have ge_h0 := ge_r53
  have nd_h0 := nd_r53
  obtain ⟨E57, st_h0, BX, cx, zx⟩ := var_new (P := Tryz.prog) (T := 27) Tryz.sizeOf27 w54 #[.int .i64 0, .int .i64 0, .slice none 0 0, .slice none 0 0] rfl o_r53 rfl
  have HO_h0 := Lib.hid o_r53
  have HB_aB := Lib.hid (HB_aB.out.keep cx)
  have HB_w0 := Lib.hid (HB_w0.out.keep cx)
  have HO_w0 := Lib.hid (HO_w0.out.under cx)
  have HB_x0 := Lib.hid (HB_x0.out.keep cx)
  have HO_x0 := Lib.hid (HO_x0.out.under cx)
  have HB_g0 := Lib.hid (HB_g0.out.keep cx)
  have HO_g0 := Lib.hid (HO_g0.out.under cx)
  have HW58 := Lib.hid (on_of HW55.out cx)
  have sz59 := cx.size
  have HO_h0 := Lib.hid (HO_h0.out.under cx)
  have HB_h0 := Lib.hid BX
  obtain ⟨X_h0, hX_h0⟩ : ∃ X, w54.heap.size = X := ⟨_, rfl⟩
  have xl_h0 := Nat.le_of_eq hX_h0
  have xu_h0 := Nat.le_of_eq hX_h0.symm
  rw [hX_h0] at st_h0 HB_h0 zx
  have zz_h0 := zx
  clear BX cx zx
  have l_h0 := var_load (P := Tryz.prog) (T := 27) Tryz.isAgg27 Tryz.sizeOf27 HB_h0.out HO_h0.out rfl
  have l_w0 := var_load (P := Tryz.prog) (T := 27) Tryz.isAgg27 Tryz.sizeOf27 HB_w0.out HO_w0.out rfl
  go_wp2_with fail
  clear st_h0 l_h0 l_w0
  clear hX_h0
  ((with_reducible refine (eq_Band _ hb_res HO_h0.out HO_w0.out).mono ?_); rintro e w60 ⟨rfl, bb⟩)
  have HB_aB := Lib.hid (HB_aB.out.keep bb)
  have HB_w0 := Lib.hid (HB_w0.out.keep bb)
  have HO_w0 := Lib.hid (HO_w0.out.under bb)
  have HB_x0 := Lib.hid (HB_x0.out.keep bb)
  have HO_x0 := Lib.hid (HO_x0.out.under bb)
  have HB_g0 := Lib.hid (HB_g0.out.keep bb)
  have HO_g0 := Lib.hid (HO_g0.out.under bb)
  have HB_h0 := Lib.hid (HB_h0.out.keep bb)
  have HO_h0 := Lib.hid (HO_h0.out.under bb)
  have HW61 := Lib.hid (on_of HW58.out bb)
  have sz62 := bb.size
  clear bb
  have l_g0 := var_load (P := Tryz.prog) (T := 27) Tryz.isAgg27 Tryz.sizeOf27 HB_g0.out HO_g0.out rfl
  go_wp2_with fail
  clear l_g0
  ((refine (held_Band _ 1 hb_res (by omega) hc_res HD_g0.out HO_g0.out).mono ?_); rintro e w63 ⟨rfl, bb⟩)
  rw [hM_g0]
  have HB_aB := Lib.hid (HB_aB.out.keep bb)
  have HB_w0 := Lib.hid (HB_w0.out.keep bb)
  have HO_w0 := Lib.hid (HO_w0.out.under bb)
  have HB_x0 := Lib.hid (HB_x0.out.keep bb)
  have HO_x0 := Lib.hid (HO_x0.out.under bb)
  have HB_g0 := Lib.hid (HB_g0.out.keep bb)
  have HO_g0 := Lib.hid (HO_g0.out.under bb)
  have HB_h0 := Lib.hid (HB_h0.out.keep bb)
  have HO_h0 := Lib.hid (HO_h0.out.under bb)
  have HW64 := Lib.hid (on_of HW61.out bb)
  have sz65 := bb.size
  clear bb
  go_wp2
  go_ret
  exact ⟨rfl, HW64.out⟩
/-! ### THE ROW's STEP -/
set_option maxRecDepth 100000 in
theorem lifted (os : Os) (started : os.Started) (H : Type) (enc : TypeId × Value → H) :
    ReturnsInHanded {} Tryz.checked os 4 .any (Rows.fnExactMergeBandSpec.pre6 enc Tryz.prog Tryz.f4 Rows.fnExactMergeBandRow.domain false) (Rows.fnExactMergeBandSpec.post enc Tryz.prog Tryz.f4 false true false false) := by
  refine returnsInHanded_of_change (C := Tryz.checked) own started (by kernel_rfl) Tryz.func4
    (ChangeSpec.witness6 (enc := enc) (C := Tryz.checked) false ⟨#[], #[.agg #[.int .i64 0, .int .i64 0, .slice none 0 0, .slice none 0 0]], []⟩ 8 (by kernel_rfl) (by kernel_rfl) (by kernel_rfl) (by kernel_rfl)) ?_
  intro W base args ds gs before hval0 hW hcnd _
  have hval : ∀ (j : Nat) t v, Tryz.f4.params[j]? = some t → args[j]? = some v → Value.okWide Tryz.prog W .any base t v := hval0
  have hW' := hW
  obtain ⟨p, q, hA0, hV, rfl, hfz, hnd⟩ := hW
  have hA : DataW.TrodAll enc Tryz.prog W 0 (fun _ => true) true Tryz.f4.params.toList args.toList ds p := hA0
  rw [Tryz.params4] at hA hval
  obtain ⟨v0, vs0, d0, ds0, p0, q0, hargs, rfl, rfl, h0, r0⟩ := trodAll_cons hA
  obtain ⟨rfl, rfl, rfl⟩ := trodAll_nil r0
  obtain rfl : args = #[v0] := by cases args; simp_all
  obtain ⟨rfl, rfl⟩ := trodVars_none hV
  have k0 := h0
  have lt0 : ∀ x ∈ p0, x.block < W.heap.size := by obtain ⟨m, hm⟩ := k0; exact DataW.trod_lt m _ _ _ hm
  obtain ⟨c0, rfl, _⟩ := okWide_struct Tryz.underlying36 (hval 0 36 v0 rfl rfl)
  obtain ⟨a0, wa0⟩ : ∃ d, Own.Came W (.st [.int, .int, .sl (.sl (.int)), .sl (.st [.sl (.st [.int, .int]), .int, .st [.int, .int, .int, .int]])]) c0.toList d := by
    obtain ⟨fuel, hf⟩ := h0
    exact Own.came_of (.st [.int, .int, .sl (.sl (.int)), .sl (.st [.sl (.st [.int, .int]), .int, .st [.int, .int, .int, .int]])]) 36 fuel _ _ (by kernel_rfl) hf
  clear hA0 hval0
  refine (walk W c0 a0 wa0).mono fun e W' ⟨he, bel⟩ => ?_
  subst he
  exact ⟨_, rfl, _, _, _, [], _, [], hW', trodAll_mk1 (shut_bool Tryz.underlying4 _), (trodAll_cons_mk (Below.trod laidOut (by kernel_rfl) (of_decide_eq_true (by kernel_rfl)) k0 bel lt0) trodAll_mk0), rfl, bel.frame _, fun h => by cases h⟩
theorem over : Rows.fnExactMergeBandRow.holds Tryz.pinned (OpenSpec.ofChange Rows.fnExactMergeBandSpec) :=
  OpenClaim.holds_of_wide 4 Tryz.f4 rfl rfl rfl rfl rfl rfl rfl ⟨rfl, rfl, rfl, rfl, rfl⟩ rfl rfl rfl rfl rfl (by kernel_rfl) Tryz.func4 (by kernel_rfl)
    (of_decide_eq_true (by kernel_rfl)) (by unfold Func.isWrapper; first | (rw [if_pos (by decide +kernel)]; kernel_rfl) | (rw [if_neg (by decide +kernel)]; exact ⟨rfl, rfl⟩))
    (fun os started H enc _ => lifted os started H enc)
theorem proved : Rows.FnExactMergeBandSaid := over
#print axioms proved
end Go.Proofs.YtbdjnfnphilklaaGreat.fnExactMergeBand
