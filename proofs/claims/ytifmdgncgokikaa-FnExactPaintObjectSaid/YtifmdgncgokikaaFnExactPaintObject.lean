/-
  The law FnExactPaintObject holds of every argument: the program's PaintObject answers as the model does, leaves its arguments as they were, and its rows are shared with nothing. No condition (the law itself returns true where the arguments take more than 1048576 cells).
  The frame of the proof was written by a tool of this repo after the guide's shells; the walk is this text's own.
-/
import Derived.Test.YtifmdgncgokikaaRows
import Derived.WalkKit
import Derived.ProofKit
import Derived.OpenShut
import Derived.ShutString
import Derived.ChangeOld
import Derived.ChangeArms
import Derived.Below
import Derived.Handy
import Derived.Lib.SmallJoins
import Derived.Lib.Hide
import Derived.Deep.RegionHeld3
import Derived.Deep.DeepCutAuto
import Derived.BigQuiet
import Derived.Deep.QuietTactic
import Derived.Test.YtifmdgncgokikaaP44
namespace Go.Proofs.Ytifmdgncgokikaa.fnExactPaintObject
open Go.ChangeShapes Go.WideShapes Go.ChangeAt Go.RowKit
open Go.ChangeMaps (open_string shut_string)
open Kit
open Slabs
open Go.Proofs.Ytifmdgncgokikaa.Own
set_option linter.unusedVariables false
set_option linter.unusedSimpArgs false
theorem own : ownKnob Try.prog.godebug = none := by kernel_rfl
theorem laidOut : laidOutB Try.prog = true := by kernel_rfl
attribute [local go_sem ↓] hstore_Object hload_Object hloadL_Object
set_option maxRecDepth 100000 in
set_option maxHeartbeats 8000000 in
theorem walk (w : World) (b0 : Option Addr) (l0 p0c : Nat) (a0 : Own.Dt) (wa0 : Own.Came w (.sl (.sl (.int))) [.slice b0 l0 p0c] a0) (a1 : Int) (wa1 : (Lit.int .i64 a1).wf = true) (c2 : Array Value) (a2 : Own.Dt) (wa2 : Own.Came w (.st [.sl (.st [.int, .int]), .int, .st [.int, .int, .int, .int]]) c2.toList a2) :
    Calls Try.prog 7 #[.slice b0 l0 p0c, .int .i64 a1, .agg c2] w fun e w' => e = .returned (.bool true) ∧ Below w.heap.size w w' := by
  have HW0 := Lib.hid (Below.refl w.heap.size w)
  obtain ⟨R_aRows, rfl, rfl, hm_aRows, hr_aRows, rr_aRows⟩ := came_ss wa0
  have HC_aRows := Lib.hid rr_aRows
  have HM_aRows := Lib.hid (And.intro hm_aRows hr_aRows)
  clear wa0 rr_aRows hm_aRows hr_aRows
  obtain ⟨ds_aO, hC_aO⟩ := came_st (ks := LObject) wa2 rfl
  have HC_aO := Lib.hid hC_aO
  clear hC_aO wa2
  go_enter Try.func7, Try.ntmps7
  obtain ⟨T, B, hT⟩ : ∃ T B, obPR R_aRows a1 (obOf ds_aO) = T ∧ obPB R_aRows a1 (obOf ds_aO) = B := ⟨_, _, rfl, rfl⟩
  have HT := Lib.hid hT
  clear hT
  have bx_aO : Blk (w.alloc (.cells c2 51)) w.heap.size c2.toList := Blk.new _ _ _ rfl
  have hw0 : Below w.heap.size w (w.alloc (.cells c2 51)) := by go_grown
  have HB_aO := Lib.hid bx_aO
  have HWb := Lib.hid hw0
  clear hw0 bx_aO
  obtain ⟨Y1, hY1⟩ : ∃ Y, szv 1048576 (R_aRows.length + tot R_aRows) = Y := ⟨_, rfl⟩
  go_wp2_with fail
  ((with_reducible refine (sz_SS _ (HC_aRows.out.on HWb.out) HM_aRows.out.1 HM_aRows.out.2 1048576 (by omega) (by omega)).mono ?_); rintro e w2 ⟨rfl, bb⟩)
  rw [hY1]
  have HB_aO := Lib.hid (HB_aO.out.keep bb)
  have HW3 := Lib.hid (on_of HWb.out bb)
  have sz4 := bb.size
  clear bb
  obtain ⟨X_aO, hX_aO⟩ : ∃ X, w.heap.size = X := ⟨_, rfl⟩
  have HB_aO := Lib.hid (show Blk w2 X_aO (c2.toList) from hX_aO ▸ HB_aO.out)
  have zz_aO : X_aO < w2.heap.size := HB_aO.out.2.2
  try simp only [hX_aO]
  by_cases neg_Y1 : Y1 < 0
  · go_wp2
    go_ret
    exact ⟨rfl, HW3.out⟩
  have hb_aRows : R_aRows.length + tot R_aRows ≤ 1048576 := by rw [← hY1] at neg_Y1; unfold szv at neg_Y1; split at neg_Y1 <;> omega
  have pos_Y1 : 0 ≤ Y1 := by omega
  have top_Y1 : Y1 ≤ 1048576 := by have := szv_le (a := R_aRows.length + tot R_aRows) (show 0 ≤ (1048576 : Int) by omega); rw [hY1] at this; omega
  clear hY1
  obtain ⟨Y5, hY5⟩ : ∃ Y, szv Y1 (bulkL ds_aO) = Y := ⟨_, rfl⟩
  have l_aO := varC_load (P := Try.prog) (T := 51) Try.isAgg51 Try.sizeOf51 HB_aO.out HC_aO.out rfl
  go_wp2_with fail
  clear l_aO
  ((with_reducible refine (sz_Object _ (HC_aO.out.on HW3.out) Y1 (by omega) (by omega)).mono ?_); rintro e w6 ⟨rfl, bb⟩)
  rw [hY5]
  have HB_aO := Lib.hid (HB_aO.out.keep bb)
  have HW7 := Lib.hid (on_of HW3.out bb)
  have sz8 := bb.size
  clear bb
  by_cases neg_Y5 : Y5 < 0
  · go_wp2
    go_ret
    exact ⟨rfl, HW7.out⟩
  have hb_aO : (bulkL ds_aO) ≤ 1048576 := by rw [← hY5] at neg_Y5; unfold szv at neg_Y5; split at neg_Y5 <;> omega
  have pos_Y5 : 0 ≤ Y5 := by omega
  have top_Y5 : Y5 ≤ 1048576 := by have := szv_le (a := (bulkL ds_aO)) (show 0 ≤ (Y1 : Int) by omega); rw [hY5] at this; omega
  have L_aO := Lib.hid (fun W (hW : Below w6.heap.size w6 W) => varC_load (P := Try.prog) (T := 51) Try.isAgg51 Try.sizeOf51 (HB_aO.out.keep hW) HC_aO.out rfl)
  go_wp2_with fail
  go_cut [8, 9] (fun s8 s9 wx => ∃ (a : Option Addr) (c : Nat) (f : List Nat), s8 = .slice a T.length c ∧ s9 = .bool B ∧ Go.Proofs.Ytifmdgncgokikaa.Own.Own wx KSS [.slice a T.length c] (.sl (dR T)) f ∧ f.Nodup ∧ (∀ b ∈ f, w6.heap.size ≤ b) ∧ Below w6.heap.size w6 wx)
  case first =>
    go_region_held3 (fun w' => (hload 51 ⟨X_aO, 0, none⟩).run Try.prog w' = .ok (.agg c2) w' ∧ Below w6.heap.size w6 w') (first | exact ⟨L_aO.out _ hE, hE⟩ | exact ⟨L_aO.out _ hB, hB⟩ | exact ⟨L_aO.out _ (by go_grown), (by go_grown)⟩)
      (first
        | (go_at_call 25; (with_reducible refine (to_SS _ _ _ R_aRows hb_aRows (HC_aRows.out.on (on_of HW7.out (by first | exact hB | go_grown)))).mono ?_); rintro e w_aRows ⟨a_aRows, c_aRows, f_aRows, rfl, o_aRows, n_aRows, g_aRows, b_aRows⟩; (try (have HP_aO := Lib.hid ((HP_aO.out.under (by first | exact Below.refl _ _ | go_grown)).under b_aRows))); have hB := on_of (W := w6) (by first | exact hB | go_grown) b_aRows; have hz := hB.size; have HP_aRows := Lib.hid o_aRows; clear o_aRows)
        | (go_at_call 32; (with_reducible refine (to_Object _ hb_aO (HC_aO.out.on (on_of HW7.out (by first | exact hB | go_grown)))).mono ?_); rintro e w_aO ⟨R_aO, f_aO, rfl, o_aO, n_aO, g_aO, b_aO⟩; (try (have HP_aRows := Lib.hid ((HP_aRows.out.under (by first | exact Below.refl _ _ | go_grown)).under b_aO))); have hB := on_of (W := w6) (by first | exact hB | go_grown) b_aO; have hz := hB.size; have HP_aO := Lib.hid o_aO; clear o_aO)
        | (go_at_call 31; (with_reducible refine (spec_PaintObject_ _ hb_aRows (HP_aRows.out.under (by first | exact Below.refl _ _ | go_grown)) a1 hb_aO (HP_aO.out.under (by first | exact Below.refl _ _ | go_grown)) HT.out).mono ?_); rintro e wz ⟨aR, cR, fR, rfl, oR, nR, gR, bz⟩; have hm : w6.heap.size ≤ _ := hB.size; have hE := on_of (W := w6) (by first | exact hB | go_grown) bz; have HR := Lib.hid (And.intro oR (And.intro nR (And.intro (fun b hb => Nat.le_trans (by first | exact hm | (have := hm; go_grown) | (have := hm; simp; omega)) (gR b hb)) hE)))))
    all_goals (go_wp2_with fail; go_meet; exact ⟨_, _, _, rfl, rfl, HR.out⟩)
  case rest =>
    obtain ⟨a_r9, c_r9, f_r9, rfl, rfl, o_r9, nd_r9, ge_r9, b_r9⟩ := hcut
    have HB_aO := Lib.hid (HB_aO.out.keep b_r9)
    have HW10 := Lib.hid (on_of HW7.out b_r9)
    have sz11 := b_r9.size
    have hb_res : T.length + tot T ≤ 1048576 := by have h := HT.out.1; rw [← h]; exact obPR_le _ _ _ hb_aRows
    have lt_w0 : ∀ b ∈ f_r9, b < wc.heap.size := o_r9.lt
    have ge_w0 := ge_r9
    have nd_w0 := nd_r9
    have HO_w0 := Lib.hid o_r9
    clear o_r9 b_r9
    go_wp2_with fail
    ((with_reducible refine (to_SS _ _ _ R_aRows hb_aRows (HC_aRows.out.on HW10.out)).mono ?_); rintro e w13 ⟨a_r12, c_r12, f_r12, rfl, o_r12, nd_r12, ge_r12, b_r12⟩)
    have HB_aO := Lib.hid (HB_aO.out.keep b_r12)
    have HO_w0 := Lib.hid (HO_w0.out.under b_r12)
    have HW14 := Lib.hid (on_of HW10.out b_r12)
    have sz15 := b_r12.size
    have lt_x0 : ∀ b ∈ f_r12, b < w13.heap.size := o_r12.lt
    have ge_x0 := ge_r12
    have nd_x0 := nd_r12
    have HO_x0 := Lib.hid o_r12
    clear o_r12 b_r12
    have l_aO := varC_load (P := Try.prog) (T := 51) Try.isAgg51 Try.sizeOf51 HB_aO.out HC_aO.out rfl
    go_wp2_with fail
    clear l_aO
    ((with_reducible refine (to_Object _ hb_aO (HC_aO.out.on HW14.out)).mono ?_); rintro e w17 ⟨R_r16, f_r16, rfl, o_r16, nd_r16, ge_r16, b_r16⟩)
    have HB_aO := Lib.hid (HB_aO.out.keep b_r16)
    have HO_w0 := Lib.hid (HO_w0.out.under b_r16)
    have HO_x0 := Lib.hid (HO_x0.out.under b_r16)
    have HW18 := Lib.hid (on_of HW14.out b_r16)
    have sz19 := b_r16.size
    have lt_x2 : ∀ b ∈ f_r16, b < w17.heap.size := o_r16.lt
    have ge_x2 := ge_r16
    have nd_x2 := nd_r16
    obtain ⟨E20, st_x2, BX, cx, zx⟩ := var_new (P := Try.prog) (T := 30) Try.sizeOf30 w17 #[.slice none 0 0, .int .i64 0, .int .i64 0, .int .i64 0, .int .i64 0, .int .i64 0] rfl o_r16 rfl
    have HO_x2 := Lib.hid o_r16
    have HB_aO := Lib.hid (HB_aO.out.keep cx)
    have HO_w0 := Lib.hid (HO_w0.out.under cx)
    have HO_x0 := Lib.hid (HO_x0.out.under cx)
    have HW21 := Lib.hid (on_of HW18.out cx)
    have sz22 := cx.size
    have HO_x2 := Lib.hid (HO_x2.out.under cx)
    have HB_x2 := Lib.hid BX
    obtain ⟨X_x2, hX_x2⟩ : ∃ X, w17.heap.size = X := ⟨_, rfl⟩
    have xl_x2 := Nat.le_of_eq hX_x2
    have xu_x2 := Nat.le_of_eq hX_x2.symm
    rw [hX_x2] at st_x2 HB_x2 zx
    have zz_x2 := zx
    clear BX cx zx
    have l_x2 := var_load (P := Try.prog) (T := 30) Try.isAgg30 Try.sizeOf30 HB_x2.out HO_x2.out rfl
    go_wp2_with fail
    clear st_x2 l_x2
    clear hX_x2
    ((with_reducible refine (impl_PaintObject_ _ hb_aRows HO_x0.out a1 hb_aO HO_x2.out HT.out).mono ?_); rintro e w24 ⟨a_r23, c_r23, f_r23, rfl, o_r23, nd_r23, ge_r23, b_r23⟩)
    have HB_aO := Lib.hid (HB_aO.out.keep b_r23)
    have HO_w0 := Lib.hid (HO_w0.out.under b_r23)
    have HO_x0 := Lib.hid (HO_x0.out.under b_r23)
    have HB_x2 := Lib.hid (HB_x2.out.keep b_r23)
    have HO_x2 := Lib.hid (HO_x2.out.under b_r23)
    have HW25 := Lib.hid (on_of HW21.out b_r23)
    have sz26 := b_r23.size
    have lt_g0 : ∀ b ∈ f_r23, b < w24.heap.size := o_r23.lt
    have ge_g0 := ge_r23
    have nd_g0 := nd_r23
    have HO_g0 := Lib.hid o_r23
    clear o_r23 b_r23
    go_wp2_with fail
    ((with_reducible refine (eq_SS _ hb_res HO_g0.out HO_w0.out).mono ?_); rintro e w27 ⟨rfl, bb⟩)
    have HB_aO := Lib.hid (HB_aO.out.keep bb)
    have HO_w0 := Lib.hid (HO_w0.out.under bb)
    have HO_x0 := Lib.hid (HO_x0.out.under bb)
    have HB_x2 := Lib.hid (HB_x2.out.keep bb)
    have HO_x2 := Lib.hid (HO_x2.out.under bb)
    have HO_g0 := Lib.hid (HO_g0.out.under bb)
    have HW28 := Lib.hid (on_of HW25.out bb)
    have sz29 := bb.size
    clear bb
    go_wp2_with fail
    ((with_reducible refine (to_SS _ _ _ R_aRows hb_aRows (HC_aRows.out.on HW28.out)).mono ?_); rintro e w31 ⟨a_r30, c_r30, f_r30, rfl, o_r30, nd_r30, ge_r30, b_r30⟩)
    have HB_aO := Lib.hid (HB_aO.out.keep b_r30)
    have HO_w0 := Lib.hid (HO_w0.out.under b_r30)
    have HO_x0 := Lib.hid (HO_x0.out.under b_r30)
    have HB_x2 := Lib.hid (HB_x2.out.keep b_r30)
    have HO_x2 := Lib.hid (HO_x2.out.under b_r30)
    have HO_g0 := Lib.hid (HO_g0.out.under b_r30)
    have HW32 := Lib.hid (on_of HW28.out b_r30)
    have sz33 := b_r30.size
    have HO_tr30 := Lib.hid o_r30
    clear o_r30 b_r30
    go_wp2_with fail
    ((with_reducible refine (eq_SS _ hb_aRows HO_x0.out HO_tr30.out).mono ?_); rintro e w34 ⟨rfl, bb⟩)
    have HB_aO := Lib.hid (HB_aO.out.keep bb)
    have HO_w0 := Lib.hid (HO_w0.out.under bb)
    have HO_x0 := Lib.hid (HO_x0.out.under bb)
    have HB_x2 := Lib.hid (HB_x2.out.keep bb)
    have HO_x2 := Lib.hid (HO_x2.out.under bb)
    have HO_g0 := Lib.hid (HO_g0.out.under bb)
    have HW35 := Lib.hid (on_of HW32.out bb)
    have sz36 := bb.size
    clear bb
    have LA := Lib.hid (fun W (hW : Below w34.heap.size w34 W) => varC_load (P := Try.prog) (T := 51) Try.isAgg51 Try.sizeOf51 (HB_aO.out.keep hW) HC_aO.out rfl)
    have LX := Lib.hid (fun W (hW : Below w34.heap.size w34 W) => var_load (P := Try.prog) (T := 30) Try.isAgg30 Try.sizeOf30 (HB_x2.out.keep hW) HO_x2.out rfl)
    go_wp2_with fail
    go_region_held3 (fun w' => (hload 51 ⟨X_aO, 0, none⟩).run Try.prog w' = .ok (.agg c2) w' ∧ (hload 30 ⟨X_x2, 0, none⟩).run Try.prog w' = .ok (.agg R_r16) w' ∧ Below w34.heap.size w34 w') (first | exact ⟨LA.out _ hB, LX.out _ hB, hB⟩ | exact ⟨LA.out _ (by go_grown), LX.out _ (by go_grown), by go_grown⟩)
      (first
        | (go_at_call 32; (with_reducible refine (to_Object _ hb_aO (HC_aO.out.on (on_of HW35.out (by go_grown)))).mono ?_); rintro e w37 ⟨R3, f3, rfl, o3, n3, g3, b6⟩; have hB := on_of (W := w34) (by go_grown) b6; have HO3 := Lib.hid o3; clear o3)
        | (go_at_call 33; (with_reducible refine (eq_Object _ hb_aO (HO_x2.out.under hB) HO3.out).mono ?_); rintro e w38 ⟨rfl, b7⟩; have hB := on_of hB b7))
    have bb := hB
    clear hB b6 b7 LA LX HO3 g3 n3
    have HB_aO := Lib.hid (HB_aO.out.keep bb)
    have HO_w0 := Lib.hid (HO_w0.out.under bb)
    have HO_x0 := Lib.hid (HO_x0.out.under bb)
    have HB_x2 := Lib.hid (HB_x2.out.keep bb)
    have HO_x2 := Lib.hid (HO_x2.out.under bb)
    have HO_g0 := Lib.hid (HO_g0.out.under bb)
    have HW39 := Lib.hid (on_of HW35.out bb)
    have sz40 := bb.size
    clear bb
    obtain ⟨M_x0, hM_x0⟩ : ∃ M, 1 + tot R_aRows = M := ⟨_, rfl⟩
    have hp_x0 : ¬ ((M_x0 : Int) < 0) := by omega
    have ht_x0 : M_x0 ≤ 1048577 := by have := hb_aRows; omega
    go_wp2_with fail
    ((refine (mark_SS _ 1 hb_aRows (by omega) HO_x0.out nd_x0).mono ?_); rintro e w41 ⟨rfl, mm, tt⟩)
    rw [hM_x0]
    have HB_aO := Lib.hid (HB_aO.out.turned tt (fun hb => by have := ge_x0 _ hb; have := lt_x0 _ hb; omega))
    have HO_w0 := Lib.hid (HO_w0.out.turned tt (fun b hb hc => by have := ge_w0 b hb; have := lt_w0 b hb; have := ge_x0 b hc; have := lt_x0 b hc; omega))
    have HB_x2 := Lib.hid (HB_x2.out.turned tt (fun hb => by have := ge_x0 _ hb; have := lt_x0 _ hb; omega))
    have HO_x2 := Lib.hid (HO_x2.out.turned tt (fun b hb hc => by have := ge_x2 b hb; have := lt_x2 b hb; have := ge_x0 b hc; have := lt_x0 b hc; omega))
    have HO_g0 := Lib.hid (HO_g0.out.turned tt (fun b hb hc => by have := ge_g0 b hb; have := lt_g0 b hb; have := ge_x0 b hc; have := lt_x0 b hc; omega))
    have HW42 := Lib.hid (tt.low HW39.out HW39.out.size (fun b hb => by have := ge_x0 b hb; omega))
    have sz43 := tt.size
    have HO_x0 := Lib.hid mm
    clear mm tt
    have l_x2 := var_load (P := Try.prog) (T := 30) Try.isAgg30 Try.sizeOf30 HB_x2.out HO_x2.out rfl
    have hc_x2 : M_x0 + cnt0L (ds_aO) ≤ 1000000000 := by have := cnt0_top HO_x2.out (by decide) hb_aO; omega
    obtain ⟨M_x2, hM_x2⟩ : ∃ M, M_x0 + cnt0L (ds_aO) = M := ⟨_, rfl⟩
    have hp_x2 : ¬ ((M_x2 : Int) < 0) := by omega
    go_wp2_with fail
    clear l_x2
    ((refine (mark_Object _ M_x0 hb_aO (by omega) hc_x2 HO_x2.out nd_x2).mono ?_); rintro e w44 ⟨rfl, mm, tt⟩)
    rw [hM_x2]
    have HB_aO := Lib.hid (HB_aO.out.turned tt (fun hb => by have := ge_x2 _ hb; have := lt_x2 _ hb; omega))
    have HO_w0 := Lib.hid (HO_w0.out.turned tt (fun b hb hc => by have := ge_w0 b hb; have := lt_w0 b hb; have := ge_x2 b hc; have := lt_x2 b hc; omega))
    have HO_x0 := Lib.hid (HO_x0.out.turned tt (fun b hb hc => by have := ge_x0 b hb; have := lt_x0 b hb; have := ge_x2 b hc; have := lt_x2 b hc; omega))
    have HB_x2 := Lib.hid (HB_x2.out.turned tt (fun hb => by have := ge_x2 _ hb; have := lt_x2 _ hb; omega))
    have HO_g0 := Lib.hid (HO_g0.out.turned tt (fun b hb hc => by have := ge_g0 b hb; have := lt_g0 b hb; have := ge_x2 b hc; have := lt_x2 b hc; omega))
    have HW45 := Lib.hid (tt.low HW42.out HW42.out.size (fun b hb => by have := ge_x2 b hb; omega))
    have sz46 := tt.size
    have HD_x2 := Lib.hid HO_x2.out
    have HO_x2 := Lib.hid mm
    clear mm tt
    go_wp2_with fail
    ((with_reducible refine (eq_SS _ hb_res HO_g0.out HO_w0.out).mono ?_); rintro e w47 ⟨rfl, bb⟩)
    have HB_aO := Lib.hid (HB_aO.out.keep bb)
    have HO_w0 := Lib.hid (HO_w0.out.under bb)
    have HO_x0 := Lib.hid (HO_x0.out.under bb)
    have HB_x2 := Lib.hid (HB_x2.out.keep bb)
    have HO_x2 := Lib.hid (HO_x2.out.under bb)
    have HO_g0 := Lib.hid (HO_g0.out.under bb)
    have HW48 := Lib.hid (on_of HW45.out bb)
    have sz49 := bb.size
    clear bb
    obtain ⟨M_g0, hM_g0⟩ : ∃ M, 1 + tot T = M := ⟨_, rfl⟩
    have hp_g0 : ¬ ((M_g0 : Int) < 0) := by omega
    have ht_g0 : M_g0 ≤ 1048577 := by have := hb_res; omega
    go_wp2_with fail
    ((refine (mark_SS _ 1 hb_res (by omega) HO_g0.out nd_g0).mono ?_); rintro e w50 ⟨rfl, mm, tt⟩)
    rw [hM_g0]
    have HB_aO := Lib.hid (HB_aO.out.turned tt (fun hb => by have := ge_g0 _ hb; have := lt_g0 _ hb; omega))
    have HO_w0 := Lib.hid (HO_w0.out.turned tt (fun b hb hc => by have := ge_w0 b hb; have := lt_w0 b hb; have := ge_g0 b hc; have := lt_g0 b hc; omega))
    have HO_x0 := Lib.hid (HO_x0.out.turned tt (fun b hb hc => by have := ge_x0 b hb; have := lt_x0 b hb; have := ge_g0 b hc; have := lt_g0 b hc; omega))
    have HB_x2 := Lib.hid (HB_x2.out.turned tt (fun hb => by have := ge_g0 _ hb; have := lt_g0 _ hb; omega))
    have HO_x2 := Lib.hid (HO_x2.out.turned tt (fun b hb hc => by have := ge_x2 b hb; have := lt_x2 b hb; have := ge_g0 b hc; have := lt_g0 b hc; omega))
    have HW51 := Lib.hid (tt.low HW48.out HW48.out.size (fun b hb => by have := ge_g0 b hb; omega))
    have sz52 := tt.size
    have HO_g0 := Lib.hid mm
    clear mm tt
    go_wp2_with fail
    ((refine (held_SS _ 1 hb_res (by omega) HO_g0.out).mono ?_); rintro e w53 ⟨rfl, bb⟩)
    rw [hM_g0]
    have HB_aO := Lib.hid (HB_aO.out.keep bb)
    have HO_w0 := Lib.hid (HO_w0.out.under bb)
    have HO_x0 := Lib.hid (HO_x0.out.under bb)
    have HB_x2 := Lib.hid (HB_x2.out.keep bb)
    have HO_x2 := Lib.hid (HO_x2.out.under bb)
    have HO_g0 := Lib.hid (HO_g0.out.under bb)
    have HW54 := Lib.hid (on_of HW51.out bb)
    have sz55 := bb.size
    clear bb
    have L_aO := Lib.hid (fun W (hW : Below w53.heap.size w53 W) => varC_load (P := Try.prog) (T := 51) Try.isAgg51 Try.sizeOf51 (HB_aO.out.keep hW) HC_aO.out rfl)
    go_wp2_with fail
    go_cut [17, 18] (fun s17 s18 wx => ∃ (a : Option Addr) (c : Nat) (f : List Nat), s17 = .slice a T.length c ∧ s18 = .bool B ∧ Go.Proofs.Ytifmdgncgokikaa.Own.Own wx KSS [.slice a T.length c] (.sl (dR T)) f ∧ f.Nodup ∧ (∀ b ∈ f, w53.heap.size ≤ b) ∧ Below w53.heap.size w53 wx)
    case first =>
      go_region_held3 (fun w' => (hload 51 ⟨X_aO, 0, none⟩).run Try.prog w' = .ok (.agg c2) w' ∧ Below w53.heap.size w53 w') (first | exact ⟨L_aO.out _ hE, hE⟩ | exact ⟨L_aO.out _ hB, hB⟩ | exact ⟨L_aO.out _ (by go_grown), (by go_grown)⟩)
        (first
          | (go_at_call 25; (with_reducible refine (to_SS _ _ _ R_aRows hb_aRows (HC_aRows.out.on (on_of HW54.out (by first | exact hB | go_grown)))).mono ?_); rintro e w_aRows ⟨a_aRows, c_aRows, f_aRows, rfl, o_aRows, n_aRows, g_aRows, b_aRows⟩; (try (have HP_aO := Lib.hid ((HP_aO.out.under (by first | exact Below.refl _ _ | go_grown)).under b_aRows))); have hB := on_of (W := w53) (by first | exact hB | go_grown) b_aRows; have hz := hB.size; have HP_aRows := Lib.hid o_aRows; clear o_aRows)
          | (go_at_call 32; (with_reducible refine (to_Object _ hb_aO (HC_aO.out.on (on_of HW54.out (by first | exact hB | go_grown)))).mono ?_); rintro e w_aO ⟨R_aO, f_aO, rfl, o_aO, n_aO, g_aO, b_aO⟩; (try (have HP_aRows := Lib.hid ((HP_aRows.out.under (by first | exact Below.refl _ _ | go_grown)).under b_aO))); have hB := on_of (W := w53) (by first | exact hB | go_grown) b_aO; have hz := hB.size; have HP_aO := Lib.hid o_aO; clear o_aO)
          | (go_at_call 14; (with_reducible refine (impl_PaintObject_ _ hb_aRows (HP_aRows.out.under (by first | exact Below.refl _ _ | go_grown)) a1 hb_aO (HP_aO.out.under (by first | exact Below.refl _ _ | go_grown)) HT.out).mono ?_); rintro e wz ⟨aR, cR, fR, rfl, oR, nR, gR, bz⟩; have hm : w53.heap.size ≤ _ := hB.size; have hE := on_of (W := w53) (by first | exact hB | go_grown) bz; have HR := Lib.hid (And.intro oR (And.intro nR (And.intro (fun b hb => Nat.le_trans (by first | exact hm | (have := hm; go_grown) | (have := hm; simp; omega)) (gR b hb)) hE)))))
      all_goals (go_wp2_with fail; go_meet; exact ⟨_, _, _, rfl, rfl, HR.out⟩)
    case rest =>
      obtain ⟨a_r56, c_r56, f_r56, rfl, rfl, o_r56, nd_r56, ge_r56, b_r56⟩ := hcut
      have HB_aO := Lib.hid (HB_aO.out.keep b_r56)
      have HO_w0 := Lib.hid (HO_w0.out.under b_r56)
      have HO_x0 := Lib.hid (HO_x0.out.under b_r56)
      have HB_x2 := Lib.hid (HB_x2.out.keep b_r56)
      have HO_x2 := Lib.hid (HO_x2.out.under b_r56)
      have HO_g0 := Lib.hid (HO_g0.out.under b_r56)
      have HW57 := Lib.hid (on_of HW54.out b_r56)
      have sz58 := b_r56.size
      have lt_h0 : ∀ b ∈ f_r56, b < wc.heap.size := o_r56.lt
      have ge_h0 := ge_r56
      have nd_h0 := nd_r56
      have HO_h0 := Lib.hid o_r56
      clear o_r56 b_r56
      go_wp2_with fail
      ((with_reducible refine (eq_SS _ hb_res HO_h0.out HO_w0.out).mono ?_); rintro e w59 ⟨rfl, bb⟩)
      have HB_aO := Lib.hid (HB_aO.out.keep bb)
      have HO_w0 := Lib.hid (HO_w0.out.under bb)
      have HO_x0 := Lib.hid (HO_x0.out.under bb)
      have HB_x2 := Lib.hid (HB_x2.out.keep bb)
      have HO_x2 := Lib.hid (HO_x2.out.under bb)
      have HO_g0 := Lib.hid (HO_g0.out.under bb)
      have HO_h0 := Lib.hid (HO_h0.out.under bb)
      have HW60 := Lib.hid (on_of HW57.out bb)
      have sz61 := bb.size
      clear bb
      go_wp2_with fail
      ((refine (held_SS _ 1 hb_res (by omega) HO_g0.out).mono ?_); rintro e w62 ⟨rfl, bb⟩)
      rw [hM_g0]
      have HB_aO := Lib.hid (HB_aO.out.keep bb)
      have HO_w0 := Lib.hid (HO_w0.out.under bb)
      have HO_x0 := Lib.hid (HO_x0.out.under bb)
      have HB_x2 := Lib.hid (HB_x2.out.keep bb)
      have HO_x2 := Lib.hid (HO_x2.out.under bb)
      have HO_g0 := Lib.hid (HO_g0.out.under bb)
      have HO_h0 := Lib.hid (HO_h0.out.under bb)
      have HW63 := Lib.hid (on_of HW60.out bb)
      have sz64 := bb.size
      clear bb
      go_wp2
      go_ret
      exact ⟨rfl, HW63.out⟩
/-! ### THE ROW's STEP -/
set_option maxRecDepth 100000 in
theorem lifted (os : Os) (started : os.Started) (H : Type) (enc : TypeId × Value → H) :
    ReturnsInHanded {} Try.checked os 7 .any (Rows.fnExactPaintObjectSpec.pre6 enc Try.prog Try.f7 Rows.fnExactPaintObjectRow.domain false) (Rows.fnExactPaintObjectSpec.post enc Try.prog Try.f7 false true false false) := by
  refine returnsInHanded_of_change (C := Try.checked) own started (by kernel_rfl) Try.func7
    (ChangeSpec.witness6 (enc := enc) (C := Try.checked) false ⟨#[], #[.slice none 0 0, .int .i64 0, .agg #[.slice none 0 0, .int .i64 0, .int .i64 0, .int .i64 0, .int .i64 0, .int .i64 0]], []⟩ 8 (by kernel_rfl) (by kernel_rfl) (by kernel_rfl) (by kernel_rfl)) ?_
  intro W base args ds gs before hval0 hW hcnd _
  have hval : ∀ (j : Nat) t v, Try.f7.params[j]? = some t → args[j]? = some v → Value.okWide Try.prog W .any base t v := hval0
  have hW' := hW
  obtain ⟨p, q, hA0, hV, rfl, hfz, hnd⟩ := hW
  have hA : DataW.TrodAll enc Try.prog W 0 (fun _ => true) true Try.f7.params.toList args.toList ds p := hA0
  rw [Try.params7] at hA hval
  obtain ⟨v0, vs0, d0, ds0, p0, q0, hargs, rfl, rfl, h0, r0⟩ := trodAll_cons hA
  obtain ⟨v1, vs1, d1, ds1, p1, q1, rfl, rfl, rfl, h1, r1⟩ := trodAll_cons r0
  obtain ⟨v2, vs2, d2, ds2, p2, q2, rfl, rfl, rfl, h2, r2⟩ := trodAll_cons r1
  obtain ⟨rfl, rfl, rfl⟩ := trodAll_nil r2
  obtain rfl : args = #[v0, v1, v2] := by cases args; simp_all
  obtain ⟨rfl, rfl⟩ := trodVars_none hV
  have k0 := h0
  have lt0 : ∀ x ∈ p0, x.block < W.heap.size := by obtain ⟨m, hm⟩ := k0; exact DataW.trod_lt m _ _ _ hm
  have k1 := h1
  have lt1 : ∀ x ∈ p1, x.block < W.heap.size := by obtain ⟨m, hm⟩ := k1; exact DataW.trod_lt m _ _ _ hm
  have k2 := h2
  have lt2 : ∀ x ∈ p2, x.block < W.heap.size := by obtain ⟨m, hm⟩ := k2; exact DataW.trod_lt m _ _ _ hm
  obtain ⟨b0, l0, p0c, rfl⟩ := okWide_slice Try.underlying24 (hval 0 24 v0 rfl rfl)
  obtain ⟨a0, wa0⟩ : ∃ d, Own.Came W (.sl (.sl (.int))) [.slice b0 l0 p0c] d := by
    obtain ⟨fuel, hf⟩ := h0
    exact Own.came_of (.sl (.sl (.int))) 24 fuel _ _ (by kernel_rfl) hf
  obtain ⟨a1, rfl, rfl, rfl, wa1⟩ := open_int Try.underlying3 (hval 1 3 v1 rfl rfl) h1
  obtain ⟨c2, rfl, _⟩ := okWide_struct Try.underlying51 (hval 2 51 v2 rfl rfl)
  obtain ⟨a2, wa2⟩ : ∃ d, Own.Came W (.st [.sl (.st [.int, .int]), .int, .st [.int, .int, .int, .int]]) c2.toList d := by
    obtain ⟨fuel, hf⟩ := h2
    exact Own.came_of (.st [.sl (.st [.int, .int]), .int, .st [.int, .int, .int, .int]]) 51 fuel _ _ (by kernel_rfl) hf
  clear hA0 hval0
  refine (walk W b0 l0 p0c a0 wa0 a1 wa1 c2 a2 wa2).mono fun e W' ⟨he, bel⟩ => ?_
  subst he
  exact ⟨_, rfl, _, _, _, [], _, [], hW', trodAll_mk1 (shut_bool Try.underlying4 _), (trodAll_cons_mk (Below.trod laidOut (by kernel_rfl) (of_decide_eq_true (by kernel_rfl)) k0 bel lt0) (trodAll_cons_mk (Below.trod laidOut (by kernel_rfl) (of_decide_eq_true (by kernel_rfl)) k1 bel lt1) (trodAll_cons_mk (Below.trod laidOut (by kernel_rfl) (of_decide_eq_true (by kernel_rfl)) k2 bel lt2) trodAll_mk0))), rfl, bel.frame _, fun h => by cases h⟩
theorem over : Rows.fnExactPaintObjectRow.holds Try.pinned (OpenSpec.ofChange Rows.fnExactPaintObjectSpec) :=
  OpenClaim.holds_of_wide 7 Try.f7 rfl rfl rfl rfl rfl rfl rfl ⟨rfl, rfl, rfl, rfl, rfl⟩ rfl rfl rfl rfl rfl (by kernel_rfl) Try.func7 (by kernel_rfl)
    (of_decide_eq_true (by kernel_rfl)) (by unfold Func.isWrapper; first | (rw [if_pos (by decide +kernel)]; kernel_rfl) | (rw [if_neg (by decide +kernel)]; exact ⟨rfl, rfl⟩))
    (fun os started H enc _ => lifted os started H enc)
theorem proved : Rows.FnExactPaintObjectSaid := over
#print axioms proved
end Go.Proofs.Ytifmdgncgokikaa.fnExactPaintObject
