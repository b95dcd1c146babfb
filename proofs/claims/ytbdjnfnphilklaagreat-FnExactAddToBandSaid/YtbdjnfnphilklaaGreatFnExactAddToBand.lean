/-
  The law FnExactAddToBand holds of every argument: AddToBand answers as its model does, every field, leaves its arguments as they were and owns what it answers. No condition (the law itself returns true at more than 1048576 elements).
  The frame of the proof was written by a tool of this repo after the guide's shells; the walk is this text's own.
-/
import Derived.Test.YtbdjnfnphilklaaGreatRows
import Derived.WalkKit
import Derived.ProofKit
import Derived.OpenShut
import Derived.ShutString
import Derived.ChangeOld
import Derived.ChangeArms
import Derived.Below
import Derived.Handy
import Derived.Lib.SmallJoins
import Derived.Lib.Hide
import Derived.Deep.RegionHeld3
import Derived.Deep.DeepCutAuto
import Derived.BigQuiet
import Derived.Deep.QuietTactic
import Derived.Test.YtbdjnfnphilklaaGreatV45
import Derived.Test.YtbdjnfnphilklaaGreatV44
import Derived.Test.YtbdjnfnphilklaaGreatV43
import Derived.Test.YtbdjnfnphilklaaGreatV32
import Derived.Test.YtbdjnfnphilklaaGreatV16
import Derived.Test.YtbdjnfnphilklaaGreatV40
namespace Go.Proofs.YtbdjnfnphilklaaGreat.fnExactAddToBand
open Go.ChangeShapes Go.WideShapes Go.ChangeAt Go.RowKit
open Go.ChangeMaps (open_string shut_string)
open Kit
open Slabs
open Go.Proofs.YtbdjnfnphilklaaGreat.Own
set_option linter.unusedVariables false
set_option linter.unusedSimpArgs false
theorem own : ownKnob Tryz.prog.godebug = none := by kernel_rfl
theorem laidOut : laidOutB Tryz.prog = true := by kernel_rfl
attribute [local go_sem ↓] hstore_Object hload_Object hloadL_Object hstore_Band hload_Band hloadL_Band
set_option maxRecDepth 100000 in
set_option maxHeartbeats 8000000 in
theorem walk (w : World) (c0 : Array Value) (a0 : Own.Dt) (wa0 : Own.Came w (.st [.int, .int, .sl (.sl (.int)), .sl (.st [.sl (.st [.int, .int]), .int, .st [.int, .int, .int, .int]])]) c0.toList a0) (c1 : Array Value) (a1 : Own.Dt) (wa1 : Own.Came w (.st [.sl (.st [.int, .int]), .int, .st [.int, .int, .int, .int]]) c1.toList a1) :
    Calls Tryz.prog 5 #[.agg c0, .agg c1] w fun e w' => e = .returned (.bool true) ∧ Below w.heap.size w w' := by
  have HW0 := Lib.hid (Below.refl w.heap.size w)
  obtain ⟨ds_aB, hC_aB⟩ := came_st (ks := LBand) wa0 rfl
  have HC_aB := Lib.hid hC_aB
  clear hC_aB wa0
  obtain ⟨ds_aO, hC_aO⟩ := came_st (ks := LObject) wa1 rfl
  have HC_aO := Lib.hid hC_aO
  clear hC_aO wa1
  go_enter Tryz.func5, Tryz.ntmps5
  have bx_aB : Blk (w.alloc (.cells c0 36)) w.heap.size c0.toList := Blk.new _ _ _ rfl
  have bx_aO : Blk ((w.alloc (.cells c0 36)).alloc (.cells c1 46)) (w.alloc (.cells c0 36)).heap.size c1.toList := Blk.new _ _ _ rfl
  have bx_aB := bx_aB.alloc (.cells c1 46)
  simp only [World.size_alloc] at bx_aB bx_aO
  have hw0 : Below w.heap.size w ((w.alloc (.cells c0 36)).alloc (.cells c1 46)) := by go_grown
  have HB_aB := Lib.hid bx_aB
  have HB_aO := Lib.hid bx_aO
  have HWb := Lib.hid hw0
  clear hw0 bx_aB bx_aO
  obtain ⟨Y1, hY1⟩ : ∃ Y, szv 1048576 (bulkL ds_aB) = Y := ⟨_, rfl⟩
  have l_aB := varC_load (P := Tryz.prog) (T := 36) Tryz.isAgg36 Tryz.sizeOf36 HB_aB.out HC_aB.out rfl
  go_wp2_with fail
  clear l_aB
  ((with_reducible refine (sz_Band _ (HC_aB.out.on HWb.out) 1048576 (by omega) (by omega)).mono ?_); rintro e w2 ⟨rfl, bb⟩)
  rw [hY1]
  have HB_aB := Lib.hid (HB_aB.out.keep bb)
  have HB_aO := Lib.hid (HB_aO.out.keep bb)
  have HW3 := Lib.hid (on_of HWb.out bb)
  have sz4 := bb.size
  clear bb
  obtain ⟨X_aB, hX_aB⟩ : ∃ X, w.heap.size = X := ⟨_, rfl⟩
  have HB_aB := Lib.hid (show Blk w2 X_aB (c0.toList) from hX_aB ▸ HB_aB.out)
  have zz_aB : X_aB < w2.heap.size := HB_aB.out.2.2
  obtain ⟨X_aO, hX_aO⟩ : ∃ X, w.heap.size + 1 = X := ⟨_, rfl⟩
  have HB_aO := Lib.hid (show Blk w2 X_aO (c1.toList) from hX_aO ▸ HB_aO.out)
  have zz_aO : X_aO < w2.heap.size := HB_aO.out.2.2
  try simp only [hX_aO]
  try simp only [hX_aB]
  by_cases neg_Y1 : Y1 < 0
  · go_wp2
    go_ret
    exact ⟨rfl, HW3.out⟩
  have hb_aB : (bulkL ds_aB) ≤ 1048576 := by rw [← hY1] at neg_Y1; unfold szv at neg_Y1; split at neg_Y1 <;> omega
  have pos_Y1 : 0 ≤ Y1 := by omega
  have top_Y1 : Y1 ≤ 1048576 := by have := szv_le (a := (bulkL ds_aB)) (show 0 ≤ (1048576 : Int) by omega); rw [hY1] at this; omega
  obtain ⟨Y5, hY5⟩ : ∃ Y, szv Y1 (bulkL ds_aO) = Y := ⟨_, rfl⟩
  have l_aO := varC_load (P := Tryz.prog) (T := 46) Tryz.isAgg46 Tryz.sizeOf46 HB_aO.out HC_aO.out rfl
  go_wp2_with fail
  clear l_aO
  ((with_reducible refine (sz_Object _ (HC_aO.out.on HW3.out) Y1 (by omega) (by omega)).mono ?_); rintro e w6 ⟨rfl, bb⟩)
  rw [hY5]
  have HB_aB := Lib.hid (HB_aB.out.keep bb)
  have HB_aO := Lib.hid (HB_aO.out.keep bb)
  have HW7 := Lib.hid (on_of HW3.out bb)
  have sz8 := bb.size
  clear bb
  by_cases neg_Y5 : Y5 < 0
  · go_wp2
    go_ret
    exact ⟨rfl, HW7.out⟩
  have hb_aO : (bulkL ds_aO) ≤ 1048576 := by rw [← hY5] at neg_Y5; unfold szv at neg_Y5; split at neg_Y5 <;> omega
  have pos_Y5 : 0 ≤ Y5 := by omega
  have top_Y5 : Y5 ≤ 1048576 := by have := szv_le (a := (bulkL ds_aO)) (show 0 ≤ (Y1 : Int) by omega); rw [hY5] at this; omega
  have L_aB := Lib.hid (fun W (hW : Below w6.heap.size w6 W) => varC_load (P := Tryz.prog) (T := 36) Tryz.isAgg36 Tryz.sizeOf36 (HB_aB.out.keep hW) HC_aB.out rfl)
  have L_aO := Lib.hid (fun W (hW : Below w6.heap.size w6 W) => varC_load (P := Tryz.prog) (T := 46) Tryz.isAgg46 Tryz.sizeOf46 (HB_aO.out.keep hW) HC_aO.out rfl)
  go_wp2_with fail
  go_cut [6, 7] (fun s6 s7 wx => ∃ (X : Nat) (R : Array Value) (f : List Nat), s6 = .pointer (some ⟨X, 0, none⟩) ∧ s7 = .bool (adF (bdOf ds_aB) (obOf ds_aO)) ∧ OwnL wx LBand R.toList ((adD (bdOf ds_aB) (obOf ds_aO)).dt) f ∧ f.Nodup ∧ (∀ b ∈ f, w6.heap.size ≤ b) ∧ X ∉ f ∧ Blk wx X R.toList ∧ X < wx.heap.size ∧ w6.heap.size ≤ X ∧ Below w6.heap.size w6 wx)
  case first =>
    go_region_held3 (fun w' => (hload 36 ⟨X_aB, 0, none⟩).run Tryz.prog w' = .ok (.agg c0) w' ∧ (hload 46 ⟨X_aO, 0, none⟩).run Tryz.prog w' = .ok (.agg c1) w' ∧ Below w6.heap.size w6 w') (first | exact ⟨L_aB.out _ hE, L_aO.out _ hE, hE⟩ | exact ⟨L_aB.out _ hB, L_aO.out _ hB, hB⟩ | exact ⟨L_aB.out _ (by go_grown), L_aO.out _ (by go_grown), (by go_grown)⟩)
      (first
        | (go_at_call 16; (with_reducible refine (to_Band _ hb_aB (HC_aB.out.on (on_of HW7.out (by first | exact hB | go_grown)))).mono ?_); rintro e w_aB ⟨R_aB, f_aB, rfl, o_aB, n_aB, g_aB, b_aB⟩; (first | (have BZ := kept0 BZ (by first | exact Below.refl _ _ | go_grown) b_aB) | (have BZ := made0 (B := w6.heap.size) (by first | exact hB.size | exact Nat.le_refl _) b_aB) | (have BZ := made1 (B := w6.heap.size) (by first | exact hB.size | exact Nat.le_refl _) b_aB) | skip); (try (have HP_aO := Lib.hid ((HP_aO.out.under (by first | exact Below.refl _ _ | go_grown)).under b_aB))); have hB := on_of (W := w6) (by first | exact hB | go_grown) b_aB; have hz := hB.size; have HP_aB := Lib.hid o_aB; clear o_aB)
        | (go_at_call 22; (with_reducible refine (to_Object _ hb_aO (HC_aO.out.on (on_of HW7.out (by first | exact hB | go_grown)))).mono ?_); rintro e w_aO ⟨R_aO, f_aO, rfl, o_aO, n_aO, g_aO, b_aO⟩; (first | (have BZ := kept0 BZ (by first | exact Below.refl _ _ | go_grown) b_aO) | (have BZ := made0 (B := w6.heap.size) (by first | exact hB.size | exact Nat.le_refl _) b_aO) | (have BZ := made1 (B := w6.heap.size) (by first | exact hB.size | exact Nat.le_refl _) b_aO) | skip); (try (have HP_aB := Lib.hid ((HP_aB.out.under (by first | exact Below.refl _ _ | go_grown)).under b_aO))); have hB := on_of (W := w6) (by first | exact hB | go_grown) b_aO; have hz := hB.size; have HP_aO := Lib.hid o_aO; clear o_aO)
        | (go_at_call 21; (with_reducible refine (spec_AddToBand _ hb_aB (HP_aB.out.under (by first | exact Below.refl _ _ | go_grown)) hb_aO (HP_aO.out.under (by first | exact Below.refl _ _ | go_grown))).mono ?_); rintro e wz ⟨R, f, rfl, oR, nR, gR, bz⟩; have hm : w6.heap.size ≤ _ := (by first | exact hB.size | exact Nat.le_refl _); have hB := on_of (W := w6) (by first | exact hB | go_grown) bz; have hz := hB.size; (first
            | (have BZ := kept0 BZ (by first | exact Below.refl _ _ | go_grown) bz; obtain ⟨E, st, BX, tt⟩ := var_put (P := Tryz.prog) (T := 27) Tryz.sizeOf27 BZ.1 rfl oR rfl; have HR := Lib.hid (put_all hB oR nR gR BZ.2.1 BZ.2.2 BX tt))
            | (have BZ := made0 (B := w6.heap.size) hm bz; obtain ⟨E, st, BX, tt⟩ := var_put (P := Tryz.prog) (T := 27) Tryz.sizeOf27 BZ.1 rfl oR rfl; have HR := Lib.hid (put_all hB oR nR gR BZ.2.1 BZ.2.2 BX tt))
            | (have BZ := made1 (B := w6.heap.size) hm bz; obtain ⟨E, st, BX, tt⟩ := var_put (P := Tryz.prog) (T := 27) Tryz.sizeOf27 BZ.1 rfl oR rfl; have HR := Lib.hid (put_all hB oR nR gR BZ.2.1 BZ.2.2 BX tt))
            | (obtain ⟨E, st, BX, cx, zx⟩ := var_new (P := Tryz.prog) (T := 27) Tryz.sizeOf27 wz #[.int .i64 0, .int .i64 0, .slice none 0 0, .slice none 0 0] rfl oR rfl; have HR := Lib.hid (put_late hB oR nR gR hm BX cx))); have hE := HR.out.2.2.2.2.2.2.2))
    all_goals (go_wp2_with fail; go_meet; exact ⟨_, _, _, rfl, rfl, HR.out⟩)
  case rest =>
    obtain ⟨X_w0, R_w0, f_w0, rfl, rfl, o_w0, nd_w0, ge_w0, nx_w0, BX, zz_w0, xl_w0, bb⟩ := hcut
    have HDd := Lib.hid (bd_dtC HC_aB.out)
    have hb_res : bulkL ((adD (bdOf ds_aB) (obOf ds_aO)).dt) ≤ 1048576 := adD_le HDd.out hb_aB _
    have hc_res : 1 + cnt0L ((adD (bdOf ds_aB) (obOf ds_aO)).dt) ≤ 1000000000 := marks_bound o_w0 (by decide) hb_res
    have lt_w0 : ∀ b ∈ f_w0, b < wc.heap.size := o_w0.lt
    have HO_w0 := Lib.hid o_w0
    have HB_w0 := Lib.hid BX
    have HB_aB := Lib.hid (HB_aB.out.keep bb)
    have HB_aO := Lib.hid (HB_aO.out.keep bb)
    have HW9 := Lib.hid (on_of HW7.out bb)
    have sz10 := bb.size
    clear o_w0 BX bb
    have l_aB := varC_load (P := Tryz.prog) (T := 36) Tryz.isAgg36 Tryz.sizeOf36 HB_aB.out HC_aB.out rfl
    go_wp2_with fail
    clear l_aB
    ((with_reducible refine (to_Band _ hb_aB (HC_aB.out.on HW9.out)).mono ?_); rintro e w12 ⟨R_r11, f_r11, rfl, o_r11, nd_r11, ge_r11, b_r11⟩)
    have HB_aB := Lib.hid (HB_aB.out.keep b_r11)
    have HB_aO := Lib.hid (HB_aO.out.keep b_r11)
    have HB_w0 := Lib.hid (HB_w0.out.keep b_r11)
    have HO_w0 := Lib.hid (HO_w0.out.under b_r11)
    have HW13 := Lib.hid (on_of HW9.out b_r11)
    have sz14 := b_r11.size
    have lt_x0 : ∀ b ∈ f_r11, b < w12.heap.size := o_r11.lt
    have ge_x0 := ge_r11
    have nd_x0 := nd_r11
    obtain ⟨E15, st_x0, BX, cx, zx⟩ := var_new (P := Tryz.prog) (T := 27) Tryz.sizeOf27 w12 #[.int .i64 0, .int .i64 0, .slice none 0 0, .slice none 0 0] rfl o_r11 rfl
    have HO_x0 := Lib.hid o_r11
    have HB_aB := Lib.hid (HB_aB.out.keep cx)
    have HB_aO := Lib.hid (HB_aO.out.keep cx)
    have HB_w0 := Lib.hid (HB_w0.out.keep cx)
    have HO_w0 := Lib.hid (HO_w0.out.under cx)
    have HW16 := Lib.hid (on_of HW13.out cx)
    have sz17 := cx.size
    have HO_x0 := Lib.hid (HO_x0.out.under cx)
    have HB_x0 := Lib.hid BX
    obtain ⟨X_x0, hX_x0⟩ : ∃ X, w12.heap.size = X := ⟨_, rfl⟩
    have xl_x0 := Nat.le_of_eq hX_x0
    have xu_x0 := Nat.le_of_eq hX_x0.symm
    rw [hX_x0] at st_x0 HB_x0 zx
    have zz_x0 := zx
    clear BX cx zx
    have l_aO := varC_load (P := Tryz.prog) (T := 46) Tryz.isAgg46 Tryz.sizeOf46 HB_aO.out HC_aO.out rfl
    go_wp2_with fail
    clear st_x0 l_aO
    clear hX_x0
    ((with_reducible refine (to_Object _ hb_aO (HC_aO.out.on HW16.out)).mono ?_); rintro e w19 ⟨R_r18, f_r18, rfl, o_r18, nd_r18, ge_r18, b_r18⟩)
    have HB_aB := Lib.hid (HB_aB.out.keep b_r18)
    have HB_aO := Lib.hid (HB_aO.out.keep b_r18)
    have HB_w0 := Lib.hid (HB_w0.out.keep b_r18)
    have HO_w0 := Lib.hid (HO_w0.out.under b_r18)
    have HB_x0 := Lib.hid (HB_x0.out.keep b_r18)
    have HO_x0 := Lib.hid (HO_x0.out.under b_r18)
    have HW20 := Lib.hid (on_of HW16.out b_r18)
    have sz21 := b_r18.size
    have lt_x1 : ∀ b ∈ f_r18, b < w19.heap.size := o_r18.lt
    have ge_x1 := ge_r18
    have nd_x1 := nd_r18
    obtain ⟨E22, st_x1, BX, cx, zx⟩ := var_new (P := Tryz.prog) (T := 53) Tryz.sizeOf53 w19 #[.slice none 0 0, .int .i64 0, .int .i64 0, .int .i64 0, .int .i64 0, .int .i64 0] rfl o_r18 rfl
    have HO_x1 := Lib.hid o_r18
    have HB_aB := Lib.hid (HB_aB.out.keep cx)
    have HB_aO := Lib.hid (HB_aO.out.keep cx)
    have HB_w0 := Lib.hid (HB_w0.out.keep cx)
    have HO_w0 := Lib.hid (HO_w0.out.under cx)
    have HB_x0 := Lib.hid (HB_x0.out.keep cx)
    have HO_x0 := Lib.hid (HO_x0.out.under cx)
    have HW23 := Lib.hid (on_of HW20.out cx)
    have sz24 := cx.size
    have HO_x1 := Lib.hid (HO_x1.out.under cx)
    have HB_x1 := Lib.hid BX
    obtain ⟨X_x1, hX_x1⟩ : ∃ X, w19.heap.size = X := ⟨_, rfl⟩
    have xl_x1 := Nat.le_of_eq hX_x1
    have xu_x1 := Nat.le_of_eq hX_x1.symm
    rw [hX_x1] at st_x1 HB_x1 zx
    have zz_x1 := zx
    clear BX cx zx
    have l_x0 := var_load (P := Tryz.prog) (T := 27) Tryz.isAgg27 Tryz.sizeOf27 HB_x0.out HO_x0.out rfl
    have l_x1 := var_load (P := Tryz.prog) (T := 53) Tryz.isAgg53 Tryz.sizeOf53 HB_x1.out HO_x1.out rfl
    go_wp2_with fail
    clear st_x1 l_x0 l_x1
    clear hX_x1
    ((with_reducible refine (impl_AddToBand _ hb_aB HO_x0.out hb_aO HO_x1.out).mono ?_); rintro e w26 ⟨R_r25, f_r25, rfl, o_r25, nd_r25, ge_r25, b_r25⟩)
    have HB_aB := Lib.hid (HB_aB.out.keep b_r25)
    have HB_aO := Lib.hid (HB_aO.out.keep b_r25)
    have HB_w0 := Lib.hid (HB_w0.out.keep b_r25)
    have HO_w0 := Lib.hid (HO_w0.out.under b_r25)
    have HB_x0 := Lib.hid (HB_x0.out.keep b_r25)
    have HO_x0 := Lib.hid (HO_x0.out.under b_r25)
    have HB_x1 := Lib.hid (HB_x1.out.keep b_r25)
    have HO_x1 := Lib.hid (HO_x1.out.under b_r25)
    have HW27 := Lib.hid (on_of HW23.out b_r25)
    have sz28 := b_r25.size
    have lt_g0 : ∀ b ∈ f_r25, b < w26.heap.size := o_r25.lt
    have ge_g0 := ge_r25
    have nd_g0 := nd_r25
    obtain ⟨E29, st_g0, BX, cx, zx⟩ := var_new (P := Tryz.prog) (T := 27) Tryz.sizeOf27 w26 #[.int .i64 0, .int .i64 0, .slice none 0 0, .slice none 0 0] rfl o_r25 rfl
    have HO_g0 := Lib.hid o_r25
    have HB_aB := Lib.hid (HB_aB.out.keep cx)
    have HB_aO := Lib.hid (HB_aO.out.keep cx)
    have HB_w0 := Lib.hid (HB_w0.out.keep cx)
    have HO_w0 := Lib.hid (HO_w0.out.under cx)
    have HB_x0 := Lib.hid (HB_x0.out.keep cx)
    have HO_x0 := Lib.hid (HO_x0.out.under cx)
    have HB_x1 := Lib.hid (HB_x1.out.keep cx)
    have HO_x1 := Lib.hid (HO_x1.out.under cx)
    have HW30 := Lib.hid (on_of HW27.out cx)
    have sz31 := cx.size
    have HO_g0 := Lib.hid (HO_g0.out.under cx)
    have HB_g0 := Lib.hid BX
    obtain ⟨X_g0, hX_g0⟩ : ∃ X, w26.heap.size = X := ⟨_, rfl⟩
    have xl_g0 := Nat.le_of_eq hX_g0
    have xu_g0 := Nat.le_of_eq hX_g0.symm
    rw [hX_g0] at st_g0 HB_g0 zx
    have zz_g0 := zx
    clear BX cx zx
    have l_g0 := var_load (P := Tryz.prog) (T := 27) Tryz.isAgg27 Tryz.sizeOf27 HB_g0.out HO_g0.out rfl
    have l_w0 := var_load (P := Tryz.prog) (T := 27) Tryz.isAgg27 Tryz.sizeOf27 HB_w0.out HO_w0.out rfl
    go_wp2_with fail
    clear st_g0 l_g0 l_w0
    clear hX_g0
    ((with_reducible refine (eq_Band _ hb_res HO_g0.out HO_w0.out).mono ?_); rintro e w32 ⟨rfl, bb⟩)
    have HB_aB := Lib.hid (HB_aB.out.keep bb)
    have HB_aO := Lib.hid (HB_aO.out.keep bb)
    have HB_w0 := Lib.hid (HB_w0.out.keep bb)
    have HO_w0 := Lib.hid (HO_w0.out.under bb)
    have HB_x0 := Lib.hid (HB_x0.out.keep bb)
    have HO_x0 := Lib.hid (HO_x0.out.under bb)
    have HB_x1 := Lib.hid (HB_x1.out.keep bb)
    have HO_x1 := Lib.hid (HO_x1.out.under bb)
    have HB_g0 := Lib.hid (HB_g0.out.keep bb)
    have HO_g0 := Lib.hid (HO_g0.out.under bb)
    have HW33 := Lib.hid (on_of HW30.out bb)
    have sz34 := bb.size
    clear bb
    have LA := Lib.hid (fun W (hW : Below w32.heap.size w32 W) => varC_load (P := Tryz.prog) (T := 36) Tryz.isAgg36 Tryz.sizeOf36 (HB_aB.out.keep hW) HC_aB.out rfl)
    have LX := Lib.hid (fun W (hW : Below w32.heap.size w32 W) => var_load (P := Tryz.prog) (T := 27) Tryz.isAgg27 Tryz.sizeOf27 (HB_x0.out.keep hW) HO_x0.out rfl)
    go_wp2_with fail
    go_region_held3 (fun w' => (hload 36 ⟨X_aB, 0, none⟩).run Tryz.prog w' = .ok (.agg c0) w' ∧ (hload 27 ⟨X_x0, 0, none⟩).run Tryz.prog w' = .ok (.agg R_r11) w' ∧ Below w32.heap.size w32 w') (first | exact ⟨LA.out _ hB, LX.out _ hB, hB⟩ | exact ⟨LA.out _ (by go_grown), LX.out _ (by go_grown), by go_grown⟩)
      (first
        | (go_at_call 16; (with_reducible refine (to_Band _ hb_aB (HC_aB.out.on (on_of HW33.out (by go_grown)))).mono ?_); rintro e w35 ⟨R3, f3, rfl, o3, n3, g3, b6⟩; have hB := on_of (W := w32) (by go_grown) b6; have HO3 := Lib.hid o3; clear o3)
        | (go_at_call 17; (with_reducible refine (eq_Band _ hb_aB (HO_x0.out.under hB) HO3.out).mono ?_); rintro e w36 ⟨rfl, b7⟩; have hB := on_of hB b7))
    have bb := hB
    clear hB b6 b7 LA LX HO3 g3 n3
    have HB_aB := Lib.hid (HB_aB.out.keep bb)
    have HB_aO := Lib.hid (HB_aO.out.keep bb)
    have HB_w0 := Lib.hid (HB_w0.out.keep bb)
    have HO_w0 := Lib.hid (HO_w0.out.under bb)
    have HB_x0 := Lib.hid (HB_x0.out.keep bb)
    have HO_x0 := Lib.hid (HO_x0.out.under bb)
    have HB_x1 := Lib.hid (HB_x1.out.keep bb)
    have HO_x1 := Lib.hid (HO_x1.out.under bb)
    have HB_g0 := Lib.hid (HB_g0.out.keep bb)
    have HO_g0 := Lib.hid (HO_g0.out.under bb)
    have HW37 := Lib.hid (on_of HW33.out bb)
    have sz38 := bb.size
    clear bb
    have LA := Lib.hid (fun W (hW : Below w36.heap.size w36 W) => varC_load (P := Tryz.prog) (T := 46) Tryz.isAgg46 Tryz.sizeOf46 (HB_aO.out.keep hW) HC_aO.out rfl)
    have LX := Lib.hid (fun W (hW : Below w36.heap.size w36 W) => var_load (P := Tryz.prog) (T := 53) Tryz.isAgg53 Tryz.sizeOf53 (HB_x1.out.keep hW) HO_x1.out rfl)
    go_wp2_with fail
    go_region_held3 (fun w' => (hload 46 ⟨X_aO, 0, none⟩).run Tryz.prog w' = .ok (.agg c1) w' ∧ (hload 53 ⟨X_x1, 0, none⟩).run Tryz.prog w' = .ok (.agg R_r18) w' ∧ Below w36.heap.size w36 w') (first | exact ⟨LA.out _ hB, LX.out _ hB, hB⟩ | exact ⟨LA.out _ (by go_grown), LX.out _ (by go_grown), by go_grown⟩)
      (first
        | (go_at_call 22; (with_reducible refine (to_Object _ hb_aO (HC_aO.out.on (on_of HW37.out (by go_grown)))).mono ?_); rintro e w39 ⟨R3, f3, rfl, o3, n3, g3, b6⟩; have hB := on_of (W := w36) (by go_grown) b6; have HO3 := Lib.hid o3; clear o3)
        | (go_at_call 24; (with_reducible refine (eq_Object _ hb_aO (HO_x1.out.under hB) HO3.out).mono ?_); rintro e w40 ⟨rfl, b7⟩; have hB := on_of hB b7))
    have bb := hB
    clear hB b6 b7 LA LX HO3 g3 n3
    have HB_aB := Lib.hid (HB_aB.out.keep bb)
    have HB_aO := Lib.hid (HB_aO.out.keep bb)
    have HB_w0 := Lib.hid (HB_w0.out.keep bb)
    have HO_w0 := Lib.hid (HO_w0.out.under bb)
    have HB_x0 := Lib.hid (HB_x0.out.keep bb)
    have HO_x0 := Lib.hid (HO_x0.out.under bb)
    have HB_x1 := Lib.hid (HB_x1.out.keep bb)
    have HO_x1 := Lib.hid (HO_x1.out.under bb)
    have HB_g0 := Lib.hid (HB_g0.out.keep bb)
    have HO_g0 := Lib.hid (HO_g0.out.under bb)
    have HW41 := Lib.hid (on_of HW37.out bb)
    have sz42 := bb.size
    clear bb
    have l_x0 := var_load (P := Tryz.prog) (T := 27) Tryz.isAgg27 Tryz.sizeOf27 HB_x0.out HO_x0.out rfl
    have hc_x0 : 1 + cnt0L (ds_aB) ≤ 1000000000 := marks_bound HO_x0.out (by decide) hb_aB
    obtain ⟨M_x0, hM_x0⟩ : ∃ M, 1 + cnt0L (ds_aB) = M := ⟨_, rfl⟩
    have hp_x0 : ¬ ((M_x0 : Int) < 0) := by omega
    have ht_x0 : M_x0 ≤ 104857701 := by have := cnt0_top HO_x0.out (by decide) hb_aB; omega
    go_wp2_with fail
    clear l_x0
    ((refine (mark_Band _ 1 hb_aB (by omega) hc_x0 HO_x0.out nd_x0).mono ?_); rintro e w43 ⟨rfl, mm, tt⟩)
    rw [hM_x0]
    have HB_aB := Lib.hid (HB_aB.out.turned tt (fun hb => by have := ge_x0 _ hb; have := lt_x0 _ hb; omega))
    have HB_aO := Lib.hid (HB_aO.out.turned tt (fun hb => by have := ge_x0 _ hb; have := lt_x0 _ hb; omega))
    have HB_w0 := Lib.hid (HB_w0.out.turned tt (fun hb => by have := ge_x0 _ hb; have := lt_x0 _ hb; omega))
    have HO_w0 := Lib.hid (HO_w0.out.turned tt (fun b hb hc => by have := ge_w0 b hb; have := lt_w0 b hb; have := ge_x0 b hc; have := lt_x0 b hc; omega))
    have HB_x0 := Lib.hid (HB_x0.out.turned tt (fun hb => by have := ge_x0 _ hb; have := lt_x0 _ hb; omega))
    have HB_x1 := Lib.hid (HB_x1.out.turned tt (fun hb => by have := ge_x0 _ hb; have := lt_x0 _ hb; omega))
    have HO_x1 := Lib.hid (HO_x1.out.turned tt (fun b hb hc => by have := ge_x1 b hb; have := lt_x1 b hb; have := ge_x0 b hc; have := lt_x0 b hc; omega))
    have HB_g0 := Lib.hid (HB_g0.out.turned tt (fun hb => by have := ge_x0 _ hb; have := lt_x0 _ hb; omega))
    have HO_g0 := Lib.hid (HO_g0.out.turned tt (fun b hb hc => by have := ge_g0 b hb; have := lt_g0 b hb; have := ge_x0 b hc; have := lt_x0 b hc; omega))
    have HW44 := Lib.hid (tt.low HW41.out HW41.out.size (fun b hb => by have := ge_x0 b hb; omega))
    have sz45 := tt.size
    have HD_x0 := Lib.hid HO_x0.out
    have HO_x0 := Lib.hid mm
    clear mm tt
    have l_x1 := var_load (P := Tryz.prog) (T := 53) Tryz.isAgg53 Tryz.sizeOf53 HB_x1.out HO_x1.out rfl
    have hc_x1 : M_x0 + cnt0L (ds_aO) ≤ 1000000000 := by have := cnt0_top HO_x1.out (by decide) hb_aO; omega
    obtain ⟨M_x1, hM_x1⟩ : ∃ M, M_x0 + cnt0L (ds_aO) = M := ⟨_, rfl⟩
    have hp_x1 : ¬ ((M_x1 : Int) < 0) := by omega
    go_wp2_with fail
    clear l_x1
    ((refine (mark_Object _ M_x0 hb_aO (by omega) hc_x1 HO_x1.out nd_x1).mono ?_); rintro e w46 ⟨rfl, mm, tt⟩)
    rw [hM_x1]
    have HB_aB := Lib.hid (HB_aB.out.turned tt (fun hb => by have := ge_x1 _ hb; have := lt_x1 _ hb; omega))
    have HB_aO := Lib.hid (HB_aO.out.turned tt (fun hb => by have := ge_x1 _ hb; have := lt_x1 _ hb; omega))
    have HB_w0 := Lib.hid (HB_w0.out.turned tt (fun hb => by have := ge_x1 _ hb; have := lt_x1 _ hb; omega))
    have HO_w0 := Lib.hid (HO_w0.out.turned tt (fun b hb hc => by have := ge_w0 b hb; have := lt_w0 b hb; have := ge_x1 b hc; have := lt_x1 b hc; omega))
    have HB_x0 := Lib.hid (HB_x0.out.turned tt (fun hb => by have := ge_x1 _ hb; have := lt_x1 _ hb; omega))
    have HO_x0 := Lib.hid (HO_x0.out.turned tt (fun b hb hc => by have := ge_x0 b hb; have := lt_x0 b hb; have := ge_x1 b hc; have := lt_x1 b hc; omega))
    have HB_x1 := Lib.hid (HB_x1.out.turned tt (fun hb => by have := ge_x1 _ hb; have := lt_x1 _ hb; omega))
    have HB_g0 := Lib.hid (HB_g0.out.turned tt (fun hb => by have := ge_x1 _ hb; have := lt_x1 _ hb; omega))
    have HO_g0 := Lib.hid (HO_g0.out.turned tt (fun b hb hc => by have := ge_g0 b hb; have := lt_g0 b hb; have := ge_x1 b hc; have := lt_x1 b hc; omega))
    have HW47 := Lib.hid (tt.low HW44.out HW44.out.size (fun b hb => by have := ge_x1 b hb; omega))
    have sz48 := tt.size
    have HD_x1 := Lib.hid HO_x1.out
    have HO_x1 := Lib.hid mm
    clear mm tt
    have l_g0 := var_load (P := Tryz.prog) (T := 27) Tryz.isAgg27 Tryz.sizeOf27 HB_g0.out HO_g0.out rfl
    have l_w0 := var_load (P := Tryz.prog) (T := 27) Tryz.isAgg27 Tryz.sizeOf27 HB_w0.out HO_w0.out rfl
    go_wp2_with fail
    clear l_g0 l_w0
    ((with_reducible refine (eq_Band _ hb_res HO_g0.out HO_w0.out).mono ?_); rintro e w49 ⟨rfl, bb⟩)
    have HB_aB := Lib.hid (HB_aB.out.keep bb)
    have HB_aO := Lib.hid (HB_aO.out.keep bb)
    have HB_w0 := Lib.hid (HB_w0.out.keep bb)
    have HO_w0 := Lib.hid (HO_w0.out.under bb)
    have HB_x0 := Lib.hid (HB_x0.out.keep bb)
    have HO_x0 := Lib.hid (HO_x0.out.under bb)
    have HB_x1 := Lib.hid (HB_x1.out.keep bb)
    have HO_x1 := Lib.hid (HO_x1.out.under bb)
    have HB_g0 := Lib.hid (HB_g0.out.keep bb)
    have HO_g0 := Lib.hid (HO_g0.out.under bb)
    have HW50 := Lib.hid (on_of HW47.out bb)
    have sz51 := bb.size
    clear bb
    have l_g0 := var_load (P := Tryz.prog) (T := 27) Tryz.isAgg27 Tryz.sizeOf27 HB_g0.out HO_g0.out rfl
    obtain ⟨M_g0, hM_g0⟩ : ∃ M, 1 + cnt0L ((adD (bdOf ds_aB) (obOf ds_aO)).dt) = M := ⟨_, rfl⟩
    have hp_g0 : ¬ ((M_g0 : Int) < 0) := by omega
    go_wp2_with fail
    clear l_g0
    ((refine (mark_Band _ 1 hb_res (by omega) hc_res HO_g0.out nd_g0).mono ?_); rintro e w52 ⟨rfl, mm, tt⟩)
    rw [hM_g0]
    have HB_aB := Lib.hid (HB_aB.out.turned tt (fun hb => by have := ge_g0 _ hb; have := lt_g0 _ hb; omega))
    have HB_aO := Lib.hid (HB_aO.out.turned tt (fun hb => by have := ge_g0 _ hb; have := lt_g0 _ hb; omega))
    have HB_w0 := Lib.hid (HB_w0.out.turned tt (fun hb => by have := ge_g0 _ hb; have := lt_g0 _ hb; omega))
    have HO_w0 := Lib.hid (HO_w0.out.turned tt (fun b hb hc => by have := ge_w0 b hb; have := lt_w0 b hb; have := ge_g0 b hc; have := lt_g0 b hc; omega))
    have HB_x0 := Lib.hid (HB_x0.out.turned tt (fun hb => by have := ge_g0 _ hb; have := lt_g0 _ hb; omega))
    have HO_x0 := Lib.hid (HO_x0.out.turned tt (fun b hb hc => by have := ge_x0 b hb; have := lt_x0 b hb; have := ge_g0 b hc; have := lt_g0 b hc; omega))
    have HB_x1 := Lib.hid (HB_x1.out.turned tt (fun hb => by have := ge_g0 _ hb; have := lt_g0 _ hb; omega))
    have HO_x1 := Lib.hid (HO_x1.out.turned tt (fun b hb hc => by have := ge_x1 b hb; have := lt_x1 b hb; have := ge_g0 b hc; have := lt_g0 b hc; omega))
    have HB_g0 := Lib.hid (HB_g0.out.turned tt (fun hb => by have := ge_g0 _ hb; have := lt_g0 _ hb; omega))
    have HW53 := Lib.hid (tt.low HW50.out HW50.out.size (fun b hb => by have := ge_g0 b hb; omega))
    have sz54 := tt.size
    have HD_g0 := Lib.hid HO_g0.out
    have HO_g0 := Lib.hid mm
    clear mm tt
    have l_g0 := var_load (P := Tryz.prog) (T := 27) Tryz.isAgg27 Tryz.sizeOf27 HB_g0.out HO_g0.out rfl
    go_wp2_with fail
    clear l_g0
    ((refine (held_Band _ 1 hb_res (by omega) hc_res HD_g0.out HO_g0.out).mono ?_); rintro e w55 ⟨rfl, bb⟩)
    rw [hM_g0]
    have HB_aB := Lib.hid (HB_aB.out.keep bb)
    have HB_aO := Lib.hid (HB_aO.out.keep bb)
    have HB_w0 := Lib.hid (HB_w0.out.keep bb)
    have HO_w0 := Lib.hid (HO_w0.out.under bb)
    have HB_x0 := Lib.hid (HB_x0.out.keep bb)
    have HO_x0 := Lib.hid (HO_x0.out.under bb)
    have HB_x1 := Lib.hid (HB_x1.out.keep bb)
    have HO_x1 := Lib.hid (HO_x1.out.under bb)
    have HB_g0 := Lib.hid (HB_g0.out.keep bb)
    have HO_g0 := Lib.hid (HO_g0.out.under bb)
    have HW56 := Lib.hid (on_of HW53.out bb)
    have sz57 := bb.size
    clear bb
    have L_aB := Lib.hid (fun W (hW : Below w55.heap.size w55 W) => varC_load (P := Tryz.prog) (T := 36) Tryz.isAgg36 Tryz.sizeOf36 (HB_aB.out.keep hW) HC_aB.out rfl)
    have L_aO := Lib.hid (fun W (hW : Below w55.heap.size w55 W) => varC_load (P := Tryz.prog) (T := 46) Tryz.isAgg46 Tryz.sizeOf46 (HB_aO.out.keep hW) HC_aO.out rfl)
    go_wp2_with fail
    go_cut [15, 16] (fun s15 s16 wx => ∃ (X : Nat) (R : Array Value) (f : List Nat), s15 = .pointer (some ⟨X, 0, none⟩) ∧ s16 = .bool (adF (bdOf ds_aB) (obOf ds_aO)) ∧ OwnL wx LBand R.toList ((adD (bdOf ds_aB) (obOf ds_aO)).dt) f ∧ f.Nodup ∧ (∀ b ∈ f, w55.heap.size ≤ b) ∧ X ∉ f ∧ Blk wx X R.toList ∧ X < wx.heap.size ∧ w55.heap.size ≤ X ∧ Below w55.heap.size w55 wx)
    case first =>
      go_region_held3 (fun w' => (hload 36 ⟨X_aB, 0, none⟩).run Tryz.prog w' = .ok (.agg c0) w' ∧ (hload 46 ⟨X_aO, 0, none⟩).run Tryz.prog w' = .ok (.agg c1) w' ∧ Below w55.heap.size w55 w') (first | exact ⟨L_aB.out _ hE, L_aO.out _ hE, hE⟩ | exact ⟨L_aB.out _ hB, L_aO.out _ hB, hB⟩ | exact ⟨L_aB.out _ (by go_grown), L_aO.out _ (by go_grown), (by go_grown)⟩)
        (first
          | (go_at_call 16; (with_reducible refine (to_Band _ hb_aB (HC_aB.out.on (on_of HW56.out (by first | exact hB | go_grown)))).mono ?_); rintro e w_aB ⟨R_aB, f_aB, rfl, o_aB, n_aB, g_aB, b_aB⟩; (first | (have BZ := kept0 BZ (by first | exact Below.refl _ _ | go_grown) b_aB) | (have BZ := made0 (B := w55.heap.size) (by first | exact hB.size | exact Nat.le_refl _) b_aB) | (have BZ := made1 (B := w55.heap.size) (by first | exact hB.size | exact Nat.le_refl _) b_aB) | skip); (try (have HP_aO := Lib.hid ((HP_aO.out.under (by first | exact Below.refl _ _ | go_grown)).under b_aB))); have hB := on_of (W := w55) (by first | exact hB | go_grown) b_aB; have hz := hB.size; have HP_aB := Lib.hid o_aB; clear o_aB)
          | (go_at_call 22; (with_reducible refine (to_Object _ hb_aO (HC_aO.out.on (on_of HW56.out (by first | exact hB | go_grown)))).mono ?_); rintro e w_aO ⟨R_aO, f_aO, rfl, o_aO, n_aO, g_aO, b_aO⟩; (first | (have BZ := kept0 BZ (by first | exact Below.refl _ _ | go_grown) b_aO) | (have BZ := made0 (B := w55.heap.size) (by first | exact hB.size | exact Nat.le_refl _) b_aO) | (have BZ := made1 (B := w55.heap.size) (by first | exact hB.size | exact Nat.le_refl _) b_aO) | skip); (try (have HP_aB := Lib.hid ((HP_aB.out.under (by first | exact Below.refl _ _ | go_grown)).under b_aO))); have hB := on_of (W := w55) (by first | exact hB | go_grown) b_aO; have hz := hB.size; have HP_aO := Lib.hid o_aO; clear o_aO)
          | (go_at_call 23; (with_reducible refine (impl_AddToBand _ hb_aB (HP_aB.out.under (by first | exact Below.refl _ _ | go_grown)) hb_aO (HP_aO.out.under (by first | exact Below.refl _ _ | go_grown))).mono ?_); rintro e wz ⟨R, f, rfl, oR, nR, gR, bz⟩; have hm : w55.heap.size ≤ _ := (by first | exact hB.size | exact Nat.le_refl _); have hB := on_of (W := w55) (by first | exact hB | go_grown) bz; have hz := hB.size; (first
              | (have BZ := kept0 BZ (by first | exact Below.refl _ _ | go_grown) bz; obtain ⟨E, st, BX, tt⟩ := var_put (P := Tryz.prog) (T := 27) Tryz.sizeOf27 BZ.1 rfl oR rfl; have HR := Lib.hid (put_all hB oR nR gR BZ.2.1 BZ.2.2 BX tt))
              | (have BZ := made0 (B := w55.heap.size) hm bz; obtain ⟨E, st, BX, tt⟩ := var_put (P := Tryz.prog) (T := 27) Tryz.sizeOf27 BZ.1 rfl oR rfl; have HR := Lib.hid (put_all hB oR nR gR BZ.2.1 BZ.2.2 BX tt))
              | (have BZ := made1 (B := w55.heap.size) hm bz; obtain ⟨E, st, BX, tt⟩ := var_put (P := Tryz.prog) (T := 27) Tryz.sizeOf27 BZ.1 rfl oR rfl; have HR := Lib.hid (put_all hB oR nR gR BZ.2.1 BZ.2.2 BX tt))
              | (obtain ⟨E, st, BX, cx, zx⟩ := var_new (P := Tryz.prog) (T := 27) Tryz.sizeOf27 wz #[.int .i64 0, .int .i64 0, .slice none 0 0, .slice none 0 0] rfl oR rfl; have HR := Lib.hid (put_late hB oR nR gR hm BX cx))); have hE := HR.out.2.2.2.2.2.2.2))
      all_goals (go_wp2_with fail; go_meet; exact ⟨_, _, _, rfl, rfl, HR.out⟩)
    case rest =>
      obtain ⟨X_h0, R_h0, f_h0, rfl, rfl, o_h0, nd_h0, ge_h0, nx_h0, BX, zz_h0, xl_h0, bb⟩ := hcut
      have lt_h0 : ∀ b ∈ f_h0, b < wc.heap.size := o_h0.lt
      have HO_h0 := Lib.hid o_h0
      have HB_h0 := Lib.hid BX
      have HB_aB := Lib.hid (HB_aB.out.keep bb)
      have HB_aO := Lib.hid (HB_aO.out.keep bb)
      have HB_w0 := Lib.hid (HB_w0.out.keep bb)
      have HO_w0 := Lib.hid (HO_w0.out.under bb)
      have HB_x0 := Lib.hid (HB_x0.out.keep bb)
      have HO_x0 := Lib.hid (HO_x0.out.under bb)
      have HB_x1 := Lib.hid (HB_x1.out.keep bb)
      have HO_x1 := Lib.hid (HO_x1.out.under bb)
      have HB_g0 := Lib.hid (HB_g0.out.keep bb)
      have HO_g0 := Lib.hid (HO_g0.out.under bb)
      have HW58 := Lib.hid (on_of HW56.out bb)
      have sz59 := bb.size
      clear o_h0 BX bb
      have l_h0 := var_load (P := Tryz.prog) (T := 27) Tryz.isAgg27 Tryz.sizeOf27 HB_h0.out HO_h0.out rfl
      have l_w0 := var_load (P := Tryz.prog) (T := 27) Tryz.isAgg27 Tryz.sizeOf27 HB_w0.out HO_w0.out rfl
      go_wp2_with fail
      clear l_h0 l_w0
      ((with_reducible refine (eq_Band _ hb_res HO_h0.out HO_w0.out).mono ?_); rintro e w60 ⟨rfl, bb⟩)
      have HB_aB := Lib.hid (HB_aB.out.keep bb)
      have HB_aO := Lib.hid (HB_aO.out.keep bb)
      have HB_w0 := Lib.hid (HB_w0.out.keep bb)
      have HO_w0 := Lib.hid (HO_w0.out.under bb)
      have HB_x0 := Lib.hid (HB_x0.out.keep bb)
      have HO_x0 := Lib.hid (HO_x0.out.under bb)
      have HB_x1 := Lib.hid (HB_x1.out.keep bb)
      have HO_x1 := Lib.hid (HO_x1.out.under bb)
      have HB_g0 := Lib.hid (HB_g0.out.keep bb)
      have HO_g0 := Lib.hid (HO_g0.out.under bb)
      have HB_h0 := Lib.hid (HB_h0.out.keep bb)
      have HO_h0 := Lib.hid (HO_h0.out.under bb)
      have HW61 := Lib.hid (on_of HW58.out bb)
      have sz62 := bb.size
      clear bb
      have l_g0 := var_load (P := Tryz.prog) (T := 27) Tryz.isAgg27 Tryz.sizeOf27 HB_g0.out HO_g0.out rfl
      go_wp2_with fail
      clear l_g0
      ((refine (held_Band _ 1 hb_res (by omega) hc_res HD_g0.out HO_g0.out).mono ?_); rintro e w63 ⟨rfl, bb⟩)
      rw [hM_g0]
      have HB_aB := Lib.hid (HB_aB.out.keep bb)
      have HB_aO := Lib.hid (HB_aO.out.keep bb)
      have HB_w0 := Lib.hid (HB_w0.out.keep bb)
      have HO_w0 := Lib.hid (HO_w0.out.under bb)
      have HB_x0 := Lib.hid (HB_x0.out.keep bb)
      have HO_x0 := Lib.hid (HO_x0.out.under bb)
      have HB_x1 := Lib.hid (HB_x1.out.keep bb)
      have HO_x1 := Lib.hid (HO_x1.out.under bb)
      have HB_g0 := Lib.hid (HB_g0.out.keep bb)
      have HO_g0 := Lib.hid (HO_g0.out.under bb)
      have HB_h0 := Lib.hid (HB_h0.out.keep bb)
      have HO_h0 := Lib.hid (HO_h0.out.under bb)
      have HW64 := Lib.hid (on_of HW61.out bb)
      have sz65 := bb.size
      clear bb
      go_wp2
      go_ret
      exact ⟨rfl, HW64.out⟩
/-! ### THE ROW's STEP -/
set_option maxRecDepth 100000 in
theorem lifted (os : Os) (started : os.Started) (H : Type) (enc : TypeId × Value → H) :
    ReturnsInHanded {} Tryz.checked os 5 .any (Rows.fnExactAddToBandSpec.pre6 enc Tryz.prog Tryz.f5 Rows.fnExactAddToBandRow.domain false) (Rows.fnExactAddToBandSpec.post enc Tryz.prog Tryz.f5 false true false false) := by
  refine returnsInHanded_of_change (C := Tryz.checked) own started (by kernel_rfl) Tryz.func5
    (ChangeSpec.witness6 (enc := enc) (C := Tryz.checked) false ⟨#[], #[.agg #[.int .i64 0, .int .i64 0, .slice none 0 0, .slice none 0 0], .agg #[.slice none 0 0, .int .i64 0, .int .i64 0, .int .i64 0, .int .i64 0, .int .i64 0]], []⟩ 8 (by kernel_rfl) (by kernel_rfl) (by kernel_rfl) (by kernel_rfl)) ?_
  intro W base args ds gs before hval0 hW hcnd _
  have hval : ∀ (j : Nat) t v, Tryz.f5.params[j]? = some t → args[j]? = some v → Value.okWide Tryz.prog W .any base t v := hval0
  have hW' := hW
  obtain ⟨p, q, hA0, hV, rfl, hfz, hnd⟩ := hW
  have hA : DataW.TrodAll enc Tryz.prog W 0 (fun _ => true) true Tryz.f5.params.toList args.toList ds p := hA0
  rw [Tryz.params5] at hA hval
  obtain ⟨v0, vs0, d0, ds0, p0, q0, hargs, rfl, rfl, h0, r0⟩ := trodAll_cons hA
  obtain ⟨v1, vs1, d1, ds1, p1, q1, rfl, rfl, rfl, h1, r1⟩ := trodAll_cons r0
  obtain ⟨rfl, rfl, rfl⟩ := trodAll_nil r1
  obtain rfl : args = #[v0, v1] := by cases args; simp_all
  obtain ⟨rfl, rfl⟩ := trodVars_none hV
  have k0 := h0
  have lt0 : ∀ x ∈ p0, x.block < W.heap.size := by obtain ⟨m, hm⟩ := k0; exact DataW.trod_lt m _ _ _ hm
  have k1 := h1
  have lt1 : ∀ x ∈ p1, x.block < W.heap.size := by obtain ⟨m, hm⟩ := k1; exact DataW.trod_lt m _ _ _ hm
  obtain ⟨c0, rfl, _⟩ := okWide_struct Tryz.underlying36 (hval 0 36 v0 rfl rfl)
  obtain ⟨a0, wa0⟩ : ∃ d, Own.Came W (.st [.int, .int, .sl (.sl (.int)), .sl (.st [.sl (.st [.int, .int]), .int, .st [.int, .int, .int, .int]])]) c0.toList d := by
    obtain ⟨fuel, hf⟩ := h0
    exact Own.came_of (.st [.int, .int, .sl (.sl (.int)), .sl (.st [.sl (.st [.int, .int]), .int, .st [.int, .int, .int, .int]])]) 36 fuel _ _ (by kernel_rfl) hf
  obtain ⟨c1, rfl, _⟩ := okWide_struct Tryz.underlying46 (hval 1 46 v1 rfl rfl)
  obtain ⟨a1, wa1⟩ : ∃ d, Own.Came W (.st [.sl (.st [.int, .int]), .int, .st [.int, .int, .int, .int]]) c1.toList d := by
    obtain ⟨fuel, hf⟩ := h1
    exact Own.came_of (.st [.sl (.st [.int, .int]), .int, .st [.int, .int, .int, .int]]) 46 fuel _ _ (by kernel_rfl) hf
  clear hA0 hval0
  refine (walk W c0 a0 wa0 c1 a1 wa1).mono fun e W' ⟨he, bel⟩ => ?_
  subst he
  exact ⟨_, rfl, _, _, _, [], _, [], hW', trodAll_mk1 (shut_bool Tryz.underlying4 _), (trodAll_cons_mk (Below.trod laidOut (by kernel_rfl) (of_decide_eq_true (by kernel_rfl)) k0 bel lt0) (trodAll_cons_mk (Below.trod laidOut (by kernel_rfl) (of_decide_eq_true (by kernel_rfl)) k1 bel lt1) trodAll_mk0)), rfl, bel.frame _, fun h => by cases h⟩
theorem over : Rows.fnExactAddToBandRow.holds Tryz.pinned (OpenSpec.ofChange Rows.fnExactAddToBandSpec) :=
  OpenClaim.holds_of_wide 5 Tryz.f5 rfl rfl rfl rfl rfl rfl rfl ⟨rfl, rfl, rfl, rfl, rfl⟩ rfl rfl rfl rfl rfl (by kernel_rfl) Tryz.func5 (by kernel_rfl)
    (of_decide_eq_true (by kernel_rfl)) (by unfold Func.isWrapper; first | (rw [if_pos (by decide +kernel)]; kernel_rfl) | (rw [if_neg (by decide +kernel)]; exact ⟨rfl, rfl⟩))
    (fun os started H enc _ => lifted os started H enc)
theorem proved : Rows.FnExactAddToBandSaid := over
#print axioms proved
end Go.Proofs.YtbdjnfnphilklaaGreat.fnExactAddToBand
