/-
  At every argument ExecToken answers as its model does, every field; it writes into no argument; its answer owns its memory. No condition.
  The frame of the proof was written by a tool of this repo after the guide's shells; the walk is this text's own.
-/
import Derived.Test.YtjmfgbbngocodaaGreatRows
import Derived.WalkKit
import Derived.ProofKit
import Derived.OpenShut
import Derived.ShutString
import Derived.ChangeOld
import Derived.ChangeArms
import Derived.Below
import Derived.Handy
import Derived.Lib.SmallJoins
import Derived.Lib.Hide
import Derived.Test.YtjmfgbbngocodaaGreatZ13
import Derived.Test.YtjmfgbbngocodaaGreatZ15
import Derived.Test.YtjmfgbbngocodaaGreatZ17
import Derived.Test.YtjmfgbbngocodaaGreatZ19
import Derived.Test.YtjmfgbbngocodaaGreatZ20
import Derived.Test.YtjmfgbbngocodaaGreatZ22
import Derived.Test.YtjmfgbbngocodaaGreatZ50
namespace Go.Proofs.YtjmfgbbngocodaaGreat.fnExactExecToken
open Go.ChangeShapes Go.WideShapes Go.ChangeAt Go.RowKit
open Go.ChangeMaps (open_string shut_string)
open Kit
open Slabs
open Recs
open Go.Proofs.YtjmfgbbngocodaaGreat.Own
set_option linter.unusedVariables false
set_option linter.unusedSimpArgs false
theorem own : ownKnob Tryz.prog.godebug = none := by kernel_rfl
theorem laidOut : laidOutB Tryz.prog = true := by kernel_rfl
set_option maxRecDepth 100000
set_option maxHeartbeats 8000000
attribute [local go_sem ↓] hstore_Graphics hload_Graphics hloadL_Graphics hstore_Page hload_Page hloadL_Page
theorem walk (w : World) (c0 : Array Value) (a0 : Own.Dt) (wa0 : Own.Came w (.st [.st [.sl (.int), .st [.int, .int, .int, .int], .sl (.st [.int, .int]), .int, .st [.int, .int, .int, .int]], .sl (.st [.sl (.int), .st [.int, .int, .int, .int], .sl (.st [.int, .int]), .int, .st [.int, .int, .int, .int]]), .sl (.st [.sl (.st [.int, .int]), .int, .st [.int, .int, .int, .int]])]) c0.toList a0) (a1Name : ByteArray) (wa1Name : a1Name.size ≤ maxLen) (a1N : Int) (wa1N : (Lit.int .i64 a1N).wf = true) :
    Calls Tryz.prog 3 #[.agg c0, .agg #[.string a1Name, .int .i64 a1N]] w fun e w' => e = .returned (.bool true) ∧ Below w.heap.size w w' := by
  have HW0 := Lib.hid (Below.refl w.heap.size w)
  obtain ⟨ds_aP, hC_aP⟩ := came_st (ks := LPage) wa0 rfl
  have HC_aP := Lib.hid hC_aP
  clear hC_aP wa0
  go_enter Tryz.func3, Tryz.ntmps3
  have bx_aP : Blk (w.alloc (.cells c0 33)) w.heap.size c0.toList := Blk.new _ _ _ rfl
  have bx_aT : Blk ((w.alloc (.cells c0 33)).alloc (.cells #[.string a1Name, .int .i64 a1N] 35)) (w.alloc (.cells c0 33)).heap.size [.string a1Name, .int .i64 a1N] := Blk.new _ _ _ rfl
  have bx_aP := bx_aP.alloc (.cells #[.string a1Name, .int .i64 a1N] 35)
  simp only [World.size_alloc] at bx_aP bx_aT
  have hw0 : Below w.heap.size w ((w.alloc (.cells c0 33)).alloc (.cells #[.string a1Name, .int .i64 a1N] 35)) := by go_grown
  have HB_aP := Lib.hid bx_aP
  have HB_aT := Lib.hid bx_aT
  have HWb := Lib.hid hw0
  clear hw0 bx_aP bx_aT
  obtain ⟨Y1, hY1⟩ : ∃ Y, szv 1048576 (bulkL ds_aP) = Y := ⟨_, rfl⟩
  have l_aP := varC_load (P := Tryz.prog) (T := 33) Tryz.isAgg33 Tryz.sizeOf33 HB_aP.out HC_aP.out rfl
  go_wp2_with fail
  clear l_aP
  ((with_reducible refine (sz_Page _ (HC_aP.out.on HWb.out) 1048576 (by omega) (by omega)).mono ?_); rintro e w2 ⟨rfl, bb⟩)
  rw [hY1]
  have HB_aP := Lib.hid (HB_aP.out.keep bb)
  have HB_aT := Lib.hid (HB_aT.out.keep bb)
  have HW3 := Lib.hid (on_of HWb.out bb)
  have sz4 := bb.size
  clear bb
  obtain ⟨X_aP, hX_aP⟩ : ∃ X, w.heap.size = X := ⟨_, rfl⟩
  have HB_aP := Lib.hid (show Blk w2 X_aP (c0.toList) from hX_aP ▸ HB_aP.out)
  have zz_aP : X_aP < w2.heap.size := HB_aP.out.2.2
  obtain ⟨X_aT, hX_aT⟩ : ∃ X, w.heap.size + 1 = X := ⟨_, rfl⟩
  have HB_aT := Lib.hid (show Blk w2 X_aT ([.string a1Name, .int .i64 a1N]) from hX_aT ▸ HB_aT.out)
  have zz_aT : X_aT < w2.heap.size := HB_aT.out.2.2
  try simp only [hX_aT]
  try simp only [hX_aP]
  by_cases neg_Y1 : Y1 < 0
  · go_wp2
    go_ret
    exact ⟨rfl, HW3.out⟩
  have hb_aP : (bulkL ds_aP) ≤ 1048576 := by rw [← hY1] at neg_Y1; unfold szv at neg_Y1; split at neg_Y1 <;> omega
  have pos_Y1 : 0 ≤ Y1 := by omega
  have top_Y1 : Y1 ≤ 1048576 := by have := szv_le (a := (bulkL ds_aP)) (show 0 ≤ (1048576 : Int) by omega); rw [hY1] at this; omega
  obtain ⟨Y5, hY5⟩ : ∃ Y, szv Y1 (a1Name.size) = Y := ⟨_, rfl⟩
  have l_aT_0 := HB_aT.out.1 0 _ rfl
  have l_aT_1 := HB_aT.out.1 1 _ rfl
  go_wp2_with fail
  clear l_aT_0 l_aT_1
  ((with_reducible refine (sz_Token _ a1Name a1N wa1Name Y1 (by omega) (by omega)).mono ?_); rintro e w6 ⟨rfl, bb⟩)
  rw [hY5]
  have HB_aP := Lib.hid (HB_aP.out.keep bb)
  have HB_aT := Lib.hid (HB_aT.out.keep bb)
  have HW7 := Lib.hid (on_of HW3.out bb)
  have sz8 := bb.size
  clear bb
  by_cases neg_Y5 : Y5 < 0
  · go_wp2
    go_ret
    exact ⟨rfl, HW7.out⟩
  have hb_aT : (a1Name.size) ≤ 1048576 := by rw [← hY5] at neg_Y5; unfold szv at neg_Y5; split at neg_Y5 <;> omega
  have pos_Y5 : 0 ≤ Y5 := by omega
  have top_Y5 : Y5 ≤ 1048576 := by have := szv_le (a := (a1Name.size)) (show 0 ≤ (Y1 : Int) by omega); rw [hY5] at this; omega
  have L_aP := Lib.hid (fun W (hW : Below w6.heap.size w6 W) => varC_load (P := Tryz.prog) (T := 33) Tryz.isAgg33 Tryz.sizeOf33 (HB_aP.out.keep hW) HC_aP.out rfl)
  have L_aT_0 := Lib.hid (fun W (hW : Below w6.heap.size w6 W) => (HB_aT.out.keep hW).1 0 _ rfl)
  have L_aT_1 := Lib.hid (fun W (hW : Below w6.heap.size w6 W) => (HB_aT.out.keep hW).1 1 _ rfl)
  go_wp2_with fail
  go_cut [6, 7] (fun s6 s7 wx => ∃ (X : Nat) (R : Array Value) (f : List Nat), s6 = .pointer (some ⟨X, 0, none⟩) ∧ s7 = .bool (exBb ds_aP a1Name a1N) ∧ OwnL wx LPage R.toList (exDd ds_aP a1Name a1N) f ∧ f.Nodup ∧ (∀ b ∈ f, w6.heap.size ≤ b) ∧ X ∉ f ∧ Blk wx X R.toList ∧ X < wx.heap.size ∧ w6.heap.size ≤ X ∧ Below w6.heap.size w6 wx)
  case first =>
    go_region_held3 (fun w' => (hload 33 ⟨X_aP, 0, none⟩).run Tryz.prog w' = .ok (.agg c0) w' ∧ w'.cell? ⟨X_aT, 0, none⟩ = some (.string a1Name) ∧ w'.cell? ⟨X_aT, 1, none⟩ = some (.int .i64 a1N) ∧ Below w6.heap.size w6 w') (first | exact ⟨L_aP.out _ hE, L_aT_0.out _ hE, L_aT_1.out _ hE, hE⟩ | exact ⟨L_aP.out _ hB, L_aT_0.out _ hB, L_aT_1.out _ hB, hB⟩ | exact ⟨L_aP.out _ (by go_grown), L_aT_0.out _ (by go_grown), L_aT_1.out _ (by go_grown), (by go_grown)⟩)
      (first
        | (go_at_call 8; (with_reducible refine (to_Page _ hb_aP (HC_aP.out.on (on_of HW7.out (by first | exact hB | go_grown)))).mono ?_); rintro e w_aP ⟨R_aP, f_aP, rfl, o_aP, n_aP, g_aP, b_aP⟩; (first | (have BZ := kept0 BZ (by first | exact Below.refl _ _ | go_grown) b_aP) | (have BZ := made0 (B := w6.heap.size) (by first | exact hB.size | exact Nat.le_refl _) b_aP) | (have BZ := made1 (B := w6.heap.size) (by first | exact hB.size | exact Nat.le_refl _) b_aP) | skip); have hB := on_of (W := w6) (by first | exact hB | go_grown) b_aP; have hz := hB.size; have HP_aP := Lib.hid o_aP; clear o_aP)
        | (go_at_call 9; (with_reducible refine (to_Token a1Name a1N _).mono ?_); rintro e w_aT ⟨rfl, b_aT⟩; (first | (have BZ := kept0 BZ (by first | exact Below.refl _ _ | go_grown) b_aT) | (have BZ := made0 (B := w6.heap.size) (by first | exact hB.size | exact Nat.le_refl _) b_aT) | (have BZ := made1 (B := w6.heap.size) (by first | exact hB.size | exact Nat.le_refl _) b_aT) | skip); try (have HP_aP := Lib.hid ((HP_aP.out.under (by first | exact Below.refl _ _ | go_grown)).under b_aT)); have hB := on_of (W := w6) (by first | exact hB | go_grown) b_aT; have hz := hB.size)
        | (go_at_call 7; (with_reducible refine (spec_ExecToken _ hb_aP (HP_aP.out.under (by first | exact Below.refl _ _ | go_grown)) a1Name a1N hb_aT).mono ?_); rintro e wz ⟨R, f, rfl, oR, nR, gR, bz⟩; have hm : w6.heap.size ≤ _ := (by first | exact hB.size | exact Nat.le_refl _); have hB := on_of (W := w6) (by first | exact hB | go_grown) bz; have hz := hB.size; (first
            | (have BZ := kept0 BZ (by first | exact Below.refl _ _ | go_grown) bz; obtain ⟨E, st, BX, tt⟩ := var_put (P := Tryz.prog) (T := 46) Tryz.sizeOf46 BZ.1 rfl oR rfl; have HR := Lib.hid (put_all hB oR nR gR BZ.2.1 BZ.2.2 BX tt))
            | (have BZ := made0 (B := w6.heap.size) hm bz; obtain ⟨E, st, BX, tt⟩ := var_put (P := Tryz.prog) (T := 46) Tryz.sizeOf46 BZ.1 rfl oR rfl; have HR := Lib.hid (put_all hB oR nR gR BZ.2.1 BZ.2.2 BX tt))
            | (have BZ := made1 (B := w6.heap.size) hm bz; obtain ⟨E, st, BX, tt⟩ := var_put (P := Tryz.prog) (T := 46) Tryz.sizeOf46 BZ.1 rfl oR rfl; have HR := Lib.hid (put_all hB oR nR gR BZ.2.1 BZ.2.2 BX tt))
            | (obtain ⟨E, st, BX, cx, zx⟩ := var_new (P := Tryz.prog) (T := 46) Tryz.sizeOf46 wz #[.slice none 0 0, .int .i64 0, .int .i64 0, .int .i64 0, .int .i64 0, .slice none 0 0, .int .i64 0, .int .i64 0, .int .i64 0, .int .i64 0, .int .i64 0, .slice none 0 0, .slice none 0 0] rfl oR rfl; have HR := Lib.hid (put_late hB oR nR gR hm BX cx))); have hE := HR.out.2.2.2.2.2.2.2))
    all_goals (go_wp2_with fail; go_meet; exact ⟨_, _, _, rfl, rfl, HR.out⟩)
  case rest =>
    obtain ⟨X_w0, R_w0, f_w0, rfl, rfl, o_w0, nd_w0, ge_w0, nx_w0, BX, zz_w0, xl_w0, bb⟩ := hcut
    have hb_res : bulkL (exDd ds_aP a1Name a1N) ≤ 1048576 := exDd_le hb_aP _ _
    have hc_res : 1 + cnt0L (exDd ds_aP a1Name a1N) ≤ 1000000000 := marks_bound o_w0 (by decide) hb_res
    have lt_w0 : ∀ b ∈ f_w0, b < wc.heap.size := o_w0.lt
    have HO_w0 := Lib.hid o_w0
    have HB_w0 := Lib.hid BX
    have HB_aP := Lib.hid (HB_aP.out.keep bb)
    have HB_aT := Lib.hid (HB_aT.out.keep bb)
    have HW9 := Lib.hid (on_of HW7.out bb)
    have sz10 := bb.size
    clear o_w0 BX bb
    have l_aP := varC_load (P := Tryz.prog) (T := 33) Tryz.isAgg33 Tryz.sizeOf33 HB_aP.out HC_aP.out rfl
    go_wp2_with fail
    clear l_aP
    ((with_reducible refine (to_Page _ hb_aP (HC_aP.out.on HW9.out)).mono ?_); rintro e w12 ⟨R_r11, f_r11, rfl, o_r11, nd_r11, ge_r11, b_r11⟩)
    have HB_aP := Lib.hid (HB_aP.out.keep b_r11)
    have HB_aT := Lib.hid (HB_aT.out.keep b_r11)
    have HB_w0 := Lib.hid (HB_w0.out.keep b_r11)
    have HO_w0 := Lib.hid (HO_w0.out.under b_r11)
    have HW13 := Lib.hid (on_of HW9.out b_r11)
    have sz14 := b_r11.size
    have lt_x0 : ∀ b ∈ f_r11, b < w12.heap.size := o_r11.lt
    have ge_x0 := ge_r11
    have nd_x0 := nd_r11
    obtain ⟨E15, st_x0, BX, cx, zx⟩ := var_new (P := Tryz.prog) (T := 46) Tryz.sizeOf46 w12 #[.slice none 0 0, .int .i64 0, .int .i64 0, .int .i64 0, .int .i64 0, .slice none 0 0, .int .i64 0, .int .i64 0, .int .i64 0, .int .i64 0, .int .i64 0, .slice none 0 0, .slice none 0 0] rfl o_r11 rfl
    have HO_x0 := Lib.hid o_r11
    have HB_aP := Lib.hid (HB_aP.out.keep cx)
    have HB_aT := Lib.hid (HB_aT.out.keep cx)
    have HB_w0 := Lib.hid (HB_w0.out.keep cx)
    have HO_w0 := Lib.hid (HO_w0.out.under cx)
    have HW16 := Lib.hid (on_of HW13.out cx)
    have sz17 := cx.size
    have HO_x0 := Lib.hid (HO_x0.out.under cx)
    have HB_x0 := Lib.hid BX
    obtain ⟨X_x0, hX_x0⟩ : ∃ X, w12.heap.size = X := ⟨_, rfl⟩
    have xl_x0 := Nat.le_of_eq hX_x0
    have xu_x0 := Nat.le_of_eq hX_x0.symm
    rw [hX_x0] at st_x0 HB_x0 zx
    have zz_x0 := zx
    clear BX cx zx
    have L_x0 := Lib.hid (fun W (hW : Below E15.heap.size E15 W) => var_load (P := Tryz.prog) (T := 46) Tryz.isAgg46 Tryz.sizeOf46 (HB_x0.out.keep hW) HO_x0.out rfl)
    have L_aT_0 := Lib.hid (fun W (hW : Below E15.heap.size E15 W) => (HB_aT.out.keep hW).1 0 _ rfl)
    have L_aT_1 := Lib.hid (fun W (hW : Below E15.heap.size E15 W) => (HB_aT.out.keep hW).1 1 _ rfl)
    go_wp2_with fail
    clear st_x0
    clear hX_x0
    go_cut [9, 10] (fun s9 s10 wx => ∃ (X : Nat) (R : Array Value) (f : List Nat), s9 = .pointer (some ⟨X, 0, none⟩) ∧ s10 = .bool (exBb ds_aP a1Name a1N) ∧ OwnL wx LPage R.toList (exDd ds_aP a1Name a1N) f ∧ f.Nodup ∧ (∀ b ∈ f, E15.heap.size ≤ b) ∧ X ∉ f ∧ Blk wx X R.toList ∧ X < wx.heap.size ∧ E15.heap.size ≤ X ∧ Below E15.heap.size E15 wx)
    case first =>
      go_region_held3 (fun w' => (hload 46 ⟨X_x0, 0, none⟩).run Tryz.prog w' = .ok (.agg R_r11) w' ∧ w'.cell? ⟨X_aT, 0, none⟩ = some (.string a1Name) ∧ w'.cell? ⟨X_aT, 1, none⟩ = some (.int .i64 a1N) ∧ Below E15.heap.size E15 w') (first | exact ⟨L_x0.out _ hE, L_aT_0.out _ hE, L_aT_1.out _ hE, hE⟩ | exact ⟨L_x0.out _ hB, L_aT_0.out _ hB, L_aT_1.out _ hB, hB⟩ | exact ⟨L_x0.out _ (by go_grown), L_aT_0.out _ (by go_grown), L_aT_1.out _ (by go_grown), (by go_grown)⟩)
        (first
          | (go_at_call 9; (with_reducible refine (to_Token a1Name a1N _).mono ?_); rintro e w_aT ⟨rfl, b_aT⟩; (first | (have BZ := kept0 BZ (by first | exact Below.refl _ _ | go_grown) b_aT) | (have BZ := made0 (B := E15.heap.size) (by first | exact hB.size | exact Nat.le_refl _) b_aT) | (have BZ := made1 (B := E15.heap.size) (by first | exact hB.size | exact Nat.le_refl _) b_aT) | skip); have hB := on_of (W := E15) (by first | exact hB | go_grown) b_aT; have hz := hB.size)
          | (go_at_call 10; (with_reducible refine (impl_ExecToken _ hb_aP (HO_x0.out.under (by first | exact hB | exact Below.refl _ _ | go_grown)) a1Name a1N hb_aT).mono ?_); rintro e wz ⟨R, f, rfl, oR, nR, gR, bz⟩; have hm : E15.heap.size ≤ _ := (by first | exact hB.size | exact Nat.le_refl _); have hB := on_of (W := E15) (by first | exact hB | go_grown) bz; have hz := hB.size; (first
              | (have BZ := kept0 BZ (by first | exact Below.refl _ _ | go_grown) bz; obtain ⟨E, st, BX, tt⟩ := var_put (P := Tryz.prog) (T := 46) Tryz.sizeOf46 BZ.1 rfl oR rfl; have HR := Lib.hid (put_all hB oR nR gR BZ.2.1 BZ.2.2 BX tt))
              | (have BZ := made0 (B := E15.heap.size) hm bz; obtain ⟨E, st, BX, tt⟩ := var_put (P := Tryz.prog) (T := 46) Tryz.sizeOf46 BZ.1 rfl oR rfl; have HR := Lib.hid (put_all hB oR nR gR BZ.2.1 BZ.2.2 BX tt))
              | (have BZ := made1 (B := E15.heap.size) hm bz; obtain ⟨E, st, BX, tt⟩ := var_put (P := Tryz.prog) (T := 46) Tryz.sizeOf46 BZ.1 rfl oR rfl; have HR := Lib.hid (put_all hB oR nR gR BZ.2.1 BZ.2.2 BX tt))
              | (obtain ⟨E, st, BX, cx, zx⟩ := var_new (P := Tryz.prog) (T := 46) Tryz.sizeOf46 wz #[.slice none 0 0, .int .i64 0, .int .i64 0, .int .i64 0, .int .i64 0, .slice none 0 0, .int .i64 0, .int .i64 0, .int .i64 0, .int .i64 0, .int .i64 0, .slice none 0 0, .slice none 0 0] rfl oR rfl; have HR := Lib.hid (put_late hB oR nR gR hm BX cx))); have hE := HR.out.2.2.2.2.2.2.2))
      all_goals (go_wp2_with fail; go_meet; exact ⟨_, _, _, rfl, rfl, HR.out⟩)
    case rest =>
      obtain ⟨X_g0, R_g0, f_g0, rfl, rfl, o_g0, nd_g0, ge_g0, nx_g0, BX, zz_g0, xl_g0, bb⟩ := hcut
      have lt_g0 : ∀ b ∈ f_g0, b < wc.heap.size := o_g0.lt
      have HO_g0 := Lib.hid o_g0
      have HB_g0 := Lib.hid BX
      have HB_aP := Lib.hid (HB_aP.out.keep bb)
      have HB_aT := Lib.hid (HB_aT.out.keep bb)
      have HB_w0 := Lib.hid (HB_w0.out.keep bb)
      have HO_w0 := Lib.hid (HO_w0.out.under bb)
      have HB_x0 := Lib.hid (HB_x0.out.keep bb)
      have HO_x0 := Lib.hid (HO_x0.out.under bb)
      have HW18 := Lib.hid (on_of HW16.out bb)
      have sz19 := bb.size
      clear o_g0 BX bb
      have l_g0 := var_load (P := Tryz.prog) (T := 46) Tryz.isAgg46 Tryz.sizeOf46 HB_g0.out HO_g0.out rfl
      have l_w0 := var_load (P := Tryz.prog) (T := 46) Tryz.isAgg46 Tryz.sizeOf46 HB_w0.out HO_w0.out rfl
      go_wp2_with fail
      clear l_g0 l_w0
      ((with_reducible refine (eq_Page _ hb_res HO_g0.out HO_w0.out).mono ?_); rintro e w20 ⟨rfl, bb⟩)
      have HB_aP := Lib.hid (HB_aP.out.keep bb)
      have HB_aT := Lib.hid (HB_aT.out.keep bb)
      have HB_w0 := Lib.hid (HB_w0.out.keep bb)
      have HO_w0 := Lib.hid (HO_w0.out.under bb)
      have HB_x0 := Lib.hid (HB_x0.out.keep bb)
      have HO_x0 := Lib.hid (HO_x0.out.under bb)
      have HB_g0 := Lib.hid (HB_g0.out.keep bb)
      have HO_g0 := Lib.hid (HO_g0.out.under bb)
      have HW21 := Lib.hid (on_of HW18.out bb)
      have sz22 := bb.size
      clear bb
      have LA := Lib.hid (fun W (hW : Below w20.heap.size w20 W) => varC_load (P := Tryz.prog) (T := 33) Tryz.isAgg33 Tryz.sizeOf33 (HB_aP.out.keep hW) HC_aP.out rfl)
      have LX := Lib.hid (fun W (hW : Below w20.heap.size w20 W) => var_load (P := Tryz.prog) (T := 46) Tryz.isAgg46 Tryz.sizeOf46 (HB_x0.out.keep hW) HO_x0.out rfl)
      go_wp2_with fail
      go_region_held3 (fun w' => (hload 33 ⟨X_aP, 0, none⟩).run Tryz.prog w' = .ok (.agg c0) w' ∧ (hload 46 ⟨X_x0, 0, none⟩).run Tryz.prog w' = .ok (.agg R_r11) w' ∧ Below w20.heap.size w20 w') (first | exact ⟨LA.out _ hB, LX.out _ hB, hB⟩ | exact ⟨LA.out _ (by go_grown), LX.out _ (by go_grown), by go_grown⟩)
        (first
          | (go_at_call 8; (with_reducible refine (to_Page _ hb_aP (HC_aP.out.on (on_of HW21.out (by go_grown)))).mono ?_); rintro e w23 ⟨R3, f3, rfl, o3, n3, g3, b6⟩; have hB := on_of (W := w20) (by go_grown) b6; have HO3 := Lib.hid o3; clear o3)
          | (go_at_call 11; (with_reducible refine (eq_Page _ hb_aP (HO_x0.out.under hB) HO3.out).mono ?_); rintro e w24 ⟨rfl, b7⟩; have hB := on_of hB b7))
      have bb := hB
      clear hB b6 b7 LA LX HO3 g3 n3
      have HB_aP := Lib.hid (HB_aP.out.keep bb)
      have HB_aT := Lib.hid (HB_aT.out.keep bb)
      have HB_w0 := Lib.hid (HB_w0.out.keep bb)
      have HO_w0 := Lib.hid (HO_w0.out.under bb)
      have HB_x0 := Lib.hid (HB_x0.out.keep bb)
      have HO_x0 := Lib.hid (HO_x0.out.under bb)
      have HB_g0 := Lib.hid (HB_g0.out.keep bb)
      have HO_g0 := Lib.hid (HO_g0.out.under bb)
      have HW25 := Lib.hid (on_of HW21.out bb)
      have sz26 := bb.size
      clear bb
      have l_x0 := var_load (P := Tryz.prog) (T := 46) Tryz.isAgg46 Tryz.sizeOf46 HB_x0.out HO_x0.out rfl
      have hc_x0 : 1 + cnt0L (ds_aP) ≤ 1000000000 := marks_bound HO_x0.out (by decide) hb_aP
      obtain ⟨M_x0, hM_x0⟩ : ∃ M, 1 + cnt0L (ds_aP) = M := ⟨_, rfl⟩
      have hp_x0 : ¬ ((M_x0 : Int) < 0) := by omega
      go_wp2_with fail
      clear l_x0
      ((refine (mark_Page _ 1 hb_aP (by omega) hc_x0 HO_x0.out nd_x0).mono ?_); rintro e w27 ⟨rfl, mm, tt⟩)
      rw [hM_x0]
      have HB_aP := Lib.hid (HB_aP.out.turned tt (fun hb => by have := ge_x0 _ hb; have := lt_x0 _ hb; omega))
      have HB_aT := Lib.hid (HB_aT.out.turned tt (fun hb => by have := ge_x0 _ hb; have := lt_x0 _ hb; omega))
      have HB_w0 := Lib.hid (HB_w0.out.turned tt (fun hb => by have := ge_x0 _ hb; have := lt_x0 _ hb; omega))
      have HO_w0 := Lib.hid (HO_w0.out.turned tt (fun b hb hc => by have := ge_w0 b hb; have := lt_w0 b hb; have := ge_x0 b hc; have := lt_x0 b hc; omega))
      have HB_x0 := Lib.hid (HB_x0.out.turned tt (fun hb => by have := ge_x0 _ hb; have := lt_x0 _ hb; omega))
      have HB_g0 := Lib.hid (HB_g0.out.turned tt (fun hb => by have := ge_x0 _ hb; have := lt_x0 _ hb; omega))
      have HO_g0 := Lib.hid (HO_g0.out.turned tt (fun b hb hc => by have := ge_g0 b hb; have := lt_g0 b hb; have := ge_x0 b hc; have := lt_x0 b hc; omega))
      have HW28 := Lib.hid (tt.low HW25.out HW25.out.size (fun b hb => by have := ge_x0 b hb; omega))
      have sz29 := tt.size
      have HD_x0 := Lib.hid HO_x0.out
      have HO_x0 := Lib.hid mm
      clear mm tt
      have l_g0 := var_load (P := Tryz.prog) (T := 46) Tryz.isAgg46 Tryz.sizeOf46 HB_g0.out HO_g0.out rfl
      have l_w0 := var_load (P := Tryz.prog) (T := 46) Tryz.isAgg46 Tryz.sizeOf46 HB_w0.out HO_w0.out rfl
      go_wp2_with fail
      clear l_g0 l_w0
      ((with_reducible refine (eq_Page _ hb_res HO_g0.out HO_w0.out).mono ?_); rintro e w30 ⟨rfl, bb⟩)
      have HB_aP := Lib.hid (HB_aP.out.keep bb)
      have HB_aT := Lib.hid (HB_aT.out.keep bb)
      have HB_w0 := Lib.hid (HB_w0.out.keep bb)
      have HO_w0 := Lib.hid (HO_w0.out.under bb)
      have HB_x0 := Lib.hid (HB_x0.out.keep bb)
      have HO_x0 := Lib.hid (HO_x0.out.under bb)
      have HB_g0 := Lib.hid (HB_g0.out.keep bb)
      have HO_g0 := Lib.hid (HO_g0.out.under bb)
      have HW31 := Lib.hid (on_of HW28.out bb)
      have sz32 := bb.size
      clear bb
      have l_g0 := var_load (P := Tryz.prog) (T := 46) Tryz.isAgg46 Tryz.sizeOf46 HB_g0.out HO_g0.out rfl
      obtain ⟨M_g0, hM_g0⟩ : ∃ M, 1 + cnt0L (exDd ds_aP a1Name a1N) = M := ⟨_, rfl⟩
      have hp_g0 : ¬ ((M_g0 : Int) < 0) := by omega
      go_wp2_with fail
      clear l_g0
      ((refine (mark_Page _ 1 hb_res (by omega) hc_res HO_g0.out nd_g0).mono ?_); rintro e w33 ⟨rfl, mm, tt⟩)
      rw [hM_g0]
      have HB_aP := Lib.hid (HB_aP.out.turned tt (fun hb => by have := ge_g0 _ hb; have := lt_g0 _ hb; omega))
      have HB_aT := Lib.hid (HB_aT.out.turned tt (fun hb => by have := ge_g0 _ hb; have := lt_g0 _ hb; omega))
      have HB_w0 := Lib.hid (HB_w0.out.turned tt (fun hb => by have := ge_g0 _ hb; have := lt_g0 _ hb; omega))
      have HO_w0 := Lib.hid (HO_w0.out.turned tt (fun b hb hc => by have := ge_w0 b hb; have := lt_w0 b hb; have := ge_g0 b hc; have := lt_g0 b hc; omega))
      have HB_x0 := Lib.hid (HB_x0.out.turned tt (fun hb => by have := ge_g0 _ hb; have := lt_g0 _ hb; omega))
      have HO_x0 := Lib.hid (HO_x0.out.turned tt (fun b hb hc => by have := ge_x0 b hb; have := lt_x0 b hb; have := ge_g0 b hc; have := lt_g0 b hc; omega))
      have HB_g0 := Lib.hid (HB_g0.out.turned tt (fun hb => by first | exact absurd hb nx_g0 | (have := ge_g0 _ hb; have := lt_g0 _ hb; omega)))
      have HW34 := Lib.hid (tt.low HW31.out HW31.out.size (fun b hb => by have := ge_g0 b hb; omega))
      have sz35 := tt.size
      have HD_g0 := Lib.hid HO_g0.out
      have HO_g0 := Lib.hid mm
      clear mm tt
      have l_g0 := var_load (P := Tryz.prog) (T := 46) Tryz.isAgg46 Tryz.sizeOf46 HB_g0.out HO_g0.out rfl
      go_wp2_with fail
      clear l_g0
      ((refine (held_Page _ 1 hb_res (by omega) hc_res HD_g0.out HO_g0.out).mono ?_); rintro e w36 ⟨rfl, bb⟩)
      rw [hM_g0]
      have HB_aP := Lib.hid (HB_aP.out.keep bb)
      have HB_aT := Lib.hid (HB_aT.out.keep bb)
      have HB_w0 := Lib.hid (HB_w0.out.keep bb)
      have HO_w0 := Lib.hid (HO_w0.out.under bb)
      have HB_x0 := Lib.hid (HB_x0.out.keep bb)
      have HO_x0 := Lib.hid (HO_x0.out.under bb)
      have HB_g0 := Lib.hid (HB_g0.out.keep bb)
      have HO_g0 := Lib.hid (HO_g0.out.under bb)
      have HW37 := Lib.hid (on_of HW34.out bb)
      have sz38 := bb.size
      clear bb
      have L_aP := Lib.hid (fun W (hW : Below w36.heap.size w36 W) => varC_load (P := Tryz.prog) (T := 33) Tryz.isAgg33 Tryz.sizeOf33 (HB_aP.out.keep hW) HC_aP.out rfl)
      have L_aT_0 := Lib.hid (fun W (hW : Below w36.heap.size w36 W) => (HB_aT.out.keep hW).1 0 _ rfl)
      have L_aT_1 := Lib.hid (fun W (hW : Below w36.heap.size w36 W) => (HB_aT.out.keep hW).1 1 _ rfl)
      go_wp2_with fail
      go_cut [14, 15] (fun s14 s15 wx => ∃ (X : Nat) (R : Array Value) (f : List Nat), s14 = .pointer (some ⟨X, 0, none⟩) ∧ s15 = .bool (exBb ds_aP a1Name a1N) ∧ OwnL wx LPage R.toList (exDd ds_aP a1Name a1N) f ∧ f.Nodup ∧ (∀ b ∈ f, w36.heap.size ≤ b) ∧ X ∉ f ∧ Blk wx X R.toList ∧ X < wx.heap.size ∧ w36.heap.size ≤ X ∧ Below w36.heap.size w36 wx)
      case first =>
        go_region_held3 (fun w' => (hload 33 ⟨X_aP, 0, none⟩).run Tryz.prog w' = .ok (.agg c0) w' ∧ w'.cell? ⟨X_aT, 0, none⟩ = some (.string a1Name) ∧ w'.cell? ⟨X_aT, 1, none⟩ = some (.int .i64 a1N) ∧ Below w36.heap.size w36 w') (first | exact ⟨L_aP.out _ hE, L_aT_0.out _ hE, L_aT_1.out _ hE, hE⟩ | exact ⟨L_aP.out _ hB, L_aT_0.out _ hB, L_aT_1.out _ hB, hB⟩ | exact ⟨L_aP.out _ (by go_grown), L_aT_0.out _ (by go_grown), L_aT_1.out _ (by go_grown), (by go_grown)⟩)
          (first
            | (go_at_call 8; (with_reducible refine (to_Page _ hb_aP (HC_aP.out.on (on_of HW37.out (by first | exact hB | go_grown)))).mono ?_); rintro e w_aP ⟨R_aP, f_aP, rfl, o_aP, n_aP, g_aP, b_aP⟩; (first | (have BZ := kept0 BZ (by first | exact Below.refl _ _ | go_grown) b_aP) | (have BZ := made0 (B := w36.heap.size) (by first | exact hB.size | exact Nat.le_refl _) b_aP) | (have BZ := made1 (B := w36.heap.size) (by first | exact hB.size | exact Nat.le_refl _) b_aP) | skip); have hB := on_of (W := w36) (by first | exact hB | go_grown) b_aP; have hz := hB.size; have HP_aP := Lib.hid o_aP; clear o_aP)
            | (go_at_call 9; (with_reducible refine (to_Token a1Name a1N _).mono ?_); rintro e w_aT ⟨rfl, b_aT⟩; (first | (have BZ := kept0 BZ (by first | exact Below.refl _ _ | go_grown) b_aT) | (have BZ := made0 (B := w36.heap.size) (by first | exact hB.size | exact Nat.le_refl _) b_aT) | (have BZ := made1 (B := w36.heap.size) (by first | exact hB.size | exact Nat.le_refl _) b_aT) | skip); try (have HP_aP := Lib.hid ((HP_aP.out.under (by first | exact Below.refl _ _ | go_grown)).under b_aT)); have hB := on_of (W := w36) (by first | exact hB | go_grown) b_aT; have hz := hB.size)
            | (go_at_call 10; (with_reducible refine (impl_ExecToken _ hb_aP (HP_aP.out.under (by first | exact Below.refl _ _ | go_grown)) a1Name a1N hb_aT).mono ?_); rintro e wz ⟨R, f, rfl, oR, nR, gR, bz⟩; have hm : w36.heap.size ≤ _ := (by first | exact hB.size | exact Nat.le_refl _); have hB := on_of (W := w36) (by first | exact hB | go_grown) bz; have hz := hB.size; (first
                | (have BZ := kept0 BZ (by first | exact Below.refl _ _ | go_grown) bz; obtain ⟨E, st, BX, tt⟩ := var_put (P := Tryz.prog) (T := 46) Tryz.sizeOf46 BZ.1 rfl oR rfl; have HR := Lib.hid (put_all hB oR nR gR BZ.2.1 BZ.2.2 BX tt))
                | (have BZ := made0 (B := w36.heap.size) hm bz; obtain ⟨E, st, BX, tt⟩ := var_put (P := Tryz.prog) (T := 46) Tryz.sizeOf46 BZ.1 rfl oR rfl; have HR := Lib.hid (put_all hB oR nR gR BZ.2.1 BZ.2.2 BX tt))
                | (have BZ := made1 (B := w36.heap.size) hm bz; obtain ⟨E, st, BX, tt⟩ := var_put (P := Tryz.prog) (T := 46) Tryz.sizeOf46 BZ.1 rfl oR rfl; have HR := Lib.hid (put_all hB oR nR gR BZ.2.1 BZ.2.2 BX tt))
                | (obtain ⟨E, st, BX, cx, zx⟩ := var_new (P := Tryz.prog) (T := 46) Tryz.sizeOf46 wz #[.slice none 0 0, .int .i64 0, .int .i64 0, .int .i64 0, .int .i64 0, .slice none 0 0, .int .i64 0, .int .i64 0, .int .i64 0, .int .i64 0, .int .i64 0, .slice none 0 0, .slice none 0 0] rfl oR rfl; have HR := Lib.hid (put_late hB oR nR gR hm BX cx))); have hE := HR.out.2.2.2.2.2.2.2))
        all_goals (go_wp2_with fail; go_meet; exact ⟨_, _, _, rfl, rfl, HR.out⟩)
      case rest =>
        obtain ⟨X_h0, R_h0, f_h0, rfl, rfl, o_h0, nd_h0, ge_h0, nx_h0, BX, zz_h0, xl_h0, bb⟩ := hcut
        have lt_h0 : ∀ b ∈ f_h0, b < wc.heap.size := o_h0.lt
        have HO_h0 := Lib.hid o_h0
        have HB_h0 := Lib.hid BX
        have HB_aP := Lib.hid (HB_aP.out.keep bb)
        have HB_aT := Lib.hid (HB_aT.out.keep bb)
        have HB_w0 := Lib.hid (HB_w0.out.keep bb)
        have HO_w0 := Lib.hid (HO_w0.out.under bb)
        have HB_x0 := Lib.hid (HB_x0.out.keep bb)
        have HO_x0 := Lib.hid (HO_x0.out.under bb)
        have HB_g0 := Lib.hid (HB_g0.out.keep bb)
        have HO_g0 := Lib.hid (HO_g0.out.under bb)
        have HW39 := Lib.hid (on_of HW37.out bb)
        have sz40 := bb.size
        clear o_h0 BX bb
        have l_h0 := var_load (P := Tryz.prog) (T := 46) Tryz.isAgg46 Tryz.sizeOf46 HB_h0.out HO_h0.out rfl
        have l_w0 := var_load (P := Tryz.prog) (T := 46) Tryz.isAgg46 Tryz.sizeOf46 HB_w0.out HO_w0.out rfl
        go_wp2_with fail
        clear l_h0 l_w0
        ((with_reducible refine (eq_Page _ hb_res HO_h0.out HO_w0.out).mono ?_); rintro e w41 ⟨rfl, bb⟩)
        have HB_aP := Lib.hid (HB_aP.out.keep bb)
        have HB_aT := Lib.hid (HB_aT.out.keep bb)
        have HB_w0 := Lib.hid (HB_w0.out.keep bb)
        have HO_w0 := Lib.hid (HO_w0.out.under bb)
        have HB_x0 := Lib.hid (HB_x0.out.keep bb)
        have HO_x0 := Lib.hid (HO_x0.out.under bb)
        have HB_g0 := Lib.hid (HB_g0.out.keep bb)
        have HO_g0 := Lib.hid (HO_g0.out.under bb)
        have HB_h0 := Lib.hid (HB_h0.out.keep bb)
        have HO_h0 := Lib.hid (HO_h0.out.under bb)
        have HW42 := Lib.hid (on_of HW39.out bb)
        have sz43 := bb.size
        clear bb
        have l_g0 := var_load (P := Tryz.prog) (T := 46) Tryz.isAgg46 Tryz.sizeOf46 HB_g0.out HO_g0.out rfl
        go_wp2_with fail
        clear l_g0
        ((refine (held_Page _ 1 hb_res (by omega) hc_res HD_g0.out HO_g0.out).mono ?_); rintro e w44 ⟨rfl, bb⟩)
        rw [hM_g0]
        have HB_aP := Lib.hid (HB_aP.out.keep bb)
        have HB_aT := Lib.hid (HB_aT.out.keep bb)
        have HB_w0 := Lib.hid (HB_w0.out.keep bb)
        have HO_w0 := Lib.hid (HO_w0.out.under bb)
        have HB_x0 := Lib.hid (HB_x0.out.keep bb)
        have HO_x0 := Lib.hid (HO_x0.out.under bb)
        have HB_g0 := Lib.hid (HB_g0.out.keep bb)
        have HO_g0 := Lib.hid (HO_g0.out.under bb)
        have HB_h0 := Lib.hid (HB_h0.out.keep bb)
        have HO_h0 := Lib.hid (HO_h0.out.under bb)
        have HW45 := Lib.hid (on_of HW42.out bb)
        have sz46 := bb.size
        clear bb
        go_wp2
        go_ret
        exact ⟨rfl, HW45.out⟩
/-! ### THE ROW's STEP -/
set_option maxRecDepth 100000 in
theorem lifted (os : Os) (started : os.Started) (H : Type) (enc : TypeId × Value → H) :
    ReturnsInHanded {} Tryz.checked os 3 .any (Rows.fnExactExecTokenSpec.pre6 enc Tryz.prog Tryz.f3 Rows.fnExactExecTokenRow.domain false) (Rows.fnExactExecTokenSpec.post enc Tryz.prog Tryz.f3 false true false false) := by
  refine returnsInHanded_of_change (C := Tryz.checked) own started (by kernel_rfl) Tryz.func3
    (ChangeSpec.witness6 (enc := enc) (C := Tryz.checked) false ⟨#[], #[.agg #[.slice none 0 0, .int .i64 0, .int .i64 0, .int .i64 0, .int .i64 0, .slice none 0 0, .int .i64 0, .int .i64 0, .int .i64 0, .int .i64 0, .int .i64 0, .slice none 0 0, .slice none 0 0], .agg #[.string ByteArray.empty, .int .i64 0]], []⟩ 8 (by kernel_rfl) (by kernel_rfl) (by kernel_rfl) (by kernel_rfl)) ?_
  intro W base args ds gs before hval0 hW hcnd _
  have hval : ∀ (j : Nat) t v, Tryz.f3.params[j]? = some t → args[j]? = some v → Value.okWide Tryz.prog W .any base t v := hval0
  have hW' := hW
  obtain ⟨p, q, hA0, hV, rfl, hfz, hnd⟩ := hW
  have hA : DataW.TrodAll enc Tryz.prog W 0 (fun _ => true) true Tryz.f3.params.toList args.toList ds p := hA0
  rw [Tryz.params3] at hA hval
  obtain ⟨v0, vs0, d0, ds0, p0, q0, hargs, rfl, rfl, h0, r0⟩ := trodAll_cons hA
  obtain ⟨v1, vs1, d1, ds1, p1, q1, rfl, rfl, rfl, h1, r1⟩ := trodAll_cons r0
  obtain ⟨rfl, rfl, rfl⟩ := trodAll_nil r1
  obtain rfl : args = #[v0, v1] := by cases args; simp_all
  obtain ⟨rfl, rfl⟩ := trodVars_none hV
  have k0 := h0
  have lt0 : ∀ x ∈ p0, x.block < W.heap.size := by obtain ⟨m, hm⟩ := k0; exact DataW.trod_lt m _ _ _ hm
  have k1 := h1
  have lt1 : ∀ x ∈ p1, x.block < W.heap.size := by obtain ⟨m, hm⟩ := k1; exact DataW.trod_lt m _ _ _ hm
  obtain ⟨c0, rfl, _⟩ := okWide_struct Tryz.underlying33 (hval 0 33 v0 rfl rfl)
  obtain ⟨a0, wa0⟩ : ∃ d, Own.Came W (.st [.st [.sl (.int), .st [.int, .int, .int, .int], .sl (.st [.int, .int]), .int, .st [.int, .int, .int, .int]], .sl (.st [.sl (.int), .st [.int, .int, .int, .int], .sl (.st [.int, .int]), .int, .st [.int, .int, .int, .int]]), .sl (.st [.sl (.st [.int, .int]), .int, .st [.int, .int, .int, .int]])]) c0.toList d := by
    obtain ⟨fuel, hf⟩ := h0
    exact Own.came_of (.st [.st [.sl (.int), .st [.int, .int, .int, .int], .sl (.st [.int, .int]), .int, .st [.int, .int, .int, .int]], .sl (.st [.sl (.int), .st [.int, .int, .int, .int], .sl (.st [.int, .int]), .int, .st [.int, .int, .int, .int]]), .sl (.st [.sl (.st [.int, .int]), .int, .st [.int, .int, .int, .int]])]) 33 fuel _ _ (by kernel_rfl) hf
  obtain ⟨c1_0, c1_1, y1_0, y1_1, m1, rfl, rfl, rfl, hy1_0, hy1_1⟩ := Joins.open_agg2 Tryz.underlying35 (by kernel_rfl) (show Tryz.prog.cellsOf 35 = 2 by kernel_rfl) (hval 1 35 v1 rfl rfl) h1
  obtain ⟨a1Name, e1_0, rfl, wa1Name⟩ := DataW.trod_string Tryz.underlying9 hy1_0
  simp only [List.cons.injEq, and_true] at e1_0
  subst e1_0
  obtain ⟨a1N, e1_1, rfl, wa1N⟩ := DataW.trod_int Tryz.underlying3 hy1_1
  simp only [List.cons.injEq, and_true] at e1_1
  subst e1_1
  clear hA0 hval0
  refine (walk W c0 a0 wa0 a1Name wa1Name a1N wa1N).mono fun e W' ⟨he, bel⟩ => ?_
  subst he
  exact ⟨_, rfl, _, _, _, [], _, [], hW', trodAll_mk1 (shut_bool Tryz.underlying4 _), (trodAll_cons_mk (Below.trod laidOut (by kernel_rfl) (of_decide_eq_true (by kernel_rfl)) k0 bel lt0) (trodAll_cons_mk (Below.trod laidOut (by kernel_rfl) (of_decide_eq_true (by kernel_rfl)) k1 bel lt1) trodAll_mk0)), rfl, bel.frame _, fun h => by cases h⟩
theorem over : Rows.fnExactExecTokenRow.holds Tryz.pinned (OpenSpec.ofChange Rows.fnExactExecTokenSpec) :=
  OpenClaim.holds_of_wide 3 Tryz.f3 rfl rfl rfl rfl rfl rfl rfl ⟨rfl, rfl, rfl, rfl, rfl⟩ rfl rfl rfl rfl rfl (by kernel_rfl) Tryz.func3 (by kernel_rfl)
    (of_decide_eq_true (by kernel_rfl)) (by unfold Func.isWrapper; first | (rw [if_pos (by decide +kernel)]; kernel_rfl) | (rw [if_neg (by decide +kernel)]; exact ⟨rfl, rfl⟩))
    (fun os started H enc _ => lifted os started H enc)
theorem proved : Rows.FnExactExecTokenSaid := over
#print axioms proved
end Go.Proofs.YtjmfgbbngocodaaGreat.fnExactExecToken

