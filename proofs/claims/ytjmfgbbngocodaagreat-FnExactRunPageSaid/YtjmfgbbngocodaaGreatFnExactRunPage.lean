/-
  At every list of tokens RunPage answers as its model does, every field; it writes into no argument; its answer owns its memory. No condition.
  The frame of the proof was written by a tool of this repo after the guide's shells; the walk is this text's own.
-/
import Derived.Test.YtjmfgbbngocodaaGreatRows
import Derived.WalkKit
import Derived.ProofKit
import Derived.OpenShut
import Derived.ShutString
import Derived.ChangeOld
import Derived.ChangeArms
import Derived.Below
import Derived.Handy
import Derived.Lib.SmallJoins
import Derived.Deep.DeepCutAuto
import Derived.Deep.QuietTactic
import Derived.BigQuiet
import Derived.Deep.RegionHeld3
import Derived.Lib.Hide
import Derived.Test.YtjmfgbbngocodaaGreatV13
import Derived.Test.YtjmfgbbngocodaaGreatV09
import Derived.Test.YtjmfgbbngocodaaGreatV14
import Derived.Test.YtjmfgbbngocodaaGreatV15
import Derived.Test.YtjmfgbbngocodaaGreatV17
import Derived.Test.YtjmfgbbngocodaaGreatV50
namespace Go.Proofs.YtjmfgbbngocodaaGreat.fnExactRunPage
open Go.ChangeShapes Go.WideShapes Go.ChangeAt Go.RowKit
open Go.ChangeMaps (open_string shut_string)
open Kit
open Slabs
open Recs
open Go.Proofs.YtjmfgbbngocodaaGreat.Own
set_option linter.unusedVariables false
set_option linter.unusedSimpArgs false
theorem own : ownKnob Tryz.prog.godebug = none := by kernel_rfl
theorem laidOut : laidOutB Tryz.prog = true := by kernel_rfl
set_option maxRecDepth 100000
set_option maxHeartbeats 8000000
attribute [local go_sem ↓] hstore_Graphics hload_Graphics hloadL_Graphics hstore_Page hload_Page hloadL_Page
theorem walk (w : World) (a0 : Option Addr) (l0 p0c : Nat) (z0 : Nat → Nat → Value) (wa0 : IsRecs [.string, .int .i64] w a0 l0 p0c z0) :
    Calls Tryz.prog 4 #[.slice a0 l0 p0c] w fun e w' => e = .returned (.bool true) ∧ Below w.heap.size w w' := by
  have HW0 := Lib.hid (Below.refl w.heap.size w)
  have HC_aList := Lib.hid (show IsRecs Tokens.kl w a0 l0 p0c z0 from wa0)
  clear wa0
  obtain ⟨rpD, rpI, rpD_le, hSp, hIm⟩ := run_told (tkEs z0 l0)
  have HSp := Lib.hid hSp
  have HIm := Lib.hid hIm
  clear hSp hIm
  go_enter Tryz.func4, Tryz.ntmps4
  go_wp2_with fail
  ((with_reducible refine (Tokens.szS_any _ _ _ _ 1048576 _ (by omega) (by omega) (recs_keep HC_aList.out HW0.out)).mono ?_); rintro e w2 ⟨⟨Y1, rfl, lo_Y1, hr_Y1⟩, bb⟩)
  have HW3 := Lib.hid (on_of HW0.out bb)
  have sz4 := bb.size
  clear bb
  by_cases neg_Y1 : Y1 < 0
  · go_wp2
    go_ret
    exact ⟨rfl, HW3.out⟩
  have hb_aList : (tkEs z0 l0).length + bulkL (tkEs z0 l0) ≤ 1048576 := by rw [tkEs_bulk (z := z0) _ (fun i hi => Tokens.rec_at HC_aList.out hi), tkEs_len]; have := hr_Y1 (by omega); omega
  have hn_aList : l0 ≤ 1048576 := by have := tkEs_len z0 l0; omega
  have he_aList : (tkEs z0 l0).length ≤ 1048576 := by omega
  go_wp2_with fail
  ((with_reducible refine (to_TokenS _ hn_aList (recs_keep HC_aList.out HW3.out)).mono ?_); rintro e w6 ⟨R_r5, f_r5, rfl, o_r5, nd_r5, ge_r5, b_r5⟩)
  have HW7 := Lib.hid (on_of HW3.out b_r5)
  have sz8 := b_r5.size
  have HO_tr5 := Lib.hid o_r5
  clear o_r5 b_r5
  go_wp2_with fail
  ((with_reducible refine (HSp.out _ hb_aList HO_tr5.out).mono ?_); rintro e w10 ⟨R_r9, f_r9, rfl, o_r9, nd_r9, ge_r9, b_r9⟩)
  have HO_tr5 := Lib.hid (HO_tr5.out.under b_r9)
  have HW11 := Lib.hid (on_of HW7.out b_r9)
  have sz12 := b_r9.size
  have hb_res : bulkL (rpD) ≤ 1048576 := rpD_le
  have hc_res : 1 + cnt0L (rpD) ≤ 1000000000 := marks_bound o_r9 (by decide) hb_res
  have lt_w0 : ∀ b ∈ f_r9, b < w10.heap.size := o_r9.lt
  have ge_w0 := ge_r9
  have nd_w0 := nd_r9
  obtain ⟨E13, st_w0, BX, cx, zx⟩ := var_new (P := Tryz.prog) (T := 46) Tryz.sizeOf46 w10 #[.slice none 0 0, .int .i64 0, .int .i64 0, .int .i64 0, .int .i64 0, .slice none 0 0, .int .i64 0, .int .i64 0, .int .i64 0, .int .i64 0, .int .i64 0, .slice none 0 0, .slice none 0 0] rfl o_r9 rfl
  have HO_w0 := Lib.hid o_r9
  have HW14 := Lib.hid (on_of HW11.out cx)
  have sz15 := cx.size
  have HO_w0 := Lib.hid (HO_w0.out.under cx)
  have HB_w0 := Lib.hid BX
  obtain ⟨X_w0, hX_w0⟩ : ∃ X, w10.heap.size = X := ⟨_, rfl⟩
  have xl_w0 := Nat.le_of_eq hX_w0
  have xu_w0 := Nat.le_of_eq hX_w0.symm
  rw [hX_w0] at st_w0 HB_w0 zx
  have zz_w0 := zx
  clear BX cx zx
  go_wp2_with fail
  clear st_w0
  clear hX_w0
  ((with_reducible refine (to_TokenS _ hn_aList (recs_keep HC_aList.out HW14.out)).mono ?_); rintro e w17 ⟨R_r16, f_r16, rfl, o_r16, nd_r16, ge_r16, b_r16⟩)
  have HB_w0 := Lib.hid (HB_w0.out.keep b_r16)
  have HO_w0 := Lib.hid (HO_w0.out.under b_r16)
  have HW18 := Lib.hid (on_of HW14.out b_r16)
  have sz19 := b_r16.size
  have lt_x0 : ∀ b ∈ f_r16, b < w17.heap.size := o_r16.lt
  have ge_x0 := ge_r16
  have nd_x0 := nd_r16
  have HO_x0 := Lib.hid o_r16
  clear o_r16 b_r16
  go_wp2_with fail
  ((with_reducible refine (HIm.out _ hb_aList HO_x0.out).mono ?_); rintro e w21 ⟨R_r20, f_r20, rfl, o_r20, nd_r20, ge_r20, b_r20⟩)
  have HB_w0 := Lib.hid (HB_w0.out.keep b_r20)
  have HO_w0 := Lib.hid (HO_w0.out.under b_r20)
  have HO_x0 := Lib.hid (HO_x0.out.under b_r20)
  have HW22 := Lib.hid (on_of HW18.out b_r20)
  have sz23 := b_r20.size
  have lt_g0 : ∀ b ∈ f_r20, b < w21.heap.size := o_r20.lt
  have ge_g0 := ge_r20
  have nd_g0 := nd_r20
  obtain ⟨E24, st_g0, BX, cx, zx⟩ := var_new (P := Tryz.prog) (T := 46) Tryz.sizeOf46 w21 #[.slice none 0 0, .int .i64 0, .int .i64 0, .int .i64 0, .int .i64 0, .slice none 0 0, .int .i64 0, .int .i64 0, .int .i64 0, .int .i64 0, .int .i64 0, .slice none 0 0, .slice none 0 0] rfl o_r20 rfl
  have HO_g0 := Lib.hid o_r20
  have HB_w0 := Lib.hid (HB_w0.out.keep cx)
  have HO_w0 := Lib.hid (HO_w0.out.under cx)
  have HO_x0 := Lib.hid (HO_x0.out.under cx)
  have HW25 := Lib.hid (on_of HW22.out cx)
  have sz26 := cx.size
  have HO_g0 := Lib.hid (HO_g0.out.under cx)
  have HB_g0 := Lib.hid BX
  obtain ⟨X_g0, hX_g0⟩ : ∃ X, w21.heap.size = X := ⟨_, rfl⟩
  have xl_g0 := Nat.le_of_eq hX_g0
  have xu_g0 := Nat.le_of_eq hX_g0.symm
  rw [hX_g0] at st_g0 HB_g0 zx
  have zz_g0 := zx
  clear BX cx zx
  have l_g0 := var_load (P := Tryz.prog) (T := 46) Tryz.isAgg46 Tryz.sizeOf46 HB_g0.out HO_g0.out rfl
  have l_w0 := var_load (P := Tryz.prog) (T := 46) Tryz.isAgg46 Tryz.sizeOf46 HB_w0.out HO_w0.out rfl
  go_wp2_with fail
  clear st_g0 l_g0 l_w0
  clear hX_g0
  ((with_reducible refine (eq_Page _ hb_res HO_g0.out HO_w0.out).mono ?_); rintro e w27 ⟨rfl, bb⟩)
  have HB_w0 := Lib.hid (HB_w0.out.keep bb)
  have HO_w0 := Lib.hid (HO_w0.out.under bb)
  have HO_x0 := Lib.hid (HO_x0.out.under bb)
  have HB_g0 := Lib.hid (HB_g0.out.keep bb)
  have HO_g0 := Lib.hid (HO_g0.out.under bb)
  have HW28 := Lib.hid (on_of HW25.out bb)
  have sz29 := bb.size
  clear bb
  go_wp2_with fail
  ((with_reducible refine (to_TokenS _ hn_aList (recs_keep HC_aList.out HW28.out)).mono ?_); rintro e w31 ⟨R_r30, f_r30, rfl, o_r30, nd_r30, ge_r30, b_r30⟩)
  have HB_w0 := Lib.hid (HB_w0.out.keep b_r30)
  have HO_w0 := Lib.hid (HO_w0.out.under b_r30)
  have HO_x0 := Lib.hid (HO_x0.out.under b_r30)
  have HB_g0 := Lib.hid (HB_g0.out.keep b_r30)
  have HO_g0 := Lib.hid (HO_g0.out.under b_r30)
  have HW32 := Lib.hid (on_of HW28.out b_r30)
  have sz33 := b_r30.size
  have HO_tr30 := Lib.hid o_r30
  clear o_r30 b_r30
  go_wp2_with fail
  ((with_reducible refine (eq_TokenS _ he_aList HO_x0.out HO_tr30.out).mono ?_); rintro e w34 ⟨rfl, bb⟩)
  have HB_w0 := Lib.hid (HB_w0.out.keep bb)
  have HO_w0 := Lib.hid (HO_w0.out.under bb)
  have HO_x0 := Lib.hid (HO_x0.out.under bb)
  have HB_g0 := Lib.hid (HB_g0.out.keep bb)
  have HO_g0 := Lib.hid (HO_g0.out.under bb)
  have HW35 := Lib.hid (on_of HW32.out bb)
  have sz36 := bb.size
  clear bb
  obtain ⟨M_x0, hM_x0⟩ : ∃ M, 1 + cntL (tkEs z0 l0) = M := ⟨_, rfl⟩
  have hp_x0 : ¬ ((M_x0 : Int) < 0) := by omega
  go_wp2_with fail
  ((refine (mark_TokenS1 _ he_aList HO_x0.out).mono ?_); rintro e w37 ⟨rfl, mm, tt⟩)
  rw [hM_x0]
  have HB_w0 := Lib.hid (HB_w0.out.turned tt (fun hb => by have := ge_x0 _ hb; have := lt_x0 _ hb; omega))
  have HO_w0 := Lib.hid (HO_w0.out.turned tt (fun b hb hc => by have := ge_w0 b hb; have := lt_w0 b hb; have := ge_x0 b hc; have := lt_x0 b hc; omega))
  have HB_g0 := Lib.hid (HB_g0.out.turned tt (fun hb => by have := ge_x0 _ hb; have := lt_x0 _ hb; omega))
  have HO_g0 := Lib.hid (HO_g0.out.turned tt (fun b hb hc => by have := ge_g0 b hb; have := lt_g0 b hb; have := ge_x0 b hc; have := lt_x0 b hc; omega))
  have HW38 := Lib.hid (tt.low HW35.out HW35.out.size (fun b hb => by have := ge_x0 b hb; omega))
  have sz39 := tt.size
  have HO_x0 := Lib.hid mm
  clear mm tt
  have l_g0 := var_load (P := Tryz.prog) (T := 46) Tryz.isAgg46 Tryz.sizeOf46 HB_g0.out HO_g0.out rfl
  have l_w0 := var_load (P := Tryz.prog) (T := 46) Tryz.isAgg46 Tryz.sizeOf46 HB_w0.out HO_w0.out rfl
  go_wp2_with fail
  clear l_g0 l_w0
  ((with_reducible refine (eq_Page _ hb_res HO_g0.out HO_w0.out).mono ?_); rintro e w40 ⟨rfl, bb⟩)
  have HB_w0 := Lib.hid (HB_w0.out.keep bb)
  have HO_w0 := Lib.hid (HO_w0.out.under bb)
  have HO_x0 := Lib.hid (HO_x0.out.under bb)
  have HB_g0 := Lib.hid (HB_g0.out.keep bb)
  have HO_g0 := Lib.hid (HO_g0.out.under bb)
  have HW41 := Lib.hid (on_of HW38.out bb)
  have sz42 := bb.size
  clear bb
  have l_g0 := var_load (P := Tryz.prog) (T := 46) Tryz.isAgg46 Tryz.sizeOf46 HB_g0.out HO_g0.out rfl
  obtain ⟨M_g0, hM_g0⟩ : ∃ M, 1 + cnt0L (rpD) = M := ⟨_, rfl⟩
  have hp_g0 : ¬ ((M_g0 : Int) < 0) := by omega
  go_wp2_with fail
  clear l_g0
  ((refine (mark_Page _ 1 hb_res (by omega) hc_res HO_g0.out nd_g0).mono ?_); rintro e w43 ⟨rfl, mm, tt⟩)
  rw [hM_g0]
  have HB_w0 := Lib.hid (HB_w0.out.turned tt (fun hb => by have := ge_g0 _ hb; have := lt_g0 _ hb; omega))
  have HO_w0 := Lib.hid (HO_w0.out.turned tt (fun b hb hc => by have := ge_w0 b hb; have := lt_w0 b hb; have := ge_g0 b hc; have := lt_g0 b hc; omega))
  have HO_x0 := Lib.hid (HO_x0.out.turned tt (fun b hb hc => by have := ge_x0 b hb; have := lt_x0 b hb; have := ge_g0 b hc; have := lt_g0 b hc; omega))
  have HB_g0 := Lib.hid (HB_g0.out.turned tt (fun hb => by have := ge_g0 _ hb; have := lt_g0 _ hb; omega))
  have HW44 := Lib.hid (tt.low HW41.out HW41.out.size (fun b hb => by have := ge_g0 b hb; omega))
  have sz45 := tt.size
  have HD_g0 := Lib.hid HO_g0.out
  have HO_g0 := Lib.hid mm
  clear mm tt
  have l_g0 := var_load (P := Tryz.prog) (T := 46) Tryz.isAgg46 Tryz.sizeOf46 HB_g0.out HO_g0.out rfl
  go_wp2_with fail
  clear l_g0
  ((refine (held_Page _ 1 hb_res (by omega) hc_res HD_g0.out HO_g0.out).mono ?_); rintro e w46 ⟨rfl, bb⟩)
  rw [hM_g0]
  have HB_w0 := Lib.hid (HB_w0.out.keep bb)
  have HO_w0 := Lib.hid (HO_w0.out.under bb)
  have HO_x0 := Lib.hid (HO_x0.out.under bb)
  have HB_g0 := Lib.hid (HB_g0.out.keep bb)
  have HO_g0 := Lib.hid (HO_g0.out.under bb)
  have HW47 := Lib.hid (on_of HW44.out bb)
  have sz48 := bb.size
  clear bb
  go_wp2_with fail
  ((with_reducible refine (to_TokenS _ hn_aList (recs_keep HC_aList.out HW47.out)).mono ?_); rintro e w50 ⟨R_r49, f_r49, rfl, o_r49, nd_r49, ge_r49, b_r49⟩)
  have HB_w0 := Lib.hid (HB_w0.out.keep b_r49)
  have HO_w0 := Lib.hid (HO_w0.out.under b_r49)
  have HO_x0 := Lib.hid (HO_x0.out.under b_r49)
  have HB_g0 := Lib.hid (HB_g0.out.keep b_r49)
  have HO_g0 := Lib.hid (HO_g0.out.under b_r49)
  have HW51 := Lib.hid (on_of HW47.out b_r49)
  have sz52 := b_r49.size
  have HO_tr49 := Lib.hid o_r49
  clear o_r49 b_r49
  go_wp2_with fail
  ((with_reducible refine (HIm.out _ hb_aList HO_tr49.out).mono ?_); rintro e w54 ⟨R_r53, f_r53, rfl, o_r53, nd_r53, ge_r53, b_r53⟩)
  have HB_w0 := Lib.hid (HB_w0.out.keep b_r53)
  have HO_w0 := Lib.hid (HO_w0.out.under b_r53)
  have HO_x0 := Lib.hid (HO_x0.out.under b_r53)
  have HB_g0 := Lib.hid (HB_g0.out.keep b_r53)
  have HO_g0 := Lib.hid (HO_g0.out.under b_r53)
  have HO_tr49 := Lib.hid (HO_tr49.out.under b_r53)
  have HW55 := Lib.hid (on_of HW51.out b_r53)
  have sz56 := b_r53.size
  have lt_h0 : ∀ b ∈ f_r53, b < w54.heap.size := o_r53.lt
  have ge_h0 := ge_r53
  have nd_h0 := nd_r53
  obtain ⟨E57, st_h0, BX, cx, zx⟩ := var_new (P := Tryz.prog) (T := 46) Tryz.sizeOf46 w54 #[.slice none 0 0, .int .i64 0, .int .i64 0, .int .i64 0, .int .i64 0, .slice none 0 0, .int .i64 0, .int .i64 0, .int .i64 0, .int .i64 0, .int .i64 0, .slice none 0 0, .slice none 0 0] rfl o_r53 rfl
  have HO_h0 := Lib.hid o_r53
  have HB_w0 := Lib.hid (HB_w0.out.keep cx)
  have HO_w0 := Lib.hid (HO_w0.out.under cx)
  have HO_x0 := Lib.hid (HO_x0.out.under cx)
  have HB_g0 := Lib.hid (HB_g0.out.keep cx)
  have HO_g0 := Lib.hid (HO_g0.out.under cx)
  have HW58 := Lib.hid (on_of HW55.out cx)
  have sz59 := cx.size
  have HO_h0 := Lib.hid (HO_h0.out.under cx)
  have HB_h0 := Lib.hid BX
  obtain ⟨X_h0, hX_h0⟩ : ∃ X, w54.heap.size = X := ⟨_, rfl⟩
  have xl_h0 := Nat.le_of_eq hX_h0
  have xu_h0 := Nat.le_of_eq hX_h0.symm
  rw [hX_h0] at st_h0 HB_h0 zx
  have zz_h0 := zx
  clear BX cx zx
  have l_h0 := var_load (P := Tryz.prog) (T := 46) Tryz.isAgg46 Tryz.sizeOf46 HB_h0.out HO_h0.out rfl
  have l_w0 := var_load (P := Tryz.prog) (T := 46) Tryz.isAgg46 Tryz.sizeOf46 HB_w0.out HO_w0.out rfl
  go_wp2_with fail
  clear st_h0 l_h0 l_w0
  clear hX_h0
  ((with_reducible refine (eq_Page _ hb_res HO_h0.out HO_w0.out).mono ?_); rintro e w60 ⟨rfl, bb⟩)
  have HB_w0 := Lib.hid (HB_w0.out.keep bb)
  have HO_w0 := Lib.hid (HO_w0.out.under bb)
  have HO_x0 := Lib.hid (HO_x0.out.under bb)
  have HB_g0 := Lib.hid (HB_g0.out.keep bb)
  have HO_g0 := Lib.hid (HO_g0.out.under bb)
  have HB_h0 := Lib.hid (HB_h0.out.keep bb)
  have HO_h0 := Lib.hid (HO_h0.out.under bb)
  have HW61 := Lib.hid (on_of HW58.out bb)
  have sz62 := bb.size
  clear bb
  have l_g0 := var_load (P := Tryz.prog) (T := 46) Tryz.isAgg46 Tryz.sizeOf46 HB_g0.out HO_g0.out rfl
  go_wp2_with fail
  clear l_g0
  ((refine (held_Page _ 1 hb_res (by omega) hc_res HD_g0.out HO_g0.out).mono ?_); rintro e w63 ⟨rfl, bb⟩)
  rw [hM_g0]
  have HB_w0 := Lib.hid (HB_w0.out.keep bb)
  have HO_w0 := Lib.hid (HO_w0.out.under bb)
  have HO_x0 := Lib.hid (HO_x0.out.under bb)
  have HB_g0 := Lib.hid (HB_g0.out.keep bb)
  have HO_g0 := Lib.hid (HO_g0.out.under bb)
  have HB_h0 := Lib.hid (HB_h0.out.keep bb)
  have HO_h0 := Lib.hid (HO_h0.out.under bb)
  have HW64 := Lib.hid (on_of HW61.out bb)
  have sz65 := bb.size
  clear bb
  go_wp2
  go_ret
  exact ⟨rfl, HW64.out⟩
/-! ### THE ROW's STEP -/
set_option maxRecDepth 100000 in
theorem lifted (os : Os) (started : os.Started) (H : Type) (enc : TypeId × Value → H) :
    ReturnsInHanded {} Tryz.checked os 4 .any (Rows.fnExactRunPageSpec.pre6 enc Tryz.prog Tryz.f4 Rows.fnExactRunPageRow.domain false) (Rows.fnExactRunPageSpec.post enc Tryz.prog Tryz.f4 false true false false) := by
  refine returnsInHanded_of_change (C := Tryz.checked) own started (by kernel_rfl) Tryz.func4
    (ChangeSpec.witness6 (enc := enc) (C := Tryz.checked) false ⟨#[], #[.slice none 0 0], []⟩ 8 (by kernel_rfl) (by kernel_rfl) (by kernel_rfl) (by kernel_rfl)) ?_
  intro W base args ds gs before hval0 hW hcnd _
  have hval : ∀ (j : Nat) t v, Tryz.f4.params[j]? = some t → args[j]? = some v → Value.okWide Tryz.prog W .any base t v := hval0
  have hW' := hW
  obtain ⟨p, q, hA0, hV, rfl, hfz, hnd⟩ := hW
  have hA : DataW.TrodAll enc Tryz.prog W 0 (fun _ => true) true Tryz.f4.params.toList args.toList ds p := hA0
  rw [Tryz.params4] at hA hval
  obtain ⟨v0, vs0, d0, ds0, p0, q0, hargs, rfl, rfl, h0, r0⟩ := trodAll_cons hA
  obtain ⟨rfl, rfl, rfl⟩ := trodAll_nil r0
  obtain rfl : args = #[v0] := by cases args; simp_all
  obtain ⟨rfl, rfl⟩ := trodVars_none hV
  have k0 := h0
  have lt0 : ∀ x ∈ p0, x.block < W.heap.size := by obtain ⟨m, hm⟩ := k0; exact DataW.trod_lt m _ _ _ hm
  obtain ⟨a0, l0, p0c, rfl⟩ := okWide_slice Tryz.underlying55 (hval 0 55 v0 rfl rfl)
  obtain ⟨z0, wa0⟩ : ∃ z, IsRecs [.string, .int .i64] W a0 l0 p0c z :=
    recs_of (kl := [.string, .int .i64]) Tryz.underlying55 Tryz.underlying35 (by kernel_rfl) (by kernel_rfl) (by decide) (by kernel_rfl) h0
  clear hA0 hval0
  refine (walk W a0 l0 p0c z0 wa0).mono fun e W' ⟨he, bel⟩ => ?_
  subst he
  exact ⟨_, rfl, _, _, _, [], _, [], hW', trodAll_mk1 (shut_bool Tryz.underlying4 _), (trodAll_cons_mk (Below.trod laidOut (by kernel_rfl) (of_decide_eq_true (by kernel_rfl)) k0 bel lt0) trodAll_mk0), rfl, bel.frame _, fun h => by cases h⟩
theorem over : Rows.fnExactRunPageRow.holds Tryz.pinned (OpenSpec.ofChange Rows.fnExactRunPageSpec) :=
  OpenClaim.holds_of_wide 4 Tryz.f4 rfl rfl rfl rfl rfl rfl rfl ⟨rfl, rfl, rfl, rfl, rfl⟩ rfl rfl rfl rfl rfl (by kernel_rfl) Tryz.func4 (by kernel_rfl)
    (of_decide_eq_true (by kernel_rfl)) (by unfold Func.isWrapper; first | (rw [if_pos (by decide +kernel)]; kernel_rfl) | (rw [if_neg (by decide +kernel)]; exact ⟨rfl, rfl⟩))
    (fun os started H enc _ => lifted os started H enc)
theorem proved : Rows.FnExactRunPageSaid := over
#print axioms proved
end Go.Proofs.YtjmfgbbngocodaaGreat.fnExactRunPage

