/-
  The law FnExactBandCells holds of every argument: BandCells answers as its model does and leaves its argument as it was. No condition (the law itself returns true at more than 1048576 elements).
  The frame of the proof was written by a tool of this repo after the guide's shells; the walk is this text's own.
-/
import Derived.Test.YtbdjnfnphilklaaRows
import Derived.WalkKit
import Derived.ProofKit
import Derived.OpenShut
import Derived.ShutString
import Derived.ChangeOld
import Derived.ChangeArms
import Derived.Below
import Derived.Handy
import Derived.Lib.SmallJoins
import Derived.Lib.Hide
import Derived.Deep.RegionHeld3
import Derived.Deep.DeepCutAuto
import Derived.BigQuiet
import Derived.Deep.QuietTactic
import Derived.Test.YtbdjnfnphilklaaP38
import Derived.Test.YtbdjnfnphilklaaP40
import Derived.Test.YtbdjnfnphilklaaP36
namespace Go.Proofs.Ytbdjnfnphilklaa.fnExactBandCells
open Go.ChangeShapes Go.WideShapes Go.ChangeAt Go.RowKit
open Go.ChangeMaps (open_string shut_string)
open Kit
open Slabs
open Go.Proofs.Ytbdjnfnphilklaa.Own
set_option linter.unusedVariables false
set_option linter.unusedSimpArgs false
theorem own : ownKnob Try.prog.godebug = none := by kernel_rfl
theorem laidOut : laidOutB Try.prog = true := by kernel_rfl
attribute [local go_sem ↓] hstore_Object hload_Object hloadL_Object hstore_Band hload_Band hloadL_Band
set_option maxRecDepth 100000 in
set_option maxHeartbeats 8000000 in
theorem walk (w : World) (c0 : Array Value) (a0 : Own.Dt) (wa0 : Own.Came w (.st [.int, .int, .sl (.sl (.int)), .sl (.st [.sl (.st [.int, .int]), .int, .st [.int, .int, .int, .int]])]) c0.toList a0) :
    Calls Try.prog 6 #[.agg c0] w fun e w' => e = .returned (.bool true) ∧ Below w.heap.size w w' := by
  have HW0 := Lib.hid (Below.refl w.heap.size w)
  obtain ⟨ds_aB, hC_aB⟩ := came_st (ks := LBand) wa0 rfl
  have HC_aB := Lib.hid hC_aB
  clear hC_aB wa0
  go_enter Try.func6, Try.ntmps6
  have bx_aB : Blk (w.alloc (.cells c0 51)) w.heap.size c0.toList := Blk.new _ _ _ rfl
  have hw0 : Below w.heap.size w (w.alloc (.cells c0 51)) := by go_grown
  have HB_aB := Lib.hid bx_aB
  have HWb := Lib.hid hw0
  clear hw0 bx_aB
  obtain ⟨Y1, hY1⟩ : ∃ Y, szv 1048576 (bulkL ds_aB) = Y := ⟨_, rfl⟩
  have l_aB := varC_load (P := Try.prog) (T := 51) Try.isAgg51 Try.sizeOf51 HB_aB.out HC_aB.out rfl
  go_wp2_with fail
  clear l_aB
  ((with_reducible refine (sz_Band _ (HC_aB.out.on HWb.out) 1048576 (by omega) (by omega)).mono ?_); rintro e w2 ⟨rfl, bb⟩)
  rw [hY1]
  have HB_aB := Lib.hid (HB_aB.out.keep bb)
  have HW3 := Lib.hid (on_of HWb.out bb)
  have sz4 := bb.size
  clear bb
  obtain ⟨X_aB, hX_aB⟩ : ∃ X, w.heap.size = X := ⟨_, rfl⟩
  have HB_aB := Lib.hid (show Blk w2 X_aB (c0.toList) from hX_aB ▸ HB_aB.out)
  have zz_aB : X_aB < w2.heap.size := HB_aB.out.2.2
  try simp only [hX_aB]
  by_cases neg_Y1 : Y1 < 0
  · go_wp2
    go_ret
    exact ⟨rfl, HW3.out⟩
  have hb_aB : (bulkL ds_aB) ≤ 1048576 := by rw [← hY1] at neg_Y1; unfold szv at neg_Y1; split at neg_Y1 <;> omega
  have pos_Y1 : 0 ≤ Y1 := by omega
  have top_Y1 : Y1 ≤ 1048576 := by have := szv_le (a := (bulkL ds_aB)) (show 0 ≤ (1048576 : Int) by omega); rw [hY1] at this; omega
  have l_aB := varC_load (P := Try.prog) (T := 51) Try.isAgg51 Try.sizeOf51 HB_aB.out HC_aB.out rfl
  go_wp2_with fail
  clear l_aB
  ((with_reducible refine (to_Band _ hb_aB (HC_aB.out.on HW3.out)).mono ?_); rintro e w6 ⟨R_r5, f_r5, rfl, o_r5, nd_r5, ge_r5, b_r5⟩)
  have HB_aB := Lib.hid (HB_aB.out.keep b_r5)
  have HW7 := Lib.hid (on_of HW3.out b_r5)
  have sz8 := b_r5.size
  have HO_tr5 := Lib.hid o_r5
  clear o_r5 b_r5
  go_wp2_with fail
  ((with_reducible refine (spec_BandCells _ hb_aB HO_tr5.out).mono ?_); rintro e w10 ⟨rfl, b_r9⟩)
  have HB_aB := Lib.hid (HB_aB.out.keep b_r9)
  have HO_tr5 := Lib.hid (HO_tr5.out.under b_r9)
  have HW11 := Lib.hid (on_of HW7.out b_r9)
  have sz12 := b_r9.size
  have l_aB := varC_load (P := Try.prog) (T := 51) Try.isAgg51 Try.sizeOf51 HB_aB.out HC_aB.out rfl
  go_wp2_with fail
  clear l_aB
  ((with_reducible refine (to_Band _ hb_aB (HC_aB.out.on HW11.out)).mono ?_); rintro e w14 ⟨R_r13, f_r13, rfl, o_r13, nd_r13, ge_r13, b_r13⟩)
  have HB_aB := Lib.hid (HB_aB.out.keep b_r13)
  have HW15 := Lib.hid (on_of HW11.out b_r13)
  have sz16 := b_r13.size
  have lt_x0 : ∀ b ∈ f_r13, b < w14.heap.size := o_r13.lt
  have ge_x0 := ge_r13
  have nd_x0 := nd_r13
  obtain ⟨E17, st_x0, BX, cx, zx⟩ := var_new (P := Try.prog) (T := 32) Try.sizeOf32 w14 #[.int .i64 0, .int .i64 0, .slice none 0 0, .slice none 0 0] rfl o_r13 rfl
  have HO_x0 := Lib.hid o_r13
  have HB_aB := Lib.hid (HB_aB.out.keep cx)
  have HW18 := Lib.hid (on_of HW15.out cx)
  have sz19 := cx.size
  have HO_x0 := Lib.hid (HO_x0.out.under cx)
  have HB_x0 := Lib.hid BX
  obtain ⟨X_x0, hX_x0⟩ : ∃ X, w14.heap.size = X := ⟨_, rfl⟩
  have xl_x0 := Nat.le_of_eq hX_x0
  have xu_x0 := Nat.le_of_eq hX_x0.symm
  rw [hX_x0] at st_x0 HB_x0 zx
  have zz_x0 := zx
  clear BX cx zx
  have l_x0 := var_load (P := Try.prog) (T := 32) Try.isAgg32 Try.sizeOf32 HB_x0.out HO_x0.out rfl
  go_wp2_with fail
  clear st_x0 l_x0
  clear hX_x0
  ((with_reducible refine (impl_BandCells _ hb_aB HO_x0.out).mono ?_); rintro e w21 ⟨rfl, b_r20⟩)
  have HB_aB := Lib.hid (HB_aB.out.keep b_r20)
  have HB_x0 := Lib.hid (HB_x0.out.keep b_r20)
  have HO_x0 := Lib.hid (HO_x0.out.under b_r20)
  have HW22 := Lib.hid (on_of HW18.out b_r20)
  have sz23 := b_r20.size
  have LA := Lib.hid (fun W (hW : Below w21.heap.size w21 W) => varC_load (P := Try.prog) (T := 51) Try.isAgg51 Try.sizeOf51 (HB_aB.out.keep hW) HC_aB.out rfl)
  have LX := Lib.hid (fun W (hW : Below w21.heap.size w21 W) => var_load (P := Try.prog) (T := 32) Try.isAgg32 Try.sizeOf32 (HB_x0.out.keep hW) HO_x0.out rfl)
  go_wp2_with fail
  go_region_held3 (fun w' => (hload 51 ⟨X_aB, 0, none⟩).run Try.prog w' = .ok (.agg c0) w' ∧ (hload 32 ⟨X_x0, 0, none⟩).run Try.prog w' = .ok (.agg R_r13) w' ∧ Below w21.heap.size w21 w') (first | exact ⟨LA.out _ hB, LX.out _ hB, hB⟩ | exact ⟨LA.out _ (by go_grown), LX.out _ (by go_grown), by go_grown⟩)
    (first
      | (go_at_call 25; (with_reducible refine (to_Band _ hb_aB (HC_aB.out.on (on_of HW22.out (by go_grown)))).mono ?_); rintro e w24 ⟨R3, f3, rfl, o3, n3, g3, b6⟩; have hB := on_of (W := w21) (by go_grown) b6; have HO3 := Lib.hid o3; clear o3)
      | (go_at_call 20; (with_reducible refine (eq_Band _ hb_aB (HO_x0.out.under hB) HO3.out).mono ?_); rintro e w25 ⟨rfl, b7⟩; have hB := on_of hB b7))
  have bb := hB
  clear hB b6 b7 LA LX HO3 g3 n3
  have HB_aB := Lib.hid (HB_aB.out.keep bb)
  have HB_x0 := Lib.hid (HB_x0.out.keep bb)
  have HO_x0 := Lib.hid (HO_x0.out.under bb)
  have HW26 := Lib.hid (on_of HW22.out bb)
  have sz27 := bb.size
  clear bb
  go_wp2
  go_ret
  exact ⟨rfl, HW26.out⟩
/-! ### THE ROW's STEP -/
set_option maxRecDepth 100000 in
theorem lifted (os : Os) (started : os.Started) (H : Type) (enc : TypeId × Value → H) :
    ReturnsInHanded {} Try.checked os 6 .any (Rows.fnExactBandCellsSpec.pre6 enc Try.prog Try.f6 Rows.fnExactBandCellsRow.domain false) (Rows.fnExactBandCellsSpec.post enc Try.prog Try.f6 false true false false) := by
  refine returnsInHanded_of_change (C := Try.checked) own started (by kernel_rfl) Try.func6
    (ChangeSpec.witness6 (enc := enc) (C := Try.checked) false ⟨#[], #[.agg #[.int .i64 0, .int .i64 0, .slice none 0 0, .slice none 0 0]], []⟩ 8 (by kernel_rfl) (by kernel_rfl) (by kernel_rfl) (by kernel_rfl)) ?_
  intro W base args ds gs before hval0 hW hcnd _
  have hval : ∀ (j : Nat) t v, Try.f6.params[j]? = some t → args[j]? = some v → Value.okWide Try.prog W .any base t v := hval0
  have hW' := hW
  obtain ⟨p, q, hA0, hV, rfl, hfz, hnd⟩ := hW
  have hA : DataW.TrodAll enc Try.prog W 0 (fun _ => true) true Try.f6.params.toList args.toList ds p := hA0
  rw [Try.params6] at hA hval
  obtain ⟨v0, vs0, d0, ds0, p0, q0, hargs, rfl, rfl, h0, r0⟩ := trodAll_cons hA
  obtain ⟨rfl, rfl, rfl⟩ := trodAll_nil r0
  obtain rfl : args = #[v0] := by cases args; simp_all
  obtain ⟨rfl, rfl⟩ := trodVars_none hV
  have k0 := h0
  have lt0 : ∀ x ∈ p0, x.block < W.heap.size := by obtain ⟨m, hm⟩ := k0; exact DataW.trod_lt m _ _ _ hm
  obtain ⟨c0, rfl, _⟩ := okWide_struct Try.underlying51 (hval 0 51 v0 rfl rfl)
  obtain ⟨a0, wa0⟩ : ∃ d, Own.Came W (.st [.int, .int, .sl (.sl (.int)), .sl (.st [.sl (.st [.int, .int]), .int, .st [.int, .int, .int, .int]])]) c0.toList d := by
    obtain ⟨fuel, hf⟩ := h0
    exact Own.came_of (.st [.int, .int, .sl (.sl (.int)), .sl (.st [.sl (.st [.int, .int]), .int, .st [.int, .int, .int, .int]])]) 51 fuel _ _ (by kernel_rfl) hf
  clear hA0 hval0
  refine (walk W c0 a0 wa0).mono fun e W' ⟨he, bel⟩ => ?_
  subst he
  exact ⟨_, rfl, _, _, _, [], _, [], hW', trodAll_mk1 (shut_bool Try.underlying4 _), (trodAll_cons_mk (Below.trod laidOut (by kernel_rfl) (of_decide_eq_true (by kernel_rfl)) k0 bel lt0) trodAll_mk0), rfl, bel.frame _, fun h => by cases h⟩
theorem over : Rows.fnExactBandCellsRow.holds Try.pinned (OpenSpec.ofChange Rows.fnExactBandCellsSpec) :=
  OpenClaim.holds_of_wide 6 Try.f6 rfl rfl rfl rfl rfl rfl rfl ⟨rfl, rfl, rfl, rfl, rfl⟩ rfl rfl rfl rfl rfl (by kernel_rfl) Try.func6 (by kernel_rfl)
    (of_decide_eq_true (by kernel_rfl)) (by unfold Func.isWrapper; first | (rw [if_pos (by decide +kernel)]; kernel_rfl) | (rw [if_neg (by decide +kernel)]; exact ⟨rfl, rfl⟩))
    (fun os started H enc _ => lifted os started H enc)
theorem proved : Rows.FnExactBandCellsSaid := over
#print axioms proved
end Go.Proofs.Ytbdjnfnphilklaa.fnExactBandCells
