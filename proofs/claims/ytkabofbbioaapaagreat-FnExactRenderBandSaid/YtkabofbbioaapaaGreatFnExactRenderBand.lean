/-
  The law FnExactRenderBand holds of every list of objects and every two ints, on every schedule: the program's RenderBand answers as the model's, leaves its argument as it was, and its answer owns its memory. No condition (the law itself returns true at more than 1048576 values).
  The frame of the proof was written by a tool of this repo after the guide's shells; the walk is this text's own.
-/
import Derived.Test.YtkabofbbioaapaaGreatRows
import Derived.WalkKit
import Derived.ProofKit
import Derived.OpenShut
import Derived.ShutString
import Derived.ChangeOld
import Derived.ChangeArms
import Derived.Below
import Derived.Handy
import Derived.Lib.SmallJoins
import Derived.Conc.Holds
import Derived.Leaving
import Derived.Lib.Hide
import Derived.Deep.RegionHeld3
import Derived.Deep.DeepCutAuto
import Derived.BigQuiet
import Derived.Deep.QuietTactic
import Derived.Test.YtkabofbbioaapaaGreatV43
import Derived.Test.YtkabofbbioaapaaGreatV33
import Derived.Test.YtkabofbbioaapaaGreatV39
import Derived.Test.YtkabofbbioaapaaGreatV42
import Derived.Test.YtkabofbbioaapaaGreatV44
namespace Go.Proofs.YtkabofbbioaapaaGreat.fnExactRenderBand
open Go.ChangeShapes Go.WideShapes Go.ChangeAt Go.RowKit
open Go.ChangeMaps (open_string shut_string)
open Kit
open Slabs
open Go.Proofs.YtkabofbbioaapaaGreat.Own
set_option linter.unusedVariables false
set_option linter.unusedSimpArgs false
theorem own : ownKnob Tryz.prog.godebug = none := by kernel_rfl
theorem laidOut : laidOutB Tryz.prog = true := by kernel_rfl
attribute [local go_sem ↓] hstore_Object hload_Object hloadL_Object
set_option maxRecDepth 100000 in
set_option maxHeartbeats 8000000 in
theorem walk (w : World) (b0 : Option Addr) (l0 p0c : Nat) (a0 : Own.Dt) (wa0 : Own.Came w (.sl (.st [.sl (.st [.int, .int]), .int, .st [.int, .int, .int, .int]])) [.slice b0 l0 p0c] a0) (a1 : Int) (wa1 : (Lit.int .i64 a1).wf = true) (a2 : Int) (wa2 : (Lit.int .i64 a2).wf = true) :
    Calls Tryz.prog 4 #[.slice b0 l0 p0c, .int .i64 a1, .int .i64 a2] w fun e w' => e = .returned (.bool true) ∧ Below w.heap.size w w' := by
  have HW0 := Lib.hid (Below.refl w.heap.size w)
  obtain ⟨es_aList, rfl, hm_aList, rr_aList⟩ := came_objs wa0
  have HC_aList := Lib.hid rr_aList
  have HM_aList := Lib.hid hm_aList
  clear wa0 rr_aList hm_aList
  go_enter Tryz.func4, Tryz.ntmps4
  obtain ⟨T, B, hT⟩ : ∃ T B, rbR a1 a2 (obsOf es_aList) = T ∧ true = B := ⟨_, _, rfl, rfl⟩
  have HT := Lib.hid hT
  clear hT
  obtain ⟨Y1, hY1⟩ : ∃ Y, szv 1048576 (es_aList.length + bulkL es_aList) = Y := ⟨_, rfl⟩
  go_wp2_with fail
  ((with_reducible refine (sz_ObjectS _ (HC_aList.out.on HW0.out) HM_aList.out 1048576 (by omega) (by omega)).mono ?_); rintro e w2 ⟨rfl, bb⟩)
  rw [hY1]
  have HW3 := Lib.hid (on_of HW0.out bb)
  have sz4 := bb.size
  clear bb
  by_cases neg_Y1 : Y1 < 0
  · go_wp2
    go_ret
    exact ⟨rfl, HW3.out⟩
  have hb_aList : es_aList.length + bulkL es_aList ≤ 1048576 := by rw [← hY1] at neg_Y1; unfold szv at neg_Y1; split at neg_Y1 <;> omega
  have pos_Y1 : 0 ≤ Y1 := by omega
  have top_Y1 : Y1 ≤ 1048576 := by have := szv_le (a := es_aList.length + bulkL es_aList) (show 0 ≤ (1048576 : Int) by omega); rw [hY1] at this; omega
  clear hY1
  go_wp2_with fail
  ((with_reducible refine (to_ObjectS _ _ _ _ es_aList hb_aList (HC_aList.out.on HW3.out)).mono ?_); rintro e w6 ⟨a_r5, c_r5, f_r5, rfl, o_r5, nd_r5, ge_r5, b_r5⟩)
  have HW7 := Lib.hid (on_of HW3.out b_r5)
  have sz8 := b_r5.size
  have HO_tr5 := Lib.hid o_r5
  clear o_r5 b_r5
  go_wp2_with fail
  ((with_reducible refine (spec_RenderBand_ _ hb_aList HO_tr5.out a1 a2 HT.out).mono ?_); rintro e w10 ⟨a_r9, c_r9, f_r9, rfl, o_r9, nd_r9, ge_r9, b_r9⟩)
  have HO_tr5 := Lib.hid (HO_tr5.out.under b_r9)
  have HW11 := Lib.hid (on_of HW7.out b_r9)
  have sz12 := b_r9.size
  have hb_res : T.length + tot T ≤ 1048576 := by have h := HT.out.1; rw [← h]; exact rbR_le _ _ _
  have lt_w0 : ∀ b ∈ f_r9, b < w10.heap.size := o_r9.lt
  have ge_w0 := ge_r9
  have nd_w0 := nd_r9
  have HO_w0 := Lib.hid o_r9
  clear o_r9 b_r9
  go_wp2_with fail
  ((with_reducible refine (to_ObjectS _ _ _ _ es_aList hb_aList (HC_aList.out.on HW11.out)).mono ?_); rintro e w14 ⟨a_r13, c_r13, f_r13, rfl, o_r13, nd_r13, ge_r13, b_r13⟩)
  have HO_w0 := Lib.hid (HO_w0.out.under b_r13)
  have HW15 := Lib.hid (on_of HW11.out b_r13)
  have sz16 := b_r13.size
  have lt_x0 : ∀ b ∈ f_r13, b < w14.heap.size := o_r13.lt
  have ge_x0 := ge_r13
  have nd_x0 := nd_r13
  have HO_x0 := Lib.hid o_r13
  clear o_r13 b_r13
  go_wp2_with fail
  ((with_reducible refine (impl_RenderBand_ _ hb_aList HO_x0.out a1 a2 HT.out).mono ?_); rintro e w18 ⟨a_r17, c_r17, f_r17, rfl, o_r17, nd_r17, ge_r17, b_r17⟩)
  have HO_w0 := Lib.hid (HO_w0.out.under b_r17)
  have HO_x0 := Lib.hid (HO_x0.out.under b_r17)
  have HW19 := Lib.hid (on_of HW15.out b_r17)
  have sz20 := b_r17.size
  have lt_g0 : ∀ b ∈ f_r17, b < w18.heap.size := o_r17.lt
  have ge_g0 := ge_r17
  have nd_g0 := nd_r17
  have HO_g0 := Lib.hid o_r17
  clear o_r17 b_r17
  go_wp2_with fail
  ((with_reducible refine (eq_SS _ hb_res HO_g0.out HO_w0.out).mono ?_); rintro e w21 ⟨rfl, bb⟩)
  have HO_w0 := Lib.hid (HO_w0.out.under bb)
  have HO_x0 := Lib.hid (HO_x0.out.under bb)
  have HO_g0 := Lib.hid (HO_g0.out.under bb)
  have HW22 := Lib.hid (on_of HW19.out bb)
  have sz23 := bb.size
  clear bb
  go_wp2_with fail
  ((with_reducible refine (to_ObjectS _ _ _ _ es_aList hb_aList (HC_aList.out.on HW22.out)).mono ?_); rintro e w25 ⟨a_r24, c_r24, f_r24, rfl, o_r24, nd_r24, ge_r24, b_r24⟩)
  have HO_w0 := Lib.hid (HO_w0.out.under b_r24)
  have HO_x0 := Lib.hid (HO_x0.out.under b_r24)
  have HO_g0 := Lib.hid (HO_g0.out.under b_r24)
  have HW26 := Lib.hid (on_of HW22.out b_r24)
  have sz27 := b_r24.size
  have HO_tr24 := Lib.hid o_r24
  clear o_r24 b_r24
  go_wp2_with fail
  ((with_reducible refine (eq_ObjectS _ hb_aList HO_x0.out HO_tr24.out).mono ?_); rintro e w28 ⟨rfl, bb⟩)
  have HO_w0 := Lib.hid (HO_w0.out.under bb)
  have HO_x0 := Lib.hid (HO_x0.out.under bb)
  have HO_g0 := Lib.hid (HO_g0.out.under bb)
  have HW29 := Lib.hid (on_of HW26.out bb)
  have sz30 := bb.size
  clear bb
  have HD_x0 := Lib.hid HO_x0.out
  have hc_x0 : 1 + cntL (es_aList) ≤ 1000000000 := objs_cnt HO_x0.out hb_aList
  obtain ⟨M_x0, hM_x0⟩ : ∃ M, 1 + cntL (es_aList) = M := ⟨_, rfl⟩
  have hp_x0 : ¬ ((M_x0 : Int) < 0) := by omega
  go_wp2_with fail
  ((refine (mark_ObjectS _ 1 hb_aList (by omega) hc_x0 HO_x0.out nd_x0).mono ?_); rintro e w31 ⟨rfl, mm, tt⟩)
  rw [hM_x0]
  have HO_w0 := Lib.hid (HO_w0.out.turned tt (fun b hb hc => by have := ge_w0 b hb; have := lt_w0 b hb; have := ge_x0 b hc; have := lt_x0 b hc; omega))
  have HO_g0 := Lib.hid (HO_g0.out.turned tt (fun b hb hc => by have := ge_g0 b hb; have := lt_g0 b hb; have := ge_x0 b hc; have := lt_x0 b hc; omega))
  have HW32 := Lib.hid (tt.low HW29.out HW29.out.size (fun b hb => by have := ge_x0 b hb; omega))
  have sz33 := tt.size
  have HO_x0 := Lib.hid mm
  clear mm tt
  go_wp2_with fail
  ((with_reducible refine (eq_SS _ hb_res HO_g0.out HO_w0.out).mono ?_); rintro e w34 ⟨rfl, bb⟩)
  have HO_w0 := Lib.hid (HO_w0.out.under bb)
  have HO_x0 := Lib.hid (HO_x0.out.under bb)
  have HO_g0 := Lib.hid (HO_g0.out.under bb)
  have HW35 := Lib.hid (on_of HW32.out bb)
  have sz36 := bb.size
  clear bb
  obtain ⟨M_g0, hM_g0⟩ : ∃ M, 1 + tot T = M := ⟨_, rfl⟩
  have hp_g0 : ¬ ((M_g0 : Int) < 0) := by omega
  have ht_g0 : M_g0 ≤ 1048577 := by have := hb_res; omega
  go_wp2_with fail
  ((refine (mark_SS _ 1 hb_res (by omega) HO_g0.out nd_g0).mono ?_); rintro e w37 ⟨rfl, mm, tt⟩)
  rw [hM_g0]
  have HO_w0 := Lib.hid (HO_w0.out.turned tt (fun b hb hc => by have := ge_w0 b hb; have := lt_w0 b hb; have := ge_g0 b hc; have := lt_g0 b hc; omega))
  have HO_x0 := Lib.hid (HO_x0.out.turned tt (fun b hb hc => by have := ge_x0 b hb; have := lt_x0 b hb; have := ge_g0 b hc; have := lt_g0 b hc; omega))
  have HW38 := Lib.hid (tt.low HW35.out HW35.out.size (fun b hb => by have := ge_g0 b hb; omega))
  have sz39 := tt.size
  have HO_g0 := Lib.hid mm
  clear mm tt
  go_wp2_with fail
  ((refine (held_SS _ 1 hb_res (by omega) HO_g0.out).mono ?_); rintro e w40 ⟨rfl, bb⟩)
  rw [hM_g0]
  have HO_w0 := Lib.hid (HO_w0.out.under bb)
  have HO_x0 := Lib.hid (HO_x0.out.under bb)
  have HO_g0 := Lib.hid (HO_g0.out.under bb)
  have HW41 := Lib.hid (on_of HW38.out bb)
  have sz42 := bb.size
  clear bb
  go_wp2_with fail
  ((with_reducible refine (to_ObjectS _ _ _ _ es_aList hb_aList (HC_aList.out.on HW41.out)).mono ?_); rintro e w44 ⟨a_r43, c_r43, f_r43, rfl, o_r43, nd_r43, ge_r43, b_r43⟩)
  have HO_w0 := Lib.hid (HO_w0.out.under b_r43)
  have HO_x0 := Lib.hid (HO_x0.out.under b_r43)
  have HO_g0 := Lib.hid (HO_g0.out.under b_r43)
  have HW45 := Lib.hid (on_of HW41.out b_r43)
  have sz46 := b_r43.size
  have HO_tr43 := Lib.hid o_r43
  clear o_r43 b_r43
  go_wp2_with fail
  ((with_reducible refine (impl_RenderBand_ _ hb_aList HO_tr43.out a1 a2 HT.out).mono ?_); rintro e w48 ⟨a_r47, c_r47, f_r47, rfl, o_r47, nd_r47, ge_r47, b_r47⟩)
  have HO_w0 := Lib.hid (HO_w0.out.under b_r47)
  have HO_x0 := Lib.hid (HO_x0.out.under b_r47)
  have HO_g0 := Lib.hid (HO_g0.out.under b_r47)
  have HO_tr43 := Lib.hid (HO_tr43.out.under b_r47)
  have HW49 := Lib.hid (on_of HW45.out b_r47)
  have sz50 := b_r47.size
  have lt_h0 : ∀ b ∈ f_r47, b < w48.heap.size := o_r47.lt
  have ge_h0 := ge_r47
  have nd_h0 := nd_r47
  have HO_h0 := Lib.hid o_r47
  clear o_r47 b_r47
  go_wp2_with fail
  ((with_reducible refine (eq_SS _ hb_res HO_h0.out HO_w0.out).mono ?_); rintro e w51 ⟨rfl, bb⟩)
  have HO_w0 := Lib.hid (HO_w0.out.under bb)
  have HO_x0 := Lib.hid (HO_x0.out.under bb)
  have HO_g0 := Lib.hid (HO_g0.out.under bb)
  have HO_h0 := Lib.hid (HO_h0.out.under bb)
  have HW52 := Lib.hid (on_of HW49.out bb)
  have sz53 := bb.size
  clear bb
  go_wp2_with fail
  ((refine (held_SS _ 1 hb_res (by omega) HO_g0.out).mono ?_); rintro e w54 ⟨rfl, bb⟩)
  rw [hM_g0]
  have HO_w0 := Lib.hid (HO_w0.out.under bb)
  have HO_x0 := Lib.hid (HO_x0.out.under bb)
  have HO_g0 := Lib.hid (HO_g0.out.under bb)
  have HO_h0 := Lib.hid (HO_h0.out.under bb)
  have HW55 := Lib.hid (on_of HW52.out bb)
  have sz56 := bb.size
  clear bb
  go_wp2
  go_ret
  exact ⟨rfl, HW55.out⟩
/-! ### THE ROW's STEP -/
set_option maxRecDepth 100000 in
theorem lifted (os : Os) (started : os.Started) (H : Type) (enc : TypeId × Value → H) :
    ReturnsInHanded {} Tryz.checked os 4 .any (Rows.fnExactRenderBandSpec.pre6 enc Tryz.prog Tryz.f4 Rows.fnExactRenderBandRow.domain false) (Rows.fnExactRenderBandSpec.post enc Tryz.prog Tryz.f4 false true false false) := by
  refine returnsInHanded_of_change (C := Tryz.checked) own started (by kernel_rfl) Tryz.func4
    (ChangeSpec.witness6 (enc := enc) (C := Tryz.checked) false ⟨#[], #[.slice none 0 0, .int .i64 0, .int .i64 0], []⟩ 8 (by kernel_rfl) (by kernel_rfl) (by kernel_rfl) (by kernel_rfl)) ?_
  intro W base args ds gs before hval0 hW hcnd _
  have hval : ∀ (j : Nat) t v, Tryz.f4.params[j]? = some t → args[j]? = some v → Value.okWide Tryz.prog W .any base t v := hval0
  have hW' := hW
  obtain ⟨p, q, hA0, hV, rfl, hfz, hnd⟩ := hW
  have hA : DataW.TrodAll enc Tryz.prog W 0 (fun _ => true) true Tryz.f4.params.toList args.toList ds p := hA0
  rw [Tryz.params4] at hA hval
  obtain ⟨v0, vs0, d0, ds0, p0, q0, hargs, rfl, rfl, h0, r0⟩ := trodAll_cons hA
  obtain ⟨v1, vs1, d1, ds1, p1, q1, rfl, rfl, rfl, h1, r1⟩ := trodAll_cons r0
  obtain ⟨v2, vs2, d2, ds2, p2, q2, rfl, rfl, rfl, h2, r2⟩ := trodAll_cons r1
  obtain ⟨rfl, rfl, rfl⟩ := trodAll_nil r2
  obtain rfl : args = #[v0, v1, v2] := by cases args; simp_all
  obtain ⟨rfl, rfl⟩ := trodVars_none hV
  have k0 := h0
  have lt0 : ∀ x ∈ p0, x.block < W.heap.size := by obtain ⟨m, hm⟩ := k0; exact DataW.trod_lt m _ _ _ hm
  have k1 := h1
  have lt1 : ∀ x ∈ p1, x.block < W.heap.size := by obtain ⟨m, hm⟩ := k1; exact DataW.trod_lt m _ _ _ hm
  have k2 := h2
  have lt2 : ∀ x ∈ p2, x.block < W.heap.size := by obtain ⟨m, hm⟩ := k2; exact DataW.trod_lt m _ _ _ hm
  obtain ⟨b0, l0, p0c, rfl⟩ := okWide_slice Tryz.underlying34 (hval 0 34 v0 rfl rfl)
  obtain ⟨a0, wa0⟩ : ∃ d, Own.Came W (.sl (.st [.sl (.st [.int, .int]), .int, .st [.int, .int, .int, .int]])) [.slice b0 l0 p0c] d := by
    obtain ⟨fuel, hf⟩ := h0
    exact Own.came_of (.sl (.st [.sl (.st [.int, .int]), .int, .st [.int, .int, .int, .int]])) 34 fuel _ _ (by kernel_rfl) hf
  obtain ⟨a1, rfl, rfl, rfl, wa1⟩ := open_int Tryz.underlying3 (hval 1 3 v1 rfl rfl) h1
  obtain ⟨a2, rfl, rfl, rfl, wa2⟩ := open_int Tryz.underlying3 (hval 2 3 v2 rfl rfl) h2
  clear hA0 hval0
  refine (walk W b0 l0 p0c a0 wa0 a1 wa1 a2 wa2).mono fun e W' ⟨he, bel⟩ => ?_
  subst he
  exact ⟨_, rfl, _, _, _, [], _, [], hW', trodAll_mk1 (shut_bool Tryz.underlying4 _), (trodAll_cons_mk (Below.trod laidOut (by kernel_rfl) (of_decide_eq_true (by kernel_rfl)) k0 bel lt0) (trodAll_cons_mk (Below.trod laidOut (by kernel_rfl) (of_decide_eq_true (by kernel_rfl)) k1 bel lt1) (trodAll_cons_mk (Below.trod laidOut (by kernel_rfl) (of_decide_eq_true (by kernel_rfl)) k2 bel lt2) trodAll_mk0))), rfl, bel.frame _, fun h => by cases h⟩
theorem over : Rows.fnExactRenderBandRow.holds Tryz.pinned (OpenSpec.ofChange Rows.fnExactRenderBandSpec) :=
  OpenClaim.holds_of_wide_leaving 4 Tryz.f4 rfl rfl rfl rfl rfl rfl rfl ⟨rfl, rfl, rfl, rfl, rfl⟩ rfl rfl rfl rfl rfl (by kernel_rfl) Tryz.func4 (by kernel_rfl)
    (of_decide_eq_true (by kernel_rfl)) (by unfold Func.isWrapper; first | (rw [if_pos (by decide +kernel)]; kernel_rfl) | (rw [if_neg (by decide +kernel)]; exact ⟨rfl, rfl⟩))
    (fun os started H enc _ => fun enter => ReturnsInOpen.mono (fun _ _ _ x => ⟨x.2.1, onlyLeaving_of_quiet x.1, x.2.2⟩) (fun _ x => x) (lifted os started H enc enter))
theorem proved : Rows.FnExactRenderBandSaid := over
#print axioms proved
end Go.Proofs.YtkabofbbioaapaaGreat.fnExactRenderBand
