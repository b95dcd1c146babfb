/-
  The law FnExactWhiteRows holds of every argument: the program's WhiteRows answers as the model does, and its rows are shared with nothing. No condition.
  The frame of the proof was written by a tool of this repo after the guide's shells; the walk is this text's own.
-/
import Derived.Test.YtifmdgncgokikaaRows
import Derived.WalkKit
import Derived.ProofKit
import Derived.OpenShut
import Derived.ShutString
import Derived.ChangeOld
import Derived.ChangeArms
import Derived.Below
import Derived.Handy
import Derived.Lib.SmallJoins
import Derived.Lib.Hide
import Derived.Deep.RegionHeld3
import Derived.Deep.DeepCutAuto
import Derived.BigQuiet
import Derived.Deep.QuietTactic
import Derived.Test.YtifmdgncgokikaaP44
namespace Go.Proofs.Ytifmdgncgokikaa.fnExactWhiteRows
open Go.ChangeShapes Go.WideShapes Go.ChangeAt Go.RowKit
open Go.ChangeMaps (open_string shut_string)
open Kit
open Slabs
open Go.Proofs.Ytifmdgncgokikaa.Own
set_option linter.unusedVariables false
set_option linter.unusedSimpArgs false
theorem own : ownKnob Try.prog.godebug = none := by kernel_rfl
theorem laidOut : laidOutB Try.prog = true := by kernel_rfl
set_option maxHeartbeats 4000000 in
theorem walk (w : World) (a0 : Int) (wa0 : (Lit.int .i64 a0).wf = true) :
    Calls Try.prog 6 #[.int .i64 a0] w fun e w' => e = .returned (.bool true) ∧ Below w.heap.size w w' := by
  have HW0 := Lib.hid (Below.refl w.heap.size w)
  obtain ⟨T, hT⟩ : ∃ T, whN a0 = T := ⟨_, rfl⟩
  have hb_res : T.length + tot T ≤ 1048576 := hT ▸ whN_le a0
  have HT := Lib.hid hT
  clear hT
  go_enter Try.func6, Try.ntmps6
  go_wp2_with fail
  ((with_reducible refine (spec_WhiteRows _ a0 HT.out).mono ?_); rintro e w1 ⟨a_w0, c_w0, f_w0, rfl, o_w0, nd_w0, ge_w0, bb⟩)
  have HW2 := Lib.hid (on_of HW0.out bb)
  have sz3 := bb.size
  have HO_w0 := Lib.hid o_w0
  have lt_w0 : ∀ b ∈ f_w0, b < w1.heap.size := o_w0.lt
  clear o_w0 bb
  go_wp2_with fail
  ((with_reducible refine (impl_WhiteRows _ a0 HT.out).mono ?_); rintro e w4 ⟨a_g0, c_g0, f_g0, rfl, o_g0, nd_g0, ge_g0, bb⟩)
  have HO_w0 := Lib.hid (HO_w0.out.under bb)
  have HW5 := Lib.hid (on_of HW2.out bb)
  have sz6 := bb.size
  have HO_g0 := Lib.hid o_g0
  have lt_g0 : ∀ b ∈ f_g0, b < w4.heap.size := o_g0.lt
  clear o_g0 bb
  go_wp2_with fail
  ((with_reducible refine (eq_SS _ hb_res HO_g0.out HO_w0.out).mono ?_); rintro e w7 ⟨rfl, bb⟩)
  have HO_w0 := Lib.hid (HO_w0.out.under bb)
  have HO_g0 := Lib.hid (HO_g0.out.under bb)
  have HW8 := Lib.hid (on_of HW5.out bb)
  have sz9 := bb.size
  clear bb
  obtain ⟨M_g, hM_g⟩ : ∃ M, 1 + tot (T) = M := ⟨_, rfl⟩
  have hp_g : ¬ ((M_g : Int) < 0) := by omega
  go_wp2_with fail
  ((refine (mark_SS _ 1 hb_res (by omega) HO_g0.out nd_g0).mono ?_); rintro e w10 ⟨rfl, mm, tt⟩)
  rw [hM_g]
  have HO_w0 := Lib.hid (HO_w0.out.turned tt (fun b hb hc => by have := ge_w0 b hb; have := lt_w0 b hb; have := ge_g0 b hc; have := lt_g0 b hc; omega))
  have HW11 := Lib.hid (HW8.out.trans (tt.below (by have := HW8.out.size; omega) (fun b hb => by have := ge_g0 b hb; omega)))
  have sz12 := tt.size
  have HO_g0 := Lib.hid mm
  clear mm tt
  go_wp2_with fail
  ((refine (held_SS _ 1 hb_res (by omega) HO_g0.out).mono ?_); rintro e w13 ⟨rfl, bb⟩)
  rw [hM_g]
  have HO_w0 := Lib.hid (HO_w0.out.under bb)
  have HO_g0 := Lib.hid (HO_g0.out.under bb)
  have HW14 := Lib.hid (on_of HW11.out bb)
  have sz15 := bb.size
  clear bb
  go_wp2_with fail
  ((with_reducible refine (impl_WhiteRows _ a0 HT.out).mono ?_); rintro e w16 ⟨a_h0, c_h0, f_h0, rfl, o_h0, nd_h0, ge_h0, bb⟩)
  have HO_w0 := Lib.hid (HO_w0.out.under bb)
  have HO_g0 := Lib.hid (HO_g0.out.under bb)
  have HW17 := Lib.hid (on_of HW14.out bb)
  have sz18 := bb.size
  have HO_h0 := Lib.hid o_h0
  have lt_h0 : ∀ b ∈ f_h0, b < w16.heap.size := o_h0.lt
  clear o_h0 bb
  go_wp2_with fail
  ((with_reducible refine (eq_SS _ hb_res HO_h0.out HO_w0.out).mono ?_); rintro e w19 ⟨rfl, bb⟩)
  have HO_w0 := Lib.hid (HO_w0.out.under bb)
  have HO_g0 := Lib.hid (HO_g0.out.under bb)
  have HO_h0 := Lib.hid (HO_h0.out.under bb)
  have HW20 := Lib.hid (on_of HW17.out bb)
  have sz21 := bb.size
  clear bb
  go_wp2_with fail
  ((refine (held_SS _ 1 hb_res (by omega) HO_g0.out).mono ?_); rintro e w22 ⟨rfl, bb⟩)
  rw [hM_g]
  have HO_w0 := Lib.hid (HO_w0.out.under bb)
  have HO_g0 := Lib.hid (HO_g0.out.under bb)
  have HO_h0 := Lib.hid (HO_h0.out.under bb)
  have HW23 := Lib.hid (on_of HW20.out bb)
  have sz24 := bb.size
  clear bb
  go_wp2
  go_ret
  exact ⟨rfl, HW23.out⟩
/-! ### THE ROW's STEP -/
set_option maxRecDepth 100000 in
theorem lifted (os : Os) (started : os.Started) (H : Type) (enc : TypeId × Value → H) :
    ReturnsInHanded {} Try.checked os 6 .any (Rows.fnExactWhiteRowsSpec.pre6 enc Try.prog Try.f6 Rows.fnExactWhiteRowsRow.domain false) (Rows.fnExactWhiteRowsSpec.post enc Try.prog Try.f6 false true false false) := by
  refine returnsInHanded_of_change (C := Try.checked) own started (by kernel_rfl) Try.func6
    (ChangeSpec.witness6 (enc := enc) (C := Try.checked) false ⟨#[], #[.int .i64 0], []⟩ 8 (by kernel_rfl) (by kernel_rfl) (by kernel_rfl) (by kernel_rfl)) ?_
  intro W base args ds gs before hval0 hW hcnd _
  have hval : ∀ (j : Nat) t v, Try.f6.params[j]? = some t → args[j]? = some v → Value.okWide Try.prog W .any base t v := hval0
  have hW' := hW
  obtain ⟨p, q, hA0, hV, rfl, hfz, hnd⟩ := hW
  have hA : DataW.TrodAll enc Try.prog W 0 (fun _ => true) true Try.f6.params.toList args.toList ds p := hA0
  rw [Try.params6] at hA hval
  obtain ⟨v0, vs0, d0, ds0, p0, q0, hargs, rfl, rfl, h0, r0⟩ := trodAll_cons hA
  obtain ⟨rfl, rfl, rfl⟩ := trodAll_nil r0
  obtain rfl : args = #[v0] := by cases args; simp_all
  obtain ⟨rfl, rfl⟩ := trodVars_none hV
  have k0 := h0
  have lt0 : ∀ x ∈ p0, x.block < W.heap.size := by obtain ⟨m, hm⟩ := k0; exact DataW.trod_lt m _ _ _ hm
  obtain ⟨a0, rfl, rfl, rfl, wa0⟩ := open_int Try.underlying3 (hval 0 3 v0 rfl rfl) h0
  clear hA0 hval0
  refine (walk W a0 wa0).mono fun e W' ⟨he, bel⟩ => ?_
  subst he
  exact ⟨_, rfl, _, _, _, [], _, [], hW', trodAll_mk1 (shut_bool Try.underlying4 _), (trodAll_cons_mk (Below.trod laidOut (by kernel_rfl) (of_decide_eq_true (by kernel_rfl)) k0 bel lt0) trodAll_mk0), rfl, bel.frame _, fun h => by cases h⟩
theorem over : Rows.fnExactWhiteRowsRow.holds Try.pinned (OpenSpec.ofChange Rows.fnExactWhiteRowsSpec) :=
  OpenClaim.holds_of_wide 6 Try.f6 rfl rfl rfl rfl rfl rfl rfl ⟨rfl, rfl, rfl, rfl, rfl⟩ rfl rfl rfl rfl rfl (by kernel_rfl) Try.func6 (by kernel_rfl)
    (of_decide_eq_true (by kernel_rfl)) (by unfold Func.isWrapper; first | (rw [if_pos (by decide +kernel)]; kernel_rfl) | (rw [if_neg (by decide +kernel)]; exact ⟨rfl, rfl⟩))
    (fun os started H enc _ => lifted os started H enc)
theorem proved : Rows.FnExactWhiteRowsSaid := over
#print axioms proved
end Go.Proofs.Ytifmdgncgokikaa.fnExactWhiteRows
