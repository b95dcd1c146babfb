/-
  At every argument ApplyTurn answers as its model does. No condition.
  The frame of the proof was written by a tool of this repo after the guide's shells; the walk is this text's own.
-/
import Derived.Test.YtohoelpfmbbdaaaRows
import Derived.WalkKit
import Derived.ProofKit
import Derived.OpenShut
import Derived.ShutString
import Derived.ChangeOld
import Derived.ChangeArms
import Derived.Below
import Derived.Handy
import Derived.Lib.SmallJoins
import Derived.Test.YtohoelpfmbbdaaaKit
import Derived.Test.YtohoelpfmbbdaaaConver
import Derived.Test.YtohoelpfmbbdaaaTurn
import Derived.Test.YtohoelpfmbbdaaaApply
import Derived.Lib.Hide
import Derived.Deep.RegionHeld3
import Derived.Deep.DeepCutAuto
import Derived.Test.YtohoelpfmbbdaaaJoin
namespace Go.Proofs.Ytohoelpfmbbdaaa.fnExactApplyTurn
open Go.ChangeShapes Go.WideShapes Go.ChangeAt Go.RowKit
open Go.ChangeMaps (open_string shut_string)
open Kit
open Conver
open Turn
open Apply
open Join
set_option linter.unusedVariables false
set_option linter.unusedSimpArgs false

theorem own : ownKnob Try.prog.godebug = none := by kernel_rfl
theorem laidOut : laidOutB Try.prog = true := by kernel_rfl

theorem spec_at (q s dx dy x y a b : Int) (w : World) (h : apX q s dx dy x y = a ∧ apY q s dx dy x y = b) : Calls Try.prog 18 #[.agg #[.int .i64 q, .int .i64 s, .int .i64 dx, .int .i64 dy], .agg #[.int .i64 x, .int .i64 y]] w fun e w' => e = .returned (.agg #[.int .i64 a, .int .i64 b]) ∧ Below w.heap.size w w' := by
  rw [← h.1, ← h.2]; exact apply_spec _ _ _ _ _ _ w
theorem impl_at (q s dx dy x y a b : Int) (w : World) (h : apX q s dx dy x y = a ∧ apY q s dx dy x y = b) : Calls Try.prog 13 #[.agg #[.int .i64 q, .int .i64 s, .int .i64 dx, .int .i64 dy], .agg #[.int .i64 x, .int .i64 y]] w fun e w' => e = .returned (.agg #[.int .i64 a, .int .i64 b]) ∧ Below w.heap.size w w' := by
  rw [← h.1, ← h.2]; exact apply_impl _ _ _ _ _ _ w
theorem keepA {W w1 : World} (hb : Below W.heap.size W w1) : (∀ b o, b < W.heap.size → w1.cell? ⟨b, o, none⟩ = W.cell? ⟨b, o, none⟩) ∧ Below W.heap.size W w1 := keepS hb

theorem walk (w : World) (a0Quarter : Int) (wa0Quarter : (Lit.int .i64 a0Quarter).wf = true) (a0Scale : Int) (wa0Scale : (Lit.int .i64 a0Scale).wf = true) (a0Dx : Int) (wa0Dx : (Lit.int .i64 a0Dx).wf = true) (a0Dy : Int) (wa0Dy : (Lit.int .i64 a0Dy).wf = true) (a1X : Int) (wa1X : (Lit.int .i64 a1X).wf = true) (a1Y : Int) (wa1Y : (Lit.int .i64 a1Y).wf = true) :
    Calls Try.prog 5 #[.agg #[.int .i64 a0Quarter, .int .i64 a0Scale, .int .i64 a0Dx, .int .i64 a0Dy], .agg #[.int .i64 a1X, .int .i64 a1Y]] w fun e w' => e = .returned (.bool true) ∧ Below w.heap.size w w' := by
  obtain ⟨a, b, hv⟩ : ∃ a b, apX a0Quarter a0Scale a0Dx a0Dy a1X a1Y = a ∧ apY a0Quarter a0Scale a0Dx a0Dy a1X a1Y = b := ⟨_, _, rfl, rfl⟩
  have HV := Lib.hid hv
  clear hv
  have FT := (Four.new w 36 a0Quarter a0Scale a0Dx a0Dy).alloc (.cells #[.int .i64 a1X, .int .i64 a1Y] 39)
  have FP : Two ((w.alloc (.cells #[.int .i64 a0Quarter, .int .i64 a0Scale, .int .i64 a0Dx, .int .i64 a0Dy] 36)).alloc (.cells #[.int .i64 a1X, .int .i64 a1Y] 39)) (w.heap.size + 1) a1X a1Y := by simpa using Two.new (w.alloc (.cells #[.int .i64 a0Quarter, .int .i64 a0Scale, .int .i64 a0Dx, .int .i64 a0Dy] 36)) 39 a1X a1Y
  go_enter Try.func5, Try.ntmps5
  go_upto_region 1 with fail
  go_wp2_with fail
  refine gen_world (fun W => Four W w.heap.size a0Quarter a0Scale a0Dx a0Dy ∧ Two W (w.heap.size + 1) a1X a1Y ∧ Below w.heap.size w W) ⟨FT, FP, by go_grown⟩ ?_
  clear FT FP
  rintro W ⟨FT, FP, hw⟩
  have hw0 := FT.lt
  have hw1 := FP.lt
  obtain ⟨x0, x1, x2, x3, x4⟩ := Four.lay FT
  obtain ⟨y0, y1, y2⟩ := FP
  clear FT
  go_cut [5] (fun s5 wx => ∃ g : Nat, s5 = .pointer (some ⟨g, 0, none⟩) ∧ W.heap.size ≤ g ∧ g < wx.heap.size ∧ wx.cell? ⟨g, 0, none⟩ = some (.int .i64 a) ∧ wx.cell? ⟨g, 1, none⟩ = some (.int .i64 b) ∧ Below W.heap.size W wx)
  case first =>
    go_region_held3 (fun w' => (∀ b o, b < W.heap.size → w'.cell? ⟨b, o, none⟩ = W.cell? ⟨b, o, none⟩) ∧ Below W.heap.size W w') ((refine keepA ?_; go_grown; done)) (first | (go_at_call 17; (with_reducible refine (toTurn_any _ _ _ _ _).mono ?_); rintro e w' ⟨rfl, hb⟩; obtain ⟨hc, hf, hz⟩ := bcell3 hb; have hB := on_of (W := W) (by go_grown) hb; have hs := hB.size; have hs2 := hb.size; (try simp [Nat.add_one_le_iff] at hs2); (try (have hg : W.heap.size < w'.heap.size := (by have := hb.size; (try simp at this); omega)))) | (go_at_call 19; (with_reducible refine (toPoint_any _ _ _).mono ?_); rintro e w' ⟨rfl, hb⟩; obtain ⟨hc, hf, hz⟩ := bcell3 hb; have hB := on_of (W := W) (by go_grown) hb; have hs := hB.size; have hs2 := hb.size; (try simp [Nat.add_one_le_iff] at hs2); (try (have hg : W.heap.size < w'.heap.size := (by have := hb.size; (try simp at this); omega)))) | (go_at_call 18; (with_reducible refine (spec_at _ _ _ _ _ _ _ _ _ HV.out).mono ?_); rintro e w' ⟨rfl, hb⟩; obtain ⟨hc, hf, hz⟩ := bcell3 hb; have hB := on_of (W := W) (by go_grown) hb; have hs := hB.size; have hs2 := hb.size; (try simp [Nat.add_one_le_iff] at hs2); (try (have hg : W.heap.size < w'.heap.size := (by have := hb.size; (try simp at this); omega)))))
    all_goals (go_wp2_with fail; go_meet; refine ⟨_, rfl, ?_, ?_, ?_, ?_, ?_⟩ <;> first | (go_cell; done) | (simp [*, go_sem]; done) | (simp [*, go_sem]; omega) | (go_simp; done) | (simp [go_sem, hc, hz]; done) | exact (‹_ ∧ Below W.heap.size W _›).2)
  case rest =>
    obtain ⟨g, rfl, hg0, hg1, z0, z1, hbel⟩ := hcut
    obtain ⟨hc, hf, hz⟩ := bcell3 hbel
    have x0' := (hc _ 0 hw0).trans x0
    have x1' := (hc _ 1 hw0).trans x1
    have x2' := (hc _ 2 hw0).trans x2
    have x3' := (hc _ 3 hw0).trans x3
    have y0' := (hc _ 0 hw1).trans y0
    have y1' := (hc _ 1 hw1).trans y1
    have hv0 := hz _ hw0
    have hv1 := hz _ hw1
    clear hc hf hz
    go_upto_region 2 with fail
    go_cut [6] (fun s6 wx => ∃ g' : Nat, s6 = .pointer (some ⟨g', 0, none⟩) ∧ wc.heap.size ≤ g' ∧ g' < wx.heap.size ∧ wx.cell? ⟨g', 0, none⟩ = some (.int .i64 a) ∧ wx.cell? ⟨g', 1, none⟩ = some (.int .i64 b) ∧ Below wc.heap.size wc wx)
    case first =>
      go_region_held3 (fun w' => (∀ b o, b < wc.heap.size → w'.cell? ⟨b, o, none⟩ = wc.cell? ⟨b, o, none⟩) ∧ Below wc.heap.size wc w') ((refine keepA ?_; go_grown; done)) (first | (go_at_call 17; (with_reducible refine (toTurn_any _ _ _ _ _).mono ?_); rintro e w' ⟨rfl, hb⟩; obtain ⟨hc, hf, hz⟩ := bcell3 hb; have hB := on_of (W := wc) (by go_grown) hb; have hs := hB.size; have hs2 := hb.size; (try simp [Nat.add_one_le_iff] at hs2); (try (have hg : wc.heap.size < w'.heap.size := (by have := hb.size; (try simp at this); omega)))) | (go_at_call 19; (with_reducible refine (toPoint_any _ _ _).mono ?_); rintro e w' ⟨rfl, hb⟩; obtain ⟨hc, hf, hz⟩ := bcell3 hb; have hB := on_of (W := wc) (by go_grown) hb; have hs := hB.size; have hs2 := hb.size; (try simp [Nat.add_one_le_iff] at hs2); (try (have hg : wc.heap.size < w'.heap.size := (by have := hb.size; (try simp at this); omega)))) | (go_at_call 13; (with_reducible refine (impl_at _ _ _ _ _ _ _ _ _ HV.out).mono ?_); rintro e w' ⟨rfl, hb⟩; obtain ⟨hc, hf, hz⟩ := bcell3 hb; have hB := on_of (W := wc) (by go_grown) hb; have hs := hB.size; have hs2 := hb.size; (try simp [Nat.add_one_le_iff] at hs2); (try (have hg : wc.heap.size < w'.heap.size := (by have := hb.size; (try simp at this); omega)))))
      all_goals (go_wp2_with fail; go_meet; refine ⟨_, rfl, ?_, ?_, ?_, ?_, ?_⟩ <;> first | (go_cell; done) | (simp [*, go_sem]; done) | (simp [*, go_sem]; omega) | (go_simp; done) | (simp [go_sem, hc, hz]; done) | exact (‹_ ∧ Below wc.heap.size wc _›).2)
    case rest =>
      obtain ⟨g', rfl, hk0, hk1, k0, k1, hbel2⟩ := hcut
      obtain ⟨hc2, hf2, hz2⟩ := bcell3 hbel2
      have hB1 := on_of hw hbel
      have hB2 := on_of hB1 hbel2
      go_wp2_with (go_at_call 20; (with_reducible refine (eqPoint_same _ _ _).mono ?_); rintro e w' ⟨rfl, hb⟩; have hB := on_of (W := w) (by go_grown) hb; clear hb)
      go_ret
      exact ⟨by simp, by go_grown⟩

/-! ### THE ROW's STEP -/
set_option maxRecDepth 100000 in
theorem lifted (os : Os) (started : os.Started) (H : Type) (enc : TypeId × Value → H) :
    ReturnsInHanded {} Try.checked os 5 .any (Rows.fnExactApplyTurnSpec.pre6 enc Try.prog Try.f5 Rows.fnExactApplyTurnRow.domain false) (Rows.fnExactApplyTurnSpec.post enc Try.prog Try.f5 false true false false) := by
  refine returnsInHanded_of_change (C := Try.checked) own started (by kernel_rfl) Try.func5
    (ChangeSpec.witness6 (enc := enc) (C := Try.checked) false ⟨#[], #[.agg #[.int .i64 0, .int .i64 0, .int .i64 0, .int .i64 0], .agg #[.int .i64 0, .int .i64 0]], []⟩ 8 (by kernel_rfl) (by kernel_rfl) (by kernel_rfl) (by kernel_rfl)) ?_
  intro W base args ds gs before hval0 hW hcnd _
  have hval : ∀ (j : Nat) t v, Try.f5.params[j]? = some t → args[j]? = some v → Value.okWide Try.prog W .any base t v := hval0
  have hW' := hW
  obtain ⟨p, q, hA0, hV, rfl, hfz, hnd⟩ := hW
  have hA : DataW.TrodAll enc Try.prog W 0 (fun _ => true) true Try.f5.params.toList args.toList ds p := hA0
  rw [Try.params5] at hA hval
  obtain ⟨v0, vs0, d0, ds0, p0, q0, hargs, rfl, rfl, h0, r0⟩ := trodAll_cons hA
  obtain ⟨v1, vs1, d1, ds1, p1, q1, rfl, rfl, rfl, h1, r1⟩ := trodAll_cons r0
  obtain ⟨rfl, rfl, rfl⟩ := trodAll_nil r1
  obtain rfl : args = #[v0, v1] := by cases args; simp_all
  obtain ⟨rfl, rfl⟩ := trodVars_none hV
  have k0 := h0
  have lt0 : ∀ x ∈ p0, x.block < W.heap.size := by obtain ⟨m, hm⟩ := k0; exact DataW.trod_lt m _ _ _ hm
  have k1 := h1
  have lt1 : ∀ x ∈ p1, x.block < W.heap.size := by obtain ⟨m, hm⟩ := k1; exact DataW.trod_lt m _ _ _ hm
  obtain ⟨c0_0, c0_1, c0_2, c0_3, y0_0, y0_1, y0_2, y0_3, m0, rfl, rfl, rfl, hy0_0, hy0_1, hy0_2, hy0_3⟩ := Joins.open_agg4 Try.underlying36 (by kernel_rfl) (show Try.prog.cellsOf 36 = 4 by kernel_rfl) (hval 0 36 v0 rfl rfl) h0
  obtain ⟨a0Quarter, e0_0, rfl, wa0Quarter⟩ := DataW.trod_int Try.underlying3 hy0_0
  simp only [List.cons.injEq, and_true] at e0_0
  subst e0_0
  obtain ⟨a0Scale, e0_1, rfl, wa0Scale⟩ := DataW.trod_int Try.underlying3 hy0_1
  simp only [List.cons.injEq, and_true] at e0_1
  subst e0_1
  obtain ⟨a0Dx, e0_2, rfl, wa0Dx⟩ := DataW.trod_int Try.underlying3 hy0_2
  simp only [List.cons.injEq, and_true] at e0_2
  subst e0_2
  obtain ⟨a0Dy, e0_3, rfl, wa0Dy⟩ := DataW.trod_int Try.underlying3 hy0_3
  simp only [List.cons.injEq, and_true] at e0_3
  subst e0_3
  obtain ⟨c1_0, c1_1, y1_0, y1_1, m1, rfl, rfl, rfl, hy1_0, hy1_1⟩ := Joins.open_agg2 Try.underlying39 (by kernel_rfl) (show Try.prog.cellsOf 39 = 2 by kernel_rfl) (hval 1 39 v1 rfl rfl) h1
  obtain ⟨a1X, e1_0, rfl, wa1X⟩ := DataW.trod_int Try.underlying3 hy1_0
  simp only [List.cons.injEq, and_true] at e1_0
  subst e1_0
  obtain ⟨a1Y, e1_1, rfl, wa1Y⟩ := DataW.trod_int Try.underlying3 hy1_1
  simp only [List.cons.injEq, and_true] at e1_1
  subst e1_1
  clear hA0 hval0
  refine (walk W a0Quarter wa0Quarter a0Scale wa0Scale a0Dx wa0Dx a0Dy wa0Dy a1X wa1X a1Y wa1Y).mono fun e W' ⟨he, bel⟩ => ?_
  subst he
  exact ⟨_, rfl, _, _, _, [], _, [], hW', trodAll_mk1 (shut_bool Try.underlying4 _), (trodAll_cons_mk (Below.trod laidOut (by kernel_rfl) (of_decide_eq_true (by kernel_rfl)) k0 bel lt0) (trodAll_cons_mk (Below.trod laidOut (by kernel_rfl) (of_decide_eq_true (by kernel_rfl)) k1 bel lt1) trodAll_mk0)), rfl, bel.frame _, fun h => by cases h⟩

theorem over : Rows.fnExactApplyTurnRow.holds Try.pinned (OpenSpec.ofChange Rows.fnExactApplyTurnSpec) :=
  OpenClaim.holds_of_wide 5 Try.f5 rfl rfl rfl rfl rfl rfl rfl ⟨rfl, rfl, rfl, rfl, rfl⟩ rfl rfl rfl rfl rfl (by kernel_rfl) Try.func5 (by kernel_rfl)
    (of_decide_eq_true (by kernel_rfl)) (by unfold Func.isWrapper; first | (rw [if_pos (by decide +kernel)]; kernel_rfl) | (rw [if_neg (by decide +kernel)]; exact ⟨rfl, rfl⟩))
    (fun os started H enc _ => lifted os started H enc)

/-- ████ THE STATEMENT ████ -/
theorem proved : Rows.FnExactApplyTurnSaid := over
#print axioms proved
end Go.Proofs.Ytohoelpfmbbdaaa.fnExactApplyTurn
