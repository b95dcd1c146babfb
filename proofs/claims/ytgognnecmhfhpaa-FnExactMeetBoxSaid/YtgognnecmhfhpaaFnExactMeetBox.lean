/-
  For every two boxes FnExactMeetBox returns true (MeetBox answers as its model at every argument) and the arguments read as before; no condition.
  The frame of the proof was written by a tool of this repo after the guide's shells; the walk is this text's own.
-/
import Derived.Test.YtgognnecmhfhpaaRows
import Derived.WalkKit
import Derived.ProofKit
import Derived.OpenShut
import Derived.ShutString
import Derived.ChangeOld
import Derived.ChangeArms
import Derived.Below
import Derived.Handy
import Derived.Lib.SmallJoins
import Derived.Test.YtgognnecmhfhpaaPoint
import Derived.Test.YtgognnecmhfhpaaBox
import Derived.Test.YtgognnecmhfhpaaDot
import Derived.Lib.Hide
import Derived.Deep.RegionHeld3
import Derived.Deep.DeepCutAuto
namespace Go.Proofs.Ytgognnecmhfhpaa.fnExactMeetBox
open Go.ChangeShapes Go.WideShapes Go.ChangeAt Go.RowKit
open Go.ChangeMaps (open_string shut_string)
open Point
open Box
open Dot
set_option linter.unusedVariables false
set_option linter.unusedSimpArgs false

theorem own : ownKnob Try.prog.godebug = none := by kernel_rfl
theorem laidOut : laidOutB Try.prog = true := by kernel_rfl

theorem spec_at (x0 y0 x1 y1 u0 v0 u1 v1 a b c d : Int) (w : World) (h : meetV x0 y0 x1 y1 u0 v0 u1 v1 = .agg #[.int .i64 a, .int .i64 b, .int .i64 c, .int .i64 d]) : Calls Try.prog 29 #[.agg #[.int .i64 x0, .int .i64 y0, .int .i64 x1, .int .i64 y1], .agg #[.int .i64 u0, .int .i64 v0, .int .i64 u1, .int .i64 v1]] w fun e w' => e = .returned (.agg #[.int .i64 a, .int .i64 b, .int .i64 c, .int .i64 d]) ∧ Below w.heap.size w w' := by
  rw [← h]; exact meet_spec _ _ _ _ _ _ _ _ w
theorem impl_at (x0 y0 x1 y1 u0 v0 u1 v1 a b c d : Int) (w : World) (h : meetV x0 y0 x1 y1 u0 v0 u1 v1 = .agg #[.int .i64 a, .int .i64 b, .int .i64 c, .int .i64 d]) : Calls Try.prog 13 #[.agg #[.int .i64 x0, .int .i64 y0, .int .i64 x1, .int .i64 y1], .agg #[.int .i64 u0, .int .i64 v0, .int .i64 u1, .int .i64 v1]] w fun e w' => e = .returned (.agg #[.int .i64 a, .int .i64 b, .int .i64 c, .int .i64 d]) ∧ Below w.heap.size w w' := by
  rw [← h]; exact meet_impl _ _ _ _ _ _ _ _ w
/-- A world of which some facts are known is given a letter. -/
theorem gen_world {P : Program} {c : Code} {Q : Exit → Act → World → Prop} {a : Act} {w : World} (F : World → Prop) (hF : F w) (h : ∀ W, F W → c.wp P Q a W) : c.wp P Q a w := h w hF
theorem bcell3 {W w1 : World} (hb : Below W.heap.size W w1) : (∀ b o, b < W.heap.size → w1.cell? ⟨b, o, none⟩ = W.cell? ⟨b, o, none⟩) ∧ (∀ b o, b < W.heap.size → w1.frozen? ⟨b, o, none⟩ = W.frozen? ⟨b, o, none⟩) ∧ (∀ b, b < W.heap.size → b < w1.heap.size) :=
  ⟨(bcell hb).1, (bcell hb).2, fun b h => Nat.lt_of_lt_of_le h hb.size⟩
theorem keepS {W w1 : World} (hb : Below W.heap.size W w1) : (∀ b o, b < W.heap.size → w1.cell? ⟨b, o, none⟩ = W.cell? ⟨b, o, none⟩) ∧ Below W.heap.size W w1 := ⟨(bcell hb).1, hb⟩

theorem walk (w : World) (a0X0 : Int) (wa0X0 : (Lit.int .i64 a0X0).wf = true) (a0Y0 : Int) (wa0Y0 : (Lit.int .i64 a0Y0).wf = true) (a0X1 : Int) (wa0X1 : (Lit.int .i64 a0X1).wf = true) (a0Y1 : Int) (wa0Y1 : (Lit.int .i64 a0Y1).wf = true) (a1X0 : Int) (wa1X0 : (Lit.int .i64 a1X0).wf = true) (a1Y0 : Int) (wa1Y0 : (Lit.int .i64 a1Y0).wf = true) (a1X1 : Int) (wa1X1 : (Lit.int .i64 a1X1).wf = true) (a1Y1 : Int) (wa1Y1 : (Lit.int .i64 a1Y1).wf = true) :
    Calls Try.prog 7 #[.agg #[.int .i64 a0X0, .int .i64 a0Y0, .int .i64 a0X1, .int .i64 a0Y1], .agg #[.int .i64 a1X0, .int .i64 a1Y0, .int .i64 a1X1, .int .i64 a1Y1]] w fun e w' => e = .returned (.bool true) ∧ Below w.heap.size w w' := by
  obtain ⟨a, b, c, d, hm, hv⟩ := meet_of a0X0 a0Y0 a0X1 a0Y1 a1X0 a1Y0 a1X1 a1Y1
  clear hm
  have HV := Lib.hid hv
  clear hv
  go_enter Try.func7, Try.ntmps7
  go_upto_region 1 with fail
  go_wp2_with fail
  refine gen_world (fun W => W.cell? ⟨w.heap.size, 0, none⟩ = some (.int .i64 a0X0) ∧ W.cell? ⟨w.heap.size, 1, none⟩ = some (.int .i64 a0Y0) ∧ W.cell? ⟨w.heap.size, 2, none⟩ = some (.int .i64 a0X1) ∧ W.cell? ⟨w.heap.size, 3, none⟩ = some (.int .i64 a0Y1) ∧ W.cell? ⟨w.heap.size + 1, 0, none⟩ = some (.int .i64 a1X0) ∧ W.cell? ⟨w.heap.size + 1, 1, none⟩ = some (.int .i64 a1Y0) ∧ W.cell? ⟨w.heap.size + 1, 2, none⟩ = some (.int .i64 a1X1) ∧ W.cell? ⟨w.heap.size + 1, 3, none⟩ = some (.int .i64 a1Y1) ∧ Below w.heap.size w W ∧ w.heap.size + 1 < W.heap.size) (by simp [go_sem]; go_grown) ?_
  rintro W ⟨x0, x1, x2, x3, y0, y1, y2, y3, hw, hw1⟩
  have hw0 : w.heap.size < W.heap.size := by omega
  go_cut [5] (fun s5 wx => ∃ g : Nat, s5 = .pointer (some ⟨g, 0, none⟩) ∧ W.heap.size ≤ g ∧ g < wx.heap.size ∧ wx.cell? ⟨g, 0, none⟩ = some (.int .i64 a) ∧ wx.cell? ⟨g, 1, none⟩ = some (.int .i64 b) ∧ wx.cell? ⟨g, 2, none⟩ = some (.int .i64 c) ∧ wx.cell? ⟨g, 3, none⟩ = some (.int .i64 d) ∧ Below W.heap.size W wx)
  case first =>
    go_region_held3 (fun w' => (∀ b o, b < W.heap.size → w'.cell? ⟨b, o, none⟩ = W.cell? ⟨b, o, none⟩) ∧ Below W.heap.size W w') ((refine keepS ?_; go_grown; done)) (first | (go_at_call 22; (with_reducible refine (toBox_any _ _ _ _ _).mono ?_); rintro e w' ⟨rfl, hb⟩; obtain ⟨hc, hf, hz⟩ := bcell3 hb; have hB := on_of (W := W) (by go_grown) hb; have hs := hB.size; have hs2 := hb.size; (try simp [Nat.add_one_le_iff] at hs2); (try (have hg : W.heap.size < w'.heap.size := (by have := hb.size; (try simp at this); omega)))) | (go_at_call 29; (with_reducible refine (spec_at _ _ _ _ _ _ _ _ _ _ _ _ _ HV.out).mono ?_); rintro e w' ⟨rfl, hb⟩; obtain ⟨hc, hf, hz⟩ := bcell3 hb; have hB := on_of (W := W) (by go_grown) hb; have hs := hB.size; have hs2 := hb.size; (try simp [Nat.add_one_le_iff] at hs2); (try (have hg : W.heap.size < w'.heap.size := (by have := hb.size; (try simp at this); omega)))))
    all_goals (go_wp2_with fail; go_meet; refine ⟨_, rfl, ?_, ?_, ?_, ?_, ?_, ?_, ?_⟩ <;> first | (go_cell; done) | (simp [*, go_sem]; done) | (simp [*, go_sem]; omega) | (go_simp; done) | (simp [go_sem, hc, hz]; done) | exact (‹_ ∧ Below W.heap.size W _›).2)
  case rest =>
    obtain ⟨g, rfl, hg0, hg1, z0, z1, z2, z3, hbel⟩ := hcut
    obtain ⟨hc, hf, hz⟩ := bcell3 hbel
    go_upto_region 2 with fail
    go_cut [6] (fun s6 wx => ∃ g' : Nat, s6 = .pointer (some ⟨g', 0, none⟩) ∧ wc.heap.size ≤ g' ∧ g' < wx.heap.size ∧ wx.cell? ⟨g', 0, none⟩ = some (.int .i64 a) ∧ wx.cell? ⟨g', 1, none⟩ = some (.int .i64 b) ∧ wx.cell? ⟨g', 2, none⟩ = some (.int .i64 c) ∧ wx.cell? ⟨g', 3, none⟩ = some (.int .i64 d) ∧ Below wc.heap.size wc wx)
    case first =>
      go_region_held3 (fun w' => (∀ b o, b < wc.heap.size → w'.cell? ⟨b, o, none⟩ = wc.cell? ⟨b, o, none⟩) ∧ Below wc.heap.size wc w') ((refine keepS ?_; go_grown; done)) (first | (go_at_call 22; (with_reducible refine (toBox_any _ _ _ _ _).mono ?_); rintro e w' ⟨rfl, hb⟩; obtain ⟨hc, hf, hz⟩ := bcell3 hb; have hB := on_of (W := wc) (by go_grown) hb; have hs := hB.size; have hs2 := hb.size; (try simp [Nat.add_one_le_iff] at hs2); (try (have hg : wc.heap.size < w'.heap.size := (by have := hb.size; (try simp at this); omega)))) | (go_at_call 13; (with_reducible refine (impl_at _ _ _ _ _ _ _ _ _ _ _ _ _ HV.out).mono ?_); rintro e w' ⟨rfl, hb⟩; obtain ⟨hc, hf, hz⟩ := bcell3 hb; have hB := on_of (W := wc) (by go_grown) hb; have hs := hB.size; have hs2 := hb.size; (try simp [Nat.add_one_le_iff] at hs2); (try (have hg : wc.heap.size < w'.heap.size := (by have := hb.size; (try simp at this); omega)))))
      all_goals (go_wp2_with fail; go_meet; refine ⟨_, rfl, ?_, ?_, ?_, ?_, ?_, ?_, ?_⟩ <;> first | (go_cell; done) | (simp [*, go_sem]; done) | (simp [*, go_sem]; omega) | (go_simp; done) | (simp [go_sem, hc, hz]; done) | exact (‹_ ∧ Below wc.heap.size wc _›).2)

    case rest =>
      obtain ⟨g', rfl, hk0, hk1, k0, k1, k2, k3, hbel2⟩ := hcut
      obtain ⟨hc2, hf2, hz2⟩ := bcell3 hbel2
      have hB1 := on_of hw hbel
      have hB2 := on_of hB1 hbel2
      go_wp2_with (go_at_call 27; (with_reducible refine (eqBox_same _ _ _ _ _).mono ?_); rintro e w' ⟨rfl, hb⟩; have hB := on_of (W := w) (by go_grown) hb; clear hb)
      go_ret
      exact ⟨by simp, by go_grown⟩

/-! ### THE ROW's STEP -/
set_option maxRecDepth 100000 in
theorem lifted (os : Os) (started : os.Started) (H : Type) (enc : TypeId × Value → H) :
    ReturnsInHanded {} Try.checked os 7 .any (Rows.fnExactMeetBoxSpec.pre6 enc Try.prog Try.f7 Rows.fnExactMeetBoxRow.domain false) (Rows.fnExactMeetBoxSpec.post enc Try.prog Try.f7 false true false false) := by
  refine returnsInHanded_of_change (C := Try.checked) own started (by kernel_rfl) Try.func7
    (ChangeSpec.witness6 (enc := enc) (C := Try.checked) false ⟨#[], #[.agg #[.int .i64 0, .int .i64 0, .int .i64 0, .int .i64 0], .agg #[.int .i64 0, .int .i64 0, .int .i64 0, .int .i64 0]], []⟩ 8 (by kernel_rfl) (by kernel_rfl) (by kernel_rfl) (by kernel_rfl)) ?_
  intro W base args ds gs before hval0 hW hcnd _
  have hval : ∀ (j : Nat) t v, Try.f7.params[j]? = some t → args[j]? = some v → Value.okWide Try.prog W .any base t v := hval0
  have hW' := hW
  obtain ⟨p, q, hA0, hV, rfl, hfz, hnd⟩ := hW
  have hA : DataW.TrodAll enc Try.prog W 0 (fun _ => true) true Try.f7.params.toList args.toList ds p := hA0
  rw [Try.params7] at hA hval
  obtain ⟨v0, vs0, d0, ds0, p0, q0, hargs, rfl, rfl, h0, r0⟩ := trodAll_cons hA
  obtain ⟨v1, vs1, d1, ds1, p1, q1, rfl, rfl, rfl, h1, r1⟩ := trodAll_cons r0
  obtain ⟨rfl, rfl, rfl⟩ := trodAll_nil r1
  obtain rfl : args = #[v0, v1] := by cases args; simp_all
  obtain ⟨rfl, rfl⟩ := trodVars_none hV
  have k0 := h0
  have lt0 : ∀ x ∈ p0, x.block < W.heap.size := by obtain ⟨m, hm⟩ := k0; exact DataW.trod_lt m _ _ _ hm
  have k1 := h1
  have lt1 : ∀ x ∈ p1, x.block < W.heap.size := by obtain ⟨m, hm⟩ := k1; exact DataW.trod_lt m _ _ _ hm
  obtain ⟨c0_0, c0_1, c0_2, c0_3, y0_0, y0_1, y0_2, y0_3, m0, rfl, rfl, rfl, hy0_0, hy0_1, hy0_2, hy0_3⟩ := Joins.open_agg4 Try.underlying42 (by kernel_rfl) (show Try.prog.cellsOf 42 = 4 by kernel_rfl) (hval 0 42 v0 rfl rfl) h0
  obtain ⟨a0X0, e0_0, rfl, wa0X0⟩ := DataW.trod_int Try.underlying3 hy0_0
  simp only [List.cons.injEq, and_true] at e0_0
  subst e0_0
  obtain ⟨a0Y0, e0_1, rfl, wa0Y0⟩ := DataW.trod_int Try.underlying3 hy0_1
  simp only [List.cons.injEq, and_true] at e0_1
  subst e0_1
  obtain ⟨a0X1, e0_2, rfl, wa0X1⟩ := DataW.trod_int Try.underlying3 hy0_2
  simp only [List.cons.injEq, and_true] at e0_2
  subst e0_2
  obtain ⟨a0Y1, e0_3, rfl, wa0Y1⟩ := DataW.trod_int Try.underlying3 hy0_3
  simp only [List.cons.injEq, and_true] at e0_3
  subst e0_3
  obtain ⟨c1_0, c1_1, c1_2, c1_3, y1_0, y1_1, y1_2, y1_3, m1, rfl, rfl, rfl, hy1_0, hy1_1, hy1_2, hy1_3⟩ := Joins.open_agg4 Try.underlying42 (by kernel_rfl) (show Try.prog.cellsOf 42 = 4 by kernel_rfl) (hval 1 42 v1 rfl rfl) h1
  obtain ⟨a1X0, e1_0, rfl, wa1X0⟩ := DataW.trod_int Try.underlying3 hy1_0
  simp only [List.cons.injEq, and_true] at e1_0
  subst e1_0
  obtain ⟨a1Y0, e1_1, rfl, wa1Y0⟩ := DataW.trod_int Try.underlying3 hy1_1
  simp only [List.cons.injEq, and_true] at e1_1
  subst e1_1
  obtain ⟨a1X1, e1_2, rfl, wa1X1⟩ := DataW.trod_int Try.underlying3 hy1_2
  simp only [List.cons.injEq, and_true] at e1_2
  subst e1_2
  obtain ⟨a1Y1, e1_3, rfl, wa1Y1⟩ := DataW.trod_int Try.underlying3 hy1_3
  simp only [List.cons.injEq, and_true] at e1_3
  subst e1_3
  clear hA0 hval0
  refine (walk W a0X0 wa0X0 a0Y0 wa0Y0 a0X1 wa0X1 a0Y1 wa0Y1 a1X0 wa1X0 a1Y0 wa1Y0 a1X1 wa1X1 a1Y1 wa1Y1).mono fun e W' ⟨he, bel⟩ => ?_
  subst he
  exact ⟨_, rfl, _, _, _, [], _, [], hW', trodAll_mk1 (shut_bool Try.underlying4 _), (trodAll_cons_mk (Below.trod laidOut (by kernel_rfl) (of_decide_eq_true (by kernel_rfl)) k0 bel lt0) (trodAll_cons_mk (Below.trod laidOut (by kernel_rfl) (of_decide_eq_true (by kernel_rfl)) k1 bel lt1) trodAll_mk0)), rfl, bel.frame _, fun h => by cases h⟩

theorem over : Rows.fnExactMeetBoxRow.holds Try.pinned (OpenSpec.ofChange Rows.fnExactMeetBoxSpec) :=
  OpenClaim.holds_of_wide 7 Try.f7 rfl rfl rfl rfl rfl rfl rfl ⟨rfl, rfl, rfl, rfl, rfl⟩ rfl rfl rfl rfl rfl (by kernel_rfl) Try.func7 (by kernel_rfl)
    (of_decide_eq_true (by kernel_rfl)) (by unfold Func.isWrapper; first | (rw [if_pos (by decide +kernel)]; kernel_rfl) | (rw [if_neg (by decide +kernel)]; exact ⟨rfl, rfl⟩))
    (fun os started H enc _ => lifted os started H enc)

/-- ████ THE STATEMENT ████ -/
theorem proved : Rows.FnExactMeetBoxSaid := over
#print axioms proved
end Go.Proofs.Ytgognnecmhfhpaa.fnExactMeetBox
