/-
  At every argument BackTurn answers as its model does. No condition.
  The frame of the proof was written by a tool of this repo after the guide's shells; the walk is this text's own.
-/
import Derived.Test.YtohoelpfmbbdaaaRows
import Derived.WalkKit
import Derived.ProofKit
import Derived.OpenShut
import Derived.ShutString
import Derived.ChangeOld
import Derived.ChangeArms
import Derived.Below
import Derived.Handy
import Derived.Lib.SmallJoins
import Derived.Test.YtohoelpfmbbdaaaKit
import Derived.Test.YtohoelpfmbbdaaaConver
import Derived.Test.YtohoelpfmbbdaaaTurn
import Derived.Test.YtohoelpfmbbdaaaJoin
import Derived.Test.YtohoelpfmbbdaaaBack
import Derived.Lib.Hide
namespace Go.Proofs.Ytohoelpfmbbdaaa.fnExactBackTurn
open Go.ChangeShapes Go.WideShapes Go.ChangeAt Go.RowKit
open Go.ChangeMaps (open_string shut_string)
open Kit
open Conver
open Turn
open Join
open Back
set_option linter.unusedVariables false
set_option linter.unusedSimpArgs false

theorem own : ownKnob Try.prog.godebug = none := by kernel_rfl
theorem laidOut : laidOutB Try.prog = true := by kernel_rfl

theorem spec_at (q s dx dy a b c d : Int) (r : Bool) (w : World) (h : bkV q s dx dy = .tuple #[.agg #[.int .i64 a, .int .i64 b, .int .i64 c, .int .i64 d], .bool r]) : Calls Try.prog 23 #[.agg #[.int .i64 q, .int .i64 s, .int .i64 dx, .int .i64 dy]] w fun e w' => e = .returned (.tuple #[.agg #[.int .i64 a, .int .i64 b, .int .i64 c, .int .i64 d], .bool r]) ∧ Below w.heap.size w w' := by
  rw [← h]; exact back_spec _ _ _ _ w
theorem impl_at (q s dx dy a b c d : Int) (r : Bool) (w : World) (h : bkV q s dx dy = .tuple #[.agg #[.int .i64 a, .int .i64 b, .int .i64 c, .int .i64 d], .bool r]) : Calls Try.prog 14 #[.agg #[.int .i64 q, .int .i64 s, .int .i64 dx, .int .i64 dy]] w fun e w' => e = .returned (.tuple #[.agg #[.int .i64 a, .int .i64 b, .int .i64 c, .int .i64 d], .bool r]) ∧ Below w.heap.size w w' := by
  rw [← h]; exact back_impl _ _ _ _ w

theorem walk (w : World) (a0Quarter : Int) (wa0Quarter : (Lit.int .i64 a0Quarter).wf = true) (a0Scale : Int) (wa0Scale : (Lit.int .i64 a0Scale).wf = true) (a0Dx : Int) (wa0Dx : (Lit.int .i64 a0Dx).wf = true) (a0Dy : Int) (wa0Dy : (Lit.int .i64 a0Dy).wf = true) :
    Calls Try.prog 7 #[.agg #[.int .i64 a0Quarter, .int .i64 a0Scale, .int .i64 a0Dx, .int .i64 a0Dy]] w fun e w' => e = .returned (.bool true) ∧ Below w.heap.size w w' := by
  obtain ⟨a, b, c, d, r, hv⟩ : ∃ a b c d r, bkV a0Quarter a0Scale a0Dx a0Dy = .tuple #[.agg #[.int .i64 a, .int .i64 b, .int .i64 c, .int .i64 d], .bool r] := ⟨_, _, _, _, _, rfl⟩
  have HV := Lib.hid hv
  clear hv
  have FT := Lib.hid (Four.new w 36 a0Quarter a0Scale a0Dx a0Dy)
  go_enter Try.func7, Try.ntmps7
  go_wp2_with fail
  (refine (toTurn_any _ _ _ _ _).mono ?_; rintro e w1 ⟨rfl, hb1⟩)
  have F1 := FT.out.keep hb1 FT.out.lt
  have hB1 := on_of (W := w) (by go_grown) hb1
  clear hb1
  go_wp2_with fail
  ((with_reducible refine (spec_at _ _ _ _ _ _ _ _ _ _ HV.out).mono ?_); rintro e w2 ⟨rfl, hb2⟩)
  have F2 := F1.keep hb2 F1.lt
  have hB2 := on_of hB1 hb2
  have P2 := Four.new w2 25 a b c d
  have hB3 := hB2.alloc hB2.size (.cells #[.int .i64 a, .int .i64 b, .int .i64 c, .int .i64 d] 25)
  obtain ⟨t0, t1, t2, t3, t4⟩ := Four.lay F2
  have hl := F2.lt
  clear hb2 F1 hB1
  cases r
  all_goals
    go_wp2_with fail
    (refine (toTurn_any _ _ _ _ _).mono ?_; rintro e w4 ⟨rfl, hb4⟩)
    have P4 := P2.keep hb4 P2.lt
    have hB4 := on_of hB3 hb4
    clear hb4 t0 t1 t2 t3 t4
    go_wp2_with fail
    ((with_reducible refine (impl_at _ _ _ _ _ _ _ _ _ _ HV.out).mono ?_); rintro e w5 ⟨rfl, hb5⟩)
    have P5 := P4.keep hb5 P4.lt
    have hB5 := on_of hB4 hb5
    obtain ⟨p0, p1, p2, p3, p4⟩ := Four.lay P5
    have hl5 := P5.lt
    clear hb5 P4 P5 P2 hB4 hB3
    go_wp2_with fail
    ((with_reducible refine (eqTurn_same _ _ _ _ _).mono ?_); rintro e w6 ⟨rfl, hb6⟩)
    have hB6 := on_of (W := w) (by go_grown) hb6
    clear hb6
    go_wp2_with fail
    go_ret
    exact ⟨by simp, by go_grown⟩

/-! ### THE ROW's STEP -/
set_option maxRecDepth 100000 in
theorem lifted (os : Os) (started : os.Started) (H : Type) (enc : TypeId × Value → H) :
    ReturnsInHanded {} Try.checked os 7 .any (Rows.fnExactBackTurnSpec.pre6 enc Try.prog Try.f7 Rows.fnExactBackTurnRow.domain false) (Rows.fnExactBackTurnSpec.post enc Try.prog Try.f7 false true false false) := by
  refine returnsInHanded_of_change (C := Try.checked) own started (by kernel_rfl) Try.func7
    (ChangeSpec.witness6 (enc := enc) (C := Try.checked) false ⟨#[], #[.agg #[.int .i64 0, .int .i64 0, .int .i64 0, .int .i64 0]], []⟩ 8 (by kernel_rfl) (by kernel_rfl) (by kernel_rfl) (by kernel_rfl)) ?_
  intro W base args ds gs before hval0 hW hcnd _
  have hval : ∀ (j : Nat) t v, Try.f7.params[j]? = some t → args[j]? = some v → Value.okWide Try.prog W .any base t v := hval0
  have hW' := hW
  obtain ⟨p, q, hA0, hV, rfl, hfz, hnd⟩ := hW
  have hA : DataW.TrodAll enc Try.prog W 0 (fun _ => true) true Try.f7.params.toList args.toList ds p := hA0
  rw [Try.params7] at hA hval
  obtain ⟨v0, vs0, d0, ds0, p0, q0, hargs, rfl, rfl, h0, r0⟩ := trodAll_cons hA
  obtain ⟨rfl, rfl, rfl⟩ := trodAll_nil r0
  obtain rfl : args = #[v0] := by cases args; simp_all
  obtain ⟨rfl, rfl⟩ := trodVars_none hV
  have k0 := h0
  have lt0 : ∀ x ∈ p0, x.block < W.heap.size := by obtain ⟨m, hm⟩ := k0; exact DataW.trod_lt m _ _ _ hm
  obtain ⟨c0_0, c0_1, c0_2, c0_3, y0_0, y0_1, y0_2, y0_3, m0, rfl, rfl, rfl, hy0_0, hy0_1, hy0_2, hy0_3⟩ := Joins.open_agg4 Try.underlying36 (by kernel_rfl) (show Try.prog.cellsOf 36 = 4 by kernel_rfl) (hval 0 36 v0 rfl rfl) h0
  obtain ⟨a0Quarter, e0_0, rfl, wa0Quarter⟩ := DataW.trod_int Try.underlying3 hy0_0
  simp only [List.cons.injEq, and_true] at e0_0
  subst e0_0
  obtain ⟨a0Scale, e0_1, rfl, wa0Scale⟩ := DataW.trod_int Try.underlying3 hy0_1
  simp only [List.cons.injEq, and_true] at e0_1
  subst e0_1
  obtain ⟨a0Dx, e0_2, rfl, wa0Dx⟩ := DataW.trod_int Try.underlying3 hy0_2
  simp only [List.cons.injEq, and_true] at e0_2
  subst e0_2
  obtain ⟨a0Dy, e0_3, rfl, wa0Dy⟩ := DataW.trod_int Try.underlying3 hy0_3
  simp only [List.cons.injEq, and_true] at e0_3
  subst e0_3
  clear hA0 hval0
  refine (walk W a0Quarter wa0Quarter a0Scale wa0Scale a0Dx wa0Dx a0Dy wa0Dy).mono fun e W' ⟨he, bel⟩ => ?_
  subst he
  exact ⟨_, rfl, _, _, _, [], _, [], hW', trodAll_mk1 (shut_bool Try.underlying4 _), (trodAll_cons_mk (Below.trod laidOut (by kernel_rfl) (of_decide_eq_true (by kernel_rfl)) k0 bel lt0) trodAll_mk0), rfl, bel.frame _, fun h => by cases h⟩

theorem over : Rows.fnExactBackTurnRow.holds Try.pinned (OpenSpec.ofChange Rows.fnExactBackTurnSpec) :=
  OpenClaim.holds_of_wide 7 Try.f7 rfl rfl rfl rfl rfl rfl rfl ⟨rfl, rfl, rfl, rfl, rfl⟩ rfl rfl rfl rfl rfl (by kernel_rfl) Try.func7 (by kernel_rfl)
    (of_decide_eq_true (by kernel_rfl)) (by unfold Func.isWrapper; first | (rw [if_pos (by decide +kernel)]; kernel_rfl) | (rw [if_neg (by decide +kernel)]; exact ⟨rfl, rfl⟩))
    (fun os started H enc _ => lifted os started H enc)

/-- ████ THE STATEMENT ████ -/
theorem proved : Rows.FnExactBackTurnSaid := over
#print axioms proved
end Go.Proofs.Ytohoelpfmbbdaaa.fnExactBackTurn
