/-
  At every argument TurnOk answers as its model does. No condition.
  The frame of the proof was written by a tool of this repo after the guide's shells; the walk is this text's own.
-/
import Derived.Test.YtohoelpfmbbdaaaRows
import Derived.WalkKit
import Derived.ProofKit
import Derived.OpenShut
import Derived.ShutString
import Derived.ChangeOld
import Derived.ChangeArms
import Derived.Below
import Derived.Handy
import Derived.Lib.SmallJoins
import Derived.Test.YtohoelpfmbbdaaaKit
import Derived.Test.YtohoelpfmbbdaaaConver
import Derived.Test.YtohoelpfmbbdaaaTurn
namespace Go.Proofs.Ytohoelpfmbbdaaa.fnExactTurnOk
open Go.ChangeShapes Go.WideShapes Go.ChangeAt Go.RowKit
open Go.ChangeMaps (open_string shut_string)
open Kit
open Conver
open Turn
set_option linter.unusedVariables false
set_option linter.unusedSimpArgs false

theorem own : ownKnob Try.prog.godebug = none := by kernel_rfl
theorem laidOut : laidOutB Try.prog = true := by kernel_rfl

theorem walk (w : World) (a0Quarter : Int) (wa0Quarter : (Lit.int .i64 a0Quarter).wf = true) (a0Scale : Int) (wa0Scale : (Lit.int .i64 a0Scale).wf = true) (a0Dx : Int) (wa0Dx : (Lit.int .i64 a0Dx).wf = true) (a0Dy : Int) (wa0Dy : (Lit.int .i64 a0Dy).wf = true) :
    Calls Try.prog 4 #[.agg #[.int .i64 a0Quarter, .int .i64 a0Scale, .int .i64 a0Dx, .int .i64 a0Dy]] w fun e w' => e = .returned (.bool true) ∧ Below w.heap.size w w' := by
  go_enter Try.func4, Try.ntmps4
  go_wp2_with (first
    | (go_at_call 17; (with_reducible refine (toTurn_any _ _ _ _ _).mono ?_); rintro e w' ⟨rfl, hb⟩; have hB := on_of (W := w) (by go_grown) hb; obtain ⟨hc, hf⟩ := bcell hb; have hz : w.heap.size < w'.heap.size := (by have := hb.size; (try simp at this); omega); clear hb)
    | (go_at_call 16; (with_reducible refine (turn_spec _ _ _ _ _).mono ?_); rintro e w' ⟨rfl, hb⟩; have hB := on_of (W := w) (by go_grown) hb; obtain ⟨hc, hf⟩ := bcell hb; have hz : w.heap.size < w'.heap.size := (by have := hb.size; (try simp at this); omega); clear hb)
    | (go_at_call 12; (with_reducible refine (turn_impl _ _ _ _ _).mono ?_); rintro e w' ⟨rfl, hb⟩; have hB := on_of (W := w) (by go_grown) hb; obtain ⟨hc, hf⟩ := bcell hb; have hz : w.heap.size < w'.heap.size := (by have := hb.size; (try simp at this); omega); clear hb))
  go_ret
  exact ⟨by simp, by go_grown⟩

/-! ### THE ROW's STEP -/
set_option maxRecDepth 100000 in
theorem lifted (os : Os) (started : os.Started) (H : Type) (enc : TypeId × Value → H) :
    ReturnsInHanded {} Try.checked os 4 .any (Rows.fnExactTurnOkSpec.pre6 enc Try.prog Try.f4 Rows.fnExactTurnOkRow.domain false) (Rows.fnExactTurnOkSpec.post enc Try.prog Try.f4 false true false false) := by
  refine returnsInHanded_of_change (C := Try.checked) own started (by kernel_rfl) Try.func4
    (ChangeSpec.witness6 (enc := enc) (C := Try.checked) false ⟨#[], #[.agg #[.int .i64 0, .int .i64 0, .int .i64 0, .int .i64 0]], []⟩ 8 (by kernel_rfl) (by kernel_rfl) (by kernel_rfl) (by kernel_rfl)) ?_
  intro W base args ds gs before hval0 hW hcnd _
  have hval : ∀ (j : Nat) t v, Try.f4.params[j]? = some t → args[j]? = some v → Value.okWide Try.prog W .any base t v := hval0
  have hW' := hW
  obtain ⟨p, q, hA0, hV, rfl, hfz, hnd⟩ := hW
  have hA : DataW.TrodAll enc Try.prog W 0 (fun _ => true) true Try.f4.params.toList args.toList ds p := hA0
  rw [Try.params4] at hA hval
  obtain ⟨v0, vs0, d0, ds0, p0, q0, hargs, rfl, rfl, h0, r0⟩ := trodAll_cons hA
  obtain ⟨rfl, rfl, rfl⟩ := trodAll_nil r0
  obtain rfl : args = #[v0] := by cases args; simp_all
  obtain ⟨rfl, rfl⟩ := trodVars_none hV
  have k0 := h0
  have lt0 : ∀ x ∈ p0, x.block < W.heap.size := by obtain ⟨m, hm⟩ := k0; exact DataW.trod_lt m _ _ _ hm
  obtain ⟨c0_0, c0_1, c0_2, c0_3, y0_0, y0_1, y0_2, y0_3, m0, rfl, rfl, rfl, hy0_0, hy0_1, hy0_2, hy0_3⟩ := Joins.open_agg4 Try.underlying36 (by kernel_rfl) (show Try.prog.cellsOf 36 = 4 by kernel_rfl) (hval 0 36 v0 rfl rfl) h0
  obtain ⟨a0Quarter, e0_0, rfl, wa0Quarter⟩ := DataW.trod_int Try.underlying3 hy0_0
  simp only [List.cons.injEq, and_true] at e0_0
  subst e0_0
  obtain ⟨a0Scale, e0_1, rfl, wa0Scale⟩ := DataW.trod_int Try.underlying3 hy0_1
  simp only [List.cons.injEq, and_true] at e0_1
  subst e0_1
  obtain ⟨a0Dx, e0_2, rfl, wa0Dx⟩ := DataW.trod_int Try.underlying3 hy0_2
  simp only [List.cons.injEq, and_true] at e0_2
  subst e0_2
  obtain ⟨a0Dy, e0_3, rfl, wa0Dy⟩ := DataW.trod_int Try.underlying3 hy0_3
  simp only [List.cons.injEq, and_true] at e0_3
  subst e0_3
  clear hA0 hval0
  refine (walk W a0Quarter wa0Quarter a0Scale wa0Scale a0Dx wa0Dx a0Dy wa0Dy).mono fun e W' ⟨he, bel⟩ => ?_
  subst he
  exact ⟨_, rfl, _, _, _, [], _, [], hW', trodAll_mk1 (shut_bool Try.underlying4 _), (trodAll_cons_mk (Below.trod laidOut (by kernel_rfl) (of_decide_eq_true (by kernel_rfl)) k0 bel lt0) trodAll_mk0), rfl, bel.frame _, fun h => by cases h⟩

theorem over : Rows.fnExactTurnOkRow.holds Try.pinned (OpenSpec.ofChange Rows.fnExactTurnOkSpec) :=
  OpenClaim.holds_of_wide 4 Try.f4 rfl rfl rfl rfl rfl rfl rfl ⟨rfl, rfl, rfl, rfl, rfl⟩ rfl rfl rfl rfl rfl (by kernel_rfl) Try.func4 (by kernel_rfl)
    (of_decide_eq_true (by kernel_rfl)) (by unfold Func.isWrapper; first | (rw [if_pos (by decide +kernel)]; kernel_rfl) | (rw [if_neg (by decide +kernel)]; exact ⟨rfl, rfl⟩))
    (fun os started H enc _ => lifted os started H enc)

/-- ████ THE STATEMENT ████ -/
theorem proved : Rows.FnExactTurnOkSaid := over
#print axioms proved
end Go.Proofs.Ytohoelpfmbbdaaa.fnExactTurnOk
