/-
  At every argument TokenOk answers as its model does. No condition.
  The frame of the proof was written by a tool of this repo after the guide's shells; the walk is this text's own.
-/
import Derived.Test.YtkkflpjpijnalaaRows
import Derived.WalkKit
import Derived.ProofKit
import Derived.OpenShut
import Derived.ShutString
import Derived.ChangeOld
import Derived.ChangeArms
import Derived.Below
import Derived.Handy
import Derived.Lib.SmallJoins
import Derived.Test.YtkkflpjpijnalaaKit
import Derived.Test.YtkkflpjpijnalaaName
import Derived.Test.YtkkflpjpijnalaaTokens
import Derived.Test.YtkkflpjpijnalaaTokImpl
import Derived.Lib.Hide
namespace Go.Proofs.Ytkkflpjpijnalaa.fnExactTokenOk
open Go.ChangeShapes Go.WideShapes Go.ChangeAt Go.RowKit
open Go.ChangeMaps (open_string shut_string)
open Kit
open Scan
open NameImpl
set_option linter.unusedVariables false
set_option linter.unusedSimpArgs false

theorem own : ownKnob Try.prog.godebug = none := by kernel_rfl
theorem laidOut : laidOutB Try.prog = true := by kernel_rfl

theorem walk (w : World) (a0Name : ByteArray) (wa0Name : a0Name.size ≤ maxLen) (a0N : Int) (wa0N : (Lit.int .i64 a0N).wf = true) :
    Calls Try.prog 4 #[.agg #[.string a0Name, .int .i64 a0N]] w fun e w' => e = .returned (.bool true) ∧ Below w.heap.size w w' := by
  have hn := wf_range wa0N
  have k0 : (w.alloc (.cells #[.string a0Name, .int .i64 a0N] 24)).cell? ⟨w.heap.size, 0, none⟩ = some (.string a0Name) := by simp [go_sem]
  have k1 : (w.alloc (.cells #[.string a0Name, .int .i64 a0N] 24)).cell? ⟨w.heap.size, 1, none⟩ = some (.int .i64 a0N) := by simp [go_sem]
  have HK := Lib.hid (And.intro k0 k1)
  clear k0 k1
  go_enter Try.func4, Try.ntmps4
  by_cases hsz : (a0Name.size : Int) ≤ 1048576
  · have hs : a0Name.size ≤ 281474976710656 := by omega
    go_wp2_with fail
    ((with_reducible refine (Tokens.sz_any _ _ _ _ (by decide) (by decide) wa0Name).mono ?_); rintro e w1 ⟨rfl, hb1⟩; rw [if_pos hsz])
    have c0 := (hb1.cell (p := ⟨w.heap.size, 0, none⟩) (by simp)).trans HK.out.1
    have c1 := (hb1.cell (p := ⟨w.heap.size, 1, none⟩) (by simp)).trans HK.out.2
    have hB1 := on_of (W := w) (by go_grown) hb1
    have hl1 : w.heap.size < w1.heap.size := by have := hb1.size; simp at this; omega
    have hneg : ¬ ((1048576 : Int) - (a0Name.size : Int) < 0) := by omega
    clear hb1
    go_wp2_with (first
      | (go_at_call 9; (with_reducible refine (Tokens.to_any _ _ _).mono ?_); rintro e w' ⟨rfl, hb⟩; have hB := on_of (W := w1) (by go_grown) hb; obtain ⟨hc, hf⟩ := bcell hB; clear hb)
      | (go_at_call 8; (with_reducible refine (tok_spec _ _ _ hs).mono ?_); rintro e w' ⟨rfl, hb⟩; have hB := on_of (W := w1) (by go_grown) hb; obtain ⟨hc, hf⟩ := bcell hB; clear hb)
      | (go_at_call 10; (with_reducible refine (tok_impl _ _ _ hs).mono ?_); rintro e w' ⟨rfl, hb⟩; have hB := on_of (W := w1) (by go_grown) hb; obtain ⟨hc, hf⟩ := bcell hB; clear hb))
    go_ret
    exact ⟨by simp, on_of hB1 hB⟩
  · go_wp2_with fail
    ((with_reducible refine (Tokens.sz_any _ _ _ _ (by decide) (by decide) wa0Name).mono ?_); rintro e w1 ⟨rfl, hb1⟩; rw [if_neg (by omega)])
    go_wp2_with fail
    go_ret
    exact ⟨rfl, on_of (W := w) (by go_grown) hb1⟩

/-! ### THE ROW's STEP -/
set_option maxRecDepth 100000 in
theorem lifted (os : Os) (started : os.Started) (H : Type) (enc : TypeId × Value → H) :
    ReturnsInHanded {} Try.checked os 4 .any (Rows.fnExactTokenOkSpec.pre6 enc Try.prog Try.f4 Rows.fnExactTokenOkRow.domain false) (Rows.fnExactTokenOkSpec.post enc Try.prog Try.f4 false true false false) := by
  refine returnsInHanded_of_change (C := Try.checked) own started (by kernel_rfl) Try.func4
    (ChangeSpec.witness6 (enc := enc) (C := Try.checked) false ⟨#[], #[.agg #[.string ByteArray.empty, .int .i64 0]], []⟩ 8 (by kernel_rfl) (by kernel_rfl) (by kernel_rfl) (by kernel_rfl)) ?_
  intro W base args ds gs before hval0 hW hcnd _
  have hval : ∀ (j : Nat) t v, Try.f4.params[j]? = some t → args[j]? = some v → Value.okWide Try.prog W .any base t v := hval0
  have hW' := hW
  obtain ⟨p, q, hA0, hV, rfl, hfz, hnd⟩ := hW
  have hA : DataW.TrodAll enc Try.prog W 0 (fun _ => true) true Try.f4.params.toList args.toList ds p := hA0
  rw [Try.params4] at hA hval
  obtain ⟨v0, vs0, d0, ds0, p0, q0, hargs, rfl, rfl, h0, r0⟩ := trodAll_cons hA
  obtain ⟨rfl, rfl, rfl⟩ := trodAll_nil r0
  obtain rfl : args = #[v0] := by cases args; simp_all
  obtain ⟨rfl, rfl⟩ := trodVars_none hV
  have k0 := h0
  have lt0 : ∀ x ∈ p0, x.block < W.heap.size := by obtain ⟨m, hm⟩ := k0; exact DataW.trod_lt m _ _ _ hm
  obtain ⟨c0_0, c0_1, y0_0, y0_1, m0, rfl, rfl, rfl, hy0_0, hy0_1⟩ := Joins.open_agg2 Try.underlying24 (by kernel_rfl) (show Try.prog.cellsOf 24 = 2 by kernel_rfl) (hval 0 24 v0 rfl rfl) h0
  obtain ⟨a0Name, e0_0, rfl, wa0Name⟩ := DataW.trod_string Try.underlying9 hy0_0
  simp only [List.cons.injEq, and_true] at e0_0
  subst e0_0
  obtain ⟨a0N, e0_1, rfl, wa0N⟩ := DataW.trod_int Try.underlying3 hy0_1
  simp only [List.cons.injEq, and_true] at e0_1
  subst e0_1
  clear hA0 hval0
  refine (walk W a0Name wa0Name a0N wa0N).mono fun e W' ⟨he, bel⟩ => ?_
  subst he
  exact ⟨_, rfl, _, _, _, [], _, [], hW', trodAll_mk1 (shut_bool Try.underlying4 _), (trodAll_cons_mk (Below.trod laidOut (by kernel_rfl) (of_decide_eq_true (by kernel_rfl)) k0 bel lt0) trodAll_mk0), rfl, bel.frame _, fun h => by cases h⟩

theorem over : Rows.fnExactTokenOkRow.holds Try.pinned (OpenSpec.ofChange Rows.fnExactTokenOkSpec) :=
  OpenClaim.holds_of_wide 4 Try.f4 rfl rfl rfl rfl rfl rfl rfl ⟨rfl, rfl, rfl, rfl, rfl⟩ rfl rfl rfl rfl rfl (by kernel_rfl) Try.func4 (by kernel_rfl)
    (of_decide_eq_true (by kernel_rfl)) (by unfold Func.isWrapper; first | (rw [if_pos (by decide +kernel)]; kernel_rfl) | (rw [if_neg (by decide +kernel)]; exact ⟨rfl, rfl⟩))
    (fun os started H enc _ => lifted os started H enc)

/-- ████ THE STATEMENT ████ -/
theorem proved : Rows.FnExactTokenOkSaid := over
#print axioms proved
end Go.Proofs.Ytkkflpjpijnalaa.fnExactTokenOk
