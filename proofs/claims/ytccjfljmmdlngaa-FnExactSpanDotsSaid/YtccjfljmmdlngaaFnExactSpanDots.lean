/-
  The law FnExactSpanDots holds of every argument: the program's SpanDots answers as its model, and writes into no argument. No condition (the law itself returns true at more than 1048576 elements).
  The frame of the proof was written by a tool of this repo after the guide's shells; the walk is this text's own.
-/
import Derived.Test.YtccjfljmmdlngaaRows
import Derived.WalkKit
import Derived.ProofKit
import Derived.OpenShut
import Derived.ShutString
import Derived.ChangeOld
import Derived.ChangeArms
import Derived.Below
import Derived.Handy
import Derived.Lib.SmallJoins
import Derived.Test.YtccjfljmmdlngaaRecs
import Derived.Test.YtccjfljmmdlngaaLw9
import Derived.Lib.Hide
namespace Go.Proofs.Ytccjfljmmdlngaa.fnExactSpanDots
open Go.ChangeShapes Go.WideShapes Go.ChangeAt Go.RowKit
open Go.ChangeMaps (open_string shut_string)
open Kit
open Recs
open Slabs
open Ins
set_option linter.unusedVariables false
set_option linter.unusedSimpArgs false

theorem own : ownKnob Try.prog.godebug = none := by kernel_rfl
theorem laidOut : laidOutB Try.prog = true := by kernel_rfl

set_option maxHeartbeats 2000000 in
theorem walk (w : World) (a0 : Option Addr) (l0 p0c : Nat) (z0 : Nat → Nat → Value) (wa0 : IsRecs [.int .i64, .int .i64] w a0 l0 p0c z0) :
    Calls Try.prog 8 #[.slice a0 l0 p0c] w fun e w' => e = .returned (.bool true) ∧ Below w.heap.size w w' := by
  have hnm : l0 ≤ maxLen := Nat.le_trans wa0.1 wa0.2.1
  have HR : Hid (IsRecs Spans.kl w a0 l0 p0c z0) := Lib.hid wa0
  clear wa0
  have hnm' : l0 ≤ 9223372036854775807 := by unfold maxLen at hnm; omega
  by_cases hn : l0 ≤ 1048576
  · have hni : ((l0 : Int) ≤ 1048576) := by omega
    have hn2 : ¬ (1048576 - (l0 : Int) < 0) := by omega
    have HK : Hid (∀ W' : World, Below w.heap.size w W' → IsRecs Spans.kl W' a0 l0 p0c z0) := Lib.hid (fun W' => recs_keep9 HR.out)
    have HSH := Lib.hid (Spans.rec_shape HR.out)
    go_enter Try.func8, Try.ntmps8
    go_wp2_with fail
    ((with_reducible refine (Spans.szS_any _ _ _ 1048576 _ (by decide) (by decide) hnm').mono ?_); rintro e w0 ⟨rfl, rfl⟩; rw [if_pos (show ((l0 : Int) ≤ 1048576) by omega)])
    have hspec0 := fun (W : World) (B : Nat) (v : Value) (hs : Slab W B v l0 2 (fun i => [z0 i 0, z0 i 1])) => dots_spec_v hs HSH.out hn 
    have himpl0 := fun (W : World) (B : Nat) (v : Value) (hs : Slab W B v l0 2 (fun i => [z0 i 0, z0 i 1])) => dots_impl_v hs HSH.out hn 
    obtain ⟨x, hx⟩ : ∃ x, dtV (plst z0 l0) = x := ⟨_, rfl⟩
    rw [hx] at hspec0 himpl0
    have HX := Lib.hid (And.intro hspec0 himpl0)
    clear hspec0 himpl0 hx
    go_wp2_with fail
    ((with_reducible refine (Spans.toS_any _ _ _ _ _ hn (HK.out _ (Below.refl _ _))).mono ?_); rintro e w2 ⟨v2, rfl, s2, c2⟩)
    have k2 := c2
    go_wp2_with fail
    ((with_reducible refine (HX.out.1 _ _ _ s2).mono ?_); rintro e w3 ⟨rfl, c3⟩)
    have k3 := on_of k2 c3
    go_wp2_with fail
    ((with_reducible refine (Spans.toS_any _ _ _ _ _ hn (HK.out _ k3)).mono ?_); rintro e w4 ⟨v4, rfl, s4, c4⟩)
    have k4 := on_of k3 c4
    go_wp2_with fail
    ((with_reducible refine (HX.out.2 _ _ _ s4).mono ?_); rintro e w5 ⟨rfl, c5⟩)
    have k5 := on_of k4 c5
    have s5 := s4.below c5
    go_wp2_with fail
    ((with_reducible refine (Spans.toS_any _ _ _ _ _ hn (HK.out _ k5)).mono ?_); rintro e w6 ⟨v6, rfl, s6, c6⟩)
    have k6 := on_of k5 c6
    have s5' := s5.below c6
    go_wp2_with fail
    ((with_reducible refine (Spans.eqS_same _ _ _ _ _ l0 _ hn s5' s6 HSH.out).mono ?_); rintro e w7 ⟨rfl, c7⟩)
    have k7 := on_of k6 c7
    go_wp2_with fail
    go_ret
    exact ⟨by simp, k7⟩
  · have hni : ¬ ((l0 : Int) ≤ 1048576) := by omega
    go_enter Try.func8, Try.ntmps8
    go_wp2_with fail
    ((with_reducible refine (Spans.szS_any _ _ _ 1048576 _ (by decide) (by decide) hnm').mono ?_); rintro e w0 ⟨rfl, rfl⟩; rw [if_neg (show ¬ ((l0 : Int) ≤ 1048576) by omega)])
    go_wp2
    go_ret
    exact ⟨rfl, Below.refl _ _⟩

/-! ### THE ROW's STEP -/
set_option maxRecDepth 100000 in
theorem lifted (os : Os) (started : os.Started) (H : Type) (enc : TypeId × Value → H) :
    ReturnsInHanded {} Try.checked os 8 .any (Rows.fnExactSpanDotsSpec.pre6 enc Try.prog Try.f8 Rows.fnExactSpanDotsRow.domain false) (Rows.fnExactSpanDotsSpec.post enc Try.prog Try.f8 false true false false) := by
  refine returnsInHanded_of_change (C := Try.checked) own started (by kernel_rfl) Try.func8
    (ChangeSpec.witness6 (enc := enc) (C := Try.checked) false ⟨#[], #[.slice none 0 0], []⟩ 8 (by kernel_rfl) (by kernel_rfl) (by kernel_rfl) (by kernel_rfl)) ?_
  intro W base args ds gs before hval0 hW hcnd _
  have hval : ∀ (j : Nat) t v, Try.f8.params[j]? = some t → args[j]? = some v → Value.okWide Try.prog W .any base t v := hval0
  have hW' := hW
  obtain ⟨p, q, hA0, hV, rfl, hfz, hnd⟩ := hW
  have hA : DataW.TrodAll enc Try.prog W 0 (fun _ => true) true Try.f8.params.toList args.toList ds p := hA0
  rw [Try.params8] at hA hval
  obtain ⟨v0, vs0, d0, ds0, p0, q0, hargs, rfl, rfl, h0, r0⟩ := trodAll_cons hA
  obtain ⟨rfl, rfl, rfl⟩ := trodAll_nil r0
  obtain rfl : args = #[v0] := by cases args; simp_all
  obtain ⟨rfl, rfl⟩ := trodVars_none hV
  have k0 := h0
  have lt0 : ∀ x ∈ p0, x.block < W.heap.size := by obtain ⟨m, hm⟩ := k0; exact DataW.trod_lt m _ _ _ hm
  obtain ⟨a0, l0, p0c, rfl⟩ := okWide_slice Try.underlying37 (hval 0 37 v0 rfl rfl)
  obtain ⟨z0, wa0⟩ : ∃ z, IsRecs [.int .i64, .int .i64] W a0 l0 p0c z :=
    recs_of (kl := [.int .i64, .int .i64]) Try.underlying37 Try.underlying75 (by kernel_rfl) (by kernel_rfl) (by decide) (by kernel_rfl) h0
  clear hA0 hval0
  refine (walk W a0 l0 p0c z0 wa0).mono fun e W' ⟨he, bel⟩ => ?_
  subst he
  exact ⟨_, rfl, _, _, _, [], _, [], hW', trodAll_mk1 (shut_bool Try.underlying4 _), (trodAll_cons_mk (Below.trod laidOut (by kernel_rfl) (of_decide_eq_true (by kernel_rfl)) k0 bel lt0) trodAll_mk0), rfl, bel.frame _, fun h => by cases h⟩

theorem over : Rows.fnExactSpanDotsRow.holds Try.pinned (OpenSpec.ofChange Rows.fnExactSpanDotsSpec) :=
  OpenClaim.holds_of_wide 8 Try.f8 rfl rfl rfl rfl rfl rfl rfl ⟨rfl, rfl, rfl, rfl, rfl⟩ rfl rfl rfl rfl rfl (by kernel_rfl) Try.func8 (by kernel_rfl)
    (of_decide_eq_true (by kernel_rfl)) (by unfold Func.isWrapper; first | (rw [if_pos (by decide +kernel)]; kernel_rfl) | (rw [if_neg (by decide +kernel)]; exact ⟨rfl, rfl⟩))
    (fun os started H enc _ => lifted os started H enc)

/-- ████ THE STATEMENT ████ -/
theorem proved : Rows.FnExactSpanDotsSaid := over
#print axioms proved
end Go.Proofs.Ytccjfljmmdlngaa.fnExactSpanDots
