/-
  The law FnExactMeetSpans holds of every argument: the program's MeetSpans answers as its model, writes into no argument, and its answer owns its memory. No condition (the law itself returns true at more than 1048576 elements).
  The frame of the proof was written by a tool of this repo after the guide's shells; the walk is this text's own.
-/
import Derived.Test.YtccjfljmmdlngaaRows
import Derived.WalkKit
import Derived.ProofKit
import Derived.OpenShut
import Derived.ShutString
import Derived.ChangeOld
import Derived.ChangeArms
import Derived.Below
import Derived.Handy
import Derived.Lib.SmallJoins
import Derived.Test.YtccjfljmmdlngaaRecs
import Derived.Test.YtccjfljmmdlngaaLw9
import Derived.Lib.Hide
namespace Go.Proofs.Ytccjfljmmdlngaa.fnExactMeetSpans
open Go.ChangeShapes Go.WideShapes Go.ChangeAt Go.RowKit
open Go.ChangeMaps (open_string shut_string)
open Kit
open Recs
open Slabs
open Ins
set_option linter.unusedVariables false
set_option linter.unusedSimpArgs false

theorem own : ownKnob Try.prog.godebug = none := by kernel_rfl
theorem laidOut : laidOutB Try.prog = true := by kernel_rfl

set_option maxHeartbeats 2000000 in
theorem walk (w : World) (a0 : Option Addr) (l0 p0c : Nat) (z0 : Nat → Nat → Value) (wa0 : IsRecs [.int .i64, .int .i64] w a0 l0 p0c z0) (a1 : Int) (wa1 : (Lit.int .i64 a1).wf = true) (a2 : Int) (wa2 : (Lit.int .i64 a2).wf = true) :
    Calls Try.prog 7 #[.slice a0 l0 p0c, .int .i64 a1, .int .i64 a2] w fun e w' => e = .returned (.bool true) ∧ Below w.heap.size w w' := by
  have hnm : l0 ≤ maxLen := Nat.le_trans wa0.1 wa0.2.1
  have HR : Hid (IsRecs Spans.kl w a0 l0 p0c z0) := Lib.hid wa0
  clear wa0
  have hnm' : l0 ≤ 9223372036854775807 := by unfold maxLen at hnm; omega
  by_cases hn : l0 ≤ 1048576
  · have hni : ((l0 : Int) ≤ 1048576) := by omega
    have hn2 : ¬ (1048576 - (l0 : Int) < 0) := by omega
    have HK : Hid (∀ W' : World, Below w.heap.size w W' → IsRecs Spans.kl W' a0 l0 p0c z0) := Lib.hid (fun W' => recs_keep9 HR.out)
    have HSH := Lib.hid (Spans.rec_shape HR.out)
    go_enter Try.func7, Try.ntmps7
    go_wp2_with fail
    ((with_reducible refine (Spans.szS_any _ _ _ 1048576 _ (by decide) (by decide) hnm').mono ?_); rintro e w0 ⟨rfl, rfl⟩; rw [if_pos (show ((l0 : Int) ≤ 1048576) by omega)])
    obtain ⟨A, hA⟩ : ∃ A, mtV (plst z0 l0) a1 a2 = A := ⟨_, rfl⟩
    have hspec0 := fun (W : World) (B : Nat) (v : Value) (hs : Slab W B v l0 2 (fun i => [z0 i 0, z0 i 1])) => meet_spec_v hs HSH.out hn a1 a2
    have himpl0 := fun (W : World) (B : Nat) (v : Value) (hs : Slab W B v l0 2 (fun i => [z0 i 0, z0 i 1])) => meet_impl_v hs HSH.out hn a1 a2
    have hAl : A.length ≤ 1048576 := by rw [← hA]; exact Nat.le_trans (mtV_len _ _ _) (by rw [plst_len]; exact hn)
    rw [hA] at hspec0 himpl0
    obtain ⟨m, hmm⟩ : ∃ m, A.length = m := ⟨_, rfl⟩
    rw [hmm] at hspec0 himpl0 hAl
    have HH := Lib.hid (pcF_shape9 A m)
    have HS := Lib.hid (And.intro hspec0 himpl0)
    have hk0 : ¬ (((1 + l0 * 2 : Nat) : Int) < 0) := by omega
    have hk1 : ¬ (((1 + m * 2 : Nat) : Int) < 0) := by omega
    clear hspec0 himpl0 hmm hA
    go_wp2_with fail
    ((with_reducible refine (Spans.toS_any _ _ _ _ _ hn (HK.out _ (Below.refl _ _))).mono ?_); rintro e w1 ⟨v1, rfl, s1, c1⟩)
    go_wp2_with fail
    ((with_reducible refine (HS.out.1 _ _ _ s1).mono ?_); rintro e w2 ⟨u0, rfl, t2, c2⟩)
    have k2 := on_of c1 c2
    clear s1
    go_wp2_with fail
    ((with_reducible refine (Spans.toS_any _ _ _ _ _ hn (HK.out _ k2)).mono ?_); rintro e w3 ⟨x0, rfl, s3, c3⟩)
    go_wp2_with fail
    ((with_reducible refine (HS.out.2 _ _ _ s3).mono ?_); rintro e w4 ⟨g0, rfl, r4, c4⟩)
    have d4 := on_of c3 c4
    go_wp2_with fail
    ((with_reducible refine (Spans.eqS_same _ _ _ _ _ m _ (by omega) r4 (t2.below d4) HH.out).mono ?_); rintro e w5 ⟨rfl, c5⟩)
    have d5 := on_of d4 c5
    have f5 := on_of c4 c5
    have r5 := r4.below c5
    go_wp2_with fail
    ((with_reducible refine (Spans.toS_any _ _ _ _ _ hn (HK.out _ (on_of k2 d5))).mono ?_); rintro e w6 ⟨y0, rfl, p6, c6⟩)
    have d6 := on_of d5 c6
    have f6 := on_of f5 c6
    have r6 := r5.below c6
    go_wp2_with fail
    ((with_reducible refine (Spans.eqS_same _ _ _ _ _ l0 _ (by omega) (s3.below f6) p6 HSH.out).mono ?_); rintro e w7 ⟨rfl, c7⟩)
    have d7 := on_of d6 c7
    have f7 := on_of f6 c7
    have r7 := r6.below c7
    have s7 := s3.below f7
    clear p6 c5 c6 c7 r4 r5 r6 f5 f6 d4 d5 d6
    go_wp2_with fail
    ((refine (Spans.markS_any _ _ 1 l0 _ _ (by omega) (by omega) (by omega) d7.size s7 HSH.out (fun _ => rfl)).mono ?_); rintro e w8 ⟨rfl, s8, c8, g8⟩)
    have d8 := d7.trans c8
    have n8 : w3.heap.size ≤ w8.heap.size := by have := c4.size; have := f7.size; have := c8.size; omega
    have r8 := r7.kept g8 (fun k hk => (s3.row k hk).2)
    clear g8 s7 r7 d7 c8 f7 s8
    go_wp2_with fail
    ((with_reducible refine (Spans.eqS_same _ _ _ _ _ m _ (by omega) r8 (t2.below d8) HH.out).mono ?_); rintro e w9 ⟨rfl, c9⟩)
    have d9 := on_of d8 c9
    have r9 := r8.below c9
    have hs9 : w3.heap.size ≤ w9.heap.size := by have := c9.size; omega
    clear r8 d8 c9
    go_wp2_with fail
    ((refine (Spans.markS_any _ _ 1 m _ _ (by omega) (by omega) (by omega) hs9 r9 HH.out (pcF_len _)).mono ?_); rintro e w10 ⟨rfl, r10, c10, _⟩)
    have d10 := d9.trans (c10.mono c3.size)
    clear r9 d9 c10
    go_wp2_with fail
    ((refine (Spans.heldS_any _ _ 1 m _ (by omega) (by omega) (by omega) r10).mono ?_); rintro e w11 ⟨rfl, c11⟩)
    have d11 := on_of d10 c11
    have r11 := r10.below c11
    clear r10 d10 c11
    go_wp2_with fail
    ((with_reducible refine (Spans.toS_any _ _ _ _ _ hn (HK.out _ (on_of k2 d11))).mono ?_); rintro e w12 ⟨x1, rfl, s12, c12⟩)
    have d12 := on_of d11 c12
    have r12 := r11.below c12
    clear r11 d11 c12
    go_wp2_with fail
    ((with_reducible refine (HS.out.2 _ _ _ s12).mono ?_); rintro e w13 ⟨h0, rfl, r13, c13⟩)
    have d13 := on_of d12 c13
    have q13 := r12.below c13
    clear r12 d12 c13 s12
    go_wp2_with fail
    ((with_reducible refine (Spans.eqS_same _ _ _ _ _ m _ (by omega) r13 (t2.below d13) HH.out).mono ?_); rintro e w14 ⟨rfl, c14⟩)
    have d14 := on_of d13 c14
    have q14 := q13.below c14
    clear r13 q13 d13 c14
    go_wp2_with fail
    ((refine (Spans.heldS_any _ _ 1 m _ (by omega) (by omega) (by omega) q14).mono ?_); rintro e w15 ⟨rfl, c15⟩)
    have d15 := on_of k2 (on_of d14 c15)
    clear q14 d14 c15
    go_wp2_with fail
    go_ret
    exact ⟨rfl, d15⟩
  · have hni : ¬ ((l0 : Int) ≤ 1048576) := by omega
    go_enter Try.func7, Try.ntmps7
    go_wp2_with fail
    ((with_reducible refine (Spans.szS_any _ _ _ 1048576 _ (by decide) (by decide) hnm').mono ?_); rintro e w0 ⟨rfl, rfl⟩; rw [if_neg (show ¬ ((l0 : Int) ≤ 1048576) by omega)])
    go_wp2
    go_ret
    exact ⟨rfl, Below.refl _ _⟩

/-! ### THE ROW's STEP -/
set_option maxRecDepth 100000 in
theorem lifted (os : Os) (started : os.Started) (H : Type) (enc : TypeId × Value → H) :
    ReturnsInHanded {} Try.checked os 7 .any (Rows.fnExactMeetSpansSpec.pre6 enc Try.prog Try.f7 Rows.fnExactMeetSpansRow.domain false) (Rows.fnExactMeetSpansSpec.post enc Try.prog Try.f7 false true false false) := by
  refine returnsInHanded_of_change (C := Try.checked) own started (by kernel_rfl) Try.func7
    (ChangeSpec.witness6 (enc := enc) (C := Try.checked) false ⟨#[], #[.slice none 0 0, .int .i64 0, .int .i64 0], []⟩ 8 (by kernel_rfl) (by kernel_rfl) (by kernel_rfl) (by kernel_rfl)) ?_
  intro W base args ds gs before hval0 hW hcnd _
  have hval : ∀ (j : Nat) t v, Try.f7.params[j]? = some t → args[j]? = some v → Value.okWide Try.prog W .any base t v := hval0
  have hW' := hW
  obtain ⟨p, q, hA0, hV, rfl, hfz, hnd⟩ := hW
  have hA : DataW.TrodAll enc Try.prog W 0 (fun _ => true) true Try.f7.params.toList args.toList ds p := hA0
  rw [Try.params7] at hA hval
  obtain ⟨v0, vs0, d0, ds0, p0, q0, hargs, rfl, rfl, h0, r0⟩ := trodAll_cons hA
  obtain ⟨v1, vs1, d1, ds1, p1, q1, rfl, rfl, rfl, h1, r1⟩ := trodAll_cons r0
  obtain ⟨v2, vs2, d2, ds2, p2, q2, rfl, rfl, rfl, h2, r2⟩ := trodAll_cons r1
  obtain ⟨rfl, rfl, rfl⟩ := trodAll_nil r2
  obtain rfl : args = #[v0, v1, v2] := by cases args; simp_all
  obtain ⟨rfl, rfl⟩ := trodVars_none hV
  have k0 := h0
  have lt0 : ∀ x ∈ p0, x.block < W.heap.size := by obtain ⟨m, hm⟩ := k0; exact DataW.trod_lt m _ _ _ hm
  have k1 := h1
  have lt1 : ∀ x ∈ p1, x.block < W.heap.size := by obtain ⟨m, hm⟩ := k1; exact DataW.trod_lt m _ _ _ hm
  have k2 := h2
  have lt2 : ∀ x ∈ p2, x.block < W.heap.size := by obtain ⟨m, hm⟩ := k2; exact DataW.trod_lt m _ _ _ hm
  obtain ⟨a0, l0, p0c, rfl⟩ := okWide_slice Try.underlying37 (hval 0 37 v0 rfl rfl)
  obtain ⟨z0, wa0⟩ : ∃ z, IsRecs [.int .i64, .int .i64] W a0 l0 p0c z :=
    recs_of (kl := [.int .i64, .int .i64]) Try.underlying37 Try.underlying75 (by kernel_rfl) (by kernel_rfl) (by decide) (by kernel_rfl) h0
  obtain ⟨a1, rfl, rfl, rfl, wa1⟩ := open_int Try.underlying3 (hval 1 3 v1 rfl rfl) h1
  obtain ⟨a2, rfl, rfl, rfl, wa2⟩ := open_int Try.underlying3 (hval 2 3 v2 rfl rfl) h2
  clear hA0 hval0
  refine (walk W a0 l0 p0c z0 wa0 a1 wa1 a2 wa2).mono fun e W' ⟨he, bel⟩ => ?_
  subst he
  exact ⟨_, rfl, _, _, _, [], _, [], hW', trodAll_mk1 (shut_bool Try.underlying4 _), (trodAll_cons_mk (Below.trod laidOut (by kernel_rfl) (of_decide_eq_true (by kernel_rfl)) k0 bel lt0) (trodAll_cons_mk (Below.trod laidOut (by kernel_rfl) (of_decide_eq_true (by kernel_rfl)) k1 bel lt1) (trodAll_cons_mk (Below.trod laidOut (by kernel_rfl) (of_decide_eq_true (by kernel_rfl)) k2 bel lt2) trodAll_mk0))), rfl, bel.frame _, fun h => by cases h⟩

theorem over : Rows.fnExactMeetSpansRow.holds Try.pinned (OpenSpec.ofChange Rows.fnExactMeetSpansSpec) :=
  OpenClaim.holds_of_wide 7 Try.f7 rfl rfl rfl rfl rfl rfl rfl ⟨rfl, rfl, rfl, rfl, rfl⟩ rfl rfl rfl rfl rfl (by kernel_rfl) Try.func7 (by kernel_rfl)
    (of_decide_eq_true (by kernel_rfl)) (by unfold Func.isWrapper; first | (rw [if_pos (by decide +kernel)]; kernel_rfl) | (rw [if_neg (by decide +kernel)]; exact ⟨rfl, rfl⟩))
    (fun os started H enc _ => lifted os started H enc)

/-- ████ THE STATEMENT ████ -/
theorem proved : Rows.FnExactMeetSpansSaid := over
#print axioms proved
end Go.Proofs.Ytccjfljmmdlngaa.fnExactMeetSpans
