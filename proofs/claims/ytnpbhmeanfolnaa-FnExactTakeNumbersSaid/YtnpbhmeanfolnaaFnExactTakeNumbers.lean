/-
  At every argument TakeNumbers answers as its model does, every field; it writes into no argument; its answer owns its memory. No condition.
  The frame of the proof was written by a tool of this repo after the guide's shells; the walk is this text's own.
-/
import Derived.Test.YtnpbhmeanfolnaaRows
import Derived.WalkKit
import Derived.ProofKit
import Derived.OpenShut
import Derived.ShutString
import Derived.ChangeOld
import Derived.ChangeArms
import Derived.Below
import Derived.Handy
import Derived.Lib.SmallJoins
import Derived.Test.YtnpbhmeanfolnaaKit
import Derived.Test.YtnpbhmeanfolnaaDraw
import Derived.Test.YtnpbhmeanfolnaaDrawPlus
import Derived.Test.YtnpbhmeanfolnaaSlab
import Derived.Test.YtnpbhmeanfolnaaInts
import Derived.Test.YtnpbhmeanfolnaaStack
import Derived.Test.YtnpbhmeanfolnaaPush
import Derived.Test.YtnpbhmeanfolnaaTake
import Derived.Test.YtnpbhmeanfolnaaOpn
import Derived.Test.YtnpbhmeanfolnaaSOp
import Derived.Test.YtnpbhmeanfolnaaSAns
import Derived.Test.YtnpbhmeanfolnaaImpl5
import Derived.Lib.Hide
namespace Go.Proofs.Ytnpbhmeanfolnaa.fnExactTakeNumbers
open Go.ChangeShapes Go.WideShapes Go.ChangeAt Go.RowKit
open Go.ChangeMaps (open_string shut_string)
open Kit
open Slabs
open Draw
open Ints
open Stack
open Push
open Take
open Opn
open SOp
open Impl
set_option linter.unusedVariables false
set_option linter.unusedSimpArgs false

theorem own : ownKnob Try.prog.godebug = none := by kernel_rfl
theorem laidOut : laidOutB Try.prog = true := by kernel_rfl

set_option maxHeartbeats 4000000 in
theorem walk (w : World) (a0 : Option Addr) (l0 p0c : Nat) (z0 : List Int) (wa0 : IsRow .i64 w a0 l0 p0c z0) (a1 : Int) (wa1 : (Lit.int .i64 a1).wf = true) :
    Calls Try.prog 6 #[.slice a0 l0 p0c, .int .i64 a1] w fun e w' => e = .returned (.bool true) ∧ Below w.heap.size w w' := by
  have HR : Hid (IsRow .i64 w a0 l0 p0c z0) := Lib.hid wa0
  clear wa0
  by_cases hbig : (1048576 : Int) < (l0 : Int)
  · go_enter Try.func6, Try.ntmps6
    go_wp2
    go_ret
    exact ⟨rfl, Below.refl _ _⟩
  · have hn : l0 ≤ 1048576 := by omega
    have hspec0 : ∀ (W : World) (B : Nat) (v : Value), Slab W B v l0 1 (ic fun i => z0.getD i 0) → Calls Try.prog 27 #[v, .int .i64 a1] W fun e w' => ∃ u1 u2 : Value, e = .returned (.tuple #[u1, u2, .bool (taB (fun i => z0.getD i 0) l0 a1)]) ∧ Slab w' W.heap.size u1 (ta1 (fun i => z0.getD i 0) l0 a1) 1 (ic fun i => z0.getD i 0) ∧ Slab w' W.heap.size u2 (ta2 (fun i => z0.getD i 0) l0 a1) 1 (ic fun i => z0.getD (l0 - a1.toNat + i) 0) ∧ Below W.heap.size W w' := fun W B v hs =>
      (take_spec W v l0 _ a1 hn (Rd.of_slab hs)).mono fun e w' ⟨u1, u2, he, h1, h2, hb⟩ => ⟨u1, u2, he, Slab.of_owns h1 (ic_len _), Slab.of_owns h2 (ic_len _), hb⟩
    have himpl0 : ∀ (W : World) (B : Nat) (v : Value), Below w.heap.size w W → Slab W B v l0 1 (ic fun i => z0.getD i 0) → Calls Try.prog 17 #[v, .int .i64 a1] W fun e w' => ∃ u1 u2 : Value, e = .returned (.tuple #[u1, u2, .bool (taB (fun i => z0.getD i 0) l0 a1)]) ∧ Slab w' W.heap.size u1 (ta1 (fun i => z0.getD i 0) l0 a1) 1 (ic fun i => z0.getD i 0) ∧ Slab w' W.heap.size u2 (ta2 (fun i => z0.getD i 0) l0 a1) 1 (ic fun i => z0.getD (l0 - a1.toNat + i) 0) ∧ (∀ k, rowOf (ta1 (fun i => z0.getD i 0) l0 a1) u1 = some k → rowOf (ta2 (fun i => z0.getD i 0) l0 a1) u2 ≠ some k) ∧ Below W.heap.size W w' := fun W B v hW hs =>
      (take_impl W v l0 _ a1 hn (Rd.of_slab hs)).mono fun e w' ⟨u1, u2, he, h1, h2, ha, hb⟩ => ⟨u1, u2, he, Slab.of_owns h1 (ic_len _), Slab.of_owns h2 (ic_len _), ha, hb⟩
    have hm1 : ta1 (fun i => z0.getD i 0) l0 a1 ≤ l0 := by unfold ta1; split <;> omega
    have hm2 : ta2 (fun i => z0.getD i 0) l0 a1 ≤ l0 := by
      unfold ta2 taB
      split
      · rename_i h
        simp only [Bool.and_eq_true, decide_eq_true_eq] at h
        omega
      · omega
    obtain ⟨b, hb⟩ : ∃ b, taB (fun i => z0.getD i 0) l0 a1 = b := ⟨_, rfl⟩
    obtain ⟨m1, e1⟩ : ∃ m, ta1 (fun i => z0.getD i 0) l0 a1 = m := ⟨_, rfl⟩
    obtain ⟨m2, e2⟩ : ∃ m, ta2 (fun i => z0.getD i 0) l0 a1 = m := ⟨_, rfl⟩
    obtain ⟨Y2, eY⟩ : ∃ Y, (fun i => z0.getD (l0 - a1.toNat + i) 0) = Y := ⟨_, rfl⟩
    rw [hb, e1, e2, eY] at hspec0 himpl0
    rw [e1] at hm1
    rw [e2] at hm2
    have HS := Lib.hid (And.intro hspec0 himpl0)
    have hk0 : ¬ (((1 + l0 : Nat) : Int) < 0) := by omega
    have hk1 : ¬ (((1 + m1 : Nat) : Int) < 0) := by omega
    have hk2 : ¬ (((1 + m1 + m2 : Nat) : Int) < 0) := by omega
    clear hspec0 himpl0 hb e1 e2 eY
    cases b
    all_goals
      go_enter Try.func6, Try.ntmps6
      go_wp2_with fail
      ((with_reducible refine (toI_any _ _ _ _ _ hn HR.out).mono ?_); rintro e w1 ⟨v1, rfl, s1, c1⟩)
      go_wp2_with fail
      ((with_reducible refine (HS.out.1 _ _ _ s1).mono ?_); rintro e w2 ⟨u0, u1, rfl, t2, y2, c2⟩)
      have k2 := on_of c1 c2
      clear s1
      go_wp2_with fail
      ((with_reducible refine (toI_any _ _ _ _ _ hn (HR.out.keep k2)).mono ?_); rintro e w3 ⟨x0, rfl, s3, c3⟩)
      go_wp2_with fail
      ((with_reducible refine (HS.out.2 _ _ _ (on_of k2 c3) s3).mono ?_); rintro e w4 ⟨g0, g1, rfl, r4, q4, ap, c4⟩)
      have HA := Lib.hid ap
      have d4 := on_of c3 c4
      clear ap
      go_wp2_with fail
      ((with_reducible refine (eqI_same _ _ _ _ _ m1 _ (by omega) r4 (t2.below d4)).mono ?_); rintro e w5 ⟨rfl, c5⟩)
      have d5 := on_of d4 c5
      have f5 := on_of c4 c5
      have q5 := q4.below c5
      go_wp2_with fail
      ((with_reducible refine (eqI_same _ _ _ _ _ m2 _ (by omega) q5 (y2.below d5)).mono ?_); rintro e w6 ⟨rfl, c6⟩)
      have d6 := on_of d5 c6
      have f6 := on_of f5 c6
      go_wp2_with fail
      ((with_reducible refine (toI_any _ _ _ _ _ hn (HR.out.keep (on_of k2 d6))).mono ?_); rintro e w7 ⟨y0, rfl, p7, c7⟩)
      have d7 := on_of d6 c7
      have f7 := on_of f6 c7
      go_wp2_with fail
      ((with_reducible refine (eqI_same _ _ _ _ _ l0 _ (by omega) (s3.below f7) p7).mono ?_); rintro e w8 ⟨rfl, c8⟩)
      have d8 := on_of d7 c8
      have f8 := on_of f7 c8
      have j5 := c5
      have r8 := r4.below (on_of (on_of (on_of c5 c6) c7) c8)
      have q8 := q4.below (on_of (on_of (on_of c5 c6) c7) c8)
      have s8 := s3.below f8
      have n8 : w3.heap.size ≤ w8.heap.size := by have := f8.size; omega
      clear p7 c5 c6 c7 c8 r4 q4 q5 f5 f6 f7 f8 d4 d5 d6 d7 j5
      go_wp2_with fail
      ((refine (markI_any _ _ 1 l0 _ _ (by omega) (by omega) d8.size s8).mono ?_); rintro e w9 ⟨rfl, _, c9, g9⟩)
      have d9 := d8.trans c9
      have r9 := r8.kept g9 (fun k hk => (s3.row k hk).2)
      have q9 := q8.kept g9 (fun k hk => (s3.row k hk).2)
      have n9 : w3.heap.size ≤ w9.heap.size := by have := c9.size; omega
      clear g9 s8 r8 q8 d8 c9
      go_wp2_with fail
      ((with_reducible refine (eqI_same _ _ _ _ _ m1 _ (by omega) r9 (t2.below d9)).mono ?_); rintro e w10 ⟨rfl, c10⟩)
      have d10 := on_of d9 c10
      have r10 := r9.below c10
      have q10 := q9.below c10
      have n10 : w3.heap.size ≤ w10.heap.size := by have := c10.size; omega
      clear r9 q9 d9 c10
      go_wp2_with fail
      ((with_reducible refine (eqI_same _ _ _ _ _ m2 _ (by omega) q10 (y2.below d10)).mono ?_); rintro e w11 ⟨rfl, c11⟩)
      have d11 := on_of d10 c11
      have r11 := r10.below c11
      have q11 := q10.below c11
      have n11 : w3.heap.size ≤ w11.heap.size := by have := c11.size; omega
      clear r10 q10 d10 c11
      go_wp2_with fail
      ((refine (markI_any _ _ 1 m1 _ _ (by omega) (by omega) n11 r11).mono ?_); rintro e w12 ⟨rfl, r12, c12, g12⟩)
      have d12 := d11.trans (c12.mono c3.size)
      have q12 := q11.apart g12 (fun k hk h => HA.out k h hk)
      have n12 : w3.heap.size ≤ w12.heap.size := by have := c12.size; omega
      clear r11 q11 d11 c12 g12
      go_wp2_with fail
      ((refine (markI_any _ _ (1 + m1) m2 _ _ (by omega) (by omega) n12 q12).mono ?_); rintro e w13 ⟨rfl, q13, c13, g13⟩)
      have d13 := d12.trans (c13.mono c3.size)
      have r13 := r12.apart g13 (fun k hk h => HA.out k hk h)
      clear r12 q12 d12 c13 g13
      go_wp2_with fail
      ((refine (heldI_any _ _ 1 m1 _ (by omega) (by omega) r13).mono ?_); rintro e w14 ⟨rfl, c14⟩)
      have d14 := on_of d13 c14
      have r14 := r13.below c14
      have q14 := q13.below c14
      clear r13 q13 d13 c14
      go_wp2_with fail
      ((refine (heldI_any _ _ (1 + m1) m2 _ (by omega) (by omega) q14).mono ?_); rintro e w15 ⟨rfl, c15⟩)
      have d15 := on_of d14 c15
      have r15 := r14.below c15
      have q15 := q14.below c15
      clear r14 q14 d14 c15
      go_wp2_with fail
      ((with_reducible refine (toI_any _ _ _ _ _ hn (HR.out.keep (on_of k2 d15))).mono ?_); rintro e w16 ⟨x1, rfl, s16, c16⟩)
      have d16 := on_of d15 c16
      have r16 := r15.below c16
      have q16 := q15.below c16
      clear r15 q15 d15 c16
      go_wp2_with fail
      ((with_reducible refine (HS.out.2 _ _ _ (on_of k2 d16) s16).mono ?_); rintro e w17 ⟨h0, h1, rfl, o17, p17, _, c17⟩)
      have d17 := on_of d16 c17
      have r17 := r16.below c17
      have q17 := q16.below c17
      clear r16 q16 d16 c17 s16
      go_wp2_with fail
      ((with_reducible refine (eqI_same _ _ _ _ _ m1 _ (by omega) o17 (t2.below d17)).mono ?_); rintro e w18 ⟨rfl, c18⟩)
      have d18 := on_of d17 c18
      have r18 := r17.below c18
      have q18 := q17.below c18
      have p18 := p17.below c18
      clear r17 q17 d17 c18 o17 p17
      go_wp2_with fail
      ((with_reducible refine (eqI_same _ _ _ _ _ m2 _ (by omega) p18 (y2.below d18)).mono ?_); rintro e w19 ⟨rfl, c19⟩)
      have d19 := on_of d18 c19
      have r19 := r18.below c19
      have q19 := q18.below c19
      clear r18 q18 d18 c19 p18
      go_wp2_with fail
      ((refine (heldI_any _ _ 1 m1 _ (by omega) (by omega) r19).mono ?_); rintro e w20 ⟨rfl, c20⟩)
      have d20 := on_of d19 c20
      have q20 := q19.below c20
      clear r19 q19 d19 c20
      go_wp2_with fail
      ((refine (heldI_any _ _ (1 + m1) m2 _ (by omega) (by omega) q20).mono ?_); rintro e w21 ⟨rfl, c21⟩)
      have d21 := on_of k2 (on_of d20 c21)
      clear q20 d20 c21
      go_wp2_with fail
      go_ret
      exact ⟨rfl, d21⟩

/-! ### THE ROW's STEP -/
set_option maxRecDepth 100000 in
theorem lifted (os : Os) (started : os.Started) (H : Type) (enc : TypeId × Value → H) :
    ReturnsInHanded {} Try.checked os 6 .any (Rows.fnExactTakeNumbersSpec.pre6 enc Try.prog Try.f6 Rows.fnExactTakeNumbersRow.domain false) (Rows.fnExactTakeNumbersSpec.post enc Try.prog Try.f6 false true false false) := by
  refine returnsInHanded_of_change (C := Try.checked) own started (by kernel_rfl) Try.func6
    (ChangeSpec.witness6 (enc := enc) (C := Try.checked) false ⟨#[], #[.slice none 0 0, .int .i64 0], []⟩ 8 (by kernel_rfl) (by kernel_rfl) (by kernel_rfl) (by kernel_rfl)) ?_
  intro W base args ds gs before hval0 hW hcnd _
  have hval : ∀ (j : Nat) t v, Try.f6.params[j]? = some t → args[j]? = some v → Value.okWide Try.prog W .any base t v := hval0
  have hW' := hW
  obtain ⟨p, q, hA0, hV, rfl, hfz, hnd⟩ := hW
  have hA : DataW.TrodAll enc Try.prog W 0 (fun _ => true) true Try.f6.params.toList args.toList ds p := hA0
  rw [Try.params6] at hA hval
  obtain ⟨v0, vs0, d0, ds0, p0, q0, hargs, rfl, rfl, h0, r0⟩ := trodAll_cons hA
  obtain ⟨v1, vs1, d1, ds1, p1, q1, rfl, rfl, rfl, h1, r1⟩ := trodAll_cons r0
  obtain ⟨rfl, rfl, rfl⟩ := trodAll_nil r1
  obtain rfl : args = #[v0, v1] := by cases args; simp_all
  obtain ⟨rfl, rfl⟩ := trodVars_none hV
  have k0 := h0
  have lt0 : ∀ x ∈ p0, x.block < W.heap.size := by obtain ⟨m, hm⟩ := k0; exact DataW.trod_lt m _ _ _ hm
  have k1 := h1
  have lt1 : ∀ x ∈ p1, x.block < W.heap.size := by obtain ⟨m, hm⟩ := k1; exact DataW.trod_lt m _ _ _ hm
  obtain ⟨a0, l0, p0c, rfl⟩ := okWide_slice Try.underlying24 (hval 0 24 v0 rfl rfl)
  obtain ⟨z0, wa0⟩ : ∃ zs, IsRow .i64 W a0 l0 p0c zs := by
    obtain ⟨fuel, hf⟩ := h0
    rcases open_ints Try.underlying24 Try.underlying3 (by kernel_rfl) hf with ⟨hcs, _⟩ | ⟨x, l, c, zs, hcs, _, hl, hm, hz, _, hcell, hwz⟩
    · simp [Value.cells] at hcs
      obtain ⟨rfl, rfl, rfl⟩ := hcs
      exact ⟨[], .inl ⟨rfl, rfl, rfl, rfl⟩⟩
    · simp [Value.cells] at hcs
      obtain ⟨rfl, rfl, rfl⟩ := hcs
      exact ⟨zs, .inr ⟨_, rfl, hl, hm, by simpa using hz, hcell, hwz⟩⟩
  obtain ⟨a1, rfl, rfl, rfl, wa1⟩ := open_int Try.underlying3 (hval 1 3 v1 rfl rfl) h1
  clear hA0 hval0
  refine (walk W a0 l0 p0c z0 wa0 a1 wa1).mono fun e W' ⟨he, bel⟩ => ?_
  subst he
  exact ⟨_, rfl, _, _, _, [], _, [], hW', trodAll_mk1 (shut_bool Try.underlying4 _), (trodAll_cons_mk (Below.trod laidOut (by kernel_rfl) (of_decide_eq_true (by kernel_rfl)) k0 bel lt0) (trodAll_cons_mk (Below.trod laidOut (by kernel_rfl) (of_decide_eq_true (by kernel_rfl)) k1 bel lt1) trodAll_mk0)), rfl, bel.frame _, fun h => by cases h⟩

theorem over : Rows.fnExactTakeNumbersRow.holds Try.pinned (OpenSpec.ofChange Rows.fnExactTakeNumbersSpec) :=
  OpenClaim.holds_of_wide 6 Try.f6 rfl rfl rfl rfl rfl rfl rfl ⟨rfl, rfl, rfl, rfl, rfl⟩ rfl rfl rfl rfl rfl (by kernel_rfl) Try.func6 (by kernel_rfl)
    (of_decide_eq_true (by kernel_rfl)) (by unfold Func.isWrapper; first | (rw [if_pos (by decide +kernel)]; kernel_rfl) | (rw [if_neg (by decide +kernel)]; exact ⟨rfl, rfl⟩))
    (fun os started H enc _ => lifted os started H enc)

/-- ████ THE STATEMENT ████ -/
theorem proved : Rows.FnExactTakeNumbersSaid := over
#print axioms proved
end Go.Proofs.Ytnpbhmeanfolnaa.fnExactTakeNumbers
