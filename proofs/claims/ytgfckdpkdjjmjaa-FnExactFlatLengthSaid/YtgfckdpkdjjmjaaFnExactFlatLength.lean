/-
  FlatLength answers as its model does, at every argument. No condition.
  The frame of the proof was written by a tool of this repo after the guide's shells; the walk is this text's own.
-/
import Derived.Test.YtgfckdpkdjjmjaaRows
import Derived.WalkKit
import Derived.ProofKit
import Derived.OpenShut
import Derived.ShutString
import Derived.ChangeOld
import Derived.ChangeArms
import Derived.Below
import Derived.Handy
import Derived.Lib.SmallJoins
import Derived.Test.YtgfckdpkdjjmjaaKit
import Derived.Test.YtgfckdpkdjjmjaaSlab
import Derived.Test.YtgfckdpkdjjmjaaRecs
import Derived.Test.YtgfckdpkdjjmjaaTokens
import Derived.Test.YtgfckdpkdjjmjaaDepth
import Derived.Test.YtgfckdpkdjjmjaaTokArg
import Derived.Test.YtgfckdpkdjjmjaaRep
import Derived.Test.YtgfckdpkdjjmjaaFbImpl
import Derived.Lib.Hide
namespace Go.Proofs.Ytgfckdpkdjjmjaa.fnExactFlatLength
open Go.ChangeShapes Go.WideShapes Go.ChangeAt Go.RowKit
open Go.ChangeMaps (open_string shut_string)
open Kit
open Slabs
open Recs
open Blk
open Impl
set_option linter.unusedVariables false
set_option linter.unusedSimpArgs false

theorem own : ownKnob Try.prog.godebug = none := by kernel_rfl
theorem laidOut : laidOutB Try.prog = true := by kernel_rfl

set_option maxHeartbeats 2000000 in
theorem walk (w : World) (a0 : Option Addr) (l0 p0c : Nat) (z0 : Nat → Nat → Value) (wa0 : IsRecs [.string, .int .i64] w a0 l0 p0c z0) :
    Calls Try.prog 6 #[.slice a0 l0 p0c] w fun e w' => e = .returned (.bool true) ∧ Below w.heap.size w w' := by
  have hnm : l0 ≤ maxLen := Nat.le_trans wa0.1 wa0.2.1
  obtain ⟨hF, hZ⟩ := recs_is wa0
  have HR : Hid (IsRecs Tokens.kl w a0 l0 p0c z0) := Lib.hid wa0
  have HF := Lib.hid (And.intro hF hZ)
  clear wa0 hF hZ
  go_enter Try.func6, Try.ntmps6
  go_wp2_with fail
  ((with_reducible refine (Tokens.szS_any _ _ _ _ 1048576 _ (by decide) (by decide) HR.out).mono ?_); rintro e w1 ⟨⟨r, rfl, hr1, hr2⟩, c1⟩)
  by_cases hr0 : r < 0
  · go_wp2_with fail
    go_ret
    exact ⟨rfl, c1⟩
  · have hsz := hr2 (by omega)
    have hn : l0 ≤ 1048576 := by omega
    have hS := lst_size HF.out.2 (show Tokens.total z0 l0 ≤ 1048576 by omega)
    have hln : (lst z0 l0).length ≤ 1048576 := by rw [lst_len]; exact hn
    have keep : ∀ {W' : World}, Below w.heap.size w W' → IsRecs Tokens.kl W' a0 l0 p0c z0 := fun {W'} hb => by
      obtain ⟨h1, h2, h3⟩ := HR.out
      refine ⟨h1, h2, ?_⟩
      rcases h3 with h3 | ⟨g, o, ha, hg, h4⟩
      · exact .inl h3
      · exact .inr ⟨g, o, ha, Nat.lt_of_lt_of_le hg hb.size, fun i hi j kd hk => ⟨(hb.cell (p := ⟨g, _, none⟩) hg).trans (h4 i hi j kd hk).1, (h4 i hi j kd hk).2⟩⟩
    have HK : Hid (∀ W' : World, Below w.heap.size w W' → IsRecs Tokens.kl W' a0 l0 p0c z0) := Lib.hid (fun W' => @keep W')
    obtain ⟨x, hx⟩ := flen_ex (lst z0 l0)
    have hspec0 : ∀ (W : World) (B : Nat) (v : Value), Slab W B v l0 2 (fun i => [z0 i 0, z0 i 1]) → Calls Try.prog 21 #[v] W fun e w' => e = .returned (.int .i64 x) ∧ Below W.heap.size W w' := fun W B v hs => len_spec W v _ hln hS (rdt_of HF.out.1 hs) x hx
    have himpl0 : ∀ (W : World) (B : Nat) (v : Value), Below w.heap.size w W → Slab W B v l0 2 (fun i => [z0 i 0, z0 i 1]) → Calls Try.prog 10 #[v] W fun e w' => e = .returned (.int .i64 x) ∧ Below W.heap.size W w' := fun W B v hW hs => len_impl W v _ hln hS (rdt_of HF.out.1 hs) x hx
    have HX := Lib.hid (And.intro hspec0 himpl0)
    clear hspec0 himpl0 hx hS hln keep hr2
    go_wp2_with fail
    ((with_reducible refine (Tokens.toS_any _ _ _ _ _ hn (HK.out _ c1)).mono ?_); rintro e w2 ⟨v2, rfl, s2, c2⟩)
    have k2 := on_of c1 c2
    go_wp2_with fail
    ((with_reducible refine (HX.out.1 _ _ _ s2).mono ?_); rintro e w3 ⟨rfl, c3⟩)
    have k3 := on_of k2 c3
    go_wp2_with fail
    ((with_reducible refine (Tokens.toS_any _ _ _ _ _ hn (HK.out _ k3)).mono ?_); rintro e w4 ⟨v4, rfl, s4, c4⟩)
    have k4 := on_of k3 c4
    go_wp2_with fail
    ((with_reducible refine (HX.out.2 _ _ _ k4 s4).mono ?_); rintro e w5 ⟨rfl, c5⟩)
    have k5 := on_of k4 c5
    have s5 := s4.below c5
    go_wp2_with fail
    ((with_reducible refine (Tokens.toS_any _ _ _ _ _ hn (HK.out _ k5)).mono ?_); rintro e w6 ⟨v6, rfl, s6, c6⟩)
    have k6 := on_of k5 c6
    have s5' := s5.below c6
    go_wp2_with fail
    ((with_reducible refine (Tokens.eqS_same _ _ _ _ _ l0 _ hn s5' s6 (Tokens.rec_shape HR.out)).mono ?_); rintro e w7 ⟨rfl, c7⟩)
    have k7 := on_of k6 c7
    go_wp2_with fail
    go_ret
    exact ⟨by simp, k7⟩

/-! ### THE ROW's STEP -/
set_option maxRecDepth 100000 in
theorem lifted (os : Os) (started : os.Started) (H : Type) (enc : TypeId × Value → H) :
    ReturnsInHanded {} Try.checked os 6 .any (Rows.fnExactFlatLengthSpec.pre6 enc Try.prog Try.f6 Rows.fnExactFlatLengthRow.domain false) (Rows.fnExactFlatLengthSpec.post enc Try.prog Try.f6 false true false false) := by
  refine returnsInHanded_of_change (C := Try.checked) own started (by kernel_rfl) Try.func6
    (ChangeSpec.witness6 (enc := enc) (C := Try.checked) false ⟨#[], #[.slice none 0 0], []⟩ 8 (by kernel_rfl) (by kernel_rfl) (by kernel_rfl) (by kernel_rfl)) ?_
  intro W base args ds gs before hval0 hW hcnd _
  have hval : ∀ (j : Nat) t v, Try.f6.params[j]? = some t → args[j]? = some v → Value.okWide Try.prog W .any base t v := hval0
  have hW' := hW
  obtain ⟨p, q, hA0, hV, rfl, hfz, hnd⟩ := hW
  have hA : DataW.TrodAll enc Try.prog W 0 (fun _ => true) true Try.f6.params.toList args.toList ds p := hA0
  rw [Try.params6] at hA hval
  obtain ⟨v0, vs0, d0, ds0, p0, q0, hargs, rfl, rfl, h0, r0⟩ := trodAll_cons hA
  obtain ⟨rfl, rfl, rfl⟩ := trodAll_nil r0
  obtain rfl : args = #[v0] := by cases args; simp_all
  obtain ⟨rfl, rfl⟩ := trodVars_none hV
  have k0 := h0
  have lt0 : ∀ x ∈ p0, x.block < W.heap.size := by obtain ⟨m, hm⟩ := k0; exact DataW.trod_lt m _ _ _ hm
  obtain ⟨a0, l0, p0c, rfl⟩ := okWide_slice Try.underlying32 (hval 0 32 v0 rfl rfl)
  obtain ⟨z0, wa0⟩ : ∃ z, IsRecs [.string, .int .i64] W a0 l0 p0c z :=
    recs_of (kl := [.string, .int .i64]) Try.underlying32 Try.underlying48 (by kernel_rfl) (by kernel_rfl) (by decide) (by kernel_rfl) h0
  clear hA0 hval0
  refine (walk W a0 l0 p0c z0 wa0).mono fun e W' ⟨he, bel⟩ => ?_
  subst he
  exact ⟨_, rfl, _, _, _, [], _, [], hW', trodAll_mk1 (shut_bool Try.underlying4 _), (trodAll_cons_mk (Below.trod laidOut (by kernel_rfl) (of_decide_eq_true (by kernel_rfl)) k0 bel lt0) trodAll_mk0), rfl, bel.frame _, fun h => by cases h⟩

theorem over : Rows.fnExactFlatLengthRow.holds Try.pinned (OpenSpec.ofChange Rows.fnExactFlatLengthSpec) :=
  OpenClaim.holds_of_wide 6 Try.f6 rfl rfl rfl rfl rfl rfl rfl ⟨rfl, rfl, rfl, rfl, rfl⟩ rfl rfl rfl rfl rfl (by kernel_rfl) Try.func6 (by kernel_rfl)
    (of_decide_eq_true (by kernel_rfl)) (by unfold Func.isWrapper; first | (rw [if_pos (by decide +kernel)]; kernel_rfl) | (rw [if_neg (by decide +kernel)]; exact ⟨rfl, rfl⟩))
    (fun os started H enc _ => lifted os started H enc)

/-- ████ THE STATEMENT ████ -/
theorem proved : Rows.FnExactFlatLengthSaid := over
#print axioms proved
end Go.Proofs.Ytgfckdpkdjjmjaa.fnExactFlatLength
