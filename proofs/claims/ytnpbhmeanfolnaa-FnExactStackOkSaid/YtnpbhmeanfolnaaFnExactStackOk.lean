/-
  At every argument StackOk answers as its model does, every field; it writes into no argument; its answer owns its memory. No condition.
  The frame of the proof was written by a tool of this repo after the guide's shells; the walk is this text's own.
-/
import Derived.Test.YtnpbhmeanfolnaaRows
import Derived.WalkKit
import Derived.ProofKit
import Derived.OpenShut
import Derived.ShutString
import Derived.ChangeOld
import Derived.ChangeArms
import Derived.Below
import Derived.Handy
import Derived.Lib.SmallJoins
import Derived.Test.YtnpbhmeanfolnaaKit
import Derived.Test.YtnpbhmeanfolnaaDraw
import Derived.Test.YtnpbhmeanfolnaaDrawPlus
import Derived.Test.YtnpbhmeanfolnaaSlab
import Derived.Test.YtnpbhmeanfolnaaInts
import Derived.Test.YtnpbhmeanfolnaaStack
import Derived.Test.YtnpbhmeanfolnaaPush
import Derived.Test.YtnpbhmeanfolnaaTake
import Derived.Test.YtnpbhmeanfolnaaOpn
import Derived.Test.YtnpbhmeanfolnaaSOp
import Derived.Test.YtnpbhmeanfolnaaSAns
import Derived.Test.YtnpbhmeanfolnaaImpl5
import Derived.Lib.Hide
namespace Go.Proofs.Ytnpbhmeanfolnaa.fnExactStackOk
open Go.ChangeShapes Go.WideShapes Go.ChangeAt Go.RowKit
open Go.ChangeMaps (open_string shut_string)
open Kit
open Slabs
open Draw
open Ints
open Stack
open Push
open Take
open Opn
open SOp
open Impl
set_option linter.unusedVariables false
set_option linter.unusedSimpArgs false

theorem own : ownKnob Try.prog.godebug = none := by kernel_rfl
theorem laidOut : laidOutB Try.prog = true := by kernel_rfl

set_option maxHeartbeats 2000000 in
theorem walk (w : World) (a0 : Option Addr) (l0 p0c : Nat) (z0 : List Int) (wa0 : IsRow .i64 w a0 l0 p0c z0) :
    Calls Try.prog 4 #[.slice a0 l0 p0c] w fun e w' => e = .returned (.bool true) ∧ Below w.heap.size w w' := by
  have HR : Hid (IsRow .i64 w a0 l0 p0c z0) := Lib.hid wa0
  clear wa0
  by_cases hbig : (1048576 : Int) < (l0 : Int)
  · go_enter Try.func4, Try.ntmps4
    go_wp2
    go_ret
    exact ⟨rfl, Below.refl _ _⟩
  · have hn : l0 ≤ 1048576 := by omega
    have hspec0 : ∀ (W : World) (B : Nat) (v : Value), Slab W B v l0 1 (ic fun i => z0.getD i 0) → Calls Try.prog 21 #[v] W fun e w' => e = .returned (.bool (stB (fun i => z0.getD i 0) l0)) ∧ W = w' := fun W B v hs => stok_spec W v l0 _ (by omega) (Rd.of_slab hs)
    have himpl0 : ∀ (W : World) (B : Nat) (v : Value), Below w.heap.size w W → Slab W B v l0 1 (ic fun i => z0.getD i 0) → Calls Try.prog 19 #[v] W fun e w' => e = .returned (.bool (stB (fun i => z0.getD i 0) l0)) ∧ Below W.heap.size W w' := fun W B v hW hs => stok_impl W v l0 _ (by omega) (Rd.of_slab hs)
    obtain ⟨b, hb⟩ : ∃ b, stB (fun i => z0.getD i 0) l0 = b := ⟨_, rfl⟩
    rw [hb] at hspec0 himpl0
    have HS := Lib.hid (And.intro hspec0 himpl0)
    clear hspec0 himpl0 hb
    cases b
    all_goals
      go_enter Try.func4, Try.ntmps4
      go_wp2_with fail
      ((with_reducible refine (toI_any _ _ _ _ _ hn HR.out).mono ?_); rintro e w1 ⟨v1, rfl, s1, c1⟩)
      go_wp2_with fail
      ((with_reducible refine (HS.out.1 _ _ _ s1).mono ?_); rintro e w1 ⟨rfl, rfl⟩)
      clear s1
      go_wp2_with fail
      ((with_reducible refine (toI_any _ _ _ _ _ hn (HR.out.keep c1)).mono ?_); rintro e w3 ⟨x0, rfl, s3, c3⟩)
      have k3 := on_of c1 c3
      go_wp2_with fail
      ((with_reducible refine (HS.out.2 _ _ _ k3 s3).mono ?_); rintro e w4 ⟨rfl, c4⟩)
      have k4 := on_of k3 c4
      have s4 := s3.below c4
      go_wp2_with fail
      ((with_reducible refine (toI_any _ _ _ _ _ hn (HR.out.keep k4)).mono ?_); rintro e w5 ⟨y0, rfl, p5, c5⟩)
      have k5 := on_of k4 c5
      have s5 := s4.below c5
      go_wp2_with fail
      ((with_reducible refine (eqI_same _ _ _ _ _ l0 _ (by omega) s5 p5).mono ?_); rintro e w6 ⟨rfl, c6⟩)
      have k6 := on_of k5 c6
      go_wp2_with fail
      go_ret
      exact ⟨rfl, k6⟩

/-! ### THE ROW's STEP -/
set_option maxRecDepth 100000 in
theorem lifted (os : Os) (started : os.Started) (H : Type) (enc : TypeId × Value → H) :
    ReturnsInHanded {} Try.checked os 4 .any (Rows.fnExactStackOkSpec.pre6 enc Try.prog Try.f4 Rows.fnExactStackOkRow.domain false) (Rows.fnExactStackOkSpec.post enc Try.prog Try.f4 false true false false) := by
  refine returnsInHanded_of_change (C := Try.checked) own started (by kernel_rfl) Try.func4
    (ChangeSpec.witness6 (enc := enc) (C := Try.checked) false ⟨#[], #[.slice none 0 0], []⟩ 8 (by kernel_rfl) (by kernel_rfl) (by kernel_rfl) (by kernel_rfl)) ?_
  intro W base args ds gs before hval0 hW hcnd _
  have hval : ∀ (j : Nat) t v, Try.f4.params[j]? = some t → args[j]? = some v → Value.okWide Try.prog W .any base t v := hval0
  have hW' := hW
  obtain ⟨p, q, hA0, hV, rfl, hfz, hnd⟩ := hW
  have hA : DataW.TrodAll enc Try.prog W 0 (fun _ => true) true Try.f4.params.toList args.toList ds p := hA0
  rw [Try.params4] at hA hval
  obtain ⟨v0, vs0, d0, ds0, p0, q0, hargs, rfl, rfl, h0, r0⟩ := trodAll_cons hA
  obtain ⟨rfl, rfl, rfl⟩ := trodAll_nil r0
  obtain rfl : args = #[v0] := by cases args; simp_all
  obtain ⟨rfl, rfl⟩ := trodVars_none hV
  have k0 := h0
  have lt0 : ∀ x ∈ p0, x.block < W.heap.size := by obtain ⟨m, hm⟩ := k0; exact DataW.trod_lt m _ _ _ hm
  obtain ⟨a0, l0, p0c, rfl⟩ := okWide_slice Try.underlying24 (hval 0 24 v0 rfl rfl)
  obtain ⟨z0, wa0⟩ : ∃ zs, IsRow .i64 W a0 l0 p0c zs := by
    obtain ⟨fuel, hf⟩ := h0
    rcases open_ints Try.underlying24 Try.underlying3 (by kernel_rfl) hf with ⟨hcs, _⟩ | ⟨x, l, c, zs, hcs, _, hl, hm, hz, _, hcell, hwz⟩
    · simp [Value.cells] at hcs
      obtain ⟨rfl, rfl, rfl⟩ := hcs
      exact ⟨[], .inl ⟨rfl, rfl, rfl, rfl⟩⟩
    · simp [Value.cells] at hcs
      obtain ⟨rfl, rfl, rfl⟩ := hcs
      exact ⟨zs, .inr ⟨_, rfl, hl, hm, by simpa using hz, hcell, hwz⟩⟩
  clear hA0 hval0
  refine (walk W a0 l0 p0c z0 wa0).mono fun e W' ⟨he, bel⟩ => ?_
  subst he
  exact ⟨_, rfl, _, _, _, [], _, [], hW', trodAll_mk1 (shut_bool Try.underlying4 _), (trodAll_cons_mk (Below.trod laidOut (by kernel_rfl) (of_decide_eq_true (by kernel_rfl)) k0 bel lt0) trodAll_mk0), rfl, bel.frame _, fun h => by cases h⟩

theorem over : Rows.fnExactStackOkRow.holds Try.pinned (OpenSpec.ofChange Rows.fnExactStackOkSpec) :=
  OpenClaim.holds_of_wide 4 Try.f4 rfl rfl rfl rfl rfl rfl rfl ⟨rfl, rfl, rfl, rfl, rfl⟩ rfl rfl rfl rfl rfl (by kernel_rfl) Try.func4 (by kernel_rfl)
    (of_decide_eq_true (by kernel_rfl)) (by unfold Func.isWrapper; first | (rw [if_pos (by decide +kernel)]; kernel_rfl) | (rw [if_neg (by decide +kernel)]; exact ⟨rfl, rfl⟩))
    (fun os started H enc _ => lifted os started H enc)

/-- ████ THE STATEMENT ████ -/
theorem proved : Rows.FnExactStackOkSaid := over
#print axioms proved
end Go.Proofs.Ytnpbhmeanfolnaa.fnExactStackOk
