/-
  For every slice of bytes FnClamped returns true (a clamped number is in the range, is not changed again, and equals the number if this is in the range) and the bytes read as before; no condition.
  The frame of the proof was written by the guide's proof-skeleton; the walk is this text's own.
-/
import Derived.Test.YthemadiofegjmaaRows
import Derived.WalkKit
import Derived.ProofKit
import Derived.OpenShut
import Derived.ShutString
import Derived.ChangeOld
import Derived.Below
import Derived.Test.YthemadiofegjmaaDraw
namespace Go.Proofs.Ythemadiofegjmaa.fnClamped
open Go.ChangeShapes Go.WideShapes Go.ChangeAt Go.RowKit
open Go.ChangeMaps (open_string shut_string)
set_option linter.unusedVariables false

theorem own : ownKnob Try.prog.godebug = none := by kernel_rfl
theorem laidOut : laidOutB Try.prog = true := by kernel_rfl

open Draw
/-! ### STEP 1: THE WALK: the Go text returns true, AND WRITES NOTHING THAT WAS THERE: 'Below w.heap.size w w'' (Derived/Below.lean: '.refl', '.alloc', '.drew', '.setCell' at a new block, '.trans'). Open each 'IsRow' by 'rcases' AHEAD of 'go_enter'; part every test ahead of the walk. -/
/-- DrawClamp: three ints of whatever value; nothing that was there has turned. -/
theorem draw (a0 : Option Addr) (len0 cap0 : Nat) (z0 : List Int) (w : World) (w0 : IsRow .u8 w a0 len0 cap0 z0) :
    Calls Try.prog 9 #[.slice a0 len0 cap0] w fun e w' => ∃ n a b : Int, e = .returned (.tuple #[.int .i64 n, .int .i64 a, .int .i64 b]) ∧ Below w.heap.size w w' := by
  go_enter Try.func9, Try.ntmps9
  go_wp2_with (first
    | (go_at_call 21; refine (new_any w _ _ _ z0 w0).mono ?_; rintro e w' ⟨rfl, d1⟩; have d2 := d1.same; clear d1)
    | (go_at_call 22; refine (once_on w _ _ _ a0 len0 cap0 z0 _ (by assumption)).mono ?_; rintro e w' ⟨r, rfl, d1⟩)
    | (go_at_call 23; refine (number_on w _ _ _ a0 len0 cap0 z0 (by assumption)).mono ?_; rintro e w' ⟨q, hq, rfl, d1⟩)
    | (go_at_call 24; refine (below_on w _ _ _ a0 len0 cap0 z0 _ (by assumption)).mono ?_; rintro e w' ⟨q, hq, rfl, d1⟩))
  all_goals go_ret3
  all_goals exact ⟨_, _, _, rfl, (‹Drawn w a0 len0 cap0 z0 _ _ _›).1.below⟩

theorem clamp_any (n a b x : Int) (w : World) (h : (b < a ∧ x = a) ∨ (a ≤ b ∧ n < a ∧ x = a) ∨ (a ≤ b ∧ b < n ∧ x = b) ∨ (a ≤ b ∧ a ≤ n ∧ n ≤ b ∧ x = n)) :
    Calls Try.prog 10 #[.int .i64 n, .int .i64 a, .int .i64 b] w fun e w' => e = .returned (.int .i64 x) ∧ w = w' := by
  have hx : max a (min n b) = x := by omega
  have hx' : (if a < (if n < b then n else b) then (if n < b then n else b) else a) = x := by split <;> split <;> omega
  by_cases h1 : b < a <;> by_cases h2 : b < n <;> by_cases h3 : n < a
  all_goals
    first
    | (exfalso; omega)
    | (go_enter Try.func10, Try.ntmps10
       go_wp2
       all_goals go_ret
       all_goals exact ⟨by congr 2; simp at *; omega, rfl⟩)

theorem clamp_low (n a b : Int) (w : World) (h : b < a ∨ n < a) : Calls Try.prog 10 #[.int .i64 n, .int .i64 a, .int .i64 b] w fun e w' => e = .returned (.int .i64 a) ∧ w = w' := clamp_any n a b a w (by omega)
theorem clamp_high (n a b : Int) (w : World) (h : a ≤ b ∧ b < n) : Calls Try.prog 10 #[.int .i64 n, .int .i64 a, .int .i64 b] w fun e w' => e = .returned (.int .i64 b) ∧ w = w' := clamp_any n a b b w (by omega)
theorem clamp_mid (n a b : Int) (w : World) (h : a ≤ n ∧ n ≤ b) : Calls Try.prog 10 #[.int .i64 n, .int .i64 a, .int .i64 b] w fun e w' => e = .returned (.int .i64 n) ∧ w = w' := clamp_any n a b n w (by omega)

theorem walk (a0 : Option Addr) (len0 cap0 : Nat) (z0 : List Int) (w : World) (w0 : IsRow .u8 w a0 len0 cap0 z0) :
    Calls Try.prog 3 #[.slice a0 len0 cap0] w fun e w' => e = .returned (.bool true) ∧ Below w.heap.size w w' := by
  have hl := row_len w0
  by_cases hbig : (1048576 : Int) < len0
  · go_enter Try.func3, Try.ntmps3
    go_wp2_with (go_at_call 8; refine (big_on _ _ _ _ hl).mono ?_; rintro e w' ⟨rfl, rfl⟩)
    go_ret
    exact ⟨rfl, Below.refl _ _⟩
  · go_enter Try.func3, Try.ntmps3
    go_wp2_with (first
      | (go_at_call 8; refine (big_on _ _ _ _ hl).mono ?_; rintro e w' ⟨rfl, rfl⟩)
      | (go_at_call 9; refine (draw _ _ _ _ _ w0).mono ?_; rintro e w' ⟨n, a, b, rfl, hb⟩; by_cases c1 : b < a <;> by_cases c2 : n < a <;> by_cases c3 : b < n))
    all_goals first | (exfalso; omega) | skip
    all_goals go_wp2_with (go_at_call 10; (first | refine (clamp_low _ _ _ _ (by omega)).mono ?_ | refine (clamp_high _ _ _ _ (by omega)).mono ?_ | refine (clamp_mid _ _ _ _ (by omega)).mono ?_); rintro e w' ⟨rfl, rfl⟩)
    all_goals go_ret
    all_goals exact ⟨rfl, hb⟩

/-! ### THE ROW's STEP: WRITTEN OUT: LEAVE IT -/
set_option maxRecDepth 100000 in
theorem lifted (os : Os) (started : os.Started) (H : Type) (enc : TypeId × Value → H) :
    ReturnsInHanded {} Try.checked os 3 .any (Rows.fnClampedSpec.pre6 enc Try.prog Try.f3 Rows.fnClampedRow.domain false) (Rows.fnClampedSpec.post enc Try.prog Try.f3 false true false false) := by
  refine returnsInHanded_of_change (C := Try.checked) own started (by kernel_rfl) Try.func3
    (ChangeSpec.witness6 (enc := enc) (C := Try.checked) false ⟨#[], #[.slice none 0 0], []⟩ 8 (by kernel_rfl) (by kernel_rfl) (by kernel_rfl) (by kernel_rfl)) ?_
  intro W base args ds gs before hval0 hW hcnd _
  have hval : ∀ (j : Nat) t v, Try.f3.params[j]? = some t → args[j]? = some v → Value.okWide Try.prog W .any base t v := hval0
  have hW' := hW
  obtain ⟨p, q, hA0, hV, rfl, hfz, hnd⟩ := hW
  have hA : DataW.TrodAll enc Try.prog W 0 (fun _ => true) true Try.f3.params.toList args.toList ds p := hA0
  rw [Try.params3] at hA hval
  obtain ⟨v0, vs0, d0, ds0, p0, q0, hargs, rfl, rfl, h0, r0⟩ := trodAll_cons hA
  obtain ⟨rfl, rfl, rfl⟩ := trodAll_nil r0
  obtain rfl : args = #[v0] := by cases args; simp_all
  obtain ⟨rfl, rfl⟩ := trodVars_none hV
  obtain ⟨a0, len0, cap0, rfl⟩ := okWide_slice Try.underlying22 (hval 0 22 v0 rfl rfl)
  have k0 := h0
  have lt0 : ∀ x ∈ p0, x.block < W.heap.size := by obtain ⟨m, hm⟩ := k0; exact DataW.trod_lt m _ _ _ hm
  obtain ⟨z0, w0⟩ : ∃ zs, IsRow .u8 W a0 len0 cap0 zs := by
    obtain ⟨fuel, hf⟩ := h0
    rcases open_ints Try.underlying22 Try.underlying5 (by kernel_rfl) hf with ⟨hcs, _⟩ | ⟨x, l, c, zs, hcs, _, hl, hm, hz, _, hcell, hwz⟩
    · simp [Value.cells] at hcs
      obtain ⟨rfl, rfl, rfl⟩ := hcs
      exact ⟨[], .inl ⟨rfl, rfl, rfl, rfl⟩⟩
    · simp [Value.cells] at hcs
      obtain ⟨rfl, rfl, rfl⟩ := hcs
      exact ⟨zs, .inr ⟨_, rfl, hl, hm, by simpa using hz, hcell, hwz⟩⟩
  clear hA0 hval0
  refine (walk a0 len0 cap0 z0 W w0).mono fun e W' ⟨he, bel⟩ => ?_
  subst he
  exact ⟨_, rfl, _, _, _, [], _, [], hW', trodAll_mk1 (shut_bool Try.underlying4 _), (trodAll_cons_mk (Below.trod laidOut (by kernel_rfl) (of_decide_eq_true (by kernel_rfl)) k0 bel lt0) trodAll_mk0), rfl, bel.frame _, fun h => by cases h⟩

theorem over : Rows.fnClampedRow.holds Try.pinned (OpenSpec.ofChange Rows.fnClampedSpec) :=
  OpenClaim.holds_of_wide 3 Try.f3 rfl rfl rfl rfl rfl rfl rfl ⟨rfl, rfl, rfl, rfl, rfl⟩ rfl rfl rfl rfl rfl (by kernel_rfl) Try.func3 (by kernel_rfl)
    (of_decide_eq_true (by kernel_rfl)) (by unfold Func.isWrapper; first | (rw [if_pos (by decide +kernel)]; kernel_rfl) | (rw [if_neg (by decide +kernel)]; exact ⟨rfl, rfl⟩))
    (fun os started H enc _ => lifted os started H enc)

/-- ████ THE STATEMENT ████ -/
theorem proved : Rows.FnClampedSaid := over
#print axioms proved
end Go.Proofs.Ythemadiofegjmaa.fnClamped
