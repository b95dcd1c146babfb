/-
  Joined transformations do one after the other, and one without scaling can be taken back. No condition.
  The frame of the proof was written by a tool of this repo after the guide's shells; the walk is this text's own.
-/
import Derived.Test.YtohoelpfmbbdaaaRows
import Derived.WalkKit
import Derived.ProofKit
import Derived.OpenShut
import Derived.ShutString
import Derived.ChangeOld
import Derived.ChangeArms
import Derived.Below
import Derived.Handy
import Derived.Lib.SmallJoins
import Derived.Test.YtohoelpfmbbdaaaKit
import Derived.Test.YtohoelpfmbbdaaaDraw
import Derived.Test.YtohoelpfmbbdaaaDrawPt
import Derived.Test.YtohoelpfmbbdaaaDrawTurn
import Derived.Test.YtohoelpfmbbdaaaTurn
import Derived.Test.YtohoelpfmbbdaaaApply
import Derived.Test.YtohoelpfmbbdaaaJoin
import Derived.Test.YtohoelpfmbbdaaaBack
import Derived.Test.YtohoelpfmbbdaaaAll
import Derived.Lib.Hide
import Derived.Deep.RegionHeld3
import Derived.Deep.DeepCutAuto
namespace Go.Proofs.Ytohoelpfmbbdaaa.fnTurns
open Go.ChangeShapes Go.WideShapes Go.ChangeAt Go.RowKit
open Go.ChangeMaps (open_string shut_string)
open Kit
open Draw
open DrawTurn
open Turn
open Apply
open Join
open Back
open All
set_option linter.unusedVariables false
set_option linter.unusedSimpArgs false

theorem own : ownKnob Try.prog.godebug = none := by kernel_rfl
theorem laidOut : laidOutB Try.prog = true := by kernel_rfl

theorem run_neq_pt (w : World) (a b : Int) : (binOp .neq 27 (.agg #[.int .i64 a, .int .i64 b]) (.agg #[.int .i64 a, .int .i64 b])).run Try.prog w = .ok (.bool false) w := by
  simp [go_sem]
theorem run_eql_pt (w : World) (a b : Int) : (binOp .eql 27 (.agg #[.int .i64 a, .int .i64 b]) (.agg #[.int .i64 a, .int .i64 b])).run Try.prog w = .ok (.bool true) w := by
  simp [go_sem]
attribute [local go_sem ↓] run_neq_pt run_eql_pt

theorem apply_at {q s dx dy x y a b : Int} (h : apX q s dx dy x y = a ∧ apY q s dx dy x y = b) (w : World) : Calls Try.prog 13 #[.agg #[.int .i64 q, .int .i64 s, .int .i64 dx, .int .i64 dy], .agg #[.int .i64 x, .int .i64 y]] w fun e w' => e = .returned (.agg #[.int .i64 a, .int .i64 b]) ∧ Below w.heap.size w w' := by
  rw [← h.1, ← h.2]; exact apply_impl _ _ _ _ _ _ w
theorem join_at {q s dx dy q' s' dx' dy' a b c d : Int} {r : Bool} (h : jnV q s dx dy q' s' dx' dy' = .tuple #[.agg #[.int .i64 a, .int .i64 b, .int .i64 c, .int .i64 d], .bool r]) (w : World) : Calls Try.prog 11 #[.agg #[.int .i64 q, .int .i64 s, .int .i64 dx, .int .i64 dy], .agg #[.int .i64 q', .int .i64 s', .int .i64 dx', .int .i64 dy']] w fun e w' => e = .returned (.tuple #[.agg #[.int .i64 a, .int .i64 b, .int .i64 c, .int .i64 d], .bool r]) ∧ Below w.heap.size w w' := by
  rw [← h]; exact join_impl _ _ _ _ _ _ _ _ w
theorem back_at {q s dx dy a b c d : Int} {r : Bool} (h : bkV q s dx dy = .tuple #[.agg #[.int .i64 a, .int .i64 b, .int .i64 c, .int .i64 d], .bool r]) (w : World) : Calls Try.prog 14 #[.agg #[.int .i64 q, .int .i64 s, .int .i64 dx, .int .i64 dy]] w fun e w' => e = .returned (.tuple #[.agg #[.int .i64 a, .int .i64 b, .int .i64 c, .int .i64 d], .bool r]) ∧ Below w.heap.size w w' := by
  rw [← h]; exact back_impl _ _ _ _ w
theorem turn_at {q s dx dy : Int} (h : tokB q s dx dy = true) (w : World) : Calls Try.prog 12 #[.agg #[.int .i64 q, .int .i64 s, .int .i64 dx, .int .i64 dy]] w fun e w' => e = .returned (.bool true) ∧ Below w.heap.size w w' := by
  rw [← h]; exact turn_impl _ _ _ _ w

set_option maxHeartbeats 2000000 in
theorem walk (w : World) (a0 : Option Addr) (l0 p0c : Nat) (z0 : List Int) (wa0 : IsRow .u8 w a0 l0 p0c z0) :
    Calls Try.prog 3 #[.slice a0 l0 p0c] w fun e w' => e = .returned (.bool true) ∧ Below w.heap.size w w' := by
  have hl := row_len wa0
  have HR := Lib.hid wa0
  clear wa0
  by_cases hbig : (1048576 : Int) < l0
  · go_enter Try.func3, Try.ntmps3
    go_wp2_with (go_at_call 9; refine (big_on _ _ _ _ hl).mono ?_; rintro e w' ⟨rfl, rfl⟩)
    go_ret
    exact ⟨rfl, Below.refl _ _⟩
  · have hbig0 : decide ((1048576 : Int) < (l0 : Int)) = false := by simpa using hbig
    go_enter Try.func3, Try.ntmps3
    go_wp2_with fail
    (refine (big_on _ _ _ _ hl).mono ?_; rintro e w' ⟨rfl, rfl⟩)
    go_wp2_with fail
    (refine (turns_any _ _ _ _ _ HR.out).mono ?_; rintro e w1 ⟨q, s, dx, dy, r, t, ex, ey, x, y, h1, h2, hx, hy, rfl, hb1⟩)
    obtain ⟨Q, S, A, B, u, v, u2, v2, k0, k1, k2, k3, u3, v3, hn⟩ := numbers h1 h2 hx hy
    unfold Numbers at hn
    have HN := Lib.hid hn
    clear hn h1 h2 hx hy
    have FA := ((Four.new w1 25 q s dx dy).alloc (.cells #[.int .i64 r, .int .i64 1, .int .i64 ex, .int .i64 ey] 25)).alloc (.cells #[.int .i64 x, .int .i64 y] 27)
    have FB := (Four.newAt (b := w1.heap.size + 1) (w1.alloc (.cells #[.int .i64 q, .int .i64 s, .int .i64 dx, .int .i64 dy] 25)) 25 r 1 ex ey (by simp)).alloc (.cells #[.int .i64 x, .int .i64 y] 27)
    have FC : Two (((w1.alloc (.cells #[.int .i64 q, .int .i64 s, .int .i64 dx, .int .i64 dy] 25)).alloc (.cells #[.int .i64 r, .int .i64 1, .int .i64 ex, .int .i64 ey] 25)).alloc (.cells #[.int .i64 x, .int .i64 y] 27)) (w1.heap.size + 1 + 1) x y := by
      have := Two.new ((w1.alloc (.cells #[.int .i64 q, .int .i64 s, .int .i64 dx, .int .i64 dy] 25)).alloc (.cells #[.int .i64 r, .int .i64 1, .int .i64 ex, .int .i64 ey] 25)) 27 x y
      simpa using this
    have hb2 := Below_three w1 (.cells #[.int .i64 q, .int .i64 s, .int .i64 dx, .int .i64 dy] 25) (.cells #[.int .i64 r, .int .i64 1, .int .i64 ex, .int .i64 ey] 25) (.cells #[.int .i64 x, .int .i64 y] 27)
    have HB2 := Lib.hid (on_of hb1 hb2)
    have HF := Lib.hid (And.intro FA (And.intro FB FC))
    clear FA FB FC hb1 hb2
    go_wp2_with fail
    ((with_reducible refine (join_at HN.out.1 _).mono ?_); rintro e w2 ⟨rfl, hb2⟩)
    have G0 := HF.out.1.keep hb2 HF.out.1.lt
    have G1 := HF.out.2.1.keep hb2 HF.out.2.1.lt
    have G2 := Two.keep HF.out.2.2 hb2 HF.out.2.2.lt
    have hB2 := on_of HB2.out hb2
    have l2 := G2.lt
    clear hb2
    go_upto_region 6 with fail
    go_wp2_with fail
    refine gen_world (fun W => Four W w1.heap.size q s dx dy ∧ Four W (w1.heap.size + 1) r 1 ex ey ∧ Two W (w1.heap.size + 1 + 1) x y ∧ Four W w2.heap.size Q S A B ∧ Below w.heap.size w W) ⟨G0.alloc _, G1.alloc _, G2.alloc _, Four.new w2 25 Q S A B, hB2.alloc hB2.size _⟩ ?_
    clear HF HB2 G0 G1 G2 hB2
    rintro W ⟨G0, G1, G2, G3, hW⟩
    generalize w1.heap.size + 1 + 1 = g2 at *
    generalize w1.heap.size + 1 = g1 at *
    generalize w1.heap.size = g0 at *
    generalize w2.heap.size = g3 at *
    have b0 := G0.lt
    have b1 := G1.lt
    have b2 := G2.lt
    have b3 := G3.lt
    have HG := Lib.hid (And.intro G0 (And.intro G1 (And.intro G2 G3)))
    obtain ⟨x0, x1, x2, x3, x4⟩ := Four.lay G0
    obtain ⟨y0, y1, y2, y3, y4⟩ := Four.lay G1
    obtain ⟨z0, z1, z2⟩ := G2
    obtain ⟨v0, v1, v2, v3, v4⟩ := Four.lay G3
    clear G0 G1 G3 l2
    go_cut [42] (fun s42 wx => s42 = .bool false ∧ Below W.heap.size W wx)
    case first =>
      go_region_held3 (fun w' => (∀ b o, b < W.heap.size → w'.cell? ⟨b, o, none⟩ = W.cell? ⟨b, o, none⟩) ∧ Below W.heap.size W w') ((refine keepS ?_; go_grown; done)) (first | (go_at_call 12; (with_reducible refine (turn_at HN.out.2.1 _).mono ?_); rintro e w' ⟨rfl, hb⟩; have hB := on_of (W := W) (by go_grown) hb; obtain ⟨hc, hf, hz⟩ := bcell3 hB; have hs := hB.size; clear hb) | (go_at_call 13; (first | (with_reducible refine (apply_at HN.out.2.2.1 _).mono ?_) | (with_reducible refine (apply_at HN.out.2.2.2.1 _).mono ?_) | (with_reducible refine (apply_at HN.out.2.2.2.2.1 _).mono ?_)); rintro e w' ⟨rfl, hb⟩; have hB := on_of (W := W) (by go_grown) hb; obtain ⟨hc, hf, hz⟩ := bcell3 hB; have hs := hB.size; clear hb))
      all_goals (go_wp2_with fail; go_meet; exact ⟨rfl, by go_grown⟩)
    case rest =>
      obtain ⟨rfl, hbel⟩ := hcut
      have K1 := HG.out.2.1.keep hbel b1
      have K2 := Two.keep HG.out.2.2.1 hbel b2
      have hB := on_of hW hbel
      obtain ⟨y0, y1, y2, y3, y4⟩ := Four.lay K1
      have c1 := K1.lt
      go_wp2_with fail
      ((with_reducible refine (back_at HN.out.2.2.2.2.2.1 _).mono ?_); rintro e w5 ⟨rfl, hb5⟩)
      have L1 := K1.keep hb5 K1.lt
      have L2 := Two.keep K2 hb5 K2.lt
      have hB5 := on_of hB hb5
      clear hb5 x0 x1 x2 x3 x4 y0 y1 y2 y3 y4 z0 z1 z2 v0 v1 v2 v3 v4 HG K1 K2 hbel
      go_upto_region 9 with fail
      go_wp2_with fail
      refine gen_world (fun W => Four W g1 r 1 ex ey ∧ Two W g2 x y ∧ Four W w5.heap.size k0 k1 k2 k3 ∧ Below w.heap.size w W) ⟨L1.alloc _, L2.alloc _, Four.new w5 25 k0 k1 k2 k3, hB5.alloc hB5.size _⟩ ?_
      clear L1 L2 hB5 hB b0 b1 b2 b3 c1 hW
      rintro V ⟨G1, G2, G3, hV⟩
      generalize w5.heap.size = g4 at *
      have b1 := G1.lt
      have b2 := G2.lt
      have b3 := G3.lt
      obtain ⟨y0, y1, y2, y3, y4⟩ := Four.lay G1
      obtain ⟨z0, z1, z2⟩ := G2
      obtain ⟨v0, v1, v2, v3, v4⟩ := Four.lay G3
      clear G1 G3
      go_cut [2] (fun s2 wx => s2 = .bool true ∧ Below V.heap.size V wx)
      case first =>
        go_region_held3 (fun w' => (∀ b o, b < V.heap.size → w'.cell? ⟨b, o, none⟩ = V.cell? ⟨b, o, none⟩) ∧ Below V.heap.size V w') ((refine keepS ?_; go_grown; done)) (first | (go_at_call 15; (with_reducible refine (ident_impl _).mono ?_); rintro e w' ⟨rfl, hb⟩; have hB := on_of (W := V) (by go_grown) hb; obtain ⟨hc, hf, hz⟩ := bcell3 hB; have hs := hB.size; clear hb) | (go_at_call 13; (first | (with_reducible refine (apply_at HN.out.2.2.2.2.2.2.1 _).mono ?_) | (with_reducible refine (apply_at HN.out.2.2.2.2.2.2.2.1 _).mono ?_) | (with_reducible refine (apply_at HN.out.2.2.2.2.2.2.2.2 _).mono ?_)); rintro e w' ⟨rfl, hb⟩; have hB := on_of (W := V) (by go_grown) hb; obtain ⟨hc, hf, hz⟩ := bcell3 hB; have hs := hB.size; clear hb))
        all_goals (go_wp2_with fail; go_meet; exact ⟨rfl, by go_grown⟩)
      case rest =>
        obtain ⟨rfl, hbel⟩ := hcut
        go_wp2_with fail
        go_ret
        exact ⟨by simp, on_of hV hbel⟩

/-! ### THE ROW's STEP -/
set_option maxRecDepth 100000 in
theorem lifted (os : Os) (started : os.Started) (H : Type) (enc : TypeId × Value → H) :
    ReturnsInHanded {} Try.checked os 3 .any (Rows.fnTurnsSpec.pre6 enc Try.prog Try.f3 Rows.fnTurnsRow.domain false) (Rows.fnTurnsSpec.post enc Try.prog Try.f3 false true false false) := by
  refine returnsInHanded_of_change (C := Try.checked) own started (by kernel_rfl) Try.func3
    (ChangeSpec.witness6 (enc := enc) (C := Try.checked) false ⟨#[], #[.slice none 0 0], []⟩ 8 (by kernel_rfl) (by kernel_rfl) (by kernel_rfl) (by kernel_rfl)) ?_
  intro W base args ds gs before hval0 hW hcnd _
  have hval : ∀ (j : Nat) t v, Try.f3.params[j]? = some t → args[j]? = some v → Value.okWide Try.prog W .any base t v := hval0
  have hW' := hW
  obtain ⟨p, q, hA0, hV, rfl, hfz, hnd⟩ := hW
  have hA : DataW.TrodAll enc Try.prog W 0 (fun _ => true) true Try.f3.params.toList args.toList ds p := hA0
  rw [Try.params3] at hA hval
  obtain ⟨v0, vs0, d0, ds0, p0, q0, hargs, rfl, rfl, h0, r0⟩ := trodAll_cons hA
  obtain ⟨rfl, rfl, rfl⟩ := trodAll_nil r0
  obtain rfl : args = #[v0] := by cases args; simp_all
  obtain ⟨rfl, rfl⟩ := trodVars_none hV
  have k0 := h0
  have lt0 : ∀ x ∈ p0, x.block < W.heap.size := by obtain ⟨m, hm⟩ := k0; exact DataW.trod_lt m _ _ _ hm
  obtain ⟨a0, l0, p0c, rfl⟩ := okWide_slice Try.underlying22 (hval 0 22 v0 rfl rfl)
  obtain ⟨z0, wa0⟩ : ∃ zs, IsRow .u8 W a0 l0 p0c zs := by
    obtain ⟨fuel, hf⟩ := h0
    rcases open_ints Try.underlying22 Try.underlying5 (by kernel_rfl) hf with ⟨hcs, _⟩ | ⟨x, l, c, zs, hcs, _, hl, hm, hz, _, hcell, hwz⟩
    · simp [Value.cells] at hcs
      obtain ⟨rfl, rfl, rfl⟩ := hcs
      exact ⟨[], .inl ⟨rfl, rfl, rfl, rfl⟩⟩
    · simp [Value.cells] at hcs
      obtain ⟨rfl, rfl, rfl⟩ := hcs
      exact ⟨zs, .inr ⟨_, rfl, hl, hm, by simpa using hz, hcell, hwz⟩⟩
  clear hA0 hval0
  refine (walk W a0 l0 p0c z0 wa0).mono fun e W' ⟨he, bel⟩ => ?_
  subst he
  exact ⟨_, rfl, _, _, _, [], _, [], hW', trodAll_mk1 (shut_bool Try.underlying4 _), (trodAll_cons_mk (Below.trod laidOut (by kernel_rfl) (of_decide_eq_true (by kernel_rfl)) k0 bel lt0) trodAll_mk0), rfl, bel.frame _, fun h => by cases h⟩

theorem over : Rows.fnTurnsRow.holds Try.pinned (OpenSpec.ofChange Rows.fnTurnsSpec) :=
  OpenClaim.holds_of_wide 3 Try.f3 rfl rfl rfl rfl rfl rfl rfl ⟨rfl, rfl, rfl, rfl, rfl⟩ rfl rfl rfl rfl rfl (by kernel_rfl) Try.func3 (by kernel_rfl)
    (of_decide_eq_true (by kernel_rfl)) (by unfold Func.isWrapper; first | (rw [if_pos (by decide +kernel)]; kernel_rfl) | (rw [if_neg (by decide +kernel)]; exact ⟨rfl, rfl⟩))
    (fun os started H enc _ => lifted os started H enc)

/-- ████ THE STATEMENT ████ -/
theorem proved : Rows.FnTurnsSaid := over
#print axioms proved
end Go.Proofs.Ytohoelpfmbbdaaa.fnTurns
