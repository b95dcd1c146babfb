/-
  For every slice of points FnExactBoxOf returns true (BoxOf answers as its model at every argument) and the argument reads as before; no condition.
  The frame of the proof was written by a tool of this repo after the guide's shells; the walk is this text's own.
-/
import Derived.Test.YtgognnecmhfhpaaRows
import Derived.WalkKit
import Derived.ProofKit
import Derived.OpenShut
import Derived.ShutString
import Derived.ChangeOld
import Derived.ChangeArms
import Derived.Below
import Derived.Handy
import Derived.Lib.SmallJoins
import Derived.Test.YtgognnecmhfhpaaPoint
import Derived.Test.YtgognnecmhfhpaaBox
import Derived.Test.YtgognnecmhfhpaaPts
import Derived.Test.YtgognnecmhfhpaaPtsSpec
import Derived.Test.YtgognnecmhfhpaaRecs
import Derived.Test.YtgognnecmhfhpaaPtsLaw
import Derived.Lib.Hide
namespace Go.Proofs.Ytgognnecmhfhpaa.fnExactBoxOf
open Go.ChangeShapes Go.WideShapes Go.ChangeAt Go.RowKit
open Go.ChangeMaps (open_string shut_string)
open Point
open Box
open Pts
open PtsSpec
open Recs
open PtsLaw
set_option linter.unusedVariables false
set_option linter.unusedSimpArgs false

theorem own : ownKnob Try.prog.godebug = none := by kernel_rfl
theorem laidOut : laidOutB Try.prog = true := by kernel_rfl

theorem spec_at (g n c : Nat) (X Y : Nat → Int) (x0 y0 x1 y1 : Int) (w : World) (hn : n ≤ 1048576) (hg : g < w.heap.size) (hp : PtsAt w g n X Y) (hv : boxofV X Y n = .agg #[.int .i64 x0, .int .i64 y0, .int .i64 x1, .int .i64 y1]) :
    Calls Try.prog 25 #[.slice (some ⟨g, 0, none⟩) n c] w fun e w' => e = .returned (.agg #[.int .i64 x0, .int .i64 y0, .int .i64 x1, .int .i64 y1]) ∧ Below w.heap.size w w' := by
  rw [← hv]; exact boxof_spec g n c X Y w hn hg hp
theorem impl_at (g n c : Nat) (X Y : Nat → Int) (x0 y0 x1 y1 : Int) (w : World) (hn : n ≤ 1048576) (hg : g < w.heap.size) (hp : PtsAt w g n X Y) (hv : boxofV X Y n = .agg #[.int .i64 x0, .int .i64 y0, .int .i64 x1, .int .i64 y1]) :
    Calls Try.prog 16 #[.slice (some ⟨g, 0, none⟩) n c] w fun e w' => e = .returned (.agg #[.int .i64 x0, .int .i64 y0, .int .i64 x1, .int .i64 y1]) ∧ Below w.heap.size w w' := by
  rw [← hv]; exact boxof_impl g n c X Y w hn hg hp
theorem src_of {w : World} {a : Option Addr} {n c : Nat} {z : Nat → Nat → Value} (h : IsRecs [.int .i64, .int .i64] w a n c z) : Src w a n (fun i => intOf (z i 0)) (fun i => intOf (z i 1)) := by
  rcases h.2.2 with h0 | ⟨g, o, ha, hg, hc⟩
  · exact .inl h0
  · refine .inr ⟨g, o, ha, hg, fun i hi => ?_⟩
    obtain ⟨c0, x, e0, _⟩ := hc i hi 0 (.int .i64) rfl
    obtain ⟨c1, y, e1, _⟩ := hc i hi 1 (.int .i64) rfl
    simp only [List.length_cons, List.length_nil, Nat.zero_add, Nat.reduceAdd, Nat.add_zero] at c0 c1
    exact ⟨by rw [c0]; simp only [e0]; rfl, by rw [show o + i * 2 + 1 = o + (i * 2 + 1) by omega, c1]; simp only [e1]; rfl⟩
theorem PtsAt.keep {w w' : World} {g n : Nat} {X Y : Nat → Int} (h : PtsAt w g n X Y) (hg : g < w.heap.size) (hb : Below w.heap.size w w') : PtsAt w' g n X Y :=
  fun i hi => ⟨(hb.cell (p := ⟨g, _, none⟩) hg).trans (h i hi).1, (hb.cell (p := ⟨g, _, none⟩) hg).trans (h i hi).2⟩

set_option maxHeartbeats 600000 in
theorem walk (w : World) (a0 : Option Addr) (l0 p0c : Nat) (z0 : Nat → Nat → Value) (wa0 : IsRecs [.int .i64, .int .i64] w a0 l0 p0c z0) :
    Calls Try.prog 6 #[.slice a0 l0 p0c] w fun e w' => e = .returned (.bool true) ∧ Below w.heap.size w w' := by
  have hl : l0 ≤ 9223372036854775807 := by have h1 := wa0.1; have h2 := wa0.2.1; unfold maxLen at h2; omega
  have hs := Lib.hid (src_of wa0)
  clear wa0
  by_cases hn : l0 ≤ 1048576
  · obtain ⟨x0, y0, x1, y1, hv⟩ : ∃ x0 y0 x1 y1, boxofV (fun i => intOf (z0 i 0)) (fun i => intOf (z0 i 1)) l0 = .agg #[.int .i64 x0, .int .i64 y0, .int .i64 x1, .int .i64 y1] := ⟨_, _, _, _, rfl⟩
    have HV := Lib.hid hv
    clear hv
    generalize (fun i => intOf (z0 i 0)) = X at *
    generalize (fun i => intOf (z0 i 1)) = Y at *
    have hi : (0 : Int) ≤ 1048576 - (l0 : Int) := by omega
    go_enter Try.func6, Try.ntmps6
    go_wp2_with fail
    (refine (sz_any _ _ _ _ hl).mono ?_; rintro e w' ⟨rfl, rfl⟩; rw [if_pos hn])
    go_wp2_with fail
    (refine (toPts_any _ _ _ X Y _ hn hs.out).mono ?_; rintro e w1 ⟨rfl, hg1, hp1, hb1⟩; have HP1 := Lib.hid hp1; clear hp1)
    go_wp2_with fail
    (refine (spec_at _ _ _ X Y _ _ _ _ _ hn hg1 HP1.out HV.out).mono ?_; rintro e w2 ⟨rfl, hb2⟩; have hB2 := on_of hb1 hb2)
    have hz2 := hB2.size
    go_wp2_with fail
    (refine (toPts_any _ _ _ X Y _ hn (Src.keep hs.out (by go_grown))).mono ?_; rintro e w3 ⟨rfl, hg3, hp3, hb3⟩; simp only [World.size_alloc] at hg3 hp3; have HP3 := Lib.hid hp3; clear hp3)
    have F3 : Four w3 w2.heap.size x0 y0 x1 y1 := Four.keep ⟨by simp [go_sem], by simp [go_sem], by simp [go_sem], by simp [go_sem], fun o => by simp [go_sem]⟩ hb3 (by simp)
    have hB3 := on_of (W := w) (by go_grown) hb3
    go_wp2_with fail
    ((with_reducible refine (impl_at _ _ _ X Y _ _ _ _ _ hn hg3 HP3.out HV.out).mono ?_); rintro e w4 ⟨rfl, hb4⟩; have hB4 := on_of hB3 hb4)
    have F4 : Four w4 w2.heap.size x0 y0 x1 y1 := Four.keep F3 hb4 F3.lt
    have hlt4 : w2.heap.size < w4.heap.size := F4.lt
    obtain ⟨c0, c1, c2, c3, cf⟩ := F4
    have hz4 := hB4.size
    go_wp2_with fail
    ((with_reducible refine (eqBox_same _ _ _ _ _).mono ?_); rintro e w5 ⟨rfl, hb5⟩; have hB5 := on_of (W := w) (by go_grown) hb5)
    go_wp2_with fail
    (refine (toPts_any _ _ _ X Y _ hn (Src.keep hs.out hB5)).mono ?_; rintro e w6 ⟨rfl, hg6, hp6, hb6⟩; have HP6 := Lib.hid hp6; clear hp6; have hB6 := on_of hB5 hb6)
    have hs3 := hb4.size
    have hs5 := hb5.size
    simp only [World.size_alloc] at hs5
    have hs6 := hb6.size
    have hb45 : Below w4.heap.size w4 w5 := ((Below.refl _ _).alloc (Nat.le_refl _) _).trans (hb5.mono (by rw [World.size_alloc]; omega))
    have HP7 := Lib.hid (PtsAt.keep (PtsAt.keep HP3.out hg3 hb4) (by omega) hb45)
    have HP8 := Lib.hid (PtsAt.keep HP7.out (by omega) hb6)
    go_wp2_with fail
    (refine (eqPts_same _ _ _ _ _ X Y _ hn (by omega) hg6 HP8.out HP6.out).mono ?_; rintro e w7 ⟨rfl, hb7⟩; have hB7 := on_of hB6 hb7)
    go_wp2_with fail
    go_ret
    exact ⟨by simp, hB7⟩
  · go_enter Try.func6, Try.ntmps6
    go_wp2_with (go_at_call 24; (with_reducible refine (sz_any _ _ _ _ hl).mono ?_); rintro e w' ⟨rfl, rfl⟩; rw [if_neg hn])
    go_ret
    exact ⟨rfl, by go_grown⟩

/-! ### THE ROW's STEP -/
set_option maxRecDepth 100000 in
theorem lifted (os : Os) (started : os.Started) (H : Type) (enc : TypeId × Value → H) :
    ReturnsInHanded {} Try.checked os 6 .any (Rows.fnExactBoxOfSpec.pre6 enc Try.prog Try.f6 Rows.fnExactBoxOfRow.domain false) (Rows.fnExactBoxOfSpec.post enc Try.prog Try.f6 false true false false) := by
  refine returnsInHanded_of_change (C := Try.checked) own started (by kernel_rfl) Try.func6
    (ChangeSpec.witness6 (enc := enc) (C := Try.checked) false ⟨#[], #[.slice none 0 0], []⟩ 8 (by kernel_rfl) (by kernel_rfl) (by kernel_rfl) (by kernel_rfl)) ?_
  intro W base args ds gs before hval0 hW hcnd _
  have hval : ∀ (j : Nat) t v, Try.f6.params[j]? = some t → args[j]? = some v → Value.okWide Try.prog W .any base t v := hval0
  have hW' := hW
  obtain ⟨p, q, hA0, hV, rfl, hfz, hnd⟩ := hW
  have hA : DataW.TrodAll enc Try.prog W 0 (fun _ => true) true Try.f6.params.toList args.toList ds p := hA0
  rw [Try.params6] at hA hval
  obtain ⟨v0, vs0, d0, ds0, p0, q0, hargs, rfl, rfl, h0, r0⟩ := trodAll_cons hA
  obtain ⟨rfl, rfl, rfl⟩ := trodAll_nil r0
  obtain rfl : args = #[v0] := by cases args; simp_all
  obtain ⟨rfl, rfl⟩ := trodVars_none hV
  have k0 := h0
  have lt0 : ∀ x ∈ p0, x.block < W.heap.size := by obtain ⟨m, hm⟩ := k0; exact DataW.trod_lt m _ _ _ hm
  obtain ⟨a0, l0, p0c, rfl⟩ := okWide_slice Try.underlying46 (hval 0 46 v0 rfl rfl)
  obtain ⟨z0, wa0⟩ : ∃ z, IsRecs [.int .i64, .int .i64] W a0 l0 p0c z :=
    recs_of (kl := [.int .i64, .int .i64]) Try.underlying46 Try.underlying39 (by kernel_rfl) (by kernel_rfl) (by decide) (by kernel_rfl) h0
  clear hA0 hval0
  refine (walk W a0 l0 p0c z0 wa0).mono fun e W' ⟨he, bel⟩ => ?_
  subst he
  exact ⟨_, rfl, _, _, _, [], _, [], hW', trodAll_mk1 (shut_bool Try.underlying4 _), (trodAll_cons_mk (Below.trod laidOut (by kernel_rfl) (of_decide_eq_true (by kernel_rfl)) k0 bel lt0) trodAll_mk0), rfl, bel.frame _, fun h => by cases h⟩

theorem over : Rows.fnExactBoxOfRow.holds Try.pinned (OpenSpec.ofChange Rows.fnExactBoxOfSpec) :=
  OpenClaim.holds_of_wide 6 Try.f6 rfl rfl rfl rfl rfl rfl rfl ⟨rfl, rfl, rfl, rfl, rfl⟩ rfl rfl rfl rfl rfl (by kernel_rfl) Try.func6 (by kernel_rfl)
    (of_decide_eq_true (by kernel_rfl)) (by unfold Func.isWrapper; first | (rw [if_pos (by decide +kernel)]; kernel_rfl) | (rw [if_neg (by decide +kernel)]; exact ⟨rfl, rfl⟩))
    (fun os started H enc _ => lifted os started H enc)

/-- ████ THE STATEMENT ████ -/
theorem proved : Rows.FnExactBoxOfSaid := over
#print axioms proved
end Go.Proofs.Ytgognnecmhfhpaa.fnExactBoxOf
