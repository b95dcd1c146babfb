/-
  For every slice of bytes FnBoxes returns true (the common part of two boxes contains exactly the dots that are in both) and the bytes read as before; no condition.
  The frame of the proof was written by a tool of this repo after the guide's shells; the walk is this text's own.
-/
import Derived.Test.YtgognnecmhfhpaaRows
import Derived.WalkKit
import Derived.ProofKit
import Derived.OpenShut
import Derived.ShutString
import Derived.ChangeOld
import Derived.ChangeArms
import Derived.Below
import Derived.Handy
import Derived.Lib.SmallJoins
import Derived.Test.YtgognnecmhfhpaaDraw
import Derived.Test.YtgognnecmhfhpaaPoint
import Derived.Test.YtgognnecmhfhpaaBox
import Derived.Test.YtgognnecmhfhpaaPts
import Derived.Test.YtgognnecmhfhpaaDot
import Derived.Test.YtgognnecmhfhpaaDrawBox
import Derived.Test.YtgognnecmhfhpaaCount
import Derived.Lib.Hide
import Derived.Outline
import Derived.LoopTactic
namespace Go.Proofs.Ytgognnecmhfhpaa.fnBoxes
open Go.ChangeShapes Go.WideShapes Go.ChangeAt Go.RowKit
open Go.ChangeMaps (open_string shut_string)
open Draw
open Point
open Box
open Pts
open Dot
open Count
set_option linter.unusedVariables false
set_option linter.unusedSimpArgs false

theorem own : ownKnob Try.prog.godebug = none := by kernel_rfl
theorem laidOut : laidOutB Try.prog = true := by kernel_rfl

attribute [local go_sem ↓] run_eql_box
theorem gen_world {P : Program} {c : Code} {Q : Exit → Act → World → Prop} {a : Act} {w : World} (F : World → Prop) (hF : F w) (h : ∀ W, F W → c.wp P Q a W) : c.wp P Q a w := h w hF
theorem Four.new (w : World) (T : TypeId) (x0 y0 x1 y1 : Int) : Four (w.alloc (.cells #[.int .i64 x0, .int .i64 y0, .int .i64 x1, .int .i64 y1] T)) w.heap.size x0 y0 x1 y1 :=
  ⟨by simp [go_sem], by simp [go_sem], by simp [go_sem], by simp [go_sem], fun o => by simp [go_sem]⟩

theorem corner_at (g c : Nat) (x0 y0 x1 y1 : Int) {w : World} (h : BoxIn x0 y0 x1 y1) (hp : PtsAt w g 2 (fun i => if i = 0 then x1 else x0) (fun i => if i = 0 then y0 else y1)) :
    Calls Try.prog 16 #[.slice (some ⟨g, 0, none⟩) 2 c] w fun e w' => e = .returned (.agg #[.int .i64 x0, .int .i64 y0, .int .i64 x1, .int .i64 y1]) ∧ Below w.heap.size w w' := by
  rw [← corners h]
  exact boxof_impl g 2 c _ _ w (by decide) (World.block_lt_of_cell? w _ (hp 0 (by decide)).1) hp
theorem dots_n (x0 y0 x1 y1 n : Int) (w : World) (h : dots x0 y0 x1 y1 = n) : Calls Try.prog 17 #[.agg #[.int .i64 x0, .int .i64 y0, .int .i64 x1, .int .i64 y1]] w fun e w' => e = .returned (.int .i64 n) ∧ Below w.heap.size w w' := by
  rw [← h]; exact dots_impl x0 y0 x1 y1 w
theorem btoi_yes (w : World) : Calls Try.prog 15 #[.bool true] w fun e w' => e = .returned (.int .i64 1) ∧ w = w' := by
  go_enter Try.func15, Try.ntmps15
  go_wp2
  go_ret
  exact ⟨rfl, rfl⟩
theorem btoi_no (w : World) : Calls Try.prog 15 #[.bool false] w fun e w' => e = .returned (.int .i64 0) ∧ w = w' := by
  go_enter Try.func15, Try.ntmps15
  go_wp2
  go_ret
  exact ⟨rfl, rfl⟩

set_option maxHeartbeats 2000000 in
theorem walk (w : World) (a0 : Option Addr) (l0 p0c : Nat) (z0 : List Int) (wa0 : IsRow .u8 w a0 l0 p0c z0) :
    Calls Try.prog 3 #[.slice a0 l0 p0c] w fun e w' => e = .returned (.bool true) ∧ Below w.heap.size w w' := by
  have hl := row_len wa0
  have HR := Lib.hid wa0
  clear wa0
  by_cases hbig : (1048576 : Int) < l0
  · go_enter Try.func3, Try.ntmps3
    go_wp2_with (go_at_call 10; refine (big_on _ _ _ _ hl).mono ?_; rintro e w' ⟨rfl, rfl⟩)
    go_ret
    exact ⟨rfl, Below.refl _ _⟩
  · have hbig0 : decide ((1048576 : Int) < (l0 : Int)) = false := by simpa using hbig
    go_enter Try.func3, Try.ntmps3
    go_wp2_with fail
    (refine (big_on _ _ _ _ hl).mono ?_; rintro e w' ⟨rfl, rfl⟩)
    go_wp2_with fail
    (refine (boxes_any _ _ _ _ _ HR.out).mono ?_; rintro e w1 ⟨x0, y0, x1, y1, u0, v0, u1, v1, hx, hu, rfl, hb1⟩)
    have hs1 := hb1.size
    have hx' := Lib.hid hx
    have hu' := Lib.hid hu
    clear hx hu
    go_wp2_with fail
    (refine (places_any _ _ _ _ _ (IsRow.keep HR.out (by go_grown))).mono ?_; rintro e w2 ⟨g, gc, q, hq0, hq1, hqc, rfl, hg, hb2⟩)
    have hB2 := on_of (W := w) (by go_grown) hb2
    have FA : Four w2 w1.heap.size x0 y0 x1 y1 := Four.keep (Four.keep (Four.new w1 25 x0 y0 x1 y1) ((Below.refl _ _).alloc (Nat.le_refl _) (.cells #[.int .i64 u0, .int .i64 v0, .int .i64 u1, .int .i64 v1] 25)) (by simp)) hb2 (by simp; omega)
    have FB : Four w2 (w1.heap.size + 1) u0 v0 u1 v1 := Four.keep (by have := Four.new (w1.alloc (.cells #[.int .i64 x0, .int .i64 y0, .int .i64 x1, .int .i64 y1] 25)) 25 u0 v0 u1 v1; simpa using this) hb2 (by simp)
    obtain ⟨a00, a01, a02, a03, af0⟩ := FA
    obtain ⟨b00, b01, b02, b03, bf0⟩ := FB
    go_wp2_with fail
    (refine (meet_impl' _ _ _ _ _ _ _ _ _).mono ?_; rintro e w3 ⟨a, b, c, d, hm, rfl, hb3⟩)
    have hin := inside_of hx'.out hu'.out hm
    clear hm
    have FA : Four w3 w1.heap.size x0 y0 x1 y1 := Four.keep ⟨a00, a01, a02, a03, af0⟩ hb3 (World.block_lt_of_cell? w2 _ a00)
    have FB : Four w3 (w1.heap.size + 1) u0 v0 u1 v1 := Four.keep ⟨b00, b01, b02, b03, bf0⟩ hb3 (World.block_lt_of_cell? w2 _ b00)
    have hq3 : w3.cell? ⟨g, 0, none⟩ = some (.int .i64 q) := (hb3.cell (p := ⟨g, 0, none⟩) (World.block_lt_of_cell? w2 _ hqc)).trans hqc
    have hB3 := on_of hB2 hb3
    clear a00 a01 a02 a03 af0 b00 b01 b02 b03 bf0 hqc
    go_wp2_with fail
    have hs3 := hB3.size
    refine gen_world (fun W => Four W w1.heap.size x0 y0 x1 y1 ∧ Four W (w1.heap.size + 1) u0 v0 u1 v1 ∧ Four W w3.heap.size a b c d ∧ W.cell? ⟨g, 0, none⟩ = some (.int .i64 q) ∧ Below w.heap.size w W) ⟨FA.keep ((Below.refl _ _).alloc (Nat.le_refl _) _) FA.lt, FB.keep ((Below.refl _ _).alloc (Nat.le_refl _) _) FB.lt, Four.new _ _ _ _ _ _, (((Below.refl w3.heap.size w3).alloc (Nat.le_refl _) _).cell (p := ⟨g, 0, none⟩) (World.block_lt_of_cell? w3 _ hq3)).trans hq3, by go_grown⟩ ?_
    clear FA FB hq3
    rintro W ⟨FA, FB, FM, hqW, hW⟩
    have GA := Lib.hid FA
    have GB := Lib.hid FB
    have GM := Lib.hid FM
    have GI := Lib.hid hin
    have GQ := Lib.hid hqW
    clear FA FB FM hin hqW
    go_loopw [7, 8] (fun v7 v8 wr => ∃ (ky : Nat) (N : Int), ky ≤ 44 ∧ v8 = .int .i64 ((ky : Int) - 6) ∧ v7 = .int .i64 N ∧ 0 ≤ N ∧ N ≤ 44 * ky ∧ N = tot a b c d ((ky : Int) - 6) (-6) ∧ Below W.heap.size W wr) (fun _ v8 _ => (38 - intOf v8).toNat)
    case atStart => exact ⟨0, 0, by omega, by simp, rfl, by omega, by omega, (tot_start (by have := GI.out.a0; omega) (by have := GI.out.b0; omega)).symm, Below.refl _ _⟩
    case round =>
      obtain ⟨ky, N, hky, rfl, rfl, hN0, hN1, hN, hbel⟩ := hrel
      have HN := Lib.hid hN
      clear hN
      by_cases hlt : ky < 44
      · have hy1 : (ky : Int) - 6 < 38 := by omega
        go_wp2_with fail
        go_loopw [7, 9] (fun v7 v9 wr => ∃ (kx : Nat) (N : Int), kx ≤ 44 ∧ v9 = .int .i64 ((kx : Int) - 6) ∧ v7 = .int .i64 N ∧ 0 ≤ N ∧ N ≤ 44 * ky + kx ∧ N = tot a b c d ((ky : Int) - 6) ((kx : Int) - 6) ∧ Below W.heap.size W wr) (fun _ v9 _ => (38 - intOf v9).toNat)
        case atStart => exact ⟨0, N, by omega, by simp, rfl, hN0, by omega, by rw [HN.out]; rfl, hbel⟩
        case round =>
          clear HN hN0 hN1
          obtain ⟨kx, M, hkx, rfl, rfl, hM0, hM1, hM, hbel⟩ := hrel
          have HM := Lib.hid hM
          clear hM
          by_cases hltx : kx < 44
          · have hx1 : (kx : Int) - 6 < 38 := by omega
            have hx0 : -6 ≤ (kx : Int) - 6 := by omega
            have hy0 : -6 ≤ (ky : Int) - 6 := by omega
            have HX : Hid (-9223372036854775808 ≤ (kx : Int) - 6 ∧ (kx : Int) - 6 ≤ 9223372036854775807) := Lib.hid (by omega)
            have HY : Hid (-9223372036854775808 ≤ (ky : Int) - 6 ∧ (ky : Int) - 6 ≤ 9223372036854775807) := Lib.hid (by omega)
            obtain ⟨a00, a01, a02, a03, af0⟩ := Four.keep GA.out hbel GA.out.lt
            obtain ⟨b00, b01, b02, b03, bf0⟩ := Four.keep GB.out hbel GB.out.lt
            have h3 := GI.out.dot ((kx : Int) - 6) ((ky : Int) - 6)
            have h4 := Lib.hid (GI.out.one ((kx : Int) - 6) ((ky : Int) - 6))
            have ht := Lib.hid (tot_step (b := b) (d := d) (y := (ky : Int) - 6) (x := (kx : Int) - 6) GI.out.ac)
            cases h1 : inboxB x0 y0 x1 y1 ((kx : Int) - 6) ((ky : Int) - 6) <;> cases h2 : inboxB u0 v0 u1 v1 ((kx : Int) - 6) ((ky : Int) - 6)
            all_goals
              rw [h1, h2] at h3
              simp only [Bool.and_true, Bool.and_false] at h3
              go_wp2_with (first | (go_at_call 14; (with_reducible refine (inbox_impl _ _ _ _ _ _ _ HX.out HY.out).mono ?_); rintro e w' ⟨rfl, hb⟩; have hB := on_of (W := W) (by assumption) hb; obtain ⟨a00, a01, a02, a03, af0⟩ := Four.keep GA.out hB GA.out.lt; obtain ⟨b00, b01, b02, b03, bf0⟩ := Four.keep GB.out hB GB.out.lt; obtain ⟨m00, m01, m02, m03, mf0⟩ := Four.keep GM.out hB GM.out.lt; clear hb) | (go_at_call 15; (first | (with_reducible refine (btoi_yes _).mono ?_) | (with_reducible refine (btoi_no _).mono ?_)); rintro e w' ⟨rfl, rfl⟩))
              go_roundw
              case rel =>
                first
                | exact ⟨kx + 1, M, by omega, by congr 1; omega, rfl, hM0, by omega, by rw [show ((kx + 1 : Nat) : Int) - 6 = (kx : Int) - 6 + 1 by omega, ht.out, if_neg (by have := h4.out; rw [h3] at this; simpa using this.symm), ← HM.out]; omega, by assumption⟩
                | exact ⟨kx + 1, M + 1, by omega, by congr 1; omega, rfl, by omega, by omega, by rw [show ((kx + 1 : Nat) : Int) - 6 = (kx : Int) - 6 + 1 by omega, ht.out, if_pos (by have := h4.out; rw [h3] at this; simpa using this.symm), ← HM.out], by assumption⟩
              case measure => simp [intOf]; omega
          · obtain rfl : kx = 44 := by omega
            go_wp2_with fail
            go_roundw
            case rel => exact ⟨ky + 1, M, by omega, by congr 1; omega, rfl, hM0, by omega, by rw [show ((ky + 1 : Nat) : Int) - 6 = (ky : Int) - 6 + 1 by omega, tot_row GI.out.ac GI.out.bd (by have := GI.out.a0; omega) (by have := GI.out.c1; omega), HM.out]; rfl, hbel⟩
            case measure => simp [intOf]; omega
      · obtain rfl : ky = 44 := by omega
        have hNe : N = (c - a) * (d - b) := by
          rw [HN.out]; exact tot_end GI.out.bd (by have := GI.out.d1; omega) (by have := GI.out.a0; omega)
        have hdm : dots a b c d = N := by rw [hNe]; exact dots_in ⟨GI.out.a0, GI.out.ac, GI.out.c1, GI.out.b0, GI.out.bd, GI.out.d1⟩
        obtain ⟨D, hdA, hND⟩ : ∃ D, dots x0 y0 x1 y1 = D ∧ N ≤ D := by
          refine ⟨_, rfl, ?_⟩
          have hb := hx'.out
          unfold BoxIn at hb
          rw [dots_in hb, hNe]
          exact dots_ge (by have := GI.out.ac; omega) GI.out.w (by have := GI.out.bd; omega) GI.out.h
        have HDM := Lib.hid hdm
        have HDA := Lib.hid hdA
        clear hdm hdA
        have hbs := hbel.size
        clear hNe HN
        have hr := rem_in hq0 hq1
        obtain ⟨a00, a01, a02, a03, af0⟩ := Four.keep GA.out hbel GA.out.lt
        have hA1 : w1.heap.size < wr.heap.size := World.block_lt_of_cell? wr _ a00
        go_wp2_with fail
        have hpts : PtsAt (wr.alloc (.cells #[.int .i64 x1, .int .i64 y0, .int .i64 x0, .int .i64 y1] 35)) wr.heap.size 2 (fun i => if i = 0 then x1 else x0) (fun i => if i = 0 then y0 else y1) := by
          intro i hi
          have h : i = 0 ∨ i = 1 := by omega
          rcases h with rfl | rfl <;> simp [go_sem]
        (refine (corner_at _ _ _ _ _ _ hx'.out hpts).mono ?_; rintro e w4 ⟨rfl, hb4⟩)
        clear hpts
        have hB4 := on_of (W := W) (by go_grown) hb4
        obtain ⟨a00, a01, a02, a03, af0⟩ := Four.keep GA.out hB4 GA.out.lt
        obtain ⟨m00, m01, m02, m03, mf0⟩ := Four.keep GM.out hB4 GM.out.lt
        have hA4 : w1.heap.size < w4.heap.size := World.block_lt_of_cell? w4 _ a00
        have hM4 : w3.heap.size < w4.heap.size := World.block_lt_of_cell? w4 _ m00
        go_wp2_with fail
        (refine (dots_n _ _ _ _ _ _ HDM.out).mono ?_; rintro e w5 ⟨rfl, hb5⟩)
        have hB5 := on_of (W := W) (by have := hB4.size; go_grown) hb5
        have F11 : Four w5 w4.heap.size x0 y0 x1 y1 := Four.keep (Four.new w4 25 x0 y0 x1 y1) hb5 (by simp)
        obtain ⟨t00, t01, t02, t03, tf0⟩ := F11
        obtain ⟨a00, a01, a02, a03, af0⟩ := Four.keep GA.out hB5 GA.out.lt
        go_wp2_with fail
        (refine (dots_n _ _ _ _ _ _ HDA.out).mono ?_; rintro e w6 ⟨rfl, hb6⟩)
        have hB6 := on_of hB5 hb6
        have hq6 : w6.cell? ⟨g, 0, none⟩ = some (.int .i64 q) := (hB6.cell (p := ⟨g, 0, none⟩) (World.block_lt_of_cell? W _ GQ.out)).trans GQ.out
        go_wp2_with fail
        (refine (pok_impl _ _ _).mono ?_; rintro e w7 ⟨rfl, hb7⟩)
        have hB7 := on_of hB6 hb7
        go_wp2_with fail
        go_ret
        exact ⟨by simp [hr], on_of hW hB7⟩

/-! ### THE ROW's STEP -/
set_option maxRecDepth 100000 in
theorem lifted (os : Os) (started : os.Started) (H : Type) (enc : TypeId × Value → H) :
    ReturnsInHanded {} Try.checked os 3 .any (Rows.fnBoxesSpec.pre6 enc Try.prog Try.f3 Rows.fnBoxesRow.domain false) (Rows.fnBoxesSpec.post enc Try.prog Try.f3 false true false false) := by
  refine returnsInHanded_of_change (C := Try.checked) own started (by kernel_rfl) Try.func3
    (ChangeSpec.witness6 (enc := enc) (C := Try.checked) false ⟨#[], #[.slice none 0 0], []⟩ 8 (by kernel_rfl) (by kernel_rfl) (by kernel_rfl) (by kernel_rfl)) ?_
  intro W base args ds gs before hval0 hW hcnd _
  have hval : ∀ (j : Nat) t v, Try.f3.params[j]? = some t → args[j]? = some v → Value.okWide Try.prog W .any base t v := hval0
  have hW' := hW
  obtain ⟨p, q, hA0, hV, rfl, hfz, hnd⟩ := hW
  have hA : DataW.TrodAll enc Try.prog W 0 (fun _ => true) true Try.f3.params.toList args.toList ds p := hA0
  rw [Try.params3] at hA hval
  obtain ⟨v0, vs0, d0, ds0, p0, q0, hargs, rfl, rfl, h0, r0⟩ := trodAll_cons hA
  obtain ⟨rfl, rfl, rfl⟩ := trodAll_nil r0
  obtain rfl : args = #[v0] := by cases args; simp_all
  obtain ⟨rfl, rfl⟩ := trodVars_none hV
  have k0 := h0
  have lt0 : ∀ x ∈ p0, x.block < W.heap.size := by obtain ⟨m, hm⟩ := k0; exact DataW.trod_lt m _ _ _ hm
  obtain ⟨a0, l0, p0c, rfl⟩ := okWide_slice Try.underlying22 (hval 0 22 v0 rfl rfl)
  obtain ⟨z0, wa0⟩ : ∃ zs, IsRow .u8 W a0 l0 p0c zs := by
    obtain ⟨fuel, hf⟩ := h0
    rcases open_ints Try.underlying22 Try.underlying5 (by kernel_rfl) hf with ⟨hcs, _⟩ | ⟨x, l, c, zs, hcs, _, hl, hm, hz, _, hcell, hwz⟩
    · simp [Value.cells] at hcs
      obtain ⟨rfl, rfl, rfl⟩ := hcs
      exact ⟨[], .inl ⟨rfl, rfl, rfl, rfl⟩⟩
    · simp [Value.cells] at hcs
      obtain ⟨rfl, rfl, rfl⟩ := hcs
      exact ⟨zs, .inr ⟨_, rfl, hl, hm, by simpa using hz, hcell, hwz⟩⟩
  clear hA0 hval0
  refine (walk W a0 l0 p0c z0 wa0).mono fun e W' ⟨he, bel⟩ => ?_
  subst he
  exact ⟨_, rfl, _, _, _, [], _, [], hW', trodAll_mk1 (shut_bool Try.underlying4 _), (trodAll_cons_mk (Below.trod laidOut (by kernel_rfl) (of_decide_eq_true (by kernel_rfl)) k0 bel lt0) trodAll_mk0), rfl, bel.frame _, fun h => by cases h⟩

theorem over : Rows.fnBoxesRow.holds Try.pinned (OpenSpec.ofChange Rows.fnBoxesSpec) :=
  OpenClaim.holds_of_wide 3 Try.f3 rfl rfl rfl rfl rfl rfl rfl ⟨rfl, rfl, rfl, rfl, rfl⟩ rfl rfl rfl rfl rfl (by kernel_rfl) Try.func3 (by kernel_rfl)
    (of_decide_eq_true (by kernel_rfl)) (by unfold Func.isWrapper; first | (rw [if_pos (by decide +kernel)]; kernel_rfl) | (rw [if_neg (by decide +kernel)]; exact ⟨rfl, rfl⟩))
    (fun os started H enc _ => lifted os started H enc)

/-- ████ THE STATEMENT ████ -/
theorem proved : Rows.FnBoxesSaid := over
#print axioms proved
end Go.Proofs.Ytgognnecmhfhpaa.fnBoxes
