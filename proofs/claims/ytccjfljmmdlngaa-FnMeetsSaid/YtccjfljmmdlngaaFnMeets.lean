/-
  The law FnMeets holds of every argument: drawn spans that are cut contain exactly the dots in the range, they are valid, and their dots are no more. No condition (the law itself returns true at more than 1048576 bytes).
  The frame of the proof was written by a tool of this repo after the guide's shells; the walk is this text's own.
-/
import Derived.Test.YtccjfljmmdlngaaRows
import Derived.WalkKit
import Derived.ProofKit
import Derived.OpenShut
import Derived.ShutString
import Derived.ChangeOld
import Derived.ChangeArms
import Derived.Below
import Derived.Handy
import Derived.Lib.SmallJoins
import Derived.Test.YtccjfljmmdlngaaRl9
import Derived.Test.YtccjfljmmdlngaaDraw
import Derived.Test.YtccjfljmmdlngaaPlAll
import Derived.Test.YtccjfljmmdlngaaDs8
import Derived.Test.YtccjfljmmdlngaaMe9
import Derived.Lib.Hide
namespace Go.Proofs.Ytccjfljmmdlngaa.fnMeets
open Go.ChangeShapes Go.WideShapes Go.ChangeAt Go.RowKit
open Go.ChangeMaps (open_string shut_string)
open Kit
open Draw
open Ins
set_option linter.unusedVariables false
set_option linter.unusedSimpArgs false

theorem own : ownKnob Try.prog.godebug = none := by kernel_rfl
theorem laidOut : laidOutB Try.prog = true := by kernel_rfl

set_option maxRecDepth 100000 in
set_option maxHeartbeats 2000000 in
theorem walk (w : World) (a0 : Option Addr) (l0 p0c : Nat) (z0 : List Int) (wa0 : IsRow .u8 w a0 l0 p0c z0) :
    Calls Try.prog 4 #[.slice a0 l0 p0c] w fun e w' => e = .returned (.bool true) ∧ Below w.heap.size w w' := by
  have hl := row_len wa0
  have HR := Lib.hid wa0
  clear wa0
  by_cases hbig : (1048576 : Int) < l0
  · go_enter Try.func4, Try.ntmps4
    go_wp2_with (go_at_call 10; refine (big_on _ _ _ _ hl).mono ?_; rintro e w' ⟨rfl, rfl⟩)
    go_ret
    exact ⟨rfl, Below.refl _ _⟩
  · have hbig0 : decide ((1048576 : Int) < (l0 : Int)) = false := by simpa using hbig
    go_enter Try.func4, Try.ntmps4
    go_wp2_with fail
    (refine (big_on _ _ _ _ hl).mono ?_; rintro e w' ⟨rfl, rfl⟩)
    go_wp2_with fail
    (refine (drspans_any _ _ _ _ _ HR.out).mono ?_; rintro e w1 ⟨v, l, rfl, hS, ho, hb1⟩)
    obtain ⟨a, c, rfl, hp1⟩ := path_of_owns ho
    have hl4 := hS.few
    have H1 := Lib.hid (And.intro hS hp1)
    have HB1 := Lib.hid hb1
    clear hS ho hp1 hb1
    go_wp2_with fail
    (refine (PlAll.places_all _ _ _ _ _ (IsRow.keep HR.out HB1.out)).mono ?_; rintro e w2 ⟨g, gc, Q, hQ, hc2, rfl, hg1, hg2, hb2⟩)
    have q0 := hc2 0 (by decide)
    have q1 := hc2 1 (by decide)
    have hq0 := hQ 0 (by decide)
    have hq1 := hQ 1 (by decide)
    have H2 := Lib.hid (H1.out.2.on hb2)
    have HB2 := Lib.hid (on_of HB1.out hb2)
    clear hc2 hQ hb2
    generalize Q 0 = r0 at q0 hq0
    generalize Q 1 = r1 at q1 hq1
    go_wp2_with fail
    generalize r0 % 20 = p0
    generalize r1 % 40 = p1
    (refine (meet_impl w2 a c l p0 p1 (by omega) H2.out).mono ?_; rintro e w3 ⟨v3, rfl, ho3, hb3⟩)
    obtain ⟨a3, c3, rfl, hp3⟩ := path_of_owns ho3
    have HB3 := Lib.hid (on_of HB2.out hb3)
    have H3 := Lib.hid (And.intro hp3 (H2.out.on hb3))
    clear ho3 hp3 hb3 q0 q1 hq0 hq1
    have hsl := mtV_len l p0 p1
    have HF := Lib.hid (fun (x : Int) => mt_in H1.out.1 p0 p1 x)
    have HD := Lib.hid (And.intro (mt_spB H1.out.1 p0 p1) (mt_dots H1.out.1 p0 p1))
    have hl8 : l.length ≤ 1048576 := by omega
    have hs8 : (mtV l p0 p1).length ≤ 1048576 := by omega
    generalize mtV l p0 p1 = sp at *
    obtain ⟨n, hN⟩ : ∃ n, l.length = n := ⟨_, rfl⟩
    obtain ⟨m, hM⟩ : ∃ m, sp.length = m := ⟨_, rfl⟩
    have HS := Lib.hid (fun (V : World) (x : Int) (hV : Below w3.heap.size w3 V) => (by have h := in_impl9 V a3 c3 sp x hs8 (H3.out.1.on hV); rw [hM, HF.out] at h; exact h : Calls Try.prog 15 #[.slice a3 m c3, .int .i64 x] V fun e w' => e = .returned (.bool (inS l x && (decide (p0 ≤ x) && decide (x < p1)))) ∧ Below V.heap.size V w'))
    have HI := Lib.hid (fun (V : World) (x : Int) (hV : Below w3.heap.size w3 V) => (by have h := in_impl9 V a c l x hl8 (H3.out.2.on hV); rw [hN] at h; exact h : Calls Try.prog 15 #[.slice a n c, .int .i64 x] V fun e w' => e = .returned (.bool (inS l x)) ∧ Below V.heap.size V w'))
    have HO := Lib.hid (fun (V : World) (hV : Below w3.heap.size w3 V) => (by have h := sok_impl V a3 c3 sp hs8 (H3.out.1.on hV); rw [hM, HD.out.1] at h; exact h : Calls Try.prog 17 #[.slice a3 m c3] V fun e w' => e = .returned (.bool true) ∧ Below V.heap.size V w'))
    have HDm := Lib.hid (fun (V : World) (hV : Below w3.heap.size w3 V) => (by have h := dots_impl V a3 c3 sp hs8 (H3.out.1.on hV); rw [hM] at h; exact h : Calls Try.prog 18 #[.slice a3 m c3] V fun e w' => e = .returned (.int .i64 (dtV sp)) ∧ Below V.heap.size V w'))
    have HDs := Lib.hid (fun (V : World) (hV : Below w3.heap.size w3 V) => (by have h := dots_impl V a c l hl8 (H3.out.2.on hV); rw [hN] at h; exact h : Calls Try.prog 18 #[.slice a n c] V fun e w' => e = .returned (.int .i64 (dtV l)) ∧ Below V.heap.size V w'))
    rw [hM, hN]
    clear hN hM hl8 hs8 hsl
    go_wp2_with fail
    go_loopw [8] (fun v8 wr => ∃ j : Nat, j ≤ 64 ∧ v8 = .int .i64 ((j : Int) - 4) ∧ Below w3.heap.size w3 wr) (fun v8 _ => 64 - (intOf v8 + 4).toNat)
    case atStart => exact ⟨0, by omega, rfl, Below.refl _ _⟩
    case round =>
      obtain ⟨j, hj, rfl, hB⟩ := hrel
      have HB := Lib.hid hB
      clear hB
      by_cases hlt : j < 64
      · have hxj : ((j + 1 : Nat) : Int) - 4 = (j : Int) - 4 + 1 := by omega
        have hm8 : (64 - ((j : Int) - 4 + 1 + 4).toNat) < 64 - ((j : Int) - 4 + 4).toNat := by omega
        have hxl : -4 ≤ (j : Int) - 4 ∧ (j : Int) - 4 < 60 := by omega
        obtain ⟨x, hxe⟩ : ∃ x, (j : Int) - 4 = x := ⟨_, rfl⟩
        rw [hxe] at hxj hm8 hxl ⊢
        have hx2 : x < 60 := hxl.2
        have hw : IntKind.i64.wrap (x + 1) = x + 1 := by rw [IntKind.wrap_i64]; omega
        have hI := fun V => HI.out V x
        have hS := fun V => HS.out V x
        have HXJ := Lib.hid (And.intro hxj hm8)
        clear hxj hm8 hxe hxl
        generalize inS l x = b at hI hS
        have HX := Lib.hid (And.intro hS hI)
        clear hI hS
        go_wp2_with fail
        (refine (HX.out.1 _ HB.out).mono ?_; rintro e w5 ⟨rfl, c5⟩)
        have HB5 := Lib.hid (on_of HB.out c5)
        clear c5
        go_wp2_with fail
        (refine (HX.out.2 _ HB5.out).mono ?_; rintro e w6 ⟨rfl, c6⟩)
        have HB6 := Lib.hid (on_of HB5.out c6)
        clear c6
        cases b
        · go_wp2
          go_roundw
          case rel => exact ⟨j + 1, by omega, by rw [HXJ.out.1], HB6.out⟩
          case measure => have := HXJ.out.2; simp [intOf]; omega
        · by_cases h1 : p0 ≤ x
          · by_cases h2 : x < p1
            · rw [decide_eq_true h1, decide_eq_true h2]
              go_wp2
              go_roundw
              case rel => exact ⟨j + 1, by omega, by rw [HXJ.out.1], HB6.out⟩
              case measure => have := HXJ.out.2; simp [intOf]; omega
            · rw [decide_eq_true h1, decide_eq_false h2]
              go_wp2
              go_roundw
              case rel => exact ⟨j + 1, by omega, by rw [HXJ.out.1], HB6.out⟩
              case measure => have := HXJ.out.2; simp [intOf]; omega
          · rw [decide_eq_false h1]
            go_wp2
            go_roundw
            case rel => exact ⟨j + 1, by omega, by rw [HXJ.out.1], HB6.out⟩
            case measure => have := HXJ.out.2; simp [intOf]; omega
      · obtain rfl : j = 64 := by omega
        have hle := HD.out.2
        generalize dtV sp = d0 at HDm hle ⊢
        generalize dtV l = d1 at HDs hle ⊢
        have HLe := Lib.hid hle
        go_wp2_with fail
        (refine (HO.out _ HB.out).mono ?_; rintro e w5 ⟨rfl, c5⟩)
        have HB5 := Lib.hid (on_of HB.out c5)
        clear c5
        go_wp2_with fail
        (refine (HDm.out _ HB5.out).mono ?_; rintro e w6 ⟨rfl, c6⟩)
        have HB6 := Lib.hid (on_of HB5.out c6)
        clear c6
        go_wp2_with fail
        (refine (HDs.out _ HB6.out).mono ?_; rintro e w7 ⟨rfl, c7⟩)
        have HB7 := Lib.hid (on_of HB6.out c7)
        clear c7
        go_wp2
        go_ret
        exact ⟨by have := HLe.out; simp [this], on_of HB3.out HB7.out⟩

/-! ### THE ROW's STEP -/
set_option maxRecDepth 100000 in
theorem lifted (os : Os) (started : os.Started) (H : Type) (enc : TypeId × Value → H) :
    ReturnsInHanded {} Try.checked os 4 .any (Rows.fnMeetsSpec.pre6 enc Try.prog Try.f4 Rows.fnMeetsRow.domain false) (Rows.fnMeetsSpec.post enc Try.prog Try.f4 false true false false) := by
  refine returnsInHanded_of_change (C := Try.checked) own started (by kernel_rfl) Try.func4
    (ChangeSpec.witness6 (enc := enc) (C := Try.checked) false ⟨#[], #[.slice none 0 0], []⟩ 8 (by kernel_rfl) (by kernel_rfl) (by kernel_rfl) (by kernel_rfl)) ?_
  intro W base args ds gs before hval0 hW hcnd _
  have hval : ∀ (j : Nat) t v, Try.f4.params[j]? = some t → args[j]? = some v → Value.okWide Try.prog W .any base t v := hval0
  have hW' := hW
  obtain ⟨p, q, hA0, hV, rfl, hfz, hnd⟩ := hW
  have hA : DataW.TrodAll enc Try.prog W 0 (fun _ => true) true Try.f4.params.toList args.toList ds p := hA0
  rw [Try.params4] at hA hval
  obtain ⟨v0, vs0, d0, ds0, p0, q0, hargs, rfl, rfl, h0, r0⟩ := trodAll_cons hA
  obtain ⟨rfl, rfl, rfl⟩ := trodAll_nil r0
  obtain rfl : args = #[v0] := by cases args; simp_all
  obtain ⟨rfl, rfl⟩ := trodVars_none hV
  have k0 := h0
  have lt0 : ∀ x ∈ p0, x.block < W.heap.size := by obtain ⟨m, hm⟩ := k0; exact DataW.trod_lt m _ _ _ hm
  obtain ⟨a0, l0, p0c, rfl⟩ := okWide_slice Try.underlying22 (hval 0 22 v0 rfl rfl)
  obtain ⟨z0, wa0⟩ : ∃ zs, IsRow .u8 W a0 l0 p0c zs := by
    obtain ⟨fuel, hf⟩ := h0
    rcases open_ints Try.underlying22 Try.underlying5 (by kernel_rfl) hf with ⟨hcs, _⟩ | ⟨x, l, c, zs, hcs, _, hl, hm, hz, _, hcell, hwz⟩
    · simp [Value.cells] at hcs
      obtain ⟨rfl, rfl, rfl⟩ := hcs
      exact ⟨[], .inl ⟨rfl, rfl, rfl, rfl⟩⟩
    · simp [Value.cells] at hcs
      obtain ⟨rfl, rfl, rfl⟩ := hcs
      exact ⟨zs, .inr ⟨_, rfl, hl, hm, by simpa using hz, hcell, hwz⟩⟩
  clear hA0 hval0
  refine (walk W a0 l0 p0c z0 wa0).mono fun e W' ⟨he, bel⟩ => ?_
  subst he
  exact ⟨_, rfl, _, _, _, [], _, [], hW', trodAll_mk1 (shut_bool Try.underlying4 _), (trodAll_cons_mk (Below.trod laidOut (by kernel_rfl) (of_decide_eq_true (by kernel_rfl)) k0 bel lt0) trodAll_mk0), rfl, bel.frame _, fun h => by cases h⟩

theorem over : Rows.fnMeetsRow.holds Try.pinned (OpenSpec.ofChange Rows.fnMeetsSpec) :=
  OpenClaim.holds_of_wide 4 Try.f4 rfl rfl rfl rfl rfl rfl rfl ⟨rfl, rfl, rfl, rfl, rfl⟩ rfl rfl rfl rfl rfl (by kernel_rfl) Try.func4 (by kernel_rfl)
    (of_decide_eq_true (by kernel_rfl)) (by unfold Func.isWrapper; first | (rw [if_pos (by decide +kernel)]; kernel_rfl) | (rw [if_neg (by decide +kernel)]; exact ⟨rfl, rfl⟩))
    (fun os started H enc _ => lifted os started H enc)

/-- ████ THE STATEMENT ████ -/
theorem proved : Rows.FnMeetsSaid := over
#print axioms proved
end Go.Proofs.Ytccjfljmmdlngaa.fnMeets
