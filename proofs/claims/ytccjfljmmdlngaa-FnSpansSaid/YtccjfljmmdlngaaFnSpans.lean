/-
  The law FnSpans holds of every argument: the spans of a drawn path's row contain exactly the dots inside it, they are valid, their dots are as many, and they are at most half as many as the path's points. No condition (the law itself returns true at more than 1048576 bytes).
  The frame of the proof was written by a tool of this repo after the guide's shells; the walk is this text's own.
-/
import Derived.Test.YtccjfljmmdlngaaRows
import Derived.WalkKit
import Derived.ProofKit
import Derived.OpenShut
import Derived.ShutString
import Derived.ChangeOld
import Derived.ChangeArms
import Derived.Below
import Derived.Handy
import Derived.Lib.SmallJoins
import Derived.Test.YtccjfljmmdlngaaRl9
import Derived.Test.YtccjfljmmdlngaaDraw
import Derived.Test.YtccjfljmmdlngaaPlAll
import Derived.Test.YtccjfljmmdlngaaDs8
import Derived.Test.YtccjfljmmdlngaaSa9
import Derived.Test.YtccjfljmmdlngaaInI8
import Derived.Lib.Hide
namespace Go.Proofs.Ytccjfljmmdlngaa.fnSpans
open Go.ChangeShapes Go.WideShapes Go.ChangeAt Go.RowKit
open Go.ChangeMaps (open_string shut_string)
open Kit
open Draw
open Ins
set_option linter.unusedVariables false
set_option linter.unusedSimpArgs false

theorem own : ownKnob Try.prog.godebug = none := by kernel_rfl
theorem laidOut : laidOutB Try.prog = true := by kernel_rfl

theorem btoi_any (b : Bool) (w : World) : Calls Try.prog 16 #[.bool b] w fun e w' => e = .returned (.int .i64 (if b = true then 1 else 0)) ∧ w = w' := by
  cases b
  all_goals
    go_enter Try.func16, Try.ntmps16
    go_wp2
    go_ret
    exact ⟨rfl, rfl⟩
set_option maxRecDepth 100000 in
set_option maxHeartbeats 2000000 in
theorem walk (w : World) (a0 : Option Addr) (l0 p0c : Nat) (z0 : List Int) (wa0 : IsRow .u8 w a0 l0 p0c z0) :
    Calls Try.prog 3 #[.slice a0 l0 p0c] w fun e w' => e = .returned (.bool true) ∧ Below w.heap.size w w' := by
  have hl := row_len wa0
  have HR := Lib.hid wa0
  clear wa0
  by_cases hbig : (1048576 : Int) < l0
  · go_enter Try.func3, Try.ntmps3
    go_wp2_with (go_at_call 10; refine (big_on _ _ _ _ hl).mono ?_; rintro e w' ⟨rfl, rfl⟩)
    go_ret
    exact ⟨rfl, Below.refl _ _⟩
  · have hbig0 : decide ((1048576 : Int) < (l0 : Int)) = false := by simpa using hbig
    go_enter Try.func3, Try.ntmps3
    go_wp2_with fail
    (refine (big_on _ _ _ _ hl).mono ?_; rintro e w' ⟨rfl, rfl⟩)
    go_wp2_with fail
    (refine (shape_any _ _ _ _ _ HR.out).mono ?_; rintro e w1 ⟨v, l, rfl, hl3, hl6, hS, ho, hb1⟩)
    obtain ⟨a, c, rfl, hp1⟩ := path_of_owns ho
    have H1 := Lib.hid (And.intro hS (And.intro hp1 hl6))
    have HB1 := Lib.hid hb1
    clear hS ho hp1 hb1
    go_wp2_with fail
    (refine (PlAll.places_all _ _ _ _ _ (IsRow.keep HR.out HB1.out)).mono ?_; rintro e w2 ⟨g, gc, Q, hQ, hc2, rfl, hg1, hg2, hb2⟩)
    have q0 := hc2 0 (by decide)
    have hq0 := hQ 0 (by decide)
    have H2 := Lib.hid (H1.out.2.1.on hb2)
    have HB2 := Lib.hid (on_of HB1.out hb2)
    clear hc2 hQ hb2
    generalize Q 0 = r0 at q0 hq0
    go_wp2_with fail
    have ty : -1 ≤ r0 % 34 - 1 ∧ r0 % 34 - 1 ≤ 32 := by omega
    generalize r0 % 34 - 1 = y at ty ⊢
    (refine (sa_impl w2 a c l y (by omega) H2.out).mono ?_; rintro e w3 ⟨v3, rfl, ho3, hb3⟩)
    obtain ⟨a3, c3, rfl, hp3⟩ := path_of_owns ho3
    have HB3 := Lib.hid (on_of HB2.out hb3)
    have H3 := Lib.hid (And.intro hp3 (H2.out.on hb3))
    clear ho3 hp3 hb3 q0 hq0
    have hsl := spsV_len l y
    have HF := Lib.hid (fun (x : Int) (hx : -8 ≤ x ∧ x < 42) => sps_ins (y := y) H1.out.1 H1.out.2.2 ty hx)
    have HD := Lib.hid (And.intro (sps_dots (y := y) H1.out.1 H1.out.2.2 ty) (sps_okB (y := y) H1.out.2.2))
    have hl8 : l.length ≤ 1048576 := by omega
    have hs8 : (spsV l y).length ≤ 1048576 := by omega
    generalize spsV l y = sp at *
    obtain ⟨n, hN⟩ : ∃ n, l.length = n := ⟨_, rfl⟩
    obtain ⟨m, hM⟩ : ∃ m, sp.length = m := ⟨_, rfl⟩
    have HI := Lib.hid (fun (V : World) (x : Int) (hV : Below w3.heap.size w3 V) => (by have h := inp_impl V a c l x y hl8 (H3.out.2.on hV); rw [hN] at h; exact h : Calls Try.prog 14 #[.slice a n c, .int .i64 x, .int .i64 y] V fun e w' => e = .returned (.bool (inpB l x y)) ∧ Below V.heap.size V w'))
    have HS := Lib.hid (fun (V : World) (x : Int) (hV : Below w3.heap.size w3 V) => (by have h := in_impl9 V a3 c3 sp x hs8 (H3.out.1.on hV); rw [hM] at h; exact h : Calls Try.prog 15 #[.slice a3 m c3, .int .i64 x] V fun e w' => e = .returned (.bool (inS sp x)) ∧ Below V.heap.size V w'))
    have HO := Lib.hid (fun (V : World) (hV : Below w3.heap.size w3 V) => (by have h := sok_impl V a3 c3 sp hs8 (H3.out.1.on hV); rw [hM, HD.out.2] at h; exact h : Calls Try.prog 17 #[.slice a3 m c3] V fun e w' => e = .returned (.bool true) ∧ Below V.heap.size V w'))
    have HDt := Lib.hid (fun (V : World) (hV : Below w3.heap.size w3 V) => (by have h := dots_impl V a3 c3 sp hs8 (H3.out.1.on hV); rw [hM, HD.out.1] at h; exact h : Calls Try.prog 18 #[.slice a3 m c3] V fun e w' => e = .returned (.int .i64 ((cntS sp 50 : Nat) : Int)) ∧ Below V.heap.size V w'))
    rw [hM, hN] at hsl
    rw [hM, hN]
    have hn6 : n ≤ 6 := by omega
    clear hN hM hl8 hs8
    have i1 : 2 * (m : Int) ≤ (n : Int) := by omega
    go_wp2_with fail
    go_loopw [7, 8] (fun v7 v8 wr => ∃ j : Nat, j ≤ 50 ∧ v8 = .int .i64 ((j : Int) - 8) ∧ v7 = .int .i64 ((cntS sp j : Nat) : Int) ∧ Below w3.heap.size w3 wr) (fun _ v8 _ => 50 - (intOf v8 + 8).toNat)
    case atStart => exact ⟨0, by omega, rfl, rfl, Below.refl _ _⟩
    case round =>
      obtain ⟨j, hj, rfl, rfl, hB⟩ := hrel
      have HB := Lib.hid hB
      clear hB
      by_cases hlt : j < 50
      · have hx : -8 ≤ (j : Int) - 8 ∧ (j : Int) - 8 < 42 := by omega
        have hc := cntS_succ sp j
        have hcl := cntS_le sp j
        have hE := HF.out _ hx
        have hxj : ((j + 1 : Nat) : Int) - 8 = (j : Int) - 8 + 1 := by omega
        have hm8 : (50 - ((j : Int) - 8 + 1 + 8).toNat) < 50 - ((j : Int) - 8 + 8).toNat := by omega
        obtain ⟨x, hxe⟩ : ∃ x, (j : Int) - 8 = x := ⟨_, rfl⟩
        rw [hxe] at hx hc hE hxj hm8 ⊢
        have hx2 : x < 42 := hx.2
        have hw : IntKind.i64.wrap (x + 1) = x + 1 := by rw [IntKind.wrap_i64]; omega
        have hI := HI.out
        have hI := fun V => hI V x
        have hS := fun V => HS.out V x
        rw [hE] at hI
        have HXJ := Lib.hid (And.intro hxj hm8)
        clear hE hxj hm8 hxe
        generalize hb : inS sp x = b at hc hI hS
        have HX := Lib.hid (And.intro hI hS)
        have HC := Lib.hid hc
        clear hI hS hc hb
        generalize cntS sp j = k at hcl HC ⊢
        go_wp2_with fail
        (refine (HX.out.1 _ HB.out).mono ?_; rintro e w5 ⟨rfl, c5⟩)
        have HB5 := Lib.hid (on_of HB.out c5)
        clear c5
        go_wp2_with fail
        (refine (HX.out.2 _ HB5.out).mono ?_; rintro e w6 ⟨rfl, c6⟩)
        have HB6 := Lib.hid (on_of HB5.out c6)
        clear c6
        cases b
        · have hw2 : IntKind.i64.wrap ((k : Int) + 0) = (k : Int) := by rw [IntKind.wrap_i64]; omega
          go_wp2_with (go_at_call 16; refine (btoi_any _ _).mono ?_; rintro e w' ⟨rfl, rfl⟩)
          go_roundw
          case rel => exact ⟨j + 1, by omega, by rw [HXJ.out.1], by rw [HC.out]; simp, HB6.out⟩
          case measure => have := HXJ.out.2; simp [intOf]; omega
        · have hw2 : IntKind.i64.wrap ((k : Int) + 1) = (k : Int) + 1 := by rw [IntKind.wrap_i64]; omega
          go_wp2_with (go_at_call 16; refine (btoi_any _ _).mono ?_; rintro e w' ⟨rfl, rfl⟩)
          go_roundw
          case rel => exact ⟨j + 1, by omega, by rw [HXJ.out.1], by rw [HC.out]; simp, HB6.out⟩
          case measure => have := HXJ.out.2; simp [intOf]; omega
      · obtain rfl : j = 50 := by omega
        generalize hk : cntS sp 50 = k at HDt ⊢
        clear hk
        go_wp2_with fail
        (refine (HO.out _ HB.out).mono ?_; rintro e w5 ⟨rfl, c5⟩)
        have HB5 := Lib.hid (on_of HB.out c5)
        clear c5
        go_wp2_with fail
        (refine (HDt.out _ HB5.out).mono ?_; rintro e w6 ⟨rfl, c6⟩)
        have HB6 := Lib.hid (on_of HB5.out c6)
        clear c6
        have hw3 : IntKind.i64.wrap (2 * (m : Int)) = 2 * (m : Int) := by rw [IntKind.wrap_i64]; omega
        go_wp2
        go_ret
        exact ⟨by simp, on_of HB3.out HB6.out⟩

/-! ### THE ROW's STEP -/
set_option maxRecDepth 100000 in
theorem lifted (os : Os) (started : os.Started) (H : Type) (enc : TypeId × Value → H) :
    ReturnsInHanded {} Try.checked os 3 .any (Rows.fnSpansSpec.pre6 enc Try.prog Try.f3 Rows.fnSpansRow.domain false) (Rows.fnSpansSpec.post enc Try.prog Try.f3 false true false false) := by
  refine returnsInHanded_of_change (C := Try.checked) own started (by kernel_rfl) Try.func3
    (ChangeSpec.witness6 (enc := enc) (C := Try.checked) false ⟨#[], #[.slice none 0 0], []⟩ 8 (by kernel_rfl) (by kernel_rfl) (by kernel_rfl) (by kernel_rfl)) ?_
  intro W base args ds gs before hval0 hW hcnd _
  have hval : ∀ (j : Nat) t v, Try.f3.params[j]? = some t → args[j]? = some v → Value.okWide Try.prog W .any base t v := hval0
  have hW' := hW
  obtain ⟨p, q, hA0, hV, rfl, hfz, hnd⟩ := hW
  have hA : DataW.TrodAll enc Try.prog W 0 (fun _ => true) true Try.f3.params.toList args.toList ds p := hA0
  rw [Try.params3] at hA hval
  obtain ⟨v0, vs0, d0, ds0, p0, q0, hargs, rfl, rfl, h0, r0⟩ := trodAll_cons hA
  obtain ⟨rfl, rfl, rfl⟩ := trodAll_nil r0
  obtain rfl : args = #[v0] := by cases args; simp_all
  obtain ⟨rfl, rfl⟩ := trodVars_none hV
  have k0 := h0
  have lt0 : ∀ x ∈ p0, x.block < W.heap.size := by obtain ⟨m, hm⟩ := k0; exact DataW.trod_lt m _ _ _ hm
  obtain ⟨a0, l0, p0c, rfl⟩ := okWide_slice Try.underlying22 (hval 0 22 v0 rfl rfl)
  obtain ⟨z0, wa0⟩ : ∃ zs, IsRow .u8 W a0 l0 p0c zs := by
    obtain ⟨fuel, hf⟩ := h0
    rcases open_ints Try.underlying22 Try.underlying5 (by kernel_rfl) hf with ⟨hcs, _⟩ | ⟨x, l, c, zs, hcs, _, hl, hm, hz, _, hcell, hwz⟩
    · simp [Value.cells] at hcs
      obtain ⟨rfl, rfl, rfl⟩ := hcs
      exact ⟨[], .inl ⟨rfl, rfl, rfl, rfl⟩⟩
    · simp [Value.cells] at hcs
      obtain ⟨rfl, rfl, rfl⟩ := hcs
      exact ⟨zs, .inr ⟨_, rfl, hl, hm, by simpa using hz, hcell, hwz⟩⟩
  clear hA0 hval0
  refine (walk W a0 l0 p0c z0 wa0).mono fun e W' ⟨he, bel⟩ => ?_
  subst he
  exact ⟨_, rfl, _, _, _, [], _, [], hW', trodAll_mk1 (shut_bool Try.underlying4 _), (trodAll_cons_mk (Below.trod laidOut (by kernel_rfl) (of_decide_eq_true (by kernel_rfl)) k0 bel lt0) trodAll_mk0), rfl, bel.frame _, fun h => by cases h⟩

theorem over : Rows.fnSpansRow.holds Try.pinned (OpenSpec.ofChange Rows.fnSpansSpec) :=
  OpenClaim.holds_of_wide 3 Try.f3 rfl rfl rfl rfl rfl rfl rfl ⟨rfl, rfl, rfl, rfl, rfl⟩ rfl rfl rfl rfl rfl (by kernel_rfl) Try.func3 (by kernel_rfl)
    (of_decide_eq_true (by kernel_rfl)) (by unfold Func.isWrapper; first | (rw [if_pos (by decide +kernel)]; kernel_rfl) | (rw [if_neg (by decide +kernel)]; exact ⟨rfl, rfl⟩))
    (fun os started H enc _ => lifted os started H enc)

/-- ████ THE STATEMENT ████ -/
theorem proved : Rows.FnSpansSaid := over
#print axioms proved
end Go.Proofs.Ytccjfljmmdlngaa.fnSpans
