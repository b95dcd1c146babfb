/-
  For all bytes that come in, the drawn path in the other direction contains the same dots, the shifted one the shifted dots; no condition.
  The frame of the proof was written by a tool of this repo after the guide's shells; the walk is this text's own.
-/
import Derived.Test.YtjmcpijmhfdbiaaRows
import Derived.WalkKit
import Derived.ProofKit
import Derived.OpenShut
import Derived.ShutString
import Derived.ChangeOld
import Derived.ChangeArms
import Derived.Below
import Derived.Handy
import Derived.Lib.SmallJoins
import Derived.Test.YtjmcpijmhfdbiaaRl8
import Derived.Test.YtjmcpijmhfdbiaaInI8
import Derived.Test.YtjmcpijmhfdbiaaArI8
import Derived.Test.YtjmcpijmhfdbiaaShI8
import Derived.Test.YtjmcpijmhfdbiaaPlAll
import Derived.Lib.Hide
import Derived.Deep.RegionHeld3
import Derived.Deep.DeepCutAuto
namespace Go.Proofs.Ytjmcpijmhfdbiaa.fnInside
open Go.ChangeShapes Go.WideShapes Go.ChangeAt Go.RowKit
open Go.ChangeMaps (open_string shut_string)
open Kit
open Draw
open Point
open Slabs
open Ins
set_option linter.unusedVariables false
set_option linter.unusedSimpArgs false

theorem own : ownKnob Try.prog.godebug = none := by kernel_rfl
theorem laidOut : laidOutB Try.prog = true := by kernel_rfl

theorem take_rev (l : List Pt) {j k : Nat} (hj : j < l.length) (hk : k = l.length - 1 - j) : l.reverse.take (j + 1) = l.reverse.take j ++ [(pX l k, pY l k)] := by
  have h1 : j < l.reverse.length := by simpa using hj
  have hk' : k < l.length := by omega
  rw [List.take_add_one, List.getElem?_eq_getElem h1, List.getElem_reverse, ← getp l hk']
  subst hk; rfl
/-- A number from 0 to n - 1, as the walk wants it. -/
theorem tmod_nat (a b : Nat) : ((a : Int)).tmod (b : Int) = ((a % b : Nat) : Int) := by rw [Int.ofNat_tmod]
theorem tmod_bd {x : Int} {n : Int} (h : 0 ≤ x) (hn : 0 < n) : 0 ≤ x.tmod n ∧ x.tmod n < n := ⟨Int.tmod_nonneg _ h, Int.tmod_lt_of_pos _ hn⟩
set_option maxHeartbeats 2000000 in
theorem walk (w : World) (a0 : Option Addr) (l0 p0c : Nat) (z0 : List Int) (wa0 : IsRow .u8 w a0 l0 p0c z0) :
    Calls Try.prog 3 #[.slice a0 l0 p0c] w fun e w' => e = .returned (.bool true) ∧ Below w.heap.size w w' := by
  obtain ⟨i0, hi0, hz0, hz1, hz2⟩ := info_parts info_pt8
  have hl := row_len wa0
  have HR := Lib.hid wa0
  clear wa0
  by_cases hbig : (1048576 : Int) < l0
  · go_enter Try.func3, Try.ntmps3
    go_wp2_with (go_at_call 9; refine (big_on _ _ _ _ hl).mono ?_; rintro e w' ⟨rfl, rfl⟩)
    go_ret
    exact ⟨rfl, Below.refl _ _⟩
  · have hbig0 : decide ((1048576 : Int) < (l0 : Int)) = false := by simpa using hbig
    go_enter Try.func3, Try.ntmps3
    go_wp2_with fail
    (refine (big_on _ _ _ _ hl).mono ?_; rintro e w' ⟨rfl, rfl⟩)
    go_wp2_with fail
    (refine (shape_any _ _ _ _ _ HR.out).mono ?_; rintro e w1 ⟨v, l, rfl, hl3, hl6, hS, ho, hb1⟩)
    obtain ⟨a, c, rfl, hp1⟩ := path_of_owns ho
    have H1 := Lib.hid (And.intro hS hp1)
    have HB1 := Lib.hid hb1
    clear hS ho hp1 hb1
    obtain ⟨n, hN⟩ : ∃ n, l.length = n := ⟨_, rfl⟩
    have HN := Lib.hid hN
    rw [hN] at hl3 hl6 ⊢
    clear hN
    go_wp2_with fail
    (refine (PlAll.places_all _ _ _ _ _ (IsRow.keep HR.out HB1.out)).mono ?_; rintro e w2 ⟨g, gc, Q, hQ, hc2, rfl, hg1, hg2, hb2⟩)
    have q0 := hc2 0 (by decide)
    have q1 := hc2 1 (by decide)
    have hq0 := hQ 0 (by decide)
    have hq1 := hQ 1 (by decide)
    have HQ := Lib.hid hQ
    have H2 := Lib.hid (And.intro hc2 (And.intro hb2 (H1.out.2.on hb2)))
    have HB2 := Lib.hid (on_of HB1.out hb2)
    clear hc2 hQ hb2
    generalize Q 0 = r0 at q0 hq0
    generalize Q 1 = r1 at q1 hq1
    go_wp2_with fail
    have t0 : -4 ≤ r0 % 9 - 4 ∧ r0 % 9 - 4 ≤ 4 := by omega
    have t1 : -4 ≤ r1 % 9 - 4 ∧ r1 % 9 - 4 ≤ 4 := by omega
    generalize r0 % 9 - 4 = dx at t0 ⊢
    generalize r1 % 9 - 4 = dy at t1 ⊢
    rw [← HN.out]
    (refine (shift_impl w2 a c l dx dy (by rw [HN.out]; omega) H2.out.2.2).mono ?_; rintro e w3 ⟨v7, rfl, ho7, hb3⟩)
    rw [HN.out]
    have hsh := shp_shift H1.out.1 (d := (dx, dy)) t0 t1
    rw [hsh] at ho7
    obtain ⟨a7, c7, rfl, hp7⟩ := path_of_owns ho7
    rw [List.length_map, HN.out]
    have H3 := Lib.hid (And.intro hp7 (And.intro hb3 (H2.out.2.2.on hb3)))
    have HB3 := Lib.hid (on_of HB2.out hb3)
    have hg3 : g < w3.heap.size := Nat.lt_of_lt_of_le hg2 hb3.size
    have HC3 := Lib.hid (fun i hi => (hb3.cell (p := ⟨g, i, none⟩) hg2).trans (H2.out.1 i hi))
    clear hsh ho7 hp7 hb3 q0 q1 hq0 hq1
    have ho0 := World.ownsRow_made w3 #[] (e := 30) (size := 2) 0 (Nat.le_refl _) (by decide) (by simp)
    have HO0 := Lib.hid ho0
    clear ho0
    go_wp2_with fail
    go_loopw [8, 9] (fun v8 v9 wr => ∃ j : Nat, j ≤ n ∧ v9 = .int .i64 ((n : Int) - 1 - (j : Int)) ∧ wr.ownsRow w3.heap.size 30 2 v8 j (cellsP (l.reverse.take j)) ∧ Below w3.heap.size w3 wr) (fun _ v9 _ => (intOf v9 + 1).toNat)
    case atStart => exact ⟨0, Nat.zero_le _, by simp, HO0.out, (Below.refl _ _).alloc (Nat.le_refl _) _⟩
    case round =>
      obtain ⟨j, hj, rfl, hown, hB⟩ := hrel
      by_cases hlt : j < n
      · obtain ⟨k, hk⟩ : ∃ k : Nat, k = n - 1 - j := ⟨_, rfl⟩
        have hki : (n : Int) - 1 - (j : Int) = (k : Int) := by omega
        rw [hki]
        have hP := H3.out.2.2.on hB
        rcases hP with he | ⟨gp, rfl, hlg, hc⟩
        · have := HN.out; rw [he] at this; simp at this; omega
        · obtain ⟨p1, p2⟩ := hc k (by rw [HN.out]; omega)
          have htk := take_rev l (j := j) (k := k) (by rw [HN.out]; exact hlt) (by rw [HN.out]; exact hk)
          generalize pX l k = ax at p1 htk
          generalize pY l k = ay at p2 htk
          have HQ2 := Lib.hid (And.intro hown (And.intro hB htk))
          have hsz := hB.size
          have i0' : (0 : Int) ≤ (k : Int) := by omega
          have i1 : (k : Int) < (n : Int) := by omega
          have HKI := Lib.hid hki
          clear hown hB htk hc hki hk
          go_wp2_with (at_builtin; refine wpList_append_own _ rfl _ _ 24 rfl w3.heap.size 30 i0 (.agg #[.int .i64 0, .int .i64 0]) 2 16 Try.underlying24 hi0 hz0 hz1 hz2 rfl (by decide) _ _ _ rfl (HQ2.out.1.alloc _) ⟨wr.heap.size, 0, none⟩ 1 1 [.int .i64 ax, .int .i64 ay] rfl rfl (World.news_of_block (cs := #[.int .i64 ax, .int .i64 ay]) (t := 30) (fr := (0, 0)) (heap_alloc_new wr _)) ?c2 ?c3 ?c4 ?c5 ?_)
          case c2 => simp [Value.oneCell']
          case c3 => unfold maxLen; omega
          case c4 => omega
          case c5 => simp; omega
          intro v2 w4 hown2 hgrow hnil
          have hB3 : Below w3.heap.size w3 w4 := (HQ2.out.2.1.alloc hsz _).grown hgrow (by simp; omega) (fun p hp => ((HQ2.out.1.alloc (.cells #[.int .i64 ax, .int .i64 ay] 30)).lt p hp).1)
          have hown3 : w4.ownsRow w3.heap.size 30 2 v2 (j + 1) (cellsP (l.reverse.take (j + 1))) := by
            rw [HQ2.out.2.2, cellsP_snoc]; exact hown2
          have H4 := Lib.hid (And.intro hown3 hB3)
          clear hown2 hown3 hgrow hB3 hnil p1 p2
          go_wp2
          go_roundw
          case rel => exact ⟨j + 1, by omega, by have h := HKI.out; first | (simp only [Value.int.injEq, true_and]; omega) | go_num, H4.out.1, H4.out.2⟩
          case measure => have h := HKI.out; simp [intOf] <;> omega
      · obtain rfl : j = n := by omega
        obtain ⟨wz, rfl⟩ : ∃ wz : World, wz = wr := ⟨_, rfl⟩
        rw [List.take_of_length_le (by rw [List.length_reverse, HN.out]; omega)] at hown
        have hlen : l.reverse.length = j := by rw [List.length_reverse, HN.out]
        have hown' : wz.ownsRow w3.heap.size 30 2 u8 l.reverse.length (cellsP l.reverse) := by rw [hlen]; exact hown
        obtain ⟨a8, c8, rfl, hp8⟩ := path_of_owns hown'
        rw [hlen]
        have H5 := Lib.hid (And.intro hp8 (And.intro (H3.out.2.2.on hB) (H3.out.1.on hB)))
        have HBz := Lib.hid (on_of HB3.out hB)
        have hg5 : g < wz.heap.size := Nat.lt_of_lt_of_le hg3 hB.size
        have HC5 := Lib.hid (fun i hi => (hB.cell (p := ⟨g, i, none⟩) hg3).trans (HC3.out i hi))
        clear hown hown' hp8 hB hlen
        have HF := Lib.hid (fun (V : World) (x y : Int) (hV : Below wz.heap.size wz V) => (by have h := inp_impl V a c l x y (by rw [HN.out]; omega) (H5.out.2.1.on hV); rw [HN.out] at h; exact h : Calls Try.prog 13 #[.slice a j c, .int .i64 x, .int .i64 y] V fun e w' => e = .returned (.bool (inpB l x y)) ∧ Below V.heap.size V w'))
        have HG := Lib.hid (fun (V : World) (x y : Int) (hV : Below wz.heap.size wz V) => (by have h := inp_impl V a8 c8 l.reverse x y (by rw [List.length_reverse, HN.out]; omega) (H5.out.1.on hV); rw [List.length_reverse, HN.out, inp_back H1.out.1 (by rw [HN.out]; omega)] at h; exact h : Calls Try.prog 13 #[.slice a8 j c8, .int .i64 x, .int .i64 y] V fun e w' => e = .returned (.bool (inpB l x y)) ∧ Below V.heap.size V w'))
        have HH := Lib.hid (fun (V : World) (x y : Int) (hx : -34 ≤ x ∧ x ≤ 34) (hy : -34 ≤ y ∧ y ≤ 34) (hV : Below wz.heap.size wz V) => (by have h := inp_impl V a7 c7 (l.map (mv (dx, dy))) (x + dx) (y + dy) (by rw [List.length_map, HN.out]; omega) (H5.out.2.2.on hV); rw [List.length_map, HN.out, inp_shift (d := (dx, dy)) H1.out.1 (by rw [HN.out]; omega) t0 t1 hx hy] at h; exact h : Calls Try.prog 13 #[.slice a7 j c7, .int .i64 (x + dx), .int .i64 (y + dy)] V fun e w' => e = .returned (.bool (inpB l x y)) ∧ Below V.heap.size V w'))
        go_wp2_with fail
        go_loopw [10] (fun v10 wr => ∃ i : Nat, i ≤ 40 ∧ v10 = .int .i64 (i : Int) ∧ Below wz.heap.size wz wr) (fun v10 _ => 40 - (intOf v10).toNat)
        case atStart => exact ⟨0, by omega, rfl, Below.refl _ _⟩
        case round =>
          obtain ⟨i, hi, rfl, hB⟩ := hrel
          by_cases hlt2 : i < 40
          · have hli : (i : Int) < 40 := by omega
            obtain ⟨s, hs⟩ : ∃ s, i % 10 = s := ⟨_, rfl⟩
            obtain ⟨t, ht⟩ : ∃ t, (5 + i) % 12 = t := ⟨_, rfl⟩
            have hs10 : s < 10 := by omega
            have ht12 : t < 12 := by omega
            have e1 : (i : Int).tmod 10 = (s : Int) := by rw [← hs]; exact tmod_nat i 10
            have e2 : (5 + (i : Int)).tmod 12 = (t : Int) := by rw [← ht, show 5 + (i : Int) = ((5 + i : Nat) : Int) by omega]; exact tmod_nat (5 + i) 12
            have e3 : (i : Int) % 10 = (s : Int) := by omega
            have e4 : (5 + (i : Int)) % 12 = (t : Int) := by omega
            have p1 := (hB.cell (p := ⟨g, 2 + s, none⟩) hg5).trans (HC5.out (2 + s) (by omega))
            have p2 := (hB.cell (p := ⟨g, t, none⟩) hg5).trans (HC5.out t (by omega))
            have b1 := HQ.out (2 + s) (by omega)
            have b2 := HQ.out t (by omega)
            generalize Q (2 + s) = y1 at p1 b1
            generalize Q t = y2 at p2 b2
            have m1 := mul_bd (a := y1) (b := 1 + (i : Int)) (A := 10000) (B := 40) (by omega) (by omega)
            have m2 := mul_bd (a := y2) (b := 1 + (i : Int)) (A := 10000) (B := 40) (by omega) (by omega)
            have n1 : 0 ≤ y1 * (1 + (i : Int)) := Int.mul_nonneg b1.1 (by omega)
            have n2 : 0 ≤ y2 * (1 + (i : Int)) := Int.mul_nonneg b2.1 (by omega)
            have hgq : g < wr.heap.size := Nat.lt_of_lt_of_le hg5 hB.size
            have i5 : 0 ≤ 2 + (s : Int) := by omega
            have i6 : 2 + (s : Int) < 12 := by omega
            have i7 : 0 ≤ (t : Int) := by omega
            have i8 : (t : Int) < 12 := by omega
            clear hs ht
            have HB := Lib.hid hB
            clear hB
            go_wp2_with fail
            have xb : 0 ≤ y1 * (1 + (i : Int)) % 34 ∧ y1 * (1 + (i : Int)) % 34 ≤ 33 := by omega
            have yb : 0 ≤ y2 * (1 + (i : Int)) % 34 ∧ y2 * (1 + (i : Int)) % 34 ≤ 33 := by omega
            generalize y1 * (1 + (i : Int)) % 34 = X at xb ⊢
            generalize y2 * (1 + (i : Int)) % 34 = Y at yb ⊢
            clear m1 m2 n1 n2 b1 b2 p1 p2 e1 e2 e3 e4 i5 i6 i7 i8
            have hF := fun V => HF.out V X Y
            have hG := fun V => HG.out V X Y
            have hH := fun V => HH.out V X Y (by omega) (by omega)
            generalize inpB l X Y = b at hF hG hH
            have HX := Lib.hid (And.intro hF (And.intro hG hH))
            clear hF hG hH
            (refine (HX.out.1 _ HB.out).mono ?_; rintro e w5 ⟨rfl, c5⟩)
            have HB5 := Lib.hid (on_of HB.out c5)
            clear c5
            cases b
            all_goals
              go_wp2_with fail
              (refine (HX.out.2.1 _ HB5.out).mono ?_; rintro e w6 ⟨rfl, c6⟩)
              have HB6 := Lib.hid (on_of HB5.out c6)
              clear c6
              go_wp2_with fail
              (refine (HX.out.2.2 _ HB6.out).mono ?_; rintro e w7 ⟨rfl, c7⟩)
              have HB7 := Lib.hid (on_of HB6.out c7)
              clear c7
              go_wp2
              go_roundw
              case rel => exact ⟨i + 1, by omega, by go_num, HB7.out⟩
              case measure => simp [intOf]; omega
          · obtain rfl : i = 40 := by omega
            have HB := Lib.hid hB
            clear hB
            have hA := arK_bd (l := l) (by have := shp_ok H1.out.1 (by rw [HN.out]; omega); simp only [pathB, Bool.and_eq_true] at this; exact this.2) l.length (Nat.le_refl _)
            have hAV : arV l = arP l := by simp [arV, shp_ok H1.out.1 (by rw [HN.out]; omega)]
            rw [arK_all, ← hAV, HN.out] at hA
            have KF := Lib.hid (fun (V : World) (hV : Below wz.heap.size wz V) => (by have h := area_impl V a c l (by rw [HN.out]; omega) (H5.out.2.1.on hV); rw [HN.out] at h; exact h : Calls Try.prog 14 #[.slice a j c] V fun e w' => e = .returned (.int .i64 (arV l)) ∧ Below V.heap.size V w'))
            have KM := Lib.hid (fun (V : World) (hV : Below wz.heap.size wz V) => (by have h := area_spec V a c l (by rw [HN.out]; omega) (H5.out.2.1.on hV); rw [HN.out] at h; exact h : Calls Try.prog 15 #[.slice a j c] V fun e w' => e = .returned (.int .i64 (arV l)) ∧ Below V.heap.size V w'))
            have KG := Lib.hid (fun (V : World) (hV : Below wz.heap.size wz V) => (by have h := area_impl V a8 c8 l.reverse (by rw [List.length_reverse, HN.out]; omega) (H5.out.1.on hV); rw [List.length_reverse, HN.out, ar_back H1.out.1 (by rw [HN.out]; omega)] at h; exact h : Calls Try.prog 14 #[.slice a8 j c8] V fun e w' => e = .returned (.int .i64 (-arV l)) ∧ Below V.heap.size V w'))
            have KH := Lib.hid (fun (V : World) (hV : Below wz.heap.size wz V) => (by have h := area_impl V a7 c7 (l.map (mv (dx, dy))) (by rw [List.length_map, HN.out]; omega) (H5.out.2.2.on hV); rw [List.length_map, HN.out, ar_shift (d := (dx, dy)) H1.out.1 (by rw [HN.out]; omega) t0 t1] at h; exact h : Calls Try.prog 14 #[.slice a7 j c7] V fun e w' => e = .returned (.int .i64 (arV l)) ∧ Below V.heap.size V w'))
            generalize arV l = z at hA KF KM KG KH
            clear hAV
            go_wp2_with fail
            (refine (KG.out _ HB.out).mono ?_; rintro e w5 ⟨rfl, c5⟩)
            have HB5 := Lib.hid (on_of HB.out c5)
            clear c5
            go_wp2_with fail
            (refine (KF.out _ HB5.out).mono ?_; rintro e w6 ⟨rfl, c6⟩)
            have HB6 := Lib.hid (on_of HB5.out c6)
            clear c6
            go_wp2_with fail
            (refine (KH.out _ HB6.out).mono ?_; rintro e w7 ⟨rfl, c7⟩)
            have HB7 := Lib.hid (on_of HB6.out c7)
            clear c7
            go_wp2_with fail
            (refine (KF.out _ HB7.out).mono ?_; rintro e w8 ⟨rfl, c8⟩)
            have HB8 := Lib.hid (on_of HB7.out c8)
            clear c8
            go_wp2_with fail
            (refine (KF.out _ HB8.out).mono ?_; rintro e w9 ⟨rfl, c9⟩)
            have HB9 := Lib.hid (on_of HB8.out c9)
            clear c9
            go_wp2_with fail
            (refine (KM.out _ HB9.out).mono ?_; rintro e w10 ⟨rfl, c10⟩)
            have HB10 := Lib.hid (on_of HB9.out c10)
            clear c10
            go_wp2
            go_ret
            exact ⟨by simp, on_of HBz.out HB10.out⟩

/-! ### THE ROW's STEP -/
set_option maxRecDepth 100000 in
theorem lifted (os : Os) (started : os.Started) (H : Type) (enc : TypeId × Value → H) :
    ReturnsInHanded {} Try.checked os 3 .any (Rows.fnInsideSpec.pre6 enc Try.prog Try.f3 Rows.fnInsideRow.domain false) (Rows.fnInsideSpec.post enc Try.prog Try.f3 false true false false) := by
  refine returnsInHanded_of_change (C := Try.checked) own started (by kernel_rfl) Try.func3
    (ChangeSpec.witness6 (enc := enc) (C := Try.checked) false ⟨#[], #[.slice none 0 0], []⟩ 8 (by kernel_rfl) (by kernel_rfl) (by kernel_rfl) (by kernel_rfl)) ?_
  intro W base args ds gs before hval0 hW hcnd _
  have hval : ∀ (j : Nat) t v, Try.f3.params[j]? = some t → args[j]? = some v → Value.okWide Try.prog W .any base t v := hval0
  have hW' := hW
  obtain ⟨p, q, hA0, hV, rfl, hfz, hnd⟩ := hW
  have hA : DataW.TrodAll enc Try.prog W 0 (fun _ => true) true Try.f3.params.toList args.toList ds p := hA0
  rw [Try.params3] at hA hval
  obtain ⟨v0, vs0, d0, ds0, p0, q0, hargs, rfl, rfl, h0, r0⟩ := trodAll_cons hA
  obtain ⟨rfl, rfl, rfl⟩ := trodAll_nil r0
  obtain rfl : args = #[v0] := by cases args; simp_all
  obtain ⟨rfl, rfl⟩ := trodVars_none hV
  have k0 := h0
  have lt0 : ∀ x ∈ p0, x.block < W.heap.size := by obtain ⟨m, hm⟩ := k0; exact DataW.trod_lt m _ _ _ hm
  obtain ⟨a0, l0, p0c, rfl⟩ := okWide_slice Try.underlying22 (hval 0 22 v0 rfl rfl)
  obtain ⟨z0, wa0⟩ : ∃ zs, IsRow .u8 W a0 l0 p0c zs := by
    obtain ⟨fuel, hf⟩ := h0
    rcases open_ints Try.underlying22 Try.underlying5 (by kernel_rfl) hf with ⟨hcs, _⟩ | ⟨x, l, c, zs, hcs, _, hl, hm, hz, _, hcell, hwz⟩
    · simp [Value.cells] at hcs
      obtain ⟨rfl, rfl, rfl⟩ := hcs
      exact ⟨[], .inl ⟨rfl, rfl, rfl, rfl⟩⟩
    · simp [Value.cells] at hcs
      obtain ⟨rfl, rfl, rfl⟩ := hcs
      exact ⟨zs, .inr ⟨_, rfl, hl, hm, by simpa using hz, hcell, hwz⟩⟩
  clear hA0 hval0
  refine (walk W a0 l0 p0c z0 wa0).mono fun e W' ⟨he, bel⟩ => ?_
  subst he
  exact ⟨_, rfl, _, _, _, [], _, [], hW', trodAll_mk1 (shut_bool Try.underlying4 _), (trodAll_cons_mk (Below.trod laidOut (by kernel_rfl) (of_decide_eq_true (by kernel_rfl)) k0 bel lt0) trodAll_mk0), rfl, bel.frame _, fun h => by cases h⟩

theorem over : Rows.fnInsideRow.holds Try.pinned (OpenSpec.ofChange Rows.fnInsideSpec) :=
  OpenClaim.holds_of_wide 3 Try.f3 rfl rfl rfl rfl rfl rfl rfl ⟨rfl, rfl, rfl, rfl, rfl⟩ rfl rfl rfl rfl rfl (by kernel_rfl) Try.func3 (by kernel_rfl)
    (of_decide_eq_true (by kernel_rfl)) (by unfold Func.isWrapper; first | (rw [if_pos (by decide +kernel)]; kernel_rfl) | (rw [if_neg (by decide +kernel)]; exact ⟨rfl, rfl⟩))
    (fun os started H enc _ => lifted os started H enc)

/-- ████ THE STATEMENT ████ -/
theorem proved : Rows.FnInsideSaid := over
#print axioms proved
end Go.Proofs.Ytjmcpijmhfdbiaa.fnInside
