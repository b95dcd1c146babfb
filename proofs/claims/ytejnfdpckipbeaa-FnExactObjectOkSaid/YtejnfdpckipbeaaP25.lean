/-
  Texts of this seat, laid together: InI8, Tc9
-/
import Derived.Test.YtejnfdpckipbeaaP13
import Derived.Test.YtejnfdpckipbeaaP23
import Derived.Test.YtejnfdpckipbeaaP22
import Derived.Test.YtejnfdpckipbeaaP06
import Derived.Test.YtejnfdpckipbeaaP24
namespace Go.Proofs.Ytejnfdpckipbeaa.Ins
open Go.ChangeShapes Go.WideShapes Go.ChangeAt Go.RowKit
open Kit Point Slabs
set_option linter.unusedVariables false
set_option linter.unusedSimpArgs false
set_option linter.unnecessarySimpa false
set_option maxHeartbeats 2000000 in
theorem inp_impl (w : World) (a : Option Addr) (c : Nat) (l : List Pt) (x y : Int) (hn : l.length ≤ 1048576) (h : PathAt w a l) :
    Calls Try.prog 16 #[.slice a l.length c, .int .i64 x, .int .i64 y] w fun e w' => e = .returned (.bool (inpB l x y)) ∧ Below w.heap.size w w' := by
  have H := Lib.hid (And.intro h hn)
  clear h hn
  rcases three3 (pathB l) (inB x) (inB y) with h1 | ⟨h1, h2⟩ | ⟨h1, h2, h3⟩ | ⟨h1, h2, h3⟩
  iterate 3
    · go_enter Try.func16, Try.ntmps16
      go_wp2_with (first
        | (go_at_call 50; refine (path_impl _ _ _ _ H.out.2 H.out.1).mono ?_; rintro e w' ⟨rfl, hb⟩)
        | (go_at_call 51; refine (coord_any _ _).mono ?_; rintro e w' ⟨rfl, rfl⟩))
      go_ret
      exact ⟨ret_bool (by simp [inpB, *]), by assumption⟩
  · have hi : inpB l x y = insP l x y := by simp [inpB, h1, h2, h3]
    have hpts : ptsB l = true := by simp only [pathB, Bool.and_eq_true] at h1; exact h1.2
    have HK := Lib.hid (And.intro hi (And.intro hpts (And.intro h2 h3)))
    clear hi hpts
    go_enter Try.func16, Try.ntmps16
    go_wp2_with (first
      | (go_at_call 50; refine (path_impl _ _ _ _ H.out.2 H.out.1).mono ?_; rintro e w1 ⟨rfl, hb⟩)
      | (go_at_call 51; refine (coord_any _ _).mono ?_; rintro e w2 ⟨rfl, rfl⟩))
    (refine (sd_impl _ _ _ _ H.out.2 (H.out.1.on hb)).mono ?_; rintro e w3 ⟨v, rfl, hS, hb2⟩)
    have hB3 := hb.trans (hb2.mono hb.size)
    have HB3 := Lib.hid hB3
    clear hb hb2 hB3 h1
    obtain ⟨n, hN⟩ : ∃ n, l.length = n := ⟨_, rfl⟩
    have HN := Lib.hid hN
    have hn := H.out.2
    rw [hN] at hS hn ⊢
    clear hN
    rcases hS.writes with ⟨h0, a1, c1, rfl⟩ | ⟨g, c1, rfl, _, W1⟩
    · subst h0
      clear hS
      go_wp2
      go_rounds 1
      go_ret
      refine ⟨ret_bool ?_, HB3.out⟩
      rw [HK.out.1, List.eq_nil_of_length_eq_zero HN.out]; rfl
    · have HW := Lib.hid W1
      clear hS W1
      go_wp2
      go_loopw [7, 26] (fun v7 v26 wr => ∃ k : Nat, k ≤ n ∧ v26 = .int .i64 (k : Int) ∧ v7 = .bool (insK l x y k) ∧ Below w3.heap.size w3 wr) (fun v7 v26 _ => n - (intOf v26).toNat)
      case atStart => exact ⟨0, Nat.zero_le _, rfl, by rw [insK_zero], Below.refl _ _⟩
      case round =>
        obtain ⟨k, hk, rfl, rfl, hB⟩ := hrel
        by_cases hlt : k < n
        · have W2 := HW.out.on hB
          obtain ⟨m, hm⟩ : ∃ m, (k + 1) % n = m := ⟨_, rfl⟩
          have hmn : m < n := by rw [← hm]; exact Nat.mod_lt _ (by omega)
          have hp1 := ptsB_at HK.out.2.1 (k := k) (by rw [HN.out]; exact hlt)
          have hp2 := ptsB_at HK.out.2.1 (k := m) (by rw [HN.out]; exact hmn)
          have hs := insK_succ l x y (k := k) (by rw [HN.out]; exact hlt)
          have hf : sdF l k = [.int .i64 (pX l k), .int .i64 (pY l k), .int .i64 (pX l m), .int .i64 (pY l m)] := by unfold sdF; rw [HN.out, hm]
          rw [HN.out, hm] at hs
          generalize pX l k = ax at hf hp1 hs
          generalize pY l k = ay at hf hp1 hs
          generalize pX l m = bx at hf hp2 hs
          generalize pY l m = b1 at hf hp2 hs
          obtain ⟨q1, q2, q3, q4⟩ := cells4_of W2.cell hlt hf
          have hgl := W2.here
          have HS := Lib.hid hs
          have HQ := Lib.hid (And.intro hp1 hp2)
          have HB := Lib.hid hB
          clear hs hp1 hp2 hf W2 hm hB
          have i0 : (0 : Int) ≤ (k : Int) := by omega
          have i1 : (k : Int) < (n : Int) := by omega
          go_wp2_with fail
          ((with_reducible refine (ps_impl ax ay bx b1 x y _ HQ.out.1 HQ.out.2 HK.out.2.2.1 HK.out.2.2.2).mono ?_); rintro e w4 ⟨rfl, bb⟩)
          have hB4 := on_of (HB.out.alloc HB.out.size _) bb
          have HB4 := Lib.hid hB4
          clear hB4 bb q1 q2 q3 q4
          have hpc := ps_crs ax ay bx b1 x y
          rw [← hpc] at HS
          clear hpc
          generalize psV ax ay bx b1 x y = r at *
          by_cases hr : r = 2
          · subst hr
            have e : insK l x y (k + 1) = !(insK l x y k) := by rw [HS.out]; simp
            have HE := Lib.hid e
            clear e HS
            generalize insK l x y k = b at *
            go_wp2
            go_roundw
            case rel => exact ⟨k + 1, by omega, by go_num, by rw [HE.out], HB4.out⟩
            case measure => simp [intOf]; omega
          · have e := HS.out
            simp only [hr, decide_false, Bool.bne_false] at e
            have HE := Lib.hid e
            clear e HS
            go_wp2
            go_roundw
            case rel => exact ⟨k + 1, by omega, by go_num, by rw [HE.out], HB4.out⟩
            case measure => simp [intOf]; omega
        · obtain rfl : k = n := by omega
          have HB := Lib.hid hB
          clear hB
          go_wp2
          go_ret
          exact ⟨ret_bool (by rw [HK.out.1, ← HN.out, insK_all]), HB3.out.trans (HB.out.mono HB3.out.size)⟩
end Go.Proofs.Ytejnfdpckipbeaa.Ins
namespace Go.Proofs.Ytejnfdpckipbeaa.Ins
open Go.ChangeShapes Go.WideShapes Go.ChangeAt Go.RowKit
open Kit Point Slabs
set_option linter.unusedVariables false
set_option linter.unusedSimpArgs false
set_option linter.unnecessarySimpa false
theorem colsK_no {l : List Pt} {y : Int} {k : Nat} (h : psg (sdk l k) y = false) : colsK l y (k + 1) = colsK l y k := by rw [colsK, h]; simp
theorem colsK_yes {l : List Pt} {y : Int} {k : Nat} (h : psg (sdk l k) y = true) : colsK l y (k + 1) = tog (colsK l y k) (fnb (sdk l k).1.1 (sdk l k).1.2 (sdk l k).2.1 (sdk l k).2.2 y) := by rw [colsK, h]; simp
set_option maxHeartbeats 2000000 in
theorem tc_impl (w : World) (a : Option Addr) (c : Nat) (l : List Pt) (y : Int) (hn : l.length ≤ 100000) (h : PathAt w a l) (hpts : ptsB l = true) (hy : inB y = true) :
    Calls Try.prog 128 #[.slice a l.length c, .int .i64 y] w fun e w' => ∃ v, e = .returned v ∧ Cols w' w.heap.size v (colsK l y l.length) ∧ Below w.heap.size w w' := by
  have H := Lib.hid (And.intro h (And.intro hn (And.intro hpts hy)))
  clear h hn hpts hy
  go_enter Try.func128, Try.ntmps128
  go_wp2_with fail
  (refine (sd_impl _ _ _ _ (by have := H.out.2.1; omega) H.out.1).mono ?_; rintro e w3 ⟨v, rfl, hS, hB3⟩)
  have HB3 := Lib.hid hB3
  clear hB3
  obtain ⟨n, hN⟩ : ∃ n, l.length = n := ⟨_, rfl⟩
  have HN := Lib.hid hN
  have hn := H.out.2.1
  rw [hN] at hS hn ⊢
  clear hN
  rcases hS.writes with ⟨h0, a1, c1, rfl⟩ | ⟨g, c1, rfl, _, W1⟩
  · subst h0
    clear hS
    go_wp2
    go_rounds 1
    go_ret
    refine ⟨_, rfl, ?_, HB3.out⟩
    rw [HN.out]
    exact Cols.nil _ _
  · have HW := Lib.hid W1
    clear hS W1
    go_wp2
    go_loopw [5, 11] (fun v5 v11 wr => ∃ k : Nat, k ≤ n ∧ v11 = .int .i64 (k : Int) ∧ Cols wr w3.heap.size v5 (colsK l y k) ∧ Below w3.heap.size w3 wr) (fun v5 v11 _ => n - (intOf v11).toNat)
    case atStart => exact ⟨0, Nat.zero_le _, rfl, Cols.nil _ _, Below.refl _ _⟩
    case round =>
      obtain ⟨k, hk, rfl, hC, hB⟩ := hrel
      by_cases hlt : k < n
      · have W2 := HW.out.on hB
        obtain ⟨m, hm⟩ : ∃ m, (k + 1) % n = m := ⟨_, rfl⟩
        have hmn : m < n := by rw [← hm]; exact Nat.mod_lt _ (by omega)
        have hp1 := ptsB_at H.out.2.2.1 (k := k) (by rw [HN.out]; exact hlt)
        have hp2 := ptsB_at H.out.2.2.1 (k := m) (by rw [HN.out]; exact hmn)
        have hf : sdF l k = [.int .i64 (pX l k), .int .i64 (pY l k), .int .i64 (pX l m), .int .i64 (pY l m)] := by unfold sdF; rw [HN.out, hm]
        have hs : sdk l k = ((pX l k, pY l k), (pX l m, pY l m)) := by unfold sdk; rw [HN.out, hm]
        generalize pX l k = ax at hf hp1 hs
        generalize pY l k = ay at hf hp1 hs
        generalize pX l m = bx at hf hp2 hs
        generalize pY l m = b1 at hf hp2 hs
        obtain ⟨q1, q2, q3, q4⟩ := cells4_of W2.cell hlt hf
        have hgl := W2.here
        have HS := Lib.hid hs
        have HQ := Lib.hid (And.intro hp1 hp2)
        have HB := Lib.hid hB
        have HC := Lib.hid hC
        clear hs hp1 hp2 hf W2 hm hB hC
        have i0 : (0 : Int) ≤ (k : Int) := by omega
        have i1 : (k : Int) < (n : Int) := by omega
        go_wp2_with fail
        ((with_reducible refine (ps_impl ax ay bx b1 0 y _ HQ.out.1 HQ.out.2 (by decide) H.out.2.2.2).mono ?_); rintro e w4 ⟨rfl, bb⟩)
        have hB4 := on_of (HB.out.alloc HB.out.size _) bb
        have HB4 := Lib.hid hB4
        have hbb := (Below.refl wr.heap.size wr).alloc (Nat.le_refl _) (.cells #[.int .i64 ax, .int .i64 ay, .int .i64 bx, .int .i64 b1] 91)
        have hWr4 := on_of hbb bb
        have HC4 := Lib.hid (HC.out.keep hWr4)
        have F4 := Four.keep (Four.new wr 91 ax ay bx b1) bb (by rw [World.size_alloc]; omega)
        obtain ⟨f0, f1, f2, f3, ff⟩ := F4.lay
        clear hB4 bb q1 q2 q3 q4 hbb hWr4 HC F4
        have hz := ps_zero ax ay bx b1 0 y
        obtain ⟨r, hr⟩ : ∃ r, psV ax ay bx b1 0 y = r := ⟨_, rfl⟩
        rw [hr] at hz ⊢
        clear hr
        by_cases hr0 : r = 0
        · subst hr0
          have e := colsK_no (l := l) (y := y) (k := k) (by rw [HS.out]; exact hz.1 rfl)
          have HE := Lib.hid e
          clear e hz f0 f1 f2 f3 ff
          go_wp2
          go_roundw
          case rel => exact ⟨k + 1, by omega, by go_num, by rw [HE.out]; exact HC4.out, HB4.out⟩
          case measure => simp [intOf]; omega
        · have e := colsK_yes (l := l) (y := y) (k := k) (by
            rw [HS.out]; cases hp : psg ((ax, ay), (bx, b1)) y
            · exact absurd (hz.2 hp) hr0
            · rfl)
          rw [HS.out] at e
          have HE := Lib.hid e
          clear e hz
          go_wp2_with fail
          ((with_reducible refine (fnb_impl ax ay bx b1 y _ HQ.out.1 HQ.out.2 H.out.2.2.2).mono ?_); rintro e w5 ⟨rfl, bb⟩)
          clear f0 f1 f2 f3 ff
          have HB5 := Lib.hid (on_of HB4.out bb)
          have HC5 := Lib.hid (HC4.out.keep bb)
          clear bb
          go_wp2_with fail
          refine (tog_impl w5 w3.heap.size _ _ (fnb ax ay bx b1 y) HC5.out HB5.out.size (by have := cols_len l y k; omega) (cols_sorted l y k)).mono ?_
          rintro e w6 ⟨u, rfl, hC6, hB6⟩
          have HB6 := Lib.hid (HB5.out.trans hB6)
          have HC6 := Lib.hid hC6
          clear hC6 hB6
          go_wp2
          go_roundw
          case rel => exact ⟨k + 1, by omega, by go_num, by rw [HE.out]; exact HC6.out, HB6.out⟩
          case measure => simp [intOf]; omega
      · obtain rfl : k = n := by omega
        have HB := Lib.hid hB
        have HC := Lib.hid hC
        clear hB hC
        go_wp2
        go_ret
        refine ⟨_, rfl, ?_, HB3.out.trans (HB.out.mono HB3.out.size)⟩
        rw [HN.out]
        rcases HC.out with ⟨h1, h2⟩ | ⟨g2, c2, f2, h1, h2, h3⟩
        · exact .inl ⟨h1, h2⟩
        · exact .inr ⟨g2, c2, f2, h1, Nat.le_trans HB3.out.size h2, h3⟩
end Go.Proofs.Ytejnfdpckipbeaa.Ins
