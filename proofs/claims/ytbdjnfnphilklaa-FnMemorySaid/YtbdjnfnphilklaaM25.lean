/-
  Texts of this seat, laid together: Fb9, Tc9
-/
import Derived.Test.YtbdjnfnphilklaaM24
import Derived.Test.YtbdjnfnphilklaaM23
import Derived.Test.YtbdjnfnphilklaaM09
namespace Go.Proofs.Ytbdjnfnphilklaa.Ins
open Go.ChangeShapes Go.WideShapes Go.ChangeAt Go.RowKit
open Kit Point
set_option linter.unusedVariables false
set_option linter.unusedSimpArgs false
set_option linter.unnecessarySimpa false
theorem cnt_split {q : Nat → Bool} {n k : Nat} (hk : k ≤ n) (h1 : ∀ t, t < k → q t = true) (h2 : ∀ t, k ≤ t → t < n → q t = false) : (List.range n).countP q = k := by
  have e := cnt_edge q n (fun a b hab hb hp => by
    rcases Nat.lt_or_ge b k with h | h
    · exact h1 a (by omega)
    · rw [h2 b h hb] at hp; cases hp)
  have hle : (List.range n).countP q ≤ n := by have := List.countP_le_length (p := q) (l := List.range n); simpa using this
  rcases Nat.lt_trichotomy ((List.range n).countP q) k with h | h | h
  · have := (e _ (by omega)).1 (h1 _ h); omega
  · exact h
  · have := (e k (by omega)).2 h; rw [h2 k (Nat.le_refl _) (by omega)] at this; cases this
theorem fnb_split {ax ay bx b1 y : Int} {k : Nat} (hk : k ≤ 401) (h1 : ∀ t : Nat, t < k → psV ax ay bx b1 ((t : Int) - 200) y = 2) (h2 : ∀ t : Nat, k ≤ t → t < 401 → psV ax ay bx b1 ((t : Int) - 200) y ≠ 2) : fnb ax ay bx b1 y = (k : Int) - 200 := by
  unfold fnb
  rw [cnt_split hk (fun t ht => by simpa using h1 t ht) (fun t h3 h4 => by simpa using h2 t h3 h4)]
set_option maxHeartbeats 1000000 in
theorem clo_impl (ax ay bx b1 y : Int) (g0 g1 : Nat) (i : Int) (w : World) (F : Four w g0 ax ay bx b1) (hc : w.cell? ⟨g1, 0, none⟩ = some (.int .i64 y)) (ha : pokB ax ay = true) (hb : pokB bx b1 = true) (hy : inB y = true) (hi : 0 ≤ i ∧ i ≤ 400) :
    Calls Try.prog 143 #[.int .i64 i, .pointer (some ⟨g0, 0, none⟩), .pointer (some ⟨g1, 0, none⟩)] w fun e w' => e = .returned (.bool (decide (psV ax ay bx b1 (i - 200) y ≠ 2))) ∧ Below w.heap.size w w' := by
  obtain ⟨c0, c1, c2, c3, _⟩ := F
  have hx : inB (i - 200) = true := by simp [inB]; omega
  have hw : IntKind.i64.wrap (i - 200) = i - 200 := by rw [IntKind.wrap_i64]; omega
  have HP := Lib.hid (And.intro ha (And.intro hb (And.intro hy hx)))
  clear ha hb hy hx
  go_enter Try.func143, Try.ntmps143
  go_wp2_with fail
  ((with_reducible refine (ps_impl ax ay bx b1 (i - 200) y _ HP.out.1 HP.out.2.1 HP.out.2.2.2 HP.out.2.2.1).mono ?_); rintro e w1 ⟨rfl, bb⟩)
  obtain ⟨r, hr⟩ : ∃ r, psV ax ay bx b1 (i - 200) y = r := ⟨_, rfl⟩
  have HR := Lib.hid hr
  rw [hr]
  clear c0 c1 c2 c3 hc hr
  go_wp2
  go_ret
  exact ⟨ret_bool (by rw [HR.out]; by_cases h : r = 2 <;> simp [h]), bb⟩
set_option maxHeartbeats 1000000 in
theorem srch_impl (ax ay bx b1 y : Int) (g0 g1 : Nat) (w : World) (F : Four w g0 ax ay bx b1) (hc : w.cell? ⟨g1, 0, none⟩ = some (.int .i64 y)) (ha : pokB ax ay = true) (hb : pokB bx b1 = true) (hy : inB y = true) :
    Calls Try.prog 142 #[.int .i64 401, .func (.func 143) #[] #[.pointer (some ⟨g0, 0, none⟩), .pointer (some ⟨g1, 0, none⟩)]] w fun e w' => ∃ k : Nat, e = .returned (.int .i64 (k : Int)) ∧ fnb ax ay bx b1 y = (k : Int) - 200 ∧ k ≤ 401 ∧ Below w.heap.size w w' := by
  have HP := Lib.hid (And.intro F (And.intro hc (And.intro ha (And.intro hb hy))))
  have hl0 := F.lt
  have hl1 := World.block_lt_of_cell? w _ hc
  have HL := Lib.hid (And.intro hl0 hl1)
  clear F hc ha hb hy hl0 hl1
  go_enter Try.func142, Try.ntmps142
  go_wp2
  go_loopw [5, 6] (fun s5 s6 wr => ∃ (lo hi : Nat), s5 = .int .i64 (lo : Int) ∧ s6 = .int .i64 (hi : Int) ∧ lo ≤ hi ∧ hi ≤ 401 ∧ Below w.heap.size w wr ∧
    Hid ((∀ t : Nat, t < lo → psV ax ay bx b1 ((t : Int) - 200) y = 2) ∧ (∀ t : Nat, hi ≤ t → t < 401 → psV ax ay bx b1 ((t : Int) - 200) y ≠ 2))) (fun s5 s6 _ => (intOf s6).toNat - (intOf s5).toNat)
  case atStart => exact ⟨0, 401, rfl, rfl, by omega, by omega, Below.refl _ _, Lib.hid ⟨fun t ht => by omega, fun t h1 h2 => by omega⟩⟩
  case round =>
    obtain ⟨lo, hi, rfl, rfl, hlh, hin, hB, I⟩ := hrel
    have HB := Lib.hid hB
    clear hB
    by_cases hlt : lo < hi
    · have hlti : (lo : Int) < (hi : Int) := by omega
      go_wp2_with fail
      have hcl := clo_impl ax ay bx b1 y g0 g1 (((lo + hi) / 2 : Nat) : Int) wr (HP.out.1.keep HB.out HL.out.1) ((HB.out.cell (p := ⟨g1, 0, none⟩) HL.out.2).trans HP.out.2.1) HP.out.2.2.1 HP.out.2.2.2.1 HP.out.2.2.2.2 (by omega)
      rw [show (((lo + hi) / 2 : Nat) : Int) = ((lo : Int) + (hi : Int)) / 2 by omega] at hcl
      refine hcl.mono ?_
      rintro e w1 ⟨rfl, bb⟩
      clear hcl
      have HB1 := Lib.hid (on_of HB.out bb)
      clear bb
      have HM : Hid (psV ax ay bx b1 (((lo : Int) + (hi : Int)) / 2 - 200) y = psV ax ay bx b1 (((((lo + hi) / 2 : Nat)) : Int) - 200) y) := Lib.hid (by rw [show (((lo + hi) / 2 : Nat) : Int) = ((lo : Int) + (hi : Int)) / 2 by omega])
      generalize psV ax ay bx b1 (((lo : Int) + (hi : Int)) / 2 - 200) y = r at *
      by_cases hr : r = 2
      · have HR := Lib.hid (HM.out.symm.trans hr)
        clear HM
        simp only [hr, ne_eq, not_true, decide_false]
        go_wp2
        go_roundw
        case rel =>
          refine ⟨(lo + hi) / 2 + 1, hi, by rw [show ((((lo + hi) / 2 + 1 : Nat)) : Int) = ((lo : Int) + (hi : Int)) / 2 + 1 by omega], rfl, by omega, hin, HB1.out, Lib.hid ⟨fun t ht => ps_mono (show (t : Int) - 200 ≤ ((((lo + hi) / 2 : Nat)) : Int) - 200 by omega) HR.out, I.out.2⟩⟩
        case measure => simp [intOf]; omega
      · have HR := Lib.hid (show psV ax ay bx b1 (((((lo + hi) / 2 : Nat)) : Int) - 200) y ≠ 2 by rw [← HM.out]; exact hr)
        clear HM
        simp only [hr, ne_eq, not_false_eq_true, decide_true]
        go_wp2
        go_roundw
        case rel =>
          refine ⟨lo, (lo + hi) / 2, rfl, by rw [show ((((lo + hi) / 2 : Nat)) : Int) = ((lo : Int) + (hi : Int)) / 2 by omega], by omega, by omega, HB1.out, Lib.hid ⟨I.out.1, fun t h1 h2 h3 => HR.out (ps_mono (by omega) h3)⟩⟩
        case measure => simp [intOf]; omega
    · obtain rfl : lo = hi := by omega
      go_wp2
      go_ret
      exact ⟨lo, rfl, fnb_split hin I.out.1 I.out.2, hin, HB.out⟩
set_option maxHeartbeats 1000000 in
theorem fnb_impl (ax ay bx b1 y : Int) (w : World) (ha : pokB ax ay = true) (hb : pokB bx b1 = true) (hy : inB y = true) :
    Calls Try.prog 138 #[.agg #[.int .i64 ax, .int .i64 ay, .int .i64 bx, .int .i64 b1], .int .i64 y] w fun e w' => e = .returned (.int .i64 (fnb ax ay bx b1 y)) ∧ Below w.heap.size w w' := by
  have HP := Lib.hid (And.intro ha (And.intro hb hy))
  clear ha hb hy
  go_enter Try.func138, Try.ntmps138
  go_wp2_with fail
  refine (srch_impl ax ay bx b1 y w.heap.size (w.heap.size + 1) _ ?_ ?_ HP.out.1 HP.out.2.1 HP.out.2.2).mono ?_
  · exact Four.alloc (Four.new w _ _ _ _ _) _
  · simp [go_sem]
  · rintro e w1 ⟨k, rfl, hk, hk1, bb⟩
    have HB1 := Lib.hid (on_of (W := w) (by go_grown) bb)
    have hw : IntKind.i64.wrap ((k : Int) - 200) = (k : Int) - 200 := by rw [IntKind.wrap_i64]; omega
    have HK := Lib.hid hk
    clear bb hk
    go_wp2
    go_ret
    exact ⟨by rw [HK.out]; rfl, HB1.out⟩
end Go.Proofs.Ytbdjnfnphilklaa.Ins
namespace Go.Proofs.Ytbdjnfnphilklaa.Ins
open Go.ChangeShapes Go.WideShapes Go.ChangeAt Go.RowKit
open Kit Point Slabs
set_option linter.unusedVariables false
set_option linter.unusedSimpArgs false
set_option linter.unnecessarySimpa false
theorem colsK_no {l : List Pt} {y : Int} {k : Nat} (h : psg (sdk l k) y = false) : colsK l y (k + 1) = colsK l y k := by rw [colsK, h]; simp
theorem colsK_yes {l : List Pt} {y : Int} {k : Nat} (h : psg (sdk l k) y = true) : colsK l y (k + 1) = tog (colsK l y k) (fnb (sdk l k).1.1 (sdk l k).1.2 (sdk l k).2.1 (sdk l k).2.2 y) := by rw [colsK, h]; simp
set_option maxHeartbeats 2000000 in
theorem tc_impl (w : World) (a : Option Addr) (c : Nat) (l : List Pt) (y : Int) (hn : l.length ≤ 100000) (h : PathAt w a l) (hpts : ptsB l = true) (hy : inB y = true) :
    Calls Try.prog 133 #[.slice a l.length c, .int .i64 y] w fun e w' => ∃ v, e = .returned v ∧ Cols w' w.heap.size v (colsK l y l.length) ∧ Below w.heap.size w w' := by
  have H := Lib.hid (And.intro h (And.intro hn (And.intro hpts hy)))
  clear h hn hpts hy
  go_enter Try.func133, Try.ntmps133
  go_wp2_with fail
  (refine (sd_impl _ _ _ _ (by have := H.out.2.1; omega) H.out.1).mono ?_; rintro e w3 ⟨v, rfl, hS, hB3⟩)
  have HB3 := Lib.hid hB3
  clear hB3
  obtain ⟨n, hN⟩ : ∃ n, l.length = n := ⟨_, rfl⟩
  have HN := Lib.hid hN
  have hn := H.out.2.1
  rw [hN] at hS hn ⊢
  clear hN
  rcases hS.writes with ⟨h0, a1, c1, rfl⟩ | ⟨g, c1, rfl, _, W1⟩
  · subst h0
    clear hS
    go_wp2
    go_rounds 1
    go_ret
    refine ⟨_, rfl, ?_, HB3.out⟩
    rw [HN.out]
    exact Cols.nil _ _
  · have HW := Lib.hid W1
    clear hS W1
    go_wp2
    go_loopw [5, 11] (fun v5 v11 wr => ∃ k : Nat, k ≤ n ∧ v11 = .int .i64 (k : Int) ∧ Cols wr w3.heap.size v5 (colsK l y k) ∧ Below w3.heap.size w3 wr) (fun v5 v11 _ => n - (intOf v11).toNat)
    case atStart => exact ⟨0, Nat.zero_le _, rfl, Cols.nil _ _, Below.refl _ _⟩
    case round =>
      obtain ⟨k, hk, rfl, hC, hB⟩ := hrel
      by_cases hlt : k < n
      · have W2 := HW.out.on hB
        obtain ⟨m, hm⟩ : ∃ m, (k + 1) % n = m := ⟨_, rfl⟩
        have hmn : m < n := by rw [← hm]; exact Nat.mod_lt _ (by omega)
        have hp1 := ptsB_at H.out.2.2.1 (k := k) (by rw [HN.out]; exact hlt)
        have hp2 := ptsB_at H.out.2.2.1 (k := m) (by rw [HN.out]; exact hmn)
        have hf : sdF l k = [.int .i64 (pX l k), .int .i64 (pY l k), .int .i64 (pX l m), .int .i64 (pY l m)] := by unfold sdF; rw [HN.out, hm]
        have hs : sdk l k = ((pX l k, pY l k), (pX l m, pY l m)) := by unfold sdk; rw [HN.out, hm]
        generalize pX l k = ax at hf hp1 hs
        generalize pY l k = ay at hf hp1 hs
        generalize pX l m = bx at hf hp2 hs
        generalize pY l m = b1 at hf hp2 hs
        obtain ⟨q1, q2, q3, q4⟩ := cells4_of W2.cell hlt hf
        have hgl := W2.here
        have HS := Lib.hid hs
        have HQ := Lib.hid (And.intro hp1 hp2)
        have HB := Lib.hid hB
        have HC := Lib.hid hC
        clear hs hp1 hp2 hf W2 hm hB hC
        have i0 : (0 : Int) ≤ (k : Int) := by omega
        have i1 : (k : Int) < (n : Int) := by omega
        go_wp2_with fail
        ((with_reducible refine (ps_impl ax ay bx b1 0 y _ HQ.out.1 HQ.out.2 (by decide) H.out.2.2.2).mono ?_); rintro e w4 ⟨rfl, bb⟩)
        have hB4 := on_of (HB.out.alloc HB.out.size _) bb
        have HB4 := Lib.hid hB4
        have hbb := (Below.refl wr.heap.size wr).alloc (Nat.le_refl _) (.cells #[.int .i64 ax, .int .i64 ay, .int .i64 bx, .int .i64 b1] 161)
        have hWr4 := on_of hbb bb
        have HC4 := Lib.hid (HC.out.keep hWr4)
        have F4 := Four.keep (Four.new wr 161 ax ay bx b1) bb (by rw [World.size_alloc]; omega)
        obtain ⟨f0, f1, f2, f3, ff⟩ := F4.lay
        clear hB4 bb q1 q2 q3 q4 hbb hWr4 HC F4
        have hz := ps_zero ax ay bx b1 0 y
        obtain ⟨r, hr⟩ : ∃ r, psV ax ay bx b1 0 y = r := ⟨_, rfl⟩
        rw [hr] at hz ⊢
        clear hr
        by_cases hr0 : r = 0
        · subst hr0
          have e := colsK_no (l := l) (y := y) (k := k) (by rw [HS.out]; exact hz.1 rfl)
          have HE := Lib.hid e
          clear e hz f0 f1 f2 f3 ff
          go_wp2
          go_roundw
          case rel => exact ⟨k + 1, by omega, by go_num, by rw [HE.out]; exact HC4.out, HB4.out⟩
          case measure => simp [intOf]; omega
        · have e := colsK_yes (l := l) (y := y) (k := k) (by
            rw [HS.out]; cases hp : psg ((ax, ay), (bx, b1)) y
            · exact absurd (hz.2 hp) hr0
            · rfl)
          rw [HS.out] at e
          have HE := Lib.hid e
          clear e hz
          go_wp2_with fail
          ((with_reducible refine (fnb_impl ax ay bx b1 y _ HQ.out.1 HQ.out.2 H.out.2.2.2).mono ?_); rintro e w5 ⟨rfl, bb⟩)
          clear f0 f1 f2 f3 ff
          have HB5 := Lib.hid (on_of HB4.out bb)
          have HC5 := Lib.hid (HC4.out.keep bb)
          clear bb
          go_wp2_with fail
          refine (tog_impl w5 w3.heap.size _ _ (fnb ax ay bx b1 y) HC5.out HB5.out.size (by have := cols_len l y k; omega) (cols_sorted l y k)).mono ?_
          rintro e w6 ⟨u, rfl, hC6, hB6⟩
          have HB6 := Lib.hid (HB5.out.trans hB6)
          have HC6 := Lib.hid hC6
          clear hC6 hB6
          go_wp2
          go_roundw
          case rel => exact ⟨k + 1, by omega, by go_num, by rw [HE.out]; exact HC6.out, HB6.out⟩
          case measure => simp [intOf]; omega
      · obtain rfl : k = n := by omega
        have HB := Lib.hid hB
        have HC := Lib.hid hC
        clear hB hC
        go_wp2
        go_ret
        refine ⟨_, rfl, ?_, HB3.out.trans (HB.out.mono HB3.out.size)⟩
        rw [HN.out]
        rcases HC.out with ⟨h1, h2⟩ | ⟨g2, c2, f2, h1, h2, h3⟩
        · exact .inl ⟨h1, h2⟩
        · exact .inr ⟨g2, c2, f2, h1, Nat.le_trans HB3.out.size h2, h3⟩
end Go.Proofs.Ytbdjnfnphilklaa.Ins
