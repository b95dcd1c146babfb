/-
  Texts of this seat, laid together: Rs11
-/
import Derived.Test.YtifmdgncgokikaaP33
namespace Go.Proofs.Ytifmdgncgokikaa.Own
open Go.ChangeShapes Go.WideShapes Go.ChangeAt Go.RowKit
open Kit Slabs Ints
set_option linter.unusedVariables false
set_option linter.unusedSimpArgs false
set_option linter.unnecessarySimpa false
set_option maxRecDepth 100000
def sameB (R S : List (List Int)) : Bool := decide (R = S)
theorem ext_getD {α : Type} {l m : List α} {z : α} (hl : l.length = m.length) (h : ∀ i, i < l.length → l.getD i z = m.getD i z) : l = m := by
  apply List.ext_getElem hl
  intro i h1 h2
  have := h i h1
  simpa [List.getD, List.getElem?_eq_getElem h1, List.getElem?_eq_getElem h2] using this
theorem ne_getD {α : Type} {l m : List α} {z : α} (i : Nat) (h : l.getD i z ≠ m.getD i z) : l ≠ m := fun e => h (by rw [e])
set_option maxHeartbeats 1000000 in
theorem equal_impl (w : World) (a b : Option Addr) (c d : Nat) (r s : List Int) (hn : r.length ≤ 1048576) (hm : s.length ≤ 1048576) (h : Lies w a (ivs r)) (h2 : Lies w b (ivs s)) :
    Calls Try.prog 45 #[.slice a r.length c, .slice b s.length d] w fun e w' => e = .returned (.bool (decide (r = s))) ∧ Below w.heap.size w w' := by
  by_cases hl : r.length = s.length
  · have HP := Lib.hid (And.intro h h2)
    obtain ⟨n, hN⟩ : ∃ n, r.length = n := ⟨_, rfl⟩
    have hN2 : s.length = n := by omega
    have HN := Lib.hid (And.intro hN hN2)
    rw [hN] at hn ⊢
    rw [hN2]
    clear hN hN2 h h2 hm hl
    go_enter Try.func45, Try.ntmps45
    go_wp2
    go_loopw [13] (fun v9 wr => ∃ k : Nat, k ≤ n ∧ v9 = .int .i64 (k : Int) ∧ Hid (∀ i, i < k → r.getD i 0 = s.getD i 0) ∧ Below w.heap.size w wr) (fun v9 _ => n - (intOf v9).toNat)
    case atStart => exact ⟨0, Nat.zero_le _, rfl, Lib.hid (fun i hi => absurd hi (Nat.not_lt_zero i)), Below.refl _ _⟩
    case round =>
      obtain ⟨k, hk, rfl, hb, hB⟩ := hrel
      by_cases hlt : k < n
      · obtain ⟨g, o, rfl, hg, hc⟩ := lies_at (HP.out.1.on hB) (by rw [HN.out.1]; omega)
        obtain ⟨g2, o2, rfl, hg2, hc2⟩ := lies_at (HP.out.2.on hB) (by rw [HN.out.2]; omega)
        have q := hc k (by rw [HN.out.1]; exact hlt)
        have q2 := hc2 k (by rw [HN.out.2]; exact hlt)
        obtain ⟨x, hx⟩ : ∃ x, r.getD k 0 = x := ⟨_, rfl⟩
        obtain ⟨y, hy⟩ : ∃ y, s.getD k 0 = y := ⟨_, rfl⟩
        rw [hx] at q
        rw [hy] at q2
        have i0 : (0 : Int) ≤ (k : Int) := by omega
        have i1 : (k : Int) < (n : Int) := by omega
        have HX := Lib.hid (And.intro hx hy)
        have HB := Lib.hid hB
        clear hx hy hB hc hc2
        by_cases he : x = y
        · have e9 : (x == y) = true := by simpa using he
          have hyes : ∀ i, i < k + 1 → r.getD i 0 = s.getD i 0 := fun i hi => by
            by_cases e : i = k
            · subst e; rw [HX.out.1, HX.out.2]; exact he
            · exact hb.out i (by omega)
          have HS := Lib.hid hyes
          clear hyes he
          go_wp2
          go_quiet (fail)
          go_wp2
          refine ⟨⟨k + 1, by omega, by go_num, HS, drewN_below HB.out _⟩, by simp [intOf]; omega⟩
        · have e9 : (x == y) = false := by simpa using he
          have HS : Hid (r ≠ s) := Lib.hid (ne_getD (z := 0) k (by rw [HX.out.1, HX.out.2]; exact he))
          clear he
          go_wp2
          go_quiet (fail)
          go_wp2
          go_ret
          exact ⟨ret_bool (by simp [HS.out]), drewN_below HB.out _⟩
      · obtain rfl : k = n := by omega
        have HB := Lib.hid hB
        have HS : Hid (r = s) := Lib.hid (ext_getD (z := 0) (by rw [HN.out.1, HN.out.2]) (fun i hi => hb.out i (by rw [← HN.out.1]; exact hi)))
        clear hB
        go_wp2
        go_ret
        exact ⟨ret_bool (by simp [HS.out]), HB.out⟩
  · have HS : Hid (r ≠ s) := Lib.hid (fun e => hl (by rw [e]))
    have h1' : ((r.length : Int) == (s.length : Int)) = false := by simp; omega
    clear h h2 hl
    go_enter Try.func45, Try.ntmps45
    go_wp2
    go_ret
    exact ⟨ret_bool (by simp [HS.out]), Below.refl _ _⟩
set_option maxHeartbeats 1000000 in
theorem eqfunc_impl (w : World) (a b : Option Addr) (c d : Nat) (R S : List (List Int)) (hn : R.length ≤ 1048576) (hm : S.length ≤ 1048576) (tr : tot R ≤ 1048576) (ts : tot S ≤ 1048576) (h : RR w a R) (h2 : RR w b S) :
    Calls Try.prog 44 #[.slice a R.length c, .slice b S.length d, .func (.func 45) #[] #[]] w fun e w' => e = .returned (.bool (sameB R S)) ∧ Below w.heap.size w w' := by
  by_cases hl : R.length = S.length
  · have HP := Lib.hid (And.intro h h2)
    obtain ⟨n, hN⟩ : ∃ n, R.length = n := ⟨_, rfl⟩
    have hN2 : S.length = n := by omega
    have HN := Lib.hid (And.intro hN (And.intro hN2 (And.intro tr ts)))
    rw [hN] at hn ⊢
    rw [hN2]
    clear hN hN2 h h2 hm hl tr ts
    go_enter Try.func44, Try.ntmps44
    go_wp2
    go_loopw [17] (fun v9 wr => ∃ k : Nat, k ≤ n ∧ v9 = .int .i64 (k : Int) ∧ Hid (∀ i, i < k → R.getD i [] = S.getD i []) ∧ Below w.heap.size w wr) (fun v9 _ => n - (intOf v9).toNat)
    case atStart => exact ⟨0, Nat.zero_le _, rfl, Lib.hid (fun i hi => absurd hi (Nat.not_lt_zero i)), Below.refl _ _⟩
    case round =>
      obtain ⟨k, hk, rfl, hb, hB⟩ := hrel
      by_cases hlt : k < n
      · obtain ⟨g, o, rfl, hg, hc⟩ := (HP.out.1.on hB).some (by rw [HN.out.1]; omega)
        obtain ⟨g2, o2, rfl, hg2, hc2⟩ := (HP.out.2.on hB).some (by rw [HN.out.2.1]; omega)
        obtain ⟨a', c', q, hl⟩ := hc k (by rw [HN.out.1]; exact hlt)
        obtain ⟨b', d', q2, hl2⟩ := hc2 k (by rw [HN.out.2.1]; exact hlt)
        have hx0 := tot_at (R := R) (k := k) (by rw [HN.out.1]; exact hlt)
        have hy0 := tot_at (R := S) (k := k) (by rw [HN.out.2.1]; exact hlt)
        obtain ⟨x, hx⟩ : ∃ x, R.getD k [] = x := ⟨_, rfl⟩
        obtain ⟨y, hy⟩ : ∃ y, S.getD k [] = y := ⟨_, rfl⟩
        rw [hx] at q hl hx0
        rw [hy] at q2 hl2 hy0
        have i0 : (0 : Int) ≤ (k : Int) := by omega
        have i1 : (k : Int) < (n : Int) := by omega
        have HX := Lib.hid (And.intro hx hy)
        have HB := Lib.hid hB
        have HL := Lib.hid (And.intro hl (And.intro hl2 (And.intro (show x.length ≤ 1048576 by have := HN.out.2.2.1; omega) (show y.length ≤ 1048576 by have := HN.out.2.2.2; omega))))
        clear hx hy hB hc hc2 hl hl2 hx0 hy0
        go_wp2_with fail
        ((with_reducible refine (equal_impl _ _ _ _ _ x y HL.out.2.2.1 HL.out.2.2.2 HL.out.1 HL.out.2.1).mono ?_); rintro e w1 ⟨rfl, bb⟩)
        have HB1 := Lib.hid (on_of HB.out bb)
        clear bb
        by_cases he : x = y
        · have e9 : decide (x = y) = true := by simpa using he
          have hyes : ∀ i, i < k + 1 → R.getD i [] = S.getD i [] := fun i hi => by
            by_cases e : i = k
            · subst e; rw [HX.out.1, HX.out.2]; exact he
            · exact hb.out i (by omega)
          have HS := Lib.hid hyes
          rw [e9]
          clear hyes he e9
          go_wp2
          go_roundw
          case rel => exact ⟨k + 1, by omega, by go_num, HS, HB1.out⟩
          case measure => simp [intOf]; omega
        · have e9 : decide (x = y) = false := by simpa using he
          have HS : Hid (R ≠ S) := Lib.hid (ne_getD (z := []) k (by rw [HX.out.1, HX.out.2]; exact he))
          rw [e9]
          clear he e9
          go_wp2
          go_ret
          exact ⟨ret_bool (by simp [sameB, HS.out]), HB1.out⟩
      · obtain rfl : k = n := by omega
        have HB := Lib.hid hB
        have HS : Hid (R = S) := Lib.hid (ext_getD (z := []) (by rw [HN.out.1, HN.out.2.1]) (fun i hi => hb.out i (by rw [← HN.out.1]; exact hi)))
        clear hB
        go_wp2
        go_ret
        exact ⟨ret_bool (by simp [sameB, HS.out]), HB.out⟩
  · have HS : Hid (R ≠ S) := Lib.hid (fun e => hl (by rw [e]))
    have h1' : ((R.length : Int) == (S.length : Int)) = false := by simp; omega
    clear h h2 hl
    go_enter Try.func44, Try.ntmps44
    go_wp2
    go_ret
    exact ⟨ret_bool (by simp [sameB, HS.out]), Below.refl _ _⟩
theorem same_impl (w : World) (a b : Option Addr) (c d : Nat) (R S : List (List Int)) (hn : R.length ≤ 1048576) (hm : S.length ≤ 1048576) (tr : tot R ≤ 1048576) (ts : tot S ≤ 1048576) (h : RR w a R) (h2 : RR w b S) :
    Calls Try.prog 15 #[.slice a R.length c, .slice b S.length d] w fun e w' => e = .returned (.bool (sameB R S)) ∧ Below w.heap.size w w' := by
  have HC := Lib.hid (eqfunc_impl w a b c d R S hn hm tr ts h h2)
  clear h h2
  go_enter Try.func15, Try.ntmps15
  go_wp2_with fail
  ((with_reducible refine HC.out.mono ?_); rintro e w1 ⟨rfl, bb⟩)
  go_wp2
  go_ret
  exact ⟨rfl, bb⟩
set_option maxHeartbeats 2000000 in
theorem same_spec (w : World) (a b : Option Addr) (c d : Nat) (R S : List (List Int)) (hn : R.length ≤ 1048576) (hm : S.length ≤ 1048576) (tr : tot R ≤ 1048576) (ts : tot S ≤ 1048576) (h : RR w a R) (h2 : RR w b S) :
    Calls Try.prog 35 #[.slice a R.length c, .slice b S.length d] w fun e w' => e = .returned (.bool (sameB R S)) ∧ Below w.heap.size w w' := by
  by_cases hl : R.length = S.length
  · have HP := Lib.hid (And.intro h h2)
    obtain ⟨n, hN⟩ : ∃ n, R.length = n := ⟨_, rfl⟩
    have hN2 : S.length = n := by omega
    have HN := Lib.hid (And.intro hN (And.intro hN2 (And.intro tr ts)))
    rw [hN] at hn ⊢
    rw [hN2]
    clear hN hN2 h h2 hm hl tr ts
    go_enter Try.func35, Try.ntmps35
    go_wp2
    go_loopw [5] (fun v9 wr => ∃ k : Nat, k ≤ n ∧ v9 = .int .i64 (k : Int) ∧ Hid (∀ i, i < k → R.getD i [] = S.getD i []) ∧ Below w.heap.size w wr) (fun v9 _ => n - (intOf v9).toNat)
    case atStart => exact ⟨0, Nat.zero_le _, rfl, Lib.hid (fun i hi => absurd hi (Nat.not_lt_zero i)), Below.refl _ _⟩
    case round =>
      obtain ⟨k, hk, rfl, hb, hB⟩ := hrel
      by_cases hlt : k < n
      · obtain ⟨g, o, rfl, hg, hc⟩ := (HP.out.1.on hB).some (by rw [HN.out.1]; omega)
        obtain ⟨g2, o2, rfl, hg2, hc2⟩ := (HP.out.2.on hB).some (by rw [HN.out.2.1]; omega)
        obtain ⟨a', c', q, hl⟩ := hc k (by rw [HN.out.1]; exact hlt)
        obtain ⟨b', d', q2, hl2⟩ := hc2 k (by rw [HN.out.2.1]; exact hlt)
        have hx0 := tot_at (R := R) (k := k) (by rw [HN.out.1]; exact hlt)
        have hy0 := tot_at (R := S) (k := k) (by rw [HN.out.2.1]; exact hlt)
        obtain ⟨x, hx⟩ : ∃ x, R.getD k [] = x := ⟨_, rfl⟩
        obtain ⟨y, hy⟩ : ∃ y, S.getD k [] = y := ⟨_, rfl⟩
        rw [hx] at q hl hx0
        rw [hy] at q2 hl2 hy0
        have i0 : (0 : Int) ≤ (k : Int) := by omega
        have i1 : (k : Int) < (n : Int) := by omega
        have hxm : x.length ≤ 1048576 := by have := HN.out.2.2.1; omega
        have hym : y.length ≤ 1048576 := by have := HN.out.2.2.2; omega
        have HX := Lib.hid (And.intro hx hy)
        have HB := Lib.hid hB
        have HL := Lib.hid (And.intro hl hl2)
        have HG := Lib.hid (And.intro hg hg2)
        clear hx hy hB hc hc2 hl hl2 hx0 hy0
        by_cases hle : x.length = y.length
        · obtain ⟨m, hM⟩ : ∃ m, x.length = m := ⟨_, rfl⟩
          have hM2 : y.length = m := by omega
          have HM := Lib.hid (And.intro hM hM2)
          rw [hM] at q hxm
          rw [hM2] at q2
          have HQ := Lib.hid (And.intro q q2)
          have e9 : ((m : Int) == (m : Int)) = true := by simp
          clear hM hM2 hle hym
          obtain ⟨wz, rfl⟩ : ∃ wz : World, wz = wr := ⟨_, rfl⟩
          go_wp2
          go_quiet (fail)
          go_wp2
          clear e9 q q2
          go_loopw [6] (fun v9 wr => ∃ j : Nat, j ≤ m ∧ v9 = .int .i64 (j : Int) ∧ Hid (∀ i, i < j → x.getD i 0 = y.getD i 0) ∧ Below wz.heap.size wz wr) (fun v9 _ => m - (intOf v9).toNat)
          case atStart => exact ⟨0, Nat.zero_le _, rfl, Lib.hid (fun i hi => absurd hi (Nat.not_lt_zero i)), drewN_below (Below.refl _ _) _⟩
          case round =>
            obtain ⟨j, hj, rfl, hb1, hB1⟩ := hrel
            have q : wr.cell? ⟨g, o + k, none⟩ = some (.slice a' m c') := (hB1.cell (p := ⟨g, o + k, none⟩) HG.out.1).trans HQ.out.1
            have q2 : wr.cell? ⟨g2, o2 + k, none⟩ = some (.slice b' m d') := (hB1.cell (p := ⟨g2, o2 + k, none⟩) HG.out.2).trans HQ.out.2
            by_cases hlt2 : j < m
            · obtain ⟨h, p, rfl, hh, hc⟩ := lies_at (HL.out.1.on hB1) (by rw [HM.out.1]; omega)
              obtain ⟨h2, p2, rfl, hh2, hc2⟩ := lies_at (HL.out.2.on hB1) (by rw [HM.out.2]; omega)
              have z := hc j (by rw [HM.out.1]; exact hlt2)
              have z2 := hc2 j (by rw [HM.out.2]; exact hlt2)
              obtain ⟨u, hu⟩ : ∃ u, x.getD j 0 = u := ⟨_, rfl⟩
              obtain ⟨v, hv⟩ : ∃ v, y.getD j 0 = v := ⟨_, rfl⟩
              rw [hu] at z
              rw [hv] at z2
              have j0 : (0 : Int) ≤ (j : Int) := by omega
              have j1 : (j : Int) < (m : Int) := by omega
              have HU := Lib.hid (And.intro hu hv)
              have HB1 := Lib.hid hB1
              clear hu hv hB1 hc hc2
              by_cases he : u = v
              · have e9 : (u == v) = true := by simpa using he
                have hyes : ∀ i, i < j + 1 → x.getD i 0 = y.getD i 0 := fun i hi => by
                  by_cases e : i = j
                  · subst e; rw [HU.out.1, HU.out.2]; exact he
                  · exact hb1.out i (by omega)
                have HS := Lib.hid hyes
                clear hyes he
                go_wp2
                go_quiet (fail)
                go_wp2
                refine ⟨⟨j + 1, by omega, by go_num, HS, drewN_below HB1.out _⟩, by simp [intOf]; omega⟩
              · have e9 : (u == v) = false := by simpa using he
                have HS : Hid (R ≠ S) := Lib.hid (ne_getD (z := []) k (by rw [HX.out.1, HX.out.2]; exact ne_getD (z := 0) j (by rw [HU.out.1, HU.out.2]; exact he)))
                clear he
                go_wp2
                go_quiet (fail)
                go_wp2
                go_ret
                exact ⟨ret_bool (by simp [sameB, HS.out]), drewN_below (on_of HB.out HB1.out) _⟩
            · obtain rfl : j = m := by omega
              have HB1 := Lib.hid hB1
              have hyes : ∀ i, i < k + 1 → R.getD i [] = S.getD i [] := fun i hi => by
                by_cases e : i = k
                · subst e; rw [HX.out.1, HX.out.2]; exact ext_getD (z := 0) (by rw [HM.out.1, HM.out.2]) (fun i hi => hb1.out i (by rw [← HM.out.1]; exact hi))
                · exact hb.out i (by omega)
              have HS := Lib.hid hyes
              clear hyes hB1
              go_wp2
              go_roundw
              case rel => exact ⟨k + 1, by omega, by go_num, HS, on_of HB.out HB1.out⟩
              case measure => simp [intOf]; omega
        · have HS : Hid (R ≠ S) := Lib.hid (ne_getD (z := []) k (by rw [HX.out.1, HX.out.2]; exact fun e => hle (by rw [e])))
          have e9 : ((x.length : Int) == (y.length : Int)) = false := by simp; omega
          clear hle
          go_wp2
          go_quiet (fail)
          go_wp2
          go_ret
          exact ⟨ret_bool (by simp [sameB, HS.out]), drewN_below HB.out _⟩
      · obtain rfl : k = n := by omega
        have HB := Lib.hid hB
        have HS : Hid (R = S) := Lib.hid (ext_getD (z := []) (by rw [HN.out.1, HN.out.2.1]) (fun i hi => hb.out i (by rw [← HN.out.1]; exact hi)))
        clear hB
        go_wp2
        go_ret
        exact ⟨ret_bool (by simp [sameB, HS.out]), HB.out⟩
  · have HS : Hid (R ≠ S) := Lib.hid (fun e => hl (by rw [e]))
    have h1' : ((R.length : Int) == (S.length : Int)) = false := by simp; omega
    clear h h2 hl
    go_enter Try.func35, Try.ntmps35
    go_wp2
    go_ret
    exact ⟨ret_bool (by simp [sameB, HS.out]), Below.refl _ _⟩
def cnt1 (v : Int) (r : List Int) : Nat := (r.map fun x => if x = v then 1 else 0).sum
def cntR (v : Int) (R : List (List Int)) : Nat := (R.map (cnt1 v)).sum
theorem cnt1_le (v : Int) (r : List Int) : cnt1 v r ≤ r.length := by
  induction r with
  | nil => simp [cnt1]
  | cons x r ih => simp only [cnt1, List.map_cons, List.sum_cons, List.length_cons] at *; split <;> omega
theorem cntR_le (v : Int) (R : List (List Int)) : cntR v R ≤ tot R := by
  induction R with
  | nil => simp [cntR, tot]
  | cons r R ih => have := cnt1_le v r; simp only [cntR, tot, List.map_cons, List.sum_cons] at *; omega
theorem cnt1_take {v : Int} {r : List Int} {k : Nat} (h : k < r.length) : cnt1 v (r.take (k + 1)) = cnt1 v (r.take k) + (if r.getD k 0 = v then 1 else 0) := by
  rw [List.take_succ_eq_append_getElem h]
  simp only [cnt1, List.map_append, List.sum_append, List.map_cons, List.map_nil, List.sum_cons, List.sum_nil, Nat.add_zero]
  simp [List.getD, List.getElem?_eq_getElem h]
theorem cntR_take {v : Int} {R : List (List Int)} {k : Nat} (h : k < R.length) : cntR v (R.take (k + 1)) = cntR v (R.take k) + cnt1 v (R.getD k []) := by
  rw [List.take_succ_eq_append_getElem h]
  simp only [cntR, List.map_append, List.sum_append, List.map_cons, List.map_nil, List.sum_cons, List.sum_nil, Nat.add_zero]
  simp [List.getD, List.getElem?_eq_getElem h]
theorem cnt1_upto (v : Int) (r : List Int) (k : Nat) : cnt1 v (r.take k) ≤ cnt1 v r := by
  have : cnt1 v r = cnt1 v (r.take k) + cnt1 v (r.drop k) := by
    have : cnt1 v (r.take k ++ r.drop k) = cnt1 v (r.take k) + cnt1 v (r.drop k) := by simp only [cnt1, List.map_append, List.sum_append]
    rw [← this, List.take_append_drop]
  omega
theorem cntR_upto (v : Int) (R : List (List Int)) (k : Nat) : cntR v (R.take k) ≤ cntR v R := by
  have : cntR v R = cntR v (R.take k) + cntR v (R.drop k) := by
    have : cntR v (R.take k ++ R.drop k) = cntR v (R.take k) + cntR v (R.drop k) := by simp only [cntR, List.map_append, List.sum_append]
    rw [← this, List.take_append_drop]
  omega
set_option maxHeartbeats 2000000 in
theorem count_impl (w : World) (a : Option Addr) (c : Nat) (R : List (List Int)) (v : Int) (hn : R.length ≤ 1048576) (ht : tot R ≤ 1048576) (h : RR w a R) :
    Calls Try.prog 21 #[.slice a R.length c, .int .i64 v] w fun e w' => e = .returned (.int .i64 (cntR v R : Nat)) ∧ Below w.heap.size w w' := by
  have HP := Lib.hid h
  obtain ⟨n, hN⟩ : ∃ n, R.length = n := ⟨_, rfl⟩
  have HN := Lib.hid (And.intro hN (And.intro ht (cntR_le v R)))
  rw [hN] at hn ⊢
  clear hN h ht
  go_enter Try.func21, Try.ntmps21
  go_wp2
  go_loopw [5, 12] (fun v5 v9 wr => ∃ k s : Nat, k ≤ n ∧ v9 = .int .i64 (k : Int) ∧ v5 = .int .i64 (s : Int) ∧ s ≤ 1048576 ∧ Hid (s = cntR v (R.take k)) ∧ Below w.heap.size w wr) (fun v5 v9 _ => n - (intOf v9).toNat)
  case atStart => exact ⟨0, 0, Nat.zero_le _, rfl, rfl, by omega, Lib.hid rfl, Below.refl _ _⟩
  case round =>
    obtain ⟨k, s, hk, rfl, rfl, hs, hS, hB⟩ := hrel
    by_cases hlt : k < n
    · obtain ⟨g, o, rfl, hg, hc⟩ := (HP.out.on hB).some (by rw [HN.out.1]; omega)
      obtain ⟨a', c', q, hl⟩ := hc k (by rw [HN.out.1]; exact hlt)
      have hx0 := tot_at (R := R) (k := k) (by rw [HN.out.1]; exact hlt)
      have ct := cntR_take (v := v) (R := R) (k := k) (by rw [HN.out.1]; exact hlt)
      have cu := cntR_upto v R (k + 1)
      obtain ⟨x, hx⟩ : ∃ x, R.getD k [] = x := ⟨_, rfl⟩
      rw [hx] at q hl hx0 ct
      have hxm : x.length ≤ 1048576 := by have := HN.out.2.1; omega
      obtain ⟨m, hM⟩ : ∃ m, x.length = m := ⟨_, rfl⟩
      rw [hM] at q hxm
      have HL := Lib.hid (And.intro hl (And.intro hM (show s + cnt1 v x ≤ 1048576 by have := HN.out.2; have := hS.out; omega)))
      have HT := Lib.hid (show s + cnt1 v x = cntR v (R.take (k + 1)) by rw [ct, ← hS.out])
      have i0 : (0 : Int) ≤ (k : Int) := by omega
      have i1 : (k : Int) < (n : Int) := by omega
      obtain ⟨wz, rfl⟩ : ∃ wz : World, wz = wr := ⟨_, rfl⟩
      have HB := Lib.hid hB
      clear hx hB hc hl hx0 ct cu hM
      go_wp2
      go_loopw [5, 18] (fun v5 v9 wr => ∃ j t : Nat, j ≤ m ∧ v9 = .int .i64 (j : Int) ∧ v5 = .int .i64 (t : Int) ∧ t ≤ 1048576 ∧ Hid (t = s + cnt1 v (x.take j)) ∧ Below wz.heap.size wz wr) (fun v5 v9 _ => m - (intOf v9).toNat)
      case atStart => exact ⟨0, s, Nat.zero_le _, rfl, rfl, hs, Lib.hid rfl, Below.refl _ _⟩
      case round =>
        obtain ⟨j, t, hj, rfl, rfl, ht, hT, hB1⟩ := hrel
        by_cases hlt2 : j < m
        · obtain ⟨h, p, rfl, hh, hc⟩ := lies_at (HL.out.1.on hB1) (by rw [HL.out.2.1]; omega)
          have z := hc j (by rw [HL.out.2.1]; exact hlt2)
          have ct := cnt1_take (v := v) (r := x) (k := j) (by rw [HL.out.2.1]; exact hlt2)
          have cu := cnt1_upto v x (j + 1)
          obtain ⟨u, hu⟩ : ∃ u, x.getD j 0 = u := ⟨_, rfl⟩
          rw [hu] at z ct
          have j0 : (0 : Int) ≤ (j : Int) := by omega
          have j1 : (j : Int) < (m : Int) := by omega
          have HB1 := Lib.hid hB1
          by_cases he : u = v
          · have e9 : (u == v) = true := by simpa using he
            rw [if_pos he] at ct
            have HT2 := Lib.hid (show t + 1 = s + cnt1 v (x.take (j + 1)) by rw [ct, hT.out]; omega)
            have hb2 : t + 1 ≤ 1048576 := by have := HL.out.2.2; have := HT2.out; omega
            clear hB1 hc hu he ct cu
            go_wp2
            go_roundw
            case rel => exact ⟨j + 1, t + 1, by omega, by go_num, by go_num, hb2, HT2, HB1.out⟩
            case measure => simp [intOf]; omega
          · have e9 : (u == v) = false := by simpa using he
            rw [if_neg he] at ct
            have HT2 := Lib.hid (show t = s + cnt1 v (x.take (j + 1)) by rw [ct, hT.out]; omega)
            clear hB1 hc hu he ct cu
            go_wp2
            go_roundw
            case rel => exact ⟨j + 1, t, by omega, by go_num, by go_num, ht, HT2, HB1.out⟩
            case measure => simp [intOf]; omega
        · obtain rfl : j = m := by omega
          have HB1 := Lib.hid hB1
          have HT2 := Lib.hid (show t = cntR v (R.take (k + 1)) by rw [← HT.out, hT.out, ← HL.out.2.1, List.take_length])
          clear hB1
          go_wp2
          go_roundw
          case rel => exact ⟨k + 1, t, by omega, by go_num, by go_num, ht, HT2, on_of HB.out HB1.out⟩
          case measure => simp [intOf]; omega
    · obtain rfl : k = n := by omega
      have HB := Lib.hid hB
      have HS := Lib.hid (show s = cntR v R by rw [hS.out, ← HN.out.1, List.take_length])
      clear hB
      go_wp2
      go_ret
      exact ⟨by rw [HS.out]; rfl, HB.out⟩
set_option maxHeartbeats 2000000 in
theorem count_spec (w : World) (a : Option Addr) (c : Nat) (R : List (List Int)) (v : Int) (hn : R.length ≤ 1048576) (ht : tot R ≤ 1048576) (h : RR w a R) :
    Calls Try.prog 36 #[.slice a R.length c, .int .i64 v] w fun e w' => e = .returned (.int .i64 (cntR v R : Nat)) ∧ Below w.heap.size w w' := by
  have HP := Lib.hid h
  obtain ⟨n, hN⟩ : ∃ n, R.length = n := ⟨_, rfl⟩
  have HN := Lib.hid (And.intro hN (And.intro ht (cntR_le v R)))
  rw [hN] at hn ⊢
  clear hN h ht
  go_enter Try.func36, Try.ntmps36
  go_wp2
  go_loopw [5, 6] (fun v5 v9 wr => ∃ k s : Nat, k ≤ n ∧ v9 = .int .i64 (k : Int) ∧ v5 = .int .i64 (s : Int) ∧ s ≤ 1048576 ∧ Hid (s = cntR v (R.take k)) ∧ Below w.heap.size w wr) (fun v5 v9 _ => n - (intOf v9).toNat)
  case atStart => exact ⟨0, 0, Nat.zero_le _, rfl, rfl, by omega, Lib.hid rfl, Below.refl _ _⟩
  case round =>
    obtain ⟨k, s, hk, rfl, rfl, hs, hS, hB⟩ := hrel
    by_cases hlt : k < n
    · obtain ⟨g, o, rfl, hg, hc⟩ := (HP.out.on hB).some (by rw [HN.out.1]; omega)
      obtain ⟨a', c', q, hl⟩ := hc k (by rw [HN.out.1]; exact hlt)
      have hx0 := tot_at (R := R) (k := k) (by rw [HN.out.1]; exact hlt)
      have ct := cntR_take (v := v) (R := R) (k := k) (by rw [HN.out.1]; exact hlt)
      have cu := cntR_upto v R (k + 1)
      obtain ⟨x, hx⟩ : ∃ x, R.getD k [] = x := ⟨_, rfl⟩
      rw [hx] at q hl hx0 ct
      have hxm : x.length ≤ 1048576 := by have := HN.out.2.1; omega
      obtain ⟨m, hM⟩ : ∃ m, x.length = m := ⟨_, rfl⟩
      rw [hM] at q hxm
      have HL := Lib.hid (And.intro hl (And.intro hM (show s + cnt1 v x ≤ 1048576 by have := HN.out.2; have := hS.out; omega)))
      have HT := Lib.hid (show s + cnt1 v x = cntR v (R.take (k + 1)) by rw [ct, ← hS.out])
      have i0 : (0 : Int) ≤ (k : Int) := by omega
      have i1 : (k : Int) < (n : Int) := by omega
      obtain ⟨wz, rfl⟩ : ∃ wz : World, wz = wr := ⟨_, rfl⟩
      have HB := Lib.hid hB
      have HQ := Lib.hid (And.intro hg q)
      clear hx hB hc hl hx0 ct cu hM q
      go_wp2
      go_loopw [5, 7] (fun v5 v9 wr => ∃ j t : Nat, j ≤ m ∧ v9 = .int .i64 (j : Int) ∧ v5 = .int .i64 (t : Int) ∧ t ≤ 1048576 ∧ Hid (t = s + cnt1 v (x.take j)) ∧ Below wz.heap.size wz wr) (fun v5 v9 _ => m - (intOf v9).toNat)
      case atStart => exact ⟨0, s, Nat.zero_le _, rfl, rfl, hs, Lib.hid rfl, Below.refl _ _⟩
      case round =>
        obtain ⟨j, t, hj, rfl, rfl, ht, hT, hB1⟩ := hrel
        have q : wr.cell? ⟨g, o + k, none⟩ = some (.slice a' m c') := (hB1.cell (p := ⟨g, o + k, none⟩) HQ.out.1).trans HQ.out.2
        by_cases hlt2 : j < m
        · obtain ⟨h, p, rfl, hh, hc⟩ := lies_at (HL.out.1.on hB1) (by rw [HL.out.2.1]; omega)
          have z := hc j (by rw [HL.out.2.1]; exact hlt2)
          have ct := cnt1_take (v := v) (r := x) (k := j) (by rw [HL.out.2.1]; exact hlt2)
          have cu := cnt1_upto v x (j + 1)
          obtain ⟨u, hu⟩ : ∃ u, x.getD j 0 = u := ⟨_, rfl⟩
          rw [hu] at z ct
          have j0 : (0 : Int) ≤ (j : Int) := by omega
          have j1 : (j : Int) < (m : Int) := by omega
          have HB1 := Lib.hid hB1
          by_cases he : u = v
          · have e9 : (u == v) = true := by simpa using he
            rw [if_pos he] at ct
            have HT2 := Lib.hid (show t + 1 = s + cnt1 v (x.take (j + 1)) by rw [ct, hT.out]; omega)
            have hb2 : t + 1 ≤ 1048576 := by have := HL.out.2.2; have := HT2.out; omega
            clear hB1 hc hu he ct cu
            go_wp2
            go_roundw
            case rel => exact ⟨j + 1, t + 1, by omega, by go_num, by go_num, hb2, HT2, HB1.out⟩
            case measure => simp [intOf]; omega
          · have e9 : (u == v) = false := by simpa using he
            rw [if_neg he] at ct
            have HT2 := Lib.hid (show t = s + cnt1 v (x.take (j + 1)) by rw [ct, hT.out]; omega)
            clear hB1 hc hu he ct cu
            go_wp2
            go_roundw
            case rel => exact ⟨j + 1, t, by omega, by go_num, by go_num, ht, HT2, HB1.out⟩
            case measure => simp [intOf]; omega
        · obtain rfl : j = m := by omega
          have HB1 := Lib.hid hB1
          have HT2 := Lib.hid (show t = cntR v (R.take (k + 1)) by rw [← HT.out, hT.out, ← HL.out.2.1, List.take_length])
          clear hB1
          go_wp2
          go_roundw
          case rel => exact ⟨k + 1, t, by omega, by go_num, by go_num, ht, HT2, on_of HB.out HB1.out⟩
          case measure => simp [intOf]; omega
    · obtain rfl : k = n := by omega
      have HB := Lib.hid hB
      have HS := Lib.hid (show s = cntR v R by rw [hS.out, ← HN.out.1, List.take_length])
      clear hB
      go_wp2
      go_ret
      exact ⟨by rw [HS.out]; rfl, HB.out⟩
end Go.Proofs.Ytifmdgncgokikaa.Own
