/-
  Texts of this seat, laid together: Impl5
-/
import Derived.Laws.EntriesVeiled
import Derived.Laws.OwnMore
import Derived.Test.YtjmfgbbngocodaaGreatV19
import Derived.Test.YtjmfgbbngocodaaGreatV04
namespace Go.Proofs.YtjmfgbbngocodaaGreat.Impl
open Go.ChangeShapes Go.WideShapes Go.ChangeAt Go.RowKit
open Kit Slabs Ints Stack Push Take Opn SOp
set_option linter.unusedVariables false
set_option linter.unusedSimpArgs false
set_option linter.unnecessarySimpa false
set_option maxRecDepth 100000
set_option maxHeartbeats 1000000 in
theorem copy_impl (w : World) (v : Value) (n : Nat) (X : Nat → Int) (hn : n ≤ 2000000) (h : Rd w v n X) :
    Calls Tryz.prog 117 #[v] w fun e w' => ∃ u, e = .returned u ∧ w'.ownsRow w.heap.size 3 1 u n (flat (ic X) n) ∧ Below w.heap.size w w' := by
  obtain ⟨i0, hi0, hz0, hz1, hz2⟩ := info_parts info3
  have ho := World.ownsRow_made w #[] (e := 3) (size := 1) 0 (Nat.le_refl _) (by decide) (by simp)
  obtain ⟨a, cap, rfl, hc, h⟩ := h
  rcases h with h | ⟨g, o, rfl, hg, hcs⟩
  · subst h
    cases a with
    | none =>
      go_enter Tryz.func117, Tryz.ntmps117
      go_wp2
      go_ret
      exact ⟨_, rfl, ho, by go_grown⟩
    | some ad =>
      have HO := Lib.hid ho
      clear ho
      go_enter Tryz.func117, Tryz.ntmps117
      go_wp2_with (at_builtin; refine wpList_append_own _ rfl _ _ 22 rfl w.heap.size 3 i0 (.int .i64 0) 1 8 Tryz.underlying22 hi0 hz0 hz1 hz2 rfl (by decide) _ 0 [] rfl HO.out ad 0 cap [] rfl rfl ?c1 ?c2 ?c3 ?c4 ?c5 ?_)
      case c1 => intro j u hu; simp at hu
      case c2 => simp
      case c3 => unfold maxLen; omega
      case c4 => omega
      case c5 => simp
      intro v2 w2 hown hgrow _
      have hB := ((Below.refl w.heap.size w).alloc (Nat.le_refl _) (.cells #[] 3)).grown hgrow (by simp) (fun q hq => by have := (HO.out.lt q hq).1; omega)
      have HX := Lib.hid (And.intro hown hB)
      clear hown hB hgrow
      go_wp2
      go_ret
      exact ⟨_, rfl, by simpa [flat_zero] using HX.out.1, HX.out.2⟩
  · have HO := Lib.hid (And.intro ho hcs)
    clear ho hcs
    go_enter Tryz.func117, Tryz.ntmps117
    go_wp2_with (at_builtin; refine wpList_append_own _ rfl _ _ 22 rfl w.heap.size 3 i0 (.int .i64 0) 1 8 Tryz.underlying22 hi0 hz0 hz1 hz2 rfl (by decide) _ 0 [] rfl HO.out.1 ⟨g, o, none⟩ n cap (flat (ic X) n) rfl ?c0 ?c1 ?c2 ?c3 ?c4 ?c5 ?_)
    case c0 => rw [flat_ic_len]; omega
    case c1 =>
      intro j u hu
      have hj : j < n := by have := (List.getElem?_eq_some_iff.1 hu).1; rw [flat_ic_len] at this; exact this
      rw [flat_ic X n j hj] at hu
      injection hu with hu
      subst hu
      have h1 := HO.out.2 j hj
      have h2 : (w.alloc (.cells #[] 3)).cell? ⟨g, o + j, none⟩ = some (.int .i64 (X j)) := (World.cell?_alloc_lt _ _ _ hg).trans h1
      by_cases h0 : j = 0
      · subst h0; simpa [Addr.add] using h2
      · simpa [Addr.add, h0] using h2
    case c2 => exact flat_one X n
    case c3 => unfold maxLen; omega
    case c4 => omega
    case c5 => simp
    intro v2 w2 hown hgrow _
    have hB := ((Below.refl w.heap.size w).alloc (Nat.le_refl _) (.cells #[] 3)).grown hgrow (by simp) (fun q hq => by have := (HO.out.1.lt q hq).1; omega)
    have HX := Lib.hid (And.intro hown hB)
    clear hown hB hgrow
    go_wp2
    go_ret
    exact ⟨_, rfl, by simpa using HX.out.1, HX.out.2⟩
set_option maxHeartbeats 1000000 in
theorem stok_same (w : World) (v : Value) (n : Nat) (X : Nat → Int) (hn : n ≤ 2000000) (h : Rd w v n X) :
    Calls Tryz.prog 112 #[v] w fun e w' => e = .returned (.bool (stB X n)) ∧ w = w' := by
  obtain ⟨a, cap, rfl, hc, h⟩ := h
  by_cases hl : 12 < n
  · have hno : stB X n = false := by simp [stB]; omega
    have h12 : (12 : Int) < (n : Int) := by omega
    go_enter Tryz.func112, Tryz.ntmps112
    go_wp2
    go_ret
    exact ⟨ret_bool hno.symm, rfl⟩
  have h12 : ¬ (12 : Int) < (n : Int) := by omega
  have hd12 : decide ((12 : Int) < (n : Int)) = false := by simpa using h12
  by_cases hn0 : n = 0
  · subst hn0
    clear h
    go_enter Tryz.func112, Tryz.ntmps112
    go_wp2
    go_rounds 1
    go_ret
    exact ⟨rfl, rfl⟩
  · rcases h with h | ⟨g, o, rfl, hg, hcs⟩
    · exact absurd h hn0
    have HC := Lib.hid hcs
    clear hcs
    go_enter Tryz.func112, Tryz.ntmps112
    go_wp2
    go_loopw [10] (fun v3 wr => ∃ k : Nat, k ≤ n ∧ v3 = .int .i64 (k : Int) ∧ numsB X k = true ∧ wr = w) (fun v3 _ => n - (intOf v3).toNat)
    case atStart => exact ⟨0, Nat.zero_le _, rfl, rfl, rfl⟩
    case round =>
      obtain ⟨k, hk, rfl, hb, rfl⟩ := hrel
      have HB := Lib.hid hb
      clear hb
      by_cases hlt : k < n
      · have q0 := HC.out k hlt
        obtain ⟨x, hx⟩ : ∃ x, X k = x := ⟨_, rfl⟩
        rw [hx] at q0
        have i0 : (0 : Int) ≤ (k : Int) := by omega
        have i1 : (k : Int) < (n : Int) := by omega
        by_cases hr1 : x < -9999
        · have hno : stB X n = false := by rw [stB, numsB_no hlt (by rw [hx]; omega)]; simp
          have HS := Lib.hid hno
          clear hno hx
          go_wp2
          go_ret
          exact ⟨ret_bool HS.out.symm, by first | rfl | trivial⟩
        by_cases hr2 : 9999 < x
        · have hno : stB X n = false := by rw [stB, numsB_no hlt (by rw [hx]; omega)]; simp
          have HS := Lib.hid hno
          clear hno hx
          go_wp2
          go_ret
          exact ⟨ret_bool HS.out.symm, by first | rfl | trivial⟩
        have hs : numsB X (k + 1) = true := by rw [numsB_succ, HB.out, hx]; simp; omega
        have HS := Lib.hid hs
        clear hs hx
        go_wp2
        go_roundw
        case rel => exact ⟨k + 1, by omega, by go_num, HS.out, by first | rfl | trivial⟩
        case measure => simp [intOf]; omega
      · obtain rfl : k = n := by omega
        go_wp2
        go_ret
        exact ⟨ret_bool (by rw [stB, HB.out, Bool.and_true]; symm; apply decide_eq_true; omega), rfl⟩
theorem stB_less {X : Nat → Int} {n : Nat} {m : Int} (h : stB (pt X n m) (n + 1) = true) : stB X n = true := by
  have h2 := h
  rw [stB, Bool.and_eq_true, numsB_iff] at h2 ⊢
  refine ⟨by simpa using (by have := h2.1; simp at this; omega : n ≤ 12), fun i hi => ?_⟩
  have := h2.2 i (by omega)
  rwa [pt_lt m hi] at this
set_option maxHeartbeats 2000000 in
theorem push_impl (w : World) (v : Value) (n : Nat) (X : Nat → Int) (m : Int) (hn : n ≤ 1048576) (h : Rd w v n X) :
    Calls Tryz.prog 84 #[v, .int .i64 m] w (PuLeft X n m w) := by
  obtain ⟨i0, hi0, hz0, hz1, hz2⟩ := info_parts info3
  have HR := Lib.hid h
  clear h
  cases h2 : stB (pt X n m) (n + 1)
  all_goals
    go_enter Tryz.func84, Tryz.ntmps84
    go_wp2_with fail
    ((with_reducible refine (copy_impl _ _ _ _ (by omega) HR.out).mono ?_); rintro e w1 ⟨u1, rfl, ho1, hb1⟩)
    have HO := Lib.hid ho1
    clear ho1
    go_wp2_with (at_builtin; refine wpList_append_own _ rfl _ _ 22 rfl w.heap.size 3 i0 (.int .i64 0) 1 8 Tryz.underlying22 hi0 hz0 hz1 hz2 rfl (by decide) _ _ _ rfl (HO.out.alloc _) ⟨w1.heap.size, 0, none⟩ 1 1 [.int .i64 m] rfl rfl ?c1 ?c2 ?c3 ?c4 ?c5 ?_)
    case c1 => exact World.news_of_block (cs := #[.int .i64 m]) (t := 3) (fr := (0, 0)) (heap_alloc_new w1 _)
    case c2 => simp [Value.oneCell']
    case c3 => unfold maxLen; omega
    case c4 => omega
    case c5 => have := hb1.size; simp; omega
    intro u2 w2 ho2 hgrow _
    rw [flat_pt] at ho2
    have hB2 : Below w.heap.size w w2 := (hb1.alloc hb1.size (.cells #[.int .i64 m] 3)).grown hgrow (by have := hb1.size; simp; omega) (fun q hq => by have := ((HO.out.alloc (.cells #[.int .i64 m] 3)).lt q hq).1; omega)
    have hr2 := owns_rd ho2
    have H2 := Lib.hid (And.intro ho2 (And.intro hB2 hr2))
    clear ho2 hB2 hr2 hgrow hb1
    go_wp2_with (first
      | (go_at_call 112; (with_reducible refine (stok_same _ _ _ _ (by omega) H2.out.2.2).mono ?_); rintro e w' ⟨rfl, rfl⟩; rw [h2])
      | (go_at_call 117; (with_reducible refine (copy_impl _ _ _ _ (by omega) (HR.out.on H2.out.2.1)).mono ?_); rintro e w3 ⟨u3, rfl, ho3, hb3⟩; have HB3 := Lib.hid (And.intro ho3 hb3); clear ho3 hb3))
    refine bodyPost_ret (by simp [results, Tryz.results84, go_sem, *]; try rfl) rfl ?_
  · exact pu_no (by simp [puB, h2]) H2.out.2.1.size HB3.out.1 (on_of H2.out.2.1 HB3.out.2)
  · have hb : puB X n m = true := by simp [puB, stB_less h2, h2]
    refine ⟨u2, by rw [hb], ?_, H2.out.2.1⟩
    rw [show puN X n m = n + 1 by simp [puN, hb]]
    exact Slab.of_owns H2.out.1 (ic_len _)
theorem ta_yesA {X : Nat → Int} {n k : Nat} (h : taB X n (k : Int) = true) {w w1 w' : World} {u1 u2 : Value} (hB : w.heap.size ≤ w1.heap.size) (h0 : w1.ownsRow w.heap.size 3 1 u1 (n - k) (flat (ic X) (n - k))) (h1 : w'.ownsRow w.heap.size 3 1 u1 (n - k) (flat (ic X) (n - k)))
    (h2 : w'.ownsRow w1.heap.size 3 1 u2 k (flat (ic fun i => X (n - k + i)) k)) (hb : Below w.heap.size w w') : TaApart X n k w (.returned (.tuple #[u1, u2, .bool true])) w' := by
  have e1 : ta1 X n (k : Int) = n - k := by simp [ta1, h]
  have e2 : ta2 X n (k : Int) = k := by simp [ta2, h]
  refine ⟨u1, u2, by rw [h], by rw [e1]; exact h1, by rw [e2]; simpa using owns_mono h2 hB, ?_, hb⟩
  intro g hg hg2
  have a1 := (Slab.of_owns h0 (ic_len X)).row g (by rw [e1] at hg; exact hg)
  have a2 := (Slab.of_owns h2 (ic_len _)).row g (by rw [e2] at hg2; exact hg2)
  omega
theorem ta_noA {X : Nat → Int} {n : Nat} {c : Int} (h : taB X n c = false) {w w' : World} {u1 : Value} (h1 : w'.ownsRow w.heap.size 3 1 u1 n (flat (ic X) n)) (hb : Below w.heap.size w w') : TaApart X n c w (.returned (.tuple #[u1, .slice none 0 0, .bool false])) w' := by
  have e1 : ta1 X n c = n := by simp [ta1, h]
  have e2 : ta2 X n c = 0 := by simp [ta2, h]
  exact ⟨u1, .slice none 0 0, by rw [h], by rw [e1]; exact h1, by rw [e2]; exact World.ownsRow_nil _ _ _ _, fun g _ hg => by simp [rowOf, e2] at hg, hb⟩
set_option maxHeartbeats 2000000 in
theorem take_impl (w : World) (v : Value) (n : Nat) (X : Nat → Int) (c : Int) (hn : n ≤ 1048576) (h : Rd w v n X) :
    Calls Tryz.prog 88 #[v, .int .i64 c] w (TaApart X n c w) := by
  have HR := Lib.hid h
  cases hd : decide (0 ≤ c ∧ c ≤ (n : Int)) <;> cases h1 : stB X n
  case true.true =>
    have hd2 : 0 ≤ c ∧ c ≤ (n : Int) := by simpa using hd
    obtain ⟨k, rfl⟩ : ∃ k : Nat, c = k := ⟨c.toNat, by omega⟩
    have hk : k ≤ n := by omega
    obtain ⟨a, cap, rfl, hc, h⟩ := h
    have hcap : (n : Int) ≤ (cap : Int) := by omega
    have hnk : n - k ≤ 2000000 := by omega
    have hkk : k ≤ 2000000 := by omega
    have hn1 : ¬ (k : Int) < 0 := by omega
    have hn2 : ¬ (n : Int) < (k : Int) := by omega
    rcases h with h0 | ⟨g, o, rfl, hg, hcs⟩
    · subst h0
      obtain rfl : k = 0 := by omega
      have hd : decide ((0 : Int) ≤ 0 ∧ (0 : Int) ≤ 0) = true := by simp
      clear hd2 hk hnk hkk hcap
      have hE : ∀ (W : World) (a : Option Addr) (cap : Nat), Rd W (.slice a 0 cap) 0 X := fun W a cap => ⟨a, cap, rfl, Nat.zero_le _, .inl rfl⟩
      have HE := Lib.hid hE
      clear hE
      clear HR
      have hcc : cap = 0 ∨ cap ≠ 0 := by omega
      rcases hcc with rfl | hcz
      all_goals
        cases a
        all_goals
          go_enter Tryz.func88, Tryz.ntmps88
          go_upto_region 4 with (first
            | (go_at_call 112; (with_reducible refine (stok_same _ _ 0 X (by omega) (HE.out _ _ _)).mono ?_); rintro e w' ⟨rfl, rfl⟩; rw [h1]))
          go_region_held3 (fun w' => Below w.heap.size w w') (first | exact hB | go_grown) (first
            | (go_at_call 117; (with_reducible refine (copy_impl w.drew _ 0 X (by omega) (HE.out _ _ _)).mono ?_); rintro e w1 ⟨u1, rfl, ho1, hb1⟩; have hB := on_of (W := w) (by go_grown) hb1; have HO1 := Lib.hid ho1; clear ho1)
            | (go_at_call 117; (with_reducible refine (copy_impl _ _ 0 X (by omega) (HE.out _ _ _)).mono ?_); rintro e w2 ⟨u2, rfl, ho2, hb2⟩; have hB := on_of hB hb2; have HO2 := Lib.hid ho2; clear ho2)
            | (go_at_call 117; trace_state; fail))
          go_wp2
          refine bodyPost_ret (by simp [results, Tryz.results88, go_sem, *]; try rfl) rfl ?_
          have hb : taB X 0 ((0 : Nat) : Int) = true := by simp [taB, h1]
          exact ta_yesA hb (by have := hb1.size; simpa using this) HO1.out (owns_on HO1.out hb2) HO2.out hB
    · by_cases hcz : cap = n - k
      · obtain rfl : k = 0 := by omega
        have hcn : cap = n := by omega
        clear hcz hk hcap hc hnk hkk
        subst hcn
        have hd : decide ((0 : Int) ≤ 0 ∧ (0 : Int) ≤ (cap : Int)) = true := by simp
        clear hd2
        have HT : Hid (∀ W : World, Below w.heap.size w W → Rd W (.slice (some ⟨g, o, none⟩) 0 0) 0 (fun j => X (cap + j))) := Lib.hid fun W hW => ⟨_, _, rfl, Nat.le_refl _, .inl rfl⟩
        go_enter Tryz.func88, Tryz.ntmps88
        go_upto_region 4 with (first
          | (go_at_call 112; (with_reducible refine (stok_same _ _ _ _ (by omega) HR.out).mono ?_); rintro e w' ⟨rfl, rfl⟩; rw [h1]))
        have HD : Hid (Rd w.drew (.slice (some ⟨g, o, none⟩) cap cap) cap X) := HR
        have hnn : cap ≤ 2000000 := by omega
        go_region_held3 (fun w' => Rd w' (.slice (some ⟨g, o, none⟩) cap cap) cap X ∧ Below w.heap.size w w') (first | exact ⟨HR.out, by go_grown⟩ | exact ⟨HR.out.on hB, hB⟩) (first
          | (go_at_call 117; (with_reducible refine (copy_impl w.drew _ cap X hnn HD.out).mono ?_); rintro e w1 ⟨u1, rfl, ho1, hb1⟩; have hB := on_of (W := w) (by go_grown) hb1; have HO1 := Lib.hid ho1; clear ho1)
          | (go_at_call 117; (with_reducible refine (copy_impl _ _ 0 _ (by omega) (HT.out _ hB)).mono ?_); rintro e w2 ⟨u2, rfl, ho2, hb2⟩; have hB := on_of hB hb2; have HO2 := Lib.hid ho2; clear ho2)
          | (go_at_call 117; trace_state; fail))
        go_wp2
        refine bodyPost_ret (by simp [results, Tryz.results88, go_sem, *]; try rfl) rfl ?_
        have hb : taB X cap ((0 : Nat) : Int) = true := by simp [taB, h1]
        exact ta_yesA hb (by have := hb1.size; simpa using this) HO1.out (owns_on HO1.out hb2) HO2.out hB
      · go_enter Tryz.func88, Tryz.ntmps88
        go_upto_region 4 with (first
          | (go_at_call 112; (with_reducible refine (stok_same _ _ _ _ (by omega) HR.out).mono ?_); rintro e w' ⟨rfl, rfl⟩; rw [h1]))
        have hx1 : (0 : Int) ≤ (n : Int) - (k : Int) := by omega
        have hx2 : (n : Int) - (k : Int) ≤ (cap : Int) := by omega
        have hx3 : (n : Int) - (k : Int) ≤ (n : Int) := by omega
        have hA : ∀ W : World, Rd W (.slice (some ⟨g, o, none⟩) n cap) n X → Rd W (.slice (some ⟨g, o, none⟩) (n - k) cap) (n - k) X := fun W hW => by
          obtain ⟨a', cap', hv, hnc, h⟩ := hW
          injection hv with e1 e2 e3
          subst e1; subst e3
          refine ⟨_, _, rfl, by omega, ?_⟩
          rcases h with h | ⟨g', o', e, hl, hcell⟩
          · exact .inl (by omega)
          · exact .inr ⟨g', o', e, hl, fun i hi => hcell i (by omega)⟩
        have HD := Lib.hid (hA w.drew HR.out)
        have hTl : ∀ W : World, Below w.heap.size w W → Rd W (.slice (some ⟨g, o + (n - k), none⟩) (n - (n - k)) (cap - (n - k))) (n - (n - k)) (fun j => X (n - k + j)) := fun W hW => (HR.out.on hW).tail (n - k) (by omega)
        have HT := Lib.hid hTl
        have hnn : n - (n - k) ≤ 2000000 := by omega
        clear hA hTl
        go_region_held3 (fun w' => Rd w' (.slice (some ⟨g, o, none⟩) n cap) n X ∧ Below w.heap.size w w') (first | exact ⟨HR.out, by go_grown⟩ | exact ⟨HR.out.on hB, hB⟩) (first
          | (go_at_call 117; (with_reducible refine (copy_impl w.drew _ (n - k) X hnk HD.out).mono ?_); rintro e w1 ⟨u1, rfl, ho1, hb1⟩; have hB := on_of (W := w) (by go_grown) hb1; have HO1 := Lib.hid ho1; clear ho1)
          | (go_at_call 117; (with_reducible refine (copy_impl _ _ (n - (n - k)) _ hnn (HT.out _ hB)).mono ?_); rintro e w2 ⟨u2, rfl, ho2, hb2⟩; have hB := on_of hB hb2; have HO2 := Lib.hid ho2; clear ho2)
          | (go_at_call 117; trace_state; fail))
        go_wp2
        refine bodyPost_ret (by simp [results, Tryz.results88, go_sem, *]; try rfl) rfl ?_
        have hb : taB X n (k : Int) = true := by simp [taB, h1]; omega
        have h2 := HO2.out
        rw [show n - (n - k) = k by omega] at h2
        exact ta_yesA hb (by have := hb1.size; simpa using this) HO1.out (owns_on HO1.out hb2) h2 hB
  all_goals
    have hb : taB X n c = false := by simp [taB, h1]; try simpa using hd
    obtain ⟨a, cap, rfl, hnc, _⟩ := h
    have hd2 : stB X n = false ∨ (stB X n = true ∧ c < 0) ∨ (stB X n = true ∧ ¬ c < 0 ∧ (n : Int) < c) := by
      simp at hd
      rw [h1]
      first
        | exact .inl rfl
        | exact .inr (if hc0 : c < 0 then .inl ⟨rfl, hc0⟩ else .inr ⟨rfl, hc0, hd (by omega)⟩)
    clear hd
    rcases hd2 with h3 | ⟨_, h3⟩ | ⟨_, h3, h4⟩
    all_goals first | (rw [h1] at h3; exact absurd h3 (by decide)) | skip
    all_goals
      go_enter Tryz.func88, Tryz.ntmps88
      go_wp2_with (first
        | (go_at_call 112; (with_reducible refine (stok_same _ _ _ _ (by omega) HR.out).mono ?_); rintro e w' ⟨rfl, rfl⟩; rw [h1])
        | (go_at_call 117; (with_reducible refine (copy_impl _ _ _ _ (by omega) HR.out).mono ?_); rintro e w1 ⟨u1, rfl, ho1, hb1⟩; have HO1 := Lib.hid (And.intro ho1 hb1); clear ho1 hb1))
      refine bodyPost_ret (by simp [results, Tryz.results88, go_sem, *]; try rfl) rfl ?_
      exact ta_noA hb HO1.out.1 HO1.out.2
def ent (k : Nat) : MapEntry :=
  match k with
  | 0 => { key := .string ⟨#[97, 100, 100]⟩, val := .agg #[.int .i64 2, .func (.func 145) #[] #[]], born := 0 }
  | 1 => { key := .string ⟨#[115, 117, 98]⟩, val := .agg #[.int .i64 2, .func (.func 146) #[] #[]], born := 1 }
  | 2 => { key := .string ⟨#[109, 117, 108]⟩, val := .agg #[.int .i64 2, .func (.func 147) #[] #[]], born := 2 }
  | 3 => { key := .string ⟨#[101, 120, 99, 104]⟩, val := .agg #[.int .i64 2, .func (.func 148) #[] #[]], born := 3 }
  | 4 => { key := .string ⟨#[110, 101, 103]⟩, val := .agg #[.int .i64 1, .func (.func 149) #[] #[]], born := 4 }
  | 5 => { key := .string ⟨#[100, 117, 112]⟩, val := .agg #[.int .i64 1, .func (.func 150) #[] #[]], born := 5 }
  | _ => { key := .string ⟨#[112, 111, 112]⟩, val := .agg #[.int .i64 1, .func (.func 151) #[] #[]], born := 6 }
set_option maxHeartbeats 2000000 in
theorem ops_any (w : World) : Calls Tryz.prog 121 #[] w fun e w' => e = .returned (.map (some w.heap.size)) ∧ w' = w.alloc (.map #[ent 0, ent 1, ent 2, ent 3, ent 4, ent 5, ent 6] 7) := by
  have hmm := @run_makeMap Tryz.prog
  have h0 : (Instr.mapUpdate 157 (.map (some w.heap.size)) (.string ⟨#[97, 100, 100]⟩) (.agg #[.int .i64 2, .func (.func 145) #[] #[]])).run Tryz.prog (w.alloc (.map #[] 0)) = .ok () (w.alloc (.map #[ent 0] 1)) := Tab.run_ins Tryz.underlying157 Tryz.underlying9 w #[] 0 _ _ (by kernel_rfl)
  have h1 : (Instr.mapUpdate 157 (.map (some w.heap.size)) (.string ⟨#[115, 117, 98]⟩) (.agg #[.int .i64 2, .func (.func 146) #[] #[]])).run Tryz.prog (w.alloc (.map #[ent 0] 1)) = .ok () (w.alloc (.map #[ent 0, ent 1] 2)) := Tab.run_ins Tryz.underlying157 Tryz.underlying9 w #[ent 0] 1 _ _ (by kernel_rfl)
  have h2 : (Instr.mapUpdate 157 (.map (some w.heap.size)) (.string ⟨#[109, 117, 108]⟩) (.agg #[.int .i64 2, .func (.func 147) #[] #[]])).run Tryz.prog (w.alloc (.map #[ent 0, ent 1] 2)) = .ok () (w.alloc (.map #[ent 0, ent 1, ent 2] 3)) := Tab.run_ins Tryz.underlying157 Tryz.underlying9 w #[ent 0, ent 1] 2 _ _ (by kernel_rfl)
  have h3 : (Instr.mapUpdate 157 (.map (some w.heap.size)) (.string ⟨#[101, 120, 99, 104]⟩) (.agg #[.int .i64 2, .func (.func 148) #[] #[]])).run Tryz.prog (w.alloc (.map #[ent 0, ent 1, ent 2] 3)) = .ok () (w.alloc (.map #[ent 0, ent 1, ent 2, ent 3] 4)) := Tab.run_ins Tryz.underlying157 Tryz.underlying9 w #[ent 0, ent 1, ent 2] 3 _ _ (by kernel_rfl)
  have h4 : (Instr.mapUpdate 157 (.map (some w.heap.size)) (.string ⟨#[110, 101, 103]⟩) (.agg #[.int .i64 1, .func (.func 149) #[] #[]])).run Tryz.prog (w.alloc (.map #[ent 0, ent 1, ent 2, ent 3] 4)) = .ok () (w.alloc (.map #[ent 0, ent 1, ent 2, ent 3, ent 4] 5)) := Tab.run_ins Tryz.underlying157 Tryz.underlying9 w #[ent 0, ent 1, ent 2, ent 3] 4 _ _ (by kernel_rfl)
  have h5 : (Instr.mapUpdate 157 (.map (some w.heap.size)) (.string ⟨#[100, 117, 112]⟩) (.agg #[.int .i64 1, .func (.func 150) #[] #[]])).run Tryz.prog (w.alloc (.map #[ent 0, ent 1, ent 2, ent 3, ent 4] 5)) = .ok () (w.alloc (.map #[ent 0, ent 1, ent 2, ent 3, ent 4, ent 5] 6)) := Tab.run_ins Tryz.underlying157 Tryz.underlying9 w #[ent 0, ent 1, ent 2, ent 3, ent 4] 5 _ _ (by kernel_rfl)
  have h6 : (Instr.mapUpdate 157 (.map (some w.heap.size)) (.string ⟨#[112, 111, 112]⟩) (.agg #[.int .i64 1, .func (.func 151) #[] #[]])).run Tryz.prog (w.alloc (.map #[ent 0, ent 1, ent 2, ent 3, ent 4, ent 5] 6)) = .ok () (w.alloc (.map #[ent 0, ent 1, ent 2, ent 3, ent 4, ent 5, ent 6] 7)) := Tab.run_ins Tryz.underlying157 Tryz.underlying9 w #[ent 0, ent 1, ent 2, ent 3, ent 4, ent 5] 6 _ _ (by kernel_rfl)
  go_enter Tryz.func121, Tryz.ntmps121
  go_wp2
  go_ret
  exact ⟨rfl, rfl⟩
def tab : Array MapEntry := #[ent 0, ent 1, ent 2, ent 3, ent 4, ent 5, ent 6]
theorem ops_tab (w : World) : Calls Tryz.prog 121 #[] w fun e w' => e = .returned (.map (some w.heap.size)) ∧ w' = w.alloc (.map tab 7) := ops_any w
theorem str_of {s : ByteArray} {l : List UInt8} (h : (s.toList == l) = true) : s = ⟨l.toArray⟩ := by
  rw [beq_iff_eq] at h
  apply ByteArray.ext; apply Array.ext'
  rw [ByteArray.toList_eq] at h
  simpa using h
theorem ne_of {s : ByteArray} {l : List UInt8} (h : s.toList ≠ l) : (s == ⟨l.toArray⟩) = false := by
  rw [← Bool.not_eq_true, MapKept.bytes_beq]
  intro e
  apply h
  rw [e, ByteArray.toList_eq]
theorem look_none {s : ByteArray} (h : opB s = false) : Instr.findNow .string (.string s) tab.toList 0 = some none := by
  simp only [opB, Bool.or_eq_false_iff, beq_eq_false_iff_ne] at h
  obtain ⟨⟨⟨⟨⟨⟨h1, h2⟩, h3⟩, h4⟩, h5⟩, h6⟩, h7⟩ := h
  have g1 := ne_of h1
  have g2 := ne_of h2
  have g3 := ne_of h3
  have g4 := ne_of h4
  have g5 := ne_of h5
  have g6 := ne_of h6
  have g7 := ne_of h7
  simp [tab, ent, Instr.findNow, Instr.sameNow, g1, g2, g3, g4, g5, g6, g7]
structure Has (s : ByteArray) (i k fid : Nat) : Prop where
  look : Instr.findNow .string (.string s) tab.toList 0 = some (some (i, .agg #[.int .i64 (k : Int), .func (.func fid) #[] #[]]))
theorem has_add {s : ByteArray} (h : (s.toList == [97, 100, 100]) = true) : Has s 0 2 145 := ⟨by rw [str_of h]; kernel_rfl⟩
theorem has_sub {s : ByteArray} (h : (s.toList == [115, 117, 98]) = true) : Has s 1 2 146 := ⟨by rw [str_of h]; kernel_rfl⟩
theorem has_mul {s : ByteArray} (h : (s.toList == [109, 117, 108]) = true) : Has s 2 2 147 := ⟨by rw [str_of h]; kernel_rfl⟩
theorem has_exch {s : ByteArray} (h : (s.toList == [101, 120, 99, 104]) = true) : Has s 3 2 148 := ⟨by rw [str_of h]; kernel_rfl⟩
theorem has_neg {s : ByteArray} (h : (s.toList == [110, 101, 103]) = true) : Has s 4 1 149 := ⟨by rw [str_of h]; kernel_rfl⟩
theorem has_dup {s : ByteArray} (h : (s.toList == [100, 117, 112]) = true) : Has s 5 1 150 := ⟨by rw [str_of h]; kernel_rfl⟩
theorem has_pop {s : ByteArray} (h : (s.toList == [112, 111, 112]) = true) : Has s 6 1 151 := ⟨by rw [str_of h]; kernel_rfl⟩
theorem has_any {s : ByteArray} (h : opB s = true) : ∃ i k fid, Has s i k fid := by
  simp only [opB, Bool.or_eq_true] at h
  rcases h with ((((((h | h) | h) | h) | h) | h) | h)
  · exact ⟨_, _, _, has_add h⟩
  · exact ⟨_, _, _, has_sub h⟩
  · exact ⟨_, _, _, has_mul h⟩
  · exact ⟨_, _, _, has_neg h⟩
  · exact ⟨_, _, _, has_dup h⟩
  · exact ⟨_, _, _, has_pop h⟩
  · exact ⟨_, _, _, has_exch h⟩
set_option maxHeartbeats 2000000 in
theorem isop_impl (w : World) (s : ByteArray) (hs : s.size ≤ 1048576) : Calls Tryz.prog 85 #[.string s] w fun e w' => e = .returned (.bool (opB s)) ∧ Below w.heap.size w w' := by
  cases ho : opB s
  · have hl := fun (W : World) (hb : W.heap[w.heap.size]? = some (.map tab 7)) => Tab.run_look_no Tryz.underlying157 Tryz.underlying9 hb (look_none ho) (z := .agg #[.int .i64 0, .nilFunc]) (by kernel_rfl)
    go_enter Tryz.func85, Tryz.ntmps85
    go_wp2_with fail
    ((with_reducible refine (ops_tab _).mono ?_); rintro e w1 ⟨rfl, rfl⟩)
    have hl1 := hl _ (heap_alloc_new w _)
    clear hl
    go_wp2
    go_ret
    exact ⟨rfl, by go_grown⟩
  · obtain ⟨i, k, fid, hh⟩ := has_any ho
    have hl := fun (W : World) (hb : W.heap[w.heap.size]? = some (.map tab 7)) => Tab.run_look_yes Tryz.underlying157 Tryz.underlying9 hb hh.look
    go_enter Tryz.func85, Tryz.ntmps85
    go_wp2_with fail
    ((with_reducible refine (ops_tab _).mono ?_); rintro e w1 ⟨rfl, rfl⟩)
    have hl1 := hl _ (heap_alloc_new w _)
    clear hl
    go_wp2
    go_ret
    exact ⟨rfl, by go_grown⟩
def Leaves (zs : List Value) (w : World) (e : Ending) (w' : World) : Prop :=
  ∃ u, e = .returned u ∧ w'.ownsRow w.heap.size 3 1 u zs.length zs ∧ Below w.heap.size w w'
theorem lit_own (w : World) (cs : Array Value) (n : Nat) (hn : cs.size = n) (hm : n ≤ 100) {zs : List Value} (hz : cs.toList = zs) : (w.alloc (.cells cs 3)).ownsRow w.heap.size 3 1 (.slice (some ⟨w.heap.size, 0, none⟩) n n) zs.length zs := by
  subst hz
  have := World.ownsRow_lit (base := w.heap.size) (e := 3) (size := 1) w cs n (Nat.le_refl _) (by unfold maxLen; omega) (by omega)
  have hl : cs.toList.length = n := by simpa using hn
  rw [hl]
  exact this
set_option maxHeartbeats 1000000 in
theorem cl_add (w : World) (g cap : Nat) (x y : Int) (hg : g < w.heap.size) (c0 : w.cell? ⟨g, 0, none⟩ = some (.int .i64 x)) (c1 : w.cell? ⟨g, 1, none⟩ = some (.int .i64 y)) (hw : IntKind.i64.wrap (x + y) = x + y) :
    Calls Tryz.prog 145 #[.slice (some ⟨g, 0, none⟩) 2 cap] w (Leaves [.int .i64 (x + y)] w) := by
  have HW := Lib.hid hw
  go_enter Tryz.func145, Tryz.ntmps145
  go_upto_region 1 with fail
  go_region
  all_goals
    go_wp2
    go_ret
    refine ⟨_, rfl, lit_own _ #[.int .i64 (x + y)] 1 rfl (by omega) rfl, by go_grown⟩
set_option maxHeartbeats 1000000 in
theorem cl_sub (w : World) (g cap : Nat) (x y : Int) (hg : g < w.heap.size) (c0 : w.cell? ⟨g, 0, none⟩ = some (.int .i64 x)) (c1 : w.cell? ⟨g, 1, none⟩ = some (.int .i64 y)) (hw : IntKind.i64.wrap (x - y) = x - y) :
    Calls Tryz.prog 146 #[.slice (some ⟨g, 0, none⟩) 2 cap] w (Leaves [.int .i64 (x - y)] w) := by
  have HW := Lib.hid hw
  go_enter Tryz.func146, Tryz.ntmps146
  go_upto_region 1 with fail
  go_region
  all_goals
    go_wp2
    go_ret
    refine ⟨_, rfl, lit_own _ #[.int .i64 (x - y)] 1 rfl (by omega) rfl, by go_grown⟩
set_option maxHeartbeats 1000000 in
theorem cl_mul (w : World) (g cap : Nat) (x y : Int) (hg : g < w.heap.size) (c0 : w.cell? ⟨g, 0, none⟩ = some (.int .i64 x)) (c1 : w.cell? ⟨g, 1, none⟩ = some (.int .i64 y)) (hw : IntKind.i64.wrap (x * y) = x * y) :
    Calls Tryz.prog 147 #[.slice (some ⟨g, 0, none⟩) 2 cap] w (Leaves [.int .i64 (x * y)] w) := by
  have HW := Lib.hid hw
  go_enter Tryz.func147, Tryz.ntmps147
  go_upto_region 1 with fail
  go_region
  all_goals
    go_wp2
    go_ret
    refine ⟨_, rfl, lit_own _ #[.int .i64 (x * y)] 1 rfl (by omega) rfl, by go_grown⟩
set_option maxHeartbeats 1000000 in
theorem cl_exch (w : World) (g cap : Nat) (x y : Int) (hg : g < w.heap.size) (c0 : w.cell? ⟨g, 0, none⟩ = some (.int .i64 x)) (c1 : w.cell? ⟨g, 1, none⟩ = some (.int .i64 y)) :
    Calls Tryz.prog 148 #[.slice (some ⟨g, 0, none⟩) 2 cap] w (Leaves [.int .i64 y, .int .i64 x] w) := by
  go_enter Tryz.func148, Tryz.ntmps148
  go_upto_region 1 with fail
  go_region
  all_goals
    go_wp2
    go_ret
    refine ⟨_, rfl, lit_own _ #[.int .i64 y, .int .i64 x] 2 rfl (by omega) rfl, by go_grown⟩
set_option maxHeartbeats 1000000 in
theorem cl_dup (w : World) (g cap : Nat) (x : Int) (hg : g < w.heap.size) (c0 : w.cell? ⟨g, 0, none⟩ = some (.int .i64 x)) :
    Calls Tryz.prog 150 #[.slice (some ⟨g, 0, none⟩) 1 cap] w (Leaves [.int .i64 x, .int .i64 x] w) := by
  go_enter Tryz.func150, Tryz.ntmps150
  go_upto_region 1 with fail
  go_region
  all_goals
    go_wp2
    go_ret
    refine ⟨_, rfl, lit_own _ #[.int .i64 x, .int .i64 x] 2 rfl (by omega) rfl, by go_grown⟩
set_option maxHeartbeats 1000000 in
theorem cl_neg (w : World) (g cap : Nat) (x : Int) (hg : g < w.heap.size) (c0 : w.cell? ⟨g, 0, none⟩ = some (.int .i64 x)) (hw : IntKind.i64.wrap (-x) = -x) :
    Calls Tryz.prog 149 #[.slice (some ⟨g, 0, none⟩) 1 cap] w (Leaves [.int .i64 (-x)] w) := by
  go_enter Tryz.func149, Tryz.ntmps149
  go_wp2
  go_ret
  refine ⟨_, rfl, lit_own _ #[.int .i64 (-x)] 1 rfl (by omega) rfl, by go_grown⟩
set_option maxHeartbeats 1000000 in
theorem cl_pop (w : World) (g cap : Nat) : Calls Tryz.prog 151 #[.slice (some ⟨g, 0, none⟩) 1 cap] w (Leaves [] w) := by
  go_enter Tryz.func151, Tryz.ntmps151
  go_wp2
  go_ret
  exact ⟨_, rfl, World.ownsRow_nil _ _ _ _, by go_grown⟩
set_option maxHeartbeats 4000000 in
theorem so_of (w : World) (v : Value) (n : Nat) (X : Nat → Int) (s : ByteArray) (i k fid : Nat) (Z : List Value) (Y : Nat → Int) (m : Nat) (hn : n ≤ 1048576) (h : Rd w v n X) (hh : Has s i k fid) (ht : taB X n (k : Int) = true) (hk : k ≤ n) (hk2 : k ≤ 2)
    (hz2 : Z.length ≤ 2) (hz1 : ∀ u ∈ Z, u.oneCell' = true) (hcat : flat (ic X) (n - k) ++ Z = flat (ic Y) m) (hm : n - k + Z.length = m)
    (hcf : ∀ (W : World) (u : Value), (callFunc fid #[u]).run Tryz.prog W = .ok (.enter fid #[u]) W)
    (hC : ∀ (W : World) (B : Nat) (u2 : Value), W.ownsRow B 3 1 u2 k (flat (ic fun i => X (n - k + i)) k) → Calls Tryz.prog fid #[u2] W (Leaves Z W)) :
    Calls Tryz.prog 86 #[v, .string s] w (OpLeft X n Y m w) := by
  obtain ⟨i0, hi0, hzz0, hzz1, hzz2⟩ := info_parts info3
  have HR := Lib.hid h
  clear h
  have HC := Lib.hid hC
  clear hC
  have HM := Lib.hid (And.intro hcat (And.intro hm (And.intro hz2 hz1)))
  clear hcat hm hz2 hz1
  have hl := fun (W : World) (hb : W.heap[w.heap.size]? = some (.map tab 7)) => Tab.run_look_yes Tryz.underlying157 Tryz.underlying9 hb hh.look
  have q1 : ta1 X n (k : Int) = n - k := by simp [ta1, ht]
  have q2 : ta2 X n (k : Int) = k := by simp [ta2, ht]
  have q3 : ((k : Int)).toNat = k := by simp
  cases hr : stB Y m
  all_goals
    have HRr := Lib.hid hr
    clear hr
    go_enter Tryz.func86, Tryz.ntmps86
    go_wp2_with fail
    ((with_reducible refine (ops_tab _).mono ?_); rintro e w1 ⟨rfl, rfl⟩)
    have hl1 := hl _ (heap_alloc_new w _)
    clear hl
    have al : Below w.heap.size w ((w.alloc (.map tab 7)).alloc (.cells #[.int .i64 (k : Int), .func (.func fid) #[] #[]] 155)) := ((Below.refl _ _).alloc (Nat.le_refl _) _).alloc (by simp) _
    go_wp2_with fail
    ((with_reducible refine (take_impl _ _ _ _ _ hn (HR.out.on al)).mono ?_); rintro e w2 ⟨u1, u2, rfl, ho1, ho2, hap, hb2⟩)
    rw [ht]
    rw [q1] at ho1
    rw [q2, q3] at ho2
    have hB2 := on_of al hb2
    have c1 : w2.cell? ⟨w.heap.size + 1, 1, none⟩ = some (.func (.func fid) #[] #[]) := (hb2.cell (p := ⟨w.heap.size + 1, 1, none⟩) (by simp)).trans (by simp [go_sem])
    have HO := Lib.hid (And.intro ho1 (And.intro ho2 (And.intro hB2 al)))
    clear ho1 ho2 hB2 hb2 hap al
    go_wp2_with fail
    ((with_reducible refine (HC.out _ _ _ HO.out.2.1).mono ?_); rintro e w3 ⟨u3, rfl, ho3, hb3⟩)
    have ho1 := owns_mono (owns_on HO.out.1 hb3) HO.out.2.2.2.size
    have hB3 := on_of HO.out.2.2.1 hb3
    have HQ := Lib.hid (And.intro ho1 hB3)
    clear ho1 hB3
    rcases ho3.2 with ⟨rfl, h0⟩ | ⟨g3, cap3, cur3, rfl, hg3, _⟩
    · have hZ0 : Z = [] := List.eq_nil_of_length_eq_zero h0
      have hX : flat (ic X) (n - k) = flat (ic Y) m ∧ n - k = m := by
        have h1 := HM.out.1; have h2 := HM.out.2.1
        rw [hZ0] at h1 h2
        exact ⟨by simpa using h1, by simpa using h2⟩
      have ho5 := HQ.out.1
      rw [hX.1, hX.2] at ho5
      have hr5 := owns_rd ho5
      have hB5 := HQ.out.2
      have hm5 : m ≤ 2000000 := by have h1 := hX.2; omega
      rcases ho5.2 with ⟨rfl, hm0⟩ | ⟨g1, c1', cu1, rfl, _, _, hmc, _⟩
      all_goals
        try subst hm0
        have H5 := Lib.hid (And.intro ho5 (And.intro hB5 hr5))
        clear ho5 hB5 hr5 hX hZ0 h0 ho3
        go_wp2_with (first
          | (go_at_call 112; (with_reducible refine (stok_same _ _ _ _ hm5 H5.out.2.2).mono ?_); rintro e w' ⟨rfl, rfl⟩; rw [HRr.out])
          | (go_at_call 117; (with_reducible refine (copy_impl _ _ _ _ (by omega) (HR.out.on H5.out.2.1)).mono ?_); rintro e w6 ⟨u6, rfl, ho6, hb6⟩; have HB6 := Lib.hid (And.intro ho6 hb6); clear ho6 hb6))
        refine bodyPost_ret (by simp [results, Tryz.results86, go_sem, *]; try rfl) rfl ?_
        first
          | exact op_yes HRr.out H5.out.1 H5.out.2.1
          | exact op_no HRr.out (owns_mono HB6.out.1 H5.out.2.1.size) (on_of H5.out.2.1 HB6.out.2)
    · have HT := Lib.hid ho3
      clear ho3
      go_wp2_with (at_builtin; refine wpList_append_own _ rfl _ _ 22 rfl w.heap.size 3 i0 (.int .i64 0) 1 8 Tryz.underlying22 hi0 hzz0 hzz1 hzz2 rfl (by decide) _ (n - k) (flat (ic X) (n - k)) rfl HQ.out.1 ⟨g3, 0, none⟩ Z.length cap3 Z rfl (by omega) (HT.out.cells rfl) HM.out.2.2.2 (by have := HM.out.2.2.1; unfold maxLen; omega) (by have := HM.out.2.2.1; omega) HQ.out.2.size ?_)
      intro u5 w5 ho5 hgrow _
      have hB5 := HQ.out.2.grown hgrow HQ.out.2.size (fun q hq => (HQ.out.1.lt q hq).1)
      rw [HM.out.1, HM.out.2.1] at ho5
      have hr5 := owns_rd ho5
      have hm5 : m ≤ 2000000 := by have h1 := HM.out.2.1; have h2 := HM.out.2.2.1; omega
      have H5 := Lib.hid (And.intro ho5 (And.intro hB5 hr5))
      clear ho5 hgrow hB5 hr5
      go_wp2_with (first
        | (go_at_call 112; (with_reducible refine (stok_same _ _ _ _ hm5 H5.out.2.2).mono ?_); rintro e w' ⟨rfl, rfl⟩; rw [HRr.out])
        | (go_at_call 117; (with_reducible refine (copy_impl _ _ _ _ (by omega) (HR.out.on H5.out.2.1)).mono ?_); rintro e w6 ⟨u6, rfl, ho6, hb6⟩; have HB6 := Lib.hid (And.intro ho6 hb6); clear ho6 hb6))
      refine bodyPost_ret (by simp [results, Tryz.results86, go_sem, *]; try rfl) rfl ?_
      first
        | exact op_yes HRr.out H5.out.1 H5.out.2.1
        | exact op_no HRr.out (owns_mono HB6.out.1 H5.out.2.1.size) (on_of H5.out.2.1 HB6.out.2)
set_option maxHeartbeats 2000000 in
theorem so_unknown (w : World) (v : Value) (n : Nat) (X : Nat → Int) (s : ByteArray) (hn : n ≤ 1048576) (h : Rd w v n X) (ho : opB s = false) :
    Calls Tryz.prog 86 #[v, .string s] w (SoLeft false X n w) := by
  have HR := Lib.hid h
  clear h
  have hl := fun (W : World) (hb : W.heap[w.heap.size]? = some (.map tab 7)) => Tab.run_look_no Tryz.underlying157 Tryz.underlying9 hb (look_none ho) (z := .agg #[.int .i64 0, .nilFunc]) (by kernel_rfl)
  go_enter Tryz.func86, Tryz.ntmps86
  go_wp2_with fail
  ((with_reducible refine (ops_tab _).mono ?_); rintro e w1 ⟨rfl, rfl⟩)
  have hl1 := hl _ (heap_alloc_new w _)
  clear hl
  have al : Below w.heap.size w ((w.alloc (.map tab 7)).alloc (.cells #[.int .i64 0, .nilFunc] 155)) := ((Below.refl _ _).alloc (Nat.le_refl _) _).alloc (by simp) _
  have HA := Lib.hid al
  clear al
  go_wp2_with fail
  ((with_reducible refine (copy_impl _ _ _ _ (by omega) (HR.out.on HA.out)).mono ?_); rintro e w3 ⟨u3, rfl, ho3, hb3⟩)
  have HB3 := Lib.hid (And.intro ho3 hb3)
  clear ho3 hb3
  go_wp2
  refine bodyPost_ret (by simp [results, Tryz.results86, go_sem, *]; try rfl) rfl ?_
  exact ⟨u3, rfl, owns_mono HB3.out.1 HA.out.size, on_of HA.out HB3.out.2⟩
set_option maxHeartbeats 2000000 in
theorem so_short (w : World) (v : Value) (n : Nat) (X : Nat → Int) (s : ByteArray) (i k fid : Nat) (hn : n ≤ 1048576) (h : Rd w v n X) (hh : Has s i k fid) (ht : taB X n (k : Int) = false) :
    Calls Tryz.prog 86 #[v, .string s] w (SoLeft false X n w) := by
  have HR := Lib.hid h
  clear h
  have hl := fun (W : World) (hb : W.heap[w.heap.size]? = some (.map tab 7)) => Tab.run_look_yes Tryz.underlying157 Tryz.underlying9 hb hh.look
  go_enter Tryz.func86, Tryz.ntmps86
  go_wp2_with fail
  ((with_reducible refine (ops_tab _).mono ?_); rintro e w1 ⟨rfl, rfl⟩)
  have hl1 := hl _ (heap_alloc_new w _)
  clear hl
  have al : Below w.heap.size w ((w.alloc (.map tab 7)).alloc (.cells #[.int .i64 (k : Int), .func (.func fid) #[] #[]] 155)) := ((Below.refl _ _).alloc (Nat.le_refl _) _).alloc (by simp) _
  go_wp2_with fail
  ((with_reducible refine (take_impl _ _ _ _ _ hn (HR.out.on al)).mono ?_); rintro e w2 ⟨u1, u2, rfl, ho1, ho2, hap, hb2⟩)
  rw [ht]
  have hB2 := on_of al hb2
  have HA := Lib.hid hB2
  clear al hB2 ho1 ho2 hap hb2
  go_wp2_with fail
  ((with_reducible refine (copy_impl _ _ _ _ (by omega) (HR.out.on HA.out)).mono ?_); rintro e w3 ⟨u3, rfl, ho3, hb3⟩)
  have HB3 := Lib.hid (And.intro ho3 hb3)
  clear ho3 hb3
  go_wp2
  refine bodyPost_ret (by simp [results, Tryz.results86, go_sem, *]; try rfl) rfl ?_
  exact ⟨u3, rfl, owns_mono HB3.out.1 HA.out.size, on_of HA.out HB3.out.2⟩
theorem mul_wrap {x y : Int} (bx : -9999 ≤ x ∧ x ≤ 9999) (bY : -9999 ≤ y ∧ y ≤ 9999) : IntKind.i64.wrap (x * y) = x * y := by
  have hp : (x * y).natAbs ≤ 9999 * 9999 := by rw [Int.natAbs_mul]; exact Nat.mul_le_mul (by omega) (by omega)
  generalize x * y = z at hp
  rw [IntKind.wrap_i64]; omega
theorem so_impl (w : World) (v : Value) (n : Nat) (X : Nat → Int) (s : ByteArray) (hn : n ≤ 1048576) (hs : s.size ≤ 1048576) (h : Rd w v n X) : Calls Tryz.prog 86 #[v, .string s] w (SoLeft (soB X n s) (soY X n s) (soM X n s) w) := by
  cases ho : opB s
  · exact (so_unknown w v n X s hn h ho).mono (so_no (.inr ho) w)
  rcases nm_cases s with hm | hm | hm | hm | hm | hm | hm | hm
  case inr.inr.inr.inr.inr.inr.inr => rw [opB_of hm] at ho; exact absurd ho (by decide)
  all_goals
    have hneed := need_of hm
    simp only [Bool.or_false, Bool.or_true, Bool.false_or, Bool.true_or, if_true, Bool.false_eq_true, if_false] at hneed
    cases ht : taB X n (needN s)
    · first
        | exact (so_short w v n X s _ _ _ hn h (has_add hm.add) (by rw [hneed] at ht; exact ht)).mono (so_no (.inl ht) w)
        | exact (so_short w v n X s _ _ _ hn h (has_sub hm.sub) (by rw [hneed] at ht; exact ht)).mono (so_no (.inl ht) w)
        | exact (so_short w v n X s _ _ _ hn h (has_mul hm.mul) (by rw [hneed] at ht; exact ht)).mono (so_no (.inl ht) w)
        | exact (so_short w v n X s _ _ _ hn h (has_neg hm.neg) (by rw [hneed] at ht; exact ht)).mono (so_no (.inl ht) w)
        | exact (so_short w v n X s _ _ _ hn h (has_dup hm.dup) (by rw [hneed] at ht; exact ht)).mono (so_no (.inl ht) w)
        | exact (so_short w v n X s _ _ _ hn h (has_pop hm.pop) (by rw [hneed] at ht; exact ht)).mono (so_no (.inl ht) w)
        | exact (so_short w v n X s _ _ _ hn h (has_exch hm.exch) (by rw [hneed] at ht; exact ht)).mono (so_no (.inl ht) w)
  all_goals
    have ht2 := ht
    rw [hneed] at ht2
    obtain ⟨hst, hk⟩ := ta_parts ht2
  · obtain ⟨j, rfl⟩ : ∃ j, n = j + 2 := ⟨n - 2, by omega⟩
    have bx := stB_b hst (show j < j + 2 by omega)
    have bY := stB_b hst (show j + 1 < j + 2 by omega)
    refine (so_of w v (j + 2) X s _ 2 _ [.int .i64 (X j + X (j + 1))] (pt X j (X j + X (j + 1))) (j + 1) hn h (has_add hm.add) ht2 (by omega) (by omega) (by simp) (by simp [Value.oneCell']) (flat_pt X j _) (by simp) (fun W u => by simp [callFunc, go_sem, Tryz.func145]; rfl) ?_).mono (so_op (by simp only [mkL, hm.add, if_true]; rfl) ht ho w)
    intro W B u2 hu2
    obtain ⟨g2, cap2, rfl, _, hg, hc2⟩ := taken hu2 (by decide)
    exact cl_add W g2 cap2 _ _ hg (by have := hc2 0 (by decide); simpa using this) (by have := hc2 1 (by decide); simpa using this) (by rw [IntKind.wrap_i64]; omega)
  · obtain ⟨j, rfl⟩ : ∃ j, n = j + 2 := ⟨n - 2, by omega⟩
    have bx := stB_b hst (show j < j + 2 by omega)
    have bY := stB_b hst (show j + 1 < j + 2 by omega)
    refine (so_of w v (j + 2) X s _ 2 _ [.int .i64 (X j - X (j + 1))] (pt X j (X j - X (j + 1))) (j + 1) hn h (has_sub hm.sub) ht2 (by omega) (by omega) (by simp) (by simp [Value.oneCell']) (flat_pt X j _) (by simp) (fun W u => by simp [callFunc, go_sem, Tryz.func146]; rfl) ?_).mono (so_op (by simp only [mkL, hm.add, hm.sub, if_true, Bool.false_eq_true, if_false]; rfl) ht ho w)
    intro W B u2 hu2
    obtain ⟨g2, cap2, rfl, _, hg, hc2⟩ := taken hu2 (by decide)
    exact cl_sub W g2 cap2 _ _ hg (by have := hc2 0 (by decide); simpa using this) (by have := hc2 1 (by decide); simpa using this) (by rw [IntKind.wrap_i64]; omega)
  · obtain ⟨j, rfl⟩ : ∃ j, n = j + 2 := ⟨n - 2, by omega⟩
    have bx := stB_b hst (show j < j + 2 by omega)
    have bY := stB_b hst (show j + 1 < j + 2 by omega)
    refine (so_of w v (j + 2) X s _ 2 _ [.int .i64 (X j * X (j + 1))] (pt X j (X j * X (j + 1))) (j + 1) hn h (has_mul hm.mul) ht2 (by omega) (by omega) (by simp) (by simp [Value.oneCell']) (flat_pt X j _) (by simp) (fun W u => by simp [callFunc, go_sem, Tryz.func147]; rfl) ?_).mono (so_op (by simp only [mkL, hm.add, hm.sub, hm.mul, if_true, Bool.false_eq_true, if_false]; rfl) ht ho w)
    intro W B u2 hu2
    obtain ⟨g2, cap2, rfl, _, hg, hc2⟩ := taken hu2 (by decide)
    exact cl_mul W g2 cap2 _ _ hg (by have := hc2 0 (by decide); simpa using this) (by have := hc2 1 (by decide); simpa using this) (mul_wrap bx bY)
  · obtain ⟨j, rfl⟩ : ∃ j, n = j + 1 := ⟨n - 1, by omega⟩
    have bx := stB_b hst (show j < j + 1 by omega)
    refine (so_of w v (j + 1) X s _ 1 _ [.int .i64 (-X j)] (pt X j (-X j)) (j + 1) hn h (has_neg hm.neg) ht2 (by omega) (by omega) (by simp) (by simp [Value.oneCell']) (flat_pt X j _) (by simp) (fun W u => by simp [callFunc, go_sem, Tryz.func149]; rfl) ?_).mono (so_op (by simp only [mkL, hm.add, hm.sub, hm.mul, hm.neg, if_true, Bool.false_eq_true, if_false]; rfl) ht ho w)
    intro W B u2 hu2
    obtain ⟨g2, cap2, rfl, _, hg, hc2⟩ := taken hu2 (by decide)
    exact cl_neg W g2 cap2 _ hg (by have := hc2 0 (by decide); simpa using this) (by rw [IntKind.wrap_i64]; omega)
  · obtain ⟨j, rfl⟩ : ∃ j, n = j + 1 := ⟨n - 1, by omega⟩
    have bx := stB_b hst (show j < j + 1 by omega)
    refine (so_of w v (j + 1) X s _ 1 _ [.int .i64 (X j), .int .i64 (X j)] (pt (pt X j (X j)) (j + 1) (X j)) (j + 2) hn h (has_dup hm.dup) ht2 (by omega) (by omega) (by simp) (by simp [Value.oneCell']) (flat_pt2 X j _ _) (by simp) (fun W u => by simp [callFunc, go_sem, Tryz.func150]; rfl) ?_).mono (so_op (by simp only [mkL, hm.add, hm.sub, hm.mul, hm.neg, hm.dup, if_true, Bool.false_eq_true, if_false]; rfl) ht ho w)
    intro W B u2 hu2
    obtain ⟨g2, cap2, rfl, _, hg, hc2⟩ := taken hu2 (by decide)
    exact cl_dup W g2 cap2 _ hg (by have := hc2 0 (by decide); simpa using this)
  · obtain ⟨j, rfl⟩ : ∃ j, n = j + 1 := ⟨n - 1, by omega⟩
    have bx := stB_b hst (show j < j + 1 by omega)
    refine (so_of w v (j + 1) X s _ 1 _ [] X j hn h (has_pop hm.pop) ht2 (by omega) (by omega) (by simp) (by simp [Value.oneCell']) (by simp) (by simp) (fun W u => by simp [callFunc, go_sem, Tryz.func151]; rfl) ?_).mono (so_op (by simp only [mkL, hm.add, hm.sub, hm.mul, hm.neg, hm.dup, hm.pop, if_true, Bool.false_eq_true, if_false]; rfl) ht ho w)
    intro W B u2 hu2
    obtain ⟨g2, cap2, rfl, _, hg, hc2⟩ := taken hu2 (by decide)
    exact cl_pop W g2 cap2
  · obtain ⟨j, rfl⟩ : ∃ j, n = j + 2 := ⟨n - 2, by omega⟩
    have bx := stB_b hst (show j < j + 2 by omega)
    have bY := stB_b hst (show j + 1 < j + 2 by omega)
    refine (so_of w v (j + 2) X s _ 2 _ [.int .i64 (X (j + 1)), .int .i64 (X j)] (pt (pt X j (X (j + 1))) (j + 1) (X j)) (j + 2) hn h (has_exch hm.exch) ht2 (by omega) (by omega) (by simp) (by simp [Value.oneCell']) (flat_pt2 X j _ _) (by simp) (fun W u => by simp [callFunc, go_sem, Tryz.func148]; rfl) ?_).mono (so_op (by simp only [mkL, hm.add, hm.sub, hm.mul, hm.neg, hm.dup, hm.pop, hm.exch, if_true, Bool.false_eq_true, if_false]; rfl) ht ho w)
    intro W B u2 hu2
    obtain ⟨g2, cap2, rfl, _, hg, hc2⟩ := taken hu2 (by decide)
    exact cl_exch W g2 cap2 _ _ hg (by have := hc2 0 (by decide); simpa using this) (by have := hc2 1 (by decide); simpa using this)
theorem stok_impl (w : World) (v : Value) (n : Nat) (X : Nat → Int) (hn : n ≤ 2000000) (h : Rd w v n X) : Calls Tryz.prog 112 #[v] w fun e w' => e = .returned (.bool (stB X n)) ∧ Below w.heap.size w w' :=
  (stok_same w v n X hn h).mono (by rintro e w' ⟨rfl, rfl⟩; exact ⟨rfl, Below.refl _ _⟩)
end Go.Proofs.YtjmfgbbngocodaaGreat.Impl

