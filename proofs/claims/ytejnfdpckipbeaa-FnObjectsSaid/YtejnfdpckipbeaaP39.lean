/-
  Texts of this seat, laid together: Rl9
-/
import Derived.Test.YtejnfdpckipbeaaP33
import Derived.Test.YtejnfdpckipbeaaP34
namespace Go.Proofs.Ytejnfdpckipbeaa.Ins
open Go.ChangeShapes Go.WideShapes Go.ChangeAt Go.RowKit
open Kit Point
set_option linter.unusedVariables false
set_option linter.unusedSimpArgs false
set_option linter.unnecessarySimpa false
def sumD (l : List Pt) : Int := (l.map fun q => q.2 - q.1).sum
theorem sumD_nil : sumD [] = 0 := rfl
theorem sumD_cons (p : Pt) (l : List Pt) : sumD (p :: l) = p.2 - p.1 + sumD l := by simp [sumD]
theorem sumD_snoc (l : List Pt) (p : Pt) : sumD (l ++ [p]) = sumD l + (p.2 - p.1) := by simp [sumD]
theorem sumD_bd {l : List Pt} (h : ∀ q ∈ l, 0 ≤ q.2 - q.1 ∧ q.2 - q.1 ≤ 1000) : 0 ≤ sumD l ∧ sumD l ≤ 1000 * (l.length : Int) := by
  induction l with
  | nil => simp [sumD]
  | cons p r ih =>
    have h1 := h p (by simp)
    have h2 := ih fun q hq => h q (by simp [hq])
    rw [sumD_cons, List.length_cons]; omega
theorem take_snoc (l : List Pt) {k : Nat} (h : k < l.length) : l.take (k + 1) = l.take k ++ [(pX l k, pY l k)] := by
  rw [List.take_add_one, List.getElem?_eq_getElem h, getk l h]; rfl
theorem dtK_sum {l : List Pt} (h : ∀ q ∈ l, 0 ≤ q.2 - q.1 ∧ q.2 - q.1 ≤ 1000) (hl : l.length ≤ 1000) : ∀ k, k ≤ l.length → dtK l k = sumD (l.take k)
  | 0, _ => by simp [dtK, sumD]
  | k + 1, hk => by
    have hk' : k < l.length := by omega
    have ih := dtK_sum h hl k (by omega)
    have b := sumD_bd (l := l.take k) fun q hq => h q (List.mem_of_mem_take hq)
    have hlen : (l.take k).length ≤ 1000 := by rw [List.length_take]; omega
    have q := h _ (List.getElem_mem hk')
    rw [getk l hk'] at q
    dsimp only at q
    rw [take_snoc l hk', sumD_snoc, dtK, ih, IntKind.wrap_i64, IntKind.wrap_i64]
    dsimp only
    omega
theorem dtV_sum {l : List Pt} (h : ∀ q ∈ l, 0 ≤ q.2 - q.1 ∧ q.2 - q.1 ≤ 1000) (hl : l.length ≤ 1000) (hok : spB l = true) : dtV l = sumD l := by
  rw [dt_good hok, dtK_sum h hl _ (Nat.le_refl _), List.take_of_length_le (Nat.le_refl _)]
theorem cnt_iv : ∀ (n A B : Nat), A ≤ B → B ≤ n → (List.range n).countP (fun j => decide (A ≤ j ∧ j < B)) = B - A
  | 0, A, B, h1, h2 => by simp; omega
  | n + 1, A, B, h1, h2 => by
    rw [List.range_succ, List.countP_append, List.countP_singleton]
    by_cases hB : B ≤ n
    · rw [cnt_iv n A B h1 hB, decide_eq_false (show ¬ (A ≤ n ∧ n < B) by omega)]; simp
    · obtain rfl : B = n + 1 := by omega
      by_cases hA : A ≤ n
      · have e : (List.range n).countP (fun j => decide (A ≤ j ∧ j < n + 1)) = (List.range n).countP (fun j => decide (A ≤ j ∧ j < n)) :=
          List.countP_congr fun j hj => by have := List.mem_range.1 hj; simp; omega
        rw [e, cnt_iv n A n hA (Nat.le_refl _), decide_eq_true (show A ≤ n ∧ n < n + 1 by omega)]; simp; omega
      · have e : (List.range n).countP (fun j => decide (A ≤ j ∧ j < n + 1)) = 0 := by
          rw [List.countP_eq_zero]; intro j hj; have := List.mem_range.1 hj; simp; omega
        rw [e, decide_eq_false (show ¬ (A ≤ n ∧ n < n + 1) by omega)]; simp; omega
theorem cnt_or {α : Type} (f g : α → Bool) : ∀ L : List α, (∀ j ∈ L, ¬ (f j = true ∧ g j = true)) → L.countP (fun j => f j || g j) = L.countP f + L.countP g
  | [], _ => rfl
  | a :: L, h => by
    have ih := cnt_or f g L fun j hj => h j (by simp [hj])
    have ha := h a (by simp)
    rw [List.countP_cons, List.countP_cons, List.countP_cons, ih]
    cases hf : f a <;> cases hg : g a <;> simp [hf, hg] at ha ⊢ <;> omega
def cntS (l : List Pt) (k : Nat) : Nat := (List.range k).countP fun j : Nat => inS l ((j : Int) - 8)
theorem cntS_succ (l : List Pt) (k : Nat) : cntS l (k + 1) = cntS l k + if inS l ((k : Int) - 8) = true then 1 else 0 := by
  unfold cntS; rw [List.range_succ, List.countP_append, List.countP_singleton]
theorem cntS_le (l : List Pt) (k : Nat) : cntS l k ≤ k := by
  have := List.countP_le_length (p := fun j : Nat => inS l ((j : Int) - 8)) (l := List.range k); simpa [cntS] using this
theorem cntS_sum : ∀ {l : List Pt}, Sep l → (∀ q ∈ l, -8 ≤ q.1 ∧ q.2 ≤ 42) → ((cntS l 50 : Nat) : Int) = sumD l
  | [], _, _ => by simp [cntS, inS_nil, sumD]
  | p :: r, h, hb => by
    have ih := cntS_sum h.2.2 fun q hq => hb q (by simp [hq])
    have bp := hb p (by simp)
    have hp := h.1
    have e : cntS (p :: r) 50 = (List.range 50).countP (fun j : Nat => decide (p.1 ≤ (j : Int) - 8 ∧ (j : Int) - 8 < p.2)) + cntS r 50 := by
      unfold cntS
      simp only [inS_cons]
      refine cnt_or _ _ _ fun j _ hj => ?_
      obtain ⟨h1, h2⟩ := hj
      simp only [decide_eq_true_eq] at h1
      obtain ⟨q, hq, h3, h4⟩ := inS_true.1 h2
      have := h.2.1 q hq
      omega
    have e2 : (List.range 50).countP (fun j : Nat => decide (p.1 ≤ (j : Int) - 8 ∧ (j : Int) - 8 < p.2)) = (p.2 + 8).toNat - (p.1 + 8).toNat := by
      rw [← cnt_iv 50 (p.1 + 8).toNat (p.2 + 8).toNat (by omega) (by omega)]
      refine List.countP_congr fun j _ => ?_
      simp only [decide_eq_true_eq]; omega
    rw [e, e2, sumD_cons, ← ih]; omega
theorem shp_cols {l : List Pt} {y : Int} (h : Shp l) : ∀ d ∈ colsK l y l.length, -4 ≤ d ∧ d ≤ 36 :=
  cols_in l (X0 := -4) (X1 := 36) (by omega) (by omega) (fun k hk => by
    have := h _ (List.getElem_mem hk)
    rw [getp l hk] at this
    unfold Draw.InPage at this
    exact ⟨this.1.1, by have := this.1.2; omega⟩) l.length (Nat.le_refl _)
theorem shp_ends {l : List Pt} {y : Int} (h : Shp l) : ∀ q ∈ prs (colsK l y l.length), -4 ≤ q.1 ∧ q.2 ≤ 36 := fun q hq => by
  have := prs_mem _ q hq
  have h1 := shp_cols h q.1 this.1
  have h2 := shp_cols h q.2 this.2
  omega
theorem sps_good {l : List Pt} {y : Int} (hp : pathB l = true) (hy : inB y = true) : spsV l y = prs (colsK l y l.length) := by simp [spsV, hp, hy]
theorem sps_ins {l : List Pt} {x y : Int} (h : Shp l) (h6 : l.length ≤ 6) (hy : -1 ≤ y ∧ y ≤ 32) (hx : -8 ≤ x ∧ x < 42) : inpB l x y = inS (spsV l y) x := by
  have hp := shp_ok h (by omega)
  have hyB : inB y = true := by simp [inB]; omega
  have hxB : inB x = true := by simp [inB]; omega
  have hr : ∀ k, k < l.length → -200 ≤ pX l k ∧ pX l k ≤ 200 := fun k hk => by
    have := h _ (List.getElem_mem hk)
    rw [getp l hk] at this
    unfold Draw.InPage at this
    have := this.1; dsimp only at this; omega
  rw [sps_good hp hyB, sps_in (X0 := -200) (X1 := 200) (by omega) (by omega) hr, decide_eq_true (show -200 ≤ x ∧ x < 200 by omega)]
  simp [inpB, hp, hyB, hxB]
theorem sps_okB {l : List Pt} {y : Int} (h6 : l.length ≤ 6) : spB (spsV l y) = true := by
  have hl := spsV_len l y
  have hs : okS (spsV l y) = true := by
    unfold spsV; split
    · exact (sep_iff _).2 (prs_sep (cols_sorted l y _))
    · rfl
  simp [spB, hs]; omega
theorem sps_dots {l : List Pt} {y : Int} (h : Shp l) (h6 : l.length ≤ 6) (hy : -1 ≤ y ∧ y ≤ 32) : dtV (spsV l y) = ((cntS (spsV l y) 50 : Nat) : Int) := by
  have hp := shp_ok h (by omega)
  have hyB : inB y = true := by simp [inB]; omega
  have hl := spsV_len l y
  have hok := sps_okB (l := l) (y := y) h6
  rw [sps_good hp hyB] at *
  have he := shp_ends (y := y) h
  have hs := prs_sep (cols_sorted l y l.length)
  rw [cntS_sum hs fun q hq => by have := he q hq; omega]
  exact dtV_sum (fun q hq => by have := he q hq; have := hs.pos q hq; omega) (by omega) hok
/-! ### spans that are cut -/
theorem sep_lt {l : List Pt} (h : okS l = true) : ∀ {j k : Nat}, j < k → k < l.length → pY l j < pX l k := by
  intro j k hjk hk
  induction k with
  | zero => omega
  | succ k ih =>
    have h1 := okS_at h hk
    simp only [okK, Bool.and_eq_true, decide_eq_true_eq, Bool.or_eq_true, Nat.add_sub_cancel] at h1
    have h2 := okS_at h (k := k) (by omega)
    simp only [okK, Bool.and_eq_true, decide_eq_true_eq] at h2
    rcases h1.2 with h3 | h3
    · omega
    · by_cases e : j = k
      · subst e; exact h3
      · have := ih (by omega) (by omega); omega
structure MtOk (l : List Pt) (a b : Int) (k : Nat) : Prop where
  sep : Sep (mtK l a b k)
  ends : ∀ q ∈ mtK l a b k, ∃ j, j < k ∧ pX l j ≤ q.1 ∧ q.2 ≤ pY l j
  ins : ∀ x, inS (mtK l a b k) x = (inS (l.take k) x && (decide (a ≤ x) && decide (x < b)))
  sum : sumD (mtK l a b k) ≤ sumD (l.take k)
theorem mt_ok {l : List Pt} (h : okS l = true) (a b : Int) : ∀ k, k ≤ l.length → MtOk l a b k
  | 0, _ => ⟨trivial, by simp [mtK], by simp [mtK, inS_nil], by simp [mtK, sumD]⟩
  | k + 1, hk => by
    have hk' : k < l.length := by omega
    obtain ⟨h1, h2, h3, h4⟩ := mt_ok h a b k (by omega)
    have hp := okS_at h hk'
    simp only [okK, Bool.and_eq_true, decide_eq_true_eq] at hp
    have hlt : ∀ q ∈ mtK l a b k, q.2 < pX l k := fun q hq => by
      obtain ⟨j, hj, _, h6⟩ := h2 q hq
      have := sep_lt h hj hk'; omega
    have e : mtK l a b (k + 1) = if mx (pX l k) a < mn (pY l k) b then mtK l a b k ++ [(mx (pX l k) a, mn (pY l k) b)] else mtK l a b k := rfl
    have hmx : pX l k ≤ mx (pX l k) a ∧ a ≤ mx (pX l k) a ∧ (mx (pX l k) a = pX l k ∨ mx (pX l k) a = a) := by unfold mx; omega
    have hmn : mn (pY l k) b ≤ pY l k ∧ mn (pY l k) b ≤ b ∧ (mn (pY l k) b = pY l k ∨ mn (pY l k) b = b) := by unfold mn; omega
    generalize mx (pX l k) a = p at *
    generalize mn (pY l k) b = q at *
    have hcov : ∀ x, (decide (p ≤ x ∧ x < q)) = (decide (pX l k ≤ x ∧ x < pY l k) && (decide (a ≤ x) && decide (x < b))) := fun x => by
      rw [← Bool.decide_and, ← Bool.decide_and, decide_eq_decide]; omega
    by_cases hm : p < q
    · rw [if_pos hm] at e
      refine ⟨?_, ?_, ?_, ?_⟩ <;> rw [e]
      · exact h1.snoc hm fun q hq => by have := hlt q hq; omega
      · intro s hs
        rcases List.mem_append.1 hs with hs | hs
        · obtain ⟨j, hj, h5⟩ := h2 s hs; exact ⟨j, by omega, h5⟩
        · rw [List.mem_singleton.1 hs]; exact ⟨k, by omega, hmx.1, hmn.1⟩
      · intro x
        rw [take_snoc l hk', inS_app, inS_app, h3 x, inS_cons, inS_cons, inS_nil, Bool.or_false, Bool.or_false]
        dsimp only
        rw [hcov x, Bool.and_or_distrib_right]
      · rw [take_snoc l hk', sumD_snoc, sumD_snoc]; dsimp only; omega
    · rw [if_neg hm] at e
      refine ⟨?_, ?_, ?_, ?_⟩ <;> rw [e]
      · exact h1
      · intro s hs; obtain ⟨j, hj, h5⟩ := h2 s hs; exact ⟨j, by omega, h5⟩
      · intro x
        have hc := hcov x
        rw [decide_eq_false (show ¬ (p ≤ x ∧ x < q) by omega)] at hc
        rw [take_snoc l hk', inS_app, h3 x, inS_cons, inS_nil, Bool.or_false, Bool.and_or_distrib_right]
        dsimp only
        rw [← hc, Bool.or_false]
      · rw [take_snoc l hk', sumD_snoc]; dsimp only; omega
theorem drs_ok {l : List Pt} (h : Drs l) : spB l = true := by
  have := (sep_iff l).2 h.sep
  have := h.few
  simp [spB, *]; omega
theorem mt_in {l : List Pt} (h : Drs l) (a b x : Int) : inS (mtV l a b) x = (inS l x && (decide (a ≤ x) && decide (x < b))) := by
  have hk := (mt_ok ((sep_iff l).2 h.sep) a b l.length (Nat.le_refl _)).ins x
  rw [List.take_of_length_le (Nat.le_refl _)] at hk
  rw [mt_good a b (drs_ok h)]; exact hk
theorem mt_spB {l : List Pt} (h : Drs l) (a b : Int) : spB (mtV l a b) = true := by
  have hk := (mt_ok ((sep_iff l).2 h.sep) a b l.length (Nat.le_refl _)).sep
  have hl := mtV_len l a b
  have := h.few
  rw [mt_good a b (drs_ok h)] at *
  have := (sep_iff _).2 hk
  simp [spB, this]; omega
theorem mt_dots {l : List Pt} (h : Drs l) (a b : Int) : dtV (mtV l a b) ≤ dtV l := by
  have hM := mt_ok ((sep_iff l).2 h.sep) a b l.length (Nat.le_refl _)
  have hl := mtV_len l a b
  have hf := h.few
  have hok := mt_spB h a b
  rw [mt_good a b (drs_ok h)] at *
  have hs := hM.sum
  rw [List.take_of_length_le (Nat.le_refl _)] at hs
  have e1 : dtV (mtK l a b l.length) = sumD (mtK l a b l.length) := dtV_sum (fun q hq => by
    have h1 := hM.sep.pos q hq
    obtain ⟨j, hj, h2, h3⟩ := hM.ends q hq
    have h4 := h.small _ (List.getElem_mem hj)
    rw [getk l hj] at h4
    dsimp only at h4
    omega) (by omega) hok
  have e2 : dtV l = sumD l := dtV_sum (fun q hq => by have := h.small q hq; omega) (by omega) (drs_ok h)
  omega
end Go.Proofs.Ytejnfdpckipbeaa.Ins
