/-
  Texts of this seat, laid together: Sk9
-/
import Derived.Test.YtbdjnfnphilklaaM22
import Derived.Test.YtbdjnfnphilklaaM06
import Derived.Test.YtbdjnfnphilklaaM04
namespace Go.Proofs.Ytbdjnfnphilklaa.Ins
open Go.ChangeShapes Go.WideShapes Go.ChangeAt Go.RowKit
open Kit Point
set_option linter.unusedVariables false
set_option linter.unusedSimpArgs false
set_option linter.unnecessarySimpa false
def okK (l : List Pt) (k : Nat) : Bool := decide (pX l k < pY l k) && (decide (k = 0) || decide (pY l (k - 1) < pX l k))
def okS (l : List Pt) : Bool := (List.range l.length).all (okK l)
def spB (l : List Pt) : Bool := decide (l.length ≤ 8) && okS l
theorem okS_bad {l : List Pt} {k : Nat} (hk : k < l.length) (h : okK l k = false) : okS l = false := by
  rw [okS, List.all_eq_false]; exact ⟨k, by simpa using hk, by simp [h]⟩
theorem okS_good {l : List Pt} (h : ∀ k, k < l.length → okK l k = true) : okS l = true := by
  rw [okS, List.all_eq_true]; intro k hk; exact h k (by simpa using hk)
theorem okS_at {l : List Pt} (h : okS l = true) {k : Nat} (hk : k < l.length) : okK l k = true := by
  rw [okS, List.all_eq_true] at h; exact h k (by simpa using hk)
theorem spB_bad {l : List Pt} {k : Nat} (hk : k < l.length) (h : okK l k = false) : spB l = false := by simp [spB, okS_bad hk h]
theorem pX_succ (p : Pt) (l : List Pt) (k : Nat) : pX (p :: l) (k + 1) = pX l k := by simp [pX]
theorem pY_succ (p : Pt) (l : List Pt) (k : Nat) : pY (p :: l) (k + 1) = pY l k := by simp [pY]
theorem pX_zero (p : Pt) (l : List Pt) : pX (p :: l) 0 = p.1 := by simp [pX]
theorem pY_zero (p : Pt) (l : List Pt) : pY (p :: l) 0 = p.2 := by simp [pY]
theorem okS_cons (p q : Pt) (r : List Pt) : okS (p :: q :: r) = (decide (p.1 < p.2) && decide (p.2 < q.1) && okS (q :: r)) := by
  cases hb : okS (p :: q :: r) with
  | true =>
    have h0 := okS_at hb (k := 0) (by simp)
    have h1 := okS_at hb (k := 1) (by simp)
    simp only [okK, pX_succ, pY_succ, pX_zero, pY_zero, Nat.sub_self, Bool.and_eq_true, decide_eq_true_eq, Bool.or_eq_true] at h0 h1
    have h2 : okS (q :: r) = true := okS_good fun k hk => by
      have := okS_at hb (k := k + 1) (by simpa using hk)
      simp only [okK, pX_succ, pY_succ, Bool.and_eq_true, decide_eq_true_eq, Bool.or_eq_true, Nat.add_sub_cancel] at this ⊢
      refine ⟨this.1, ?_⟩
      cases k with
      | zero => exact .inl rfl
      | succ j => right; rcases this.2 with h | h
                  · omega
                  · rw [pY_succ] at h; exact h
    simp [h0, h1, h2]; omega
  | false =>
    cases h1 : (decide (p.1 < p.2) && decide (p.2 < q.1) && okS (q :: r)) with
    | false => rfl
    | true =>
      simp only [Bool.and_eq_true, decide_eq_true_eq] at h1
      have : okS (p :: q :: r) = true := okS_good fun k hk => by
        cases k with
        | zero => simp [okK, pX_zero, pY_zero, h1.1.1]
        | succ j =>
          have h3 := okS_at h1.2 (k := j) (by simpa using hk)
          simp only [okK, pX_succ, pY_succ, Bool.and_eq_true, decide_eq_true_eq, Bool.or_eq_true, Nat.add_sub_cancel] at h3 ⊢
          refine ⟨h3.1, .inr ?_⟩
          cases j with
          | zero => rw [pY_zero, pX_zero]; exact h1.1.2
          | succ i => rcases h3.2 with h | h
                      · omega
                      · rw [pY_succ]; exact h
      rw [this] at hb; cases hb
theorem sep_iff : ∀ l : List Pt, okS l = true ↔ Sep l
  | [] => by simp [okS, Sep]
  | [p] => by
    have : okS [p] = decide (p.1 < p.2) := by simp [okS, okK, pX, pY, List.range_succ]
    rw [this]; simp [Sep]
  | p :: q :: r => by
    rw [okS_cons, Bool.and_eq_true, Bool.and_eq_true, decide_eq_true_eq, decide_eq_true_eq, sep_iff (q :: r)]
    constructor
    · rintro ⟨⟨h1, h2⟩, h3⟩
      refine ⟨h1, fun x hx => ?_, h3⟩
      rcases List.mem_cons.1 hx with rfl | hx
      · exact h2
      · have := h3.1; have := h3.2.1 x hx; omega
    · rintro ⟨h1, h2, h3⟩
      exact ⟨⟨h1, h2 q (by simp)⟩, h3⟩
def colB (l : List Pt) : Bool := l.all fun p => decide (p.1 < p.2)
theorem getk (l : List Pt) {k : Nat} (h : k < l.length) : l[k] = (pX l k, pY l k) := by simp [pX, pY, List.getD, h]
theorem colB_bad {l : List Pt} {k : Nat} (hk : k < l.length) (h : ¬ pX l k < pY l k) : colB l = false := by
  rw [colB, List.all_eq_false]; exact ⟨l[k], List.getElem_mem hk, by rw [getk l hk]; simpa using h⟩
theorem colB_good {l : List Pt} (h : ∀ k, k < l.length → pX l k < pY l k) : colB l = true := by
  rw [colB, List.all_eq_true]; intro p hp
  obtain ⟨k, hk, rfl⟩ := List.getElem_of_mem hp
  rw [getk l hk]; simpa using h k hk
theorem colB_at {l : List Pt} (h : colB l = true) {k : Nat} (hk : k < l.length) : pX l k < pY l k := by
  rw [colB, List.all_eq_true] at h
  have := h _ (List.getElem_mem hk)
  rw [getk l hk] at this; simpa using this
theorem PathAt.cells {w : World} {g : Nat} {l : List Pt} (h : PathAt w (some ⟨g, 0, none⟩) l) {k : Nat} (hk : k < l.length) : g < w.heap.size ∧ w.cell? ⟨g, k * 2, none⟩ = some (.int .i64 (pX l k)) ∧ w.cell? ⟨g, k * 2 + 1, none⟩ = some (.int .i64 (pY l k)) := by
  rcases h with rfl | ⟨g', hg', hlg, hc⟩
  · simp at hk
  · injection hg' with hg'
    injection hg' with hg'
    subst hg'
    exact ⟨hlg, hc k hk⟩
theorem hasc_impl (x y : Int) (w : World) : Calls Try.prog 119 #[.agg #[.int .i64 x, .int .i64 y]] w fun e w' => e = .returned (.bool (decide (x < y))) ∧ Below w.heap.size w w' := by
  by_cases h : x < y
  all_goals
    go_enter Try.func119, Try.ntmps119
    go_wp2
    go_ret
    exact ⟨ret_bool (by simp [h]), by go_grown⟩
set_option maxHeartbeats 1000000 in
theorem allcols_impl (w : World) (a : Option Addr) (c : Nat) (l : List Pt) (hn : l.length ≤ 1048576) (h : PathAt w a l) :
    Calls Try.prog 129 #[.slice a l.length c, .func (.func 119) #[] #[]] w fun e w' => e = .returned (.bool (colB l)) ∧ Below w.heap.size w w' := by
  have HP := Lib.hid h
  rcases h with rfl | ⟨g, rfl, hg, _⟩
  · go_enter Try.func129, Try.ntmps129
    go_wp2
    go_rounds 1
    go_ret
    exact ⟨rfl, Below.refl _ _⟩
  · obtain ⟨n, hN⟩ : ∃ n, l.length = n := ⟨_, rfl⟩
    have HN := Lib.hid hN
    rw [hN] at hn ⊢
    clear hN
    go_enter Try.func129, Try.ntmps129
    go_wp2
    go_loopw [9] (fun v9 wr => ∃ k : Nat, k ≤ n ∧ v9 = .int .i64 (k : Int) ∧ Hid (∀ i, i < k → pX l i < pY l i) ∧ Below w.heap.size w wr) (fun v9 _ => n - (intOf v9).toNat)
    case atStart => exact ⟨0, Nat.zero_le _, rfl, Lib.hid (fun i hi => absurd hi (Nat.not_lt_zero i)), Below.refl _ _⟩
    case round =>
      obtain ⟨k, hk, rfl, hb, hB⟩ := hrel
      by_cases hlt : k < n
      · obtain ⟨hlg, q1, q2⟩ := (HP.out.on hB).cells (k := k) (by rw [HN.out]; exact hlt)
        obtain ⟨x, hx⟩ : ∃ x, pX l k = x := ⟨_, rfl⟩
        obtain ⟨y, hy⟩ : ∃ y, pY l k = y := ⟨_, rfl⟩
        rw [hx] at q1; rw [hy] at q2
        have i0 : (0 : Int) ≤ (k : Int) := by omega
        have i1 : (k : Int) < (n : Int) := by omega
        have HX := Lib.hid (And.intro hx hy)
        clear hx hy
        have HB := Lib.hid hB
        clear hB
        go_wp2_with fail
        ((with_reducible refine (hasc_impl x y _).mono ?_); rintro e w1 ⟨rfl, bb⟩)
        have HB1 := Lib.hid (on_of (HB.out.alloc HB.out.size _) bb)
        clear bb
        by_cases hp : x < y
        · have hyes : ∀ i, i < k + 1 → pX l i < pY l i := fun i hi => by
            by_cases e : i = k
            · subst e; rw [HX.out.1, HX.out.2]; exact hp
            · exact hb.out i (by omega)
          have HS := Lib.hid hyes
          rw [decide_eq_true hp]
          clear hyes hp
          go_wp2
          go_roundw
          case rel => exact ⟨k + 1, by omega, by go_num, HS, HB1.out⟩
          case measure => simp [intOf]; omega
        · have hno : colB l = false := colB_bad (k := k) (by rw [HN.out]; exact hlt) (by rw [HX.out.1, HX.out.2]; exact hp)
          have HS := Lib.hid hno
          rw [decide_eq_false hp]
          clear hno hp
          go_wp2
          go_ret
          exact ⟨ret_bool HS.out.symm, HB1.out⟩
      · obtain rfl : k = n := by omega
        have HB := Lib.hid hB
        clear hB
        go_wp2
        go_ret
        exact ⟨ret_bool (colB_good (fun i hi => hb.out i (by rw [← HN.out]; exact hi))).symm, HB.out⟩
set_option maxRecDepth 100000 in
set_option maxHeartbeats 1000000 in
theorem sok_impl (w : World) (a : Option Addr) (c : Nat) (l : List Pt) (hn : l.length ≤ 1048576) (h : PathAt w a l) :
    Calls Try.prog 118 #[.slice a l.length c] w fun e w' => e = .returned (.bool (spB l)) ∧ Below w.heap.size w w' := by
  have H := Lib.hid (And.intro h hn)
  obtain ⟨n, hN⟩ : ∃ n, l.length = n := ⟨_, rfl⟩
  have hca := allcols_impl w a c l hn h
  have HC := Lib.hid hca
  have HN := Lib.hid hN
  rw [hN] at hn ⊢
  clear hca
  by_cases h8 : n ≤ 8
  · have h8i : ¬ ((n : Int) > 8) := by omega
    rw [hN] at HC
    cases hcol : colB l
    · have hv : spB l = false := by
        cases hs : okS l
        · simp [spB, hs]
        · have : colB l = true := colB_good fun k hk => by
            have := okS_at hs hk
            simp only [okK, Bool.and_eq_true, decide_eq_true_eq] at this; exact this.1
          rw [this] at hcol; cases hcol
      have HV := Lib.hid hv
      have HL := Lib.hid hcol
      clear hv hcol hN h
      go_enter Try.func118, Try.ntmps118
      go_wp2_with fail
      ((with_reducible refine HC.out.mono ?_); rintro e w1 ⟨rfl, bb⟩)
      have HB := Lib.hid bb
      clear bb
      rw [HL.out]
      go_wp2
      go_ret
      exact ⟨ret_bool HV.out.symm, HB.out⟩
    · have HL := Lib.hid hcol
      clear hcol hN
      rcases h with rfl | ⟨g, rfl, hg, _⟩
      · obtain rfl : 0 = n := HN.out
        go_enter Try.func118, Try.ntmps118
        go_wp2_with fail
        ((with_reducible refine HC.out.mono ?_); rintro e w1 ⟨rfl, bb⟩)
        have HB := Lib.hid bb
        clear bb
        rw [HL.out]
        go_wp2
        go_rounds 1
        go_ret
        exact ⟨rfl, HB.out⟩
      · go_enter Try.func118, Try.ntmps118
        go_wp2_with fail
        ((with_reducible refine HC.out.mono ?_); rintro e w1 ⟨rfl, bb⟩)
        have HB := Lib.hid bb
        clear bb
        rw [HL.out]
        go_wp2
        go_loopw [3] (fun v3 wr => ∃ k : Nat, v3 = .int .i64 ((k : Int) + 1) ∧ (k = 0 ∨ k < n) ∧ Hid (∀ i, i < k + 1 → i < n → okK l i = true) ∧ Below w.heap.size w wr) (fun v3 _ => n - (intOf v3).toNat)
        case atStart =>
          refine ⟨0, rfl, .inl rfl, Lib.hid fun i hi hin => ?_, HB.out⟩
          obtain rfl : i = 0 := by omega
          have := colB_at HL.out (k := 0) (by rw [HN.out]; exact hin)
          simp [okK, this]
        case round =>
          obtain ⟨k, rfl, hk, hb, hB⟩ := hrel
          by_cases hlt : k + 1 < n
          · obtain ⟨_, _, q2⟩ := (H.out.1.on hB).cells (k := k) (by rw [HN.out]; omega)
            obtain ⟨hlg, q1, _⟩ := (H.out.1.on hB).cells (k := k + 1) (by rw [HN.out]; exact hlt)
            have hkk : okK l (k + 1) = decide (pY l k < pX l (k + 1)) := by
              have := colB_at HL.out (k := k + 1) (by rw [HN.out]; exact hlt)
              simp [okK, this]
            obtain ⟨x, hx⟩ : ∃ x, pX l (k + 1) = x := ⟨_, rfl⟩
            obtain ⟨y, hy⟩ : ∃ y, pY l k = y := ⟨_, rfl⟩
            rw [hx, hy] at hkk
            rw [hx] at q1; rw [hy] at q2
            have HX := Lib.hid hkk
            have i0 : (0 : Int) ≤ (k : Int) := by omega
            have i1 : (k : Int) < (n : Int) := by omega
            have i2 : (k : Int) + 1 < (n : Int) := by omega
            have i3 : (0 : Int) ≤ (k : Int) + 1 := by omega
            have hw : IntKind.i64.wrap (k : Int) = (k : Int) := by rw [IntKind.wrap_i64]; omega
            clear hx hy hkk
            have HB := Lib.hid hB
            clear hB
            have hwr : wr.drew.heap.size = wr.heap.size := rfl
            have q1 : wr.drew.cell? ⟨g, (k + 1) * 2, none⟩ = some (.int .i64 x) := q1
            have q2 : wr.drew.cell? ⟨g, k * 2 + 1, none⟩ = some (.int .i64 y) := q2
            go_wp2
            refine wp_region_still_lit (by kernel_rfl) (by kernel_rfl) ?_
            change wpStill _ _ wr.drew (fun a' => Exit.then _ _ Exit.normal a' wr.drew) _ _
            have HBd : Hid (Below w.heap.size w wr.drew) := Lib.hid (HB.out.trans ⟨rfl, rfl, rfl, Nat.le_refl _, fun _ _ => rfl⟩)
            generalize wr.drew = wd at *
            repeat still_step
            refine wpStill_nil ?_
            clear q1 q2 hwr hw i0 i1 i3
            by_cases hyx : y < x
            · rw [show decide (x ≤ y) = false by simp; omega]
              have hyes : ∀ i, i < k + 1 + 1 → i < n → okK l i = true := fun i hi hin => by
                by_cases e : i = k + 1
                · subst e; rw [HX.out]; simpa using hyx
                · exact hb.out i (by omega) hin
              have HS := Lib.hid hyes
              clear hyes hyx
              have hw1 : IntKind.i64.wrap ((k : Int) + 1 + 1) = (k : Int) + 1 + 1 := by rw [IntKind.wrap_i64]; omega
              go_wp2
              go_roundw
              case rel => exact ⟨k + 1, by go_num, .inr (by omega), HS, HBd.out⟩
              case measure => simp [intOf]; omega
            · rw [show decide (x ≤ y) = true by simp; omega]
              have hno : spB l = false := spB_bad (k := k + 1) (by rw [HN.out]; exact hlt) (by rw [HX.out]; simpa using hyx)
              have HS := Lib.hid hno
              clear hno hyx
              go_wp2
              go_ret
              exact ⟨ret_bool HS.out.symm, HBd.out⟩
          · have hyes : spB l = true := by
              have : okS l = true := okS_good fun i hi => hb.out i (by have := HN.out; omega) (by rw [← HN.out]; exact hi)
              simp [spB, this]; have := HN.out; omega
            have HS := Lib.hid hyes
            have i4 : ¬ ((k : Int) + 1 < (n : Int)) := by omega
            have HB := Lib.hid hB
            clear hyes hB
            go_wp2
            go_ret
            exact ⟨ret_bool HS.out.symm, HB.out⟩
  · have hv : spB l = false := by simp [spB]; intro h; omega
    have HV := Lib.hid hv
    have h8i : (n : Int) > 8 := by omega
    clear hv hN h HC
    go_enter Try.func118, Try.ntmps118
    go_wp2
    go_ret
    exact ⟨ret_bool HV.out.symm, Below.refl _ _⟩
end Go.Proofs.Ytbdjnfnphilklaa.Ins
