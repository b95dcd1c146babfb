/-
  Texts of this seat, laid together: Pti8, Sk9, DrawPlus
-/
import Derived.LoopTactic
import Derived.OwnWalk
import Derived.WalkKit
import Derived.Handy
import Derived.Lib.Hide
import Derived.Deep.AppendLies
import Derived.Test.YtifmdgncgokikaaGreatV02
import Derived.Test.YtifmdgncgokikaaGreatV04
import Derived.Test.YtifmdgncgokikaaGreatV21
import Derived.Test.YtifmdgncgokikaaGreatV13
import Derived.Test.YtifmdgncgokikaaGreatV01
namespace Go.Proofs.YtifmdgncgokikaaGreat.Ins
open Go.ChangeShapes Go.WideShapes Go.ChangeAt Go.RowKit
open Kit Point
set_option linter.unusedVariables false
set_option linter.unusedSimpArgs false
set_option linter.unnecessarySimpa false
set_option maxHeartbeats 1000000 in
theorem allpts_impl (w : World) (a : Option Addr) (c : Nat) (l : List (Int × Int)) (hn : l.length ≤ 1048576) (h : PathAt w a l) :
    Calls Tryz.prog 65 #[.slice a l.length c, .func (.func 66) #[] #[]] w fun e w' => e = .returned (.bool (ptsB l)) ∧ Below w.heap.size w w' := by
  have HP := Lib.hid h
  rcases h with rfl | ⟨g, rfl, hg, _⟩
  · go_enter Tryz.func65, Tryz.ntmps65
    go_wp2
    go_rounds 1
    go_ret
    exact ⟨rfl, Below.refl _ _⟩
  · obtain ⟨n, hN⟩ : ∃ n, l.length = n := ⟨_, rfl⟩
    have HN := Lib.hid hN
    rw [hN] at hn ⊢
    clear hN
    go_enter Tryz.func65, Tryz.ntmps65
    go_wp2
    go_loopw [9] (fun v9 wr => ∃ k : Nat, k ≤ n ∧ v9 = .int .i64 (k : Int) ∧ Hid (∀ i, i < k → pokB (pX l i) (pY l i) = true) ∧ Below w.heap.size w wr) (fun v9 _ => n - (intOf v9).toNat)
    case atStart => exact ⟨0, Nat.zero_le _, rfl, Lib.hid (fun i hi => absurd hi (Nat.not_lt_zero i)), Below.refl _ _⟩
    case round =>
      obtain ⟨k, hk, rfl, hb, hB⟩ := hrel
      by_cases hlt : k < n
      · have hP := HP.out.on hB
        rcases hP with he | ⟨g', hg', hlg, hc⟩
        · have := HN.out; rw [he] at this; simp at this; omega
        · injection hg' with hg'
          injection hg' with hg'
          subst hg'
          have q := hc k (by rw [HN.out]; exact hlt)
          obtain ⟨q1, q2⟩ := q
          obtain ⟨x, hx⟩ : ∃ x, pX l k = x := ⟨_, rfl⟩
          obtain ⟨y, hy⟩ : ∃ y, pY l k = y := ⟨_, rfl⟩
          rw [hx] at q1; rw [hy] at q2
          have i0 : (0 : Int) ≤ (k : Int) := by omega
          have i1 : (k : Int) < (n : Int) := by omega
          have HX := Lib.hid (And.intro hx hy)
          clear hx hy hc
          have HB := Lib.hid hB
          clear hB
          go_wp2_with fail
          ((with_reducible refine (pok_impl x y _).mono ?_); rintro e w1 ⟨rfl, bb⟩)
          have hB1 := on_of (HB.out.alloc HB.out.size _) bb
          have HB1 := Lib.hid hB1
          clear hB1 bb
          cases hp : pokB x y
          · have hno : ptsB l = false := by exact ptsB_bad (by rw [HN.out]; exact hlt) (by rw [HX.out.1, HX.out.2]; exact hp)
            have HS := Lib.hid hno
            clear hno hp
            go_wp2
            go_ret
            exact ⟨ret_bool HS.out.symm, HB1.out⟩
          · have hyes : ∀ i, i < k + 1 → pokB (pX l i) (pY l i) = true := fun i hi => by
              by_cases e : i = k
              · subst e; rw [HX.out.1, HX.out.2]; exact hp
              · exact hb.out i (by omega)
            have HS := Lib.hid hyes
            clear hyes hp
            go_wp2
            go_roundw
            case rel => exact ⟨k + 1, by omega, by go_num, HS, HB1.out⟩
            case measure => simp [intOf]; omega
      · obtain rfl : k = n := by omega
        have HB := Lib.hid hB
        clear hB
        go_wp2
        go_ret
        exact ⟨ret_bool (ptsB_good (fun i hi => hb.out i (by rw [← HN.out]; exact hi))).symm, HB.out⟩
theorem path_impl (w : World) (a : Option Addr) (c : Nat) (l : List (Int × Int)) (hn : l.length ≤ 1048576) (h : PathAt w a l) :
    Calls Tryz.prog 48 #[.slice a l.length c] w fun e w' => e = .returned (.bool (pathB l)) ∧ Below w.heap.size w w' := by
  by_cases h8 : l.length ≤ 8
  · obtain ⟨n, hN⟩ : ∃ n, l.length = n := ⟨_, rfl⟩
    have H := Lib.hid (And.intro h (And.intro hN hn))
    have h8' : (n : Int) ≤ 8 := by omega
    rw [hN]
    clear h hN hn
    go_enter Tryz.func48, Tryz.ntmps48
    go_wp2_with fail
    rw [← H.out.2.1]
    ((with_reducible refine (allpts_impl w a c l H.out.2.2 H.out.1).mono ?_); rintro e w1 ⟨rfl, bb⟩)
    have HB := Lib.hid bb
    clear bb
    go_wp2
    go_ret
    exact ⟨ret_bool (by simp [pathB, h8]), HB.out⟩
  · have h8' : ¬ (l.length : Int) ≤ 8 := by omega
    clear h
    go_enter Tryz.func48, Tryz.ntmps48
    go_wp2
    go_ret
    exact ⟨ret_bool (by simp [pathB, h8]), Below.refl _ _⟩
end Go.Proofs.YtifmdgncgokikaaGreat.Ins
namespace Go.Proofs.YtifmdgncgokikaaGreat.Ins
open Go.ChangeShapes Go.WideShapes Go.ChangeAt Go.RowKit
open Kit Point
set_option linter.unusedVariables false
set_option linter.unusedSimpArgs false
set_option linter.unnecessarySimpa false
def okK (l : List Pt) (k : Nat) : Bool := decide (pX l k < pY l k) && (decide (k = 0) || decide (pY l (k - 1) < pX l k))
def okS (l : List Pt) : Bool := (List.range l.length).all (okK l)
def spB (l : List Pt) : Bool := decide (l.length ≤ 8) && okS l
theorem okS_bad {l : List Pt} {k : Nat} (hk : k < l.length) (h : okK l k = false) : okS l = false := by
  rw [okS, List.all_eq_false]; exact ⟨k, by simpa using hk, by simp [h]⟩
theorem okS_good {l : List Pt} (h : ∀ k, k < l.length → okK l k = true) : okS l = true := by
  rw [okS, List.all_eq_true]; intro k hk; exact h k (by simpa using hk)
theorem okS_at {l : List Pt} (h : okS l = true) {k : Nat} (hk : k < l.length) : okK l k = true := by
  rw [okS, List.all_eq_true] at h; exact h k (by simpa using hk)
theorem spB_bad {l : List Pt} {k : Nat} (hk : k < l.length) (h : okK l k = false) : spB l = false := by simp [spB, okS_bad hk h]
theorem pX_succ (p : Pt) (l : List Pt) (k : Nat) : pX (p :: l) (k + 1) = pX l k := by simp [pX]
theorem pY_succ (p : Pt) (l : List Pt) (k : Nat) : pY (p :: l) (k + 1) = pY l k := by simp [pY]
theorem pX_zero (p : Pt) (l : List Pt) : pX (p :: l) 0 = p.1 := by simp [pX]
theorem pY_zero (p : Pt) (l : List Pt) : pY (p :: l) 0 = p.2 := by simp [pY]
theorem okS_cons (p q : Pt) (r : List Pt) : okS (p :: q :: r) = (decide (p.1 < p.2) && decide (p.2 < q.1) && okS (q :: r)) := by
  cases hb : okS (p :: q :: r) with
  | true =>
    have h0 := okS_at hb (k := 0) (by simp)
    have h1 := okS_at hb (k := 1) (by simp)
    simp only [okK, pX_succ, pY_succ, pX_zero, pY_zero, Nat.sub_self, Bool.and_eq_true, decide_eq_true_eq, Bool.or_eq_true] at h0 h1
    have h2 : okS (q :: r) = true := okS_good fun k hk => by
      have := okS_at hb (k := k + 1) (by simpa using hk)
      simp only [okK, pX_succ, pY_succ, Bool.and_eq_true, decide_eq_true_eq, Bool.or_eq_true, Nat.add_sub_cancel] at this ⊢
      refine ⟨this.1, ?_⟩
      cases k with
      | zero => exact .inl rfl
      | succ j => right; rcases this.2 with h | h
                  · omega
                  · rw [pY_succ] at h; exact h
    simp [h0, h1, h2]; omega
  | false =>
    cases h1 : (decide (p.1 < p.2) && decide (p.2 < q.1) && okS (q :: r)) with
    | false => rfl
    | true =>
      simp only [Bool.and_eq_true, decide_eq_true_eq] at h1
      have : okS (p :: q :: r) = true := okS_good fun k hk => by
        cases k with
        | zero => simp [okK, pX_zero, pY_zero, h1.1.1]
        | succ j =>
          have h3 := okS_at h1.2 (k := j) (by simpa using hk)
          simp only [okK, pX_succ, pY_succ, Bool.and_eq_true, decide_eq_true_eq, Bool.or_eq_true, Nat.add_sub_cancel] at h3 ⊢
          refine ⟨h3.1, .inr ?_⟩
          cases j with
          | zero => rw [pY_zero, pX_zero]; exact h1.1.2
          | succ i => rcases h3.2 with h | h
                      · omega
                      · rw [pY_succ]; exact h
      rw [this] at hb; cases hb
theorem sep_iff : ∀ l : List Pt, okS l = true ↔ Sep l
  | [] => by simp [okS, Sep]
  | [p] => by
    have : okS [p] = decide (p.1 < p.2) := by simp [okS, okK, pX, pY, List.range_succ]
    rw [this]; simp [Sep]
  | p :: q :: r => by
    rw [okS_cons, Bool.and_eq_true, Bool.and_eq_true, decide_eq_true_eq, decide_eq_true_eq, sep_iff (q :: r)]
    constructor
    · rintro ⟨⟨h1, h2⟩, h3⟩
      refine ⟨h1, fun x hx => ?_, h3⟩
      rcases List.mem_cons.1 hx with rfl | hx
      · exact h2
      · have := h3.1; have := h3.2.1 x hx; omega
    · rintro ⟨h1, h2, h3⟩
      exact ⟨⟨h1, h2 q (by simp)⟩, h3⟩
def colB (l : List Pt) : Bool := l.all fun p => decide (p.1 < p.2)
theorem getk (l : List Pt) {k : Nat} (h : k < l.length) : l[k] = (pX l k, pY l k) := by simp [pX, pY, List.getD, h]
theorem colB_bad {l : List Pt} {k : Nat} (hk : k < l.length) (h : ¬ pX l k < pY l k) : colB l = false := by
  rw [colB, List.all_eq_false]; exact ⟨l[k], List.getElem_mem hk, by rw [getk l hk]; simpa using h⟩
theorem colB_good {l : List Pt} (h : ∀ k, k < l.length → pX l k < pY l k) : colB l = true := by
  rw [colB, List.all_eq_true]; intro p hp
  obtain ⟨k, hk, rfl⟩ := List.getElem_of_mem hp
  rw [getk l hk]; simpa using h k hk
theorem colB_at {l : List Pt} (h : colB l = true) {k : Nat} (hk : k < l.length) : pX l k < pY l k := by
  rw [colB, List.all_eq_true] at h
  have := h _ (List.getElem_mem hk)
  rw [getk l hk] at this; simpa using this
theorem PathAt.cells {w : World} {g : Nat} {l : List Pt} (h : PathAt w (some ⟨g, 0, none⟩) l) {k : Nat} (hk : k < l.length) : g < w.heap.size ∧ w.cell? ⟨g, k * 2, none⟩ = some (.int .i64 (pX l k)) ∧ w.cell? ⟨g, k * 2 + 1, none⟩ = some (.int .i64 (pY l k)) := by
  rcases h with rfl | ⟨g', hg', hlg, hc⟩
  · simp at hk
  · injection hg' with hg'
    injection hg' with hg'
    subst hg'
    exact ⟨hlg, hc k hk⟩
theorem hasc_impl (x y : Int) (w : World) : Calls Tryz.prog 70 #[.agg #[.int .i64 x, .int .i64 y]] w fun e w' => e = .returned (.bool (decide (x < y))) ∧ Below w.heap.size w w' := by
  by_cases h : x < y
  all_goals
    go_enter Tryz.func70, Tryz.ntmps70
    go_wp2
    go_ret
    exact ⟨ret_bool (by simp [h]), by go_grown⟩
set_option maxHeartbeats 1000000 in
theorem allcols_impl (w : World) (a : Option Addr) (c : Nat) (l : List Pt) (hn : l.length ≤ 1048576) (h : PathAt w a l) :
    Calls Tryz.prog 80 #[.slice a l.length c, .func (.func 70) #[] #[]] w fun e w' => e = .returned (.bool (colB l)) ∧ Below w.heap.size w w' := by
  have HP := Lib.hid h
  rcases h with rfl | ⟨g, rfl, hg, _⟩
  · go_enter Tryz.func80, Tryz.ntmps80
    go_wp2
    go_rounds 1
    go_ret
    exact ⟨rfl, Below.refl _ _⟩
  · obtain ⟨n, hN⟩ : ∃ n, l.length = n := ⟨_, rfl⟩
    have HN := Lib.hid hN
    rw [hN] at hn ⊢
    clear hN
    go_enter Tryz.func80, Tryz.ntmps80
    go_wp2
    go_loopw [9] (fun v9 wr => ∃ k : Nat, k ≤ n ∧ v9 = .int .i64 (k : Int) ∧ Hid (∀ i, i < k → pX l i < pY l i) ∧ Below w.heap.size w wr) (fun v9 _ => n - (intOf v9).toNat)
    case atStart => exact ⟨0, Nat.zero_le _, rfl, Lib.hid (fun i hi => absurd hi (Nat.not_lt_zero i)), Below.refl _ _⟩
    case round =>
      obtain ⟨k, hk, rfl, hb, hB⟩ := hrel
      by_cases hlt : k < n
      · obtain ⟨hlg, q1, q2⟩ := (HP.out.on hB).cells (k := k) (by rw [HN.out]; exact hlt)
        obtain ⟨x, hx⟩ : ∃ x, pX l k = x := ⟨_, rfl⟩
        obtain ⟨y, hy⟩ : ∃ y, pY l k = y := ⟨_, rfl⟩
        rw [hx] at q1; rw [hy] at q2
        have i0 : (0 : Int) ≤ (k : Int) := by omega
        have i1 : (k : Int) < (n : Int) := by omega
        have HX := Lib.hid (And.intro hx hy)
        clear hx hy
        have HB := Lib.hid hB
        clear hB
        go_wp2_with fail
        ((with_reducible refine (hasc_impl x y _).mono ?_); rintro e w1 ⟨rfl, bb⟩)
        have HB1 := Lib.hid (on_of (HB.out.alloc HB.out.size _) bb)
        clear bb
        by_cases hp : x < y
        · have hyes : ∀ i, i < k + 1 → pX l i < pY l i := fun i hi => by
            by_cases e : i = k
            · subst e; rw [HX.out.1, HX.out.2]; exact hp
            · exact hb.out i (by omega)
          have HS := Lib.hid hyes
          rw [decide_eq_true hp]
          clear hyes hp
          go_wp2
          go_roundw
          case rel => exact ⟨k + 1, by omega, by go_num, HS, HB1.out⟩
          case measure => simp [intOf]; omega
        · have hno : colB l = false := colB_bad (k := k) (by rw [HN.out]; exact hlt) (by rw [HX.out.1, HX.out.2]; exact hp)
          have HS := Lib.hid hno
          rw [decide_eq_false hp]
          clear hno hp
          go_wp2
          go_ret
          exact ⟨ret_bool HS.out.symm, HB1.out⟩
      · obtain rfl : k = n := by omega
        have HB := Lib.hid hB
        clear hB
        go_wp2
        go_ret
        exact ⟨ret_bool (colB_good (fun i hi => hb.out i (by rw [← HN.out]; exact hi))).symm, HB.out⟩
set_option maxRecDepth 100000 in
set_option maxHeartbeats 1000000 in
theorem sok_impl (w : World) (a : Option Addr) (c : Nat) (l : List Pt) (hn : l.length ≤ 1048576) (h : PathAt w a l) :
    Calls Tryz.prog 69 #[.slice a l.length c] w fun e w' => e = .returned (.bool (spB l)) ∧ Below w.heap.size w w' := by
  have H := Lib.hid (And.intro h hn)
  obtain ⟨n, hN⟩ : ∃ n, l.length = n := ⟨_, rfl⟩
  have hca := allcols_impl w a c l hn h
  have HC := Lib.hid hca
  have HN := Lib.hid hN
  rw [hN] at hn ⊢
  clear hca
  by_cases h8 : n ≤ 8
  · have h8i : ¬ ((n : Int) > 8) := by omega
    rw [hN] at HC
    cases hcol : colB l
    · have hv : spB l = false := by
        cases hs : okS l
        · simp [spB, hs]
        · have : colB l = true := colB_good fun k hk => by
            have := okS_at hs hk
            simp only [okK, Bool.and_eq_true, decide_eq_true_eq] at this; exact this.1
          rw [this] at hcol; cases hcol
      have HV := Lib.hid hv
      have HL := Lib.hid hcol
      clear hv hcol hN h
      go_enter Tryz.func69, Tryz.ntmps69
      go_wp2_with fail
      ((with_reducible refine HC.out.mono ?_); rintro e w1 ⟨rfl, bb⟩)
      have HB := Lib.hid bb
      clear bb
      rw [HL.out]
      go_wp2
      go_ret
      exact ⟨ret_bool HV.out.symm, HB.out⟩
    · have HL := Lib.hid hcol
      clear hcol hN
      rcases h with rfl | ⟨g, rfl, hg, _⟩
      · obtain rfl : 0 = n := HN.out
        go_enter Tryz.func69, Tryz.ntmps69
        go_wp2_with fail
        ((with_reducible refine HC.out.mono ?_); rintro e w1 ⟨rfl, bb⟩)
        have HB := Lib.hid bb
        clear bb
        rw [HL.out]
        go_wp2
        go_rounds 1
        go_ret
        exact ⟨rfl, HB.out⟩
      · go_enter Tryz.func69, Tryz.ntmps69
        go_wp2_with fail
        ((with_reducible refine HC.out.mono ?_); rintro e w1 ⟨rfl, bb⟩)
        have HB := Lib.hid bb
        clear bb
        rw [HL.out]
        go_wp2
        go_loopw [3] (fun v3 wr => ∃ k : Nat, v3 = .int .i64 ((k : Int) + 1) ∧ (k = 0 ∨ k < n) ∧ Hid (∀ i, i < k + 1 → i < n → okK l i = true) ∧ Below w.heap.size w wr) (fun v3 _ => n - (intOf v3).toNat)
        case atStart =>
          refine ⟨0, rfl, .inl rfl, Lib.hid fun i hi hin => ?_, HB.out⟩
          obtain rfl : i = 0 := by omega
          have := colB_at HL.out (k := 0) (by rw [HN.out]; exact hin)
          simp [okK, this]
        case round =>
          obtain ⟨k, rfl, hk, hb, hB⟩ := hrel
          by_cases hlt : k + 1 < n
          · obtain ⟨_, _, q2⟩ := (H.out.1.on hB).cells (k := k) (by rw [HN.out]; omega)
            obtain ⟨hlg, q1, _⟩ := (H.out.1.on hB).cells (k := k + 1) (by rw [HN.out]; exact hlt)
            have hkk : okK l (k + 1) = decide (pY l k < pX l (k + 1)) := by
              have := colB_at HL.out (k := k + 1) (by rw [HN.out]; exact hlt)
              simp [okK, this]
            obtain ⟨x, hx⟩ : ∃ x, pX l (k + 1) = x := ⟨_, rfl⟩
            obtain ⟨y, hy⟩ : ∃ y, pY l k = y := ⟨_, rfl⟩
            rw [hx, hy] at hkk
            rw [hx] at q1; rw [hy] at q2
            have HX := Lib.hid hkk
            have i0 : (0 : Int) ≤ (k : Int) := by omega
            have i1 : (k : Int) < (n : Int) := by omega
            have i2 : (k : Int) + 1 < (n : Int) := by omega
            have i3 : (0 : Int) ≤ (k : Int) + 1 := by omega
            have hw : IntKind.i64.wrap (k : Int) = (k : Int) := by rw [IntKind.wrap_i64]; omega
            clear hx hy hkk
            have HB := Lib.hid hB
            clear hB
            have hwr : wr.drew.heap.size = wr.heap.size := rfl
            have q1 : wr.drew.cell? ⟨g, (k + 1) * 2, none⟩ = some (.int .i64 x) := q1
            have q2 : wr.drew.cell? ⟨g, k * 2 + 1, none⟩ = some (.int .i64 y) := q2
            go_wp2
            refine wp_region_still_lit (by kernel_rfl) (by kernel_rfl) ?_
            change wpStill _ _ wr.drew (fun a' => Exit.then _ _ Exit.normal a' wr.drew) _ _
            have HBd : Hid (Below w.heap.size w wr.drew) := Lib.hid (HB.out.trans ⟨rfl, rfl, rfl, Nat.le_refl _, fun _ _ => rfl⟩)
            generalize wr.drew = wd at *
            repeat still_step
            refine wpStill_nil ?_
            clear q1 q2 hwr hw i0 i1 i3
            by_cases hyx : y < x
            · rw [show decide (x ≤ y) = false by simp; omega]
              have hyes : ∀ i, i < k + 1 + 1 → i < n → okK l i = true := fun i hi hin => by
                by_cases e : i = k + 1
                · subst e; rw [HX.out]; simpa using hyx
                · exact hb.out i (by omega) hin
              have HS := Lib.hid hyes
              clear hyes hyx
              have hw1 : IntKind.i64.wrap ((k : Int) + 1 + 1) = (k : Int) + 1 + 1 := by rw [IntKind.wrap_i64]; omega
              go_wp2
              go_roundw
              case rel => exact ⟨k + 1, by go_num, .inr (by omega), HS, HBd.out⟩
              case measure => simp [intOf]; omega
            · rw [show decide (x ≤ y) = true by simp; omega]
              have hno : spB l = false := spB_bad (k := k + 1) (by rw [HN.out]; exact hlt) (by rw [HX.out]; simpa using hyx)
              have HS := Lib.hid hno
              clear hno hyx
              go_wp2
              go_ret
              exact ⟨ret_bool HS.out.symm, HBd.out⟩
          · have hyes : spB l = true := by
              have : okS l = true := okS_good fun i hi => hb.out i (by have := HN.out; omega) (by rw [← HN.out]; exact hi)
              simp [spB, this]; have := HN.out; omega
            have HS := Lib.hid hyes
            have i4 : ¬ ((k : Int) + 1 < (n : Int)) := by omega
            have HB := Lib.hid hB
            clear hyes hB
            go_wp2
            go_ret
            exact ⟨ret_bool HS.out.symm, HB.out⟩
  · have hv : spB l = false := by simp [spB]; intro h; omega
    have HV := Lib.hid hv
    have h8i : (n : Int) > 8 := by omega
    clear hv hN h HC
    go_enter Tryz.func69, Tryz.ntmps69
    go_wp2
    go_ret
    exact ⟨ret_bool HV.out.symm, Below.refl _ _⟩
end Go.Proofs.YtifmdgncgokikaaGreat.Ins
namespace Go.Proofs.YtifmdgncgokikaaGreat.Draw
open Go.ChangeShapes Go.WideShapes Go.ChangeAt Go.RowKit
open Kit
set_option linter.unusedVariables false
set_option linter.unusedSimpArgs false
set_option linter.unnecessarySimpa false
attribute [local go_sem ↓] run_mx run_mn
theorem Drawn.grown {W w0 w w' : World} {a : Option Addr} {len cap : Nat} {z : List Int} {b : Nat} {row : Option Nat} (h : Drawn W a len cap z b w0 w) (hg : w.grownBy w' row) (hr : ∀ k, row = some k → w0.heap.size ≤ k ∧ W.heap.size ≤ k ∧ k ≠ b) : Drawn W a len cap z b w0 w' := by
  obtain ⟨d, g⟩ := h
  obtain ⟨i, q, hi, hl, c0, c1, c2, f1, f2⟩ := d.cur
  have hb : w'.heap[b]? = w.heap[b]? := hg.block b d.here (fun e => (hr b e.symm).2.2 rfl)
  refine ⟨⟨d.row, d.far, Nat.lt_of_lt_of_le d.here hg.size, ⟨i, q, hi, hl, ?_, ?_, ?_, ?_, ?_⟩, d.below.grown hg (Nat.le_trans d.far (Nat.le_of_lt d.here)) (fun k hk => (hr k hk).2.1)⟩, ?_⟩
  · rw [World.cell?_of_block (w := w) hb]; exact c0
  · rw [World.cell?_of_block (w := w) hb]; exact c1
  · rw [World.cell?_of_block (w := w) hb]; exact c2
  · rw [World.frozen?_of_block (w := w) hb]; exact f1
  · rw [World.frozen?_of_block (w := w) hb]; exact f2
  · refine ⟨hg.os.trans g.os, hg.tape.trans g.tape, hg.output.trans g.output, Nat.le_trans g.size hg.size, fun k hk hne => ?_⟩
    rw [hg.block k (Nat.lt_of_lt_of_le hk g.size) (fun e => by have := (hr k e.symm).1; omega)]
    exact g.block k hk hne
theorem Drawn.setNew {W w0 w : World} {a : Option Addr} {len cap : Nat} {z : List Int} {b : Nat} (h : Drawn W a len cap z b w0 w) {R : Nat} (h0 : w0.heap.size ≤ R) (hW : W.heap.size ≤ R) (hb : R ≠ b) (o : Nat) (v : Value) : Drawn W a len cap z b w0 (w.setCell ⟨R, o, none⟩ v) :=
  h.grown (grown_set (World.grownBy.refl w (some R)) o v) (fun k hk => by injection hk with hk; subst hk; exact ⟨h0, hW, hb⟩)
theorem Drawn.keeps {W w0 w : World} {a : Option Addr} {len cap : Nat} {z : List Int} {b : Nat} (h : Drawn W a len cap z b w0 w) {R o : Nat} {v : Value} (hc : w0.cell? ⟨R, o, none⟩ = some v) (hb : R ≠ b) : w.cell? ⟨R, o, none⟩ = some v :=
  h.2.cell hc (by intro e; exact hb (by simpa using e))
theorem Drawn.thaws {W w0 w : World} {a : Option Addr} {len cap : Nat} {z : List Int} {b : Nat} (h : Drawn W a len cap z b w0 w) {R o : Nat} (hl : R < w0.heap.size) (hf : w0.frozen? ⟨R, o, none⟩ = false) (hb : R ≠ b) : w.frozen? ⟨R, o, none⟩ = false := by
  rw [h.2.frozen_far ⟨R, o, none⟩ hl (by intro e; exact hb (by simpa using e))]; exact hf
theorem Two.drawn {W w0 w : World} {a : Option Addr} {len cap : Nat} {z : List Int} {b R : Nat} {x y : Int} (h : Two w0 R x y) (d : Drawn W a len cap z b w0 w) (hb : R ≠ b) : Two w R x y :=
  ⟨d.keeps h.c0 hb, d.keeps h.c1 hb, fun o => d.thaws h.lt (h.fr o) hb⟩
theorem IsRow.keep {k : IntKind} {w w' : World} {a : Option Addr} {len cap : Nat} {z : List Int} (h : IsRow k w a len cap z) (hb : Below w.heap.size w w') : IsRow k w' a len cap z := by
  rcases h with h | ⟨x, ha, hl, hm, hz, hc, hw⟩
  · exact .inl h
  · refine .inr ⟨x, ha, hl, hm, hz, fun i hi => ?_, hw⟩
    have h1 := hc i hi
    exact (hb.cell (p := x.add i) (World.block_lt_of_cell? w _ h1)).trans h1
theorem Four.drawn {W w0 w : World} {a : Option Addr} {len cap : Nat} {z : List Int} {b R : Nat} {x y u v : Int} (h : Four w0 R x y u v) (d : Drawn W a len cap z b w0 w) (hb : R ≠ b) : Four w R x y u v :=
  ⟨d.keeps h.c0 hb, d.keeps h.c1 hb, d.keeps h.c2 hb, d.keeps h.c3 hb, fun o => d.thaws h.lt (h.fr o) hb⟩
end Go.Proofs.YtifmdgncgokikaaGreat.Draw
