/-
  Texts of this seat, laid together: Pts, Box
-/
import Derived.LoopTactic
import Derived.OwnWalk
import Derived.BigQuiet
import Derived.Deep.QuietTactic
import Derived.Deep.RegionHeld3
import Derived.Test.YtkabofbbioaapaaP02
namespace Go.Proofs.Ytkabofbbioaapaa.Pts
open Go.ChangeShapes Go.WideShapes Go.ChangeAt Go.RowKit
open Kit Point
set_option linter.unusedVariables false
set_option linter.unusedSimpArgs false
set_option linter.unnecessarySimpa false
attribute [local go_sem ↓] run_mx run_mn
def PtsAt (w : World) (g n : Nat) (X Y : Nat → Int) : Prop := ∀ i, i < n → w.cell? ⟨g, i * 2, none⟩ = some (.int .i64 (X i)) ∧ w.cell? ⟨g, i * 2 + 1, none⟩ = some (.int .i64 (Y i))
def acc (f : Int → Int → Int) (X : Nat → Int) : Nat → Int
  | 0 => X 0
  | k + 1 => f (acc f X k) (X k)
def okB (X Y : Nat → Int) : Nat → Bool
  | 0 => true
  | k + 1 => okB X Y k && pokB (X k) (Y k)
theorem okB_bad {X Y : Nat → Int} {k n : Nat} (hk : k < n) (h : pokB (X k) (Y k) = false) : okB X Y n = false := by
  induction n with
  | zero => omega
  | succ m ih =>
    by_cases e : k = m
    · subst e; simp [okB, h]
    · simp [okB, ih (by omega)]
theorem okB_good {X Y : Nat → Int} {n : Nat} (h : ∀ i, i < n → pokB (X i) (Y i) = true) : okB X Y n = true := by
  induction n with
  | zero => rfl
  | succ m ih => simp [okB, ih (fun i hi => h i (by omega)), h m (by omega)]
def boxofV (X Y : Nat → Int) (n : Nat) : Value :=
  .agg #[.int .i64 (sel (decide (0 < n) && okB X Y n) (acc mn X n)), .int .i64 (sel (decide (0 < n) && okB X Y n) (acc mn Y n)), .int .i64 (sel (decide (0 < n) && okB X Y n) (acc mx X n)), .int .i64 (sel (decide (0 < n) && okB X Y n) (acc mx Y n))]
theorem boxof_zero (X Y : Nat → Int) : Ending.returned (.agg #[.int .i64 0, .int .i64 0, .int .i64 0, .int .i64 0]) = .returned (boxofV X Y 0) := by simp [boxofV, sel]
theorem boxof_bad {X Y : Nat → Int} {k n : Nat} (hk : k < n) (h : pokB (X k) (Y k) = false) : Ending.returned (.agg #[.int .i64 0, .int .i64 0, .int .i64 0, .int .i64 0]) = .returned (boxofV X Y n) := by simp [boxofV, sel, okB_bad hk h]
theorem boxof_good {X Y : Nat → Int} {n : Nat} (h0 : 0 < n) (h : ∀ i, i < n → pokB (X i) (Y i) = true) : Ending.returned (.agg #[.int .i64 (acc mn X n), .int .i64 (acc mn Y n), .int .i64 (acc mx X n), .int .i64 (acc mx Y n)]) = .returned (boxofV X Y n) := by simp [boxofV, sel, okB_good h, h0]
set_option maxHeartbeats 2000000 in
theorem boxof_impl (g n c : Nat) (X Y : Nat → Int) (w : World) (hn : n ≤ 1048576) (hg : g < w.heap.size) (hp : PtsAt w g n X Y) :
    Calls Try.prog 92 #[.slice (some ⟨g, 0, none⟩) n c] w fun e w' => e = .returned (boxofV X Y n) ∧ Below w.heap.size w w' := by
  by_cases h0 : n = 0
  · subst h0
    go_enter Try.func92, Try.ntmps92
    go_wp2
    go_returns
    exact ⟨boxof_zero X Y, by go_grown⟩
  · have hp0 := hp 0 (by omega)
    simp only [Nat.zero_mul, Nat.zero_add] at hp0
    obtain ⟨e0, e1⟩ := hp0
    have HP := Lib.hid hp
    clear hp
    have hn0 : (0 : Int) < (n : Int) := by omega
    have hn9 : ((n : Int) == 0) = false := by simp; omega
    go_enter Try.func92, Try.ntmps92
    go_wp2
    go_loopw [25] (fun v25 wr => ∃ k : Nat, k ≤ n ∧ v25 = .int .i64 (k : Int) ∧ (∀ i, i < k → pokB (X i) (Y i) = true) ∧ Four wr w.heap.size 0 0 0 0 ∧ Four wr (w.heap.size + 1 + 1) (acc mn X k) (acc mn Y k) (acc mx X k) (acc mx Y k) ∧ w.heap.size + 1 + 1 < wr.heap.size ∧ Below w.heap.size w wr) (fun v25 _ => n - (intOf v25).toNat)
    case atStart => exact ⟨0, Nat.zero_le _, rfl, fun i hi => by omega, ⟨by simp [go_sem], by simp [go_sem], by simp [go_sem], by simp [go_sem], fun o => by simp [go_sem]⟩, ⟨by simp [go_sem, acc], by simp [go_sem, acc], by simp [go_sem, acc], by simp [go_sem, acc], fun o => by simp [go_sem]⟩, by simp, by go_grown⟩
    case round =>
      obtain ⟨k, hk, rfl, hok, F0, F1, hsz, hbel⟩ := hrel
      have HO := Lib.hid hok
      clear hok
      have hs0 : w.heap.size < wr.heap.size := by omega
      by_cases hlt : k < n
      · have hpk := HP.out k hlt
        have q0 : wr.cell? ⟨g, k * 2, none⟩ = some (.int .i64 (X k)) := by rw [hbel.cell (p := ⟨g, k * 2, none⟩) hg]; exact hpk.1
        have q1 : wr.cell? ⟨g, k * 2 + 1, none⟩ = some (.int .i64 (Y k)) := by rw [hbel.cell (p := ⟨g, k * 2 + 1, none⟩) hg]; exact hpk.2
        clear hpk
        have i0 : (0 : Int) ≤ (k : Int) := by omega
        have i1 : (k : Int) < (n : Int) := by omega
        cases hpk : pokB (X k) (Y k)
        · go_wp2_with (go_at_call 78; (with_reducible refine (pok_impl _ _ _).mono ?_); rintro e w' ⟨rfl, hb⟩; have hB := on_of (W := w) (by go_grown) hb; obtain ⟨r0, r1, r2, r3, rf⟩ := Four.keep (Four.alloc F0 _) hb (by simp; omega); obtain ⟨b0, b1, b2, b3, bf⟩ := Four.keep (Four.alloc F1 _) hb (by simp; omega); have p0 := (bcell hb).1 wr.heap.size 0 (by simp); have p1 := (bcell hb).1 wr.heap.size 1 (by simp); simp only [World.cell?_alloc_new] at p0 p1; have hsw := hb.size; simp at hsw; clear hb)
          refine bodyPost_ret (by simp [results, Try.results92, go_sem, *]; try rfl) rfl ?_
          exact ⟨boxof_bad hlt hpk, by go_grown⟩
        · go_wp2_with (go_at_call 78; (with_reducible refine (pok_impl _ _ _).mono ?_); rintro e w' ⟨rfl, hb⟩; have hB := on_of (W := w) (by go_grown) hb; obtain ⟨r0, r1, r2, r3, rf⟩ := Four.keep (Four.alloc F0 _) hb (by simp; omega); obtain ⟨b0, b1, b2, b3, bf⟩ := Four.keep (Four.alloc F1 _) hb (by simp; omega); have p0 := (bcell hb).1 wr.heap.size 0 (by simp); have p1 := (bcell hb).1 wr.heap.size 1 (by simp); simp only [World.cell?_alloc_new] at p0 p1; have hsw := hb.size; simp at hsw; clear hb)
          have G0 : Four w' w.heap.size 0 0 0 0 := ⟨r0, r1, r2, r3, rf⟩
          have G1 : Four w' (w.heap.size + 1 + 1) (acc mn X k) (acc mn Y k) (acc mx X k) (acc mx Y k) := ⟨b0, b1, b2, b3, bf⟩
          go_roundw
          case rel =>
            refine ⟨k + 1, by omega, by go_num, fun i hi => ?_, Four.other (Four.other (Four.other (Four.other G0 (by omega) _ _) (by omega) _ _) (by omega) _ _) (by omega) _ _, Four.set G1 _ _ _ _, by simp; omega, by go_grown⟩
            by_cases e : i = k
            · subst e; exact hpk
            · exact HO.out i (by omega)
          case measure => simp [intOf]; omega
      · obtain rfl : k = n := by omega
        obtain ⟨r0, r1, r2, r3, rf⟩ := F0
        obtain ⟨b0, b1, b2, b3, bf⟩ := F1
        go_wp2
        refine bodyPost_ret (by simp [results, Try.results92, go_sem, *]; try rfl) rfl ?_
        exact ⟨boxof_good (by omega) HO.out, by go_grown⟩
set_option maxHeartbeats 2000000 in
theorem boxof_spec (g n c : Nat) (X Y : Nat → Int) (w : World) (hn : n ≤ 1048576) (hg : g < w.heap.size) (hp : PtsAt w g n X Y) :
    Calls Try.prog 69 #[.slice (some ⟨g, 0, none⟩) n c] w fun e w' => e = .returned (boxofV X Y n) ∧ Below w.heap.size w w' := by
  have HP := Lib.hid hp
  clear hp
  go_enter Try.func69, Try.ntmps69
  go_wp2
  go_loopw [4] (fun v4 wr => ∃ k : Nat, k ≤ n ∧ v4 = .int .i64 (k : Int) ∧ (∀ i, i < k → pokB (X i) (Y i) = true) ∧ Four wr w.heap.size 0 0 0 0 ∧ Four wr (w.heap.size + 1) (sel (decide (0 < k)) (acc mn X k)) (sel (decide (0 < k)) (acc mn Y k)) (sel (decide (0 < k)) (acc mx X k)) (sel (decide (0 < k)) (acc mx Y k)) ∧ w.heap.size + 1 < wr.heap.size ∧ Below w.heap.size w wr) (fun v4 _ => n - (intOf v4).toNat)
  case atStart => exact ⟨0, Nat.zero_le _, rfl, fun i hi => by omega, ⟨by simp [go_sem], by simp [go_sem], by simp [go_sem], by simp [go_sem], fun o => by simp [go_sem]⟩, ⟨by simp [go_sem, sel], by simp [go_sem, sel], by simp [go_sem, sel], by simp [go_sem, sel], fun o => by simp [go_sem]⟩, by simp, by go_grown⟩
  case round =>
    obtain ⟨k, hk, rfl, hok, F0, F1, hsz, hbel⟩ := hrel
    have HO := Lib.hid hok
    clear hok
    have hs0 : w.heap.size < wr.heap.size := by omega
    by_cases hlt : k < n
    · have hpk := HP.out k hlt
      have q0 : wr.cell? ⟨g, k * 2, none⟩ = some (.int .i64 (X k)) := by rw [hbel.cell (p := ⟨g, k * 2, none⟩) hg]; exact hpk.1
      have q1 : wr.cell? ⟨g, k * 2 + 1, none⟩ = some (.int .i64 (Y k)) := by rw [hbel.cell (p := ⟨g, k * 2 + 1, none⟩) hg]; exact hpk.2
      clear hpk
      have i0 : (0 : Int) ≤ (k : Int) := by omega
      have i1 : (k : Int) < (n : Int) := by omega
      have hok1 : pokB (X k) (Y k) = true → ∀ i, i < k + 1 → pokB (X i) (Y i) = true := fun h i hi => by
        by_cases e : i = k
        · subst e; exact h
        · exact HO.out i (by omega)
      have HO1 := Lib.hid hok1
      clear hok1
      cases hpk : pokB (X k) (Y k)
      · go_wp2_with (go_at_call 84; (with_reducible refine (pok_spec _ _ _).mono ?_); rintro e w' ⟨rfl, hb⟩; have hB := on_of (W := w) (by go_grown) hb; obtain ⟨r0, r1, r2, r3, rf⟩ := Four.keep (Four.alloc F0 _) hb (by simp; omega); obtain ⟨b0, b1, b2, b3, bf⟩ := Four.keep (Four.alloc F1 _) hb (by simp; omega); have p0 := (bcell hb).1 wr.heap.size 0 (by simp); have p1 := (bcell hb).1 wr.heap.size 1 (by simp); simp only [World.cell?_alloc_new] at p0 p1; have hsw := hb.size; simp at hsw; clear hb)
        refine bodyPost_ret (by simp [results, Try.results69, go_sem, *]; try rfl) rfl ?_
        exact ⟨boxof_bad hlt hpk, by go_grown⟩
      · by_cases hk0 : k = 0
        · subst hk0
          have hk9 : (((0 : Nat) : Int) == 0) = true := by simp
          go_wp2_with (go_at_call 84; (with_reducible refine (pok_spec _ _ _).mono ?_); rintro e w' ⟨rfl, hb⟩; have hB := on_of (W := w) (by go_grown) hb; obtain ⟨r0, r1, r2, r3, rf⟩ := Four.keep (Four.alloc F0 _) hb (by simp; omega); obtain ⟨b0, b1, b2, b3, bf⟩ := Four.keep (Four.alloc F1 _) hb (by simp; omega); have p0 := (bcell hb).1 wr.heap.size 0 (by simp); have p1 := (bcell hb).1 wr.heap.size 1 (by simp); simp only [World.cell?_alloc_new] at p0 p1; have hsw := hb.size; simp at hsw; clear hb)
          have G0 : Four w' w.heap.size 0 0 0 0 := ⟨r0, r1, r2, r3, rf⟩
          have G1 : Four w' (w.heap.size + 1) _ _ _ _ := ⟨b0, b1, b2, b3, bf⟩
          go_roundw
          case rel =>
            refine ⟨1, by omega, by go_num, HO1.out hpk, ?_, ?_, by simp; omega, by go_grown⟩
            · refine Four.other (Four.other (Four.other (Four.other ?_ (by omega) _ _) (by omega) _ _) (by omega) _ _) (by omega) _ _
              exact Four.other (Four.other (Four.other (Four.other G0 (by omega) _ _) (by omega) _ _) (by omega) _ _) (by omega) _ _
            · simp only [sel, show decide (0 < 1) = true by simp, if_true]
              exact Four.set (Four.set G1 _ _ _ _) _ _ _ _
          case measure => simp [intOf]; omega
        · have hk9 : ((k : Int) == 0) = false := by simp; omega
          simp only [sel, show decide (0 < k) = true by simp; omega, if_true] at F1
          go_wp2_with (go_at_call 84; (with_reducible refine (pok_spec _ _ _).mono ?_); rintro e w' ⟨rfl, hb⟩; have hB := on_of (W := w) (by go_grown) hb; obtain ⟨r0, r1, r2, r3, rf⟩ := Four.keep (Four.alloc F0 _) hb (by simp; omega); obtain ⟨b0, b1, b2, b3, bf⟩ := Four.keep (Four.alloc F1 _) hb (by simp; omega); have p0 := (bcell hb).1 wr.heap.size 0 (by simp); have p1 := (bcell hb).1 wr.heap.size 1 (by simp); simp only [World.cell?_alloc_new] at p0 p1; have hsw := hb.size; simp at hsw; clear hb)
          have G0 : Four w' w.heap.size 0 0 0 0 := ⟨r0, r1, r2, r3, rf⟩
          have G1 : Four w' (w.heap.size + 1) _ _ _ _ := ⟨b0, b1, b2, b3, bf⟩
          go_roundw
          case rel =>
            refine ⟨k + 1, by omega, by go_num, HO1.out hpk, Four.other (Four.other (Four.other (Four.other G0 (by omega) _ _) (by omega) _ _) (by omega) _ _) (by omega) _ _, ?_, by simp; omega, by go_grown⟩
            simp only [sel, show decide (0 < k + 1) = true by simp, if_true]
            exact Four.set G1 _ _ _ _
          case measure => simp [intOf]; omega
    · obtain rfl : k = n := by omega
      obtain ⟨r0, r1, r2, r3, rf⟩ := F0
      obtain ⟨b0, b1, b2, b3, bf⟩ := F1
      go_wp2
      refine bodyPost_ret (by simp [results, Try.results69, go_sem, *]; try rfl) rfl ?_
      refine ⟨?_, by go_grown⟩
      by_cases hk0 : k = 0
      · subst hk0; exact boxof_zero X Y
      · have := boxof_good (n := k) (X := X) (Y := Y) (by omega) HO.out
        simpa [sel, show 0 < k by omega] using this
end Go.Proofs.Ytkabofbbioaapaa.Pts
namespace Go.Proofs.Ytkabofbbioaapaa.Box
open Go.ChangeShapes Go.WideShapes Go.ChangeAt Go.RowKit
open Kit Point
set_option linter.unusedVariables false
set_option linter.unusedSimpArgs false
set_option linter.unnecessarySimpa false
attribute [local go_sem ↓] run_mx run_mn
def dots (x0 y0 x1 y1 : Int) : Int := if bokB x0 y0 x1 y1 = true then (x1 - x0) * (y1 - y0) else 0
theorem area_le {a b : Int} (h0 : 0 ≤ a) (h1 : a ≤ 400) (h2 : 0 ≤ b) (h3 : b ≤ 400) : 0 ≤ a * b ∧ a * b ≤ 160000 :=
  ⟨Int.mul_nonneg h0 h2, Int.le_trans (Int.mul_le_mul h1 h3 h2 (by omega)) (by omega)⟩
set_option maxHeartbeats 400000 in
theorem dots_impl (x0 y0 x1 y1 : Int) (w : World) : Calls Try.prog 61 #[.agg #[.int .i64 x0, .int .i64 y0, .int .i64 x1, .int .i64 y1]] w fun e w' => e = .returned (.int .i64 (dots x0 y0 x1 y1)) ∧ Below w.heap.size w w' := by
  cases h : bokB x0 y0 x1 y1
  · go_enter Try.func61, Try.ntmps61
    go_wp2_with (go_at_call 60; refine (bok_impl _ _ _ _ _).mono ?_; rintro e w' ⟨rfl, hb⟩; have hB := on_of (W := w) (by go_grown) hb; obtain ⟨hc, hf⟩ := bcell hb; have hz : w.heap.size < w'.heap.size := (by have := hb.size; (try simp at this); omega); clear hb)
    go_ret
    exact ⟨ret_int (by simp [dots, h]), by go_grown⟩
  · obtain ⟨b0, b1, b2, b3, b4, b5⟩ := bok_true h
    obtain ⟨a0, a1⟩ := area_le (a := x1 - x0) (b := y1 - y0) (by omega) (by omega) (by omega) (by omega)
    go_enter Try.func61, Try.ntmps61
    go_wp2_with (go_at_call 60; refine (bok_impl _ _ _ _ _).mono ?_; rintro e w' ⟨rfl, hb⟩; have hB := on_of (W := w) (by go_grown) hb; obtain ⟨hc, hf⟩ := bcell hb; have hz : w.heap.size < w'.heap.size := (by have := hb.size; (try simp at this); omega); clear hb)
    go_ret
    exact ⟨ret_int (by simp [dots, h]), by go_grown⟩
set_option maxHeartbeats 400000 in
theorem dots_spec (x0 y0 x1 y1 : Int) (w : World) : Calls Try.prog 45 #[.agg #[.int .i64 x0, .int .i64 y0, .int .i64 x1, .int .i64 y1]] w fun e w' => e = .returned (.int .i64 (dots x0 y0 x1 y1)) ∧ Below w.heap.size w w' := by
  cases h : bokB x0 y0 x1 y1
  · go_enter Try.func45, Try.ntmps45
    go_wp2_with (go_at_call 71; refine (bok_spec _ _ _ _ _).mono ?_; rintro e w' ⟨rfl, hb⟩; have hB := on_of (W := w) (by go_grown) hb; obtain ⟨hc, hf⟩ := bcell hb; have hz : w.heap.size < w'.heap.size := (by have := hb.size; (try simp at this); omega); clear hb)
    go_ret
    exact ⟨ret_int (by simp [dots, h]), by go_grown⟩
  · obtain ⟨b0, b1, b2, b3, b4, b5⟩ := bok_true h
    obtain ⟨a0, a1⟩ := area_le (a := x1 - x0) (b := y1 - y0) (by omega) (by omega) (by omega) (by omega)
    go_enter Try.func45, Try.ntmps45
    go_wp2_with (go_at_call 71; refine (bok_spec _ _ _ _ _).mono ?_; rintro e w' ⟨rfl, hb⟩; have hB := on_of (W := w) (by go_grown) hb; obtain ⟨hc, hf⟩ := bcell hb; have hz : w.heap.size < w'.heap.size := (by have := hb.size; (try simp at this); omega); clear hb)
    go_ret
    exact ⟨ret_int (by simp [dots, h]), by go_grown⟩
def DotsOf (x0 y0 x1 y1 n : Int) : Prop := (n = 0 ∧ ¬ (x0 < x1 ∧ y0 < y1)) ∨ (1 ≤ n ∧ x0 < x1 ∧ y0 < y1)
theorem dots_of {x0 y0 x1 y1 : Int} (h0 : -200 ≤ x0 ∧ x0 ≤ 200) (h1 : -200 ≤ y0 ∧ y0 ≤ 200) (h2 : -200 ≤ x1 ∧ x1 ≤ 200) (h3 : -200 ≤ y1 ∧ y1 ≤ 200) : DotsOf x0 y0 x1 y1 (dots x0 y0 x1 y1) := by
  unfold dots DotsOf
  by_cases h : x0 < x1 ∧ y0 < y1
  · have hb : bokB x0 y0 x1 y1 = true := by simp [bokB, inB]; omega
    rw [if_pos hb]
    have := Int.mul_pos (show 0 < x1 - x0 by omega) (show 0 < y1 - y0 by omega)
    exact .inr ⟨by omega, h⟩
  · refine .inl ⟨?_, h⟩
    by_cases hb : bokB x0 y0 x1 y1 = true
    · rw [if_pos hb]
      obtain ⟨_, _, _, _, a, b⟩ := bok_true hb
      by_cases hx : x0 = x1
      · subst hx; simp
      · have : y0 = y1 := by omega
        subst this; simp
    · rw [if_neg hb]
theorem dots_impl' (x0 y0 x1 y1 : Int) (w : World) (h : (-200 ≤ x0 ∧ x0 ≤ 200) ∧ (-200 ≤ y0 ∧ y0 ≤ 200) ∧ (-200 ≤ x1 ∧ x1 ≤ 200) ∧ (-200 ≤ y1 ∧ y1 ≤ 200)) : Calls Try.prog 61 #[.agg #[.int .i64 x0, .int .i64 y0, .int .i64 x1, .int .i64 y1]] w fun e w' => ∃ n : Int, DotsOf x0 y0 x1 y1 n ∧ e = .returned (.int .i64 n) ∧ Below w.heap.size w w' :=
  (dots_impl _ _ _ _ w).mono fun _ _ ⟨he, hb⟩ => ⟨_, dots_of h.1 h.2.1 h.2.2.1 h.2.2.2, he, hb⟩
def meetB (x0 y0 x1 y1 u0 v0 u1 v1 : Int) : Bool := bokB x0 y0 x1 y1 && bokB u0 v0 u1 v1 && decide (mx x0 u0 < mn x1 u1 ∧ mx y0 v0 < mn y1 v1)
def meetV (x0 y0 x1 y1 u0 v0 u1 v1 : Int) : Value :=
  .agg #[.int .i64 (sel (meetB x0 y0 x1 y1 u0 v0 u1 v1) (mx x0 u0)), .int .i64 (sel (meetB x0 y0 x1 y1 u0 v0 u1 v1) (mx y0 v0)), .int .i64 (sel (meetB x0 y0 x1 y1 u0 v0 u1 v1) (mn x1 u1)), .int .i64 (sel (meetB x0 y0 x1 y1 u0 v0 u1 v1) (mn y1 v1))]
theorem meet_no {x0 y0 x1 y1 u0 v0 u1 v1 : Int} (h : bokB x0 y0 x1 y1 = false ∨ bokB u0 v0 u1 v1 = false ∨ ¬ (mx x0 u0 < mn x1 u1 ∧ mx y0 v0 < mn y1 v1)) : Ending.returned (.agg #[.int .i64 0, .int .i64 0, .int .i64 0, .int .i64 0]) = .returned (meetV x0 y0 x1 y1 u0 v0 u1 v1) := by
  have hm : meetB x0 y0 x1 y1 u0 v0 u1 v1 = false := by
    rcases h with h | h | h
    · simp [meetB, h]
    · simp [meetB, h]
    · simp only [meetB, Bool.and_eq_false_iff, decide_eq_false_iff_not]; exact .inr h
  simp [meetV, hm, sel]
theorem meet_yes {x0 y0 x1 y1 u0 v0 u1 v1 : Int} (h1 : bokB x0 y0 x1 y1 = true) (h2 : bokB u0 v0 u1 v1 = true) (h3 : mx x0 u0 < mn x1 u1 ∧ mx y0 v0 < mn y1 v1) : Ending.returned (.agg #[.int .i64 (mx x0 u0), .int .i64 (mx y0 v0), .int .i64 (mn x1 u1), .int .i64 (mn y1 v1)]) = .returned (meetV x0 y0 x1 y1 u0 v0 u1 v1) := by
  have hm : meetB x0 y0 x1 y1 u0 v0 u1 v1 = true := by
    simp only [meetB, h1, h2, Bool.true_and, decide_eq_true_eq]; exact h3
  simp [meetV, hm, sel]
set_option maxHeartbeats 2000000 in
theorem meet_impl (x0 y0 x1 y1 u0 v0 u1 v1 : Int) (w : World) : Calls Try.prog 35 #[.agg #[.int .i64 x0, .int .i64 y0, .int .i64 x1, .int .i64 y1], .agg #[.int .i64 u0, .int .i64 v0, .int .i64 u1, .int .i64 v1]] w fun e w' => e = .returned (meetV x0 y0 x1 y1 u0 v0 u1 v1) ∧ Below w.heap.size w w' := by
  cases h1 : bokB x0 y0 x1 y1 <;> cases h2 : bokB u0 v0 u1 v1
  · go_enter Try.func35, Try.ntmps35
    go_wp2_with (go_at_call 60; refine (bok_impl _ _ _ _ _).mono ?_; rintro e w' ⟨rfl, hb⟩; have hB := on_of (W := w) (by go_grown) hb; obtain ⟨hc, hf⟩ := bcell hb; have hz : w.heap.size < w'.heap.size := (by have := hb.size; (try simp at this); omega); have hz1 : w.heap.size + 1 < w'.heap.size := (by have := hb.size; (try simp at this); omega); have hz2 : w.heap.size + 1 + 1 < w'.heap.size := (by have := hb.size; (try simp at this); omega); clear hb)
    refine bodyPost_ret (by simp [results, Try.results35, go_sem, hc, hz2]; try rfl) rfl ?_
    exact ⟨meet_no (.inl h1), by go_grown⟩
  · go_enter Try.func35, Try.ntmps35
    go_wp2_with (go_at_call 60; refine (bok_impl _ _ _ _ _).mono ?_; rintro e w' ⟨rfl, hb⟩; have hB := on_of (W := w) (by go_grown) hb; obtain ⟨hc, hf⟩ := bcell hb; have hz : w.heap.size < w'.heap.size := (by have := hb.size; (try simp at this); omega); have hz1 : w.heap.size + 1 < w'.heap.size := (by have := hb.size; (try simp at this); omega); have hz2 : w.heap.size + 1 + 1 < w'.heap.size := (by have := hb.size; (try simp at this); omega); clear hb)
    refine bodyPost_ret (by simp [results, Try.results35, go_sem, hc, hz2]; try rfl) rfl ?_
    exact ⟨meet_no (.inl h1), by go_grown⟩
  · go_enter Try.func35, Try.ntmps35
    go_wp2_with (go_at_call 60; refine (bok_impl _ _ _ _ _).mono ?_; rintro e w' ⟨rfl, hb⟩; have hB := on_of (W := w) (by go_grown) hb; obtain ⟨hc, hf⟩ := bcell hb; have hz : w.heap.size < w'.heap.size := (by have := hb.size; (try simp at this); omega); have hz1 : w.heap.size + 1 < w'.heap.size := (by have := hb.size; (try simp at this); omega); have hz2 : w.heap.size + 1 + 1 < w'.heap.size := (by have := hb.size; (try simp at this); omega); clear hb)
    refine bodyPost_ret (by simp [results, Try.results35, go_sem, *]; try rfl) rfl ?_
    exact ⟨meet_no (.inr (.inl h2)), by go_grown⟩
  · have r1 := bok_true h1
    have r2 := bok_true h2
    have m0 := mx_in (a := x0) (b := u0) (by omega) (by omega)
    have m1 := mx_in (a := y0) (b := v0) (by omega) (by omega)
    have m2 := mn_in (a := x1) (b := u1) (by omega) (by omega)
    have m3 := mn_in (a := y1) (b := v1) (by omega) (by omega)
    go_enter Try.func35, Try.ntmps35
    go_wp2_with (first | (go_at_call 60; refine (bok_impl _ _ _ _ _).mono ?_; rintro e w' ⟨rfl, hb⟩; have hB := on_of (W := w) (by go_grown) hb; obtain ⟨hc, hf⟩ := bcell hb; have hz : w.heap.size < w'.heap.size := (by have := hb.size; (try simp at this); omega); have hz1 : w.heap.size + 1 < w'.heap.size := (by have := hb.size; (try simp at this); omega); have hz2 : w.heap.size + 1 + 1 < w'.heap.size := (by have := hb.size; (try simp at this); omega); clear hb) | (go_at_call 61; refine (dots_impl' _ _ _ _ _ ⟨m0, m1, m2, m3⟩).mono ?_; rintro e w' ⟨n, hn, rfl, hb⟩; have hB := on_of (W := w) (by go_grown) hb; obtain ⟨hc, hf⟩ := bcell hb; have hz : w.heap.size + 1 + 1 < w'.heap.size := (by have := hb.size; (try simp at this); omega); have hz1 := hb.size; clear hb; rcases hn with ⟨rfl, hn⟩ | ⟨hn1, hn⟩))
    all_goals refine bodyPost_ret (by simp [results, Try.results35, go_sem, *]; try rfl) rfl ?_
    all_goals first | exact ⟨meet_no (.inr (.inr hn)), by go_grown⟩ | exact ⟨meet_yes h1 h2 hn, by go_grown⟩
set_option maxHeartbeats 2000000 in
theorem meet_spec (x0 y0 x1 y1 u0 v0 u1 v1 : Int) (w : World) : Calls Try.prog 68 #[.agg #[.int .i64 x0, .int .i64 y0, .int .i64 x1, .int .i64 y1], .agg #[.int .i64 u0, .int .i64 v0, .int .i64 u1, .int .i64 v1]] w fun e w' => e = .returned (meetV x0 y0 x1 y1 u0 v0 u1 v1) ∧ Below w.heap.size w w' := by
  cases h1 : bokB x0 y0 x1 y1 <;> cases h2 : bokB u0 v0 u1 v1
  all_goals
    go_enter Try.func68, Try.ntmps68
    go_wp2_with (go_at_call 71; refine (bok_spec _ _ _ _ _).mono ?_; rintro e w' ⟨rfl, hb⟩; have hB := on_of (W := w) (by go_grown) hb; obtain ⟨hc, hf⟩ := bcell hb; have hz : w.heap.size < w'.heap.size := (by have := hb.size; (try simp at this); omega); have hz1 : w.heap.size + 1 < w'.heap.size := (by have := hb.size; (try simp at this); omega); have hz2 : w.heap.size + 1 + 1 < w'.heap.size := (by have := hb.size; (try simp at this); omega); have hz3 : w.heap.size + 1 + 1 + 1 < w'.heap.size := (by have := hb.size; (try simp at this); omega); clear hb)
    all_goals refine bodyPost_ret (by simp [results, Try.results68, go_sem, *]; try rfl) rfl ?_
  all_goals first | exact ⟨meet_no (.inl h1), by go_grown⟩ | exact ⟨meet_no (.inr (.inl h2)), by go_grown⟩ | exact ⟨meet_no (.inr (.inr (by omega))), by go_grown⟩ | exact ⟨meet_yes h1 h2 (by omega), by go_grown⟩
def MeetOf (x0 y0 x1 y1 u0 v0 u1 v1 a b c d : Int) : Prop :=
  (a = mx x0 u0 ∧ b = mx y0 v0 ∧ c = mn x1 u1 ∧ d = mn y1 v1 ∧ a < c ∧ b < d ∧ bokB x0 y0 x1 y1 = true ∧ bokB u0 v0 u1 v1 = true) ∨
  (a = 0 ∧ b = 0 ∧ c = 0 ∧ d = 0 ∧ (bokB x0 y0 x1 y1 = false ∨ bokB u0 v0 u1 v1 = false ∨ ¬ (mx x0 u0 < mn x1 u1 ∧ mx y0 v0 < mn y1 v1)))
theorem meet_of (x0 y0 x1 y1 u0 v0 u1 v1 : Int) : ∃ a b c d : Int, MeetOf x0 y0 x1 y1 u0 v0 u1 v1 a b c d ∧ meetV x0 y0 x1 y1 u0 v0 u1 v1 = .agg #[.int .i64 a, .int .i64 b, .int .i64 c, .int .i64 d] := by
  by_cases h : bokB x0 y0 x1 y1 = true ∧ bokB u0 v0 u1 v1 = true ∧ (mx x0 u0 < mn x1 u1 ∧ mx y0 v0 < mn y1 v1)
  · obtain ⟨h1, h2, h3⟩ := h
    have := meet_yes h1 h2 h3
    exact ⟨_, _, _, _, .inl ⟨rfl, rfl, rfl, rfl, h3.1, h3.2, h1, h2⟩, by injection this with this; exact this.symm⟩
  · have h' : bokB x0 y0 x1 y1 = false ∨ bokB u0 v0 u1 v1 = false ∨ ¬ (mx x0 u0 < mn x1 u1 ∧ mx y0 v0 < mn y1 v1) := by
      cases h1 : bokB x0 y0 x1 y1
      · exact .inl rfl
      · cases h2 : bokB u0 v0 u1 v1
        · exact .inr (.inl rfl)
        · exact .inr (.inr fun h3 => h ⟨h1, h2, h3⟩)
    have := meet_no h'
    exact ⟨_, _, _, _, .inr ⟨rfl, rfl, rfl, rfl, h'⟩, by injection this with this; exact this.symm⟩
theorem meet_impl' (x0 y0 x1 y1 u0 v0 u1 v1 : Int) (w : World) : Calls Try.prog 35 #[.agg #[.int .i64 x0, .int .i64 y0, .int .i64 x1, .int .i64 y1], .agg #[.int .i64 u0, .int .i64 v0, .int .i64 u1, .int .i64 v1]] w fun e w' => ∃ a b c d : Int, MeetOf x0 y0 x1 y1 u0 v0 u1 v1 a b c d ∧ e = .returned (.agg #[.int .i64 a, .int .i64 b, .int .i64 c, .int .i64 d]) ∧ Below w.heap.size w w' :=
  (meet_impl _ _ _ _ _ _ _ _ w).mono fun _ _ ⟨he, hb⟩ => by
    obtain ⟨a, b, c, d, hm, hv⟩ := meet_of x0 y0 x1 y1 u0 v0 u1 v1
    exact ⟨a, b, c, d, hm, by rw [he, hv], hb⟩
end Go.Proofs.Ytkabofbbioaapaa.Box
