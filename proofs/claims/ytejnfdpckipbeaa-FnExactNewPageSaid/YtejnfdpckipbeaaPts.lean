/-
  BoxOf of the program and of the model on a slice of points that can be read: both return the least box with all points, or the zero box; condition: at most 1048576 points.
-/
import Derived.Test.YtejnfdpckipbeaaPoint
import Derived.LoopTactic
import Derived.OwnWalk
namespace Go.Proofs.Ytejnfdpckipbeaa.Pts
open Go.ChangeShapes Go.WideShapes Go.ChangeAt Go.RowKit
open Kit Point
set_option linter.unusedVariables false
set_option linter.unusedSimpArgs false
set_option linter.unnecessarySimpa false
attribute [local go_sem ↓] run_mx run_mn

/-- The points of a slice that begins at a block's first cell. -/
def PtsAt (w : World) (g n : Nat) (X Y : Nat → Int) : Prop := ∀ i, i < n → w.cell? ⟨g, i * 2, none⟩ = some (.int .i64 (X i)) ∧ w.cell? ⟨g, i * 2 + 1, none⟩ = some (.int .i64 (Y i))

/-- f over the numbers 0 to k - 1, from the first one on. -/
def acc (f : Int → Int → Int) (X : Nat → Int) : Nat → Int
  | 0 => X 0
  | k + 1 => f (acc f X k) (X k)

def okB (X Y : Nat → Int) : Nat → Bool
  | 0 => true
  | k + 1 => okB X Y k && pokB (X k) (Y k)

theorem okB_bad {X Y : Nat → Int} {k n : Nat} (hk : k < n) (h : pokB (X k) (Y k) = false) : okB X Y n = false := by
  induction n with
  | zero => omega
  | succ m ih =>
    by_cases e : k = m
    · subst e; simp [okB, h]
    · simp [okB, ih (by omega)]

theorem okB_good {X Y : Nat → Int} {n : Nat} (h : ∀ i, i < n → pokB (X i) (Y i) = true) : okB X Y n = true := by
  induction n with
  | zero => rfl
  | succ m ih => simp [okB, ih (fun i hi => h i (by omega)), h m (by omega)]

def boxofV (X Y : Nat → Int) (n : Nat) : Value :=
  .agg #[.int .i64 (sel (decide (0 < n) && okB X Y n) (acc mn X n)), .int .i64 (sel (decide (0 < n) && okB X Y n) (acc mn Y n)), .int .i64 (sel (decide (0 < n) && okB X Y n) (acc mx X n)), .int .i64 (sel (decide (0 < n) && okB X Y n) (acc mx Y n))]

theorem boxof_zero (X Y : Nat → Int) : Ending.returned (.agg #[.int .i64 0, .int .i64 0, .int .i64 0, .int .i64 0]) = .returned (boxofV X Y 0) := by simp [boxofV, sel]

theorem boxof_bad {X Y : Nat → Int} {k n : Nat} (hk : k < n) (h : pokB (X k) (Y k) = false) : Ending.returned (.agg #[.int .i64 0, .int .i64 0, .int .i64 0, .int .i64 0]) = .returned (boxofV X Y n) := by simp [boxofV, sel, okB_bad hk h]

theorem boxof_good {X Y : Nat → Int} {n : Nat} (h0 : 0 < n) (h : ∀ i, i < n → pokB (X i) (Y i) = true) : Ending.returned (.agg #[.int .i64 (acc mn X n), .int .i64 (acc mn Y n), .int .i64 (acc mx X n), .int .i64 (acc mx Y n)]) = .returned (boxofV X Y n) := by simp [boxofV, sel, okB_good h, h0]

set_option maxHeartbeats 2000000 in
theorem boxof_impl (g n c : Nat) (X Y : Nat → Int) (w : World) (hn : n ≤ 1048576) (hg : g < w.heap.size) (hp : PtsAt w g n X Y) :
    Calls Try.prog 122 #[.slice (some ⟨g, 0, none⟩) n c] w fun e w' => e = .returned (boxofV X Y n) ∧ Below w.heap.size w w' := by
  by_cases h0 : n = 0
  · subst h0
    go_enter Try.func122, Try.ntmps122
    go_wp2
    go_returns
    exact ⟨boxof_zero X Y, by go_grown⟩
  · have hp0 := hp 0 (by omega)
    simp only [Nat.zero_mul, Nat.zero_add] at hp0
    obtain ⟨e0, e1⟩ := hp0
    have HP := Lib.hid hp
    clear hp
    have hn0 : (0 : Int) < (n : Int) := by omega
    have hn9 : ((n : Int) == 0) = false := by simp; omega
    go_enter Try.func122, Try.ntmps122
    go_wp2
    go_loopw [25] (fun v25 wr => ∃ k : Nat, k ≤ n ∧ v25 = .int .i64 (k : Int) ∧ (∀ i, i < k → pokB (X i) (Y i) = true) ∧ Four wr w.heap.size 0 0 0 0 ∧ Four wr (w.heap.size + 1 + 1) (acc mn X k) (acc mn Y k) (acc mx X k) (acc mx Y k) ∧ w.heap.size + 1 + 1 < wr.heap.size ∧ Below w.heap.size w wr) (fun v25 _ => n - (intOf v25).toNat)
    case atStart => exact ⟨0, Nat.zero_le _, rfl, fun i hi => by omega, ⟨by simp [go_sem], by simp [go_sem], by simp [go_sem], by simp [go_sem], fun o => by simp [go_sem]⟩, ⟨by simp [go_sem, acc], by simp [go_sem, acc], by simp [go_sem, acc], by simp [go_sem, acc], fun o => by simp [go_sem]⟩, by simp, by go_grown⟩
    case round =>
      obtain ⟨k, hk, rfl, hok, F0, F1, hsz, hbel⟩ := hrel
      have HO := Lib.hid hok
      clear hok
      have hs0 : w.heap.size < wr.heap.size := by omega
      by_cases hlt : k < n
      · have hpk := HP.out k hlt
        have q0 : wr.cell? ⟨g, k * 2, none⟩ = some (.int .i64 (X k)) := by rw [hbel.cell (p := ⟨g, k * 2, none⟩) hg]; exact hpk.1
        have q1 : wr.cell? ⟨g, k * 2 + 1, none⟩ = some (.int .i64 (Y k)) := by rw [hbel.cell (p := ⟨g, k * 2 + 1, none⟩) hg]; exact hpk.2
        clear hpk
        have i0 : (0 : Int) ≤ (k : Int) := by omega
        have i1 : (k : Int) < (n : Int) := by omega
        cases hpk : pokB (X k) (Y k)
        · go_wp2_with (go_at_call 103; (with_reducible refine (pok_impl _ _ _).mono ?_); rintro e w' ⟨rfl, hb⟩; have hB := on_of (W := w) (by go_grown) hb; obtain ⟨r0, r1, r2, r3, rf⟩ := Four.keep (Four.alloc F0 _) hb (by simp; omega); obtain ⟨b0, b1, b2, b3, bf⟩ := Four.keep (Four.alloc F1 _) hb (by simp; omega); have p0 := (bcell hb).1 wr.heap.size 0 (by simp); have p1 := (bcell hb).1 wr.heap.size 1 (by simp); simp only [World.cell?_alloc_new] at p0 p1; have hsw := hb.size; simp at hsw; clear hb)
          refine bodyPost_ret (by simp [results, Try.results122, go_sem, *]; try rfl) rfl ?_
          exact ⟨boxof_bad hlt hpk, by go_grown⟩
        · go_wp2_with (go_at_call 103; (with_reducible refine (pok_impl _ _ _).mono ?_); rintro e w' ⟨rfl, hb⟩; have hB := on_of (W := w) (by go_grown) hb; obtain ⟨r0, r1, r2, r3, rf⟩ := Four.keep (Four.alloc F0 _) hb (by simp; omega); obtain ⟨b0, b1, b2, b3, bf⟩ := Four.keep (Four.alloc F1 _) hb (by simp; omega); have p0 := (bcell hb).1 wr.heap.size 0 (by simp); have p1 := (bcell hb).1 wr.heap.size 1 (by simp); simp only [World.cell?_alloc_new] at p0 p1; have hsw := hb.size; simp at hsw; clear hb)
          have G0 : Four w' w.heap.size 0 0 0 0 := ⟨r0, r1, r2, r3, rf⟩
          have G1 : Four w' (w.heap.size + 1 + 1) (acc mn X k) (acc mn Y k) (acc mx X k) (acc mx Y k) := ⟨b0, b1, b2, b3, bf⟩
          go_roundw
          case rel =>
            refine ⟨k + 1, by omega, by go_num, fun i hi => ?_, Four.other (Four.other (Four.other (Four.other G0 (by omega) _ _) (by omega) _ _) (by omega) _ _) (by omega) _ _, Four.set G1 _ _ _ _, by simp; omega, by go_grown⟩
            by_cases e : i = k
            · subst e; exact hpk
            · exact HO.out i (by omega)
          case measure => simp [intOf]; omega
      · obtain rfl : k = n := by omega
        obtain ⟨r0, r1, r2, r3, rf⟩ := F0
        obtain ⟨b0, b1, b2, b3, bf⟩ := F1
        go_wp2
        refine bodyPost_ret (by simp [results, Try.results122, go_sem, *]; try rfl) rfl ?_
        exact ⟨boxof_good (by omega) HO.out, by go_grown⟩

set_option maxHeartbeats 2000000 in
theorem boxof_spec (g n c : Nat) (X Y : Nat → Int) (w : World) (hn : n ≤ 1048576) (hg : g < w.heap.size) (hp : PtsAt w g n X Y) :
    Calls Try.prog 82 #[.slice (some ⟨g, 0, none⟩) n c] w fun e w' => e = .returned (boxofV X Y n) ∧ Below w.heap.size w w' := by
  have HP := Lib.hid hp
  clear hp
  go_enter Try.func82, Try.ntmps82
  go_wp2
  go_loopw [4] (fun v4 wr => ∃ k : Nat, k ≤ n ∧ v4 = .int .i64 (k : Int) ∧ (∀ i, i < k → pokB (X i) (Y i) = true) ∧ Four wr w.heap.size 0 0 0 0 ∧ Four wr (w.heap.size + 1) (sel (decide (0 < k)) (acc mn X k)) (sel (decide (0 < k)) (acc mn Y k)) (sel (decide (0 < k)) (acc mx X k)) (sel (decide (0 < k)) (acc mx Y k)) ∧ w.heap.size + 1 < wr.heap.size ∧ Below w.heap.size w wr) (fun v4 _ => n - (intOf v4).toNat)
  case atStart => exact ⟨0, Nat.zero_le _, rfl, fun i hi => by omega, ⟨by simp [go_sem], by simp [go_sem], by simp [go_sem], by simp [go_sem], fun o => by simp [go_sem]⟩, ⟨by simp [go_sem, sel], by simp [go_sem, sel], by simp [go_sem, sel], by simp [go_sem, sel], fun o => by simp [go_sem]⟩, by simp, by go_grown⟩
  case round =>
    obtain ⟨k, hk, rfl, hok, F0, F1, hsz, hbel⟩ := hrel
    have HO := Lib.hid hok
    clear hok
    have hs0 : w.heap.size < wr.heap.size := by omega
    by_cases hlt : k < n
    · have hpk := HP.out k hlt
      have q0 : wr.cell? ⟨g, k * 2, none⟩ = some (.int .i64 (X k)) := by rw [hbel.cell (p := ⟨g, k * 2, none⟩) hg]; exact hpk.1
      have q1 : wr.cell? ⟨g, k * 2 + 1, none⟩ = some (.int .i64 (Y k)) := by rw [hbel.cell (p := ⟨g, k * 2 + 1, none⟩) hg]; exact hpk.2
      clear hpk
      have i0 : (0 : Int) ≤ (k : Int) := by omega
      have i1 : (k : Int) < (n : Int) := by omega
      have hok1 : pokB (X k) (Y k) = true → ∀ i, i < k + 1 → pokB (X i) (Y i) = true := fun h i hi => by
        by_cases e : i = k
        · subst e; exact h
        · exact HO.out i (by omega)
      have HO1 := Lib.hid hok1
      clear hok1
      cases hpk : pokB (X k) (Y k)
      · go_wp2_with (go_at_call 118; (with_reducible refine (pok_spec _ _ _).mono ?_); rintro e w' ⟨rfl, hb⟩; have hB := on_of (W := w) (by go_grown) hb; obtain ⟨r0, r1, r2, r3, rf⟩ := Four.keep (Four.alloc F0 _) hb (by simp; omega); obtain ⟨b0, b1, b2, b3, bf⟩ := Four.keep (Four.alloc F1 _) hb (by simp; omega); have p0 := (bcell hb).1 wr.heap.size 0 (by simp); have p1 := (bcell hb).1 wr.heap.size 1 (by simp); simp only [World.cell?_alloc_new] at p0 p1; have hsw := hb.size; simp at hsw; clear hb)
        refine bodyPost_ret (by simp [results, Try.results82, go_sem, *]; try rfl) rfl ?_
        exact ⟨boxof_bad hlt hpk, by go_grown⟩
      · by_cases hk0 : k = 0
        · subst hk0
          have hk9 : (((0 : Nat) : Int) == 0) = true := by simp
          go_wp2_with (go_at_call 118; (with_reducible refine (pok_spec _ _ _).mono ?_); rintro e w' ⟨rfl, hb⟩; have hB := on_of (W := w) (by go_grown) hb; obtain ⟨r0, r1, r2, r3, rf⟩ := Four.keep (Four.alloc F0 _) hb (by simp; omega); obtain ⟨b0, b1, b2, b3, bf⟩ := Four.keep (Four.alloc F1 _) hb (by simp; omega); have p0 := (bcell hb).1 wr.heap.size 0 (by simp); have p1 := (bcell hb).1 wr.heap.size 1 (by simp); simp only [World.cell?_alloc_new] at p0 p1; have hsw := hb.size; simp at hsw; clear hb)
          have G0 : Four w' w.heap.size 0 0 0 0 := ⟨r0, r1, r2, r3, rf⟩
          have G1 : Four w' (w.heap.size + 1) _ _ _ _ := ⟨b0, b1, b2, b3, bf⟩
          go_roundw
          case rel =>
            refine ⟨1, by omega, by go_num, HO1.out hpk, ?_, ?_, by simp; omega, by go_grown⟩
            · refine Four.other (Four.other (Four.other (Four.other ?_ (by omega) _ _) (by omega) _ _) (by omega) _ _) (by omega) _ _
              exact Four.other (Four.other (Four.other (Four.other G0 (by omega) _ _) (by omega) _ _) (by omega) _ _) (by omega) _ _
            · simp only [sel, show decide (0 < 1) = true by simp, if_true]
              exact Four.set (Four.set G1 _ _ _ _) _ _ _ _
          case measure => simp [intOf]; omega
        · have hk9 : ((k : Int) == 0) = false := by simp; omega
          simp only [sel, show decide (0 < k) = true by simp; omega, if_true] at F1
          go_wp2_with (go_at_call 118; (with_reducible refine (pok_spec _ _ _).mono ?_); rintro e w' ⟨rfl, hb⟩; have hB := on_of (W := w) (by go_grown) hb; obtain ⟨r0, r1, r2, r3, rf⟩ := Four.keep (Four.alloc F0 _) hb (by simp; omega); obtain ⟨b0, b1, b2, b3, bf⟩ := Four.keep (Four.alloc F1 _) hb (by simp; omega); have p0 := (bcell hb).1 wr.heap.size 0 (by simp); have p1 := (bcell hb).1 wr.heap.size 1 (by simp); simp only [World.cell?_alloc_new] at p0 p1; have hsw := hb.size; simp at hsw; clear hb)
          have G0 : Four w' w.heap.size 0 0 0 0 := ⟨r0, r1, r2, r3, rf⟩
          have G1 : Four w' (w.heap.size + 1) _ _ _ _ := ⟨b0, b1, b2, b3, bf⟩
          go_roundw
          case rel =>
            refine ⟨k + 1, by omega, by go_num, HO1.out hpk, Four.other (Four.other (Four.other (Four.other G0 (by omega) _ _) (by omega) _ _) (by omega) _ _) (by omega) _ _, ?_, by simp; omega, by go_grown⟩
            simp only [sel, show decide (0 < k + 1) = true by simp, if_true]
            exact Four.set G1 _ _ _ _
          case measure => simp [intOf]; omega
    · obtain rfl : k = n := by omega
      obtain ⟨r0, r1, r2, r3, rf⟩ := F0
      obtain ⟨b0, b1, b2, b3, bf⟩ := F1
      go_wp2
      refine bodyPost_ret (by simp [results, Try.results82, go_sem, *]; try rfl) rfl ?_
      refine ⟨?_, by go_grown⟩
      by_cases hk0 : k = 0
      · subst hk0; exact boxof_zero X Y
      · have := boxof_good (n := k) (X := X) (Y := Y) (by omega) HO.out
        simpa [sel, show 0 < k by omega] using this

end Go.Proofs.Ytejnfdpckipbeaa.Pts
