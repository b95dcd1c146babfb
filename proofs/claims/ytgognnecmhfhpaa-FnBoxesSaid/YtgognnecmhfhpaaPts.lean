/-
  BoxOf of the program and of the model on a slice of points that can be read: both return the least box with all points, or the zero box; nothing that was there has turned; condition: at most 1048576 points.
-/
import Derived.Test.YtgognnecmhfhpaaBox
import Derived.LoopTactic
import Derived.OwnWalk
import Derived.Deep.RegionHeld
import Derived.Lib.Hide
namespace Go.Proofs.Ytgognnecmhfhpaa.Pts
open Go.ChangeShapes Go.WideShapes Go.ChangeAt Go.RowKit
open Point Box
set_option linter.unusedVariables false
set_option linter.unusedSimpArgs false
attribute [local go_sem ↓] run_mx run_mn

theorem bcell3 {W w1 : World} (hb : Below W.heap.size W w1) : (∀ b o, b < W.heap.size → w1.cell? ⟨b, o, none⟩ = W.cell? ⟨b, o, none⟩) ∧ (∀ b o, b < W.heap.size → w1.frozen? ⟨b, o, none⟩ = W.frozen? ⟨b, o, none⟩) ∧ (∀ b, b < W.heap.size → b < w1.heap.size) :=
  ⟨(bcell hb).1, (bcell hb).2, fun b h => Nat.lt_of_lt_of_le h hb.size⟩

/-- The points of a slice that begins at a block's first cell. -/
def PtsAt (w : World) (g n : Nat) (X Y : Nat → Int) : Prop := ∀ i, i < n → w.cell? ⟨g, i * 2, none⟩ = some (.int .i64 (X i)) ∧ w.cell? ⟨g, i * 2 + 1, none⟩ = some (.int .i64 (Y i))
/-- f over the numbers 0 to k - 1, from the first one on. -/
def acc (f : Int → Int → Int) (X : Nat → Int) : Nat → Int
  | 0 => X 0
  | k + 1 => f (acc f X k) (X k)
def okB (X Y : Nat → Int) : Nat → Bool
  | 0 => true
  | k + 1 => okB X Y k && pokB (X k) (Y k)
theorem okB_bad {X Y : Nat → Int} {k n : Nat} (hk : k < n) (h : pokB (X k) (Y k) = false) : okB X Y n = false := by
  induction n with
  | zero => omega
  | succ m ih =>
    by_cases e : k = m
    · subst e; simp [okB, h]
    · simp [okB, ih (by omega)]
theorem okB_good {X Y : Nat → Int} {n : Nat} (h : ∀ i, i < n → pokB (X i) (Y i) = true) : okB X Y n = true := by
  induction n with
  | zero => rfl
  | succ m ih => simp [okB, ih (fun i hi => h i (by omega)), h m (by omega)]

def boxofV (X Y : Nat → Int) (n : Nat) : Value :=
  .agg #[.int .i64 (sel (decide (0 < n) && okB X Y n) (acc mn X n)), .int .i64 (sel (decide (0 < n) && okB X Y n) (acc mn Y n)), .int .i64 (sel (decide (0 < n) && okB X Y n) (acc mx X n)), .int .i64 (sel (decide (0 < n) && okB X Y n) (acc mx Y n))]
theorem boxof_zero (X Y : Nat → Int) : Ending.returned (.agg #[.int .i64 0, .int .i64 0, .int .i64 0, .int .i64 0]) = .returned (boxofV X Y 0) := by simp [boxofV, sel]
theorem boxof_bad {X Y : Nat → Int} {k n : Nat} (hk : k < n) (h : pokB (X k) (Y k) = false) : Ending.returned (.agg #[.int .i64 0, .int .i64 0, .int .i64 0, .int .i64 0]) = .returned (boxofV X Y n) := by simp [boxofV, sel, okB_bad hk h]
theorem boxof_good {X Y : Nat → Int} {n : Nat} (h0 : 0 < n) (h : ∀ i, i < n → pokB (X i) (Y i) = true) : Ending.returned (.agg #[.int .i64 (acc mn X n), .int .i64 (acc mn Y n), .int .i64 (acc mx X n), .int .i64 (acc mx Y n)]) = .returned (boxofV X Y n) := by simp [boxofV, sel, okB_good h, h0]

/-- Four ints in one block, which may be written. -/
structure Four (w : World) (b : Nat) (x0 y0 x1 y1 : Int) : Prop where
  c0 : w.cell? ⟨b, 0, none⟩ = some (.int .i64 x0)
  c1 : w.cell? ⟨b, 1, none⟩ = some (.int .i64 y0)
  c2 : w.cell? ⟨b, 2, none⟩ = some (.int .i64 x1)
  c3 : w.cell? ⟨b, 3, none⟩ = some (.int .i64 y1)
  fr : ∀ o, w.frozen? ⟨b, o, none⟩ = false

theorem Four.keep {w w' : World} {b B : Nat} {x0 y0 x1 y1 : Int} (h : Four w b x0 y0 x1 y1) (hb : Below B w w') (hl : b < B) : Four w' b x0 y0 x1 y1 :=
  ⟨(hb.cell (p := ⟨b, 0, none⟩) hl).trans h.c0, (hb.cell (p := ⟨b, 1, none⟩) hl).trans h.c1, (hb.cell (p := ⟨b, 2, none⟩) hl).trans h.c2, (hb.cell (p := ⟨b, 3, none⟩) hl).trans h.c3, fun o => (hb.frozen (p := ⟨b, o, none⟩) hl).trans (h.fr o)⟩
theorem Four.lt {w : World} {b : Nat} {x0 y0 x1 y1 : Int} (h : Four w b x0 y0 x1 y1) : b < w.heap.size := World.block_lt_of_cell? w _ h.c0
theorem Four.alloc {w : World} {b : Nat} {x0 y0 x1 y1 : Int} (h : Four w b x0 y0 x1 y1) (o : Obj) : Four (w.alloc o) b x0 y0 x1 y1 :=
  h.keep ((Below.refl _ _).alloc (Nat.le_refl _) o) h.lt
theorem Four.other {w : World} {b : Nat} {x0 y0 x1 y1 : Int} (h : Four w b x0 y0 x1 y1) {b' : Nat} (hne : b' ≠ b) (o : Nat) (v : Value) : Four (w.setCell ⟨b', o, none⟩ v) b x0 y0 x1 y1 :=
  ⟨(World.cell?_setCell_far _ _ _ _ hne).trans h.c0, (World.cell?_setCell_far _ _ _ _ hne).trans h.c1, (World.cell?_setCell_far _ _ _ _ hne).trans h.c2, (World.cell?_setCell_far _ _ _ _ hne).trans h.c3, fun q => by simp [h.fr q]⟩
theorem Four.set {w : World} {b : Nat} {x0 y0 x1 y1 : Int} (h : Four w b x0 y0 x1 y1) (p q r s : Int) : Four ((((w.setCell ⟨b, 0, none⟩ (.int .i64 p)).setCell ⟨b, 1, none⟩ (.int .i64 q)).setCell ⟨b, 2, none⟩ (.int .i64 r)).setCell ⟨b, 3, none⟩ (.int .i64 s)) b p q r s := by
  obtain ⟨c0, c1, c2, c3, fr⟩ := h
  exact ⟨by go_cell, by go_cell, by go_cell, by go_cell, fun o => by simp [fr]⟩

set_option maxHeartbeats 2000000 in
theorem boxof_impl (g n c : Nat) (X Y : Nat → Int) (w : World) (hn : n ≤ 1048576) (hg : g < w.heap.size) (hp : PtsAt w g n X Y) :
    Calls Try.prog 16 #[.slice (some ⟨g, 0, none⟩) n c] w fun e w' => e = .returned (boxofV X Y n) ∧ Below w.heap.size w w' := by
  by_cases h0 : n = 0
  · subst h0
    go_enter Try.func16, Try.ntmps16
    go_wp2
    go_returns
    exact ⟨boxof_zero X Y, by go_grown⟩
  · have hp0 := hp 0 (by omega)
    simp only [Nat.zero_mul, Nat.zero_add] at hp0
    obtain ⟨e0, e1⟩ := hp0
    have HP := Lib.hid hp
    clear hp
    have hn0 : (0 : Int) < (n : Int) := by omega
    have hn9 : ((n : Int) == 0) = false := by simp; omega
    go_enter Try.func16, Try.ntmps16
    go_wp2
    go_loopw [25] (fun v25 wr => ∃ k : Nat, k ≤ n ∧ v25 = .int .i64 (k : Int) ∧ (∀ i, i < k → pokB (X i) (Y i) = true) ∧ Four wr w.heap.size 0 0 0 0 ∧ Four wr (w.heap.size + 1 + 1) (acc mn X k) (acc mn Y k) (acc mx X k) (acc mx Y k) ∧ w.heap.size + 1 + 1 < wr.heap.size ∧ Below w.heap.size w wr) (fun v25 _ => n - (intOf v25).toNat)
    case atStart => exact ⟨0, Nat.zero_le _, rfl, fun i hi => by omega, ⟨by simp [go_sem], by simp [go_sem], by simp [go_sem], by simp [go_sem], fun o => by simp [go_sem]⟩, ⟨by simp [go_sem, acc], by simp [go_sem, acc], by simp [go_sem, acc], by simp [go_sem, acc], fun o => by simp [go_sem]⟩, by simp, by go_grown⟩
    case round =>
      obtain ⟨k, hk, rfl, hok, F0, F1, hsz, hbel⟩ := hrel
      have HO := Lib.hid hok
      clear hok
      have hs0 : w.heap.size < wr.heap.size := by omega
      by_cases hlt : k < n
      · have hpk := HP.out k hlt
        have q0 : wr.cell? ⟨g, k * 2, none⟩ = some (.int .i64 (X k)) := by rw [hbel.cell (p := ⟨g, k * 2, none⟩) hg]; exact hpk.1
        have q1 : wr.cell? ⟨g, k * 2 + 1, none⟩ = some (.int .i64 (Y k)) := by rw [hbel.cell (p := ⟨g, k * 2 + 1, none⟩) hg]; exact hpk.2
        clear hpk
        have i0 : (0 : Int) ≤ (k : Int) := by omega
        have i1 : (k : Int) < (n : Int) := by omega
        cases hpk : pokB (X k) (Y k)
        · go_wp2_with (go_at_call 18; (with_reducible refine (pok_impl _ _ _).mono ?_); rintro e w' ⟨rfl, hb⟩; have hB := on_of (W := w) (by go_grown) hb; obtain ⟨r0, r1, r2, r3, rf⟩ := Four.keep (Four.alloc F0 _) hb (by simp; omega); obtain ⟨b0, b1, b2, b3, bf⟩ := Four.keep (Four.alloc F1 _) hb (by simp; omega); have p0 := (bcell hb).1 wr.heap.size 0 (by simp); have p1 := (bcell hb).1 wr.heap.size 1 (by simp); simp only [World.cell?_alloc_new] at p0 p1; have hsw := hb.size; simp at hsw; clear hb)
          refine bodyPost_ret (by simp [results, Try.results16, go_sem, *]; try rfl) rfl ?_
          exact ⟨boxof_bad hlt hpk, by go_grown⟩
        · go_wp2_with (go_at_call 18; (with_reducible refine (pok_impl _ _ _).mono ?_); rintro e w' ⟨rfl, hb⟩; have hB := on_of (W := w) (by go_grown) hb; obtain ⟨r0, r1, r2, r3, rf⟩ := Four.keep (Four.alloc F0 _) hb (by simp; omega); obtain ⟨b0, b1, b2, b3, bf⟩ := Four.keep (Four.alloc F1 _) hb (by simp; omega); have p0 := (bcell hb).1 wr.heap.size 0 (by simp); have p1 := (bcell hb).1 wr.heap.size 1 (by simp); simp only [World.cell?_alloc_new] at p0 p1; have hsw := hb.size; simp at hsw; clear hb)
          have G0 : Four w' w.heap.size 0 0 0 0 := ⟨r0, r1, r2, r3, rf⟩
          have G1 : Four w' (w.heap.size + 1 + 1) (acc mn X k) (acc mn Y k) (acc mx X k) (acc mx Y k) := ⟨b0, b1, b2, b3, bf⟩
          go_roundw
          case rel =>
            refine ⟨k + 1, by omega, by go_num, fun i hi => ?_, Four.other (Four.other (Four.other (Four.other G0 (by omega) _ _) (by omega) _ _) (by omega) _ _) (by omega) _ _, Four.set G1 _ _ _ _, by simp; omega, by go_grown⟩
            by_cases e : i = k
            · subst e; exact hpk
            · exact HO.out i (by omega)
          case measure => simp [intOf]; omega
      · obtain rfl : k = n := by omega
        obtain ⟨r0, r1, r2, r3, rf⟩ := F0
        obtain ⟨b0, b1, b2, b3, bf⟩ := F1
        go_wp2
        refine bodyPost_ret (by simp [results, Try.results16, go_sem, *]; try rfl) rfl ?_
        exact ⟨boxof_good (by omega) HO.out, by go_grown⟩
end Go.Proofs.Ytgognnecmhfhpaa.Pts
