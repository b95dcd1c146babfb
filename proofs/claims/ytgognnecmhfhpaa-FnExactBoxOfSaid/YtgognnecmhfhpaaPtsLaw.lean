/-
  The laws' helpers on slices of points (toPointS, szPointS, eqPointS): what each call returns and that nothing that was there has turned; condition: at most 1048576 points.
-/
import Derived.Test.YtgognnecmhfhpaaPts
import Derived.Laws.MakeOwn
import Derived.Laws.Entries
import Derived.Deep.RegionHeld3
namespace Go.Proofs.Ytgognnecmhfhpaa.PtsLaw
open Go.ChangeShapes Go.WideShapes Go.ChangeAt Go.RowKit
open Point Box Pts
set_option linter.unnecessarySimpa false
set_option linter.unusedVariables false
set_option linter.unusedSimpArgs false

theorem run_make_rowN {P : Program} (t e : TypeId) (i : TypeInfo) (z : Value) (ht : P.underlying t = some (.slice e)) (hi : P.info? e = some i) (hz : i.zero = some z)
    (kl kc : IntKind) (n c : Nat) (hnc : n ≤ c) (hbytes : i.bytes * c ≤ 281474976710656) (h63 : c ≤ 9223372036854775807) (w : World) :
    (Instr.makeSlice t (.int kl (n : Int)) (.int kc (c : Int))).run P w = .ok (.slice (some ⟨w.heap.size, 0, none⟩) n c) (w.alloc (.cells (madeCells z.cells (c * i.size)) e)) := by
  have hb : (i.bytes : Int) * (c : Int) ≤ 281474976710656 := by
    have h : ((i.bytes * c : Nat) : Int) ≤ 281474976710656 := by omega
    rwa [Int.natCast_mul] at h
  have hr := run_make (P := P) w t e i z ht hi hz kl kc n c (by omega) (by omega) hb (by omega)
  simp only [Int.toNat_natCast] at hr
  exact hr

theorem made_two (n j : Nat) (h : j < n * 2) : (madeCells #[.int .i64 0, .int .i64 0] (n * 2))[j]? = some (.int .i64 0) := by
  unfold madeCells
  rw [Array.getElem?_map, Array.getElem?_range, if_pos h]
  simp only [Option.map_some, Option.some.injEq]
  have h2 : j % 2 = 0 ∨ j % 2 = 1 := by omega
  rcases h2 with h2 | h2 <;> simp [h2]

theorem set_same {w : World} {a : Addr} {u : Value} (v : Value) (h : w.cell? a = some u) : (w.setCell a v).cell? a = some v := World.cell?_setCell_same _ _ _ h
theorem set_other {w : World} {G o o' : Nat} (v : Value) (h : o ≠ o') : (w.setCell ⟨G, o, none⟩ v).cell? ⟨G, o', none⟩ = w.cell? ⟨G, o', none⟩ := by
  first | exact World.cell?_setCell_other _ _ _ (by simpa using h) | exact World.cell?_setCell_other _ _ _ _ (by simpa using h)

/-- The points of a slice, somewhere. -/
def Src (w : World) (a : Option Addr) (n : Nat) (X Y : Nat → Int) : Prop :=
  n = 0 ∨ ∃ g o, a = some ⟨g, o, none⟩ ∧ g < w.heap.size ∧ ∀ i, i < n → w.cell? ⟨g, o + i * 2, none⟩ = some (.int .i64 (X i)) ∧ w.cell? ⟨g, o + i * 2 + 1, none⟩ = some (.int .i64 (Y i))
theorem Src.keep {w w' : World} {a : Option Addr} {n : Nat} {X Y : Nat → Int} (h : Src w a n X Y) (hb : Below w.heap.size w w') : Src w' a n X Y := by
  rcases h with h | ⟨g, o, ha, hg, hc⟩
  · exact .inl h
  · exact .inr ⟨g, o, ha, Nat.lt_of_lt_of_le hg hb.size, fun i hi => ⟨(hb.cell (p := ⟨g, _, none⟩) hg).trans (hc i hi).1, (hb.cell (p := ⟨g, _, none⟩) hg).trans (hc i hi).2⟩⟩

/-- A block of points that is being written: the first k are as they are to be. -/
structure Upto (w : World) (G n k : Nat) (X Y : Nat → Int) : Prop where
  all : ∀ i, i < n → ∃ p q : Int, w.cell? ⟨G, i * 2, none⟩ = some (.int .i64 p) ∧ w.cell? ⟨G, i * 2 + 1, none⟩ = some (.int .i64 q) ∧ (i < k → p = X i ∧ q = Y i)
  fr : ∀ o, w.frozen? ⟨G, o, none⟩ = false
theorem Upto.keep {w w' : World} {G n k B : Nat} {X Y : Nat → Int} (h : Upto w G n k X Y) (hb : Below B w w') (hG : G < B) : Upto w' G n k X Y :=
  ⟨fun i hi => by obtain ⟨p, q, h0, h1, h2⟩ := h.all i hi; exact ⟨p, q, (hb.cell (p := ⟨G, _, none⟩) hG).trans h0, (hb.cell (p := ⟨G, _, none⟩) hG).trans h1, h2⟩, fun o => (hb.frozen (p := ⟨G, o, none⟩) hG).trans (h.fr o)⟩
theorem Upto.set {w : World} {G n k : Nat} {X Y : Nat → Int} (h : Upto w G n k X Y) (hk : k < n) : Upto ((w.setCell ⟨G, k * 2, none⟩ (.int .i64 (X k))).setCell ⟨G, k * 2 + 1, none⟩ (.int .i64 (Y k))) G n (k + 1) X Y := by
  refine ⟨fun i hi => ?_, fun o => by simp [h.fr]⟩
  obtain ⟨p, q, h0, h1, h2⟩ := h.all i hi
  by_cases e : i = k
  · subst e
    exact ⟨X i, Y i, by rw [set_other _ (by omega)]; exact set_same _ h0, set_same (u := .int .i64 q) _ (by rw [set_other _ (by omega)]; exact h1), fun _ => ⟨rfl, rfl⟩⟩
  · exact ⟨p, q, by rw [set_other _ (by omega), set_other _ (by omega)]; exact h0, by rw [set_other _ (by omega), set_other _ (by omega)]; exact h1, fun hk' => h2 (by omega)⟩
theorem Upto.done {w : World} {G n : Nat} {X Y : Nat → Int} (h : Upto w G n n X Y) : PtsAt w G n X Y := fun i hi => by
  obtain ⟨p, q, h0, h1, h2⟩ := h.all i hi
  obtain ⟨rfl, rfl⟩ := h2 hi
  exact ⟨h0, h1⟩

theorem info35 : (Try.prog.info? 35).map (fun i => (i.zero, i.size, i.bytes)) = some (some (.agg #[.int .i64 0, .int .i64 0]), 2, 16) := by kernel_rfl

set_option maxHeartbeats 1000000 in
theorem toPts_any (a : Option Addr) (n c : Nat) (X Y : Nat → Int) (w : World) (hn : n ≤ 1048576) (hs : Src w a n X Y) :
    Calls Try.prog 26 #[.slice a n c] w fun e w' => e = .returned (.slice (some ⟨w.heap.size, 0, none⟩) n n) ∧ w.heap.size < w'.heap.size ∧ PtsAt w' w.heap.size n X Y ∧ Below w.heap.size w w' := by
  obtain ⟨i0, hi0, hz0, hz1, hz2⟩ := info_parts info35
  have hmk := fun W : World => run_make_rowN (P := Try.prog) 36 35 i0 _ Try.underlying36 hi0 hz0 .i64 .i64 n n (Nat.le_refl _) (by rw [hz2]; omega) (by omega) W
  rw [hz1] at hmk
  clear hi0 hz0 hz1 hz2
  rcases hs with h0 | ⟨g, o, rfl, hg, hcs⟩
  · subst h0
    have hmk0 := hmk
    simp only [Nat.zero_mul, Int.natCast_zero, Int.ofNat_zero, show ((0 : Nat) : Int) = 0 from rfl] at hmk0
    clear hmk
    go_enter Try.func26, Try.ntmps26
    go_wp2
    go_rounds 1
    go_ret
    exact ⟨rfl, by simp, fun i hi => by omega, by go_grown⟩
  · have HC := Lib.hid hcs
    clear hcs
    go_enter Try.func26, Try.ntmps26
    go_wp2
    go_loopw [4] (fun v4 wr => ∃ k : Nat, k ≤ n ∧ v4 = .int .i64 (k : Int) ∧ Upto wr w.heap.size n k X Y ∧ w.heap.size < wr.heap.size ∧ Below w.heap.size w wr) (fun v4 _ => n - (intOf v4).toNat)
    case atStart =>
      refine ⟨0, Nat.zero_le _, rfl, ⟨fun i hi => ⟨0, 0, ?_, ?_, fun h => by omega⟩, fun o => by simp⟩, by simp, by go_grown⟩
      · rw [World.cell?_alloc_new]; exact made_two _ _ (by omega)
      · rw [World.cell?_alloc_new]; exact made_two _ _ (by omega)
    case round =>
      obtain ⟨k, hk, rfl, U, hsz, hbel⟩ := hrel
      by_cases hlt : k < n
      · have hp := HC.out k hlt
        have q0 : wr.cell? ⟨g, o + k * 2, none⟩ = some (.int .i64 (X k)) := by rw [hbel.cell (p := ⟨g, o + k * 2, none⟩) hg]; exact hp.1
        have q1 : wr.cell? ⟨g, o + k * 2 + 1, none⟩ = some (.int .i64 (Y k)) := by rw [hbel.cell (p := ⟨g, o + k * 2 + 1, none⟩) hg]; exact hp.2
        clear hp
        have i0 : (0 : Int) ≤ (k : Int) := by omega
        have i1 : (k : Int) < (n : Int) := by omega
        go_wp2_with (go_at_call 20; (with_reducible refine (toPoint_any _ _ _).mono ?_); rintro e w' ⟨rfl, hb⟩; have hB := on_of (W := w) (by go_grown) hb; have V := Upto.keep U hb hsz; obtain ⟨p, q, c0, c1, c2⟩ := V.all k hlt; have f0 := V.fr (k * 2); have f1 := V.fr (k * 2 + 1); have hs2 := hb.size; clear hb c2)
        go_roundw
        case rel => exact ⟨k + 1, by omega, by go_num, V.set hlt, by simp; omega, by go_grown⟩
        case measure => simp [intOf]; omega
      · obtain rfl : k = n := by omega
        go_wp2
        go_ret
        exact ⟨rfl, hsz, U.done, hbel⟩

theorem eqPoint_same (x y : Int) (w : World) : Calls Try.prog 37 #[.agg #[.int .i64 x, .int .i64 y], .agg #[.int .i64 x, .int .i64 y]] w fun e w' => e = .returned (.bool true) ∧ Below w.heap.size w w' := by
  go_enter Try.func37, Try.ntmps37
  go_wp2
  go_ret
  exact ⟨rfl, by go_grown⟩

theorem keepS {W w1 : World} (hb : Below W.heap.size W w1) : (∀ b o, b < W.heap.size → w1.cell? ⟨b, o, none⟩ = W.cell? ⟨b, o, none⟩) ∧ Below W.heap.size W w1 := ⟨(bcell hb).1, hb⟩

set_option maxHeartbeats 1000000 in
theorem eqPts_same (g g' n c c' : Nat) (X Y : Nat → Int) (w : World) (hn : n ≤ 1048576) (hg : g < w.heap.size) (hg' : g' < w.heap.size) (hp : PtsAt w g n X Y) (hp' : PtsAt w g' n X Y) :
    Calls Try.prog 28 #[.slice (some ⟨g, 0, none⟩) n c, .slice (some ⟨g', 0, none⟩) n c'] w fun e w' => e = .returned (.bool true) ∧ Below w.heap.size w w' := by
  have HP := Lib.hid hp
  have HP' := Lib.hid hp'
  clear hp hp'
  go_enter Try.func28, Try.ntmps28
  go_wp2
  go_loopw [5] (fun v5 wr => ∃ k : Nat, k ≤ n ∧ v5 = .int .i64 (k : Int) ∧ Below w.heap.size w wr) (fun v5 _ => n - (intOf v5).toNat)
  case atStart => exact ⟨0, Nat.zero_le _, rfl, Below.refl _ _⟩
  case round =>
    obtain ⟨k, hk, rfl, hbel⟩ := hrel
    by_cases hlt : k < n
    · obtain ⟨q0, q1⟩ := HP.out k hlt
      obtain ⟨p0, p1⟩ := HP'.out k hlt
      have i0 : (0 : Int) ≤ (k : Int) := by omega
      have i1 : (k : Int) < (n : Int) := by omega
      have hsz := hbel.size
      go_wp2_with fail
      go_region_held3 (fun w' => (∀ b o, b < w.heap.size → w'.cell? ⟨b, o, none⟩ = w.cell? ⟨b, o, none⟩) ∧ Below w.heap.size w w') ((refine keepS ?_; go_grown; done))
        ((go_at_call 37; (with_reducible refine (eqPoint_same _ _ _).mono ?_); rintro e w' ⟨rfl, hb⟩; have hB := on_of (W := w) (by go_grown) hb))
      go_wp2
      go_roundw
      case rel => exact ⟨k + 1, by omega, by go_num, hB⟩
      case measure => simp [intOf]; omega
    · obtain rfl : k = n := by omega
      go_wp2
      go_ret
      exact ⟨rfl, hbel⟩

theorem sz_any (a : Option Addr) (n c : Nat) (w : World) (hn : n ≤ 9223372036854775807) : Calls Try.prog 24 #[.slice a n c, .int .i64 1048576] w fun e w' => e = .returned (.int .i64 (if n ≤ 1048576 then 1048576 - (n : Int) else -1)) ∧ w = w' := by
  by_cases h : n ≤ 1048576
  · go_enter Try.func24, Try.ntmps24
    go_wp2
    all_goals go_ret
    all_goals exact ⟨rfl, rfl⟩
  · go_enter Try.func24, Try.ntmps24
    go_wp2
    all_goals go_ret
    all_goals exact ⟨rfl, rfl⟩
end Go.Proofs.Ytgognnecmhfhpaa.PtsLaw
