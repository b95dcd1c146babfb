/-
  The laws' helpers on slices of ints (toIntS, eqIntS, markIntS, heldIntS): what each call returns and leaves.
-/
import Derived.Test.YtejnfdpckipbeaaSlab
import Derived.Test.YtejnfdpckipbeaaRow
import Derived.Laws.MakeOwn
import Derived.Laws.Entries
import Derived.Deep.RegionHeld3
import Derived.BigQuiet
import Derived.Deep.QuietTactic
namespace Go.Proofs.Ytejnfdpckipbeaa.Ints
open Go.ChangeShapes Go.WideShapes Go.ChangeAt Go.RowKit
open Kit Slabs
open Draw (IsRow)
set_option linter.unusedVariables false
set_option linter.unusedSimpArgs false
set_option linter.unnecessarySimpa false
set_option maxRecDepth 100000

theorem drewN_below {B : Nat} {a w : World} (h : Below B a w) (n : Nat) : Below B a (w.drewN n) := ⟨h.os, h.tape, h.output, h.size, h.block⟩

/-- The cell of a number. -/
def ic (X : Nat → Int) (i : Nat) : List Value := [.int .i64 (X i)]
theorem ic_len (X : Nat → Int) (i : Nat) : (ic X i).length = 1 := rfl

theorem ic_cell {w : World} {g n : Nat} {X : Nat → Int} (h : Writes w g n 1 (ic X)) {i : Nat} (hi : i < n) : w.cell? ⟨g, i, none⟩ = some (.int .i64 (X i)) := by
  simpa using h.cell i hi 0 _ rfl

theorem row_cells {w : World} {a : Option Addr} {n cap : Nat} {z : List Int} (h : IsRow .i64 w a n cap z) (hn : n ≠ 0) : ∃ g o, a = some ⟨g, o, none⟩ ∧ g < w.heap.size ∧ ∀ i, i < n → w.cell? ⟨g, o + i, none⟩ = some (.int .i64 (z.getD i 0)) := by
  rcases h with ⟨_, h0, _, _⟩ | ⟨x, ha, hl, hm, hz, hc, hw⟩
  · exact absurd h0 hn
  · obtain ⟨g, o, s⟩ := x
    have h1 := hc 0 (by omega)
    have hs : s = none := by simpa [Addr.add] using World.cell?_spot h1
    subst hs
    refine ⟨g, o, ha, by simpa [Addr.add] using World.block_lt_of_cell? w _ h1, fun i hi => ?_⟩
    have h2 := hc i (by omega)
    by_cases h0 : i = 0
    · subst h0; simpa [Addr.add] using h2
    · simpa [Addr.add, h0] using h2

set_option maxHeartbeats 1000000 in
theorem eqI_same (w : World) (B1 B2 : Nat) (v1 v2 : Value) (n : Nat) (X : Nat → Int) (hn : n ≤ 2000000) (h1 : Slab w B1 v1 n 1 (ic X)) (h2 : Slab w B2 v2 n 1 (ic X)) :
    Calls Try.prog 109 #[v1, v2] w fun e w' => e = .returned (.bool true) ∧ Below w.heap.size w w' := by
  by_cases hn0 : n = 0
  · obtain ⟨a1, c1, rfl, _⟩ := h1
    obtain ⟨a2, c2, rfl, _⟩ := h2
    subst hn0
    go_enter Try.func109, Try.ntmps109
    go_wp2
    go_loopw [5] (fun i wr => i = .int .i64 0 ∧ Below w.heap.size w wr) (fun _ _ => 0)
    case atStart => exact ⟨rfl, Below.refl _ _⟩
    case round =>
      obtain ⟨rfl, hbel⟩ := hrel
      go_wp2
      go_ret
      exact ⟨rfl, hbel⟩
  · rcases h1.writes with ⟨h0, _⟩ | ⟨g1, c1, rfl, _, W1⟩
    · exact absurd h0 hn0
    rcases h2.writes with ⟨h0, _⟩ | ⟨g2, c2, rfl, _, W2⟩
    · exact absurd h0 hn0
    have H := Lib.hid (And.intro W1 W2)
    clear h1 h2 W1 W2 hn0
    go_enter Try.func109, Try.ntmps109
    go_wp2
    go_loopw [5] (fun i wr => ∃ k : Nat, k ≤ n ∧ i = .int .i64 (k : Int) ∧ Below w.heap.size w wr) (fun i _ => n - (intOf i).toNat)
    case atStart => exact ⟨0, Nat.zero_le _, rfl, Below.refl _ _⟩
    case round =>
      obtain ⟨k, hk, rfl, hbel⟩ := hrel
      by_cases hlt : k < n
      · have e1 := ic_cell (H.out.1.on hbel) hlt
        have e2 := ic_cell (H.out.2.on hbel) hlt
        have i0 : (0 : Int) ≤ (k : Int) := by omega
        have i1 : (k : Int) < (n : Int) := by omega
        go_wp2
        go_quiet (fail)
        go_wp2
        refine ⟨⟨k + 1, by omega, by go_num, drewN_below hbel _⟩, by simp [intOf]; omega⟩
      · obtain rfl : k = n := by omega
        go_wp2
        go_ret
        exact ⟨rfl, hbel⟩


theorem zero_at (n i j : Nat) (u : Value) (hi : i < n) (hu : ([.int .i64 0] : List Value)[j]? = some u) : (madeCells #[.int .i64 0] (n * 1))[i * 1 + j]? = some u := by
  have hj : j < 1 := by have := (List.getElem?_eq_some_iff.1 hu).1; simpa using this
  obtain rfl : j = 0 := by omega
  simp only [List.getElem?_cons_zero, Option.some.injEq] at hu
  subst hu
  unfold madeCells
  rw [Array.getElem?_map, Array.getElem?_range, if_pos (by omega)]
  simp [Nat.mod_one]



/-- The marks of element i, the first mark of all being N. -/
def marked (N i : Nat) : List Value := [.int .i64 ((N + i : Nat) : Int)]

set_option maxHeartbeats 1000000 in
theorem markI_any (w : World) (B N n : Nat) (v : Value) (X : Nat → Int) (hn : n ≤ 2000000) (hN : N ≤ 1000000000000) (hB0 : B ≤ w.heap.size) (h : Slab w B v n 1 (ic X)) :
    Calls Try.prog 111 #[v, .int .i64 (N : Int)] w fun e w' => e = .returned (.int .i64 ((N + n : Nat) : Int)) ∧ Slab w' B v n 1 (marked N) ∧ Below B w w' ∧ w.grownBy w' (rowOf n v) := by
  by_cases hnz : n = 0
  · obtain ⟨a1, c1, rfl, _⟩ := id h
    subst hnz
    have HX := Lib.hid h
    clear h
    go_enter Try.func111, Try.ntmps111
    go_wp2
    go_loopw [1, 5] (fun k i wr => i = .int .i64 0 ∧ k = .int .i64 (N : Int) ∧ wr = w) (fun _ _ _ => 0)
    case atStart => exact ⟨rfl, rfl, rfl⟩
    case round =>
      obtain ⟨rfl, rfl, rfl⟩ := hrel
      go_wp2
      go_ret
      exact ⟨by simp, HX.out.same fun i hi => by omega, Below.refl _ _, World.grownBy.refl _ _⟩
  · obtain ⟨g, cap, rfl, hBg, W1⟩ : ∃ g cap, v = .slice (some ⟨g, 0, none⟩) n cap ∧ B ≤ g ∧ Writes w g n 1 (ic X) := by
      rcases h.writes with ⟨h0, _⟩ | h
      · exact absurd h0 hnz
      · exact h
    have hcap := h.cap_le
    have HN := Lib.hid hnz
    have HW := Lib.hid W1
    clear h W1 hnz
    go_enter Try.func111, Try.ntmps111
    go_wp2
    go_loopw [1, 5] (fun q i wr => ∃ k : Nat, k ≤ n ∧ i = .int .i64 (k : Int) ∧ q = .int .i64 ((N + k : Nat) : Int) ∧ Writes wr g n 1 (upto (marked N) (ic X) k) ∧ Below B w wr ∧ w.grownBy wr (some g)) (fun _ i _ => n - (intOf i).toNat)
    case atStart => exact ⟨0, Nat.zero_le _, rfl, by simp, by rw [upto_zero]; exact HW.out, Below.refl _ _, World.grownBy.refl _ _⟩
    case round =>
      obtain ⟨k, hk, rfl, rfl, U, hbel, hgr⟩ := hrel
      by_cases hlt : k < n
      · have i0 : (0 : Int) ≤ (k : Int) := by omega
        have i1 : (k : Int) < (n : Int) := by omega
        have c0 : wr.cell? ⟨g, k, none⟩ = some (.int .i64 (X k)) := by
          have := U.cell k hlt 0 (.int .i64 (X k)) (by rw [upto_ge (by omega)]; rfl)
          simpa using this
        have f0 := U.free
        have U3 := U.all hlt (fun _ => rfl) (fun _ => rfl)
        have U4 := setAll_below hbel g (k * 1) hBg (marked N k)
        have U5 := setAll_grown hgr (k * 1) (marked N k)
        simp only [marked, setAll, Nat.mul_one] at U3 U4 U5
        have HU := Lib.hid (And.intro U3 (And.intro U4 U5))
        clear U3 U4 U5 U hbel hgr
        go_wp2
        go_roundw
        case rel => exact ⟨k + 1, by omega, by go_num, by first | (congr 1; omega) | (congr 2; omega) | go_num, by first | exact HU.out.1 | simpa using HU.out.1, by first | exact HU.out.2.1 | simpa using HU.out.2.1, by first | exact HU.out.2.2 | simpa using HU.out.2.2⟩
        case measure => simp [intOf]; omega
      · obtain rfl : k = n := by omega
        have HU := Lib.hid U
        clear U
        go_wp2
        go_ret
        refine ⟨rfl, (HU.out.slab hBg _ hcap).same fun i hi => upto_lt hi, hbel, ?_⟩
        unfold rowOf
        rw [if_neg HN.out]; exact hgr

set_option maxHeartbeats 1000000 in
theorem heldI_any (w : World) (B N n : Nat) (v : Value) (hn : n ≤ 2000000) (hN : N ≤ 1000000000000) (h : Slab w B v n 1 (marked N)) :
    Calls Try.prog 112 #[v, .int .i64 (N : Int)] w fun e w' => e = .returned (.int .i64 ((N + n : Nat) : Int)) ∧ Below w.heap.size w w' := by
  by_cases hnz : n = 0
  · obtain ⟨a1, c1, rfl, _⟩ := id h
    subst hnz
    clear h
    go_enter Try.func112, Try.ntmps112
    go_wp2
    go_loopw [1, 5] (fun k i wr => i = .int .i64 0 ∧ k = .int .i64 (N : Int) ∧ wr = w) (fun _ _ _ => 0)
    case atStart => exact ⟨rfl, rfl, rfl⟩
    case round =>
      obtain ⟨rfl, rfl, rfl⟩ := hrel
      go_wp2
      go_ret
      exact ⟨by simp, Below.refl _ _⟩
  · obtain ⟨g, cap, rfl, hBg, W1⟩ : ∃ g cap, v = .slice (some ⟨g, 0, none⟩) n cap ∧ B ≤ g ∧ Writes w g n 1 (marked N) := by
      rcases h.writes with ⟨h0, _⟩ | h
      · exact absurd h0 hnz
      · exact h
    have HW := Lib.hid W1
    have hg := W1.here
    clear h W1 hnz
    go_enter Try.func112, Try.ntmps112
    go_wp2
    go_loopw [1, 5] (fun q i wr => ∃ k : Nat, k ≤ n ∧ i = .int .i64 (k : Int) ∧ q = .int .i64 ((N + k : Nat) : Int) ∧ Below w.heap.size w wr) (fun _ i _ => n - (intOf i).toNat)
    case atStart => exact ⟨0, Nat.zero_le _, rfl, by simp, Below.refl _ _⟩
    case round =>
      obtain ⟨k, hk, rfl, rfl, hbel⟩ := hrel
      by_cases hlt : k < n
      · have i0 : (0 : Int) ≤ (k : Int) := by omega
        have i1 : (k : Int) < (n : Int) := by omega
        have q0 : wr.cell? ⟨g, k, none⟩ = some (.int .i64 ((N : Int) + (k : Int))) := by
          rw [hbel.cell (p := ⟨g, k, none⟩) hg]
          have h := HW.out.cell k hlt 0 _ rfl
          simpa using h
        go_wp2
        go_roundw
        case rel => exact ⟨k + 1, by omega, by go_num, by first | (congr 1; omega) | (congr 2; omega) | go_num, hbel⟩
        case measure => simp [intOf]; omega
      · obtain rfl : k = n := by omega
        go_wp2
        go_ret
        exact ⟨rfl, hbel⟩

end Go.Proofs.Ytejnfdpckipbeaa.Ints
