/-
  The laws' helpers on slices of ints (toIntS, eqIntS, markIntS, heldIntS): what each call returns and leaves.
-/
import Derived.Test.YtccjfljmmdlngaaSlab
import Derived.Test.YtccjfljmmdlngaaRow
import Derived.Laws.MakeOwn
import Derived.Laws.Entries
import Derived.Deep.RegionHeld3
import Derived.BigQuiet
import Derived.Deep.QuietTactic
namespace Go.Proofs.Ytccjfljmmdlngaa.Ints
open Go.ChangeShapes Go.WideShapes Go.ChangeAt Go.RowKit
open Kit Slabs
open Draw (IsRow)
set_option linter.unusedVariables false
set_option linter.unusedSimpArgs false
set_option linter.unnecessarySimpa false
set_option maxRecDepth 100000

theorem drewN_below {B : Nat} {a w : World} (h : Below B a w) (n : Nat) : Below B a (w.drewN n) := ⟨h.os, h.tape, h.output, h.size, h.block⟩

/-- The cell of a number. -/
def ic (X : Nat → Int) (i : Nat) : List Value := [.int .i64 (X i)]
theorem ic_len (X : Nat → Int) (i : Nat) : (ic X i).length = 1 := rfl

theorem ic_cell {w : World} {g n : Nat} {X : Nat → Int} (h : Writes w g n 1 (ic X)) {i : Nat} (hi : i < n) : w.cell? ⟨g, i, none⟩ = some (.int .i64 (X i)) := by
  simpa using h.cell i hi 0 _ rfl

theorem row_cells {w : World} {a : Option Addr} {n cap : Nat} {z : List Int} (h : IsRow .i64 w a n cap z) (hn : n ≠ 0) : ∃ g o, a = some ⟨g, o, none⟩ ∧ g < w.heap.size ∧ ∀ i, i < n → w.cell? ⟨g, o + i, none⟩ = some (.int .i64 (z.getD i 0)) := by
  rcases h with ⟨_, h0, _, _⟩ | ⟨x, ha, hl, hm, hz, hc, hw⟩
  · exact absurd h0 hn
  · obtain ⟨g, o, s⟩ := x
    have h1 := hc 0 (by omega)
    have hs : s = none := by simpa [Addr.add] using World.cell?_spot h1
    subst hs
    refine ⟨g, o, ha, by simpa [Addr.add] using World.block_lt_of_cell? w _ h1, fun i hi => ?_⟩
    have h2 := hc i (by omega)
    by_cases h0 : i = 0
    · subst h0; simpa [Addr.add] using h2
    · simpa [Addr.add, h0] using h2



theorem zero_at (n i j : Nat) (u : Value) (hi : i < n) (hu : ([.int .i64 0] : List Value)[j]? = some u) : (madeCells #[.int .i64 0] (n * 1))[i * 1 + j]? = some u := by
  have hj : j < 1 := by have := (List.getElem?_eq_some_iff.1 hu).1; simpa using this
  obtain rfl : j = 0 := by omega
  simp only [List.getElem?_cons_zero, Option.some.injEq] at hu
  subst hu
  unfold madeCells
  rw [Array.getElem?_map, Array.getElem?_range, if_pos (by omega)]
  simp [Nat.mod_one]



/-- The marks of element i, the first mark of all being N. -/
def marked (N i : Nat) : List Value := [.int .i64 ((N + i : Nat) : Int)]



end Go.Proofs.Ytccjfljmmdlngaa.Ints
