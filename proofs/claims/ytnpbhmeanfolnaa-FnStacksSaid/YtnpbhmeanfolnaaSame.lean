/-
  The laws' sameInts: what the call returns; condition: at most 2000000 numbers.
-/
import Derived.Test.YtnpbhmeanfolnaaInts
namespace Go.Proofs.Ytnpbhmeanfolnaa.Ints
open Go.ChangeShapes Go.WideShapes Go.ChangeAt Go.RowKit
open Kit Slabs
open Draw (IsRow)
set_option linter.unusedVariables false
set_option linter.unusedSimpArgs false
set_option linter.unnecessarySimpa false
set_option maxRecDepth 100000

set_option maxHeartbeats 1000000 in
theorem same_same (w : World) (B1 B2 : Nat) (v1 v2 : Value) (n : Nat) (X : Nat → Int) (hn : n ≤ 2000000) (h1 : Slab w B1 v1 n 1 (ic X)) (h2 : Slab w B2 v2 n 1 (ic X)) :
    Calls Try.prog 18 #[v1, v2] w fun e w' => e = .returned (.bool true) ∧ Below w.heap.size w w' := by
  by_cases hn0 : n = 0
  · obtain ⟨a1, c1, rfl, _⟩ := h1
    obtain ⟨a2, c2, rfl, _⟩ := h2
    subst hn0
    go_enter Try.func18, Try.ntmps18
    go_wp2
    go_loopw [5] (fun i wr => i = .int .i64 0 ∧ Below w.heap.size w wr) (fun _ _ => 0)
    case atStart => exact ⟨rfl, Below.refl _ _⟩
    case round =>
      obtain ⟨rfl, hbel⟩ := hrel
      go_wp2
      go_ret
      exact ⟨rfl, hbel⟩
  · rcases h1.writes with ⟨h0, _⟩ | ⟨g1, c1, rfl, _, W1⟩
    · exact absurd h0 hn0
    rcases h2.writes with ⟨h0, _⟩ | ⟨g2, c2, rfl, _, W2⟩
    · exact absurd h0 hn0
    have H := Lib.hid (And.intro W1 W2)
    clear h1 h2 W1 W2 hn0
    go_enter Try.func18, Try.ntmps18
    go_wp2
    go_loopw [5] (fun i wr => ∃ k : Nat, k ≤ n ∧ i = .int .i64 (k : Int) ∧ Below w.heap.size w wr) (fun i _ => n - (intOf i).toNat)
    case atStart => exact ⟨0, Nat.zero_le _, rfl, Below.refl _ _⟩
    case round =>
      obtain ⟨k, hk, rfl, hbel⟩ := hrel
      by_cases hlt : k < n
      · have e1 := ic_cell (H.out.1.on hbel) hlt
        have e2 := ic_cell (H.out.2.on hbel) hlt
        have i0 : (0 : Int) ≤ (k : Int) := by omega
        have i1 : (k : Int) < (n : Int) := by omega
        go_wp2
        go_quiet (fail)
        go_wp2
        refine ⟨⟨k + 1, by omega, by go_num, drewN_below hbel _⟩, by simp [intOf]; omega⟩
      · obtain rfl : k = n := by omega
        go_wp2
        go_ret
        exact ⟨rfl, hbel⟩
end Go.Proofs.Ytnpbhmeanfolnaa.Ints
