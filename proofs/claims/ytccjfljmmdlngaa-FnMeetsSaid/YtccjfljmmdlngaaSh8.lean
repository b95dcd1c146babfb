/-
  ShiftPath (model): what the call returns for any path and any shift.
-/
import Derived.Test.YtccjfljmmdlngaaIns8
import Derived.Test.YtccjfljmmdlngaaSlab
import Derived.Deep.AppendLies
namespace Go.Proofs.Ytccjfljmmdlngaa.Ins
open Go.ChangeShapes Go.WideShapes Go.ChangeAt Go.RowKit
open Kit Point Slabs
set_option linter.unusedVariables false
set_option linter.unusedSimpArgs false
set_option linter.unnecessarySimpa false
/-- Valid before the shift and behind it. -/
def shB (d p : Pt) : Bool := pokB p.1 p.2 && pokB (p.1 + d.1) (p.2 + d.2)
/-- The answer of ShiftPath. -/
def shV (l : List Pt) (d : Pt) : List Pt := if inB d.1 && inB d.2 && l.all (shB d) then l.map (mv d) else []
/-- The cells of a list of points. -/
def cellsP (l : List Pt) : List Value := l.flatMap fun p => [.int .i64 p.1, .int .i64 p.2]
theorem cellsP_snoc (l : List Pt) (p : Pt) : cellsP (l ++ [p]) = cellsP l ++ [.int .i64 p.1, .int .i64 p.2] := by simp [cellsP]
theorem shV_bad {l : List Pt} {d : Pt} {k : Nat} (hk : k < l.length) (h : shB d l[k] = false) : shV l d = [] := by
  have : l.all (shB d) = false := by rw [List.all_eq_false]; exact ⟨l[k], List.getElem_mem hk, by simp [h]⟩
  simp [shV, this]
theorem shV_good {l : List Pt} {d : Pt} (h1 : inB d.1 = true) (h2 : inB d.2 = true) (h : ∀ k (hk : k < l.length), shB d l[k] = true) : shV l d = l.map (mv d) := by
  have : l.all (shB d) = true := by
    rw [List.all_eq_true]; intro p hp
    obtain ⟨k, hk, rfl⟩ := List.getElem_of_mem hp
    exact h k hk
  simp [shV, this, h1, h2]
theorem shV_far {l : List Pt} {d : Pt} (h : (inB d.1 && inB d.2) = false) : shV l d = [] := by simp [shV, h]
theorem owns_below {w w' : World} {base : Nat} {e : TypeId} {size : Nat} {v : Value} {n : Nat} {xs : List Value} (h : w.ownsRow base e size v n xs) (hb : Below w.heap.size w w') : w'.ownsRow base e size v n xs :=
  h.kept (row := none) ⟨hb.os, hb.tape, hb.output, hb.size, fun k hk _ => hb.block k hk⟩ (by cases v.ownBlock <;> simp)
theorem take_mv (l : List Pt) (d : Pt) {k : Nat} (h : k < l.length) : (l.take (k + 1)).map (mv d) = (l.take k).map (mv d) ++ [mv d l[k]] := by
  rw [List.take_add_one, List.getElem?_eq_getElem h, List.map_append]; rfl
theorem info_pt8 : (Try.prog.info? 65).map (fun i => (i.zero, i.size, i.bytes)) = some (some (.agg #[.int .i64 0, .int .i64 0]), 2, 16) := by kernel_rfl
/-- What ShiftPath leaves. -/
def ShIs (w : World) (m : List Pt) (e : Ending) (w' : World) : Prop := ∃ v, e = .returned v ∧ w'.ownsRow w.heap.size 65 2 v m.length (cellsP m) ∧ v ≠ .slice none 0 0 ∧ Below w.heap.size w w'
theorem sh_none (w W : World) (h : Below w.heap.size w W) : ShIs w [] (.returned (.slice (some ⟨W.heap.size, 0, none⟩) 0 0)) (W.alloc (.cells #[] 65)) := by
  refine ⟨_, rfl, ?_, by simp, h.alloc h.size _⟩
  exact World.ownsRow_made W #[] (e := 65) (size := 2) 0 h.size (by decide) (by simp)
end Go.Proofs.Ytccjfljmmdlngaa.Ins
