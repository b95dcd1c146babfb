/-
  Texts of this seat, laid together: Row, Inp8, InI8, Sh8, Sm9, Im9
-/
import Derived.Test.YtbdjnfnphilklaaRows
import Derived.WalkKit
import Derived.ProofKit
import Derived.OpenShut
import Derived.Below
import Derived.Deep.AppendLies
import Derived.Deep.QuietTactic
import Derived.BigQuiet
import Derived.Test.YtbdjnfnphilklaaM05
import Derived.Test.YtbdjnfnphilklaaM24
import Derived.Test.YtbdjnfnphilklaaM10
import Derived.Test.YtbdjnfnphilklaaM04
import Derived.Test.YtbdjnfnphilklaaM03
import Derived.Test.YtbdjnfnphilklaaM27
namespace Go.Proofs.Ytbdjnfnphilklaa.Draw
open Go.ChangeShapes Go.WideShapes Go.ChangeAt Go.RowKit
set_option linter.unusedVariables false
def IsRow (k : IntKind) (w : World) (a : Option Addr) (len cap : Nat) (zs : List Int) : Prop :=
  (a = none ∧ len = 0 ∧ cap = 0 ∧ zs = []) ∨
  ∃ x, a = some x ∧ len ≤ cap ∧ cap ≤ maxLen ∧ zs.length = cap ∧ (∀ i, i < zs.length → w.cell? (x.add i) = some (.int k (zs.getD i 0))) ∧ ∀ n ∈ zs, (Lit.int k n).wf = true
end Go.Proofs.Ytbdjnfnphilklaa.Draw
namespace Go.Proofs.Ytbdjnfnphilklaa.Ins
open Go.ChangeShapes Go.WideShapes Go.ChangeAt Go.RowKit
open Kit Point
set_option linter.unusedVariables false
set_option linter.unusedSimpArgs false
set_option linter.unnecessarySimpa false
def inpB (l : List Pt) (x y : Int) : Bool := pathB l && inB x && inB y && insP l x y
theorem three3 (a b c : Bool) : a = false ∨ (a = true ∧ b = false) ∨ (a = true ∧ b = true ∧ c = false) ∨ (a = true ∧ b = true ∧ c = true) := by
  cases a <;> cases b <;> cases c <;> simp
end Go.Proofs.Ytbdjnfnphilklaa.Ins
namespace Go.Proofs.Ytbdjnfnphilklaa.Ins
open Go.ChangeShapes Go.WideShapes Go.ChangeAt Go.RowKit
open Kit Point Slabs
set_option linter.unusedVariables false
set_option linter.unusedSimpArgs false
set_option linter.unnecessarySimpa false
end Go.Proofs.Ytbdjnfnphilklaa.Ins
namespace Go.Proofs.Ytbdjnfnphilklaa.Ins
open Go.ChangeShapes Go.WideShapes Go.ChangeAt Go.RowKit
open Kit Point Slabs
set_option linter.unusedVariables false
set_option linter.unusedSimpArgs false
set_option linter.unnecessarySimpa false
def shB (d p : Pt) : Bool := pokB p.1 p.2 && pokB (p.1 + d.1) (p.2 + d.2)
def shV (l : List Pt) (d : Pt) : List Pt := if inB d.1 && inB d.2 && l.all (shB d) then l.map (mv d) else []
def cellsP (l : List Pt) : List Value := l.flatMap fun p => [.int .i64 p.1, .int .i64 p.2]
theorem cellsP_snoc (l : List Pt) (p : Pt) : cellsP (l ++ [p]) = cellsP l ++ [.int .i64 p.1, .int .i64 p.2] := by simp [cellsP]
theorem shV_bad {l : List Pt} {d : Pt} {k : Nat} (hk : k < l.length) (h : shB d l[k] = false) : shV l d = [] := by
  have : l.all (shB d) = false := by rw [List.all_eq_false]; exact ⟨l[k], List.getElem_mem hk, by simp [h]⟩
  simp [shV, this]
theorem shV_good {l : List Pt} {d : Pt} (h1 : inB d.1 = true) (h2 : inB d.2 = true) (h : ∀ k (hk : k < l.length), shB d l[k] = true) : shV l d = l.map (mv d) := by
  have : l.all (shB d) = true := by
    rw [List.all_eq_true]; intro p hp
    obtain ⟨k, hk, rfl⟩ := List.getElem_of_mem hp
    exact h k hk
  simp [shV, this, h1, h2]
theorem shV_far {l : List Pt} {d : Pt} (h : (inB d.1 && inB d.2) = false) : shV l d = [] := by simp [shV, h]
theorem owns_below {w w' : World} {base : Nat} {e : TypeId} {size : Nat} {v : Value} {n : Nat} {xs : List Value} (h : w.ownsRow base e size v n xs) (hb : Below w.heap.size w w') : w'.ownsRow base e size v n xs :=
  h.kept (row := none) ⟨hb.os, hb.tape, hb.output, hb.size, fun k hk _ => hb.block k hk⟩ (by cases v.ownBlock <;> simp)
theorem take_mv (l : List Pt) (d : Pt) {k : Nat} (h : k < l.length) : (l.take (k + 1)).map (mv d) = (l.take k).map (mv d) ++ [mv d l[k]] := by
  rw [List.take_add_one, List.getElem?_eq_getElem h, List.map_append]; rfl
theorem info_pt8 : (Try.prog.info? 113).map (fun i => (i.zero, i.size, i.bytes)) = some (some (.agg #[.int .i64 0, .int .i64 0]), 2, 16) := by kernel_rfl
def ShIs (w : World) (m : List Pt) (e : Ending) (w' : World) : Prop := ∃ v, e = .returned v ∧ w'.ownsRow w.heap.size 113 2 v m.length (cellsP m) ∧ v ≠ .slice none 0 0 ∧ Below w.heap.size w w'
theorem sh_none (w W : World) (h : Below w.heap.size w W) : ShIs w [] (.returned (.slice (some ⟨W.heap.size, 0, none⟩) 0 0)) (W.alloc (.cells #[] 113)) := by
  refine ⟨_, rfl, ?_, by simp, h.alloc h.size _⟩
  exact World.ownsRow_made W #[] (e := 113) (size := 2) 0 h.size (by decide) (by simp)
end Go.Proofs.Ytbdjnfnphilklaa.Ins
namespace Go.Proofs.Ytbdjnfnphilklaa.Ins
open Go.ChangeShapes Go.WideShapes Go.ChangeAt Go.RowKit
open Kit Point
set_option linter.unusedVariables false
set_option linter.unusedSimpArgs false
set_option linter.unnecessarySimpa false
end Go.Proofs.Ytbdjnfnphilklaa.Ins
namespace Go.Proofs.Ytbdjnfnphilklaa.Ins
open Go.ChangeShapes Go.WideShapes Go.ChangeAt Go.RowKit
open Kit Point
set_option linter.unusedVariables false
set_option linter.unusedSimpArgs false
set_option linter.unnecessarySimpa false
theorem inS_hit {l : List Pt} {k : Nat} {x : Int} (hk : k < l.length) (h1 : pX l k ≤ x) (h2 : x < pY l k) : inS l x = true :=
  inS_true.2 ⟨l[k], List.getElem_mem hk, by rw [getk l hk]; exact h1, by rw [getk l hk]; exact h2⟩
theorem inS_miss {l : List Pt} {x : Int} (h : ∀ k, k < l.length → ¬ (pX l k ≤ x ∧ x < pY l k)) : inS l x = false := inS_false fun q hq => by
  obtain ⟨k, hk, rfl⟩ := List.getElem_of_mem hq
  have := h k hk
  rw [getk l hk]; show x < pX l k ∨ pY l k ≤ x; omega
end Go.Proofs.Ytbdjnfnphilklaa.Ins
