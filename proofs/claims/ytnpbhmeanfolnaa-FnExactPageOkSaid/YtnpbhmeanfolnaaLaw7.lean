/-
  Chapter 7: what the exact laws of valid states and pages ask, of whatever data.
-/
import Derived.Test.YtnpbhmeanfolnaaNewA
namespace Go.Proofs.Ytnpbhmeanfolnaa.Own
open Go.ChangeShapes Go.WideShapes Go.ChangeAt Go.RowKit
open Kit Slabs
theorem spec_GraphicsOk (w : World) {A : Array Value} {ds : List Dt} {fp : List Nat} (hb : bulkL ds ≤ 1048576) (h : OwnL w LGraphics A.toList ds fp) : Calls Try.prog 36 #[.agg A] w fun e w' => e = .returned (.bool (grB (grOf ds))) ∧ Below w.heap.size w w' := by
  have e := gr_dt h
  rw [e] at hb h
  exact gr_spec w hb h
theorem impl_GraphicsOk (w : World) {A : Array Value} {ds : List Dt} {fp : List Nat} (hb : bulkL ds ≤ 1048576) (h : OwnL w LGraphics A.toList ds fp) : Calls Try.prog 38 #[.agg A] w fun e w' => e = .returned (.bool (grB (grOf ds))) ∧ Below w.heap.size w w' := by
  have e := gr_dt h
  rw [e] at hb h
  exact gr_impl w hb h
theorem spec_PageOk (w : World) {A : Array Value} {ds : List Dt} {fp : List Nat} (hb : bulkL ds ≤ 1048576) (h : OwnL w LPage A.toList ds fp) : Calls Try.prog 41 #[.agg A] w fun e w' => e = .returned (.bool (pgB (pgOf ds))) ∧ Below w.heap.size w w' := by
  have e := pg_dt h
  rw [e] at hb h
  exact pg_spec w hb h
theorem impl_PageOk (w : World) {A : Array Value} {ds : List Dt} {fp : List Nat} (hb : bulkL ds ≤ 1048576) (h : OwnL w LPage A.toList ds fp) : Calls Try.prog 43 #[.agg A] w fun e w' => e = .returned (.bool (pgB (pgOf ds))) ∧ Below w.heap.size w w' := by
  have e := pg_dt h
  rw [e] at hb h
  exact pg_impl w hb h
end Go.Proofs.Ytnpbhmeanfolnaa.Own
