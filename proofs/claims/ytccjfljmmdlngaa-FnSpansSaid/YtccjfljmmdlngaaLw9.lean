/-
  Chapter 9's functions told of slices as the laws' helpers leave them.
-/
import Derived.Test.YtccjfljmmdlngaaSpans
import Derived.Test.YtccjfljmmdlngaaLw8
import Derived.Test.YtccjfljmmdlngaaDt9
import Derived.Test.YtccjfljmmdlngaaIs9
import Derived.Test.YtccjfljmmdlngaaIm9
import Derived.Test.YtccjfljmmdlngaaMm9
import Derived.Test.YtccjfljmmdlngaaAs9b
namespace Go.Proofs.Ytccjfljmmdlngaa.Ins
open Go.ChangeShapes Go.WideShapes Go.ChangeAt Go.RowKit
open Kit Point Slabs Recs
set_option linter.unusedVariables false
set_option linter.unusedSimpArgs false
set_option linter.unnecessarySimpa false
theorem recs_keep9 {w w' : World} {a : Option Addr} {n c : Nat} {z : Nat → Nat → Value} (h : IsRecs Spans.kl w a n c z) (hb : Below w.heap.size w w') : IsRecs Spans.kl w' a n c z := by
  obtain ⟨h1, h2, h3⟩ := h
  refine ⟨h1, h2, ?_⟩
  rcases h3 with h3 | ⟨g, o, ha, hg, h4⟩
  · exact .inl h3
  · exact .inr ⟨g, o, ha, Nat.lt_of_lt_of_le hg hb.size, fun i hi j kd hk => ⟨(hb.cell (p := ⟨g, _, none⟩) hg).trans (h4 i hi j kd hk).1, (h4 i hi j kd hk).2⟩⟩
theorem slab_path9 {w : World} {B n : Nat} {v : Value} {z : Nat → Nat → Value} (h : Slab w B v n 2 (fun i => [z i 0, z i 1])) (hs : Spans.Shape (fun i => [z i 0, z i 1]) n) :
    ∃ a c, v = .slice a (plst z n).length c ∧ PathAt w a (plst z n) := slab_path h (show Points.Shape _ _ from hs)
theorem pcF_shape9 (l : List Pt) (n : Nat) : Spans.Shape (pcF l) n := fun i _ => ⟨_, _, rfl⟩
theorem slab_owns9 {w : World} {B : Nat} {v : Value} {m : List Pt} (h : w.ownsRow B 61 2 v m.length (cellsP m)) : Slab w B v m.length 2 (pcF m) :=
  Slab.of_owns (by rw [flat_pc]; exact h) (pcF_len m)
variable {w : World} {B n : Nat} {v : Value} {z : Nat → Nat → Value}
theorem sok_spec_v (h : Slab w B v n 2 (fun i => [z i 0, z i 1])) (hs : Spans.Shape (fun i => [z i 0, z i 1]) n) (hn : n ≤ 1048576) :
    Calls Try.prog 22 #[v] w fun e w' => e = .returned (.bool (spB (plst z n))) ∧ Below w.heap.size w w' := by
  obtain ⟨a, c, rfl, hp⟩ := slab_path9 h hs; exact sok_spec w a c _ (by rw [plst_len]; exact hn) hp
theorem sok_impl_v (h : Slab w B v n 2 (fun i => [z i 0, z i 1])) (hs : Spans.Shape (fun i => [z i 0, z i 1]) n) (hn : n ≤ 1048576) :
    Calls Try.prog 17 #[v] w fun e w' => e = .returned (.bool (spB (plst z n))) ∧ Below w.heap.size w w' := by
  obtain ⟨a, c, rfl, hp⟩ := slab_path9 h hs; exact sok_impl w a c _ (by rw [plst_len]; exact hn) hp
theorem dots_spec_v (h : Slab w B v n 2 (fun i => [z i 0, z i 1])) (hs : Spans.Shape (fun i => [z i 0, z i 1]) n) (hn : n ≤ 1048576) :
    Calls Try.prog 33 #[v] w fun e w' => e = .returned (.int .i64 (dtV (plst z n))) ∧ Below w.heap.size w w' := by
  obtain ⟨a, c, rfl, hp⟩ := slab_path9 h hs; exact dots_spec w a c _ (by rw [plst_len]; exact hn) hp
theorem dots_impl_v (h : Slab w B v n 2 (fun i => [z i 0, z i 1])) (hs : Spans.Shape (fun i => [z i 0, z i 1]) n) (hn : n ≤ 1048576) :
    Calls Try.prog 18 #[v] w fun e w' => e = .returned (.int .i64 (dtV (plst z n))) ∧ Below w.heap.size w w' := by
  obtain ⟨a, c, rfl, hp⟩ := slab_path9 h hs; exact dots_impl w a c _ (by rw [plst_len]; exact hn) hp
theorem in_spec_v (h : Slab w B v n 2 (fun i => [z i 0, z i 1])) (hs : Spans.Shape (fun i => [z i 0, z i 1]) n) (hn : n ≤ 1048576) (x : Int) :
    Calls Try.prog 34 #[v, .int .i64 x] w fun e w' => e = .returned (.bool (inS (plst z n) x)) ∧ Below w.heap.size w w' := by
  obtain ⟨a, c, rfl, hp⟩ := slab_path9 h hs; exact in_spec9 w a c _ x (by rw [plst_len]; exact hn) hp
theorem in_impl_v (h : Slab w B v n 2 (fun i => [z i 0, z i 1])) (hs : Spans.Shape (fun i => [z i 0, z i 1]) n) (hn : n ≤ 1048576) (x : Int) :
    Calls Try.prog 15 #[v, .int .i64 x] w fun e w' => e = .returned (.bool (inS (plst z n) x)) ∧ Below w.heap.size w w' := by
  obtain ⟨a, c, rfl, hp⟩ := slab_path9 h hs; exact in_impl9 w a c _ x (by rw [plst_len]; exact hn) hp
theorem meet_spec_v (h : Slab w B v n 2 (fun i => [z i 0, z i 1])) (hs : Spans.Shape (fun i => [z i 0, z i 1]) n) (hn : n ≤ 1048576) (x y : Int) :
    Calls Try.prog 32 #[v, .int .i64 x, .int .i64 y] w fun e w' => ∃ u : Value, e = .returned u ∧ Slab w' w.heap.size u (mtV (plst z n) x y).length 2 (pcF (mtV (plst z n) x y)) ∧ Below w.heap.size w w' := by
  obtain ⟨a, c, rfl, hp⟩ := slab_path9 h hs
  exact (meet_spec w a c _ x y (by rw [plst_len]; exact hn) hp).mono fun e w' ⟨u, he, ho, hb⟩ => ⟨u, he, slab_owns9 ho, hb⟩
theorem meet_impl_v (h : Slab w B v n 2 (fun i => [z i 0, z i 1])) (hs : Spans.Shape (fun i => [z i 0, z i 1]) n) (hn : n ≤ 1048576) (x y : Int) :
    Calls Try.prog 20 #[v, .int .i64 x, .int .i64 y] w fun e w' => ∃ u : Value, e = .returned u ∧ Slab w' w.heap.size u (mtV (plst z n) x y).length 2 (pcF (mtV (plst z n) x y)) ∧ Below w.heap.size w w' := by
  obtain ⟨a, c, rfl, hp⟩ := slab_path9 h hs
  exact (meet_impl w a c _ x y (by rw [plst_len]; exact hn) hp).mono fun e w' ⟨u, he, ho, hb⟩ => ⟨u, he, slab_owns9 ho, hb⟩
theorem spsV_len (l : List Pt) (y : Int) : 2 * (spsV l y).length ≤ l.length := by
  unfold spsV
  split
  · have := cols_len l y l.length; rw [prs_len]; omega
  · simp
theorem sa_spec_v (h : Slab w B v n 2 (fun i => [z i 0, z i 1])) (hs : Points.Shape (fun i => [z i 0, z i 1]) n) (hn : n ≤ 1048576) (y : Int) :
    Calls Try.prog 26 #[v, .int .i64 y] w fun e w' => ∃ u : Value, e = .returned u ∧ Slab w' w.heap.size u (spsV (plst z n) y).length 2 (pcF (spsV (plst z n) y)) ∧ Below w.heap.size w w' := by
  obtain ⟨a, c, rfl, hp⟩ := slab_path h hs
  exact (sa_spec w a c _ y (by rw [plst_len]; exact hn) hp).mono fun e w' ⟨u, he, ho, hb⟩ => ⟨u, he, slab_owns9 ho, hb⟩
theorem sa_impl_v (h : Slab w B v n 2 (fun i => [z i 0, z i 1])) (hs : Points.Shape (fun i => [z i 0, z i 1]) n) (hn : n ≤ 1048576) (y : Int) :
    Calls Try.prog 13 #[v, .int .i64 y] w fun e w' => ∃ u : Value, e = .returned u ∧ Slab w' w.heap.size u (spsV (plst z n) y).length 2 (pcF (spsV (plst z n) y)) ∧ Below w.heap.size w w' := by
  obtain ⟨a, c, rfl, hp⟩ := slab_path h hs
  exact (sa_impl w a c _ y (by rw [plst_len]; exact hn) hp).mono fun e w' ⟨u, he, ho, hb⟩ => ⟨u, he, slab_owns9 ho, hb⟩
end Go.Proofs.Ytccjfljmmdlngaa.Ins
