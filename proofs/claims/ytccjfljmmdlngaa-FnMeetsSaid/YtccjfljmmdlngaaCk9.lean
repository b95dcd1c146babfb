/-
  slices.Chunk over ints by two (program): what the call returns, and that the iterator hands over the pairs one after the other.
-/
import Derived.Test.YtccjfljmmdlngaaRf9
import Derived.Test.YtccjfljmmdlngaaTg9
namespace Go.Proofs.Ytccjfljmmdlngaa.Ins
open Go.ChangeShapes Go.WideShapes Go.ChangeAt Go.RowKit Go.Shelf
open Kit
set_option linter.unusedVariables false
set_option linter.unusedSimpArgs false
set_option linter.unnecessarySimpa false
attribute [local go_sem] Oper.semAt_some
attribute [local go_sem ↓] run_mn
/-- Blocks of cells that are neither spans nor the variable that holds them lie as they lay. -/
def KeepT (V V' : World) : Prop := ∀ (k : Nat) (c : Array Value) (t : TypeId) (z : Nat × Nat), V.heap[k]? = some (.cells c t z) → t ≠ 61 → t ≠ 28 → V'.heap[k]? = some (.cells c t z)
theorem KeepT.trans {X Y Z : World} (h : KeepT X Y) (k : KeepT Y Z) : KeepT X Z := fun i c t z hi h1 h2 => k i c t z (h i c t z hi h1 h2) h1 h2
theorem KeepT.refl (X : World) : KeepT X X := fun _ _ _ _ h _ _ => h
theorem KeepT.putObj (V : World) (l : Nat) (r : Loop) (o : Obj) (h : V.heap[l]? = some (.loop r)) : KeepT V (V.putObj l o) := fun i c t z hi _ _ => by
  refine (World.putObj_heap_other fun e => ?_).trans hi
  subst e; rw [h] at hi; cases hi
theorem KeepT.below {V V' : World} (h : Below V.heap.size V V') : KeepT V V' := fun i c t z hi _ _ => (h.block i (Array.getElem?_eq_some_iff.1 hi).1).trans hi
theorem KeepT.boxed {V V' : World} (h : KeepT V V') {B : Nat} {t : TypeId} {v : Value} (hb : Boxed V B t v) (h1 : t ≠ 61) (h2 : t ≠ 28) : Boxed V' B t v := h B _ t _ hb h1 h2
theorem KeepT.row {V V' : World} (h : KeepT V V') {b n : Nat} {t : TypeId} {f : Nat → Value} (hr : V.rowIs b t n f) (h1 : t ≠ 61) (h2 : t ≠ 28) : V'.rowIs b t n f := by
  obtain ⟨c, hb, hn, hc⟩ := hr
  exact ⟨c, h b c t _ hb h1 h2, hn, hc⟩
theorem range_part {m k : Nat} (h : k < m) : List.range m = List.range k ++ k :: (List.range m).drop (k + 1) := by
  have h1 : (List.range m).take k = List.range k := by rw [List.take_range]; congr 1; omega
  have h2 : (List.range m).drop k = k :: (List.range m).drop (k + 1) := by
    rw [List.drop_eq_getElem_cons (by simpa using h)]; simp
  rw [← h2, ← h1, List.take_append_drop]
theorem ownFrom_drew {β : Type} {B : Nat} {J : β → World → Prop} (h : OwnFrom B J) {s : β} {V : World} (hs : J s V) : J s V.drew :=
  h s V V.drew none hs ⟨rfl, rfl, rfl, Nat.le_refl _, fun _ _ _ => rfl⟩ (fun r e => by cases e)
theorem ownFrom_on {β : Type} {B : Nat} {J : β → World → Prop} (h : OwnFrom B J) {s : β} {V V' : World} (hs : J s V) (hb : Below V.heap.size V V') : J s V' :=
  h s V V' none hs ⟨hb.os, hb.tape, hb.output, hb.size, fun k hk _ => hb.block k hk⟩ (fun r e => by cases e)
set_option maxRecDepth 100000 in
set_option maxHeartbeats 2000000 in
theorem chunk_gives (b0 b1 g c m : Nat) (w : World) (h0 : Boxed w b0 26 (.slice (some ⟨g, 0, none⟩) (2 * m) c)) (h1 : Boxed w b1 3 (.int .i64 2)) (hc : 2 * m ≤ c) (hm : c ≤ maxLen) :
    Gives Try.prog 69 #[.pointer (some ⟨b0, 0, none⟩), .pointer (some ⟨b1, 0, none⟩)] (fun k : Nat => #[.slice (some ⟨g, 2 * k, none⟩) 2 2]) KeepT (List.range m) w := by
  intro l n J W hW hJ hY hJ0
  have hm : c ≤ 9223372036854775807 := by unfold maxLen at hm; omega
  have H0 : Boxed W b0 26 (.slice (some ⟨g, 0, none⟩) (2 * m) c) := (hW.block _ h0.lt).trans h0
  have H1 : Boxed W b1 3 (.int .i64 2) := (hW.block _ h1.lt).trans h1
  refine callsIn_of_wp Try.func69 rfl trivial ?_ rfl
  simp only [Try.ntmps69, List.size_toArray, List.length_cons, List.length_nil, Nat.reduceAdd, Nat.reduceSub, Array.replicate_succ, Array.replicate_zero, List.push_toArray, List.append_toArray, List.nil_append, List.cons_append]
  gi_wp2
  gi_loopw [4] (fun p wr => ∃ k : Nat, k ≤ m ∧ p = .int .i64 (2 * (k : Int)) ∧ Boxed wr b0 26 (.slice (some ⟨g, 0, none⟩) (2 * m) c) ∧ Boxed wr b1 3 (.int .i64 2) ∧ J (List.range k) wr) (fun p wr => 2 * m - (intOf p).toNat)
  case atStart => exact ⟨0, Nat.zero_le _, rfl, H0, H1, hJ0⟩
  case round =>
    obtain ⟨k, hk, rfl, B0, B1, hJk⟩ := hrel
    have c0 := B0.cell
    have c1 := B1.cell
    by_cases hlt : k < m
    · have i0 : (0 : Int) ≤ 2 * (k : Int) := by omega
      have i1 : 2 * (k : Int) < 2 * (m : Int) := by omega
      have hck : ¬ (c = 2 * k) := by omega
      have hmn : mn 2 ((2 * m - 2 * k : Nat) : Int) = 2 := by unfold mn; omega
      have hw2 : wrap64 (2 * (k : Int) + 2) = 2 * (k : Int) + 2 := by unfold wrap64; omega
      have ht2 : (2 * (k : Int) + 2).toNat = 2 * k + 2 := by omega
      have j0 : (0 : Int) ≤ 2 * (k : Int) + 2 := by omega
      have j1 : 2 * (k : Int) + 2 ≤ (c : Int) := by omega
      have j2 : ¬ (2 * k + 2 = 2 * k) := by omega
      have j3 : max (2 * (k : Int) + 2) 0 = 2 * (k : Int) + 2 := by omega
      have j4 : 2 * (k : Int) ≤ 2 * (k : Int) + 2 := by omega
      obtain ⟨fn, tmps, assign, body, hy, hR⟩ := hY (n - 1) (List.range k) k _ wr.drew (range_part hlt) (ownFrom_drew hJ hJk)
      gi_wp2
      gi_region
      gi_wp2
      refine ⟨fun h => by simp [Fence.wide] at h, hR.mono ?_⟩
      rintro e W3 ⟨rfl, hJ3, hk3, _⟩
      have B03 : Boxed W3 b0 26 (.slice (some ⟨g, 0, none⟩) (2 * m) c) := hk3.boxed B0 (by decide) (by decide)
      have B13 : Boxed W3 b1 3 (.int .i64 2) := hk3.boxed B1 (by decide) (by decide)
      have c03 := B03.cell
      have c13 := B13.cell
      gi_wp2
      go_roundw
      case rel => exact ⟨k + 1, by omega, by go_num, B03, B13, by rw [List.range_succ]; exact hJ3⟩
      case measure => simp [intOf]; omega
    · obtain rfl : k = m := by omega
      gi_wp2
      go_end0
      exact ⟨⟨_, rfl⟩, hJk⟩
/-- At a nil slice: no round. -/
theorem chunk_none (b0 b1 g : Nat) (w : World) (h0 : Boxed w b0 26 (.slice none 0 0)) :
    Gives Try.prog 69 #[.pointer (some ⟨b0, 0, none⟩), .pointer (some ⟨b1, 0, none⟩)] (fun k : Nat => #[.slice (some ⟨g, 2 * k, none⟩) 2 2]) KeepT (List.range 0) w := by
  intro l n J W hW hJ hY hJ0
  have H0 : Boxed W b0 26 (.slice none 0 0) := (hW.block _ h0.lt).trans h0
  have c0 := H0.cell
  refine callsIn_of_wp Try.func69 rfl trivial ?_ rfl
  simp only [Try.ntmps69, List.size_toArray, List.length_cons, List.length_nil, Nat.reduceAdd, Nat.reduceSub, Array.replicate_succ, Array.replicate_zero, List.push_toArray, List.append_toArray, List.nil_append, List.cons_append]
  gi_wp2
  gi_loopw [4] (fun p wr => p = .int .i64 0 ∧ wr = W) (fun p wr => 0)
  case atStart => exact ⟨rfl, rfl⟩
  case round =>
    obtain ⟨rfl, rfl⟩ := hrel
    gi_wp2
    go_end0
    exact ⟨⟨_, rfl⟩, hJ0⟩
/-- slices.Chunk itself: both arguments are boxed; the function value captures the boxes. -/
theorem chunk_call (a : Option Addr) (n c : Nat) (w : World) :
    Calls Try.prog 62 #[.slice a n c, .int .i64 2] w fun e w' => e = .returned (.func (.func 69) #[] #[.pointer (some ⟨w.heap.size, 0, none⟩), .pointer (some ⟨w.heap.size + 1, 0, none⟩)]) ∧ w' = (w.alloc (.cells #[.slice a n c] 26)).alloc (.cells #[.int .i64 2] 3) := by
  go_enter Try.func62, Try.ntmps62
  go_wp2
  go_ret
  exact ⟨rfl, rfl⟩
end Go.Proofs.Ytccjfljmmdlngaa.Ins
