/-
  The model's IsStackOp: what the call returns; the seven names as facts on the string's bytes.
-/
import Derived.Test.YtnpbhmeanfolnaaTake
namespace Go.Proofs.Ytnpbhmeanfolnaa.Opn
open Go.ChangeShapes Go.WideShapes Go.ChangeAt Go.RowKit
open Kit Slabs Ints Stack Push Take
set_option linter.unusedVariables false
set_option linter.unusedSimpArgs false
set_option linter.unnecessarySimpa false
set_option maxRecDepth 100000

/-- Which of the names (add, sub, mul, neg, dup, pop, exch) a string is. -/
structure Nm (s : ByteArray) (a b c d e f g : Bool) : Prop where
  add : (s.toList == [97, 100, 100]) = a
  sub : (s.toList == [115, 117, 98]) = b
  mul : (s.toList == [109, 117, 108]) = c
  neg : (s.toList == [110, 101, 103]) = d
  dup : (s.toList == [100, 117, 112]) = e
  pop : (s.toList == [112, 111, 112]) = f
  exch : (s.toList == [101, 120, 99, 104]) = g

theorem nm_cases (s : ByteArray) : Nm s true false false false false false false ∨ Nm s false true false false false false false ∨ Nm s false false true false false false false ∨ Nm s false false false true false false false
    ∨ Nm s false false false false true false false ∨ Nm s false false false false false true false ∨ Nm s false false false false false false true ∨ Nm s false false false false false false false := by
  by_cases h1 : s.toList = [97, 100, 100]
  · left; constructor <;> rw [h1] <;> rfl
  by_cases h2 : s.toList = [115, 117, 98]
  · right; left; constructor <;> rw [h2] <;> rfl
  by_cases h3 : s.toList = [109, 117, 108]
  · right; right; left; constructor <;> rw [h3] <;> rfl
  by_cases h4 : s.toList = [110, 101, 103]
  · right; right; right; left; constructor <;> rw [h4] <;> rfl
  by_cases h5 : s.toList = [100, 117, 112]
  · right; right; right; right; left; constructor <;> rw [h5] <;> rfl
  by_cases h6 : s.toList = [112, 111, 112]
  · right; right; right; right; right; left; constructor <;> rw [h6] <;> rfl
  by_cases h7 : s.toList = [101, 120, 99, 104]
  · right; right; right; right; right; right; left; constructor <;> rw [h7] <;> rfl
  right; right; right; right; right; right; right
  constructor <;> (apply beq_eq_false_iff_ne.2; assumption)

def opB (s : ByteArray) : Bool := s.toList == [97, 100, 100] || s.toList == [115, 117, 98] || s.toList == [109, 117, 108] || s.toList == [110, 101, 103] || s.toList == [100, 117, 112] || s.toList == [112, 111, 112] || s.toList == [101, 120, 99, 104]

theorem opB_of {s : ByteArray} {a b c d e f g : Bool} (h : Nm s a b c d e f g) : opB s = (a || b || c || d || e || f || g) := by
  rw [opB, h.add, h.sub, h.mul, h.neg, h.dup, h.pop, h.exch]

set_option maxHeartbeats 1000000 in
theorem isop_spec (w : World) (s : ByteArray) : Calls Try.prog 28 #[.string s] w fun e w' => e = .returned (.bool (opB s)) ∧ w = w' := by
  rcases nm_cases s with h | h | h | h | h | h | h | h
  all_goals
    rw [opB_of h]
    have e1 := h.add
    have e2 := h.sub
    have e3 := h.mul
    have e4 := h.neg
    have e5 := h.dup
    have e6 := h.pop
    have e7 := h.exch
    go_enter Try.func28, Try.ntmps28
    go_wp2
    go_ret
    exact ⟨rfl, rfl⟩

end Go.Proofs.Ytnpbhmeanfolnaa.Opn
