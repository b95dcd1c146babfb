/-
  The model's StackOp for every name and list: what the call returns and leaves, as functions of the list and the name; condition: at most 1048576 numbers.
-/
import Derived.Test.YtnpbhmeanfolnaaSOp
namespace Go.Proofs.Ytnpbhmeanfolnaa.SOp
open Go.ChangeShapes Go.WideShapes Go.ChangeAt Go.RowKit
open Kit Slabs Ints Stack Push Take Opn
set_option linter.unusedVariables false
set_option linter.unusedSimpArgs false
set_option linter.unnecessarySimpa false
set_option maxRecDepth 100000

/-- How many numbers an operation takes. -/
def needN (s : ByteArray) : Nat := if ((s.toList == [110, 101, 103]) || (s.toList == [100, 117, 112]) || (s.toList == [112, 111, 112])) = true then 1 else 2

/-- The list that an operation makes of X's first n numbers. -/
def mkL (X : Nat → Int) (n : Nat) (s : ByteArray) : (Nat → Int) × Nat :=
  if (s.toList == [97, 100, 100]) = true then (pt X (n - 2) (X (n - 2) + X (n - 1)), n - 1)
  else if (s.toList == [115, 117, 98]) = true then (pt X (n - 2) (X (n - 2) - X (n - 1)), n - 1)
  else if (s.toList == [109, 117, 108]) = true then (pt X (n - 2) (X (n - 2) * X (n - 1)), n - 1)
  else if (s.toList == [110, 101, 103]) = true then (pt X (n - 1) (-X (n - 1)), n)
  else if (s.toList == [100, 117, 112]) = true then (pt (pt X (n - 1) (X (n - 1))) n (X (n - 1)), n + 1)
  else if (s.toList == [112, 111, 112]) = true then (X, n - 1)
  else if (s.toList == [101, 120, 99, 104]) = true then (pt (pt X (n - 2) (X (n - 1))) (n - 1) (X (n - 2)), n)
  else (X, n)

def soB (X : Nat → Int) (n : Nat) (s : ByteArray) : Bool := taB X n (needN s) && opB s && stB (mkL X n s).1 (mkL X n s).2
def soY (X : Nat → Int) (n : Nat) (s : ByteArray) : Nat → Int := if soB X n s = true then (mkL X n s).1 else X
def soM (X : Nat → Int) (n : Nat) (s : ByteArray) : Nat := if soB X n s = true then (mkL X n s).2 else n

theorem soM_le (X : Nat → Int) (n : Nat) (s : ByteArray) : soM X n s ≤ n + 1 := by
  unfold soM mkL
  repeat' split
  all_goals first | omega | (simp only; omega)

theorem so_op {X Y : Nat → Int} {n m : Nat} {s : ByteArray} (hmk : mkL X n s = (Y, m)) (ht : taB X n (needN s) = true) (ho : opB s = true) (w : World) (e : Ending) (w' : World) (h : OpLeft X n Y m w e w') : SoLeft (soB X n s) (soY X n s) (soM X n s) w e w' := by
  have hb : soB X n s = stB Y m := by simp [soB, ht, ho, hmk]
  unfold soY soM
  rw [hb, hmk]
  exact h

theorem so_no {X : Nat → Int} {n : Nat} {s : ByteArray} (h : taB X n (needN s) = false ∨ opB s = false) (w : World) (e : Ending) (w' : World) (hl : SoLeft false X n w e w') : SoLeft (soB X n s) (soY X n s) (soM X n s) w e w' := by
  have hb : soB X n s = false := by rcases h with h | h <;> simp [soB, h]
  unfold soY soM
  rw [hb]
  exact hl

theorem ta_parts {X : Nat → Int} {n k : Nat} (h : taB X n (k : Int) = true) : stB X n = true ∧ k ≤ n := by
  simp only [taB, Bool.and_eq_true, decide_eq_true_eq] at h
  exact ⟨h.1, by omega⟩

theorem need_of {s : ByteArray} {a b c d e f g : Bool} (h : Nm s a b c d e f g) : needN s = if (d || e || f) = true then 1 else 2 := by
  unfold needN; rw [h.neg, h.dup, h.pop]

theorem so_spec (w : World) (v : Value) (n : Nat) (X : Nat → Int) (s : ByteArray) (hn : n ≤ 1048576) (h : Rd w v n X) :
    Calls Try.prog 29 #[v, .string s] w (SoLeft (soB X n s) (soY X n s) (soM X n s) w) := by
  rcases nm_cases s with hm | hm | hm | hm | hm | hm | hm | hm
  all_goals
    have hneed := need_of hm
    simp only [Bool.or_false, Bool.or_true, Bool.false_or, Bool.true_or, if_true, Bool.false_eq_true, if_false] at hneed
    have hop := opB_of hm
    simp only [Bool.or_false, Bool.or_true, Bool.false_or, Bool.true_or] at hop
    cases ht : taB X n (needN s)
    · exact (sop_no w v n X s hn h hm false (opB s) (by have h2 := ht; rw [hneed] at h2; exact h2) rfl (.inl rfl)).mono (so_no (.inl ht) w)
  all_goals
    obtain ⟨hst, hk⟩ := ta_parts ht
    rw [hneed] at hk
  · obtain ⟨j, rfl⟩ : ∃ j, n = j + 2 := ⟨n - 2, by omega⟩
    exact (sop_add w v j X s hn h hm hst).mono (so_op (by simp only [mkL, hm.add, if_true]; rfl) ht hop w)
  · obtain ⟨j, rfl⟩ : ∃ j, n = j + 2 := ⟨n - 2, by omega⟩
    exact (sop_sub w v j X s hn h hm hst).mono (so_op (by simp only [mkL, hm.add, hm.sub, if_true, Bool.false_eq_true, if_false]; rfl) ht hop w)
  · obtain ⟨j, rfl⟩ : ∃ j, n = j + 2 := ⟨n - 2, by omega⟩
    exact (sop_mul w v j X s hn h hm hst).mono (so_op (by simp only [mkL, hm.add, hm.sub, hm.mul, if_true, Bool.false_eq_true, if_false]; rfl) ht hop w)
  · obtain ⟨j, rfl⟩ : ∃ j, n = j + 1 := ⟨n - 1, by omega⟩
    exact (sop_neg w v j X s hn h hm hst).mono (so_op (by simp only [mkL, hm.add, hm.sub, hm.mul, hm.neg, if_true, Bool.false_eq_true, if_false]; rfl) ht hop w)
  · obtain ⟨j, rfl⟩ : ∃ j, n = j + 1 := ⟨n - 1, by omega⟩
    exact (sop_dup w v j X s hn h hm hst).mono (so_op (by simp only [mkL, hm.add, hm.sub, hm.mul, hm.neg, hm.dup, if_true, Bool.false_eq_true, if_false]; rfl) ht hop w)
  · obtain ⟨j, rfl⟩ : ∃ j, n = j + 1 := ⟨n - 1, by omega⟩
    exact (sop_pop w v j X s hn h hm hst).mono (so_op (by simp only [mkL, hm.add, hm.sub, hm.mul, hm.neg, hm.dup, hm.pop, if_true, Bool.false_eq_true, if_false]; rfl) ht hop w)
  · obtain ⟨j, rfl⟩ : ∃ j, n = j + 2 := ⟨n - 2, by omega⟩
    exact (sop_exch w v j X s hn h hm hst).mono (so_op (by simp only [mkL, hm.add, hm.sub, hm.mul, hm.neg, hm.dup, hm.pop, hm.exch, if_true, Bool.false_eq_true, if_false]; rfl) ht hop w)
  · exact (sop_no w v n X s hn h hm true false (by have h2 := ht; rw [hneed] at h2; exact h2) hop (.inr rfl)).mono (so_no (.inr hop) w)

end Go.Proofs.Ytnpbhmeanfolnaa.SOp
