/-
  The marks of the laws (markText): what the call returns; condition: a number from 1 to 1000000.
-/
import Derived.Test.YtejnfdpckipbeaaKit
import Derived.Deep.RegionHeld3
import Derived.Laws.BytesArg
import Derived.Lib.ItoaNum
import Derived.Lib.ItoaLen
namespace Go.Proofs.Ytejnfdpckipbeaa.Marking
open Go.ChangeShapes Go.WideShapes Go.ChangeAt Go.RowKit
open Kit
set_option linter.unusedVariables false
set_option linter.unusedSimpArgs false
set_option linter.unnecessarySimpa false

/-- The digits of m, none where m is 0. -/
def rest (m : Nat) : List UInt8 := if m = 0 then [] else Lib.decDigits m
theorem rest_step (m : Nat) (h : m ≠ 0) : rest m = rest (m / 10) ++ [UInt8.ofNat (48 + m % 10)] := by
  unfold rest
  rw [if_neg h]
  by_cases h1 : m < 10
  · rw [Lib.decDigits_one h1, if_pos (by omega), Nat.mod_eq_of_lt h1]; rfl
  · rw [Lib.decDigits, dif_neg h1, if_neg (by omega)]
theorem cons_str (c : UInt8) (l : List UInt8) : (({ data := #[c] } : ByteArray) ++ ({ data := l.toArray } : ByteArray)) = { data := (c :: l).toArray } := by
  apply ByteArray.ext
  simp
theorem digits_le {N : Nat} (h1 : N < 18446744073709551616) {m : Nat} {l : List UInt8} (h : rest m ++ l = Lib.decDigits N) : l.length ≤ 20 := by
  have h2 : (rest m ++ l).length = Lib.nDigits N := by rw [h, Lib.decDigits_length]
  rw [List.length_append] at h2
  have := Lib.nDigits_le20 N h1
  omega
theorem rest_next {N m : Nat} {l : List UInt8} (hm : m ≠ 0) (h : rest m ++ l = Lib.decDigits N) : rest (m / 10) ++ (UInt8.ofNat (48 + m % 10) :: l) = Lib.decDigits N := by
  rw [← h, rest_step m hm, List.append_assoc]; rfl

theorem drewN_below {B : Nat} {a w : World} (h : Below B a w) (n : Nat) : Below B a (w.drewN n) := ⟨h.os, h.tape, h.output, h.size, h.block⟩


/-- markText's text of k. -/
def mt (k : Nat) : ByteArray := ⟨(109 :: Lib.decDigits k).toArray⟩


end Go.Proofs.Ytejnfdpckipbeaa.Marking
