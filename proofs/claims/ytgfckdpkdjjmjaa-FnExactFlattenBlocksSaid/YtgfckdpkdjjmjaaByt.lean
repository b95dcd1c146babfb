/-
  A string's bytes as numbers; a space behind its end.
-/
import Derived.Test.YtgfckdpkdjjmjaaRows
namespace Go.Proofs.Ytgfckdpkdjjmjaa.Split
set_option linter.unusedVariables false

/-- Byte k of the line; a space behind its end. -/
def byt (s : ByteArray) (k : Nat) : Int := if h : k < s.size then (s[k].toNat : Int) else 32
theorem byt_in (s : ByteArray) (k : Nat) (h : k < s.size) : byt s k = (s[k].toNat : Int) := dif_pos h
theorem byt_end (s : ByteArray) : byt s s.size = 32 := dif_neg (Nat.lt_irrefl _)

end Go.Proofs.Ytgfckdpkdjjmjaa.Split
