/-
  No cell of these rows narrows 'for every input' (looked for: loops, veiled, ifaces, maps, wideKeys, modest, calm, conditions, laid).
  DERIVED. THE GIVEN ROWS OF THIS SEAT. 7 by the template 'for every input the law returns true; each argument reads behind the call as it read before'; 0 by the template 'total and deterministic' (their statements: YtifmdgncgokikaaTotals.lean).
  GIVEN WITH THE SEED: the statements are not yours to turn. If you find one false, say at which input.
  Laid BY PROGRAM, IN A SANDBOX (cutbox-rows.mjs): the forced cells as the released guide's own fill.sh prints them over the translation a202375ab07c98c2… (all of the seat's roots in one cut). By AI agents, Wed Nov 11 2026. No macro, syntax, notation, axiom, sorry.
-/
import Derived.Test.YtifmdgncgokikaaChecked
import GoSem.Claim
import GoSem.ClaimJoined
import GoSem.ClaimMapViews
import Derived.JoinedTies
import Derived.KernelRfl
namespace Go.Proofs.Ytifmdgncgokikaa
/- THE CELL 'sum', in the pinned program and in every row, IS THE sha256 OF THE DUMP (.gsa) THAT YtifmdgncgokikaaProg.lean LOADS. Nothing in Lean hashes anything: it is a label: what it is worth is what the hold of that sum in a sandbox is worth. -/
noncomputable def Try.pinned : Pinned := { name := "ytifmdgncgokikaa", sum := "a202375ab07c98c28553ebb7775e5e5552b00bc2d095bb1b48bcd0f13b3d2a72", checked := Try.checked }
namespace Rows
def none {H : Type} : Left H := { results := [], args := [] }

/-- 'laws.FnPaints': WHATEVER THE INPUT: true; the input reads as it did. -/
def fnPaintsSpec : ChangeSpec := { name := "fnPaints", fn := fun _ => fun
  | [d] => { results := [.lit (.bool true)], args := [d] }
  | _ => none }
def fnPaintsRow : OpenClaim := { program := "ytifmdgncgokikaa", sum := "a202375ab07c98c28553ebb7775e5e5552b00bc2d095bb1b48bcd0f13b3d2a72", func := "loop.example/g00987/laws.FnPaints", spec := "fnPaints", inPlace := ["slices.overlaps[int]"], unfollowed := true, recurses := true, apart := false }
def FnPaintsSaid : Prop := fnPaintsRow.holds Try.pinned (OpenSpec.ofChange fnPaintsSpec)

/-- ITS FALSE NEIGHBOUR: 'it returns false'. Refute it at one input. -/
def fnPaintsWrong : ChangeSpec := { name := "fnPaints", fn := fun _ => fun
  | [d] => { results := [.lit (.bool false)], args := [d] }
  | _ => none }
def FnPaintsWrongFalsely : Prop := fnPaintsRow.holds Try.pinned (OpenSpec.ofChange fnPaintsWrong)

/-- 'laws.FnPageDots': WHATEVER THE INPUT: true; the input reads as it did. -/
def fnPageDotsSpec : ChangeSpec := { name := "fnPageDots", fn := fun _ => fun
  | [d] => { results := [.lit (.bool true)], args := [d] }
  | _ => none }
def fnPageDotsRow : OpenClaim := { program := "ytifmdgncgokikaa", sum := "a202375ab07c98c28553ebb7775e5e5552b00bc2d095bb1b48bcd0f13b3d2a72", func := "loop.example/g00987/laws.FnPageDots", spec := "fnPageDots", inPlace := ["slices.overlaps[int]"], unfollowed := true, recurses := true, apart := false }
def FnPageDotsSaid : Prop := fnPageDotsRow.holds Try.pinned (OpenSpec.ofChange fnPageDotsSpec)

/-- ITS FALSE NEIGHBOUR: 'it returns false'. Refute it at one input. -/
def fnPageDotsWrong : ChangeSpec := { name := "fnPageDots", fn := fun _ => fun
  | [d] => { results := [.lit (.bool false)], args := [d] }
  | _ => none }
def FnPageDotsWrongFalsely : Prop := fnPageDotsRow.holds Try.pinned (OpenSpec.ofChange fnPageDotsWrong)

/-- 'laws.FnExactRowsOk': WHATEVER THE INPUT: true; the input reads as it did. -/
def fnExactRowsOkSpec : ChangeSpec := { name := "fnExactRowsOk", fn := fun _ => fun
  | [d] => { results := [.lit (.bool true)], args := [d] }
  | _ => none }
def fnExactRowsOkRow : OpenClaim := { program := "ytifmdgncgokikaa", sum := "a202375ab07c98c28553ebb7775e5e5552b00bc2d095bb1b48bcd0f13b3d2a72", func := "loop.example/g00987/laws.FnExactRowsOk", spec := "fnExactRowsOk", unfollowed := true, recurses := true, apart := false }
def FnExactRowsOkSaid : Prop := fnExactRowsOkRow.holds Try.pinned (OpenSpec.ofChange fnExactRowsOkSpec)

/-- ITS FALSE NEIGHBOUR: 'it returns false'. Refute it at one input. -/
def fnExactRowsOkWrong : ChangeSpec := { name := "fnExactRowsOk", fn := fun _ => fun
  | [d] => { results := [.lit (.bool false)], args := [d] }
  | _ => none }
def FnExactRowsOkWrongFalsely : Prop := fnExactRowsOkRow.holds Try.pinned (OpenSpec.ofChange fnExactRowsOkWrong)

/-- 'laws.FnExactWhiteRows': WHATEVER THE INPUT: true; the input reads as it did. -/
def fnExactWhiteRowsSpec : ChangeSpec := { name := "fnExactWhiteRows", fn := fun _ => fun
  | [d] => { results := [.lit (.bool true)], args := [d] }
  | _ => none }
def fnExactWhiteRowsRow : OpenClaim := { program := "ytifmdgncgokikaa", sum := "a202375ab07c98c28553ebb7775e5e5552b00bc2d095bb1b48bcd0f13b3d2a72", func := "loop.example/g00987/laws.FnExactWhiteRows", spec := "fnExactWhiteRows", apart := false }
def FnExactWhiteRowsSaid : Prop := fnExactWhiteRowsRow.holds Try.pinned (OpenSpec.ofChange fnExactWhiteRowsSpec)

/-- ITS FALSE NEIGHBOUR: 'it returns false'. Refute it at one input. -/
def fnExactWhiteRowsWrong : ChangeSpec := { name := "fnExactWhiteRows", fn := fun _ => fun
  | [d] => { results := [.lit (.bool false)], args := [d] }
  | _ => none }
def FnExactWhiteRowsWrongFalsely : Prop := fnExactWhiteRowsRow.holds Try.pinned (OpenSpec.ofChange fnExactWhiteRowsWrong)

/-- 'laws.FnExactPaintObject': WHATEVER THE INPUT: true; the input reads as it did. -/
def fnExactPaintObjectSpec : ChangeSpec := { name := "fnExactPaintObject", fn := fun _ => fun
  | [d1, d2, d3] => { results := [.lit (.bool true)], args := [d1, d2, d3] }
  | _ => none }
def fnExactPaintObjectRow : OpenClaim := { program := "ytifmdgncgokikaa", sum := "a202375ab07c98c28553ebb7775e5e5552b00bc2d095bb1b48bcd0f13b3d2a72", func := "loop.example/g00987/laws.FnExactPaintObject", spec := "fnExactPaintObject", inPlace := ["slices.overlaps[int]"], unfollowed := true, recurses := true, apart := false }
def FnExactPaintObjectSaid : Prop := fnExactPaintObjectRow.holds Try.pinned (OpenSpec.ofChange fnExactPaintObjectSpec)

/-- ITS FALSE NEIGHBOUR: 'it returns false'. Refute it at one input. -/
def fnExactPaintObjectWrong : ChangeSpec := { name := "fnExactPaintObject", fn := fun _ => fun
  | [d1, d2, d3] => { results := [.lit (.bool false)], args := [d1, d2, d3] }
  | _ => none }
def FnExactPaintObjectWrongFalsely : Prop := fnExactPaintObjectRow.holds Try.pinned (OpenSpec.ofChange fnExactPaintObjectWrong)

/-- 'laws.FnExactSameRows': WHATEVER THE INPUT: true; the input reads as it did. -/
def fnExactSameRowsSpec : ChangeSpec := { name := "fnExactSameRows", fn := fun _ => fun
  | [d1, d2] => { results := [.lit (.bool true)], args := [d1, d2] }
  | _ => none }
def fnExactSameRowsRow : OpenClaim := { program := "ytifmdgncgokikaa", sum := "a202375ab07c98c28553ebb7775e5e5552b00bc2d095bb1b48bcd0f13b3d2a72", func := "loop.example/g00987/laws.FnExactSameRows", spec := "fnExactSameRows", unfollowed := true, recurses := true, apart := false }
def FnExactSameRowsSaid : Prop := fnExactSameRowsRow.holds Try.pinned (OpenSpec.ofChange fnExactSameRowsSpec)

/-- ITS FALSE NEIGHBOUR: 'it returns false'. Refute it at one input. -/
def fnExactSameRowsWrong : ChangeSpec := { name := "fnExactSameRows", fn := fun _ => fun
  | [d1, d2] => { results := [.lit (.bool false)], args := [d1, d2] }
  | _ => none }
def FnExactSameRowsWrongFalsely : Prop := fnExactSameRowsRow.holds Try.pinned (OpenSpec.ofChange fnExactSameRowsWrong)

/-- 'laws.FnExactCountValue': WHATEVER THE INPUT: true; the input reads as it did. -/
def fnExactCountValueSpec : ChangeSpec := { name := "fnExactCountValue", fn := fun _ => fun
  | [d1, d2] => { results := [.lit (.bool true)], args := [d1, d2] }
  | _ => none }
def fnExactCountValueRow : OpenClaim := { program := "ytifmdgncgokikaa", sum := "a202375ab07c98c28553ebb7775e5e5552b00bc2d095bb1b48bcd0f13b3d2a72", func := "loop.example/g00987/laws.FnExactCountValue", spec := "fnExactCountValue", apart := false }
def FnExactCountValueSaid : Prop := fnExactCountValueRow.holds Try.pinned (OpenSpec.ofChange fnExactCountValueSpec)

/-- ITS FALSE NEIGHBOUR: 'it returns false'. Refute it at one input. -/
def fnExactCountValueWrong : ChangeSpec := { name := "fnExactCountValue", fn := fun _ => fun
  | [d1, d2] => { results := [.lit (.bool false)], args := [d1, d2] }
  | _ => none }
def FnExactCountValueWrongFalsely : Prop := fnExactCountValueRow.holds Try.pinned (OpenSpec.ofChange fnExactCountValueWrong)

/- THE SECOND FORM. 'bulk': how many values and letters a reading holds, each counted each time it is reached (what is shared counts as often as it is met; a slice's spare places count too). A statement '..UptoSaid' is the law's where the arguments, and the package variables that the reading takes, are together of bulk at most 1048576: NARROWER than '..Said'. Prove '..Said' where nothing that the law and all that it calls make is longer than what came in: it says more and counts as full. Else prove '..UptoSaid'. A law counts once. -/
mutual
def uptoBulk {H : Type} : DataW H → Nat
  | .lit (.string bytes) => bytes.length + 1
  | .lit _ => 1
  | .nil => 1
  | .ptr d => uptoBulk d + 1
  | .slice elems spare => uptoBulkAll elems + uptoBulkAll spare + 1
  | .agg parts => uptoBulkAll parts + 1
  | .iface _ d => uptoBulk d + 1
  | .map entries => uptoBulkEntries entries + 1
  | .held _ => 1
def uptoBulkAll {H : Type} : List (DataW H) → Nat
  | [] => 0
  | d :: r => uptoBulk d + uptoBulkAll r
def uptoBulkEntries {H : Type} : List (Lit × DataW H) → Nat
  | [] => 0
  | x :: r => uptoBulkEntry x + uptoBulkEntries r
def uptoBulkEntry {H : Type} : Lit × DataW H → Nat
  | (.string bytes, d) => bytes.length + uptoBulk d + 1
  | (_, d) => uptoBulk d + 1
 end
def uptoSmall : (H : Type) → List (DataW H) → Bool := fun _ ds => decide (uptoBulkAll ds ≤ 1048576)
def OpenSpec.upto (s : _root_.Go.ChangeSpec) : _root_.Go.OpenSpec := { _root_.Go.OpenSpec.ofChange s with cond := some uptoSmall }

/-- 'laws.FnPaints', WHERE WHAT IT READS IS OF BULK AT MOST 1048576: true; the input reads as it did. -/
def fnPaintsUptoRow : OpenClaim := { program := "ytifmdgncgokikaa", sum := "a202375ab07c98c28553ebb7775e5e5552b00bc2d095bb1b48bcd0f13b3d2a72", func := "loop.example/g00987/laws.FnPaints", spec := "fnPaints", inPlace := ["slices.overlaps[int]"], unfollowed := true, recurses := true, apart := false, narrowed := true }
def FnPaintsUptoSaid : Prop := fnPaintsUptoRow.holds Try.pinned (OpenSpec.upto fnPaintsSpec)

/-- 'laws.FnPageDots', WHERE WHAT IT READS IS OF BULK AT MOST 1048576: true; the input reads as it did. -/
def fnPageDotsUptoRow : OpenClaim := { program := "ytifmdgncgokikaa", sum := "a202375ab07c98c28553ebb7775e5e5552b00bc2d095bb1b48bcd0f13b3d2a72", func := "loop.example/g00987/laws.FnPageDots", spec := "fnPageDots", inPlace := ["slices.overlaps[int]"], unfollowed := true, recurses := true, apart := false, narrowed := true }
def FnPageDotsUptoSaid : Prop := fnPageDotsUptoRow.holds Try.pinned (OpenSpec.upto fnPageDotsSpec)

/-- 'laws.FnExactRowsOk', WHERE WHAT IT READS IS OF BULK AT MOST 1048576: true; the input reads as it did. -/
def fnExactRowsOkUptoRow : OpenClaim := { program := "ytifmdgncgokikaa", sum := "a202375ab07c98c28553ebb7775e5e5552b00bc2d095bb1b48bcd0f13b3d2a72", func := "loop.example/g00987/laws.FnExactRowsOk", spec := "fnExactRowsOk", unfollowed := true, recurses := true, apart := false, narrowed := true }
def FnExactRowsOkUptoSaid : Prop := fnExactRowsOkUptoRow.holds Try.pinned (OpenSpec.upto fnExactRowsOkSpec)

/-- 'laws.FnExactWhiteRows', WHERE WHAT IT READS IS OF BULK AT MOST 1048576: true; the input reads as it did. -/
def fnExactWhiteRowsUptoRow : OpenClaim := { program := "ytifmdgncgokikaa", sum := "a202375ab07c98c28553ebb7775e5e5552b00bc2d095bb1b48bcd0f13b3d2a72", func := "loop.example/g00987/laws.FnExactWhiteRows", spec := "fnExactWhiteRows", apart := false, narrowed := true }
def FnExactWhiteRowsUptoSaid : Prop := fnExactWhiteRowsUptoRow.holds Try.pinned (OpenSpec.upto fnExactWhiteRowsSpec)

/-- 'laws.FnExactPaintObject', WHERE WHAT IT READS IS OF BULK AT MOST 1048576: true; the input reads as it did. -/
def fnExactPaintObjectUptoRow : OpenClaim := { program := "ytifmdgncgokikaa", sum := "a202375ab07c98c28553ebb7775e5e5552b00bc2d095bb1b48bcd0f13b3d2a72", func := "loop.example/g00987/laws.FnExactPaintObject", spec := "fnExactPaintObject", inPlace := ["slices.overlaps[int]"], unfollowed := true, recurses := true, apart := false, narrowed := true }
def FnExactPaintObjectUptoSaid : Prop := fnExactPaintObjectUptoRow.holds Try.pinned (OpenSpec.upto fnExactPaintObjectSpec)

/-- 'laws.FnExactSameRows', WHERE WHAT IT READS IS OF BULK AT MOST 1048576: true; the input reads as it did. -/
def fnExactSameRowsUptoRow : OpenClaim := { program := "ytifmdgncgokikaa", sum := "a202375ab07c98c28553ebb7775e5e5552b00bc2d095bb1b48bcd0f13b3d2a72", func := "loop.example/g00987/laws.FnExactSameRows", spec := "fnExactSameRows", unfollowed := true, recurses := true, apart := false, narrowed := true }
def FnExactSameRowsUptoSaid : Prop := fnExactSameRowsUptoRow.holds Try.pinned (OpenSpec.upto fnExactSameRowsSpec)

/-- 'laws.FnExactCountValue', WHERE WHAT IT READS IS OF BULK AT MOST 1048576: true; the input reads as it did. -/
def fnExactCountValueUptoRow : OpenClaim := { program := "ytifmdgncgokikaa", sum := "a202375ab07c98c28553ebb7775e5e5552b00bc2d095bb1b48bcd0f13b3d2a72", func := "loop.example/g00987/laws.FnExactCountValue", spec := "fnExactCountValue", apart := false, narrowed := true }
def FnExactCountValueUptoSaid : Prop := fnExactCountValueUptoRow.holds Try.pinned (OpenSpec.upto fnExactCountValueSpec)

end Rows
end Go.Proofs.Ytifmdgncgokikaa
