/-
  No cell of these rows narrows 'for every input' (looked for: loops, veiled, ifaces, maps, wideKeys, modest, calm, conditions, laid).
  DERIVED. THE GIVEN ROWS OF THIS SEAT. 6 by the template 'for every input the law returns true; each argument reads behind the call as it read before'; 0 by the template 'total and deterministic' (their statements: YtjmcpijmhfdbiaaTotals.lean).
  GIVEN WITH THE SEED: the statements are not yours to turn. If you find one false, say at which input.
  Laid BY PROGRAM, IN A SANDBOX (cutbox-rows.mjs): the forced cells as the released guide's own fill.sh prints them over the translation bdac91da97eac8c7… (all of the seat's roots in one cut). By AI agents, Wed Nov 11 2026. No macro, syntax, notation, axiom, sorry.
-/
import Derived.Test.YtjmcpijmhfdbiaaChecked
import GoSem.Claim
import GoSem.ClaimJoined
import GoSem.ClaimMapViews
import Derived.JoinedTies
import Derived.KernelRfl
namespace Go.Proofs.Ytjmcpijmhfdbiaa
/- THE CELL 'sum', in the pinned program and in every row, IS THE sha256 OF THE DUMP (.gsa) THAT YtjmcpijmhfdbiaaProg.lean LOADS. Nothing in Lean hashes anything: it is a label: what it is worth is what the hold of that sum in a sandbox is worth. -/
noncomputable def Try.pinned : Pinned := { name := "ytjmcpijmhfdbiaa", sum := "bdac91da97eac8c7098c725a76fb3776c74444442979d87e4649aa67aaafef27", checked := Try.checked }
namespace Rows
def none {H : Type} : Left H := { results := [], args := [] }

/-- 'laws.FnInside': WHATEVER THE INPUT: true; the input reads as it did. -/
def fnInsideSpec : ChangeSpec := { name := "fnInside", fn := fun _ => fun
  | [d] => { results := [.lit (.bool true)], args := [d] }
  | _ => none }
def fnInsideRow : OpenClaim := { program := "ytjmcpijmhfdbiaa", sum := "bdac91da97eac8c7098c725a76fb3776c74444442979d87e4649aa67aaafef27", func := "loop.example/g00987/laws.FnInside", spec := "fnInside", unfollowed := true, recurses := true, apart := false }
def FnInsideSaid : Prop := fnInsideRow.holds Try.pinned (OpenSpec.ofChange fnInsideSpec)

/-- ITS FALSE NEIGHBOUR: 'it returns false'. Refute it at one input. -/
def fnInsideWrong : ChangeSpec := { name := "fnInside", fn := fun _ => fun
  | [d] => { results := [.lit (.bool false)], args := [d] }
  | _ => none }
def FnInsideWrongFalsely : Prop := fnInsideRow.holds Try.pinned (OpenSpec.ofChange fnInsideWrong)

/-- 'laws.FnRectangles': WHATEVER THE INPUT: true; the input reads as it did. -/
def fnRectanglesSpec : ChangeSpec := { name := "fnRectangles", fn := fun _ => fun
  | [d] => { results := [.lit (.bool true)], args := [d] }
  | _ => none }
def fnRectanglesRow : OpenClaim := { program := "ytjmcpijmhfdbiaa", sum := "bdac91da97eac8c7098c725a76fb3776c74444442979d87e4649aa67aaafef27", func := "loop.example/g00987/laws.FnRectangles", spec := "fnRectangles", unfollowed := true, recurses := true, apart := false }
def FnRectanglesSaid : Prop := fnRectanglesRow.holds Try.pinned (OpenSpec.ofChange fnRectanglesSpec)

/-- ITS FALSE NEIGHBOUR: 'it returns false'. Refute it at one input. -/
def fnRectanglesWrong : ChangeSpec := { name := "fnRectangles", fn := fun _ => fun
  | [d] => { results := [.lit (.bool false)], args := [d] }
  | _ => none }
def FnRectanglesWrongFalsely : Prop := fnRectanglesRow.holds Try.pinned (OpenSpec.ofChange fnRectanglesWrong)

/-- 'laws.FnExactInsidePath': WHATEVER THE INPUT: true; the input reads as it did. -/
def fnExactInsidePathSpec : ChangeSpec := { name := "fnExactInsidePath", fn := fun _ => fun
  | [d1, d2, d3] => { results := [.lit (.bool true)], args := [d1, d2, d3] }
  | _ => none }
def fnExactInsidePathRow : OpenClaim := { program := "ytjmcpijmhfdbiaa", sum := "bdac91da97eac8c7098c725a76fb3776c74444442979d87e4649aa67aaafef27", func := "loop.example/g00987/laws.FnExactInsidePath", spec := "fnExactInsidePath", unfollowed := true, recurses := true, apart := false }
def FnExactInsidePathSaid : Prop := fnExactInsidePathRow.holds Try.pinned (OpenSpec.ofChange fnExactInsidePathSpec)

/-- ITS FALSE NEIGHBOUR: 'it returns false'. Refute it at one input. -/
def fnExactInsidePathWrong : ChangeSpec := { name := "fnExactInsidePath", fn := fun _ => fun
  | [d1, d2, d3] => { results := [.lit (.bool false)], args := [d1, d2, d3] }
  | _ => none }
def FnExactInsidePathWrongFalsely : Prop := fnExactInsidePathRow.holds Try.pinned (OpenSpec.ofChange fnExactInsidePathWrong)

/-- 'laws.FnExactAreaTwice': WHATEVER THE INPUT: true; the input reads as it did. -/
def fnExactAreaTwiceSpec : ChangeSpec := { name := "fnExactAreaTwice", fn := fun _ => fun
  | [d] => { results := [.lit (.bool true)], args := [d] }
  | _ => none }
def fnExactAreaTwiceRow : OpenClaim := { program := "ytjmcpijmhfdbiaa", sum := "bdac91da97eac8c7098c725a76fb3776c74444442979d87e4649aa67aaafef27", func := "loop.example/g00987/laws.FnExactAreaTwice", spec := "fnExactAreaTwice", unfollowed := true, recurses := true, apart := false }
def FnExactAreaTwiceSaid : Prop := fnExactAreaTwiceRow.holds Try.pinned (OpenSpec.ofChange fnExactAreaTwiceSpec)

/-- ITS FALSE NEIGHBOUR: 'it returns false'. Refute it at one input. -/
def fnExactAreaTwiceWrong : ChangeSpec := { name := "fnExactAreaTwice", fn := fun _ => fun
  | [d] => { results := [.lit (.bool false)], args := [d] }
  | _ => none }
def FnExactAreaTwiceWrongFalsely : Prop := fnExactAreaTwiceRow.holds Try.pinned (OpenSpec.ofChange fnExactAreaTwiceWrong)

/-- 'laws.FnExactCountInside': WHATEVER THE INPUT: true; the input reads as it did. -/
def fnExactCountInsideSpec : ChangeSpec := { name := "fnExactCountInside", fn := fun _ => fun
  | [d] => { results := [.lit (.bool true)], args := [d] }
  | _ => none }
def fnExactCountInsideRow : OpenClaim := { program := "ytjmcpijmhfdbiaa", sum := "bdac91da97eac8c7098c725a76fb3776c74444442979d87e4649aa67aaafef27", func := "loop.example/g00987/laws.FnExactCountInside", spec := "fnExactCountInside", unfollowed := true, recurses := true, apart := false }
def FnExactCountInsideSaid : Prop := fnExactCountInsideRow.holds Try.pinned (OpenSpec.ofChange fnExactCountInsideSpec)

/-- ITS FALSE NEIGHBOUR: 'it returns false'. Refute it at one input. -/
def fnExactCountInsideWrong : ChangeSpec := { name := "fnExactCountInside", fn := fun _ => fun
  | [d] => { results := [.lit (.bool false)], args := [d] }
  | _ => none }
def FnExactCountInsideWrongFalsely : Prop := fnExactCountInsideRow.holds Try.pinned (OpenSpec.ofChange fnExactCountInsideWrong)

/-- 'laws.FnExactShiftPath': WHATEVER THE INPUT: true; the input reads as it did. -/
def fnExactShiftPathSpec : ChangeSpec := { name := "fnExactShiftPath", fn := fun _ => fun
  | [d1, d2, d3] => { results := [.lit (.bool true)], args := [d1, d2, d3] }
  | _ => none }
def fnExactShiftPathRow : OpenClaim := { program := "ytjmcpijmhfdbiaa", sum := "bdac91da97eac8c7098c725a76fb3776c74444442979d87e4649aa67aaafef27", func := "loop.example/g00987/laws.FnExactShiftPath", spec := "fnExactShiftPath", unfollowed := true, recurses := true, apart := false }
def FnExactShiftPathSaid : Prop := fnExactShiftPathRow.holds Try.pinned (OpenSpec.ofChange fnExactShiftPathSpec)

/-- ITS FALSE NEIGHBOUR: 'it returns false'. Refute it at one input. -/
def fnExactShiftPathWrong : ChangeSpec := { name := "fnExactShiftPath", fn := fun _ => fun
  | [d1, d2, d3] => { results := [.lit (.bool false)], args := [d1, d2, d3] }
  | _ => none }
def FnExactShiftPathWrongFalsely : Prop := fnExactShiftPathRow.holds Try.pinned (OpenSpec.ofChange fnExactShiftPathWrong)

/- THE SECOND FORM. 'bulk': how many values and letters a reading holds, each counted each time it is reached (what is shared counts as often as it is met; a slice's spare places count too). A statement '..UptoSaid' is the law's where the arguments, and the package variables that the reading takes, are together of bulk at most 1048576: NARROWER than '..Said'. Prove '..Said' where nothing that the law and all that it calls make is longer than what came in: it says more and counts as full. Else prove '..UptoSaid'. A law counts once. -/
mutual
def uptoBulk {H : Type} : DataW H → Nat
  | .lit (.string bytes) => bytes.length + 1
  | .lit _ => 1
  | .nil => 1
  | .ptr d => uptoBulk d + 1
  | .slice elems spare => uptoBulkAll elems + uptoBulkAll spare + 1
  | .agg parts => uptoBulkAll parts + 1
  | .iface _ d => uptoBulk d + 1
  | .map entries => uptoBulkEntries entries + 1
  | .held _ => 1
def uptoBulkAll {H : Type} : List (DataW H) → Nat
  | [] => 0
  | d :: r => uptoBulk d + uptoBulkAll r
def uptoBulkEntries {H : Type} : List (Lit × DataW H) → Nat
  | [] => 0
  | x :: r => uptoBulkEntry x + uptoBulkEntries r
def uptoBulkEntry {H : Type} : Lit × DataW H → Nat
  | (.string bytes, d) => bytes.length + uptoBulk d + 1
  | (_, d) => uptoBulk d + 1
 end
def uptoSmall : (H : Type) → List (DataW H) → Bool := fun _ ds => decide (uptoBulkAll ds ≤ 1048576)
def OpenSpec.upto (s : _root_.Go.ChangeSpec) : _root_.Go.OpenSpec := { _root_.Go.OpenSpec.ofChange s with cond := some uptoSmall }

/-- 'laws.FnInside', WHERE WHAT IT READS IS OF BULK AT MOST 1048576: true; the input reads as it did. -/
def fnInsideUptoRow : OpenClaim := { program := "ytjmcpijmhfdbiaa", sum := "bdac91da97eac8c7098c725a76fb3776c74444442979d87e4649aa67aaafef27", func := "loop.example/g00987/laws.FnInside", spec := "fnInside", unfollowed := true, recurses := true, apart := false, narrowed := true }
def FnInsideUptoSaid : Prop := fnInsideUptoRow.holds Try.pinned (OpenSpec.upto fnInsideSpec)

/-- 'laws.FnRectangles', WHERE WHAT IT READS IS OF BULK AT MOST 1048576: true; the input reads as it did. -/
def fnRectanglesUptoRow : OpenClaim := { program := "ytjmcpijmhfdbiaa", sum := "bdac91da97eac8c7098c725a76fb3776c74444442979d87e4649aa67aaafef27", func := "loop.example/g00987/laws.FnRectangles", spec := "fnRectangles", unfollowed := true, recurses := true, apart := false, narrowed := true }
def FnRectanglesUptoSaid : Prop := fnRectanglesUptoRow.holds Try.pinned (OpenSpec.upto fnRectanglesSpec)

/-- 'laws.FnExactInsidePath', WHERE WHAT IT READS IS OF BULK AT MOST 1048576: true; the input reads as it did. -/
def fnExactInsidePathUptoRow : OpenClaim := { program := "ytjmcpijmhfdbiaa", sum := "bdac91da97eac8c7098c725a76fb3776c74444442979d87e4649aa67aaafef27", func := "loop.example/g00987/laws.FnExactInsidePath", spec := "fnExactInsidePath", unfollowed := true, recurses := true, apart := false, narrowed := true }
def FnExactInsidePathUptoSaid : Prop := fnExactInsidePathUptoRow.holds Try.pinned (OpenSpec.upto fnExactInsidePathSpec)

/-- 'laws.FnExactAreaTwice', WHERE WHAT IT READS IS OF BULK AT MOST 1048576: true; the input reads as it did. -/
def fnExactAreaTwiceUptoRow : OpenClaim := { program := "ytjmcpijmhfdbiaa", sum := "bdac91da97eac8c7098c725a76fb3776c74444442979d87e4649aa67aaafef27", func := "loop.example/g00987/laws.FnExactAreaTwice", spec := "fnExactAreaTwice", unfollowed := true, recurses := true, apart := false, narrowed := true }
def FnExactAreaTwiceUptoSaid : Prop := fnExactAreaTwiceUptoRow.holds Try.pinned (OpenSpec.upto fnExactAreaTwiceSpec)

/-- 'laws.FnExactCountInside', WHERE WHAT IT READS IS OF BULK AT MOST 1048576: true; the input reads as it did. -/
def fnExactCountInsideUptoRow : OpenClaim := { program := "ytjmcpijmhfdbiaa", sum := "bdac91da97eac8c7098c725a76fb3776c74444442979d87e4649aa67aaafef27", func := "loop.example/g00987/laws.FnExactCountInside", spec := "fnExactCountInside", unfollowed := true, recurses := true, apart := false, narrowed := true }
def FnExactCountInsideUptoSaid : Prop := fnExactCountInsideUptoRow.holds Try.pinned (OpenSpec.upto fnExactCountInsideSpec)

/-- 'laws.FnExactShiftPath', WHERE WHAT IT READS IS OF BULK AT MOST 1048576: true; the input reads as it did. -/
def fnExactShiftPathUptoRow : OpenClaim := { program := "ytjmcpijmhfdbiaa", sum := "bdac91da97eac8c7098c725a76fb3776c74444442979d87e4649aa67aaafef27", func := "loop.example/g00987/laws.FnExactShiftPath", spec := "fnExactShiftPath", unfollowed := true, recurses := true, apart := false, narrowed := true }
def FnExactShiftPathUptoSaid : Prop := fnExactShiftPathUptoRow.holds Try.pinned (OpenSpec.upto fnExactShiftPathSpec)

end Rows
end Go.Proofs.Ytjmcpijmhfdbiaa
