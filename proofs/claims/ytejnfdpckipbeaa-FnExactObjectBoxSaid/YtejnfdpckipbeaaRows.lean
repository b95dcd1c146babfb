/-
  No cell of these rows narrows 'for every input' (looked for: loops, veiled, ifaces, maps, wideKeys, modest, calm, conditions, laid).
  DERIVED. THE GIVEN ROWS OF THIS SEAT. 7 by the template 'for every input the law returns true; each argument reads behind the call as it read before'; 0 by the template 'total and deterministic' (their statements: YtejnfdpckipbeaaTotals.lean).
  GIVEN WITH THE SEED: the statements are not yours to turn. If you find one false, say at which input.
  Laid BY PROGRAM, IN A SANDBOX (cutbox-rows.mjs): the forced cells as the released guide's own fill.sh prints them over the translation 4d47daf2fb85a36a… (all of the seat's roots in one cut). By AI agents, Wed Nov 11 2026. No macro, syntax, notation, axiom, sorry.
-/
import Derived.Test.YtejnfdpckipbeaaChecked
import GoSem.Claim
import GoSem.ClaimJoined
import GoSem.ClaimMapViews
import Derived.JoinedTies
import Derived.KernelRfl
namespace Go.Proofs.Ytejnfdpckipbeaa
/- THE CELL 'sum', in the pinned program and in every row, IS THE sha256 OF THE DUMP (.gsa) THAT YtejnfdpckipbeaaProg.lean LOADS. Nothing in Lean hashes anything: it is a label: what it is worth is what the hold of that sum in a sandbox is worth. -/
noncomputable def Try.pinned : Pinned := { name := "ytejnfdpckipbeaa", sum := "4d47daf2fb85a36a83d8e2dbaa59e3cc1ccbd87e4ca6ffafc1f66eb4e6dfae26", checked := Try.checked }
namespace Rows
def none {H : Type} : Left H := { results := [], args := [] }

/-- 'laws.FnObjects': WHATEVER THE INPUT: true; the input reads as it did. -/
def fnObjectsSpec : ChangeSpec := { name := "fnObjects", fn := fun _ => fun
  | [d] => { results := [.lit (.bool true)], args := [d] }
  | _ => none }
def fnObjectsRow : OpenClaim := { program := "ytejnfdpckipbeaa", sum := "4d47daf2fb85a36a83d8e2dbaa59e3cc1ccbd87e4ca6ffafc1f66eb4e6dfae26", func := "loop.example/g00987/laws.FnObjects", spec := "fnObjects", inPlace := ["slices.overlaps[int]"], unfollowed := true, recurses := true, apart := false }
def FnObjectsSaid : Prop := fnObjectsRow.holds Try.pinned (OpenSpec.ofChange fnObjectsSpec)

/-- ITS FALSE NEIGHBOUR: 'it returns false'. Refute it at one input. -/
def fnObjectsWrong : ChangeSpec := { name := "fnObjects", fn := fun _ => fun
  | [d] => { results := [.lit (.bool false)], args := [d] }
  | _ => none }
def FnObjectsWrongFalsely : Prop := fnObjectsRow.holds Try.pinned (OpenSpec.ofChange fnObjectsWrong)

/-- 'laws.FnExactNewPage': WHATEVER THE INPUT: true; the input reads as it did. -/
def fnExactNewPageSpec : ChangeSpec := { name := "fnExactNewPage", fn := fun _ => fun
  | [] => { results := [.lit (.bool true)], args := [] }
  | _ => none }
def fnExactNewPageRow : OpenClaim := { program := "ytejnfdpckipbeaa", sum := "4d47daf2fb85a36a83d8e2dbaa59e3cc1ccbd87e4ca6ffafc1f66eb4e6dfae26", func := "loop.example/g00987/laws.FnExactNewPage", spec := "fnExactNewPage", apart := false }
def FnExactNewPageSaid : Prop := fnExactNewPageRow.holds Try.pinned (OpenSpec.ofChange fnExactNewPageSpec)

/-- ITS FALSE NEIGHBOUR: 'it returns false'. Refute it at one input. -/
def fnExactNewPageWrong : ChangeSpec := { name := "fnExactNewPage", fn := fun _ => fun
  | [] => { results := [.lit (.bool false)], args := [] }
  | _ => none }
def FnExactNewPageWrongFalsely : Prop := fnExactNewPageRow.holds Try.pinned (OpenSpec.ofChange fnExactNewPageWrong)

/-- 'laws.FnExactObjectOk': WHATEVER THE INPUT: true; the input reads as it did. -/
def fnExactObjectOkSpec : ChangeSpec := { name := "fnExactObjectOk", fn := fun _ => fun
  | [d] => { results := [.lit (.bool true)], args := [d] }
  | _ => none }
def fnExactObjectOkRow : OpenClaim := { program := "ytejnfdpckipbeaa", sum := "4d47daf2fb85a36a83d8e2dbaa59e3cc1ccbd87e4ca6ffafc1f66eb4e6dfae26", func := "loop.example/g00987/laws.FnExactObjectOk", spec := "fnExactObjectOk", unfollowed := true, recurses := true, apart := false }
def FnExactObjectOkSaid : Prop := fnExactObjectOkRow.holds Try.pinned (OpenSpec.ofChange fnExactObjectOkSpec)

/-- ITS FALSE NEIGHBOUR: 'it returns false'. Refute it at one input. -/
def fnExactObjectOkWrong : ChangeSpec := { name := "fnExactObjectOk", fn := fun _ => fun
  | [d] => { results := [.lit (.bool false)], args := [d] }
  | _ => none }
def FnExactObjectOkWrongFalsely : Prop := fnExactObjectOkRow.holds Try.pinned (OpenSpec.ofChange fnExactObjectOkWrong)

/-- 'laws.FnExactObjectBox': WHATEVER THE INPUT: true; the input reads as it did. -/
def fnExactObjectBoxSpec : ChangeSpec := { name := "fnExactObjectBox", fn := fun _ => fun
  | [d] => { results := [.lit (.bool true)], args := [d] }
  | _ => none }
def fnExactObjectBoxRow : OpenClaim := { program := "ytejnfdpckipbeaa", sum := "4d47daf2fb85a36a83d8e2dbaa59e3cc1ccbd87e4ca6ffafc1f66eb4e6dfae26", func := "loop.example/g00987/laws.FnExactObjectBox", spec := "fnExactObjectBox", unfollowed := true, recurses := true, apart := false }
def FnExactObjectBoxSaid : Prop := fnExactObjectBoxRow.holds Try.pinned (OpenSpec.ofChange fnExactObjectBoxSpec)

/-- ITS FALSE NEIGHBOUR: 'it returns false'. Refute it at one input. -/
def fnExactObjectBoxWrong : ChangeSpec := { name := "fnExactObjectBox", fn := fun _ => fun
  | [d] => { results := [.lit (.bool false)], args := [d] }
  | _ => none }
def FnExactObjectBoxWrongFalsely : Prop := fnExactObjectBoxRow.holds Try.pinned (OpenSpec.ofChange fnExactObjectBoxWrong)

/-- 'laws.FnExactObjectRow': WHATEVER THE INPUT: true; the input reads as it did. -/
def fnExactObjectRowSpec : ChangeSpec := { name := "fnExactObjectRow", fn := fun _ => fun
  | [d1, d2] => { results := [.lit (.bool true)], args := [d1, d2] }
  | _ => none }
def fnExactObjectRowRow : OpenClaim := { program := "ytejnfdpckipbeaa", sum := "4d47daf2fb85a36a83d8e2dbaa59e3cc1ccbd87e4ca6ffafc1f66eb4e6dfae26", func := "loop.example/g00987/laws.FnExactObjectRow", spec := "fnExactObjectRow", inPlace := ["slices.overlaps[int]"], unfollowed := true, recurses := true, apart := false }
def FnExactObjectRowSaid : Prop := fnExactObjectRowRow.holds Try.pinned (OpenSpec.ofChange fnExactObjectRowSpec)

/-- ITS FALSE NEIGHBOUR: 'it returns false'. Refute it at one input. -/
def fnExactObjectRowWrong : ChangeSpec := { name := "fnExactObjectRow", fn := fun _ => fun
  | [d1, d2] => { results := [.lit (.bool false)], args := [d1, d2] }
  | _ => none }
def FnExactObjectRowWrongFalsely : Prop := fnExactObjectRowRow.holds Try.pinned (OpenSpec.ofChange fnExactObjectRowWrong)

/-- 'laws.FnExactObjectDots': WHATEVER THE INPUT: true; the input reads as it did. -/
def fnExactObjectDotsSpec : ChangeSpec := { name := "fnExactObjectDots", fn := fun _ => fun
  | [d] => { results := [.lit (.bool true)], args := [d] }
  | _ => none }
def fnExactObjectDotsRow : OpenClaim := { program := "ytejnfdpckipbeaa", sum := "4d47daf2fb85a36a83d8e2dbaa59e3cc1ccbd87e4ca6ffafc1f66eb4e6dfae26", func := "loop.example/g00987/laws.FnExactObjectDots", spec := "fnExactObjectDots", inPlace := ["slices.overlaps[int]"], unfollowed := true, recurses := true, apart := false }
def FnExactObjectDotsSaid : Prop := fnExactObjectDotsRow.holds Try.pinned (OpenSpec.ofChange fnExactObjectDotsSpec)

/-- ITS FALSE NEIGHBOUR: 'it returns false'. Refute it at one input. -/
def fnExactObjectDotsWrong : ChangeSpec := { name := "fnExactObjectDots", fn := fun _ => fun
  | [d] => { results := [.lit (.bool false)], args := [d] }
  | _ => none }
def FnExactObjectDotsWrongFalsely : Prop := fnExactObjectDotsRow.holds Try.pinned (OpenSpec.ofChange fnExactObjectDotsWrong)

/-- 'laws.FnExactMoveObject': WHATEVER THE INPUT: true; the input reads as it did. -/
def fnExactMoveObjectSpec : ChangeSpec := { name := "fnExactMoveObject", fn := fun _ => fun
  | [d1, d2, d3] => { results := [.lit (.bool true)], args := [d1, d2, d3] }
  | _ => none }
def fnExactMoveObjectRow : OpenClaim := { program := "ytejnfdpckipbeaa", sum := "4d47daf2fb85a36a83d8e2dbaa59e3cc1ccbd87e4ca6ffafc1f66eb4e6dfae26", func := "loop.example/g00987/laws.FnExactMoveObject", spec := "fnExactMoveObject", unfollowed := true, recurses := true, apart := false }
def FnExactMoveObjectSaid : Prop := fnExactMoveObjectRow.holds Try.pinned (OpenSpec.ofChange fnExactMoveObjectSpec)

/-- ITS FALSE NEIGHBOUR: 'it returns false'. Refute it at one input. -/
def fnExactMoveObjectWrong : ChangeSpec := { name := "fnExactMoveObject", fn := fun _ => fun
  | [d1, d2, d3] => { results := [.lit (.bool false)], args := [d1, d2, d3] }
  | _ => none }
def FnExactMoveObjectWrongFalsely : Prop := fnExactMoveObjectRow.holds Try.pinned (OpenSpec.ofChange fnExactMoveObjectWrong)

/- THE SECOND FORM. 'bulk': how many values and letters a reading holds, each counted each time it is reached (what is shared counts as often as it is met; a slice's spare places count too). A statement '..UptoSaid' is the law's where the arguments, and the package variables that the reading takes, are together of bulk at most 1048576: NARROWER than '..Said'. Prove '..Said' where nothing that the law and all that it calls make is longer than what came in: it says more and counts as full. Else prove '..UptoSaid'. A law counts once. -/
mutual
def uptoBulk {H : Type} : DataW H → Nat
  | .lit (.string bytes) => bytes.length + 1
  | .lit _ => 1
  | .nil => 1
  | .ptr d => uptoBulk d + 1
  | .slice elems spare => uptoBulkAll elems + uptoBulkAll spare + 1
  | .agg parts => uptoBulkAll parts + 1
  | .iface _ d => uptoBulk d + 1
  | .map entries => uptoBulkEntries entries + 1
  | .held _ => 1
def uptoBulkAll {H : Type} : List (DataW H) → Nat
  | [] => 0
  | d :: r => uptoBulk d + uptoBulkAll r
def uptoBulkEntries {H : Type} : List (Lit × DataW H) → Nat
  | [] => 0
  | x :: r => uptoBulkEntry x + uptoBulkEntries r
def uptoBulkEntry {H : Type} : Lit × DataW H → Nat
  | (.string bytes, d) => bytes.length + uptoBulk d + 1
  | (_, d) => uptoBulk d + 1
 end
def uptoSmall : (H : Type) → List (DataW H) → Bool := fun _ ds => decide (uptoBulkAll ds ≤ 1048576)
def OpenSpec.upto (s : _root_.Go.ChangeSpec) : _root_.Go.OpenSpec := { _root_.Go.OpenSpec.ofChange s with cond := some uptoSmall }

/-- 'laws.FnObjects', WHERE WHAT IT READS IS OF BULK AT MOST 1048576: true; the input reads as it did. -/
def fnObjectsUptoRow : OpenClaim := { program := "ytejnfdpckipbeaa", sum := "4d47daf2fb85a36a83d8e2dbaa59e3cc1ccbd87e4ca6ffafc1f66eb4e6dfae26", func := "loop.example/g00987/laws.FnObjects", spec := "fnObjects", inPlace := ["slices.overlaps[int]"], unfollowed := true, recurses := true, apart := false, narrowed := true }
def FnObjectsUptoSaid : Prop := fnObjectsUptoRow.holds Try.pinned (OpenSpec.upto fnObjectsSpec)

/-- 'laws.FnExactNewPage', WHERE WHAT IT READS IS OF BULK AT MOST 1048576: true; the input reads as it did. -/
def fnExactNewPageUptoRow : OpenClaim := { program := "ytejnfdpckipbeaa", sum := "4d47daf2fb85a36a83d8e2dbaa59e3cc1ccbd87e4ca6ffafc1f66eb4e6dfae26", func := "loop.example/g00987/laws.FnExactNewPage", spec := "fnExactNewPage", apart := false, narrowed := true }
def FnExactNewPageUptoSaid : Prop := fnExactNewPageUptoRow.holds Try.pinned (OpenSpec.upto fnExactNewPageSpec)

/-- 'laws.FnExactObjectOk', WHERE WHAT IT READS IS OF BULK AT MOST 1048576: true; the input reads as it did. -/
def fnExactObjectOkUptoRow : OpenClaim := { program := "ytejnfdpckipbeaa", sum := "4d47daf2fb85a36a83d8e2dbaa59e3cc1ccbd87e4ca6ffafc1f66eb4e6dfae26", func := "loop.example/g00987/laws.FnExactObjectOk", spec := "fnExactObjectOk", unfollowed := true, recurses := true, apart := false, narrowed := true }
def FnExactObjectOkUptoSaid : Prop := fnExactObjectOkUptoRow.holds Try.pinned (OpenSpec.upto fnExactObjectOkSpec)

/-- 'laws.FnExactObjectBox', WHERE WHAT IT READS IS OF BULK AT MOST 1048576: true; the input reads as it did. -/
def fnExactObjectBoxUptoRow : OpenClaim := { program := "ytejnfdpckipbeaa", sum := "4d47daf2fb85a36a83d8e2dbaa59e3cc1ccbd87e4ca6ffafc1f66eb4e6dfae26", func := "loop.example/g00987/laws.FnExactObjectBox", spec := "fnExactObjectBox", unfollowed := true, recurses := true, apart := false, narrowed := true }
def FnExactObjectBoxUptoSaid : Prop := fnExactObjectBoxUptoRow.holds Try.pinned (OpenSpec.upto fnExactObjectBoxSpec)

/-- 'laws.FnExactObjectRow', WHERE WHAT IT READS IS OF BULK AT MOST 1048576: true; the input reads as it did. -/
def fnExactObjectRowUptoRow : OpenClaim := { program := "ytejnfdpckipbeaa", sum := "4d47daf2fb85a36a83d8e2dbaa59e3cc1ccbd87e4ca6ffafc1f66eb4e6dfae26", func := "loop.example/g00987/laws.FnExactObjectRow", spec := "fnExactObjectRow", inPlace := ["slices.overlaps[int]"], unfollowed := true, recurses := true, apart := false, narrowed := true }
def FnExactObjectRowUptoSaid : Prop := fnExactObjectRowUptoRow.holds Try.pinned (OpenSpec.upto fnExactObjectRowSpec)

/-- 'laws.FnExactObjectDots', WHERE WHAT IT READS IS OF BULK AT MOST 1048576: true; the input reads as it did. -/
def fnExactObjectDotsUptoRow : OpenClaim := { program := "ytejnfdpckipbeaa", sum := "4d47daf2fb85a36a83d8e2dbaa59e3cc1ccbd87e4ca6ffafc1f66eb4e6dfae26", func := "loop.example/g00987/laws.FnExactObjectDots", spec := "fnExactObjectDots", inPlace := ["slices.overlaps[int]"], unfollowed := true, recurses := true, apart := false, narrowed := true }
def FnExactObjectDotsUptoSaid : Prop := fnExactObjectDotsUptoRow.holds Try.pinned (OpenSpec.upto fnExactObjectDotsSpec)

/-- 'laws.FnExactMoveObject', WHERE WHAT IT READS IS OF BULK AT MOST 1048576: true; the input reads as it did. -/
def fnExactMoveObjectUptoRow : OpenClaim := { program := "ytejnfdpckipbeaa", sum := "4d47daf2fb85a36a83d8e2dbaa59e3cc1ccbd87e4ca6ffafc1f66eb4e6dfae26", func := "loop.example/g00987/laws.FnExactMoveObject", spec := "fnExactMoveObject", unfollowed := true, recurses := true, apart := false, narrowed := true }
def FnExactMoveObjectUptoSaid : Prop := fnExactMoveObjectUptoRow.holds Try.pinned (OpenSpec.upto fnExactMoveObjectSpec)

end Rows
end Go.Proofs.Ytejnfdpckipbeaa
