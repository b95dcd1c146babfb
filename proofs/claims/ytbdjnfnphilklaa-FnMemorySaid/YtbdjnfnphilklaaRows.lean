/-
  No cell of these rows narrows 'for every input' (looked for: loops, veiled, ifaces, maps, wideKeys, modest, calm, conditions, laid).
  DERIVED. THE GIVEN ROWS OF THIS SEAT. 4 by the template 'for every input the law returns true; each argument reads behind the call as it read before'; 0 by the template 'total and deterministic' (their statements: YtbdjnfnphilklaaTotals.lean).
  GIVEN WITH THE SEED: the statements are not yours to turn. If you find one false, say at which input.
  Laid BY PROGRAM, IN A SANDBOX (cutbox-rows.mjs): the forced cells as the released guide's own fill.sh prints them over the translation 9004830232e07a20… (all of the seat's roots in one cut). By AI agents, Wed Nov 11 2026. No macro, syntax, notation, axiom, sorry.
-/
import Derived.Test.YtbdjnfnphilklaaChecked
import GoSem.Claim
import GoSem.ClaimJoined
import GoSem.ClaimMapViews
import Derived.JoinedTies
import Derived.KernelRfl
namespace Go.Proofs.Ytbdjnfnphilklaa
/- THE CELL 'sum', in the pinned program and in every row, IS THE sha256 OF THE DUMP (.gsa) THAT YtbdjnfnphilklaaProg.lean LOADS. Nothing in Lean hashes anything: it is a label: what it is worth is what the hold of that sum in a sandbox is worth. -/
noncomputable def Try.pinned : Pinned := { name := "ytbdjnfnphilklaa", sum := "9004830232e07a20c1a7f828fd883911e344c6c70aabbd4804b62e8d39b7ac6e", checked := Try.checked }
namespace Rows
def none {H : Type} : Left H := { results := [], args := [] }

/-- 'laws.FnMemory': WHATEVER THE INPUT: true; the input reads as it did. -/
def fnMemorySpec : ChangeSpec := { name := "fnMemory", fn := fun _ => fun
  | [d] => { results := [.lit (.bool true)], args := [d] }
  | _ => none }
def fnMemoryRow : OpenClaim := { program := "ytbdjnfnphilklaa", sum := "9004830232e07a20c1a7f828fd883911e344c6c70aabbd4804b62e8d39b7ac6e", func := "loop.example/g00987/laws.FnMemory", spec := "fnMemory", inPlace := ["slices.overlaps[int]"], unfollowed := true, recurses := true, apart := false }
def FnMemorySaid : Prop := fnMemoryRow.holds Try.pinned (OpenSpec.ofChange fnMemorySpec)

/-- ITS FALSE NEIGHBOUR: 'it returns false'. Refute it at one input. -/
def fnMemoryWrong : ChangeSpec := { name := "fnMemory", fn := fun _ => fun
  | [d] => { results := [.lit (.bool false)], args := [d] }
  | _ => none }
def FnMemoryWrongFalsely : Prop := fnMemoryRow.holds Try.pinned (OpenSpec.ofChange fnMemoryWrong)

/-- 'laws.FnExactNewBand': WHATEVER THE INPUT: true; the input reads as it did. -/
def fnExactNewBandSpec : ChangeSpec := { name := "fnExactNewBand", fn := fun _ => fun
  | [d1, d2] => { results := [.lit (.bool true)], args := [d1, d2] }
  | _ => none }
def fnExactNewBandRow : OpenClaim := { program := "ytbdjnfnphilklaa", sum := "9004830232e07a20c1a7f828fd883911e344c6c70aabbd4804b62e8d39b7ac6e", func := "loop.example/g00987/laws.FnExactNewBand", spec := "fnExactNewBand", apart := false }
def FnExactNewBandSaid : Prop := fnExactNewBandRow.holds Try.pinned (OpenSpec.ofChange fnExactNewBandSpec)

/-- ITS FALSE NEIGHBOUR: 'it returns false'. Refute it at one input. -/
def fnExactNewBandWrong : ChangeSpec := { name := "fnExactNewBand", fn := fun _ => fun
  | [d1, d2] => { results := [.lit (.bool false)], args := [d1, d2] }
  | _ => none }
def FnExactNewBandWrongFalsely : Prop := fnExactNewBandRow.holds Try.pinned (OpenSpec.ofChange fnExactNewBandWrong)

/-- 'laws.FnExactBandOk': WHATEVER THE INPUT: true; the input reads as it did. -/
def fnExactBandOkSpec : ChangeSpec := { name := "fnExactBandOk", fn := fun _ => fun
  | [d] => { results := [.lit (.bool true)], args := [d] }
  | _ => none }
def fnExactBandOkRow : OpenClaim := { program := "ytbdjnfnphilklaa", sum := "9004830232e07a20c1a7f828fd883911e344c6c70aabbd4804b62e8d39b7ac6e", func := "loop.example/g00987/laws.FnExactBandOk", spec := "fnExactBandOk", unfollowed := true, recurses := true, apart := false }
def FnExactBandOkSaid : Prop := fnExactBandOkRow.holds Try.pinned (OpenSpec.ofChange fnExactBandOkSpec)

/-- ITS FALSE NEIGHBOUR: 'it returns false'. Refute it at one input. -/
def fnExactBandOkWrong : ChangeSpec := { name := "fnExactBandOk", fn := fun _ => fun
  | [d] => { results := [.lit (.bool false)], args := [d] }
  | _ => none }
def FnExactBandOkWrongFalsely : Prop := fnExactBandOkRow.holds Try.pinned (OpenSpec.ofChange fnExactBandOkWrong)

/-- 'laws.FnExactBandCells': WHATEVER THE INPUT: true; the input reads as it did. -/
def fnExactBandCellsSpec : ChangeSpec := { name := "fnExactBandCells", fn := fun _ => fun
  | [d] => { results := [.lit (.bool true)], args := [d] }
  | _ => none }
def fnExactBandCellsRow : OpenClaim := { program := "ytbdjnfnphilklaa", sum := "9004830232e07a20c1a7f828fd883911e344c6c70aabbd4804b62e8d39b7ac6e", func := "loop.example/g00987/laws.FnExactBandCells", spec := "fnExactBandCells", apart := false }
def FnExactBandCellsSaid : Prop := fnExactBandCellsRow.holds Try.pinned (OpenSpec.ofChange fnExactBandCellsSpec)

/-- ITS FALSE NEIGHBOUR: 'it returns false'. Refute it at one input. -/
def fnExactBandCellsWrong : ChangeSpec := { name := "fnExactBandCells", fn := fun _ => fun
  | [d] => { results := [.lit (.bool false)], args := [d] }
  | _ => none }
def FnExactBandCellsWrongFalsely : Prop := fnExactBandCellsRow.holds Try.pinned (OpenSpec.ofChange fnExactBandCellsWrong)

/- THE SECOND FORM. 'bulk': how many values and letters a reading holds, each counted each time it is reached (what is shared counts as often as it is met; a slice's spare places count too). A statement '..UptoSaid' is the law's where the arguments, and the package variables that the reading takes, are together of bulk at most 1048576: NARROWER than '..Said'. Prove '..Said' where nothing that the law and all that it calls make is longer than what came in: it says more and counts as full. Else prove '..UptoSaid'. A law counts once. -/
mutual
def uptoBulk {H : Type} : DataW H → Nat
  | .lit (.string bytes) => bytes.length + 1
  | .lit _ => 1
  | .nil => 1
  | .ptr d => uptoBulk d + 1
  | .slice elems spare => uptoBulkAll elems + uptoBulkAll spare + 1
  | .agg parts => uptoBulkAll parts + 1
  | .iface _ d => uptoBulk d + 1
  | .map entries => uptoBulkEntries entries + 1
  | .held _ => 1
def uptoBulkAll {H : Type} : List (DataW H) → Nat
  | [] => 0
  | d :: r => uptoBulk d + uptoBulkAll r
def uptoBulkEntries {H : Type} : List (Lit × DataW H) → Nat
  | [] => 0
  | x :: r => uptoBulkEntry x + uptoBulkEntries r
def uptoBulkEntry {H : Type} : Lit × DataW H → Nat
  | (.string bytes, d) => bytes.length + uptoBulk d + 1
  | (_, d) => uptoBulk d + 1
 end
def uptoSmall : (H : Type) → List (DataW H) → Bool := fun _ ds => decide (uptoBulkAll ds ≤ 1048576)
def OpenSpec.upto (s : _root_.Go.ChangeSpec) : _root_.Go.OpenSpec := { _root_.Go.OpenSpec.ofChange s with cond := some uptoSmall }

/-- 'laws.FnMemory', WHERE WHAT IT READS IS OF BULK AT MOST 1048576: true; the input reads as it did. -/
def fnMemoryUptoRow : OpenClaim := { program := "ytbdjnfnphilklaa", sum := "9004830232e07a20c1a7f828fd883911e344c6c70aabbd4804b62e8d39b7ac6e", func := "loop.example/g00987/laws.FnMemory", spec := "fnMemory", inPlace := ["slices.overlaps[int]"], unfollowed := true, recurses := true, apart := false, narrowed := true }
def FnMemoryUptoSaid : Prop := fnMemoryUptoRow.holds Try.pinned (OpenSpec.upto fnMemorySpec)

/-- 'laws.FnExactNewBand', WHERE WHAT IT READS IS OF BULK AT MOST 1048576: true; the input reads as it did. -/
def fnExactNewBandUptoRow : OpenClaim := { program := "ytbdjnfnphilklaa", sum := "9004830232e07a20c1a7f828fd883911e344c6c70aabbd4804b62e8d39b7ac6e", func := "loop.example/g00987/laws.FnExactNewBand", spec := "fnExactNewBand", apart := false, narrowed := true }
def FnExactNewBandUptoSaid : Prop := fnExactNewBandUptoRow.holds Try.pinned (OpenSpec.upto fnExactNewBandSpec)

/-- 'laws.FnExactBandOk', WHERE WHAT IT READS IS OF BULK AT MOST 1048576: true; the input reads as it did. -/
def fnExactBandOkUptoRow : OpenClaim := { program := "ytbdjnfnphilklaa", sum := "9004830232e07a20c1a7f828fd883911e344c6c70aabbd4804b62e8d39b7ac6e", func := "loop.example/g00987/laws.FnExactBandOk", spec := "fnExactBandOk", unfollowed := true, recurses := true, apart := false, narrowed := true }
def FnExactBandOkUptoSaid : Prop := fnExactBandOkUptoRow.holds Try.pinned (OpenSpec.upto fnExactBandOkSpec)

/-- 'laws.FnExactBandCells', WHERE WHAT IT READS IS OF BULK AT MOST 1048576: true; the input reads as it did. -/
def fnExactBandCellsUptoRow : OpenClaim := { program := "ytbdjnfnphilklaa", sum := "9004830232e07a20c1a7f828fd883911e344c6c70aabbd4804b62e8d39b7ac6e", func := "loop.example/g00987/laws.FnExactBandCells", spec := "fnExactBandCells", apart := false, narrowed := true }
def FnExactBandCellsUptoSaid : Prop := fnExactBandCellsUptoRow.holds Try.pinned (OpenSpec.upto fnExactBandCellsSpec)

end Rows
end Go.Proofs.Ytbdjnfnphilklaa
