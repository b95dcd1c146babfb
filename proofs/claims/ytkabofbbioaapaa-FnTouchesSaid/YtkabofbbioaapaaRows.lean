/-
  No cell of these rows narrows 'for every input' (looked for: loops, veiled, ifaces, maps, wideKeys, modest, calm, conditions, laid).
  DERIVED. THE GIVEN ROWS OF THIS SEAT. 5 by the template 'for every input the law returns true; each argument reads behind the call as it read before'; 0 by the template 'total and deterministic' (their statements: YtkabofbbioaapaaTotals.lean).
  GIVEN WITH THE SEED: the statements are not yours to turn. If you find one false, say at which input.
  Laid BY PROGRAM, IN A SANDBOX (cutbox-rows.mjs): the forced cells as the released guide's own fill.sh prints them over the translation 8c89ab9a131e50fd… (all of the seat's roots in one cut). By AI agents, Wed Nov 11 2026. No macro, syntax, notation, axiom, sorry.
-/
import Derived.Test.YtkabofbbioaapaaChecked
import GoSem.Claim
import GoSem.ClaimJoined
import GoSem.ClaimMapViews
import Derived.JoinedTies
import Derived.KernelRfl
namespace Go.Proofs.Ytkabofbbioaapaa
/- THE CELL 'sum', in the pinned program and in every row, IS THE sha256 OF THE DUMP (.gsa) THAT YtkabofbbioaapaaProg.lean LOADS. Nothing in Lean hashes anything: it is a label: what it is worth is what the hold of that sum in a sandbox is worth. -/
noncomputable def Try.pinned : Pinned := { name := "ytkabofbbioaapaa", sum := "8c89ab9a131e50fd285f8f0b3e6c06a03998a7f69a0b36b47e6e34527a68a034", checked := Try.checked }
namespace Rows
def none {H : Type} : Left H := { results := [], args := [] }

/-- 'laws.FnTouches': WHATEVER THE INPUT: true; the input reads as it did. -/
def fnTouchesSpec : ChangeSpec := { name := "fnTouches", fn := fun _ => fun
  | [d] => { results := [.lit (.bool true)], args := [d] }
  | _ => none }
def fnTouchesRow : OpenClaim := { program := "ytkabofbbioaapaa", sum := "8c89ab9a131e50fd285f8f0b3e6c06a03998a7f69a0b36b47e6e34527a68a034", func := "loop.example/g00987/laws.FnTouches", spec := "fnTouches", inPlace := ["slices.overlaps[int]"], unfollowed := true, recurses := true, apart := false }
def FnTouchesSaid : Prop := fnTouchesRow.holds Try.pinned (OpenSpec.ofChange fnTouchesSpec)

/-- ITS FALSE NEIGHBOUR: 'it returns false'. Refute it at one input. -/
def fnTouchesWrong : ChangeSpec := { name := "fnTouches", fn := fun _ => fun
  | [d] => { results := [.lit (.bool false)], args := [d] }
  | _ => none }
def FnTouchesWrongFalsely : Prop := fnTouchesRow.holds Try.pinned (OpenSpec.ofChange fnTouchesWrong)

/-- 'laws.FnExactIsHeight': WHATEVER THE INPUT: true; the input reads as it did. -/
def fnExactIsHeightSpec : ChangeSpec := { name := "fnExactIsHeight", fn := fun _ => fun
  | [d] => { results := [.lit (.bool true)], args := [d] }
  | _ => none }
def fnExactIsHeightRow : OpenClaim := { program := "ytkabofbbioaapaa", sum := "8c89ab9a131e50fd285f8f0b3e6c06a03998a7f69a0b36b47e6e34527a68a034", func := "loop.example/g00987/laws.FnExactIsHeight", spec := "fnExactIsHeight", apart := false }
def FnExactIsHeightSaid : Prop := fnExactIsHeightRow.holds Try.pinned (OpenSpec.ofChange fnExactIsHeightSpec)

/-- ITS FALSE NEIGHBOUR: 'it returns false'. Refute it at one input. -/
def fnExactIsHeightWrong : ChangeSpec := { name := "fnExactIsHeight", fn := fun _ => fun
  | [d] => { results := [.lit (.bool false)], args := [d] }
  | _ => none }
def FnExactIsHeightWrongFalsely : Prop := fnExactIsHeightRow.holds Try.pinned (OpenSpec.ofChange fnExactIsHeightWrong)

/-- 'laws.FnExactCountBands': WHATEVER THE INPUT: true; the input reads as it did. -/
def fnExactCountBandsSpec : ChangeSpec := { name := "fnExactCountBands", fn := fun _ => fun
  | [d] => { results := [.lit (.bool true)], args := [d] }
  | _ => none }
def fnExactCountBandsRow : OpenClaim := { program := "ytkabofbbioaapaa", sum := "8c89ab9a131e50fd285f8f0b3e6c06a03998a7f69a0b36b47e6e34527a68a034", func := "loop.example/g00987/laws.FnExactCountBands", spec := "fnExactCountBands", apart := false }
def FnExactCountBandsSaid : Prop := fnExactCountBandsRow.holds Try.pinned (OpenSpec.ofChange fnExactCountBandsSpec)

/-- ITS FALSE NEIGHBOUR: 'it returns false'. Refute it at one input. -/
def fnExactCountBandsWrong : ChangeSpec := { name := "fnExactCountBands", fn := fun _ => fun
  | [d] => { results := [.lit (.bool false)], args := [d] }
  | _ => none }
def FnExactCountBandsWrongFalsely : Prop := fnExactCountBandsRow.holds Try.pinned (OpenSpec.ofChange fnExactCountBandsWrong)

/-- 'laws.FnExactTouchesBand': WHATEVER THE INPUT: true; the input reads as it did. -/
def fnExactTouchesBandSpec : ChangeSpec := { name := "fnExactTouchesBand", fn := fun _ => fun
  | [d1, d2, d3] => { results := [.lit (.bool true)], args := [d1, d2, d3] }
  | _ => none }
def fnExactTouchesBandRow : OpenClaim := { program := "ytkabofbbioaapaa", sum := "8c89ab9a131e50fd285f8f0b3e6c06a03998a7f69a0b36b47e6e34527a68a034", func := "loop.example/g00987/laws.FnExactTouchesBand", spec := "fnExactTouchesBand", unfollowed := true, recurses := true, apart := false }
def FnExactTouchesBandSaid : Prop := fnExactTouchesBandRow.holds Try.pinned (OpenSpec.ofChange fnExactTouchesBandSpec)

/-- ITS FALSE NEIGHBOUR: 'it returns false'. Refute it at one input. -/
def fnExactTouchesBandWrong : ChangeSpec := { name := "fnExactTouchesBand", fn := fun _ => fun
  | [d1, d2, d3] => { results := [.lit (.bool false)], args := [d1, d2, d3] }
  | _ => none }
def FnExactTouchesBandWrongFalsely : Prop := fnExactTouchesBandRow.holds Try.pinned (OpenSpec.ofChange fnExactTouchesBandWrong)

/-- 'laws.FnExactObjectsOfBand': WHATEVER THE INPUT: true; the input reads as it did. -/
def fnExactObjectsOfBandSpec : ChangeSpec := { name := "fnExactObjectsOfBand", fn := fun _ => fun
  | [d1, d2, d3] => { results := [.lit (.bool true)], args := [d1, d2, d3] }
  | _ => none }
def fnExactObjectsOfBandRow : OpenClaim := { program := "ytkabofbbioaapaa", sum := "8c89ab9a131e50fd285f8f0b3e6c06a03998a7f69a0b36b47e6e34527a68a034", func := "loop.example/g00987/laws.FnExactObjectsOfBand", spec := "fnExactObjectsOfBand", unfollowed := true, recurses := true, apart := false }
def FnExactObjectsOfBandSaid : Prop := fnExactObjectsOfBandRow.holds Try.pinned (OpenSpec.ofChange fnExactObjectsOfBandSpec)

/-- ITS FALSE NEIGHBOUR: 'it returns false'. Refute it at one input. -/
def fnExactObjectsOfBandWrong : ChangeSpec := { name := "fnExactObjectsOfBand", fn := fun _ => fun
  | [d1, d2, d3] => { results := [.lit (.bool false)], args := [d1, d2, d3] }
  | _ => none }
def FnExactObjectsOfBandWrongFalsely : Prop := fnExactObjectsOfBandRow.holds Try.pinned (OpenSpec.ofChange fnExactObjectsOfBandWrong)

/- THE SECOND FORM. 'bulk': how many values and letters a reading holds, each counted each time it is reached (what is shared counts as often as it is met; a slice's spare places count too). A statement '..UptoSaid' is the law's where the arguments, and the package variables that the reading takes, are together of bulk at most 1048576: NARROWER than '..Said'. Prove '..Said' where nothing that the law and all that it calls make is longer than what came in: it says more and counts as full. Else prove '..UptoSaid'. A law counts once. -/
mutual
def uptoBulk {H : Type} : DataW H → Nat
  | .lit (.string bytes) => bytes.length + 1
  | .lit _ => 1
  | .nil => 1
  | .ptr d => uptoBulk d + 1
  | .slice elems spare => uptoBulkAll elems + uptoBulkAll spare + 1
  | .agg parts => uptoBulkAll parts + 1
  | .iface _ d => uptoBulk d + 1
  | .map entries => uptoBulkEntries entries + 1
  | .held _ => 1
def uptoBulkAll {H : Type} : List (DataW H) → Nat
  | [] => 0
  | d :: r => uptoBulk d + uptoBulkAll r
def uptoBulkEntries {H : Type} : List (Lit × DataW H) → Nat
  | [] => 0
  | x :: r => uptoBulkEntry x + uptoBulkEntries r
def uptoBulkEntry {H : Type} : Lit × DataW H → Nat
  | (.string bytes, d) => bytes.length + uptoBulk d + 1
  | (_, d) => uptoBulk d + 1
 end
def uptoSmall : (H : Type) → List (DataW H) → Bool := fun _ ds => decide (uptoBulkAll ds ≤ 1048576)
def OpenSpec.upto (s : _root_.Go.ChangeSpec) : _root_.Go.OpenSpec := { _root_.Go.OpenSpec.ofChange s with cond := some uptoSmall }

/-- 'laws.FnTouches', WHERE WHAT IT READS IS OF BULK AT MOST 1048576: true; the input reads as it did. -/
def fnTouchesUptoRow : OpenClaim := { program := "ytkabofbbioaapaa", sum := "8c89ab9a131e50fd285f8f0b3e6c06a03998a7f69a0b36b47e6e34527a68a034", func := "loop.example/g00987/laws.FnTouches", spec := "fnTouches", inPlace := ["slices.overlaps[int]"], unfollowed := true, recurses := true, apart := false, narrowed := true }
def FnTouchesUptoSaid : Prop := fnTouchesUptoRow.holds Try.pinned (OpenSpec.upto fnTouchesSpec)

/-- 'laws.FnExactIsHeight', WHERE WHAT IT READS IS OF BULK AT MOST 1048576: true; the input reads as it did. -/
def fnExactIsHeightUptoRow : OpenClaim := { program := "ytkabofbbioaapaa", sum := "8c89ab9a131e50fd285f8f0b3e6c06a03998a7f69a0b36b47e6e34527a68a034", func := "loop.example/g00987/laws.FnExactIsHeight", spec := "fnExactIsHeight", apart := false, narrowed := true }
def FnExactIsHeightUptoSaid : Prop := fnExactIsHeightUptoRow.holds Try.pinned (OpenSpec.upto fnExactIsHeightSpec)

/-- 'laws.FnExactCountBands', WHERE WHAT IT READS IS OF BULK AT MOST 1048576: true; the input reads as it did. -/
def fnExactCountBandsUptoRow : OpenClaim := { program := "ytkabofbbioaapaa", sum := "8c89ab9a131e50fd285f8f0b3e6c06a03998a7f69a0b36b47e6e34527a68a034", func := "loop.example/g00987/laws.FnExactCountBands", spec := "fnExactCountBands", apart := false, narrowed := true }
def FnExactCountBandsUptoSaid : Prop := fnExactCountBandsUptoRow.holds Try.pinned (OpenSpec.upto fnExactCountBandsSpec)

/-- 'laws.FnExactTouchesBand', WHERE WHAT IT READS IS OF BULK AT MOST 1048576: true; the input reads as it did. -/
def fnExactTouchesBandUptoRow : OpenClaim := { program := "ytkabofbbioaapaa", sum := "8c89ab9a131e50fd285f8f0b3e6c06a03998a7f69a0b36b47e6e34527a68a034", func := "loop.example/g00987/laws.FnExactTouchesBand", spec := "fnExactTouchesBand", unfollowed := true, recurses := true, apart := false, narrowed := true }
def FnExactTouchesBandUptoSaid : Prop := fnExactTouchesBandUptoRow.holds Try.pinned (OpenSpec.upto fnExactTouchesBandSpec)

/-- 'laws.FnExactObjectsOfBand', WHERE WHAT IT READS IS OF BULK AT MOST 1048576: true; the input reads as it did. -/
def fnExactObjectsOfBandUptoRow : OpenClaim := { program := "ytkabofbbioaapaa", sum := "8c89ab9a131e50fd285f8f0b3e6c06a03998a7f69a0b36b47e6e34527a68a034", func := "loop.example/g00987/laws.FnExactObjectsOfBand", spec := "fnExactObjectsOfBand", unfollowed := true, recurses := true, apart := false, narrowed := true }
def FnExactObjectsOfBandUptoSaid : Prop := fnExactObjectsOfBandUptoRow.holds Try.pinned (OpenSpec.upto fnExactObjectsOfBandSpec)

end Rows
end Go.Proofs.Ytkabofbbioaapaa
