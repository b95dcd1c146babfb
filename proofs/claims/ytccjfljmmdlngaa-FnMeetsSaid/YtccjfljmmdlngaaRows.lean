/-
  No cell of these rows narrows 'for every input' (looked for: loops, veiled, ifaces, maps, wideKeys, modest, calm, conditions, laid).
  DERIVED. THE GIVEN ROWS OF THIS SEAT. 7 by the template 'for every input the law returns true; each argument reads behind the call as it read before'; 0 by the template 'total and deterministic' (their statements: YtccjfljmmdlngaaTotals.lean).
  GIVEN WITH THE SEED: the statements are not yours to turn. If you find one false, say at which input.
  Laid BY PROGRAM, IN A SANDBOX (cutbox-rows.mjs): the forced cells as the released guide's own fill.sh prints them over the translation 9be36a5335c844cb… (all of the seat's roots in one cut). By AI agents, Wed Nov 11 2026. No macro, syntax, notation, axiom, sorry.
-/
import Derived.Test.YtccjfljmmdlngaaChecked
import GoSem.Claim
import GoSem.ClaimJoined
import GoSem.ClaimMapViews
import Derived.JoinedTies
import Derived.KernelRfl
namespace Go.Proofs.Ytccjfljmmdlngaa
/- THE CELL 'sum', in the pinned program and in every row, IS THE sha256 OF THE DUMP (.gsa) THAT YtccjfljmmdlngaaProg.lean LOADS. Nothing in Lean hashes anything: it is a label: what it is worth is what the hold of that sum in a sandbox is worth. -/
noncomputable def Try.pinned : Pinned := { name := "ytccjfljmmdlngaa", sum := "9be36a5335c844cb8c66915bb2e7b7d5f1bdc6afae20afdf7a906c95cccd931e", checked := Try.checked }
namespace Rows
def none {H : Type} : Left H := { results := [], args := [] }

/-- 'laws.FnSpans': WHATEVER THE INPUT: true; the input reads as it did. -/
def fnSpansSpec : ChangeSpec := { name := "fnSpans", fn := fun _ => fun
  | [d] => { results := [.lit (.bool true)], args := [d] }
  | _ => none }
def fnSpansRow : OpenClaim := { program := "ytccjfljmmdlngaa", sum := "9be36a5335c844cb8c66915bb2e7b7d5f1bdc6afae20afdf7a906c95cccd931e", func := "loop.example/g00987/laws.FnSpans", spec := "fnSpans", inPlace := ["slices.overlaps[int]"], unfollowed := true, recurses := true, apart := false }
def FnSpansSaid : Prop := fnSpansRow.holds Try.pinned (OpenSpec.ofChange fnSpansSpec)

/-- ITS FALSE NEIGHBOUR: 'it returns false'. Refute it at one input. -/
def fnSpansWrong : ChangeSpec := { name := "fnSpans", fn := fun _ => fun
  | [d] => { results := [.lit (.bool false)], args := [d] }
  | _ => none }
def FnSpansWrongFalsely : Prop := fnSpansRow.holds Try.pinned (OpenSpec.ofChange fnSpansWrong)

/-- 'laws.FnMeets': WHATEVER THE INPUT: true; the input reads as it did. -/
def fnMeetsSpec : ChangeSpec := { name := "fnMeets", fn := fun _ => fun
  | [d] => { results := [.lit (.bool true)], args := [d] }
  | _ => none }
def fnMeetsRow : OpenClaim := { program := "ytccjfljmmdlngaa", sum := "9be36a5335c844cb8c66915bb2e7b7d5f1bdc6afae20afdf7a906c95cccd931e", func := "loop.example/g00987/laws.FnMeets", spec := "fnMeets", unfollowed := true, recurses := true, apart := false }
def FnMeetsSaid : Prop := fnMeetsRow.holds Try.pinned (OpenSpec.ofChange fnMeetsSpec)

/-- ITS FALSE NEIGHBOUR: 'it returns false'. Refute it at one input. -/
def fnMeetsWrong : ChangeSpec := { name := "fnMeets", fn := fun _ => fun
  | [d] => { results := [.lit (.bool false)], args := [d] }
  | _ => none }
def FnMeetsWrongFalsely : Prop := fnMeetsRow.holds Try.pinned (OpenSpec.ofChange fnMeetsWrong)

/-- 'laws.FnExactSpansOk': WHATEVER THE INPUT: true; the input reads as it did. -/
def fnExactSpansOkSpec : ChangeSpec := { name := "fnExactSpansOk", fn := fun _ => fun
  | [d] => { results := [.lit (.bool true)], args := [d] }
  | _ => none }
def fnExactSpansOkRow : OpenClaim := { program := "ytccjfljmmdlngaa", sum := "9be36a5335c844cb8c66915bb2e7b7d5f1bdc6afae20afdf7a906c95cccd931e", func := "loop.example/g00987/laws.FnExactSpansOk", spec := "fnExactSpansOk", unfollowed := true, recurses := true, apart := false }
def FnExactSpansOkSaid : Prop := fnExactSpansOkRow.holds Try.pinned (OpenSpec.ofChange fnExactSpansOkSpec)

/-- ITS FALSE NEIGHBOUR: 'it returns false'. Refute it at one input. -/
def fnExactSpansOkWrong : ChangeSpec := { name := "fnExactSpansOk", fn := fun _ => fun
  | [d] => { results := [.lit (.bool false)], args := [d] }
  | _ => none }
def FnExactSpansOkWrongFalsely : Prop := fnExactSpansOkRow.holds Try.pinned (OpenSpec.ofChange fnExactSpansOkWrong)

/-- 'laws.FnExactSpansAt': WHATEVER THE INPUT: true; the input reads as it did. -/
def fnExactSpansAtSpec : ChangeSpec := { name := "fnExactSpansAt", fn := fun _ => fun
  | [d1, d2] => { results := [.lit (.bool true)], args := [d1, d2] }
  | _ => none }
def fnExactSpansAtRow : OpenClaim := { program := "ytccjfljmmdlngaa", sum := "9be36a5335c844cb8c66915bb2e7b7d5f1bdc6afae20afdf7a906c95cccd931e", func := "loop.example/g00987/laws.FnExactSpansAt", spec := "fnExactSpansAt", inPlace := ["slices.overlaps[int]"], unfollowed := true, recurses := true, apart := false }
def FnExactSpansAtSaid : Prop := fnExactSpansAtRow.holds Try.pinned (OpenSpec.ofChange fnExactSpansAtSpec)

/-- ITS FALSE NEIGHBOUR: 'it returns false'. Refute it at one input. -/
def fnExactSpansAtWrong : ChangeSpec := { name := "fnExactSpansAt", fn := fun _ => fun
  | [d1, d2] => { results := [.lit (.bool false)], args := [d1, d2] }
  | _ => none }
def FnExactSpansAtWrongFalsely : Prop := fnExactSpansAtRow.holds Try.pinned (OpenSpec.ofChange fnExactSpansAtWrong)

/-- 'laws.FnExactMeetSpans': WHATEVER THE INPUT: true; the input reads as it did. -/
def fnExactMeetSpansSpec : ChangeSpec := { name := "fnExactMeetSpans", fn := fun _ => fun
  | [d1, d2, d3] => { results := [.lit (.bool true)], args := [d1, d2, d3] }
  | _ => none }
def fnExactMeetSpansRow : OpenClaim := { program := "ytccjfljmmdlngaa", sum := "9be36a5335c844cb8c66915bb2e7b7d5f1bdc6afae20afdf7a906c95cccd931e", func := "loop.example/g00987/laws.FnExactMeetSpans", spec := "fnExactMeetSpans", unfollowed := true, recurses := true, apart := false }
def FnExactMeetSpansSaid : Prop := fnExactMeetSpansRow.holds Try.pinned (OpenSpec.ofChange fnExactMeetSpansSpec)

/-- ITS FALSE NEIGHBOUR: 'it returns false'. Refute it at one input. -/
def fnExactMeetSpansWrong : ChangeSpec := { name := "fnExactMeetSpans", fn := fun _ => fun
  | [d1, d2, d3] => { results := [.lit (.bool false)], args := [d1, d2, d3] }
  | _ => none }
def FnExactMeetSpansWrongFalsely : Prop := fnExactMeetSpansRow.holds Try.pinned (OpenSpec.ofChange fnExactMeetSpansWrong)

/-- 'laws.FnExactSpanDots': WHATEVER THE INPUT: true; the input reads as it did. -/
def fnExactSpanDotsSpec : ChangeSpec := { name := "fnExactSpanDots", fn := fun _ => fun
  | [d] => { results := [.lit (.bool true)], args := [d] }
  | _ => none }
def fnExactSpanDotsRow : OpenClaim := { program := "ytccjfljmmdlngaa", sum := "9be36a5335c844cb8c66915bb2e7b7d5f1bdc6afae20afdf7a906c95cccd931e", func := "loop.example/g00987/laws.FnExactSpanDots", spec := "fnExactSpanDots", unfollowed := true, recurses := true, apart := false }
def FnExactSpanDotsSaid : Prop := fnExactSpanDotsRow.holds Try.pinned (OpenSpec.ofChange fnExactSpanDotsSpec)

/-- ITS FALSE NEIGHBOUR: 'it returns false'. Refute it at one input. -/
def fnExactSpanDotsWrong : ChangeSpec := { name := "fnExactSpanDots", fn := fun _ => fun
  | [d] => { results := [.lit (.bool false)], args := [d] }
  | _ => none }
def FnExactSpanDotsWrongFalsely : Prop := fnExactSpanDotsRow.holds Try.pinned (OpenSpec.ofChange fnExactSpanDotsWrong)

/-- 'laws.FnExactInSpans': WHATEVER THE INPUT: true; the input reads as it did. -/
def fnExactInSpansSpec : ChangeSpec := { name := "fnExactInSpans", fn := fun _ => fun
  | [d1, d2] => { results := [.lit (.bool true)], args := [d1, d2] }
  | _ => none }
def fnExactInSpansRow : OpenClaim := { program := "ytccjfljmmdlngaa", sum := "9be36a5335c844cb8c66915bb2e7b7d5f1bdc6afae20afdf7a906c95cccd931e", func := "loop.example/g00987/laws.FnExactInSpans", spec := "fnExactInSpans", unfollowed := true, recurses := true, apart := false }
def FnExactInSpansSaid : Prop := fnExactInSpansRow.holds Try.pinned (OpenSpec.ofChange fnExactInSpansSpec)

/-- ITS FALSE NEIGHBOUR: 'it returns false'. Refute it at one input. -/
def fnExactInSpansWrong : ChangeSpec := { name := "fnExactInSpans", fn := fun _ => fun
  | [d1, d2] => { results := [.lit (.bool false)], args := [d1, d2] }
  | _ => none }
def FnExactInSpansWrongFalsely : Prop := fnExactInSpansRow.holds Try.pinned (OpenSpec.ofChange fnExactInSpansWrong)

/- THE SECOND FORM. 'bulk': how many values and letters a reading holds, each counted each time it is reached (what is shared counts as often as it is met; a slice's spare places count too). A statement '..UptoSaid' is the law's where the arguments, and the package variables that the reading takes, are together of bulk at most 1048576: NARROWER than '..Said'. Prove '..Said' where nothing that the law and all that it calls make is longer than what came in: it says more and counts as full. Else prove '..UptoSaid'. A law counts once. -/
mutual
def uptoBulk {H : Type} : DataW H → Nat
  | .lit (.string bytes) => bytes.length + 1
  | .lit _ => 1
  | .nil => 1
  | .ptr d => uptoBulk d + 1
  | .slice elems spare => uptoBulkAll elems + uptoBulkAll spare + 1
  | .agg parts => uptoBulkAll parts + 1
  | .iface _ d => uptoBulk d + 1
  | .map entries => uptoBulkEntries entries + 1
  | .held _ => 1
def uptoBulkAll {H : Type} : List (DataW H) → Nat
  | [] => 0
  | d :: r => uptoBulk d + uptoBulkAll r
def uptoBulkEntries {H : Type} : List (Lit × DataW H) → Nat
  | [] => 0
  | x :: r => uptoBulkEntry x + uptoBulkEntries r
def uptoBulkEntry {H : Type} : Lit × DataW H → Nat
  | (.string bytes, d) => bytes.length + uptoBulk d + 1
  | (_, d) => uptoBulk d + 1
 end
def uptoSmall : (H : Type) → List (DataW H) → Bool := fun _ ds => decide (uptoBulkAll ds ≤ 1048576)
def OpenSpec.upto (s : _root_.Go.ChangeSpec) : _root_.Go.OpenSpec := { _root_.Go.OpenSpec.ofChange s with cond := some uptoSmall }

/-- 'laws.FnSpans', WHERE WHAT IT READS IS OF BULK AT MOST 1048576: true; the input reads as it did. -/
def fnSpansUptoRow : OpenClaim := { program := "ytccjfljmmdlngaa", sum := "9be36a5335c844cb8c66915bb2e7b7d5f1bdc6afae20afdf7a906c95cccd931e", func := "loop.example/g00987/laws.FnSpans", spec := "fnSpans", inPlace := ["slices.overlaps[int]"], unfollowed := true, recurses := true, apart := false, narrowed := true }
def FnSpansUptoSaid : Prop := fnSpansUptoRow.holds Try.pinned (OpenSpec.upto fnSpansSpec)

/-- 'laws.FnMeets', WHERE WHAT IT READS IS OF BULK AT MOST 1048576: true; the input reads as it did. -/
def fnMeetsUptoRow : OpenClaim := { program := "ytccjfljmmdlngaa", sum := "9be36a5335c844cb8c66915bb2e7b7d5f1bdc6afae20afdf7a906c95cccd931e", func := "loop.example/g00987/laws.FnMeets", spec := "fnMeets", unfollowed := true, recurses := true, apart := false, narrowed := true }
def FnMeetsUptoSaid : Prop := fnMeetsUptoRow.holds Try.pinned (OpenSpec.upto fnMeetsSpec)

/-- 'laws.FnExactSpansOk', WHERE WHAT IT READS IS OF BULK AT MOST 1048576: true; the input reads as it did. -/
def fnExactSpansOkUptoRow : OpenClaim := { program := "ytccjfljmmdlngaa", sum := "9be36a5335c844cb8c66915bb2e7b7d5f1bdc6afae20afdf7a906c95cccd931e", func := "loop.example/g00987/laws.FnExactSpansOk", spec := "fnExactSpansOk", unfollowed := true, recurses := true, apart := false, narrowed := true }
def FnExactSpansOkUptoSaid : Prop := fnExactSpansOkUptoRow.holds Try.pinned (OpenSpec.upto fnExactSpansOkSpec)

/-- 'laws.FnExactSpansAt', WHERE WHAT IT READS IS OF BULK AT MOST 1048576: true; the input reads as it did. -/
def fnExactSpansAtUptoRow : OpenClaim := { program := "ytccjfljmmdlngaa", sum := "9be36a5335c844cb8c66915bb2e7b7d5f1bdc6afae20afdf7a906c95cccd931e", func := "loop.example/g00987/laws.FnExactSpansAt", spec := "fnExactSpansAt", inPlace := ["slices.overlaps[int]"], unfollowed := true, recurses := true, apart := false, narrowed := true }
def FnExactSpansAtUptoSaid : Prop := fnExactSpansAtUptoRow.holds Try.pinned (OpenSpec.upto fnExactSpansAtSpec)

/-- 'laws.FnExactMeetSpans', WHERE WHAT IT READS IS OF BULK AT MOST 1048576: true; the input reads as it did. -/
def fnExactMeetSpansUptoRow : OpenClaim := { program := "ytccjfljmmdlngaa", sum := "9be36a5335c844cb8c66915bb2e7b7d5f1bdc6afae20afdf7a906c95cccd931e", func := "loop.example/g00987/laws.FnExactMeetSpans", spec := "fnExactMeetSpans", unfollowed := true, recurses := true, apart := false, narrowed := true }
def FnExactMeetSpansUptoSaid : Prop := fnExactMeetSpansUptoRow.holds Try.pinned (OpenSpec.upto fnExactMeetSpansSpec)

/-- 'laws.FnExactSpanDots', WHERE WHAT IT READS IS OF BULK AT MOST 1048576: true; the input reads as it did. -/
def fnExactSpanDotsUptoRow : OpenClaim := { program := "ytccjfljmmdlngaa", sum := "9be36a5335c844cb8c66915bb2e7b7d5f1bdc6afae20afdf7a906c95cccd931e", func := "loop.example/g00987/laws.FnExactSpanDots", spec := "fnExactSpanDots", unfollowed := true, recurses := true, apart := false, narrowed := true }
def FnExactSpanDotsUptoSaid : Prop := fnExactSpanDotsUptoRow.holds Try.pinned (OpenSpec.upto fnExactSpanDotsSpec)

/-- 'laws.FnExactInSpans', WHERE WHAT IT READS IS OF BULK AT MOST 1048576: true; the input reads as it did. -/
def fnExactInSpansUptoRow : OpenClaim := { program := "ytccjfljmmdlngaa", sum := "9be36a5335c844cb8c66915bb2e7b7d5f1bdc6afae20afdf7a906c95cccd931e", func := "loop.example/g00987/laws.FnExactInSpans", spec := "fnExactInSpans", unfollowed := true, recurses := true, apart := false, narrowed := true }
def FnExactInSpansUptoSaid : Prop := fnExactInSpansUptoRow.holds Try.pinned (OpenSpec.upto fnExactInSpansSpec)

end Rows
end Go.Proofs.Ytccjfljmmdlngaa
