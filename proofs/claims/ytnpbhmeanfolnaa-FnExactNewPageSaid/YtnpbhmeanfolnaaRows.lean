/-
  No cell of these rows narrows 'for every input' (looked for: loops, veiled, ifaces, maps, wideKeys, modest, calm, conditions, laid).
  DERIVED. THE GIVEN ROWS OF THIS SEAT. 9 by the template 'for every input the law returns true; each argument reads behind the call as it read before'; 0 by the template 'total and deterministic' (their statements: YtnpbhmeanfolnaaTotals.lean).
  GIVEN WITH THE SEED: the statements are not yours to turn. If you find one false, say at which input.
  Laid BY PROGRAM, IN A SANDBOX (cutbox-rows.mjs): the forced cells as the released guide's own fill.sh prints them over the translation 0cee0999e0e5b6e2… (all of the seat's roots in one cut). By AI agents, Wed Nov 11 2026. No macro, syntax, notation, axiom, sorry.
-/
import Derived.Test.YtnpbhmeanfolnaaChecked
import GoSem.Claim
import GoSem.ClaimJoined
import GoSem.ClaimMapViews
import Derived.JoinedTies
import Derived.KernelRfl
namespace Go.Proofs.Ytnpbhmeanfolnaa
/- THE CELL 'sum', in the pinned program and in every row, IS THE sha256 OF THE DUMP (.gsa) THAT YtnpbhmeanfolnaaProg.lean LOADS. Nothing in Lean hashes anything: it is a label: what it is worth is what the hold of that sum in a sandbox is worth. -/
noncomputable def Try.pinned : Pinned := { name := "ytnpbhmeanfolnaa", sum := "0cee0999e0e5b6e2f5ffbfa76152b06ebeb2da55809b230950e66069ffa16072", checked := Try.checked }
namespace Rows
def none {H : Type} : Left H := { results := [], args := [] }

/-- 'laws.FnStacks': WHATEVER THE INPUT: true; the input reads as it did. -/
def fnStacksSpec : ChangeSpec := { name := "fnStacks", fn := fun _ => fun
  | [d] => { results := [.lit (.bool true)], args := [d] }
  | _ => none }
def fnStacksRow : OpenClaim := { program := "ytnpbhmeanfolnaa", sum := "0cee0999e0e5b6e2f5ffbfa76152b06ebeb2da55809b230950e66069ffa16072", func := "loop.example/g00987/laws.FnStacks", spec := "fnStacks", unfollowed := true, recurses := true, apart := false }
def FnStacksSaid : Prop := fnStacksRow.holds Try.pinned (OpenSpec.ofChange fnStacksSpec)

/-- ITS FALSE NEIGHBOUR: 'it returns false'. Refute it at one input. -/
def fnStacksWrong : ChangeSpec := { name := "fnStacks", fn := fun _ => fun
  | [d] => { results := [.lit (.bool false)], args := [d] }
  | _ => none }
def FnStacksWrongFalsely : Prop := fnStacksRow.holds Try.pinned (OpenSpec.ofChange fnStacksWrong)

/-- 'laws.FnExactStackOk': WHATEVER THE INPUT: true; the input reads as it did. -/
def fnExactStackOkSpec : ChangeSpec := { name := "fnExactStackOk", fn := fun _ => fun
  | [d] => { results := [.lit (.bool true)], args := [d] }
  | _ => none }
def fnExactStackOkRow : OpenClaim := { program := "ytnpbhmeanfolnaa", sum := "0cee0999e0e5b6e2f5ffbfa76152b06ebeb2da55809b230950e66069ffa16072", func := "loop.example/g00987/laws.FnExactStackOk", spec := "fnExactStackOk", apart := false }
def FnExactStackOkSaid : Prop := fnExactStackOkRow.holds Try.pinned (OpenSpec.ofChange fnExactStackOkSpec)

/-- ITS FALSE NEIGHBOUR: 'it returns false'. Refute it at one input. -/
def fnExactStackOkWrong : ChangeSpec := { name := "fnExactStackOk", fn := fun _ => fun
  | [d] => { results := [.lit (.bool false)], args := [d] }
  | _ => none }
def FnExactStackOkWrongFalsely : Prop := fnExactStackOkRow.holds Try.pinned (OpenSpec.ofChange fnExactStackOkWrong)

/-- 'laws.FnExactPushNumber': WHATEVER THE INPUT: true; the input reads as it did. -/
def fnExactPushNumberSpec : ChangeSpec := { name := "fnExactPushNumber", fn := fun _ => fun
  | [d1, d2] => { results := [.lit (.bool true)], args := [d1, d2] }
  | _ => none }
def fnExactPushNumberRow : OpenClaim := { program := "ytnpbhmeanfolnaa", sum := "0cee0999e0e5b6e2f5ffbfa76152b06ebeb2da55809b230950e66069ffa16072", func := "loop.example/g00987/laws.FnExactPushNumber", spec := "fnExactPushNumber", apart := false }
def FnExactPushNumberSaid : Prop := fnExactPushNumberRow.holds Try.pinned (OpenSpec.ofChange fnExactPushNumberSpec)

/-- ITS FALSE NEIGHBOUR: 'it returns false'. Refute it at one input. -/
def fnExactPushNumberWrong : ChangeSpec := { name := "fnExactPushNumber", fn := fun _ => fun
  | [d1, d2] => { results := [.lit (.bool false)], args := [d1, d2] }
  | _ => none }
def FnExactPushNumberWrongFalsely : Prop := fnExactPushNumberRow.holds Try.pinned (OpenSpec.ofChange fnExactPushNumberWrong)

/-- 'laws.FnExactTakeNumbers': WHATEVER THE INPUT: true; the input reads as it did. -/
def fnExactTakeNumbersSpec : ChangeSpec := { name := "fnExactTakeNumbers", fn := fun _ => fun
  | [d1, d2] => { results := [.lit (.bool true)], args := [d1, d2] }
  | _ => none }
def fnExactTakeNumbersRow : OpenClaim := { program := "ytnpbhmeanfolnaa", sum := "0cee0999e0e5b6e2f5ffbfa76152b06ebeb2da55809b230950e66069ffa16072", func := "loop.example/g00987/laws.FnExactTakeNumbers", spec := "fnExactTakeNumbers", apart := false }
def FnExactTakeNumbersSaid : Prop := fnExactTakeNumbersRow.holds Try.pinned (OpenSpec.ofChange fnExactTakeNumbersSpec)

/-- ITS FALSE NEIGHBOUR: 'it returns false'. Refute it at one input. -/
def fnExactTakeNumbersWrong : ChangeSpec := { name := "fnExactTakeNumbers", fn := fun _ => fun
  | [d1, d2] => { results := [.lit (.bool false)], args := [d1, d2] }
  | _ => none }
def FnExactTakeNumbersWrongFalsely : Prop := fnExactTakeNumbersRow.holds Try.pinned (OpenSpec.ofChange fnExactTakeNumbersWrong)

/-- 'laws.FnExactIsStackOp': WHATEVER THE INPUT: true; the input reads as it did. -/
def fnExactIsStackOpSpec : ChangeSpec := { name := "fnExactIsStackOp", fn := fun _ => fun
  | [d] => { results := [.lit (.bool true)], args := [d] }
  | _ => none }
def fnExactIsStackOpRow : OpenClaim := { program := "ytnpbhmeanfolnaa", sum := "0cee0999e0e5b6e2f5ffbfa76152b06ebeb2da55809b230950e66069ffa16072", func := "loop.example/g00987/laws.FnExactIsStackOp", spec := "fnExactIsStackOp", apart := false }
def FnExactIsStackOpSaid : Prop := fnExactIsStackOpRow.holds Try.pinned (OpenSpec.ofChange fnExactIsStackOpSpec)

/-- ITS FALSE NEIGHBOUR: 'it returns false'. Refute it at one input. -/
def fnExactIsStackOpWrong : ChangeSpec := { name := "fnExactIsStackOp", fn := fun _ => fun
  | [d] => { results := [.lit (.bool false)], args := [d] }
  | _ => none }
def FnExactIsStackOpWrongFalsely : Prop := fnExactIsStackOpRow.holds Try.pinned (OpenSpec.ofChange fnExactIsStackOpWrong)

/-- 'laws.FnExactStackOp': WHATEVER THE INPUT: true; the input reads as it did. -/
def fnExactStackOpSpec : ChangeSpec := { name := "fnExactStackOp", fn := fun _ => fun
  | [d1, d2] => { results := [.lit (.bool true)], args := [d1, d2] }
  | _ => none }
def fnExactStackOpRow : OpenClaim := { program := "ytnpbhmeanfolnaa", sum := "0cee0999e0e5b6e2f5ffbfa76152b06ebeb2da55809b230950e66069ffa16072", func := "loop.example/g00987/laws.FnExactStackOp", spec := "fnExactStackOp", unfollowed := true, recurses := true, apart := false }
def FnExactStackOpSaid : Prop := fnExactStackOpRow.holds Try.pinned (OpenSpec.ofChange fnExactStackOpSpec)

/-- ITS FALSE NEIGHBOUR: 'it returns false'. Refute it at one input. -/
def fnExactStackOpWrong : ChangeSpec := { name := "fnExactStackOp", fn := fun _ => fun
  | [d1, d2] => { results := [.lit (.bool false)], args := [d1, d2] }
  | _ => none }
def FnExactStackOpWrongFalsely : Prop := fnExactStackOpRow.holds Try.pinned (OpenSpec.ofChange fnExactStackOpWrong)

/-- 'laws.FnExactNewPage': WHATEVER THE INPUT: true; the input reads as it did. -/
def fnExactNewPageSpec : ChangeSpec := { name := "fnExactNewPage", fn := fun _ => fun
  | [] => { results := [.lit (.bool true)], args := [] }
  | _ => none }
def fnExactNewPageRow : OpenClaim := { program := "ytnpbhmeanfolnaa", sum := "0cee0999e0e5b6e2f5ffbfa76152b06ebeb2da55809b230950e66069ffa16072", func := "loop.example/g00987/laws.FnExactNewPage", spec := "fnExactNewPage", apart := false }
def FnExactNewPageSaid : Prop := fnExactNewPageRow.holds Try.pinned (OpenSpec.ofChange fnExactNewPageSpec)

/-- ITS FALSE NEIGHBOUR: 'it returns false'. Refute it at one input. -/
def fnExactNewPageWrong : ChangeSpec := { name := "fnExactNewPage", fn := fun _ => fun
  | [] => { results := [.lit (.bool false)], args := [] }
  | _ => none }
def FnExactNewPageWrongFalsely : Prop := fnExactNewPageRow.holds Try.pinned (OpenSpec.ofChange fnExactNewPageWrong)

/-- 'laws.FnExactGraphicsOk': WHATEVER THE INPUT: true; the input reads as it did. -/
def fnExactGraphicsOkSpec : ChangeSpec := { name := "fnExactGraphicsOk", fn := fun _ => fun
  | [d] => { results := [.lit (.bool true)], args := [d] }
  | _ => none }
def fnExactGraphicsOkRow : OpenClaim := { program := "ytnpbhmeanfolnaa", sum := "0cee0999e0e5b6e2f5ffbfa76152b06ebeb2da55809b230950e66069ffa16072", func := "loop.example/g00987/laws.FnExactGraphicsOk", spec := "fnExactGraphicsOk", unfollowed := true, recurses := true, apart := false }
def FnExactGraphicsOkSaid : Prop := fnExactGraphicsOkRow.holds Try.pinned (OpenSpec.ofChange fnExactGraphicsOkSpec)

/-- ITS FALSE NEIGHBOUR: 'it returns false'. Refute it at one input. -/
def fnExactGraphicsOkWrong : ChangeSpec := { name := "fnExactGraphicsOk", fn := fun _ => fun
  | [d] => { results := [.lit (.bool false)], args := [d] }
  | _ => none }
def FnExactGraphicsOkWrongFalsely : Prop := fnExactGraphicsOkRow.holds Try.pinned (OpenSpec.ofChange fnExactGraphicsOkWrong)

/-- 'laws.FnExactPageOk': WHATEVER THE INPUT: true; the input reads as it did. -/
def fnExactPageOkSpec : ChangeSpec := { name := "fnExactPageOk", fn := fun _ => fun
  | [d] => { results := [.lit (.bool true)], args := [d] }
  | _ => none }
def fnExactPageOkRow : OpenClaim := { program := "ytnpbhmeanfolnaa", sum := "0cee0999e0e5b6e2f5ffbfa76152b06ebeb2da55809b230950e66069ffa16072", func := "loop.example/g00987/laws.FnExactPageOk", spec := "fnExactPageOk", unfollowed := true, recurses := true, apart := false }
def FnExactPageOkSaid : Prop := fnExactPageOkRow.holds Try.pinned (OpenSpec.ofChange fnExactPageOkSpec)

/-- ITS FALSE NEIGHBOUR: 'it returns false'. Refute it at one input. -/
def fnExactPageOkWrong : ChangeSpec := { name := "fnExactPageOk", fn := fun _ => fun
  | [d] => { results := [.lit (.bool false)], args := [d] }
  | _ => none }
def FnExactPageOkWrongFalsely : Prop := fnExactPageOkRow.holds Try.pinned (OpenSpec.ofChange fnExactPageOkWrong)

/- THE SECOND FORM. 'bulk': how many values and letters a reading holds, each counted each time it is reached (what is shared counts as often as it is met; a slice's spare places count too). A statement '..UptoSaid' is the law's where the arguments, and the package variables that the reading takes, are together of bulk at most 1048576: NARROWER than '..Said'. Prove '..Said' where nothing that the law and all that it calls make is longer than what came in: it says more and counts as full. Else prove '..UptoSaid'. A law counts once. -/
mutual
def uptoBulk {H : Type} : DataW H → Nat
  | .lit (.string bytes) => bytes.length + 1
  | .lit _ => 1
  | .nil => 1
  | .ptr d => uptoBulk d + 1
  | .slice elems spare => uptoBulkAll elems + uptoBulkAll spare + 1
  | .agg parts => uptoBulkAll parts + 1
  | .iface _ d => uptoBulk d + 1
  | .map entries => uptoBulkEntries entries + 1
  | .held _ => 1
def uptoBulkAll {H : Type} : List (DataW H) → Nat
  | [] => 0
  | d :: r => uptoBulk d + uptoBulkAll r
def uptoBulkEntries {H : Type} : List (Lit × DataW H) → Nat
  | [] => 0
  | x :: r => uptoBulkEntry x + uptoBulkEntries r
def uptoBulkEntry {H : Type} : Lit × DataW H → Nat
  | (.string bytes, d) => bytes.length + uptoBulk d + 1
  | (_, d) => uptoBulk d + 1
 end
def uptoSmall : (H : Type) → List (DataW H) → Bool := fun _ ds => decide (uptoBulkAll ds ≤ 1048576)
def OpenSpec.upto (s : _root_.Go.ChangeSpec) : _root_.Go.OpenSpec := { _root_.Go.OpenSpec.ofChange s with cond := some uptoSmall }

/-- 'laws.FnStacks', WHERE WHAT IT READS IS OF BULK AT MOST 1048576: true; the input reads as it did. -/
def fnStacksUptoRow : OpenClaim := { program := "ytnpbhmeanfolnaa", sum := "0cee0999e0e5b6e2f5ffbfa76152b06ebeb2da55809b230950e66069ffa16072", func := "loop.example/g00987/laws.FnStacks", spec := "fnStacks", unfollowed := true, recurses := true, apart := false, narrowed := true }
def FnStacksUptoSaid : Prop := fnStacksUptoRow.holds Try.pinned (OpenSpec.upto fnStacksSpec)

/-- 'laws.FnExactStackOk', WHERE WHAT IT READS IS OF BULK AT MOST 1048576: true; the input reads as it did. -/
def fnExactStackOkUptoRow : OpenClaim := { program := "ytnpbhmeanfolnaa", sum := "0cee0999e0e5b6e2f5ffbfa76152b06ebeb2da55809b230950e66069ffa16072", func := "loop.example/g00987/laws.FnExactStackOk", spec := "fnExactStackOk", apart := false, narrowed := true }
def FnExactStackOkUptoSaid : Prop := fnExactStackOkUptoRow.holds Try.pinned (OpenSpec.upto fnExactStackOkSpec)

/-- 'laws.FnExactPushNumber', WHERE WHAT IT READS IS OF BULK AT MOST 1048576: true; the input reads as it did. -/
def fnExactPushNumberUptoRow : OpenClaim := { program := "ytnpbhmeanfolnaa", sum := "0cee0999e0e5b6e2f5ffbfa76152b06ebeb2da55809b230950e66069ffa16072", func := "loop.example/g00987/laws.FnExactPushNumber", spec := "fnExactPushNumber", apart := false, narrowed := true }
def FnExactPushNumberUptoSaid : Prop := fnExactPushNumberUptoRow.holds Try.pinned (OpenSpec.upto fnExactPushNumberSpec)

/-- 'laws.FnExactTakeNumbers', WHERE WHAT IT READS IS OF BULK AT MOST 1048576: true; the input reads as it did. -/
def fnExactTakeNumbersUptoRow : OpenClaim := { program := "ytnpbhmeanfolnaa", sum := "0cee0999e0e5b6e2f5ffbfa76152b06ebeb2da55809b230950e66069ffa16072", func := "loop.example/g00987/laws.FnExactTakeNumbers", spec := "fnExactTakeNumbers", apart := false, narrowed := true }
def FnExactTakeNumbersUptoSaid : Prop := fnExactTakeNumbersUptoRow.holds Try.pinned (OpenSpec.upto fnExactTakeNumbersSpec)

/-- 'laws.FnExactIsStackOp', WHERE WHAT IT READS IS OF BULK AT MOST 1048576: true; the input reads as it did. -/
def fnExactIsStackOpUptoRow : OpenClaim := { program := "ytnpbhmeanfolnaa", sum := "0cee0999e0e5b6e2f5ffbfa76152b06ebeb2da55809b230950e66069ffa16072", func := "loop.example/g00987/laws.FnExactIsStackOp", spec := "fnExactIsStackOp", apart := false, narrowed := true }
def FnExactIsStackOpUptoSaid : Prop := fnExactIsStackOpUptoRow.holds Try.pinned (OpenSpec.upto fnExactIsStackOpSpec)

/-- 'laws.FnExactStackOp', WHERE WHAT IT READS IS OF BULK AT MOST 1048576: true; the input reads as it did. -/
def fnExactStackOpUptoRow : OpenClaim := { program := "ytnpbhmeanfolnaa", sum := "0cee0999e0e5b6e2f5ffbfa76152b06ebeb2da55809b230950e66069ffa16072", func := "loop.example/g00987/laws.FnExactStackOp", spec := "fnExactStackOp", unfollowed := true, recurses := true, apart := false, narrowed := true }
def FnExactStackOpUptoSaid : Prop := fnExactStackOpUptoRow.holds Try.pinned (OpenSpec.upto fnExactStackOpSpec)

/-- 'laws.FnExactNewPage', WHERE WHAT IT READS IS OF BULK AT MOST 1048576: true; the input reads as it did. -/
def fnExactNewPageUptoRow : OpenClaim := { program := "ytnpbhmeanfolnaa", sum := "0cee0999e0e5b6e2f5ffbfa76152b06ebeb2da55809b230950e66069ffa16072", func := "loop.example/g00987/laws.FnExactNewPage", spec := "fnExactNewPage", apart := false, narrowed := true }
def FnExactNewPageUptoSaid : Prop := fnExactNewPageUptoRow.holds Try.pinned (OpenSpec.upto fnExactNewPageSpec)

/-- 'laws.FnExactGraphicsOk', WHERE WHAT IT READS IS OF BULK AT MOST 1048576: true; the input reads as it did. -/
def fnExactGraphicsOkUptoRow : OpenClaim := { program := "ytnpbhmeanfolnaa", sum := "0cee0999e0e5b6e2f5ffbfa76152b06ebeb2da55809b230950e66069ffa16072", func := "loop.example/g00987/laws.FnExactGraphicsOk", spec := "fnExactGraphicsOk", unfollowed := true, recurses := true, apart := false, narrowed := true }
def FnExactGraphicsOkUptoSaid : Prop := fnExactGraphicsOkUptoRow.holds Try.pinned (OpenSpec.upto fnExactGraphicsOkSpec)

/-- 'laws.FnExactPageOk', WHERE WHAT IT READS IS OF BULK AT MOST 1048576: true; the input reads as it did. -/
def fnExactPageOkUptoRow : OpenClaim := { program := "ytnpbhmeanfolnaa", sum := "0cee0999e0e5b6e2f5ffbfa76152b06ebeb2da55809b230950e66069ffa16072", func := "loop.example/g00987/laws.FnExactPageOk", spec := "fnExactPageOk", unfollowed := true, recurses := true, apart := false, narrowed := true }
def FnExactPageOkUptoSaid : Prop := fnExactPageOkUptoRow.holds Try.pinned (OpenSpec.upto fnExactPageOkSpec)

end Rows
end Go.Proofs.Ytnpbhmeanfolnaa
