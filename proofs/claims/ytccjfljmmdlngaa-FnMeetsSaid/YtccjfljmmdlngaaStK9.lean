/-
  A region that draws its order and only reads, walked once in the text's order: the world behind the draw is given a letter, what is known of it is handed over.
-/
import Derived.Test.YtccjfljmmdlngaaKit
import Derived.StillTailTactics
import Derived.Deep.QuietTactic
import Derived.BigQuiet
namespace Go.Proofs.Ytccjfljmmdlngaa.Ins
open Go.ChangeShapes Go.WideShapes Go.ChangeAt Go.RowKit
set_option linter.unusedVariables false
set_option linter.unusedSimpArgs false
set_option linter.unnecessarySimpa false
theorem region_reads {P : Program} {id : Nat} {Q : Exit → Act → World → Prop} {a : Act} {w : World} {l : List Oper} (F : World → Prop) (hm : P.follows .mixedOrders = true) (hB : Region.lexB .any l.toArray = true)
    (hF : F w.drew) (h : ∀ wd, F wd → wpStill P l.toArray wd (fun b => Q .normal b wd) l a) : (Code.region id l.toArray true).wp P Q a w :=
  wp_region_still_lit hm hB (h w.drew hF)
/-- A world of which some facts are known is given a letter, at any goal. -/
theorem gen_any9 {p : World → Prop} {w : World} (F : World → Prop) (hF : F w) (h : ∀ W, F W → p W) : p w := h w hF
theorem drew_on {w wr : World} (h : Below w.heap.size w wr) : Below w.heap.size w wr.drew := h.trans ⟨rfl, rfl, rfl, Nat.le_refl _, fun _ _ => rfl⟩
theorem drewN_on {w wr : World} (h : Below w.heap.size w wr) (q : Nat) : Below w.heap.size w (wr.drewN q) := h.trans ⟨rfl, rfl, rfl, Nat.le_refl _, fun _ _ => rfl⟩
end Go.Proofs.Ytccjfljmmdlngaa.Ins
