/-
  A region that draws its order, in a round of a loop over an iterator: its first operations only read (in whatever order they come they yield the same), the rest follow one after the other.
-/
import Derived.Test.YtccjfljmmdlngaaRf9
import Derived.StillTailTactics
namespace Go.Proofs.Ytccjfljmmdlngaa.Ins
open Go.ChangeShapes Go.WideShapes Go.ChangeAt Go.RowKit
set_option linter.unusedVariables false
set_option linter.unusedSimpArgs false
set_option linter.unnecessarySimpa false
section
variable {P : Program} {w : World} {l0 m : Nat}
/-- No operation defers a call. -/
def plainOp (o : Oper) : Bool := match o.op with
  | .defer _ => false
  | _ => true
theorem semAt_plainOp {o : Oper} (h : plainOp o = true) (ro : Option Nat) (ρ : Operand → Value) : Oper.semAt ro ρ o = execOp ρ o :=
  Oper.semAt_eq ro ρ o fun c e => by unfold plainOp at h; rw [e] at h; cases h
/-- What only reads goes through in a round as well. -/
theorem reads_in_round {o : Oper} {a : Act} {K : Act → Prop} {K2 : Act → World → Prop} {Q : Exit → Act → World → Prop} (hp : plainOp o = true) (hK : ∀ b, K b → K2 b w) (hs : o.still P a w K) :
    o.wpIn (Fence.wide.inRound l0) m P a w K2 Q := by
  show (∀ f, _ → True) ∧ o.uponIn _ _ _ _ _ _ _
  rw [semAt_plainOp hp]
  refine ⟨fun _ _ => trivial, ?_⟩
  have hs : o.stillUpon P a w K ((execOp a.eval o).run P w) := hs
  revert hs
  generalize (execOp a.eval o).run P w = r
  intro hs
  match r, hs with
  | .ok (.value v) _, ⟨rfl, h⟩ => exact hK _ h
  | .ok .skip _, ⟨rfl, h⟩ => exact hK _ h
  | .ok (.enter f args) _, ⟨rfl, v, hc, h⟩ =>
    refine ⟨fun e => by simp [Fence.wide, Fence.inRound] at e, CallsIn.inRound l0 ((callsIn_wide.2 hc).mono ?_)⟩
    rintro e w2 ⟨rfl, rfl⟩
    exact hK _ h
theorem reads_at {ops : Array Oper} (hp : ∀ o ∈ ops, plainOp o = true) {i : Nat} {a : Act} {K : Act → Prop} {K2 : Act → World → Prop} {Q : Exit → Act → World → Prop} (hK : ∀ b, K b → K2 b w) (hs : stOp P ops w i K a) :
    wpOpIn (Fence.wide.inRound l0) m P ops Q i K2 a w := by
  cases ho : ops[i]? with
  | none => simp only [stOp, ho] at hs; simp only [wpOpIn, ho]; exact hK _ hs
  | some o =>
    have hpo := hp o (Array.mem_of_getElem? ho)
    simp only [stOp, ho] at hs
    simp only [wpOpIn, ho]
    by_cases hw : Region.wanted o (yielded ops a.tmps) = true
    · rw [if_pos hw] at hs ⊢; exact reads_in_round hpo hK hs
    · rw [if_neg hw] at hs ⊢; exact ⟨fun _ _ => trivial, hK _ hs⟩
/-- The operations that only read, in whatever order; then what L leaves. -/
theorem head_in_round {ops : Array Oper} {md : Region.Mode} {n g : Nat} {L : Array Bool → Act → Prop} {Q : Exit → Act → World → Prop} (hp : ∀ o ∈ ops, plainOp o = true)
    (hL : ∀ done b, L done b → wpAnyIn (Fence.wide.inRound l0) m P md ops Q g done b w) (f : Nat) : ∀ (done : Array Bool) (a : Act), wpAnyL P md ops w n L f done a → wpAnyIn (Fence.wide.inRound l0) m P md ops Q (f + g) done a w := by
  induction f with
  | zero => intro done a h; rw [Nat.zero_add]; exact hL _ _ h
  | succ f ih =>
    intro done a h
    obtain ⟨hne, hall⟩ := h
    rw [Nat.add_right_comm]
    refine ⟨fun e => (hne e).elim, fun i hi => reads_at hp (fun b hb => ih _ b hb) (hall i hi).2⟩
/-- The rest, whose order is forced. -/
theorem tail_in_round {ops : Array Oper} {md : Region.Mode} {Q : Exit → Act → World → Prop} (l : List Oper) : ∀ (k : Nat) (done : Array Bool) (a : Act) (V : World), (∀ j, l[j]? = ops[k + j]?) → Region.seqB md ops l.length k done = true →
    wpListIn (Fence.wide.inRound l0) m P ops Q l a V → wpAnyIn (Fence.wide.inRound l0) m P md ops Q l.length done a V := by
  induction l with
  | nil =>
    intro k done a V _ hB h
    have hB : (Region.ready md ops done).isEmpty = true := hB
    exact ⟨List.isEmpty_iff.1 hB, h⟩
  | cons o l ih =>
    intro k done a V hl hB h
    have hB : (decide (Region.ready md ops done = [k]) && Region.seqB md ops l.length (k + 1) (done.setIfInBounds k true)) = true := hB
    rw [Bool.and_eq_true, decide_eq_true_eq] at hB
    obtain ⟨hr, hB2⟩ := hB
    have ho : ops[k]? = some o := (hl 0).symm
    refine ⟨fun e => (by rw [hr] at e; cases e), fun i hi => ?_⟩
    rw [hr, List.mem_singleton] at hi
    rw [hi]
    refine wpOpIn_mono (fun b V2 hb => ih (k + 1) _ b V2 (fun j => ?_) hB2 hb) (K := wpListIn (Fence.wide.inRound l0) m P ops Q l) ?_
    · rw [Nat.add_right_comm, Nat.add_assoc]; exact hl (j + 1)
    · unfold wpOpIn; rw [ho]; exact h
/-- What the text's order of the reading operations gives: every order of them. -/
theorem head_any {l : List Oper} {n : Nat} {a : Act} {V : World} {Lq : Act → Prop} (hB : Region.lexTailB .any l.toArray n = true) (h : wpStill P l.toArray V Lq (l.take n) a) :
    n < l.length ∧ wpAnyL P .any l.toArray V n (fun done b => Region.seqB .any l.toArray (l.length - n) n done = true ∧ Lq b) n (Array.replicate l.length false) a := by
  unfold Region.lexTailB at hB
  simp only [Bool.and_eq_true, decide_eq_true_eq, List.size_toArray] at hB
  have hn := hB.1.1.1.2
  have hlen : (l.take n).length = n := List.length_take_of_le (Nat.le_of_lt hn)
  refine ⟨hn, ?_⟩
  have start : HeadInv .any l.toArray n (Array.replicate l.length false) := by
    constructor
    · simp
    · intro j oj _ hj; rw [getD_replicate_false] at hj; cases hj
    · intro t _ ht; exact getD_in (by simpa using ht) (getD_replicate_false _ _)
  have key := wpAnyL_lex hB.1.1.1.1 hB.1.1.2 hB.1.2 (by simpa using hn) (l.take n) 0 (Array.replicate l.length false) a (fun j hj => ?_) (by rw [hlen, Nat.zero_add]) start (by rw [hlen]; exact hB.2) h
  · rwa [hlen] at key
  · rw [hlen] at hj
    rw [List.getElem?_take, if_pos hj, Nat.zero_add, List.getElem?_toArray]
theorem regionIn_tail {id : Nat} {Q : Exit → Act → World → Prop} {a : Act} {l : List Oper} (n : Nat) (hm : P.follows .mixedOrders = true) (hB : Region.lexTailB .any l.toArray n = true) (hd : l.all plainOp = true)
    (h : wpStill P l.toArray w.drew (fun b => wpListIn (Fence.wide.inRound l0) m P l.toArray Q (l.drop n) b w.drew) (l.take n) a) : (Code.region id l.toArray true).wpIn (Fence.wide.inRound l0) m P Q a w := by
  obtain ⟨hn, key⟩ := head_any hB h
  have hp : ∀ o ∈ l.toArray, plainOp o = true := fun o ho => List.all_eq_true.1 hd o (by simpa using ho)
  have all := head_in_round (l0 := l0) (m := m) (Q := Q) (g := l.length - n) hp (fun done b hb => ?_) n _ _ key
  · rw [show n + (l.length - n) = l.length by omega] at all
    exact wpIn_region_any hm (by rw [List.size_toArray]; exact all)
  · have := tail_in_round (l0 := l0) (m := m) (Q := Q) (md := .any) (ops := l.toArray) (l.drop n) n done b w.drew (fun j => by rw [List.getElem?_drop, List.getElem?_toArray]) (by rw [List.length_drop]; exact hb.1) hb.2
    rwa [List.length_drop] at this
end
end Go.Proofs.Ytccjfljmmdlngaa.Ins
