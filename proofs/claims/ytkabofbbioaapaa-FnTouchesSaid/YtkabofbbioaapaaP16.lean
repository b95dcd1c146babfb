/-
  Texts of this seat, laid together: Stack, St9, Lw8, DrawPlus, DrawPt
-/
import Derived.StillTailTactics
import Derived.Deep.AppendLies
import Derived.Test.YtkabofbbioaapaaP12
import Derived.Test.YtkabofbbioaapaaP02
import Derived.Test.YtkabofbbioaapaaP22
import Derived.Test.YtkabofbbioaapaaP13
import Derived.Test.YtkabofbbioaapaaP28
import Derived.Test.YtkabofbbioaapaaP01
namespace Go.Proofs.Ytkabofbbioaapaa.Stack
open Go.ChangeShapes Go.WideShapes Go.ChangeAt Go.RowKit
open Kit Slabs Ints
set_option linter.unusedVariables false
set_option linter.unusedSimpArgs false
set_option linter.unnecessarySimpa false
set_option maxRecDepth 100000
def Rd (w : World) (v : Value) (n : Nat) (X : Nat → Int) : Prop :=
  ∃ (a : Option Addr) (cap : Nat), v = .slice a n cap ∧ n ≤ cap ∧ (n = 0 ∨ ∃ g o, a = some ⟨g, o, none⟩ ∧ g < w.heap.size ∧ ∀ i, i < n → w.cell? ⟨g, o + i, none⟩ = some (.int .i64 (X i)))
theorem Rd.of_slab {w : World} {B n : Nat} {v : Value} {X : Nat → Int} (h : Slab w B v n 1 (ic X)) : Rd w v n X := by
  obtain ⟨a, cap, hv, hc, h⟩ := h
  refine ⟨a, cap, hv, hc, ?_⟩
  rcases h with h | ⟨g, ha, _, h2, _, h4⟩
  · exact .inl h
  · exact .inr ⟨g, 0, ha, h2, fun i hi => by have := h4 i hi 0 _ rfl; simpa using this⟩
theorem Rd.on {w w' : World} {v : Value} {n : Nat} {X : Nat → Int} (h : Rd w v n X) (hb : Below w.heap.size w w') : Rd w' v n X := by
  obtain ⟨a, cap, hv, hc, h⟩ := h
  refine ⟨a, cap, hv, hc, ?_⟩
  rcases h with h | ⟨g, o, ha, h2, h4⟩
  · exact .inl h
  · exact .inr ⟨g, o, ha, Nat.lt_of_lt_of_le h2 hb.size, fun i hi => (hb.cell (p := ⟨g, _, none⟩) h2).trans (h4 i hi)⟩
theorem Rd.part {w : World} {a : Option Addr} {cap n : Nat} {X : Nat → Int} (h : Rd w (.slice a n cap) n X) (i m : Nat) (him : i + m ≤ n) (hm : m ≠ 0) : ∃ g o, a = some ⟨g, o, none⟩ ∧ Rd w (.slice (some ⟨g, o + i, none⟩) m (cap - i)) m (fun j => X (i + j)) := by
  obtain ⟨a', cap', hv, hc, h⟩ := h
  injection hv with h1 h2 h3
  subst h1; subst h3
  rcases h with h | ⟨g, o, ha, h2, h4⟩
  · omega
  · exact ⟨g, o, ha, _, _, rfl, by omega, .inr ⟨g, o + i, rfl, h2, fun j hj => by have := h4 (i + j) (by omega); rw [Nat.add_assoc]; exact this⟩⟩
theorem flat_ic (X : Nat → Int) (n j : Nat) (h : j < n) : (flat (ic X) n)[j]? = some (.int .i64 (X j)) := by
  have := flat_get (ic_len X) (n := n) (i := j) (j := 0) h (by omega)
  simpa [ic] using this
theorem flat_ic_len (X : Nat → Int) (n : Nat) : (flat (ic X) n).length = n := by
  have := flat_length (ic_len X) n; simpa using this
theorem flat_one (X : Nat → Int) (n : Nat) : ∀ u ∈ flat (ic X) n, u.oneCell' = true := by
  intro u hu
  obtain ⟨j, hj, rfl⟩ := List.mem_iff_getElem.1 hu
  have hn : j < n := by rw [flat_ic_len] at hj; exact hj
  have h1 := flat_ic X n j hn
  rw [List.getElem?_eq_getElem hj] at h1
  rw [Option.some.inj h1]; simp [Value.oneCell']
def numsB (X : Nat → Int) (n : Nat) : Bool := (List.range n).all fun i => decide (-9999 ≤ X i ∧ X i ≤ 9999)
def stB (X : Nat → Int) (n : Nat) : Bool := decide (n ≤ 12) && numsB X n
theorem numsB_succ (X : Nat → Int) (n : Nat) : numsB X (n + 1) = (numsB X n && decide (-9999 ≤ X n ∧ X n ≤ 9999)) := by
  simp [numsB, List.range_succ]
theorem numsB_iff (X : Nat → Int) (n : Nat) : numsB X n = true ↔ ∀ i, i < n → -9999 ≤ X i ∧ X i ≤ 9999 := by
  simp [numsB, List.all_eq_true]
theorem numsB_no {X : Nat → Int} {n i : Nat} (hi : i < n) (h : ¬ (-9999 ≤ X i ∧ X i ≤ 9999)) : numsB X n = false := by
  rw [← Bool.not_eq_true, numsB_iff]; exact fun h2 => h (h2 i hi)
end Go.Proofs.Ytkabofbbioaapaa.Stack
namespace Go.Proofs.Ytkabofbbioaapaa.Ins
open Go.ChangeShapes Go.WideShapes Go.ChangeAt Go.RowKit
set_option linter.unusedVariables false
set_option linter.unusedSimpArgs false
set_option linter.unnecessarySimpa false
section
variable {P : Program} {w : World} {l0 m : Nat}
def plainOp (o : Oper) : Bool := match o.op with
  | .defer _ => false
  | _ => true
theorem semAt_plainOp {o : Oper} (h : plainOp o = true) (ro : Option Nat) (ρ : Operand → Value) : Oper.semAt ro ρ o = execOp ρ o :=
  Oper.semAt_eq ro ρ o fun c e => by unfold plainOp at h; rw [e] at h; cases h
theorem reads_in_round {o : Oper} {a : Act} {K : Act → Prop} {K2 : Act → World → Prop} {Q : Exit → Act → World → Prop} (hp : plainOp o = true) (hK : ∀ b, K b → K2 b w) (hs : o.still P a w K) :
    o.wpIn (Fence.wide.inRound l0) m P a w K2 Q := by
  show (∀ f, _ → True) ∧ o.uponIn _ _ _ _ _ _ _
  rw [semAt_plainOp hp]
  refine ⟨fun _ _ => trivial, ?_⟩
  have hs : o.stillUpon P a w K ((execOp a.eval o).run P w) := hs
  revert hs
  generalize (execOp a.eval o).run P w = r
  intro hs
  match r, hs with
  | .ok (.value v) _, ⟨rfl, h⟩ => exact hK _ h
  | .ok .skip _, ⟨rfl, h⟩ => exact hK _ h
  | .ok (.enter f args) _, ⟨rfl, v, hc, h⟩ =>
    refine ⟨fun e => by simp [Fence.wide, Fence.inRound] at e, CallsIn.inRound l0 ((callsIn_wide.2 hc).mono ?_)⟩
    rintro e w2 ⟨rfl, rfl⟩
    exact hK _ h
theorem reads_at {ops : Array Oper} (hp : ∀ o ∈ ops, plainOp o = true) {i : Nat} {a : Act} {K : Act → Prop} {K2 : Act → World → Prop} {Q : Exit → Act → World → Prop} (hK : ∀ b, K b → K2 b w) (hs : stOp P ops w i K a) :
    wpOpIn (Fence.wide.inRound l0) m P ops Q i K2 a w := by
  cases ho : ops[i]? with
  | none => simp only [stOp, ho] at hs; simp only [wpOpIn, ho]; exact hK _ hs
  | some o =>
    have hpo := hp o (Array.mem_of_getElem? ho)
    simp only [stOp, ho] at hs
    simp only [wpOpIn, ho]
    by_cases hw : Region.wanted o (yielded ops a.tmps) = true
    · rw [if_pos hw] at hs ⊢; exact reads_in_round hpo hK hs
    · rw [if_neg hw] at hs ⊢; exact ⟨fun _ _ => trivial, hK _ hs⟩
theorem head_in_round {ops : Array Oper} {md : Region.Mode} {n g : Nat} {L : Array Bool → Act → Prop} {Q : Exit → Act → World → Prop} (hp : ∀ o ∈ ops, plainOp o = true)
    (hL : ∀ done b, L done b → wpAnyIn (Fence.wide.inRound l0) m P md ops Q g done b w) (f : Nat) : ∀ (done : Array Bool) (a : Act), wpAnyL P md ops w n L f done a → wpAnyIn (Fence.wide.inRound l0) m P md ops Q (f + g) done a w := by
  induction f with
  | zero => intro done a h; rw [Nat.zero_add]; exact hL _ _ h
  | succ f ih =>
    intro done a h
    obtain ⟨hne, hall⟩ := h
    rw [Nat.add_right_comm]
    refine ⟨fun e => (hne e).elim, fun i hi => reads_at hp (fun b hb => ih _ b hb) (hall i hi).2⟩
theorem tail_in_round {ops : Array Oper} {md : Region.Mode} {Q : Exit → Act → World → Prop} (l : List Oper) : ∀ (k : Nat) (done : Array Bool) (a : Act) (V : World), (∀ j, l[j]? = ops[k + j]?) → Region.seqB md ops l.length k done = true →
    wpListIn (Fence.wide.inRound l0) m P ops Q l a V → wpAnyIn (Fence.wide.inRound l0) m P md ops Q l.length done a V := by
  induction l with
  | nil =>
    intro k done a V _ hB h
    have hB : (Region.ready md ops done).isEmpty = true := hB
    exact ⟨List.isEmpty_iff.1 hB, h⟩
  | cons o l ih =>
    intro k done a V hl hB h
    have hB : (decide (Region.ready md ops done = [k]) && Region.seqB md ops l.length (k + 1) (done.setIfInBounds k true)) = true := hB
    rw [Bool.and_eq_true, decide_eq_true_eq] at hB
    obtain ⟨hr, hB2⟩ := hB
    have ho : ops[k]? = some o := (hl 0).symm
    refine ⟨fun e => (by rw [hr] at e; cases e), fun i hi => ?_⟩
    rw [hr, List.mem_singleton] at hi
    rw [hi]
    refine wpOpIn_mono (fun b V2 hb => ih (k + 1) _ b V2 (fun j => ?_) hB2 hb) (K := wpListIn (Fence.wide.inRound l0) m P ops Q l) ?_
    · rw [Nat.add_right_comm, Nat.add_assoc]; exact hl (j + 1)
    · unfold wpOpIn; rw [ho]; exact h
theorem head_any {l : List Oper} {n : Nat} {a : Act} {V : World} {Lq : Act → Prop} (hB : Region.lexTailB .any l.toArray n = true) (h : wpStill P l.toArray V Lq (l.take n) a) :
    n < l.length ∧ wpAnyL P .any l.toArray V n (fun done b => Region.seqB .any l.toArray (l.length - n) n done = true ∧ Lq b) n (Array.replicate l.length false) a := by
  unfold Region.lexTailB at hB
  simp only [Bool.and_eq_true, decide_eq_true_eq, List.size_toArray] at hB
  have hn := hB.1.1.1.2
  have hlen : (l.take n).length = n := List.length_take_of_le (Nat.le_of_lt hn)
  refine ⟨hn, ?_⟩
  have start : HeadInv .any l.toArray n (Array.replicate l.length false) := by
    constructor
    · simp
    · intro j oj _ hj; rw [getD_replicate_false] at hj; cases hj
    · intro t _ ht; exact getD_in (by simpa using ht) (getD_replicate_false _ _)
  have key := wpAnyL_lex hB.1.1.1.1 hB.1.1.2 hB.1.2 (by simpa using hn) (l.take n) 0 (Array.replicate l.length false) a (fun j hj => ?_) (by rw [hlen, Nat.zero_add]) start (by rw [hlen]; exact hB.2) h
  · rwa [hlen] at key
  · rw [hlen] at hj
    rw [List.getElem?_take, if_pos hj, Nat.zero_add, List.getElem?_toArray]
theorem regionIn_tail {id : Nat} {Q : Exit → Act → World → Prop} {a : Act} {l : List Oper} (n : Nat) (hm : P.follows .mixedOrders = true) (hB : Region.lexTailB .any l.toArray n = true) (hd : l.all plainOp = true)
    (h : wpStill P l.toArray w.drew (fun b => wpListIn (Fence.wide.inRound l0) m P l.toArray Q (l.drop n) b w.drew) (l.take n) a) : (Code.region id l.toArray true).wpIn (Fence.wide.inRound l0) m P Q a w := by
  obtain ⟨hn, key⟩ := head_any hB h
  have hp : ∀ o ∈ l.toArray, plainOp o = true := fun o ho => List.all_eq_true.1 hd o (by simpa using ho)
  have all := head_in_round (l0 := l0) (m := m) (Q := Q) (g := l.length - n) hp (fun done b hb => ?_) n _ _ key
  · rw [show n + (l.length - n) = l.length by omega] at all
    exact wpIn_region_any hm (by rw [List.size_toArray]; exact all)
  · have := tail_in_round (l0 := l0) (m := m) (Q := Q) (md := .any) (ops := l.toArray) (l.drop n) n done b w.drew (fun j => by rw [List.getElem?_drop, List.getElem?_toArray]) (by rw [List.length_drop]; exact hb.1) hb.2
    rwa [List.length_drop] at this
end
end Go.Proofs.Ytkabofbbioaapaa.Ins
namespace Go.Proofs.Ytkabofbbioaapaa.Ins
open Go.ChangeShapes Go.WideShapes Go.ChangeAt Go.RowKit
open Kit Point Slabs Recs
set_option linter.unusedVariables false
set_option linter.unusedSimpArgs false
set_option linter.unnecessarySimpa false
def plst (z : Nat → Nat → Value) (n : Nat) : List Pt := (List.range n).map fun i => (intOf (z i 0), intOf (z i 1))
theorem plst_len (z : Nat → Nat → Value) (n : Nat) : (plst z n).length = n := by simp [plst]
theorem plst_get (z : Nat → Nat → Value) {n i : Nat} (h : i < n) : (plst z n).getD i (0, 0) = (intOf (z i 0), intOf (z i 1)) := by
  simp [plst, List.getD, h]
theorem pX_plst (z : Nat → Nat → Value) {n i : Nat} (h : i < n) : pX (plst z n) i = intOf (z i 0) := by rw [pX, plst_get z h]
theorem pY_plst (z : Nat → Nat → Value) {n i : Nat} (h : i < n) : pY (plst z n) i = intOf (z i 1) := by rw [pY, plst_get z h]
theorem slab_path {w : World} {B n : Nat} {v : Value} {z : Nat → Nat → Value} (h : Slab w B v n 2 (fun i => [z i 0, z i 1])) (hs : Points.Shape (fun i => [z i 0, z i 1]) n) :
    ∃ a c, v = .slice a (plst z n).length c ∧ PathAt w a (plst z n) := by
  rw [plst_len]
  rcases h.writes with ⟨h0, a, c, hv⟩ | ⟨g, c, hv, _, W1⟩
  · subst h0; exact ⟨a, c, hv, .inl (by simp [plst])⟩
  · refine ⟨_, c, hv, .inr ⟨g, rfl, W1.here, fun i hi => ?_⟩⟩
    rw [plst_len] at hi
    obtain ⟨x0, x1, e⟩ := hs i hi
    have q := Points.cells_of W1.cell hi e
    have e' : [z i 0, z i 1] = [Value.int .i64 x0, .int .i64 x1] := e
    injection e' with e0 e1
    injection e1 with e1
    rw [pX_plst z hi, pY_plst z hi, e0, e1]
    exact q
theorem recs_keep8 {w W' : World} {a : Option Addr} {n c : Nat} {z : Nat → Nat → Value} (h : IsRecs Points.kl w a n c z) (hb : Below w.heap.size w W') : IsRecs Points.kl W' a n c z := by
  obtain ⟨h1, h2, h3⟩ := h
  refine ⟨h1, h2, ?_⟩
  rcases h3 with h3 | ⟨g, o, ha, hg, h4⟩
  · exact .inl h3
  · exact .inr ⟨g, o, ha, Nat.lt_of_lt_of_le hg hb.size, fun i hi j kd hk => ⟨(hb.cell (p := ⟨g, _, none⟩) hg).trans (h4 i hi j kd hk).1, (h4 i hi j kd hk).2⟩⟩
def pcF (l : List Pt) (i : Nat) : List Value := [.int .i64 (pX l i), .int .i64 (pY l i)]
theorem pcF_len (l : List Pt) (i : Nat) : (pcF l i).length = 2 := rfl
theorem pcF_shape (l : List Pt) (n : Nat) : Points.Shape (pcF l) n := fun i _ => ⟨_, _, rfl⟩
theorem pcF_cons (p : Pt) (l : List Pt) (i : Nat) : pcF (p :: l) (i + 1) = pcF l i := by simp [pcF, pX, pY]
theorem flat_pc : ∀ l : List Pt, flat (pcF l) l.length = cellsP l
  | [] => rfl
  | p :: l => by
    have e : flat (pcF (p :: l)) (l.length + 1) = pcF (p :: l) 0 ++ flat (fun i => pcF (p :: l) (i + 1)) l.length := by
      simp only [flat, List.range_succ_eq_map, List.flatMap_cons, List.flatMap_map]
    rw [List.length_cons, e, show (fun i => pcF (p :: l) (i + 1)) = pcF l from funext fun i => pcF_cons p l i, flat_pc l]
    simp [pcF, pX, pY, cellsP]
theorem slab_owns {w : World} {B : Nat} {v : Value} {m : List Pt} (h : w.ownsRow B 83 2 v m.length (cellsP m)) : Slab w B v m.length 2 (pcF m) :=
  Slab.of_owns (by rw [flat_pc]; exact h) (pcF_len m)
variable {w : World} {B n : Nat} {v : Value} {z : Nat → Nat → Value}
end Go.Proofs.Ytkabofbbioaapaa.Ins
namespace Go.Proofs.Ytkabofbbioaapaa.Draw
open Go.ChangeShapes Go.WideShapes Go.ChangeAt Go.RowKit
open Kit
set_option linter.unusedVariables false
set_option linter.unusedSimpArgs false
set_option linter.unnecessarySimpa false
attribute [local go_sem ↓] run_mx run_mn
theorem Drawn.grown {W w0 w w' : World} {a : Option Addr} {len cap : Nat} {z : List Int} {b : Nat} {row : Option Nat} (h : Drawn W a len cap z b w0 w) (hg : w.grownBy w' row) (hr : ∀ k, row = some k → w0.heap.size ≤ k ∧ W.heap.size ≤ k ∧ k ≠ b) : Drawn W a len cap z b w0 w' := by
  obtain ⟨d, g⟩ := h
  obtain ⟨i, q, hi, hl, c0, c1, c2, f1, f2⟩ := d.cur
  have hb : w'.heap[b]? = w.heap[b]? := hg.block b d.here (fun e => (hr b e.symm).2.2 rfl)
  refine ⟨⟨d.row, d.far, Nat.lt_of_lt_of_le d.here hg.size, ⟨i, q, hi, hl, ?_, ?_, ?_, ?_, ?_⟩, d.below.grown hg (Nat.le_trans d.far (Nat.le_of_lt d.here)) (fun k hk => (hr k hk).2.1)⟩, ?_⟩
  · rw [World.cell?_of_block (w := w) hb]; exact c0
  · rw [World.cell?_of_block (w := w) hb]; exact c1
  · rw [World.cell?_of_block (w := w) hb]; exact c2
  · rw [World.frozen?_of_block (w := w) hb]; exact f1
  · rw [World.frozen?_of_block (w := w) hb]; exact f2
  · refine ⟨hg.os.trans g.os, hg.tape.trans g.tape, hg.output.trans g.output, Nat.le_trans g.size hg.size, fun k hk hne => ?_⟩
    rw [hg.block k (Nat.lt_of_lt_of_le hk g.size) (fun e => by have := (hr k e.symm).1; omega)]
    exact g.block k hk hne
theorem Drawn.setNew {W w0 w : World} {a : Option Addr} {len cap : Nat} {z : List Int} {b : Nat} (h : Drawn W a len cap z b w0 w) {R : Nat} (h0 : w0.heap.size ≤ R) (hW : W.heap.size ≤ R) (hb : R ≠ b) (o : Nat) (v : Value) : Drawn W a len cap z b w0 (w.setCell ⟨R, o, none⟩ v) :=
  h.grown (grown_set (World.grownBy.refl w (some R)) o v) (fun k hk => by injection hk with hk; subst hk; exact ⟨h0, hW, hb⟩)
theorem Drawn.keeps {W w0 w : World} {a : Option Addr} {len cap : Nat} {z : List Int} {b : Nat} (h : Drawn W a len cap z b w0 w) {R o : Nat} {v : Value} (hc : w0.cell? ⟨R, o, none⟩ = some v) (hb : R ≠ b) : w.cell? ⟨R, o, none⟩ = some v :=
  h.2.cell hc (by intro e; exact hb (by simpa using e))
theorem Drawn.thaws {W w0 w : World} {a : Option Addr} {len cap : Nat} {z : List Int} {b : Nat} (h : Drawn W a len cap z b w0 w) {R o : Nat} (hl : R < w0.heap.size) (hf : w0.frozen? ⟨R, o, none⟩ = false) (hb : R ≠ b) : w.frozen? ⟨R, o, none⟩ = false := by
  rw [h.2.frozen_far ⟨R, o, none⟩ hl (by intro e; exact hb (by simpa using e))]; exact hf
theorem Two.drawn {W w0 w : World} {a : Option Addr} {len cap : Nat} {z : List Int} {b R : Nat} {x y : Int} (h : Two w0 R x y) (d : Drawn W a len cap z b w0 w) (hb : R ≠ b) : Two w R x y :=
  ⟨d.keeps h.c0 hb, d.keeps h.c1 hb, fun o => d.thaws h.lt (h.fr o) hb⟩
theorem IsRow.keep {k : IntKind} {w w' : World} {a : Option Addr} {len cap : Nat} {z : List Int} (h : IsRow k w a len cap z) (hb : Below w.heap.size w w') : IsRow k w' a len cap z := by
  rcases h with h | ⟨x, ha, hl, hm, hz, hc, hw⟩
  · exact .inl h
  · refine .inr ⟨x, ha, hl, hm, hz, fun i hi => ?_, hw⟩
    have h1 := hc i hi
    exact (hb.cell (p := x.add i) (World.block_lt_of_cell? w _ h1)).trans h1
theorem Four.drawn {W w0 w : World} {a : Option Addr} {len cap : Nat} {z : List Int} {b R : Nat} {x y u v : Int} (h : Four w0 R x y u v) (d : Drawn W a len cap z b w0 w) (hb : R ≠ b) : Four w R x y u v :=
  ⟨d.keeps h.c0 hb, d.keeps h.c1 hb, d.keeps h.c2 hb, d.keeps h.c3 hb, fun o => d.thaws h.lt (h.fr o) hb⟩
end Go.Proofs.Ytkabofbbioaapaa.Draw
namespace Go.Proofs.Ytkabofbbioaapaa.Draw
open Go.ChangeShapes Go.WideShapes Go.ChangeAt Go.RowKit
open Kit
set_option linter.unusedVariables false
set_option linter.unusedSimpArgs false
set_option linter.unnecessarySimpa false
attribute [local go_sem ↓] run_mx run_mn
def InPage (q : Int) : Prop := -4 ≤ q ∧ q ≤ 36
theorem four_cells (w : World) (T : TypeId) (r s : Int) (hr : InPage r) (hs : InPage s) : ∀ k, k < 4 → ∃ q : Int, InPage q ∧ (w.alloc (.cells #[.int .i64 0, .int .i64 32, .int .i64 r, .int .i64 s] T)).cell? ⟨w.heap.size, k, none⟩ = some (.int .i64 q) := by
  intro k hk
  have h : k = 0 ∨ k = 1 ∨ k = 2 ∨ k = 3 := by omega
  rcases h with rfl | rfl | rfl | rfl
  · exact ⟨0, by unfold InPage; omega, by simp [go_sem]⟩
  · exact ⟨32, by unfold InPage; omega, by simp [go_sem]⟩
  · exact ⟨r, hr, by simp [go_sem]⟩
  · exact ⟨s, hs, by simp [go_sem]⟩
theorem page33 {r : Int} (h : Within 33 r) : InPage r := by obtain ⟨h0, h1, _⟩ := h; have := h1 (by omega); unfold InPage; omega
theorem page41 {r : Int} (h : Within 41 r) : InPage (r - 4) ∧ 0 ≤ r ∧ r ≤ 40 := by obtain ⟨h0, h1, _⟩ := h; have := h1 (by omega); unfold InPage; omega
set_option maxHeartbeats 2000000 in
theorem point_on (W w0 w : World) (b : Nat) (a : Option Addr) (len cap : Nat) (z : List Int) (d : Drawn W a len cap z b w0 w) :
    Calls Try.prog 74 #[.pointer (some ⟨b, 0, none⟩)] w fun e w' => ∃ x y : Int, InPage x ∧ InPage y ∧ e = .returned (.agg #[.int .i64 x, .int .i64 y]) ∧ Drawn W a len cap z b w0 w' := by
  have hne := d.ne
  have D := (d.alloc (.cells #[.int .i64 0, .int .i64 0] 83)).1.same
  have hW := Nat.le_trans d.1.far (Nat.le_of_lt d.1.here)
  have hw0 := d.2.size
  have HD := Lib.hid d
  clear d
  go_enter Try.func74, Try.ntmps74
  go_wp2_with fail
  (refine (below_on W _ _ b a len cap z 33 D).mono ?_; rintro e w1 ⟨r1, hr1, rfl, d1⟩)
  go_wp2_with fail
  (refine (below_on W _ _ b a len cap z 41 d1).mono ?_; rintro e w2 ⟨r2, hr2, rfl, d2⟩)
  obtain ⟨k2, k20, k21⟩ := page41 hr2
  go_wp2_with fail
  (refine (pickP_on InPage W _ _ b a len cap z _ 4 _ (Drawn.ne d2) (by decide) (by decide) (four_cells _ _ _ _ (page33 hr1) k2) (d2.alloc _)).mono ?_; rintro e w3 ⟨x, hx, rfl, d3⟩)
  go_wp2_with fail
  (refine (below_on W _ _ b a len cap z 33 d3).mono ?_; rintro e w4 ⟨r4, hr4, rfl, d4⟩)
  go_wp2_with fail
  (refine (below_on W _ _ b a len cap z 41 d4).mono ?_; rintro e w5 ⟨r5, hr5, rfl, d5⟩)
  obtain ⟨k5, k50, k51⟩ := page41 hr5
  go_wp2_with fail
  (refine (pickP_on InPage W _ _ b a len cap z _ 4 _ (Drawn.ne d5) (by decide) (by decide) (four_cells _ _ _ _ (page33 hr4) k5) (d5.alloc _)).mono ?_; rintro e w6 ⟨y, hy, rfl, d6⟩)
  have T6 := Two.drawn (Two.new w 83 0 0) d6 hne
  obtain ⟨c0, c1, fr⟩ := T6
  have d7 := (HD.out.alloc (.cells #[.int .i64 0, .int .i64 0] 83)).trans d6
  go_wp2_with fail
  refine bodyPost_ret (by simp [results, Try.results74, go_sem, *]; try rfl) rfl ?_
  exact ⟨x, y, hx, hy, rfl, (d7.setNew hw0 hW hne _ _).setNew hw0 hW hne _ _⟩
end Go.Proofs.Ytkabofbbioaapaa.Draw
