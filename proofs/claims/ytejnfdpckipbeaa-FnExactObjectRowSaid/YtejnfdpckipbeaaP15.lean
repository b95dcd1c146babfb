/-
  Texts of this seat, laid together: OwnTo, St9
-/
import Derived.StillTailTactics
import Derived.Test.YtejnfdpckipbeaaP09
import Derived.Test.YtejnfdpckipbeaaP14
import Derived.Test.YtejnfdpckipbeaaP04
import Derived.Test.YtejnfdpckipbeaaP20
namespace Go.Proofs.Ytejnfdpckipbeaa.Own
open Go.ChangeShapes Go.WideShapes Go.ChangeAt Go.RowKit
open Kit Slabs Ints
open Draw (IsRow)
set_option linter.unusedVariables false
set_option linter.unusedSimpArgs false
set_option linter.unnecessarySimpa false
set_option maxRecDepth 100000
def Copied (w : World) (k : Kd) (v : Value) (d : Dt) (w' : World) : Prop := ∃ fp, Own w' k v.cells.toList d fp ∧ fp.Nodup ∧ (∀ b ∈ fp, w.heap.size ≤ b) ∧ Below w.heap.size w w'
theorem ints_of {w : World} {a : Option Addr} {n cap : Nat} {d : Dt} (h : Came w (.sl .int) [.slice a n cap] d) : ∃ es : List Dt, d = .sl es ∧ es.length = n ∧ es = (List.range n).map (fun i => Dt.int ((es.map Dt.num).getD i 0)) ∧
    (n ≠ 0 → ∃ g o, a = some ⟨g, o, none⟩ ∧ g < w.heap.size ∧ ∀ i, i < n → w.cell? ⟨g, o + i, none⟩ = some (.int .i64 ((es.map Dt.num).getD i 0))) := by
  cases h with
  | nil a cap hm => exact ⟨[], rfl, rfl, rfl, fun h => absurd rfl h⟩
  | @sl _ g o n cap es hl hn hnc hm hg hr =>
    have key : ∀ i (h : i < es.length), es[i] = .int ((es.map Dt.num).getD i 0) ∧ w.cell? ⟨g, o + i, none⟩ = some (.int .i64 ((es.map Dt.num).getD i 0)) := by
      intro i hi
      obtain ⟨cs, h1, h3⟩ := camer_at hr i hi
      have hgd : (es.map Dt.num).getD i 0 = (es[i]).num := by simp [List.getD, List.getElem?_eq_getElem hi]
      rw [hgd]
      generalize es[i] = x at h1 ⊢
      cases h1 with
      | int m hw => exact ⟨rfl, by have := h3 0 _ rfl; simpa [Kd.sz, Dt.num] using this⟩
    refine ⟨es, rfl, hl, ?_, fun _ => ⟨g, o, rfl, hg, fun i hi => (key i (by omega)).2⟩⟩
    apply List.ext_getElem
    · simp [hl]
    · intro i h1 h2
      simp only [List.getElem_map, List.getElem_range]
      exact (key i h1).1
abbrev KPt : Kd := .st [.int, .int]
abbrev K4 : Kd := .st [.int, .int, .int, .int]
abbrev KGr : Kd := .st [.sl .int, K4, .sl KPt, .int, K4]
theorem pt_is {w : World} {cs : List Value} {d : Dt} (h : Came w KPt cs d) : ∃ x y : Int, cs = [.int .i64 x, .int .i64 y] ∧ d = .st [.int x, .int y] ∧ (Lit.int .i64 x).wf = true ∧ (Lit.int .i64 y).wf = true := by
  cases h with
  | st h =>
    cases h with
    | cons h1 h =>
      cases h1 with
      | int x hx =>
        cases h with
        | cons h2 h =>
          cases h2 with
          | int y hy => cases h; exact ⟨x, y, rfl, rfl, hx, hy⟩
def ptV (d : Dt) (j : Nat) : Value := match d with
  | .st [.int x, .int y] => if j = 0 then .int .i64 x else .int .i64 y
  | _ => undef
theorem own_pt (w : World) (x y : Int) : Own w KPt [.int .i64 x, .int .i64 y] (.st [.int x, .int y]) [] :=
  .st (.cons (cs := [.int .i64 x]) (fp := []) (.int x) (.cons (cs := [.int .i64 y]) (fp := []) (.int y) .nil))
theorem points_of {w : World} {a : Option Addr} {n cap : Nat} {d : Dt} (h : Came w (.sl KPt) [.slice a n cap] d) : ∃ es : List Dt, d = .sl es ∧ es.length = n ∧ (∀ i, i < n → ∃ x y : Int, es.getD i (.int 0) = .st [.int x, .int y]) ∧ Recs.IsRecs [.int .i64, .int .i64] w a n cap (fun i j => ptV (es.getD i (.int 0)) j) := by
  cases h with
  | nil a cap hm => exact ⟨[], rfl, rfl, fun i hi => by omega, Nat.zero_le _, hm, .inl rfl⟩
  | @sl _ g o n cap es hl hn hnc hm hg hr =>
    have key : ∀ i (h : i < es.length), ∃ x y : Int, es.getD i (.int 0) = .st [.int x, .int y] ∧ w.cell? ⟨g, o + (i * 2 + 0), none⟩ = some (.int .i64 x) ∧ w.cell? ⟨g, o + (i * 2 + 1), none⟩ = some (.int .i64 y) ∧ (Lit.int .i64 x).wf = true ∧ (Lit.int .i64 y).wf = true := by
      intro i hi
      obtain ⟨cs, h1, h3⟩ := camer_at hr i hi
      have hgd : es.getD i (.int 0) = es[i] := by simp [List.getD, List.getElem?_eq_getElem hi]
      rw [hgd]
      obtain ⟨x, y, rfl, hd, hx, hy⟩ := pt_is h1
      refine ⟨x, y, hd, ?_, ?_, hx, hy⟩
      · have := h3 0 _ rfl; rw [← Nat.add_assoc]; exact this
      · have := h3 1 _ rfl; rw [← Nat.add_assoc]; exact this
    refine ⟨es, rfl, hl, fun i hi => ?_, hnc, hm, .inr ⟨g, o, rfl, hg, fun i hi j kd hk => ?_⟩⟩
    · obtain ⟨x, y, h, _⟩ := key i (by omega); exact ⟨x, y, h⟩
    · obtain ⟨x, y, h, c0, c1, hx, hy⟩ := key i (by omega)
      have hj : j = 0 ∨ j = 1 := by
        have := (List.getElem?_eq_some_iff.1 hk).1
        simp at this; omega
      rcases hj with rfl | rfl
      · simp only [List.getElem?_cons_zero, Option.some.injEq] at hk
        subst hk
        simp only [h, ptV]
        exact ⟨c0, x, rfl, hx⟩
      · simp only [List.getElem?_cons_succ, List.getElem?_cons_zero, Option.some.injEq] at hk
        subst hk
        simp only [h, ptV]
        exact ⟨c1, y, rfl, hy⟩
theorem toP_came (w : World) (a : Option Addr) (n cap : Nat) (d : Dt) (hn : n ≤ 1048576) (h : Came w (.sl KPt) [.slice a n cap] d) :
    Calls Try.prog 78 #[.slice a n cap] w fun e w' => ∃ (a' : Option Addr) (c' : Nat) (fp : List Nat), e = .returned (.slice a' n c') ∧ Own w' (.sl KPt) [.slice a' n c'] d fp ∧ fp.Nodup ∧ (∀ b ∈ fp, w.heap.size ≤ b) ∧ Below w.heap.size w w' := by
  obtain ⟨es, rfl, hl, hs, hr⟩ := points_of h
  refine (Points.toS_any a n cap _ w hn hr).mono fun e w' ⟨v, hv, hsl, hb⟩ => ?_
  have ho := own_of_slab (e := KPt) (D := fun i => es.getD i (.int 0)) hsl rfl (fun i hi => by
    obtain ⟨x, y, h⟩ := hs i hi
    simp only [h, ptV]
    exact own_pt _ x y)
  have he : (List.range n).map (fun i => es.getD i (.int 0)) = es := by
    apply List.ext_getElem
    · simp [hl]
    · intro i h1 h2
      simp [List.getD, List.getElem?_eq_getElem h2]
  rw [he] at ho
  have hrow := hsl.row
  obtain ⟨a', c', rfl, _⟩ := hsl
  exact ⟨a', c', _, hv, ho, nodup_row _, fun b hbm => (hrow b (by simpa using hbm)).1, hb⟩
end Go.Proofs.Ytejnfdpckipbeaa.Own
namespace Go.Proofs.Ytejnfdpckipbeaa.Ins
open Go.ChangeShapes Go.WideShapes Go.ChangeAt Go.RowKit
set_option linter.unusedVariables false
set_option linter.unusedSimpArgs false
set_option linter.unnecessarySimpa false
section
variable {P : Program} {w : World} {l0 m : Nat}
def plainOp (o : Oper) : Bool := match o.op with
  | .defer _ => false
  | _ => true
theorem semAt_plainOp {o : Oper} (h : plainOp o = true) (ro : Option Nat) (ρ : Operand → Value) : Oper.semAt ro ρ o = execOp ρ o :=
  Oper.semAt_eq ro ρ o fun c e => by unfold plainOp at h; rw [e] at h; cases h
theorem reads_in_round {o : Oper} {a : Act} {K : Act → Prop} {K2 : Act → World → Prop} {Q : Exit → Act → World → Prop} (hp : plainOp o = true) (hK : ∀ b, K b → K2 b w) (hs : o.still P a w K) :
    o.wpIn (Fence.wide.inRound l0) m P a w K2 Q := by
  show (∀ f, _ → True) ∧ o.uponIn _ _ _ _ _ _ _
  rw [semAt_plainOp hp]
  refine ⟨fun _ _ => trivial, ?_⟩
  have hs : o.stillUpon P a w K ((execOp a.eval o).run P w) := hs
  revert hs
  generalize (execOp a.eval o).run P w = r
  intro hs
  match r, hs with
  | .ok (.value v) _, ⟨rfl, h⟩ => exact hK _ h
  | .ok .skip _, ⟨rfl, h⟩ => exact hK _ h
  | .ok (.enter f args) _, ⟨rfl, v, hc, h⟩ =>
    refine ⟨fun e => by simp [Fence.wide, Fence.inRound] at e, CallsIn.inRound l0 ((callsIn_wide.2 hc).mono ?_)⟩
    rintro e w2 ⟨rfl, rfl⟩
    exact hK _ h
theorem reads_at {ops : Array Oper} (hp : ∀ o ∈ ops, plainOp o = true) {i : Nat} {a : Act} {K : Act → Prop} {K2 : Act → World → Prop} {Q : Exit → Act → World → Prop} (hK : ∀ b, K b → K2 b w) (hs : stOp P ops w i K a) :
    wpOpIn (Fence.wide.inRound l0) m P ops Q i K2 a w := by
  cases ho : ops[i]? with
  | none => simp only [stOp, ho] at hs; simp only [wpOpIn, ho]; exact hK _ hs
  | some o =>
    have hpo := hp o (Array.mem_of_getElem? ho)
    simp only [stOp, ho] at hs
    simp only [wpOpIn, ho]
    by_cases hw : Region.wanted o (yielded ops a.tmps) = true
    · rw [if_pos hw] at hs ⊢; exact reads_in_round hpo hK hs
    · rw [if_neg hw] at hs ⊢; exact ⟨fun _ _ => trivial, hK _ hs⟩
theorem head_in_round {ops : Array Oper} {md : Region.Mode} {n g : Nat} {L : Array Bool → Act → Prop} {Q : Exit → Act → World → Prop} (hp : ∀ o ∈ ops, plainOp o = true)
    (hL : ∀ done b, L done b → wpAnyIn (Fence.wide.inRound l0) m P md ops Q g done b w) (f : Nat) : ∀ (done : Array Bool) (a : Act), wpAnyL P md ops w n L f done a → wpAnyIn (Fence.wide.inRound l0) m P md ops Q (f + g) done a w := by
  induction f with
  | zero => intro done a h; rw [Nat.zero_add]; exact hL _ _ h
  | succ f ih =>
    intro done a h
    obtain ⟨hne, hall⟩ := h
    rw [Nat.add_right_comm]
    refine ⟨fun e => (hne e).elim, fun i hi => reads_at hp (fun b hb => ih _ b hb) (hall i hi).2⟩
theorem tail_in_round {ops : Array Oper} {md : Region.Mode} {Q : Exit → Act → World → Prop} (l : List Oper) : ∀ (k : Nat) (done : Array Bool) (a : Act) (V : World), (∀ j, l[j]? = ops[k + j]?) → Region.seqB md ops l.length k done = true →
    wpListIn (Fence.wide.inRound l0) m P ops Q l a V → wpAnyIn (Fence.wide.inRound l0) m P md ops Q l.length done a V := by
  induction l with
  | nil =>
    intro k done a V _ hB h
    have hB : (Region.ready md ops done).isEmpty = true := hB
    exact ⟨List.isEmpty_iff.1 hB, h⟩
  | cons o l ih =>
    intro k done a V hl hB h
    have hB : (decide (Region.ready md ops done = [k]) && Region.seqB md ops l.length (k + 1) (done.setIfInBounds k true)) = true := hB
    rw [Bool.and_eq_true, decide_eq_true_eq] at hB
    obtain ⟨hr, hB2⟩ := hB
    have ho : ops[k]? = some o := (hl 0).symm
    refine ⟨fun e => (by rw [hr] at e; cases e), fun i hi => ?_⟩
    rw [hr, List.mem_singleton] at hi
    rw [hi]
    refine wpOpIn_mono (fun b V2 hb => ih (k + 1) _ b V2 (fun j => ?_) hB2 hb) (K := wpListIn (Fence.wide.inRound l0) m P ops Q l) ?_
    · rw [Nat.add_right_comm, Nat.add_assoc]; exact hl (j + 1)
    · unfold wpOpIn; rw [ho]; exact h
theorem head_any {l : List Oper} {n : Nat} {a : Act} {V : World} {Lq : Act → Prop} (hB : Region.lexTailB .any l.toArray n = true) (h : wpStill P l.toArray V Lq (l.take n) a) :
    n < l.length ∧ wpAnyL P .any l.toArray V n (fun done b => Region.seqB .any l.toArray (l.length - n) n done = true ∧ Lq b) n (Array.replicate l.length false) a := by
  unfold Region.lexTailB at hB
  simp only [Bool.and_eq_true, decide_eq_true_eq, List.size_toArray] at hB
  have hn := hB.1.1.1.2
  have hlen : (l.take n).length = n := List.length_take_of_le (Nat.le_of_lt hn)
  refine ⟨hn, ?_⟩
  have start : HeadInv .any l.toArray n (Array.replicate l.length false) := by
    constructor
    · simp
    · intro j oj _ hj; rw [getD_replicate_false] at hj; cases hj
    · intro t _ ht; exact getD_in (by simpa using ht) (getD_replicate_false _ _)
  have key := wpAnyL_lex hB.1.1.1.1 hB.1.1.2 hB.1.2 (by simpa using hn) (l.take n) 0 (Array.replicate l.length false) a (fun j hj => ?_) (by rw [hlen, Nat.zero_add]) start (by rw [hlen]; exact hB.2) h
  · rwa [hlen] at key
  · rw [hlen] at hj
    rw [List.getElem?_take, if_pos hj, Nat.zero_add, List.getElem?_toArray]
theorem regionIn_tail {id : Nat} {Q : Exit → Act → World → Prop} {a : Act} {l : List Oper} (n : Nat) (hm : P.follows .mixedOrders = true) (hB : Region.lexTailB .any l.toArray n = true) (hd : l.all plainOp = true)
    (h : wpStill P l.toArray w.drew (fun b => wpListIn (Fence.wide.inRound l0) m P l.toArray Q (l.drop n) b w.drew) (l.take n) a) : (Code.region id l.toArray true).wpIn (Fence.wide.inRound l0) m P Q a w := by
  obtain ⟨hn, key⟩ := head_any hB h
  have hp : ∀ o ∈ l.toArray, plainOp o = true := fun o ho => List.all_eq_true.1 hd o (by simpa using ho)
  have all := head_in_round (l0 := l0) (m := m) (Q := Q) (g := l.length - n) hp (fun done b hb => ?_) n _ _ key
  · rw [show n + (l.length - n) = l.length by omega] at all
    exact wpIn_region_any hm (by rw [List.size_toArray]; exact all)
  · have := tail_in_round (l0 := l0) (m := m) (Q := Q) (md := .any) (ops := l.toArray) (l.drop n) n done b w.drew (fun j => by rw [List.getElem?_drop, List.getElem?_toArray]) (by rw [List.length_drop]; exact hb.1) hb.2
    rwa [List.length_drop] at this
end
end Go.Proofs.Ytejnfdpckipbeaa.Ins
