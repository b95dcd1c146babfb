/-
  Texts of this seat, laid together: Stack, St9
-/
import Derived.StillTailTactics
import Derived.Test.YtkabofbbioaapaaGreatV13
import Derived.Test.YtkabofbbioaapaaGreatV02
import Derived.Test.YtkabofbbioaapaaGreatV05
namespace Go.Proofs.YtkabofbbioaapaaGreat.Stack
open Go.ChangeShapes Go.WideShapes Go.ChangeAt Go.RowKit
open Kit Slabs Ints
set_option linter.unusedVariables false
set_option linter.unusedSimpArgs false
set_option linter.unnecessarySimpa false
set_option maxRecDepth 100000
def Rd (w : World) (v : Value) (n : Nat) (X : Nat → Int) : Prop :=
  ∃ (a : Option Addr) (cap : Nat), v = .slice a n cap ∧ n ≤ cap ∧ (n = 0 ∨ ∃ g o, a = some ⟨g, o, none⟩ ∧ g < w.heap.size ∧ ∀ i, i < n → w.cell? ⟨g, o + i, none⟩ = some (.int .i64 (X i)))
theorem Rd.of_slab {w : World} {B n : Nat} {v : Value} {X : Nat → Int} (h : Slab w B v n 1 (ic X)) : Rd w v n X := by
  obtain ⟨a, cap, hv, hc, h⟩ := h
  refine ⟨a, cap, hv, hc, ?_⟩
  rcases h with h | ⟨g, ha, _, h2, _, h4⟩
  · exact .inl h
  · exact .inr ⟨g, 0, ha, h2, fun i hi => by have := h4 i hi 0 _ rfl; simpa using this⟩
theorem Rd.on {w w' : World} {v : Value} {n : Nat} {X : Nat → Int} (h : Rd w v n X) (hb : Below w.heap.size w w') : Rd w' v n X := by
  obtain ⟨a, cap, hv, hc, h⟩ := h
  refine ⟨a, cap, hv, hc, ?_⟩
  rcases h with h | ⟨g, o, ha, h2, h4⟩
  · exact .inl h
  · exact .inr ⟨g, o, ha, Nat.lt_of_lt_of_le h2 hb.size, fun i hi => (hb.cell (p := ⟨g, _, none⟩) h2).trans (h4 i hi)⟩
theorem Rd.part {w : World} {a : Option Addr} {cap n : Nat} {X : Nat → Int} (h : Rd w (.slice a n cap) n X) (i m : Nat) (him : i + m ≤ n) (hm : m ≠ 0) : ∃ g o, a = some ⟨g, o, none⟩ ∧ Rd w (.slice (some ⟨g, o + i, none⟩) m (cap - i)) m (fun j => X (i + j)) := by
  obtain ⟨a', cap', hv, hc, h⟩ := h
  injection hv with h1 h2 h3
  subst h1; subst h3
  rcases h with h | ⟨g, o, ha, h2, h4⟩
  · omega
  · exact ⟨g, o, ha, _, _, rfl, by omega, .inr ⟨g, o + i, rfl, h2, fun j hj => by have := h4 (i + j) (by omega); rw [Nat.add_assoc]; exact this⟩⟩
theorem flat_ic (X : Nat → Int) (n j : Nat) (h : j < n) : (flat (ic X) n)[j]? = some (.int .i64 (X j)) := by
  have := flat_get (ic_len X) (n := n) (i := j) (j := 0) h (by omega)
  simpa [ic] using this
theorem flat_ic_len (X : Nat → Int) (n : Nat) : (flat (ic X) n).length = n := by
  have := flat_length (ic_len X) n; simpa using this
theorem flat_one (X : Nat → Int) (n : Nat) : ∀ u ∈ flat (ic X) n, u.oneCell' = true := by
  intro u hu
  obtain ⟨j, hj, rfl⟩ := List.mem_iff_getElem.1 hu
  have hn : j < n := by rw [flat_ic_len] at hj; exact hj
  have h1 := flat_ic X n j hn
  rw [List.getElem?_eq_getElem hj] at h1
  rw [Option.some.inj h1]; simp [Value.oneCell']
set_option maxHeartbeats 1000000 in
theorem copy_spec (w : World) (v : Value) (n : Nat) (X : Nat → Int) (hn : n ≤ 2000000) (h : Rd w v n X) :
    Calls Tryz.prog 113 #[v] w fun e w' => ∃ u, e = .returned u ∧ w'.ownsRow w.heap.size 3 1 u n (flat (ic X) n) ∧ Below w.heap.size w w' := by
  obtain ⟨i0, hi0, hz0, hz1, hz2⟩ := info_parts info3
  have ho := World.ownsRow_made w #[] (e := 3) (size := 1) 0 (Nat.le_refl _) (by decide) (by simp)
  obtain ⟨a, cap, rfl, hc, h⟩ := h
  rcases h with h | ⟨g, o, rfl, hg, hcs⟩
  · subst h
    cases a with
    | none =>
      go_enter Tryz.func113, Tryz.ntmps113
      go_wp2
      go_ret
      exact ⟨_, rfl, ho, by go_grown⟩
    | some ad =>
      have HO := Lib.hid ho
      clear ho
      go_enter Tryz.func113, Tryz.ntmps113
      go_wp2_with (at_builtin; refine wpList_append_own _ rfl _ _ 70 rfl w.heap.size 3 i0 (.int .i64 0) 1 8 Tryz.underlying70 hi0 hz0 hz1 hz2 rfl (by decide) _ 0 [] rfl HO.out ad 0 cap [] rfl rfl ?c1 ?c2 ?c3 ?c4 ?c5 ?_)
      case c1 => intro j u hu; simp at hu
      case c2 => simp
      case c3 => unfold maxLen; omega
      case c4 => omega
      case c5 => simp
      intro v2 w2 hown hgrow _
      have hB := ((Below.refl w.heap.size w).alloc (Nat.le_refl _) (.cells #[] 3)).grown hgrow (by simp) (fun q hq => by have := (HO.out.lt q hq).1; omega)
      have HX := Lib.hid (And.intro hown hB)
      clear hown hB hgrow
      go_wp2
      go_ret
      exact ⟨_, rfl, by simpa [flat_zero] using HX.out.1, HX.out.2⟩
  · have HO := Lib.hid (And.intro ho hcs)
    clear ho hcs
    go_enter Tryz.func113, Tryz.ntmps113
    go_wp2_with (at_builtin; refine wpList_append_own _ rfl _ _ 70 rfl w.heap.size 3 i0 (.int .i64 0) 1 8 Tryz.underlying70 hi0 hz0 hz1 hz2 rfl (by decide) _ 0 [] rfl HO.out.1 ⟨g, o, none⟩ n cap (flat (ic X) n) rfl ?c0 ?c1 ?c2 ?c3 ?c4 ?c5 ?_)
    case c0 => rw [flat_ic_len]; omega
    case c1 =>
      intro j u hu
      have hj : j < n := by have := (List.getElem?_eq_some_iff.1 hu).1; rw [flat_ic_len] at this; exact this
      rw [flat_ic X n j hj] at hu
      injection hu with hu
      subst hu
      have h1 := HO.out.2 j hj
      have h2 : (w.alloc (.cells #[] 3)).cell? ⟨g, o + j, none⟩ = some (.int .i64 (X j)) := (World.cell?_alloc_lt _ _ _ hg).trans h1
      by_cases h0 : j = 0
      · subst h0; simpa [Addr.add] using h2
      · simpa [Addr.add, h0] using h2
    case c2 => exact flat_one X n
    case c3 => unfold maxLen; omega
    case c4 => omega
    case c5 => simp
    intro v2 w2 hown hgrow _
    have hB := ((Below.refl w.heap.size w).alloc (Nat.le_refl _) (.cells #[] 3)).grown hgrow (by simp) (fun q hq => by have := (HO.out.1.lt q hq).1; omega)
    have HX := Lib.hid (And.intro hown hB)
    clear hown hB hgrow
    go_wp2
    go_ret
    exact ⟨_, rfl, by simpa using HX.out.1, HX.out.2⟩
def numsB (X : Nat → Int) (n : Nat) : Bool := (List.range n).all fun i => decide (-9999 ≤ X i ∧ X i ≤ 9999)
def stB (X : Nat → Int) (n : Nat) : Bool := decide (n ≤ 12) && numsB X n
theorem numsB_succ (X : Nat → Int) (n : Nat) : numsB X (n + 1) = (numsB X n && decide (-9999 ≤ X n ∧ X n ≤ 9999)) := by
  simp [numsB, List.range_succ]
theorem numsB_iff (X : Nat → Int) (n : Nat) : numsB X n = true ↔ ∀ i, i < n → -9999 ≤ X i ∧ X i ≤ 9999 := by
  simp [numsB, List.all_eq_true]
theorem numsB_no {X : Nat → Int} {n i : Nat} (hi : i < n) (h : ¬ (-9999 ≤ X i ∧ X i ≤ 9999)) : numsB X n = false := by
  rw [← Bool.not_eq_true, numsB_iff]; exact fun h2 => h (h2 i hi)
end Go.Proofs.YtkabofbbioaapaaGreat.Stack
namespace Go.Proofs.YtkabofbbioaapaaGreat.Ins
open Go.ChangeShapes Go.WideShapes Go.ChangeAt Go.RowKit
set_option linter.unusedVariables false
set_option linter.unusedSimpArgs false
set_option linter.unnecessarySimpa false
section
variable {P : Program} {w : World} {l0 m : Nat}
def plainOp (o : Oper) : Bool := match o.op with
  | .defer _ => false
  | _ => true
theorem semAt_plainOp {o : Oper} (h : plainOp o = true) (ro : Option Nat) (ρ : Operand → Value) : Oper.semAt ro ρ o = execOp ρ o :=
  Oper.semAt_eq ro ρ o fun c e => by unfold plainOp at h; rw [e] at h; cases h
theorem reads_in_round {o : Oper} {a : Act} {K : Act → Prop} {K2 : Act → World → Prop} {Q : Exit → Act → World → Prop} (hp : plainOp o = true) (hK : ∀ b, K b → K2 b w) (hs : o.still P a w K) :
    o.wpIn (Fence.wide.inRound l0) m P a w K2 Q := by
  show (∀ f, _ → True) ∧ o.uponIn _ _ _ _ _ _ _
  rw [semAt_plainOp hp]
  refine ⟨fun _ _ => trivial, ?_⟩
  have hs : o.stillUpon P a w K ((execOp a.eval o).run P w) := hs
  revert hs
  generalize (execOp a.eval o).run P w = r
  intro hs
  match r, hs with
  | .ok (.value v) _, ⟨rfl, h⟩ => exact hK _ h
  | .ok .skip _, ⟨rfl, h⟩ => exact hK _ h
  | .ok (.enter f args) _, ⟨rfl, v, hc, h⟩ =>
    refine ⟨fun e => by simp [Fence.wide, Fence.inRound] at e, CallsIn.inRound l0 ((callsIn_wide.2 hc).mono ?_)⟩
    rintro e w2 ⟨rfl, rfl⟩
    exact hK _ h
theorem reads_at {ops : Array Oper} (hp : ∀ o ∈ ops, plainOp o = true) {i : Nat} {a : Act} {K : Act → Prop} {K2 : Act → World → Prop} {Q : Exit → Act → World → Prop} (hK : ∀ b, K b → K2 b w) (hs : stOp P ops w i K a) :
    wpOpIn (Fence.wide.inRound l0) m P ops Q i K2 a w := by
  cases ho : ops[i]? with
  | none => simp only [stOp, ho] at hs; simp only [wpOpIn, ho]; exact hK _ hs
  | some o =>
    have hpo := hp o (Array.mem_of_getElem? ho)
    simp only [stOp, ho] at hs
    simp only [wpOpIn, ho]
    by_cases hw : Region.wanted o (yielded ops a.tmps) = true
    · rw [if_pos hw] at hs ⊢; exact reads_in_round hpo hK hs
    · rw [if_neg hw] at hs ⊢; exact ⟨fun _ _ => trivial, hK _ hs⟩
theorem head_in_round {ops : Array Oper} {md : Region.Mode} {n g : Nat} {L : Array Bool → Act → Prop} {Q : Exit → Act → World → Prop} (hp : ∀ o ∈ ops, plainOp o = true)
    (hL : ∀ done b, L done b → wpAnyIn (Fence.wide.inRound l0) m P md ops Q g done b w) (f : Nat) : ∀ (done : Array Bool) (a : Act), wpAnyL P md ops w n L f done a → wpAnyIn (Fence.wide.inRound l0) m P md ops Q (f + g) done a w := by
  induction f with
  | zero => intro done a h; rw [Nat.zero_add]; exact hL _ _ h
  | succ f ih =>
    intro done a h
    obtain ⟨hne, hall⟩ := h
    rw [Nat.add_right_comm]
    refine ⟨fun e => (hne e).elim, fun i hi => reads_at hp (fun b hb => ih _ b hb) (hall i hi).2⟩
theorem tail_in_round {ops : Array Oper} {md : Region.Mode} {Q : Exit → Act → World → Prop} (l : List Oper) : ∀ (k : Nat) (done : Array Bool) (a : Act) (V : World), (∀ j, l[j]? = ops[k + j]?) → Region.seqB md ops l.length k done = true →
    wpListIn (Fence.wide.inRound l0) m P ops Q l a V → wpAnyIn (Fence.wide.inRound l0) m P md ops Q l.length done a V := by
  induction l with
  | nil =>
    intro k done a V _ hB h
    have hB : (Region.ready md ops done).isEmpty = true := hB
    exact ⟨List.isEmpty_iff.1 hB, h⟩
  | cons o l ih =>
    intro k done a V hl hB h
    have hB : (decide (Region.ready md ops done = [k]) && Region.seqB md ops l.length (k + 1) (done.setIfInBounds k true)) = true := hB
    rw [Bool.and_eq_true, decide_eq_true_eq] at hB
    obtain ⟨hr, hB2⟩ := hB
    have ho : ops[k]? = some o := (hl 0).symm
    refine ⟨fun e => (by rw [hr] at e; cases e), fun i hi => ?_⟩
    rw [hr, List.mem_singleton] at hi
    rw [hi]
    refine wpOpIn_mono (fun b V2 hb => ih (k + 1) _ b V2 (fun j => ?_) hB2 hb) (K := wpListIn (Fence.wide.inRound l0) m P ops Q l) ?_
    · rw [Nat.add_right_comm, Nat.add_assoc]; exact hl (j + 1)
    · unfold wpOpIn; rw [ho]; exact h
theorem head_any {l : List Oper} {n : Nat} {a : Act} {V : World} {Lq : Act → Prop} (hB : Region.lexTailB .any l.toArray n = true) (h : wpStill P l.toArray V Lq (l.take n) a) :
    n < l.length ∧ wpAnyL P .any l.toArray V n (fun done b => Region.seqB .any l.toArray (l.length - n) n done = true ∧ Lq b) n (Array.replicate l.length false) a := by
  unfold Region.lexTailB at hB
  simp only [Bool.and_eq_true, decide_eq_true_eq, List.size_toArray] at hB
  have hn := hB.1.1.1.2
  have hlen : (l.take n).length = n := List.length_take_of_le (Nat.le_of_lt hn)
  refine ⟨hn, ?_⟩
  have start : HeadInv .any l.toArray n (Array.replicate l.length false) := by
    constructor
    · simp
    · intro j oj _ hj; rw [getD_replicate_false] at hj; cases hj
    · intro t _ ht; exact getD_in (by simpa using ht) (getD_replicate_false _ _)
  have key := wpAnyL_lex hB.1.1.1.1 hB.1.1.2 hB.1.2 (by simpa using hn) (l.take n) 0 (Array.replicate l.length false) a (fun j hj => ?_) (by rw [hlen, Nat.zero_add]) start (by rw [hlen]; exact hB.2) h
  · rwa [hlen] at key
  · rw [hlen] at hj
    rw [List.getElem?_take, if_pos hj, Nat.zero_add, List.getElem?_toArray]
theorem regionIn_tail {id : Nat} {Q : Exit → Act → World → Prop} {a : Act} {l : List Oper} (n : Nat) (hm : P.follows .mixedOrders = true) (hB : Region.lexTailB .any l.toArray n = true) (hd : l.all plainOp = true)
    (h : wpStill P l.toArray w.drew (fun b => wpListIn (Fence.wide.inRound l0) m P l.toArray Q (l.drop n) b w.drew) (l.take n) a) : (Code.region id l.toArray true).wpIn (Fence.wide.inRound l0) m P Q a w := by
  obtain ⟨hn, key⟩ := head_any hB h
  have hp : ∀ o ∈ l.toArray, plainOp o = true := fun o ho => List.all_eq_true.1 hd o (by simpa using ho)
  have all := head_in_round (l0 := l0) (m := m) (Q := Q) (g := l.length - n) hp (fun done b hb => ?_) n _ _ key
  · rw [show n + (l.length - n) = l.length by omega] at all
    exact wpIn_region_any hm (by rw [List.size_toArray]; exact all)
  · have := tail_in_round (l0 := l0) (m := m) (Q := Q) (md := .any) (ops := l.toArray) (l.drop n) n done b w.drew (fun j => by rw [List.getElem?_drop, List.getElem?_toArray]) (by rw [List.length_drop]; exact hb.1) hb.2
    rwa [List.length_drop] at this
end
end Go.Proofs.YtkabofbbioaapaaGreat.Ins
