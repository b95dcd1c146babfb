/-
  Texts of this seat, laid together: Cap, Obr, Cb13, Mo10, ToBO
-/
import Derived.Deep.RegionHeld3
import Derived.WalkKit
import Derived.Deep.DeepCutAuto
import Derived.Deep.QuietTactic
import Derived.BigQuiet
import Derived.Handy
import Derived.Test.YtbdjnfnphilklaaGreatV15
import Derived.Test.YtbdjnfnphilklaaGreatV14
import Derived.Test.YtbdjnfnphilklaaGreatV26
namespace Go.Proofs.YtbdjnfnphilklaaGreat.Own
open Go.ChangeShapes Go.WideShapes Go.ChangeAt Go.RowKit
open Kit Slabs Ints Stack Point Turn
set_option linter.unusedVariables false
set_option linter.unusedSimpArgs false
set_option linter.unnecessarySimpa false
def Cap (w : World) (g : Nat) (T : TypeId) (m : Nat) : Prop := ∃ cur : Array Value, w.heap[g]? = some (.cells cur T (0, 0)) ∧ cur.size = m
theorem Cap.stays {w w' : World} {g : Nat} {T : TypeId} {m : Nat} (h : Cap w g T m) (e : w'.heap[g]? = w.heap[g]?) : Cap w' g T m := by
  obtain ⟨cur, h1, h2⟩ := h; exact ⟨cur, e.trans h1, h2⟩
theorem Cap.lt {w : World} {g : Nat} {T : TypeId} {m : Nat} (h : Cap w g T m) : g < w.heap.size := by
  obtain ⟨cur, h1, _⟩ := h; exact (Array.getElem?_eq_some_iff.1 h1).1
theorem Cap.keep {w w' : World} {g : Nat} {T : TypeId} {m : Nat} (h : Cap w g T m) (hb : Below w.heap.size w w') : Cap w' g T m := h.stays (hb.block g h.lt)
theorem Cap.turned {w w' : World} {g : Nat} {T : TypeId} {m : Nat} {S : Nat → Prop} (h : Cap w g T m) (ht : Turns w w' S) (hS : ¬ S g) : Cap w' g T m := h.stays (ht.block g h.lt hS)
theorem Cap.set {w : World} {g : Nat} {T : TypeId} {m : Nat} (h : Cap w g T m) (i : Nat) (v : Value) : Cap (w.setCell ⟨g, i, none⟩ v) g T m := by
  obtain ⟨cur, h1, h2⟩ := h
  exact ⟨_, heap_setCell_same w g i cur T v h1, by simpa using h2⟩
theorem Cap.sets {g : Nat} {T : TypeId} {m : Nat} : ∀ (vs : List Value) (o : Nat) {w : World}, Cap w g T m → Cap (w.setCells g o vs) g T m
  | [], _, _, h => h
  | v :: r, o, w, h => Cap.sets r (o + 1) (h.set o v)
theorem row_cap {w : World} {B : Nat} {T : TypeId} {k n : Nat} {a : Option Addr} {c : Nat} {P : List Value} (h : w.ownsRow B T k (.slice a n c) n P) (h0 : n ≠ 0) :
    ∃ g, a = some ⟨g, 0, none⟩ ∧ B ≤ g ∧ Blk w g P ∧ Cap w g T (c * k) ∧ n ≤ c ∧ c ≤ maxLen := by
  obtain ⟨a', c', he, _, hb⟩ := row_blk h
  injection he with h1 h2 h3
  subst h1; subst h3
  obtain ⟨g, rfl, hb2⟩ := hb h0
  rcases h.2 with ⟨_, h2⟩ | ⟨g', cap, cur, hv, hB, hg, hnc, hm, hs, _⟩
  · exact absurd h2 h0
  · injection hv with h1 h2 h3
    injection h1 with h1
    injection h1 with h1
    subst h1; subst h3
    exact ⟨_, rfl, hB, hb2, ⟨cur, hg, hs⟩, hnc, hm⟩
theorem cap_row {w : World} {B g : Nat} {T : TypeId} {k n c : Nat} {P : List Value} (hb : Blk w g P) (hc : Cap w g T (c * k)) (hl : P.length = n * k) (hn : n ≤ c) (hm : c ≤ maxLen) (hB : B ≤ g) :
    w.ownsRow B T k (.slice (some ⟨g, 0, none⟩) n c) n P := by
  obtain ⟨cur, h1, h2⟩ := hc
  refine ⟨hl, .inr ⟨g, c, cur, rfl, hB, h1, hn, hm, h2, ?_⟩⟩
  have hle : n * k ≤ cur.size := by rw [h2]; exact Nat.mul_le_mul_right _ hn
  apply List.ext_getElem
  · simp; omega
  · intro i i1 i2
    have hv := hb.1 i P[i] (List.getElem?_eq_getElem i2)
    rw [cell_of_row _ _ _ _ _ _ h1] at hv
    have i3 : i < cur.size := by omega
    rw [Array.getElem?_eq_getElem i3] at hv
    simpa using hv
theorem pick_rep {w : World} {ks : List Kd} : ∀ {n i : Nat} {P : List Value} {es : List Dt} {f : List Nat}, OwnL w (List.replicate n (.st ks)) P es f → (hi : i < es.length) →
    ∃ A cs D ds f', P = A ++ (cs ++ D) ∧ A.length = i * szL ks ∧ cs.length = szL ks ∧ es[i] = .st ds ∧ OwnL w ks cs ds f' ∧ (∀ b ∈ f', b ∈ f)
  | 0, i, P, es, f, h, hi => by
    cases h; simp at hi
  | n + 1, 0, P, es, f, h, hi => by
    rw [List.replicate_succ] at h
    cases h with
    | cons h r =>
      cases h with
      | st h => exact ⟨[], _, _, _, _, rfl, by simp, h.len, rfl, h, fun b hb => List.mem_append_left _ hb⟩
  | n + 1, i + 1, P, es, f, h, hi => by
    rw [List.replicate_succ] at h
    cases h with
    | cons h r =>
      obtain ⟨A, cs, D, ds, f', rfl, e1, e2, e3, o, e4⟩ := pick_rep r (i := i) (by simpa using hi)
      exact ⟨_ ++ A, cs, D, ds, f', (List.append_assoc _ _ _).symm, by rw [List.length_append, h.len, e1, Kd.sz, Nat.succ_mul]; omega, e2, by simpa using e3, o, fun b hb => List.mem_append_right _ (e4 b hb)⟩
end Go.Proofs.YtbdjnfnphilklaaGreat.Own
namespace Go.Proofs.YtbdjnfnphilklaaGreat.Own
open Go.ChangeShapes Go.WideShapes Go.ChangeAt Go.RowKit
open Kit Slabs Ints Point
set_option linter.unusedVariables false
set_option linter.unusedSimpArgs false
set_option linter.unnecessarySimpa false
def ObsRow (w : World) (B : Nat) (a : Option Addr) (c : Nat) (l : List Ob) (F : List Nat) : Prop := ∃ (P : List Value) (f : List Nat), w.ownsRow B 53 6 (.slice a l.length c) l.length P ∧ OwnL w (List.replicate l.length KObject) P (dO l) f ∧ F = rowL (.slice a l.length c) ++ f ∧ F.Nodup ∧ ∀ b ∈ F, B ≤ b
theorem ObsRow.nil (w : World) (B : Nat) : ObsRow w B none 0 [] [] := ⟨[], [], World.ownsRow_nil _ _ _ _, .nil, rfl, List.nodup_nil, fun b hb => absurd hb List.not_mem_nil⟩
theorem ObsRow.lt {w : World} {B : Nat} {a : Option Addr} {c : Nat} {l : List Ob} {F : List Nat} (h : ObsRow w B a c l F) : ∀ b ∈ F, b < w.heap.size := by
  obtain ⟨P, f, r, o, rfl, hn, hB⟩ := h
  exact mem2 (p := fun b => b < w.heap.size) (fun b hb => (rowL_ge r b hb).2) o.lt
theorem ObsRow.ge {w : World} {B : Nat} {a : Option Addr} {c : Nat} {l : List Ob} {F : List Nat} (h : ObsRow w B a c l F) : ∀ b ∈ F, B ≤ b := by
  obtain ⟨P, f, r, o, rfl, hn, hB⟩ := h; exact hB
theorem ObsRow.nodup {w : World} {B : Nat} {a : Option Addr} {c : Nat} {l : List Ob} {F : List Nat} (h : ObsRow w B a c l F) : F.Nodup := by
  obtain ⟨P, f, r, o, rfl, hn, hB⟩ := h; exact hn
theorem ObsRow.stays {w w' : World} {B : Nat} {a : Option Addr} {c : Nat} {l : List Ob} {F : List Nat} (h : ObsRow w B a c l F) (hs : w.heap.size ≤ w'.heap.size) (hb : ∀ b ∈ F, w'.heap[b]? = w.heap[b]?) : ObsRow w' B a c l F := by
  obtain ⟨P, f, r, o, rfl, hn, hB⟩ := h
  exact ⟨P, f, row_stays r (fun b hm => hb b (by simp [hm])), o.stays hs (fun b hm => hb b (by simp [hm])), rfl, hn, hB⟩
theorem ObsRow.under {w w' : World} {B : Nat} {a : Option Addr} {c : Nat} {l : List Ob} {F : List Nat} (h : ObsRow w B a c l F) (hb : Below w.heap.size w w') : ObsRow w' B a c l F := h.stays hb.size (fun b hm => hb.block b (h.lt b hm))
theorem ObsRow.turned {w w' : World} {B : Nat} {a : Option Addr} {c : Nat} {l : List Ob} {F : List Nat} {S : Nat → Prop} (h : ObsRow w B a c l F) (ht : Turns w w' S) (hS : ∀ b ∈ F, ¬ S b) : ObsRow w' B a c l F := h.stays ht.size (fun b hm => ht.block b (h.lt b hm) (hS b hm))
theorem ObsRow.base {w : World} {B C : Nat} {a : Option Addr} {c : Nat} {l : List Ob} {F : List Nat} (h : ObsRow w B a c l F) (hC : C ≤ B) : ObsRow w C a c l F := by
  obtain ⟨P, f, r, o, rfl, hn, hB⟩ := h
  exact ⟨P, f, row_base r hC, o, rfl, hn, fun b hb => Nat.le_trans hC (hB b hb)⟩
theorem ObsRow.own {w : World} {B : Nat} {a : Option Addr} {c : Nat} {l : List Ob} {F : List Nat} (h : ObsRow w B a c l F) : ∃ f, Own w (.sl KObject) [.slice a l.length c] (.sl (dO l)) f ∧ f.Nodup ∧ ∀ b ∈ f, b ∈ F := by
  obtain ⟨P, f, r, o, rfl, hn, hB⟩ := h
  obtain ⟨n1, n2, d⟩ := nodup_parts hn
  refine ⟨_, row_own2 r o, rowF_nodup n2 d, fun b hb => ?_⟩
  rcases rowF_sub b hb with h | h
  · exact List.mem_append_left _ h
  · exact List.mem_append_right _ h
theorem ObsRow.next {w : World} {B : Nat} {a : Option Addr} {c : Nat} {l : List Ob} {F : List Nat} (h : ObsRow w B a c l F) : ∃ P, w.ownsRow B 53 6 (.slice a l.length c) l.length P ∧ ∀ (w1 w' : World) (a' : Option Addr) (c' : Nat) (us : List Value) (o : Ob) (f : List Nat),
    Below w.heap.size w w1 → OwnL w1 LObject us o.dt f → f.Nodup → (∀ b ∈ f, w.heap.size ≤ b) → B ≤ w.heap.size → w'.ownsRow B 53 6 (.slice a' (l.length + 1) c') (l.length + 1) (P ++ us) → w1.grownBy w' (Value.ownBlock (.slice a l.length c)) → (∀ b ∈ rowL (.slice a' (l.length + 1) c'), b ∈ rowL (.slice a l.length c) ∨ w1.heap.size ≤ b) →
    ∃ F', ObsRow w' B a' c' (l ++ [o]) F' ∧ (∀ b ∈ F', b ∈ F ∨ w.heap.size ≤ b) ∧ Turns w w' (fun b => b ∈ F) := by
  obtain ⟨P, f0, r, o0, rfl, hn, hB⟩ := h
  obtain ⟨n1, n2, d⟩ := nodup_parts hn
  refine ⟨P, r, fun w1 w' a' c' us o f hb ho hf hge hBw hown hg hnew => ?_⟩
  have hlt := rowL_ge r
  have ht := Turns.of_grown hg
  have hl : (l ++ [o]).length = l.length + 1 := by simp
  have hOw : OwnL w' (List.replicate (l.length + 1) KObject) (P ++ us) (dO (l ++ [o])) (f0 ++ f) := by
    rw [List.replicate_succ', show dO (l ++ [o]) = dO l ++ [.st o.dt] by simp [dO]]
    refine OwnL.snoc ((o0.under hb).turned ht (fun b hb2 e => d b (by simp [rowL, e]) hb2)) (.st (ho.turned ht (fun b hb2 e => ?_)))
    have := hlt b (by simp [rowL, e])
    have := hge b hb2
    omega
  have dd : ∀ b ∈ rowL (.slice a' (l.length + 1) c'), b ∉ f0 ++ f := fun b hm hx => by
    rcases hnew b hm with h | h
    · rcases List.mem_append.1 hx with k | k
      · exact d b h k
      · have := hlt b h; have := hge b k; omega
    · rcases List.mem_append.1 hx with k | k
      · have := o0.lt b k; have := hb.size; omega
      · have := ho.lt b k; omega
  refine ⟨rowL (.slice a' (l.length + 1) c') ++ (f0 ++ f), ⟨P ++ us, f0 ++ f, by rw [hl]; exact hown, by rw [hl]; exact hOw, by rw [hl], app_nodup (rowL_nodup _) (app_nodup n2 hf (fun x hx hy => by have := hge x hy; have := o0.lt x hx; omega)) dd, ?_⟩, ?_, ?_⟩
  · intro b hm
    rcases List.mem_append.1 hm with h | h
    · exact (rowL_ge hown b h).1
    · rcases List.mem_append.1 h with h | h
      · exact hB b (List.mem_append_right _ h)
      · exact Nat.le_trans hBw (hge b h)
  · intro b hm
    rcases List.mem_append.1 hm with h | h
    · rcases hnew b h with h | h
      · exact .inl (List.mem_append_left _ h)
      · exact .inr (by have := hb.size; omega)
    · rcases List.mem_append.1 h with h | h
      · exact .inl (List.mem_append_right _ h)
      · exact .inr (hge b h)
  · exact (Turns.of_below hb).trans (ht.mono (fun k hk => List.mem_append_left _ (by simp [rowL, hk])))
def ObsNew (l : List Ob) (w : World) (e : Ending) (w' : World) : Prop := ∃ (a : Option Addr) (c : Nat) (F : List Nat), e = .returned (.slice a l.length c) ∧ ObsRow w' w.heap.size a c l F ∧ Below w.heap.size w w'
end Go.Proofs.YtbdjnfnphilklaaGreat.Own
namespace Go.Proofs.YtbdjnfnphilklaaGreat.Own
open Go.ChangeShapes Go.WideShapes Go.ChangeAt Go.RowKit
open Kit Slabs Ints Point
set_option linter.unusedVariables false
set_option linter.unusedSimpArgs false
set_option linter.unnecessarySimpa false
set_option maxRecDepth 100000
def Rpo (l : List Ob) (P0 : List Value) (b : Option Addr) (d : Nat) (w : World) (j : Nat) (wr : World) : Prop := ∃ (U : List Value) (fu : List Nat),
  U.length = j * 6 ∧ wr.ownsRow w.heap.size 53 6 (.slice b l.length d) l.length (U ++ P0.drop (j * 6)) ∧ OwnL wr (List.replicate j KObject) U ((dO l).take j) fu ∧ (rowL (.slice b l.length d) ++ fu).Nodup ∧ (∀ x ∈ fu, w.heap.size ≤ x) ∧ Below w.heap.size w wr
theorem Rpo.start {l : List Ob} {P0 : List Value} {b : Option Addr} {d : Nat} {w wr : World} (h : wr.ownsRow w.heap.size 53 6 (.slice b l.length d) l.length P0) (hb : Below w.heap.size w wr) : Rpo l P0 b d w 0 wr :=
  ⟨[], [], rfl, by simpa using h, .nil, by simpa using rowL_nodup _, by simp, hb⟩
theorem Rpo.on {l : List Ob} {P0 : List Value} {b : Option Addr} {d : Nat} {w wr w' : World} {j : Nat} (h : Rpo l P0 b d w j wr) (hb : Below wr.heap.size wr w') : Rpo l P0 b d w j w' := by
  obtain ⟨U, fu, e, r, o, n, hf, bw⟩ := h
  exact ⟨U, fu, e, row_on r hb, o.under hb, n, hf, on_of bw hb⟩
theorem Rpo.below {l : List Ob} {P0 : List Value} {b : Option Addr} {d : Nat} {w wr : World} {j : Nat} (h : Rpo l P0 b d w j wr) : Below w.heap.size w wr := by
  obtain ⟨U, fu, e, r, o, n, hf, bw⟩ := h; exact bw
theorem Rpo.done {l : List Ob} {P0 : List Value} {b : Option Addr} {d : Nat} {w wr : World} {j : Nat} (h : Rpo l P0 b d w j wr) (hj : j = l.length) (hP : P0.length = l.length * 6) : ObsNew l w (.returned (.slice b l.length d)) wr := by
  subst hj
  obtain ⟨U, fu, e, r, o, n, hf, bw⟩ := h
  rw [← hP, List.drop_length, List.append_nil] at r
  rw [← len_dO, List.take_length, len_dO] at o
  exact ⟨b, d, _, rfl, ⟨U, fu, r, o, rfl, n, mem2 (p := fun x => w.heap.size ≤ x) (fun x hx => (rowL_ge r x hx).1) hf⟩, bw⟩
theorem Rpo.one {l : List Ob} {P0 : List Value} {b : Option Addr} {d : Nat} {w wr : World} {j : Nat} (h : Rpo l P0 b d w j wr) {q : List Nat} (O : OwnL w (List.replicate l.length KObject) P0 (dO l) q) (hk : j < l.length) :
    ∃ g C f, b = some ⟨g, 0, none⟩ ∧ w.heap.size ≤ g ∧ g < wr.heap.size ∧ OwnL w LObject C.toList l[j].dt f ∧ (hload 53 ⟨g, j * 6, none⟩).run Tryz.prog wr = .ok (.agg C) wr ∧
      ∀ (w5 : World) (R : Array Value) (F : List Nat), Below wr.heap.size wr w5 → OwnL w5 LObject R.toList l[j].dt F → F.Nodup → (∀ x ∈ F, wr.heap.size ≤ x) →
        ∃ V, (hstore 53 ⟨g, j * 6, none⟩ (.agg R)).run Tryz.prog w5 = .ok () V ∧ Rpo l P0 b d w (j + 1) V := by
  obtain ⟨U, fu, e2, r12, o12, nd, hf, bw⟩ := h
  have hke : j < (dO l).length := by rw [len_dO]; exact hk
  obtain ⟨A, cs, D, ds, f', hP, lA, lc, he, oc, _⟩ := pick_rep O hke
  have e3 : (dO l)[j] = .st l[j].dt := by simp [dO]
  rw [e3] at he
  injection he with he
  subst he
  have lA' : A.length = j * 6 := lA
  have lc' : cs.length = 6 := lc
  have hd : P0.drop (j * 6) = cs ++ D := by rw [hP, ← lA', List.drop_left]
  have hd2 : P0.drop ((j + 1) * 6) = D := by
    rw [hP, ← List.append_assoc, show (j + 1) * 6 = (A ++ cs).length by rw [List.length_append, lA', lc', Nat.succ_mul], List.drop_left]
  rw [hd] at r12
  obtain ⟨g, rfl, hg, bg, cg, hnc, hcm⟩ := row_cap r12 (by omega)
  have hgr : rowL (.slice (some ⟨g, 0, none⟩) l.length d) = [g] := rfl
  have hgl := bg.2.2
  rw [hgr] at nd
  have gn : g ∉ fu := fun hm => (List.nodup_cons.1 nd).1 hm
  refine ⟨g, cs.toArray, f', rfl, hg, hgl, by simpa using oc, ?_, fun w5 R F hb oR nR gR => ?_⟩
  · exact hload_run (P := Tryz.prog) (t := 53) Tryz.isAgg53 Tryz.sizeOf53 (w := wr) (b := g) (o := j * 6) (us := cs) (Blk.part bg e2) lc
  · have b5 := bg.keep hb
    have lR : R.toList.length = 6 := oR.len
    have st := hstore_run (P := Tryz.prog) (t := 53) Tryz.sizeOf53 (w := w5) (b := g) (o := j * 6) (A := U) (us := cs) (R := D) (vs := R.toList) b5 e2 (by rw [lR, lc']) lR (fun v hv => oR.one v hv)
    have est : R.toList.toArray = R := by simp
    rw [est] at st
    have BS := Blk.sets (P := U) (us := cs) (vs := R.toList) (R := D) (w := w5) (b := g) (o := j * 6) b5 e2 (by rw [lR, lc'])
    have cS := (cg.keep hb).sets R.toList (j * 6)
    have tS := turns_sets (S := fun b => b = g) g rfl R.toList (j * 6) w5
    generalize w5.setCells g (j * 6) R.toList = V at st BS cS tS
    have hsz := bw.size
    have hsz5 := hb.size
    refine ⟨V, st, U ++ R.toList, fu ++ F, by rw [List.length_append, e2, lR, Nat.succ_mul], (by rw [hd2]; exact (cap_row (by simpa using BS) cS (by have h2 := r12.1; simp only [List.length_append, e2, lc', lR] at h2 ⊢; omega) hnc hcm hg)), (by rw [List.take_succ_eq_append_getElem hke, e3, List.replicate_succ']; exact ((o12.under hb).turned tS (fun b hm e => gn (by have e' : b = g := e; rw [← e']; exact hm))).snoc (.st (oR.turned tS (fun b hm e => by have e' : b = g := e; have := gR b hm; omega)))), ?_, ?_, ?_⟩
    · rw [hgr, ← List.append_assoc]
      exact app_nodup nd nR (fun x hx hy => by
        have := gR x hy
        rcases List.mem_append.1 hx with h | h
        · have : x = g := by simpa using h
          omega
        · have := o12.lt x h; omega)
    · intro x hm
      rcases List.mem_append.1 hm with h | h
      · exact hf x h
      · have := gR x h; omega
    · exact (on_of bw hb).trans (tS.below (by omega) (fun x e => by have e' : x = g := e; omega))
attribute [local go_sem ↓] hload_Object hstore_Object
set_option maxHeartbeats 4000000 in
theorem cobs_impl (w : World) (a : Option Addr) (c : Nat) (l : List Ob) {fp : List Nat} (hb : l.length + bulkL (dO l) ≤ 1048576) (h : Own w (.sl KObject) [.slice a l.length c] (.sl (dO l)) fp) :
    Calls Tryz.prog 72 #[.slice a l.length c] w (ObsNew l w) := by
  obtain ⟨P, q, L, hl, O, _, h1, _, _⟩ := own_lies h
  have hl' : P.length = l.length * 6 := by simpa [Kd.sz, szL] using hl
  have HP := Lib.hid (And.intro L (And.intro hl' (And.intro O (And.intro h1 hb))))
  obtain ⟨n, hN⟩ : ∃ n, l.length = n := ⟨_, rfl⟩
  have HN := Lib.hid hN
  have hn : n ≤ 1048576 := by omega
  have HC := Lib.hid (cop_obs w a n c P hn (by rw [hl', hN]) h1 L)
  rw [hN]
  clear L hl hl' O h1 hb h hN
  go_enter Tryz.func72, Tryz.ntmps72
  go_wp2_with fail
  ((with_reducible refine HC.out.mono ?_); rintro e w1 ⟨b, d, rfl, r1, bb⟩)
  have HR := Lib.hid (Rpo.start (P0 := P) (b := b) (d := d) (l := l) (by rw [HN.out]; exact r1) bb)
  clear r1 bb HC
  go_wp2
  go_loopw [10] (fun v wr => ∃ k : Nat, k ≤ n ∧ v = .int .i64 (k : Int) ∧ Hid (Rpo l P b d w k wr)) (fun v _ => n - (intOf v).toNat)
  case atStart => exact ⟨0, Nat.zero_le _, rfl, HR⟩
  case round =>
    obtain ⟨k, hk, rfl, hL⟩ := hrel
    by_cases hlt : k < n
    · have hkl : k < l.length := by rw [HN.out]; exact hlt
      obtain ⟨g, C, f, rfl, hgB, hgl, oC, hld, hput⟩ := hL.out.one HP.out.2.2.1 hkl
      have hbk : bulkL l[k].dt ≤ 1048576 := by
        have h1 := bulk_elt (es := dO l) (i := k) (by rw [len_dO]; exact hkl)
        have e3 : (dO l)[k]'(by rw [len_dO]; exact hkl) = .st l[k].dt := by simp [dO]
        rw [e3] at h1
        simp only [Dt.bulk] at h1
        have := HP.out.2.2.2.2
        omega
      have i0 : (0 : Int) ≤ (k : Int) := by omega
      have i1 : (k : Int) < (n : Int) := by omega
      obtain ⟨E, st, BX, cx, zx⟩ := var_new (P := Tryz.prog) (T := 53) Tryz.sizeOf53 wr #[.slice none 0 0, .int .i64 0, .int .i64 0, .int .i64 0, .int .i64 0, .int .i64 0] rfl oC rfl
      have lv := var_load (P := Tryz.prog) Tryz.isAgg53 Tryz.sizeOf53 BX oC rfl
      have HX := Lib.hid (And.intro hput (And.intro (oC.under (on_of hL.out.below cx)) (And.intro hbk (And.intro cx hgB))))
      clear hput oC hbk BX cx
      go_wp2_with fail
      clear hld st lv
      ((with_reducible refine (clone_Object E HX.out.2.2.1 HX.out.2.1).mono ?_); rintro e w5 ⟨R, F, rfl, oR, nR, gF, bb⟩)
      have hs := HX.out.2.2.2.1.size
      obtain ⟨V, st, hV⟩ := HX.out.1 w5 R F (on_of HX.out.2.2.2.1 bb) oR nR (fun x hx => by have := gF x hx; omega)
      have HV := Lib.hid hV
      clear oR nR gF bb hV
      go_wp2
      go_roundw
      case rel => exact ⟨k + 1, by omega, by go_num, HV⟩
      case measure => simp [intOf]; omega
    · obtain rfl : k = n := by omega
      go_wp2
      go_ret
      have h9 := hL.out.done HN.out.symm HP.out.2.1
      rw [HN.out] at h9
      exact h9
end Go.Proofs.YtbdjnfnphilklaaGreat.Own
namespace Go.Proofs.YtbdjnfnphilklaaGreat.Ins
open Go.ChangeShapes Go.WideShapes Go.ChangeAt Go.RowKit
open Kit Point Slabs
open Go.Proofs.YtbdjnfnphilklaaGreat.Own (Blk Ob grayB OwnL LObject KPt dP dPt)
set_option linter.unusedVariables false
set_option linter.unusedSimpArgs false
set_option linter.unnecessarySimpa false
set_option maxRecDepth 100000
def mvO (o : Ob) (dx dy : Int) : Ob := ⟨shV o.path (dx, dy), o.gray, IntKind.i64.wrap (o.x0 + dx), IntKind.i64.wrap (o.y0 + dy), IntKind.i64.wrap (o.x1 + dx), IntKind.i64.wrap (o.y1 + dy)⟩
def mvB (o : Ob) (dx dy : Int) : Bool := Own.obB o && Own.obB (mvO o dx dy)
def mvR (o : Ob) (dx dy : Int) : Ob := if mvB o dx dy then mvO o dx dy else o
def MvIs (o : Ob) (r : Bool) (w : World) (e : Ending) (w' : World) : Prop := ∃ (R : Array Value) (f : List Nat), e = .returned (.tuple #[.agg R, .bool r]) ∧ OwnL w' LObject R.toList o.dt f ∧ f.Nodup ∧ (∀ b ∈ f, w.heap.size ≤ b) ∧ Below w.heap.size w w'
theorem ownL_set {w : World} {ks : List Own.Kd} {cs : List Value} {ds : List Own.Dt} {fp : List Nat} {b : Nat} (h : OwnL w ks cs ds fp) (hn : b ∉ fp) (o : Nat) (v : Value) : OwnL (w.setCell ⟨b, o, none⟩ v) ks cs ds fp :=
  OwnL.stays (by simp) h (fun x hx => Below.heap_setCell _ _ _ _ (fun e => hn (by have e' : x = b := e; rw [← e']; exact hx)))
theorem own_row10 {w : World} {B : Nat} {v : Value} {m : List Pt} (h : w.ownsRow B 110 2 v m.length (cellsP m)) : ∃ fp, Own.Own w (.sl KPt) [v] (.sl (dP m)) fp ∧ fp.Nodup ∧ ∀ b ∈ fp, B ≤ b := by
  have hs := slab_owns h
  refine ⟨_, Own.pts_own hs (Own.len_dP m) (fun i hi => ⟨pX m i, pY m i, ?_, rfl⟩), ?_, fun b hb => (hs.row b (by simpa using hb)).1⟩
  · have e : m.getD i (0, 0) = m[i] := by simp [List.getD, List.getElem?_eq_getElem hi]
    simp only [Own.at_, dP, List.getD_eq_getElem?_getD, List.getElem?_map, List.getElem?_eq_getElem hi, Option.map_some, Option.getD_some, dPt, pX, pY]
  · cases Slabs.rowOf m.length v <;> simp
theorem obj_open {w : World} {A : Array Value} {o : Ob} {fp : List Nat} (h : OwnL w LObject A.toList o.dt fp) :
    ∃ a c, A = #[.slice a o.path.length c, .int .i64 o.gray, .int .i64 o.x0, .int .i64 o.y0, .int .i64 o.x1, .int .i64 o.y1] ∧ PathAt w a o.path := by
  obtain ⟨a0, c0, f0, hA, hf, o0⟩ := Own.inv_Object_ h
  simp only [Own.len_dP] at hA o0
  refine ⟨a0, c0, ?_, (Own.path_of o0).2⟩
  apply Array.toList_inj.1
  simpa using hA
theorem obj_len {o : Ob} (hb : Own.bulkL o.dt ≤ 1048576) : o.path.length ≤ 1048576 := by
  simp only [Own.Ob.dt, Own.bulkL, Own.Dt.bulk, Own.len_dP, Own.bulk_dP] at hb; omega
theorem obj_close {w : World} {B : Nat} {va : Option Addr} {vc : Nat} {o : Ob} (h : w.ownsRow B 110 2 (.slice va o.path.length vc) o.path.length (cellsP o.path)) :
    ∃ f, OwnL w LObject [.slice va o.path.length vc, .int .i64 o.gray, .int .i64 o.x0, .int .i64 o.y0, .int .i64 o.x1, .int .i64 o.y1] o.dt f ∧ f.Nodup ∧ ∀ b ∈ f, B ≤ b := by
  obtain ⟨f, o0, n0, g0⟩ := own_row10 h
  exact ⟨f, Own.mk_ob o.gray o.x0 o.y0 o.x1 o.y1 o0, n0, g0⟩
structure MvS (W w : World) (GA GR GM : Nat) (cs ms : List Value) : Prop where
  A : Blk W GA cs
  R : Blk W GR [.slice none 0 0, .int .i64 0, .int .i64 0, .int .i64 0, .int .i64 0, .int .i64 0]
  M : Blk W GM ms
  B : Below w.heap.size w W
theorem MvS.on {W w V : World} {GA GR GM : Nat} {cs ms : List Value} (h : MvS W w GA GR GM cs ms) (hb : Below W.heap.size W V) : MvS V w GA GR GM cs ms :=
  ⟨h.A.keep hb, h.R.keep hb, h.M.keep hb, on_of h.B hb⟩
theorem six {W : World} {G : Nat} {v : Value} {g x0 y0 x1 y1 : Int} (h : Blk W G [v, .int .i64 g, .int .i64 x0, .int .i64 y0, .int .i64 x1, .int .i64 y1]) :
    W.cell? ⟨G, 0, none⟩ = some v ∧ W.cell? ⟨G, 1, none⟩ = some (.int .i64 g) ∧ W.cell? ⟨G, 2, none⟩ = some (.int .i64 x0) ∧ W.cell? ⟨G, 3, none⟩ = some (.int .i64 y0) ∧ W.cell? ⟨G, 4, none⟩ = some (.int .i64 x1) ∧ W.cell? ⟨G, 5, none⟩ = some (.int .i64 y1) ∧ (∀ o, W.frozen? ⟨G, o, none⟩ = false) ∧ G < W.heap.size :=
  ⟨h.1 0 _ rfl, h.1 1 _ rfl, h.1 2 _ rfl, h.1 3 _ rfl, h.1 4 _ rfl, h.1 5 _ rfl, h.2.1, h.2.2⟩
end Go.Proofs.YtbdjnfnphilklaaGreat.Ins
namespace Go.Proofs.YtbdjnfnphilklaaGreat.Own
open Go.ChangeShapes Go.WideShapes Go.ChangeAt Go.RowKit
open Kit Slabs Ints
set_option linter.unusedVariables false
set_option linter.unusedSimpArgs false
set_option linter.unnecessarySimpa false
set_option maxRecDepth 100000
attribute [local go_sem ↓] hstore_Object
attribute [local go_sem ↓] hloadL_Object
theorem info_Object : (Tryz.prog.info? 53).map (fun i => (i.zero, i.size, i.bytes)) = some (some (.agg #[.slice none 0 0, .int .i64 0, .int .i64 0, .int .i64 0, .int .i64 0, .int .i64 0]), 6, 64) := by kernel_rfl
set_option maxHeartbeats 4000000 in
theorem to_ObjectS (w : World) (a : Option Addr) (n c : Nat) (es : List Dt) (hb : n + bulkL es ≤ 1048576) (h : Came w (.sl KObject) [.slice a n c] (.sl es)) :
    Calls Tryz.prog 47 #[.slice a n c] w fun e w' => ∃ (a' : Option Addr) (c' : Nat) (fp : List Nat), e = .returned (.slice a' n c') ∧ Own w' (.sl KObject) [.slice a' n c'] (.sl es) fp ∧ fp.Nodup ∧ (∀ b ∈ fp, w.heap.size ≤ b) ∧ Below w.heap.size w w' := by
  obtain ⟨i0, hi0, hz0, hz1, hz2⟩ := info_parts info_Object
  have hmk : ∀ W : World, (Instr.makeSlice 25 (.int .i64 (n : Int)) (.int .i64 (n : Int))).run Tryz.prog W = .ok (.slice (some ⟨W.heap.size, 0, none⟩) n n) (W.alloc (.cells (madeCells (Value.agg #[.slice none 0 0, .int .i64 0, .int .i64 0, .int .i64 0, .int .i64 0, .int .i64 0]).cells (n * i0.size)) 53)) := fun W =>
    run_make_rowN 25 53 i0 _ Tryz.underlying25 hi0 hz0 .i64 .i64 n n (Nat.le_refl _) (by rw [hz2]; omega) (by omega) W
  obtain ⟨Z0, hZ0⟩ : ∃ Z0 : List Value, madeCells (Value.agg #[.slice none 0 0, .int .i64 0, .int .i64 0, .int .i64 0, .int .i64 0, .int .i64 0]).cells (n * i0.size) = Z0.toArray := ⟨(madeCells (Value.agg #[.slice none 0 0, .int .i64 0, .int .i64 0, .int .i64 0, .int .i64 0, .int .i64 0]).cells (n * i0.size)).toList, by simp⟩
  have hZl : Z0.length = n * 6 := by have := size_madeCells (Value.agg #[.slice none 0 0, .int .i64 0, .int .i64 0, .int .i64 0, .int .i64 0, .int .i64 0]).cells (n * i0.size); rw [hZ0, hz1] at this; simpa using this
  rw [hZ0] at hmk
  clear hZ0 hi0 hz0 hz1 hz2
  obtain ⟨hl, hr⟩ := h.row
  by_cases h0 : n = 0
  · subst h0
    have hes : es = [] := List.eq_nil_of_length_eq_zero hl
    subst hes
    simp only [Int.natCast_zero, Int.ofNat_zero, show ((0 : Nat) : Int) = 0 from rfl] at hmk
    clear h hr
    go_enter Tryz.func47, Tryz.ntmps47
    go_wp2
    go_rounds 1
    go_ret
    exact ⟨_, _, [], rfl, .nil _ _, List.nodup_nil, fun b hb => absurd hb List.not_mem_nil, by go_grown⟩
  · obtain ⟨g, o, rfl, hg⟩ := hr h0
    have H := Lib.hid (And.intro h (And.intro hl hb))
    have hn1 : n ≤ 1048576 := by omega
    have B0 := Lib.hid (show Blk (w.alloc (.cells Z0.toArray 53)) w.heap.size Z0 from by have := Blk.new w Z0.toArray 53 rfl; simpa using this)
    have HZl := Lib.hid hZl
    clear h hr hl hb hZl
    go_enter Tryz.func47, Tryz.ntmps47
    go_wp2
    go_loopw [4] (fun v4 wr => ∃ (k : Nat) (P1 Z : List Value) (f1 : List Nat), k ≤ n ∧ v4 = .int .i64 (k : Int) ∧ Blk wr w.heap.size (P1 ++ Z) ∧ P1.length = k * 6 ∧ Z.length = (n - k) * 6 ∧ OwnL wr (List.replicate k KObject) P1 (es.take k) f1 ∧ f1.Nodup ∧ (∀ b ∈ f1, w.heap.size + 1 ≤ b) ∧ Below w.heap.size w wr) (fun v4 _ => n - (intOf v4).toNat)
    case atStart => exact ⟨0, [], Z0, [], Nat.zero_le _, rfl, B0.out, by simp, by simpa using HZl.out, .nil, List.nodup_nil, fun b hb => absurd hb List.not_mem_nil, by go_grown⟩
    case round =>
      obtain ⟨k, P1, Z, f1, hk, rfl, hB, hP1, hZ, hO, hnd, hge, hbel⟩ := hrel
      by_cases hlt : k < n
      · have hke : k < es.length := by rw [H.out.2.1]; exact hlt
        obtain ⟨_, cs, ds, ed, od, ld, sd⟩ := H.out.1.elt hke
        have hbk := bulk_elt hke
        rw [ed] at hbk
        have hbk2 : bulkL ds ≤ 1048576 := by simp only [Dt.bulk] at hbk; have := H.out.2.2; omega
        have htk : es.take (k + 1) = es.take k ++ [.st ds] := by rw [List.take_succ_eq_append_getElem hke, ed]
        obtain ⟨C, hC⟩ : ∃ C, cs.toArray = C := ⟨_, rfl⟩
        have tC : C.toList = cs := by rw [← hC]
        have L1 := hload_run (P := Tryz.prog) (t := 46) Tryz.isAgg46 Tryz.sizeOf46 (w := wr) (b := g) (o := o + k * 6) (us := cs) (sd wr hbel) ld
        rw [hC] at L1
        rw [← tC] at od
        have HO := Lib.hid (od.on hbel)
        have hZm : 6 ≤ Z.length := by rw [hZ]; exact Nat.le_mul_of_pos_left _ (by omega)
        obtain ⟨Z1, Z2, rfl, hZ1⟩ : ∃ Z1 Z2, Z = Z1 ++ Z2 ∧ Z1.length = 6 := ⟨Z.take 6, Z.drop 6, (List.take_append_drop _ _).symm, by rw [List.length_take]; omega⟩
        clear hZm
        have hZ2 : Z2.length = (n - (k + 1)) * 6 := by
          have e : n - k = (n - (k + 1)) + 1 := by omega
          rw [List.length_append, hZ1, e, Nat.succ_mul] at hZ
          omega
        have i0 : (0 : Int) ≤ (k : Int) := by omega
        have i1 : (k : Int) < (n : Int) := by omega
        have hws := hbel.size
        have hGl := hB.2.2
        have HF := Lib.hid (And.intro hB (And.intro hO (And.intro hnd (And.intro hge (And.intro hP1 (And.intro hZ2 (And.intro htk hZ1)))))))
        clear od sd ed ld hke hC tC hbk hB hO hnd hge hP1 hZ hZ2 htk hZ1
        go_wp2_with fail
        ((with_reducible refine (to_Object _ hbk2 HO.out).mono ?_); rintro e w1 ⟨R, fq, rfl, oR, nR, gR, bb⟩)
        have hRl : R.toList.length = 6 := oR.len
        have hs2 := bb.size
        have B1 := HF.out.1.keep bb
        have st := hstore_run (P := Tryz.prog) (t := 53) Tryz.sizeOf53 (w := w1) (b := w.heap.size) (o := k * 6) (A := P1) (us := Z1) (R := Z2) (vs := R.toList) (by simpa using B1) HF.out.2.2.2.2.1 (by rw [hRl, HF.out.2.2.2.2.2.2.2]) hRl (fun v hv => oR.one v hv)
        have est : R.toList.toArray = R := by simp
        rw [est] at st
        have B2 : Blk (w1.setCells w.heap.size (k * 6) R.toList) w.heap.size ((P1 ++ R.toList) ++ Z2) := by have := Blk.sets (P := P1) (us := Z1) (vs := R.toList) (R := Z2) (w := w1) (b := w.heap.size) (o := k * 6) (by simpa using B1) HF.out.2.2.2.2.1 (by rw [hRl, HF.out.2.2.2.2.2.2.2]); simpa using this
        have q1 : OwnL (w1.setCells w.heap.size (k * 6) R.toList) (List.replicate k KObject) P1 (es.take k) f1 := ownL_sets (HF.out.2.1.under bb) (fun x hx e => by have := HF.out.2.2.2.1 x hx; omega) _ _
        have q2 : OwnL (w1.setCells w.heap.size (k * 6) R.toList) LObject R.toList ds fq := ownL_sets oR (fun x hx e => by have := gR x hx; omega) _ _
        have q3 : OwnL (w1.setCells w.heap.size (k * 6) R.toList) (List.replicate (k + 1) KObject) (P1 ++ R.toList) (es.take (k + 1)) (f1 ++ fq) := by rw [List.replicate_succ', HF.out.2.2.2.2.2.2.1]; exact q1.snoc (.st q2)
        have q4 : (f1 ++ fq).Nodup := List.nodup_append.2 ⟨HF.out.2.2.1, nR, fun x hx y hy e => by have := HF.out.2.1.lt x hx; have := gR y hy; omega⟩
        have q5 : ∀ b ∈ f1 ++ fq, w.heap.size + 1 ≤ b := fun b hx => (List.mem_append.1 hx).elim (fun h => HF.out.2.2.2.1 b h) (fun h => by have := gR b h; omega)
        have q6 : Below w.heap.size w (w1.setCells w.heap.size (k * 6) R.toList) := Below.setCells (Nat.le_refl _) R.toList (k * 6) (on_of hbel bb)
        have q7 : (P1 ++ R.toList).length = (k + 1) * 6 := by rw [List.length_append, HF.out.2.2.2.2.1, hRl, Nat.succ_mul]
        have HE := Lib.hid (And.intro B2 (And.intro q3 (And.intro q4 (And.intro q5 (And.intro q6 q7)))))
        clear B2 q1 q2 q3 q4 q5 q6 q7 oR B1 est hRl nR gR bb
        go_wp2
        go_roundw
        case rel => exact ⟨k + 1, P1 ++ R.toList, Z2, f1 ++ fq, by omega, by go_num, HE.out.1, HE.out.2.2.2.2.2, HF.out.2.2.2.2.2.1, HE.out.2.1, HE.out.2.2.1, HE.out.2.2.2.1, HE.out.2.2.2.2.1⟩
        case measure => simp [intOf]; omega
      · obtain rfl : k = n := by omega
        have hZe : Z = [] := List.eq_nil_of_length_eq_zero (by rw [hZ]; simp)
        subst hZe
        rw [List.append_nil] at hB
        have hes : es.take k = es := by rw [← H.out.2.1, List.take_length]
        rw [hes] at hO
        have x1 : (w.heap.size :: f1).Nodup := List.nodup_cons.2 ⟨fun (hm : w.heap.size ∈ f1) => by have := hge _ hm; omega, hnd⟩
        have x2 : ∀ b ∈ w.heap.size :: f1, w.heap.size ≤ b := fun b hm => by
          rcases List.mem_cons.1 hm with e | h
          · omega
          · have := hge b h; omega
        have HE := Lib.hid (And.intro (own_sl (n := k) (cap := k) hB hO (fun q hq => (List.mem_replicate.1 hq).2) H.out.2.1 h0 (Nat.le_refl _)) (And.intro x1 (And.intro x2 hbel)))
        clear x1 x2
        clear hB hO hnd hge hbel hes
        go_wp2
        go_ret
        exact ⟨_, _, _, rfl, HE.out.1, HE.out.2.1, HE.out.2.2.1, HE.out.2.2.2⟩
end Go.Proofs.YtbdjnfnphilklaaGreat.Own
