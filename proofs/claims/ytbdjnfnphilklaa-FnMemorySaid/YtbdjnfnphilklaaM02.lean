/-
  Texts of this seat, laid together: Own, Came
-/
import Derived.Test.YtbdjnfnphilklaaRows
import Derived.WalkKit
import Derived.ProofKit
import Derived.OpenShut
import Derived.ChangeArms
import Derived.Deep.Slices
import Derived.Deep.Fields
import Derived.ChangeSame
import Derived.Test.YtbdjnfnphilklaaM01
namespace Go.Proofs.Ytbdjnfnphilklaa.Own
open Go.ChangeShapes Go.WideShapes Go.ChangeAt Go.RowKit
open Kit
set_option linter.unusedVariables false
set_option linter.unusedSimpArgs false
set_option linter.unnecessarySimpa false
inductive Kd where
  | int
  | str
  | bool
  | st (fs : List Kd)
  | sl (e : Kd)
inductive Dt where
  | int (n : Int)
  | str (s : ByteArray)
  | bool (b : Bool)
  | st (fs : List Dt)
  | sl (es : List Dt)
mutual
def Kd.sz : Kd → Nat
  | .int => 1
  | .str => 1
  | .bool => 1
  | .st fs => szL fs
  | .sl _ => 1
def szL : List Kd → Nat
  | [] => 0
  | k :: r => k.sz + szL r
end
mutual
inductive Own (w : World) : Kd → List Value → Dt → List Nat → Prop
  | int (n : Int) : Own w .int [.int .i64 n] (.int n) []
  | str (s : ByteArray) : Own w .str [.string s] (.str s) []
  | bool (b : Bool) : Own w .bool [.bool b] (.bool b) []
  | st {ks : List Kd} {cs : List Value} {ds : List Dt} {fp : List Nat} : OwnL w ks cs ds fp → Own w (.st ks) cs (.st ds) fp
  | nil {e : Kd} (a : Option Addr) (cap : Nat) : Own w (.sl e) [.slice a 0 cap] (.sl []) []
  | sl {e : Kd} {g n cap : Nat} {es : List Dt} {fp : List Nat} : es.length = n → n ≠ 0 → n ≤ cap → g < w.heap.size → (∀ o, w.frozen? ⟨g, o, none⟩ = false) → Rows w e g 0 es fp → Own w (.sl e) [.slice (some ⟨g, 0, none⟩) n cap] (.sl es) (g :: fp)
inductive OwnL (w : World) : List Kd → List Value → List Dt → List Nat → Prop
  | nil : OwnL w [] [] [] []
  | cons {k : Kd} {cs : List Value} {d : Dt} {fp : List Nat} {ks : List Kd} {cs' : List Value} {ds : List Dt} {fp' : List Nat} : Own w k cs d fp → OwnL w ks cs' ds fp' → OwnL w (k :: ks) (cs ++ cs') (d :: ds) (fp ++ fp')
inductive Rows (w : World) : Kd → Nat → Nat → List Dt → List Nat → Prop
  | nil {e : Kd} {g o : Nat} : Rows w e g o [] []
  | cons {e : Kd} {g o : Nat} {cs : List Value} {d : Dt} {fp : List Nat} {ds : List Dt} {fp' : List Nat} : (∀ j u, cs[j]? = some u → w.cell? ⟨g, o + j, none⟩ = some u) → Own w e cs d fp → Rows w e g (o + e.sz) ds fp' → Rows w e g o (d :: ds) (fp ++ fp')
end
mutual
theorem Own.len {w : World} : ∀ {k : Kd} {cs : List Value} {d : Dt} {fp : List Nat}, Own w k cs d fp → cs.length = k.sz
  | _, _, _, _, .int n => rfl
  | _, _, _, _, .str s => rfl
  | _, _, _, _, .bool b => rfl
  | _, _, _, _, .st h => by simp only [Kd.sz]; exact OwnL.len h
  | _, _, _, _, .nil a cap => rfl
  | _, _, _, _, .sl _ _ _ _ _ _ => rfl
theorem OwnL.len {w : World} : ∀ {ks : List Kd} {cs : List Value} {ds : List Dt} {fp : List Nat}, OwnL w ks cs ds fp → cs.length = szL ks
  | _, _, _, _, .nil => rfl
  | _, _, _, _, .cons h r => by simp only [szL, List.length_append]; rw [Own.len h, OwnL.len r]
end
mutual
theorem Own.stays {w w' : World} (hs : w.heap.size ≤ w'.heap.size) : ∀ {k : Kd} {cs : List Value} {d : Dt} {fp : List Nat}, Own w k cs d fp → (∀ b ∈ fp, w'.heap[b]? = w.heap[b]?) → Own w' k cs d fp
  | _, _, _, _, .int n, _ => .int n
  | _, _, _, _, .str s, _ => .str s
  | _, _, _, _, .bool b, _ => .bool b
  | _, _, _, _, .st h, hb => .st (OwnL.stays hs h hb)
  | _, _, _, _, .nil a cap, _ => .nil a cap
  | _, _, _, _, .sl (g := g) h1 h2 h3 h4 h5 h6, hb =>
    have hg : w'.heap[g]? = w.heap[g]? := hb g (List.mem_cons_self)
    .sl h1 h2 h3 (Nat.lt_of_lt_of_le h4 hs) (fun o => by rw [World.frozen?_of_block (w := w) hg]; exact h5 o) (Rows.stays hs hg h6 (fun b hm => hb b (List.mem_cons_of_mem _ hm)))
theorem OwnL.stays {w w' : World} (hs : w.heap.size ≤ w'.heap.size) : ∀ {ks : List Kd} {cs : List Value} {ds : List Dt} {fp : List Nat}, OwnL w ks cs ds fp → (∀ b ∈ fp, w'.heap[b]? = w.heap[b]?) → OwnL w' ks cs ds fp
  | _, _, _, _, .nil, _ => .nil
  | _, _, _, _, .cons h r, hb => .cons (Own.stays hs h (fun b hm => hb b (List.mem_append_left _ hm))) (OwnL.stays hs r (fun b hm => hb b (List.mem_append_right _ hm)))
theorem Rows.stays {w w' : World} (hs : w.heap.size ≤ w'.heap.size) : ∀ {e : Kd} {g o : Nat} {ds : List Dt} {fp : List Nat}, w'.heap[g]? = w.heap[g]? → Rows w e g o ds fp → (∀ b ∈ fp, w'.heap[b]? = w.heap[b]?) → Rows w' e g o ds fp
  | _, _, _, _, _, _, .nil, _ => .nil
  | _, _, _, _, _, hg, .cons hc h r, hb => .cons (fun j u hu => by rw [World.cell?_of_block (w := w) hg]; exact hc j u hu) (Own.stays hs h (fun b hm => hb b (List.mem_append_left _ hm))) (Rows.stays hs hg r (fun b hm => hb b (List.mem_append_right _ hm)))
end
mutual
theorem Own.lt {w : World} : ∀ {k : Kd} {cs : List Value} {d : Dt} {fp : List Nat}, Own w k cs d fp → ∀ b ∈ fp, b < w.heap.size
  | _, _, _, _, .int n, b, hb => by cases hb
  | _, _, _, _, .str s, b, hb => by cases hb
  | _, _, _, _, .bool _, b, hb => by cases hb
  | _, _, _, _, .st h, b, hb => OwnL.lt h b hb
  | _, _, _, _, .nil a cap, b, hb => by cases hb
  | _, _, _, _, .sl h1 h2 h3 h4 h5 h6, b, hb => by
    rcases List.mem_cons.1 hb with rfl | hb
    · exact h4
    · exact Rows.lt h6 b hb
theorem OwnL.lt {w : World} : ∀ {ks : List Kd} {cs : List Value} {ds : List Dt} {fp : List Nat}, OwnL w ks cs ds fp → ∀ b ∈ fp, b < w.heap.size
  | _, _, _, _, .nil, b, hb => by cases hb
  | _, _, _, _, .cons h r, b, hb => by
    rcases List.mem_append.1 hb with hb | hb
    · exact Own.lt h b hb
    · exact OwnL.lt r b hb
theorem Rows.lt {w : World} : ∀ {e : Kd} {g o : Nat} {ds : List Dt} {fp : List Nat}, Rows w e g o ds fp → ∀ b ∈ fp, b < w.heap.size
  | _, _, _, _, _, .nil, b, hb => by cases hb
  | _, _, _, _, _, .cons hc h r, b, hb => by
    rcases List.mem_append.1 hb with hb | hb
    · exact Own.lt h b hb
    · exact Rows.lt r b hb
end
theorem Own.under {w w' : World} {k : Kd} {cs : List Value} {d : Dt} {fp : List Nat} (h : Own w k cs d fp) (hb : Below w.heap.size w w') : Own w' k cs d fp :=
  h.stays hb.size (fun b hm => hb.block b (h.lt b hm))
theorem Own.kept {w w' : World} {k : Kd} {cs : List Value} {d : Dt} {fp : List Nat} {row : Option Nat} (h : Own w k cs d fp) (hg : w.grownBy w' row) (hr : ∀ b ∈ fp, row ≠ some b) : Own w' k cs d fp :=
  h.stays hg.size (fun b hm => hg.block b (h.lt b hm) (fun e => hr b hm e.symm))
structure Turns (w w' : World) (S : Nat → Prop) : Prop where
  os : w'.os = w.os
  tape : w'.tape = w.tape
  output : w'.output = w.output
  size : w.heap.size ≤ w'.heap.size
  block : ∀ k, k < w.heap.size → ¬ S k → w'.heap[k]? = w.heap[k]?
theorem Turns.refl (w : World) (S : Nat → Prop) : Turns w w S := ⟨rfl, rfl, rfl, Nat.le_refl _, fun _ _ _ => rfl⟩
theorem Turns.trans {a b c : World} {S : Nat → Prop} (h : Turns a b S) (k : Turns b c S) : Turns a c S :=
  ⟨k.os.trans h.os, k.tape.trans h.tape, k.output.trans h.output, Nat.le_trans h.size k.size, fun i hi hn => (k.block i (Nat.lt_of_lt_of_le hi h.size) hn).trans (h.block i hi hn)⟩
theorem Turns.mono {w w' : World} {S T : Nat → Prop} (h : Turns w w' S) (hst : ∀ k, S k → T k) : Turns w w' T := ⟨h.os, h.tape, h.output, h.size, fun k hk hn => h.block k hk (fun hs => hn (hst k hs))⟩
theorem Turns.of_grown {w w' : World} {row : Option Nat} (h : w.grownBy w' row) : Turns w w' (fun k => row = some k) := ⟨h.os, h.tape, h.output, h.size, fun k hk hn => h.block k hk (fun e => hn e.symm)⟩
theorem Turns.below {w w' : World} {S : Nat → Prop} {B : Nat} (h : Turns w w' S) (hB : B ≤ w.heap.size) (hS : ∀ k, S k → B ≤ k) : Below B w w' :=
  ⟨h.os, h.tape, h.output, h.size, fun k hk => h.block k (Nat.lt_of_lt_of_le hk hB) (fun hs => by have := hS k hs; omega)⟩
theorem Own.turned {w w' : World} {k : Kd} {cs : List Value} {d : Dt} {fp : List Nat} {S : Nat → Prop} (h : Own w k cs d fp) (ht : Turns w w' S) (hS : ∀ b ∈ fp, ¬ S b) : Own w' k cs d fp :=
  h.stays ht.size (fun b hm => ht.block b (h.lt b hm) (hS b hm))
end Go.Proofs.Ytbdjnfnphilklaa.Own
namespace Go.Proofs.Ytbdjnfnphilklaa.Own
open Go.ChangeShapes Go.WideShapes Go.ChangeAt Go.RowKit
open Go.Deep (open_slice)
set_option linter.unusedVariables false
set_option linter.unusedSimpArgs false
set_option linter.unnecessarySimpa false
mutual
inductive Came (w : World) : Kd → List Value → Dt → Prop
  | int (n : Int) : (Lit.int .i64 n).wf = true → Came w .int [.int .i64 n] (.int n)
  | str (s : ByteArray) : s.size ≤ maxLen → Came w .str [.string s] (.str s)
  | bool (b : Bool) : Came w .bool [.bool b] (.bool b)
  | st {ks : List Kd} {cs : List Value} {ds : List Dt} : CameL w ks cs ds → Came w (.st ks) cs (.st ds)
  | nil {e : Kd} (a : Option Addr) (cap : Nat) : cap ≤ maxLen → Came w (.sl e) [.slice a 0 cap] (.sl [])
  | sl {e : Kd} {g o n cap : Nat} {es : List Dt} : es.length = n → n ≠ 0 → n ≤ cap → cap ≤ maxLen → g < w.heap.size → CameR w e g o es → Came w (.sl e) [.slice (some ⟨g, o, none⟩) n cap] (.sl es)
inductive CameL (w : World) : List Kd → List Value → List Dt → Prop
  | nil : CameL w [] [] []
  | cons {k : Kd} {cs : List Value} {d : Dt} {ks : List Kd} {cs' : List Value} {ds : List Dt} : Came w k cs d → CameL w ks cs' ds → CameL w (k :: ks) (cs ++ cs') (d :: ds)
inductive CameR (w : World) : Kd → Nat → Nat → List Dt → Prop
  | nil {e : Kd} {g o : Nat} : CameR w e g o []
  | cons {e : Kd} {g o : Nat} {cs : List Value} {d : Dt} {ds : List Dt} : (∀ j u, cs[j]? = some u → w.cell? ⟨g, o + j, none⟩ = some u) → Came w e cs d → CameR w e g (o + e.sz) ds → CameR w e g o (d :: ds)
end
mutual
theorem Came.len {w : World} : ∀ {k : Kd} {cs : List Value} {d : Dt}, Came w k cs d → cs.length = k.sz
  | _, _, _, .int n _ => rfl
  | _, _, _, .str s _ => rfl
  | _, _, _, .bool b => rfl
  | _, _, _, .st h => by simp only [Kd.sz]; exact CameL.len h
  | _, _, _, .nil a cap _ => rfl
  | _, _, _, .sl _ _ _ _ _ _ => rfl
theorem CameL.len {w : World} : ∀ {ks : List Kd} {cs : List Value} {ds : List Dt}, CameL w ks cs ds → cs.length = szL ks
  | _, _, _, .nil => rfl
  | _, _, _, .cons h r => by simp only [szL, List.length_append]; rw [Came.len h, CameL.len r]
end
mutual
theorem Came.on {w w' : World} (hb : Below w.heap.size w w') : ∀ {k : Kd} {cs : List Value} {d : Dt}, Came w k cs d → Came w' k cs d
  | _, _, _, .int n h => .int n h
  | _, _, _, .str s h => .str s h
  | _, _, _, .bool b => .bool b
  | _, _, _, .st h => .st (CameL.on hb h)
  | _, _, _, .nil a cap h => .nil a cap h
  | _, _, _, .sl h1 h2 h3 h4 h5 h6 => .sl h1 h2 h3 h4 (Nat.lt_of_lt_of_le h5 hb.size) (CameR.on hb h5 h6)
theorem CameL.on {w w' : World} (hb : Below w.heap.size w w') : ∀ {ks : List Kd} {cs : List Value} {ds : List Dt}, CameL w ks cs ds → CameL w' ks cs ds
  | _, _, _, .nil => .nil
  | _, _, _, .cons h r => .cons (Came.on hb h) (CameL.on hb r)
theorem CameR.on {w w' : World} (hb : Below w.heap.size w w') : ∀ {e : Kd} {g o : Nat} {ds : List Dt}, g < w.heap.size → CameR w e g o ds → CameR w' e g o ds
  | _, _, _, _, _, .nil => .nil
  | _, g, o, _, hg, .cons hc h r => .cons (fun j u hu => (hb.cell (p := ⟨g, o + j, none⟩) hg).trans (hc j u hu)) (Came.on hb h) (CameR.on hb hg r)
end
mutual
def tyB (P : Program) : Kd → TypeId → Bool
  | .int, t => match P.underlying t with
    | some (.int .i64) => true
    | _ => false
  | .str, t => match P.underlying t with
    | some .string => true
    | _ => false
  | .bool, t => match P.underlying t with
    | some .bool => true
    | _ => false
  | .st ks, t => match P.underlying t with
    | some (.struct fs) => tyL P ks 0 fs.toList && (P.cellsOf t == szL ks)
    | _ => false
  | .sl e, t => match P.underlying t with
    | some (.slice u) => tyB P e u && (P.cellsOf u == e.sz) && decide (0 < e.sz)
    | _ => false
def tyL (P : Program) : List Kd → Nat → List Field → Bool
  | [], _, [] => true
  | k :: ks, o, f :: fs => (f.offset == o) && (P.cellsOf f.type == k.sz) && tyB P k f.type && tyL P ks (o + k.sz) fs
  | _, _, _ => false
end
theorem rows_of {w : World} {e : Kd} {g : Nat} : ∀ (n o : Nat), (∀ i, i < n → ∃ cs d, (∀ j u, cs[j]? = some u → w.cell? ⟨g, o + i * e.sz + j, none⟩ = some u) ∧ Came w e cs d) → ∃ ds, ds.length = n ∧ CameR w e g o ds
  | 0, o, _ => ⟨[], rfl, .nil⟩
  | n + 1, o, h => by
    obtain ⟨cs, d, hc, hd⟩ := h 0 (by omega)
    obtain ⟨ds, hl, hr⟩ := rows_of n (o + e.sz) (fun i hi => by
      obtain ⟨cs, d, hc, hd⟩ := h (i + 1) (by omega)
      refine ⟨cs, d, fun j u hu => ?_, hd⟩
      have := hc j u hu
      rw [Nat.succ_mul] at this
      rw [show o + e.sz + i * e.sz + j = o + (i * e.sz + e.sz) + j by omega]
      exact this)
    exact ⟨d :: ds, by simp [hl], .cons (fun j u hu => by have := hc j u hu; simpa using this) hd hr⟩
section
variable {H : Type} {enc : TypeId × Value → H} {P : Program} {w : World} {base : Nat} {spare : Nat → Bool} {held : Bool}
mutual
theorem came_of : ∀ (k : Kd) (t : TypeId) (n : Nat) (cs : List Value) (x : DataW H × List MemPlace), tyB P k t = true → DataW.trod enc P w base spare held n t cs = some x → ∃ d, Came w k cs d
  | .int, t, n, cs, x, ht, h => by
    unfold tyB at ht
    split at ht
    · rename_i hu
      obtain ⟨m, e, _, hw⟩ := DataW.trod_int hu h
      subst e
      exact ⟨_, .int m hw⟩
    · cases ht
  | .str, t, n, cs, x, ht, h => by
    unfold tyB at ht
    split at ht
    · rename_i hu
      obtain ⟨m, e, _, hw⟩ := DataW.trod_string hu h
      subst e
      exact ⟨_, .str m hw⟩
    · cases ht
  | .bool, t, n, cs, x, ht, h => by
    unfold tyB at ht
    split at ht
    · rename_i hu
      obtain ⟨m, e, _⟩ := DataW.trod_bool hu h
      subst e
      exact ⟨_, .bool m⟩
    · cases ht
  | .st ks, t, n, cs, x, ht, h => by
    unfold tyB at ht
    split at ht
    · rename_i fs hu
      rw [Bool.and_eq_true, beq_iff_eq] at ht
      obtain ⟨xs, m, _, _, hcl, hxl, hf⟩ := DataW.trod_struct hu h
      obtain ⟨ds, hd⟩ := came_ofL ks 0 fs.toList m cs (fun i f hi => by
        have hi' : fs[i]? = some f := by simpa using hi
        have hlt : i < fs.size := (Array.getElem?_eq_some_iff.1 hi').1
        exact ⟨_, (hf i f hi').trans (List.getElem?_eq_getElem (by omega))⟩) ht.1 (by rw [hcl, ht.2]; omega)
      rw [List.drop_zero] at hd
      exact ⟨_, .st hd⟩
    · cases ht
  | .sl e, t, n, cs, x, ht, h => by
    unfold tyB at ht
    split at ht
    · rename_i u hu
      rw [Bool.and_eq_true, Bool.and_eq_true, beq_iff_eq, decide_eq_true_eq] at ht
      obtain ⟨⟨hte, hsz⟩, hpos⟩ := ht
      rcases open_slice hu h with ⟨h0, _⟩ | ⟨a, len, cap, m, n', D, Pl, hcs, hb, hl, hm, hmm, hx, hi⟩
      · subst h0; exact ⟨_, .nil none 0 (Nat.zero_le _)⟩
      · subst hcs
        by_cases h0 : len = 0
        · subst h0; exact ⟨_, .nil _ _ hm⟩
        · have hel : ∀ i, i < len → ∃ cs', w.cells? base (a.add (i * P.cellsOf u)) (P.cellsOf u) = some cs' ∧ ∃ d, Came w e cs' d := fun i hil => by
            obtain ⟨cs', hc, ht'⟩ := hi i (by rw [hmm]; split <;> omega)
            exact ⟨cs', hc, came_of e u n' cs' _ hte ht'⟩
          rw [hsz] at hel
          obtain ⟨g, o, s⟩ := a
          have hs : s = none ∧ g < w.heap.size := by
            obtain ⟨cs', hc, d, hd⟩ := hel 0 (by omega)
            obtain ⟨_, hcl, hat⟩ := World.cells?_some hc
            have h1 := hat 0 hpos
            rw [List.getElem?_eq_getElem (by omega)] at h1
            have h2 : w.cell? ⟨g, o, s⟩ = some (cs'[0]'(by omega)) := by simpa [Addr.add] using h1
            exact ⟨World.cell?_spot h2, World.block_lt_of_cell? w _ h2⟩
          obtain ⟨rfl, hg⟩ := hs
          obtain ⟨ds, hdl, hr⟩ := rows_of (w := w) (e := e) (g := g) len o (fun i hil => by
            obtain ⟨cs', hc, d, hd⟩ := hel i hil
            obtain ⟨_, hcl, hat⟩ := World.cells?_some hc
            refine ⟨cs', d, fun j u' hu' => ?_, hd⟩
            have hj : j < e.sz := by have := (List.getElem?_eq_some_iff.1 hu').1; omega
            have h1 := hat j hj
            rw [hu'] at h1
            rw [Go.Deep.add_add] at h1
            by_cases hz : i * e.sz + j = 0
            · rw [hz] at h1
              have : o + i * e.sz + j = o := by omega
              rw [this]; simpa [Addr.add] using h1
            · simp only [Addr.add, if_neg hz] at h1
              rw [Nat.add_assoc]; exact h1)
          exact ⟨_, .sl hdl h0 hl hm hg hr⟩
    · cases ht
theorem came_ofL : ∀ (ks : List Kd) (o : Nat) (fs : List Field) (n : Nat) (cs : List Value), (∀ (i : Nat) (f : Field), fs[i]? = some f → ∃ y, DataW.trod enc P w base spare held n f.type ((cs.drop f.offset).take (P.cellsOf f.type)) = some y) → tyL P ks o fs = true → cs.length = o + szL ks → ∃ ds, CameL w ks (cs.drop o) ds
  | [], o, fs, n, cs, hf, ht, hl => by
    have : cs.drop o = [] := List.drop_eq_nil_iff.2 (by simp only [szL] at hl; omega)
    rw [this]; exact ⟨[], .nil⟩
  | k :: ks, o, [], n, cs, hf, ht, hl => by simp [tyL] at ht
  | k :: ks, o, f :: fs, n, cs, hf, ht, hl => by
    simp only [tyL, Bool.and_eq_true, beq_iff_eq] at ht
    obtain ⟨⟨⟨ho, hc⟩, hk⟩, hr⟩ := ht
    obtain ⟨y, hy⟩ := hf 0 f rfl
    rw [ho, hc] at hy
    obtain ⟨d, hd⟩ := came_of k f.type n _ y hk hy
    obtain ⟨ds, hds⟩ := came_ofL ks (o + k.sz) fs n cs (fun i f' hi => hf (i + 1) f' (by simpa using hi)) hr (by simp only [szL] at hl; omega)
    refine ⟨d :: ds, ?_⟩
    have e1 : cs.drop o = (cs.drop o).take k.sz ++ cs.drop (o + k.sz) := by rw [← List.drop_drop, List.take_append_drop]
    rw [e1]
    exact .cons hd hds
end
end
end Go.Proofs.Ytbdjnfnphilklaa.Own
