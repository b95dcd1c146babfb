/-
  Texts of this seat, laid together: Own, Came, Slab, OwnFlat
-/
import Derived.Test.YtbdjnfnphilklaaGreatRows
import Derived.WalkKit
import Derived.ProofKit
import Derived.OpenShut
import Derived.ChangeArms
import Derived.Deep.Slices
import Derived.Deep.Fields
import Derived.ChangeSame
import Derived.Laws.AppendOwn
import Derived.Test.YtbdjnfnphilklaaGreatV01
namespace Go.Proofs.YtbdjnfnphilklaaGreat.Own
open Go.ChangeShapes Go.WideShapes Go.ChangeAt Go.RowKit
open Kit
set_option linter.unusedVariables false
set_option linter.unusedSimpArgs false
set_option linter.unnecessarySimpa false
inductive Kd where
  | int
  | str
  | bool
  | st (fs : List Kd)
  | sl (e : Kd)
inductive Dt where
  | int (n : Int)
  | str (s : ByteArray)
  | bool (b : Bool)
  | st (fs : List Dt)
  | sl (es : List Dt)
mutual
def Kd.sz : Kd → Nat
  | .int => 1
  | .str => 1
  | .bool => 1
  | .st fs => szL fs
  | .sl _ => 1
def szL : List Kd → Nat
  | [] => 0
  | k :: r => k.sz + szL r
end
mutual
inductive Own (w : World) : Kd → List Value → Dt → List Nat → Prop
  | int (n : Int) : Own w .int [.int .i64 n] (.int n) []
  | str (s : ByteArray) : Own w .str [.string s] (.str s) []
  | bool (b : Bool) : Own w .bool [.bool b] (.bool b) []
  | st {ks : List Kd} {cs : List Value} {ds : List Dt} {fp : List Nat} : OwnL w ks cs ds fp → Own w (.st ks) cs (.st ds) fp
  | nil {e : Kd} (a : Option Addr) (cap : Nat) : Own w (.sl e) [.slice a 0 cap] (.sl []) []
  | sl {e : Kd} {g n cap : Nat} {es : List Dt} {fp : List Nat} : es.length = n → n ≠ 0 → n ≤ cap → g < w.heap.size → (∀ o, w.frozen? ⟨g, o, none⟩ = false) → Rows w e g 0 es fp → Own w (.sl e) [.slice (some ⟨g, 0, none⟩) n cap] (.sl es) (g :: fp)
inductive OwnL (w : World) : List Kd → List Value → List Dt → List Nat → Prop
  | nil : OwnL w [] [] [] []
  | cons {k : Kd} {cs : List Value} {d : Dt} {fp : List Nat} {ks : List Kd} {cs' : List Value} {ds : List Dt} {fp' : List Nat} : Own w k cs d fp → OwnL w ks cs' ds fp' → OwnL w (k :: ks) (cs ++ cs') (d :: ds) (fp ++ fp')
inductive Rows (w : World) : Kd → Nat → Nat → List Dt → List Nat → Prop
  | nil {e : Kd} {g o : Nat} : Rows w e g o [] []
  | cons {e : Kd} {g o : Nat} {cs : List Value} {d : Dt} {fp : List Nat} {ds : List Dt} {fp' : List Nat} : (∀ j u, cs[j]? = some u → w.cell? ⟨g, o + j, none⟩ = some u) → Own w e cs d fp → Rows w e g (o + e.sz) ds fp' → Rows w e g o (d :: ds) (fp ++ fp')
end
mutual
theorem Own.len {w : World} : ∀ {k : Kd} {cs : List Value} {d : Dt} {fp : List Nat}, Own w k cs d fp → cs.length = k.sz
  | _, _, _, _, .int n => rfl
  | _, _, _, _, .str s => rfl
  | _, _, _, _, .bool b => rfl
  | _, _, _, _, .st h => by simp only [Kd.sz]; exact OwnL.len h
  | _, _, _, _, .nil a cap => rfl
  | _, _, _, _, .sl _ _ _ _ _ _ => rfl
theorem OwnL.len {w : World} : ∀ {ks : List Kd} {cs : List Value} {ds : List Dt} {fp : List Nat}, OwnL w ks cs ds fp → cs.length = szL ks
  | _, _, _, _, .nil => rfl
  | _, _, _, _, .cons h r => by simp only [szL, List.length_append]; rw [Own.len h, OwnL.len r]
end
mutual
theorem Own.stays {w w' : World} (hs : w.heap.size ≤ w'.heap.size) : ∀ {k : Kd} {cs : List Value} {d : Dt} {fp : List Nat}, Own w k cs d fp → (∀ b ∈ fp, w'.heap[b]? = w.heap[b]?) → Own w' k cs d fp
  | _, _, _, _, .int n, _ => .int n
  | _, _, _, _, .str s, _ => .str s
  | _, _, _, _, .bool b, _ => .bool b
  | _, _, _, _, .st h, hb => .st (OwnL.stays hs h hb)
  | _, _, _, _, .nil a cap, _ => .nil a cap
  | _, _, _, _, .sl (g := g) h1 h2 h3 h4 h5 h6, hb =>
    have hg : w'.heap[g]? = w.heap[g]? := hb g (List.mem_cons_self)
    .sl h1 h2 h3 (Nat.lt_of_lt_of_le h4 hs) (fun o => by rw [World.frozen?_of_block (w := w) hg]; exact h5 o) (Rows.stays hs hg h6 (fun b hm => hb b (List.mem_cons_of_mem _ hm)))
theorem OwnL.stays {w w' : World} (hs : w.heap.size ≤ w'.heap.size) : ∀ {ks : List Kd} {cs : List Value} {ds : List Dt} {fp : List Nat}, OwnL w ks cs ds fp → (∀ b ∈ fp, w'.heap[b]? = w.heap[b]?) → OwnL w' ks cs ds fp
  | _, _, _, _, .nil, _ => .nil
  | _, _, _, _, .cons h r, hb => .cons (Own.stays hs h (fun b hm => hb b (List.mem_append_left _ hm))) (OwnL.stays hs r (fun b hm => hb b (List.mem_append_right _ hm)))
theorem Rows.stays {w w' : World} (hs : w.heap.size ≤ w'.heap.size) : ∀ {e : Kd} {g o : Nat} {ds : List Dt} {fp : List Nat}, w'.heap[g]? = w.heap[g]? → Rows w e g o ds fp → (∀ b ∈ fp, w'.heap[b]? = w.heap[b]?) → Rows w' e g o ds fp
  | _, _, _, _, _, _, .nil, _ => .nil
  | _, _, _, _, _, hg, .cons hc h r, hb => .cons (fun j u hu => by rw [World.cell?_of_block (w := w) hg]; exact hc j u hu) (Own.stays hs h (fun b hm => hb b (List.mem_append_left _ hm))) (Rows.stays hs hg r (fun b hm => hb b (List.mem_append_right _ hm)))
end
mutual
theorem Own.lt {w : World} : ∀ {k : Kd} {cs : List Value} {d : Dt} {fp : List Nat}, Own w k cs d fp → ∀ b ∈ fp, b < w.heap.size
  | _, _, _, _, .int n, b, hb => by cases hb
  | _, _, _, _, .str s, b, hb => by cases hb
  | _, _, _, _, .bool _, b, hb => by cases hb
  | _, _, _, _, .st h, b, hb => OwnL.lt h b hb
  | _, _, _, _, .nil a cap, b, hb => by cases hb
  | _, _, _, _, .sl h1 h2 h3 h4 h5 h6, b, hb => by
    rcases List.mem_cons.1 hb with rfl | hb
    · exact h4
    · exact Rows.lt h6 b hb
theorem OwnL.lt {w : World} : ∀ {ks : List Kd} {cs : List Value} {ds : List Dt} {fp : List Nat}, OwnL w ks cs ds fp → ∀ b ∈ fp, b < w.heap.size
  | _, _, _, _, .nil, b, hb => by cases hb
  | _, _, _, _, .cons h r, b, hb => by
    rcases List.mem_append.1 hb with hb | hb
    · exact Own.lt h b hb
    · exact OwnL.lt r b hb
theorem Rows.lt {w : World} : ∀ {e : Kd} {g o : Nat} {ds : List Dt} {fp : List Nat}, Rows w e g o ds fp → ∀ b ∈ fp, b < w.heap.size
  | _, _, _, _, _, .nil, b, hb => by cases hb
  | _, _, _, _, _, .cons hc h r, b, hb => by
    rcases List.mem_append.1 hb with hb | hb
    · exact Own.lt h b hb
    · exact Rows.lt r b hb
end
theorem Own.under {w w' : World} {k : Kd} {cs : List Value} {d : Dt} {fp : List Nat} (h : Own w k cs d fp) (hb : Below w.heap.size w w') : Own w' k cs d fp :=
  h.stays hb.size (fun b hm => hb.block b (h.lt b hm))
theorem Own.kept {w w' : World} {k : Kd} {cs : List Value} {d : Dt} {fp : List Nat} {row : Option Nat} (h : Own w k cs d fp) (hg : w.grownBy w' row) (hr : ∀ b ∈ fp, row ≠ some b) : Own w' k cs d fp :=
  h.stays hg.size (fun b hm => hg.block b (h.lt b hm) (fun e => hr b hm e.symm))
structure Turns (w w' : World) (S : Nat → Prop) : Prop where
  os : w'.os = w.os
  tape : w'.tape = w.tape
  output : w'.output = w.output
  size : w.heap.size ≤ w'.heap.size
  block : ∀ k, k < w.heap.size → ¬ S k → w'.heap[k]? = w.heap[k]?
theorem Turns.refl (w : World) (S : Nat → Prop) : Turns w w S := ⟨rfl, rfl, rfl, Nat.le_refl _, fun _ _ _ => rfl⟩
theorem Turns.trans {a b c : World} {S : Nat → Prop} (h : Turns a b S) (k : Turns b c S) : Turns a c S :=
  ⟨k.os.trans h.os, k.tape.trans h.tape, k.output.trans h.output, Nat.le_trans h.size k.size, fun i hi hn => (k.block i (Nat.lt_of_lt_of_le hi h.size) hn).trans (h.block i hi hn)⟩
theorem Turns.mono {w w' : World} {S T : Nat → Prop} (h : Turns w w' S) (hst : ∀ k, S k → T k) : Turns w w' T := ⟨h.os, h.tape, h.output, h.size, fun k hk hn => h.block k hk (fun hs => hn (hst k hs))⟩
theorem Turns.of_grown {w w' : World} {row : Option Nat} (h : w.grownBy w' row) : Turns w w' (fun k => row = some k) := ⟨h.os, h.tape, h.output, h.size, fun k hk hn => h.block k hk (fun e => hn e.symm)⟩
theorem Turns.below {w w' : World} {S : Nat → Prop} {B : Nat} (h : Turns w w' S) (hB : B ≤ w.heap.size) (hS : ∀ k, S k → B ≤ k) : Below B w w' :=
  ⟨h.os, h.tape, h.output, h.size, fun k hk => h.block k (Nat.lt_of_lt_of_le hk hB) (fun hs => by have := hS k hs; omega)⟩
theorem Own.turned {w w' : World} {k : Kd} {cs : List Value} {d : Dt} {fp : List Nat} {S : Nat → Prop} (h : Own w k cs d fp) (ht : Turns w w' S) (hS : ∀ b ∈ fp, ¬ S b) : Own w' k cs d fp :=
  h.stays ht.size (fun b hm => ht.block b (h.lt b hm) (hS b hm))
end Go.Proofs.YtbdjnfnphilklaaGreat.Own
namespace Go.Proofs.YtbdjnfnphilklaaGreat.Own
open Go.ChangeShapes Go.WideShapes Go.ChangeAt Go.RowKit
open Go.Deep (open_slice)
set_option linter.unusedVariables false
set_option linter.unusedSimpArgs false
set_option linter.unnecessarySimpa false
mutual
inductive Came (w : World) : Kd → List Value → Dt → Prop
  | int (n : Int) : (Lit.int .i64 n).wf = true → Came w .int [.int .i64 n] (.int n)
  | str (s : ByteArray) : s.size ≤ maxLen → Came w .str [.string s] (.str s)
  | bool (b : Bool) : Came w .bool [.bool b] (.bool b)
  | st {ks : List Kd} {cs : List Value} {ds : List Dt} : CameL w ks cs ds → Came w (.st ks) cs (.st ds)
  | nil {e : Kd} (a : Option Addr) (cap : Nat) : cap ≤ maxLen → Came w (.sl e) [.slice a 0 cap] (.sl [])
  | sl {e : Kd} {g o n cap : Nat} {es : List Dt} : es.length = n → n ≠ 0 → n ≤ cap → cap ≤ maxLen → g < w.heap.size → CameR w e g o es → Came w (.sl e) [.slice (some ⟨g, o, none⟩) n cap] (.sl es)
inductive CameL (w : World) : List Kd → List Value → List Dt → Prop
  | nil : CameL w [] [] []
  | cons {k : Kd} {cs : List Value} {d : Dt} {ks : List Kd} {cs' : List Value} {ds : List Dt} : Came w k cs d → CameL w ks cs' ds → CameL w (k :: ks) (cs ++ cs') (d :: ds)
inductive CameR (w : World) : Kd → Nat → Nat → List Dt → Prop
  | nil {e : Kd} {g o : Nat} : CameR w e g o []
  | cons {e : Kd} {g o : Nat} {cs : List Value} {d : Dt} {ds : List Dt} : (∀ j u, cs[j]? = some u → w.cell? ⟨g, o + j, none⟩ = some u) → Came w e cs d → CameR w e g (o + e.sz) ds → CameR w e g o (d :: ds)
end
mutual
theorem Came.len {w : World} : ∀ {k : Kd} {cs : List Value} {d : Dt}, Came w k cs d → cs.length = k.sz
  | _, _, _, .int n _ => rfl
  | _, _, _, .str s _ => rfl
  | _, _, _, .bool b => rfl
  | _, _, _, .st h => by simp only [Kd.sz]; exact CameL.len h
  | _, _, _, .nil a cap _ => rfl
  | _, _, _, .sl _ _ _ _ _ _ => rfl
theorem CameL.len {w : World} : ∀ {ks : List Kd} {cs : List Value} {ds : List Dt}, CameL w ks cs ds → cs.length = szL ks
  | _, _, _, .nil => rfl
  | _, _, _, .cons h r => by simp only [szL, List.length_append]; rw [Came.len h, CameL.len r]
end
mutual
theorem Came.on {w w' : World} (hb : Below w.heap.size w w') : ∀ {k : Kd} {cs : List Value} {d : Dt}, Came w k cs d → Came w' k cs d
  | _, _, _, .int n h => .int n h
  | _, _, _, .str s h => .str s h
  | _, _, _, .bool b => .bool b
  | _, _, _, .st h => .st (CameL.on hb h)
  | _, _, _, .nil a cap h => .nil a cap h
  | _, _, _, .sl h1 h2 h3 h4 h5 h6 => .sl h1 h2 h3 h4 (Nat.lt_of_lt_of_le h5 hb.size) (CameR.on hb h5 h6)
theorem CameL.on {w w' : World} (hb : Below w.heap.size w w') : ∀ {ks : List Kd} {cs : List Value} {ds : List Dt}, CameL w ks cs ds → CameL w' ks cs ds
  | _, _, _, .nil => .nil
  | _, _, _, .cons h r => .cons (Came.on hb h) (CameL.on hb r)
theorem CameR.on {w w' : World} (hb : Below w.heap.size w w') : ∀ {e : Kd} {g o : Nat} {ds : List Dt}, g < w.heap.size → CameR w e g o ds → CameR w' e g o ds
  | _, _, _, _, _, .nil => .nil
  | _, g, o, _, hg, .cons hc h r => .cons (fun j u hu => (hb.cell (p := ⟨g, o + j, none⟩) hg).trans (hc j u hu)) (Came.on hb h) (CameR.on hb hg r)
end
mutual
def tyB (P : Program) : Kd → TypeId → Bool
  | .int, t => match P.underlying t with
    | some (.int .i64) => true
    | _ => false
  | .str, t => match P.underlying t with
    | some .string => true
    | _ => false
  | .bool, t => match P.underlying t with
    | some .bool => true
    | _ => false
  | .st ks, t => match P.underlying t with
    | some (.struct fs) => tyL P ks 0 fs.toList && (P.cellsOf t == szL ks)
    | _ => false
  | .sl e, t => match P.underlying t with
    | some (.slice u) => tyB P e u && (P.cellsOf u == e.sz) && decide (0 < e.sz)
    | _ => false
def tyL (P : Program) : List Kd → Nat → List Field → Bool
  | [], _, [] => true
  | k :: ks, o, f :: fs => (f.offset == o) && (P.cellsOf f.type == k.sz) && tyB P k f.type && tyL P ks (o + k.sz) fs
  | _, _, _ => false
end
theorem rows_of {w : World} {e : Kd} {g : Nat} : ∀ (n o : Nat), (∀ i, i < n → ∃ cs d, (∀ j u, cs[j]? = some u → w.cell? ⟨g, o + i * e.sz + j, none⟩ = some u) ∧ Came w e cs d) → ∃ ds, ds.length = n ∧ CameR w e g o ds
  | 0, o, _ => ⟨[], rfl, .nil⟩
  | n + 1, o, h => by
    obtain ⟨cs, d, hc, hd⟩ := h 0 (by omega)
    obtain ⟨ds, hl, hr⟩ := rows_of n (o + e.sz) (fun i hi => by
      obtain ⟨cs, d, hc, hd⟩ := h (i + 1) (by omega)
      refine ⟨cs, d, fun j u hu => ?_, hd⟩
      have := hc j u hu
      rw [Nat.succ_mul] at this
      rw [show o + e.sz + i * e.sz + j = o + (i * e.sz + e.sz) + j by omega]
      exact this)
    exact ⟨d :: ds, by simp [hl], .cons (fun j u hu => by have := hc j u hu; simpa using this) hd hr⟩
section
variable {H : Type} {enc : TypeId × Value → H} {P : Program} {w : World} {base : Nat} {spare : Nat → Bool} {held : Bool}
mutual
theorem came_of : ∀ (k : Kd) (t : TypeId) (n : Nat) (cs : List Value) (x : DataW H × List MemPlace), tyB P k t = true → DataW.trod enc P w base spare held n t cs = some x → ∃ d, Came w k cs d
  | .int, t, n, cs, x, ht, h => by
    unfold tyB at ht
    split at ht
    · rename_i hu
      obtain ⟨m, e, _, hw⟩ := DataW.trod_int hu h
      subst e
      exact ⟨_, .int m hw⟩
    · cases ht
  | .str, t, n, cs, x, ht, h => by
    unfold tyB at ht
    split at ht
    · rename_i hu
      obtain ⟨m, e, _, hw⟩ := DataW.trod_string hu h
      subst e
      exact ⟨_, .str m hw⟩
    · cases ht
  | .bool, t, n, cs, x, ht, h => by
    unfold tyB at ht
    split at ht
    · rename_i hu
      obtain ⟨m, e, _⟩ := DataW.trod_bool hu h
      subst e
      exact ⟨_, .bool m⟩
    · cases ht
  | .st ks, t, n, cs, x, ht, h => by
    unfold tyB at ht
    split at ht
    · rename_i fs hu
      rw [Bool.and_eq_true, beq_iff_eq] at ht
      obtain ⟨xs, m, _, _, hcl, hxl, hf⟩ := DataW.trod_struct hu h
      obtain ⟨ds, hd⟩ := came_ofL ks 0 fs.toList m cs (fun i f hi => by
        have hi' : fs[i]? = some f := by simpa using hi
        have hlt : i < fs.size := (Array.getElem?_eq_some_iff.1 hi').1
        exact ⟨_, (hf i f hi').trans (List.getElem?_eq_getElem (by omega))⟩) ht.1 (by rw [hcl, ht.2]; omega)
      rw [List.drop_zero] at hd
      exact ⟨_, .st hd⟩
    · cases ht
  | .sl e, t, n, cs, x, ht, h => by
    unfold tyB at ht
    split at ht
    · rename_i u hu
      rw [Bool.and_eq_true, Bool.and_eq_true, beq_iff_eq, decide_eq_true_eq] at ht
      obtain ⟨⟨hte, hsz⟩, hpos⟩ := ht
      rcases open_slice hu h with ⟨h0, _⟩ | ⟨a, len, cap, m, n', D, Pl, hcs, hb, hl, hm, hmm, hx, hi⟩
      · subst h0; exact ⟨_, .nil none 0 (Nat.zero_le _)⟩
      · subst hcs
        by_cases h0 : len = 0
        · subst h0; exact ⟨_, .nil _ _ hm⟩
        · have hel : ∀ i, i < len → ∃ cs', w.cells? base (a.add (i * P.cellsOf u)) (P.cellsOf u) = some cs' ∧ ∃ d, Came w e cs' d := fun i hil => by
            obtain ⟨cs', hc, ht'⟩ := hi i (by rw [hmm]; split <;> omega)
            exact ⟨cs', hc, came_of e u n' cs' _ hte ht'⟩
          rw [hsz] at hel
          obtain ⟨g, o, s⟩ := a
          have hs : s = none ∧ g < w.heap.size := by
            obtain ⟨cs', hc, d, hd⟩ := hel 0 (by omega)
            obtain ⟨_, hcl, hat⟩ := World.cells?_some hc
            have h1 := hat 0 hpos
            rw [List.getElem?_eq_getElem (by omega)] at h1
            have h2 : w.cell? ⟨g, o, s⟩ = some (cs'[0]'(by omega)) := by simpa [Addr.add] using h1
            exact ⟨World.cell?_spot h2, World.block_lt_of_cell? w _ h2⟩
          obtain ⟨rfl, hg⟩ := hs
          obtain ⟨ds, hdl, hr⟩ := rows_of (w := w) (e := e) (g := g) len o (fun i hil => by
            obtain ⟨cs', hc, d, hd⟩ := hel i hil
            obtain ⟨_, hcl, hat⟩ := World.cells?_some hc
            refine ⟨cs', d, fun j u' hu' => ?_, hd⟩
            have hj : j < e.sz := by have := (List.getElem?_eq_some_iff.1 hu').1; omega
            have h1 := hat j hj
            rw [hu'] at h1
            rw [Go.Deep.add_add] at h1
            by_cases hz : i * e.sz + j = 0
            · rw [hz] at h1
              have : o + i * e.sz + j = o := by omega
              rw [this]; simpa [Addr.add] using h1
            · simp only [Addr.add, if_neg hz] at h1
              rw [Nat.add_assoc]; exact h1)
          exact ⟨_, .sl hdl h0 hl hm hg hr⟩
    · cases ht
theorem came_ofL : ∀ (ks : List Kd) (o : Nat) (fs : List Field) (n : Nat) (cs : List Value), (∀ (i : Nat) (f : Field), fs[i]? = some f → ∃ y, DataW.trod enc P w base spare held n f.type ((cs.drop f.offset).take (P.cellsOf f.type)) = some y) → tyL P ks o fs = true → cs.length = o + szL ks → ∃ ds, CameL w ks (cs.drop o) ds
  | [], o, fs, n, cs, hf, ht, hl => by
    have : cs.drop o = [] := List.drop_eq_nil_iff.2 (by simp only [szL] at hl; omega)
    rw [this]; exact ⟨[], .nil⟩
  | k :: ks, o, [], n, cs, hf, ht, hl => by simp [tyL] at ht
  | k :: ks, o, f :: fs, n, cs, hf, ht, hl => by
    simp only [tyL, Bool.and_eq_true, beq_iff_eq] at ht
    obtain ⟨⟨⟨ho, hc⟩, hk⟩, hr⟩ := ht
    obtain ⟨y, hy⟩ := hf 0 f rfl
    rw [ho, hc] at hy
    obtain ⟨d, hd⟩ := came_of k f.type n _ y hk hy
    obtain ⟨ds, hds⟩ := came_ofL ks (o + k.sz) fs n cs (fun i f' hi => hf (i + 1) f' (by simpa using hi)) hr (by simp only [szL] at hl; omega)
    refine ⟨d :: ds, ?_⟩
    have e1 : cs.drop o = (cs.drop o).take k.sz ++ cs.drop (o + k.sz) := by rw [← List.drop_drop, List.take_append_drop]
    rw [e1]
    exact .cons hd hds
end
end
end Go.Proofs.YtbdjnfnphilklaaGreat.Own
namespace Go.Proofs.YtbdjnfnphilklaaGreat.Slabs
open Go.ChangeShapes Go.WideShapes Go.ChangeAt Go.RowKit
open Kit
set_option linter.unusedVariables false
set_option linter.unusedSimpArgs false
set_option linter.unnecessarySimpa false
def Slab (w : World) (B : Nat) (v : Value) (n c : Nat) (F : Nat → List Value) : Prop :=
  ∃ (a : Option Addr) (cap : Nat), v = .slice a n cap ∧ n ≤ cap ∧ (n = 0 ∨ ∃ g, a = some ⟨g, 0, none⟩ ∧ B ≤ g ∧ g < w.heap.size ∧ (∀ o, w.frozen? ⟨g, o, none⟩ = false) ∧ ∀ i, i < n → ∀ j u, (F i)[j]? = some u → w.cell? ⟨g, i * c + j, none⟩ = some u)
def flat (F : Nat → List Value) (n : Nat) : List Value := (List.range n).flatMap F
theorem flat_zero (F : Nat → List Value) : flat F 0 = [] := rfl
theorem flat_succ (F : Nat → List Value) (n : Nat) : flat F (n + 1) = flat F n ++ F n := by
  simp [flat, List.range_succ, List.flatMap_append]
theorem flat_length {F : Nat → List Value} {c : Nat} (hc : ∀ i, (F i).length = c) (n : Nat) : (flat F n).length = n * c := by
  induction n with
  | zero => simp [flat_zero]
  | succ n ih => rw [flat_succ, List.length_append, ih, hc, Nat.succ_mul]
theorem flat_get {F : Nat → List Value} {c : Nat} (hc : ∀ i, (F i).length = c) {n i j : Nat} (hi : i < n) (hj : j < c) : (flat F n)[i * c + j]? = (F i)[j]? := by
  induction n with
  | zero => omega
  | succ n ih =>
    rw [flat_succ]
    by_cases h : i < n
    · rw [List.getElem?_append_left (by
        rw [flat_length hc]
        have : (i + 1) * c ≤ n * c := Nat.mul_le_mul_right c (by omega)
        rw [Nat.succ_mul] at this; omega)]
      exact ih h
    · obtain rfl : i = n := by omega
      rw [List.getElem?_append_right (by rw [flat_length hc]; omega), flat_length hc]
      congr 1; omega
theorem Slab.of_owns {w : World} {B : Nat} {T : TypeId} {v : Value} {n c : Nat} {F : Nat → List Value} (h : w.ownsRow B T c v n (flat F n)) (hc : ∀ i, (F i).length = c) : Slab w B v n c F := by
  rcases h.2 with ⟨hv, h0⟩ | ⟨g, cap, cur, hv, hb, hg, hnc, _⟩
  · exact ⟨none, 0, by rw [hv, h0], by omega, .inl h0⟩
  · refine ⟨_, _, hv, hnc, .inr ⟨g, rfl, hb, (Array.getElem?_eq_some_iff.1 hg).1, fun o => by simp [World.frozen?, hg], fun i hi j u hu => ?_⟩⟩
    have hj : j < c := by
      have := (List.getElem?_eq_some_iff.1 hu).1
      rw [hc] at this; exact this
    have h2 := World.ownsRow.cells h (g := g) (by rw [hv]; rfl) (i * c + j) u (by rw [flat_get hc hi hj]; exact hu)
    have hadd : (⟨g, 0, none⟩ : Addr).add (i * c + j) = ⟨g, i * c + j, none⟩ := by unfold Addr.add; split <;> simp_all
    rw [hadd] at h2
    exact h2
theorem Slab.below {w w' : World} {B : Nat} {v : Value} {n c : Nat} {F : Nat → List Value} (h : Slab w B v n c F) (hb : Below w.heap.size w w') : Slab w' B v n c F := by
  obtain ⟨a, cap, hv, hnc, h⟩ := h
  refine ⟨a, cap, hv, hnc, ?_⟩
  rcases h with h | ⟨g, ha, h1, h2, h3, h4⟩
  · exact .inl h
  · exact .inr ⟨g, ha, h1, Nat.lt_of_lt_of_le h2 hb.size, fun o => (hb.frozen (p := ⟨g, o, none⟩) h2).trans (h3 o), fun i hi j u hu => (hb.cell (p := ⟨g, _, none⟩) h2).trans (h4 i hi j u hu)⟩
theorem Slab.cap_le {w : World} {B : Nat} {a : Option Addr} {cap n c : Nat} {F : Nat → List Value} (h : Slab w B (.slice a n cap) n c F) : n ≤ cap := by
  obtain ⟨a', cap', hv, hnc, _⟩ := h
  injection hv with _ _ h3
  omega
theorem Slab.under {w w' : World} {B C : Nat} {v : Value} {n c : Nat} {F : Nat → List Value} (h : Slab w B v n c F) (hC : C = w.heap.size) (hb : Below C w w') : Slab w' B v n c F := by
  subst hC; exact h.below hb
theorem Slab.weaken {w : World} {B B' : Nat} {v : Value} {n c : Nat} {F : Nat → List Value} (h : Slab w B v n c F) (hB : B' ≤ B) : Slab w B' v n c F := by
  obtain ⟨a, cap, hv, hnc, h⟩ := h
  refine ⟨a, cap, hv, hnc, ?_⟩
  rcases h with h | ⟨g, ha, h1, h2⟩
  · exact .inl h
  · exact .inr ⟨g, ha, Nat.le_trans hB h1, h2⟩
theorem Slab.same {w : World} {B : Nat} {v : Value} {n c : Nat} {F G : Nat → List Value} (h : Slab w B v n c F) (e : ∀ i, i < n → F i = G i) : Slab w B v n c G := by
  obtain ⟨a, cap, hv, hnc, h⟩ := h
  refine ⟨a, cap, hv, hnc, ?_⟩
  rcases h with h | ⟨g, ha, h1, h2, h3, h4⟩
  · exact .inl h
  · exact .inr ⟨g, ha, h1, h2, h3, fun i hi j u hu => h4 i hi j u (by rw [e i hi]; exact hu)⟩
def upto (G F : Nat → List Value) (k : Nat) (i : Nat) : List Value := if i < k then G i else F i
theorem upto_zero (G F : Nat → List Value) : upto G F 0 = F := by funext i; simp [upto]
theorem upto_lt {G F : Nat → List Value} {k i : Nat} (h : i < k) : upto G F k i = G i := by simp [upto, h]
theorem upto_ge {G F : Nat → List Value} {k i : Nat} (h : ¬ i < k) : upto G F k i = F i := by simp [upto, h]
structure Writes (w : World) (g n c : Nat) (F : Nat → List Value) : Prop where
  here : g < w.heap.size
  free : ∀ o, w.frozen? ⟨g, o, none⟩ = false
  cell : ∀ i, i < n → ∀ j u, (F i)[j]? = some u → w.cell? ⟨g, i * c + j, none⟩ = some u
theorem Writes.keep {w w' : World} {g n c B : Nat} {F : Nat → List Value} (h : Writes w g n c F) (hb : Below B w w') (hB : g < B) : Writes w' g n c F :=
  ⟨Nat.lt_of_lt_of_le h.here hb.size, fun o => (hb.frozen (p := ⟨g, o, none⟩) hB).trans (h.free o), fun i hi j u hu => (hb.cell (p := ⟨g, _, none⟩) hB).trans (h.cell i hi j u hu)⟩
theorem Writes.on {w w' : World} {g n c : Nat} {F : Nat → List Value} (h : Writes w g n c F) (hb : Below w.heap.size w w') : Writes w' g n c F := h.keep hb h.here
theorem Slab.writes {w : World} {B : Nat} {v : Value} {n c : Nat} {F : Nat → List Value} (h : Slab w B v n c F) : (n = 0 ∧ ∃ a cap, v = .slice a 0 cap) ∨ ∃ g cap, v = .slice (some ⟨g, 0, none⟩) n cap ∧ B ≤ g ∧ Writes w g n c F := by
  obtain ⟨a, cap, hv, hnc, h⟩ := h
  rcases h with h | ⟨g, ha, h1, h2, h3, h4⟩
  · subst h; exact .inl ⟨rfl, a, cap, hv⟩
  · subst ha; exact .inr ⟨g, cap, hv, h1, h2, h3, h4⟩
theorem Writes.slab {w : World} {g n c : Nat} {F : Nat → List Value} (h : Writes w g n c F) {B : Nat} (hB : B ≤ g) (cap : Nat) (hc : n ≤ cap) : Slab w B (.slice (some ⟨g, 0, none⟩) n cap) n c F :=
  ⟨_, cap, rfl, hc, .inr ⟨g, rfl, hB, h.here, h.free, h.cell⟩⟩
def setAll (w : World) (g o : Nat) : List Value → World
  | [] => w
  | v :: vs => setAll (w.setCell ⟨g, o, none⟩ v) g (o + 1) vs
theorem setAll_size (w : World) (g o : Nat) (vs : List Value) : (setAll w g o vs).heap.size = w.heap.size := by
  induction vs generalizing w o with
  | nil => rfl
  | cons v vs ih => rw [setAll, ih]; simp
theorem setAll_frozen (w : World) (g o : Nat) (vs : List Value) (a : Addr) : (setAll w g o vs).frozen? a = w.frozen? a := by
  induction vs generalizing w o with
  | nil => rfl
  | cons v vs ih => rw [setAll, ih]; simp
theorem setAll_out (w : World) (g o p : Nat) (vs : List Value) (h : p < o ∨ o + vs.length ≤ p) : (setAll w g o vs).cell? ⟨g, p, none⟩ = w.cell? ⟨g, p, none⟩ := by
  induction vs generalizing w o with
  | nil => rfl
  | cons v vs ih =>
    rw [setAll, ih _ _ (by simp at h; omega), set_other v (by simp at h; omega)]
theorem setAll_in (w : World) (g o : Nat) (vs : List Value) (h : ∀ j, j < vs.length → ∃ u, w.cell? ⟨g, o + j, none⟩ = some u) : ∀ j v, vs[j]? = some v → (setAll w g o vs).cell? ⟨g, o + j, none⟩ = some v := by
  induction vs generalizing w o with
  | nil => intro j v hv; simp at hv
  | cons x vs ih =>
    intro j v hv
    rw [setAll]
    cases j with
    | zero =>
      simp at hv; subst hv
      obtain ⟨u, hu⟩ := h 0 (by simp)
      rw [Nat.add_zero, setAll_out _ _ _ _ _ (.inl (by omega))]
      exact set_same x (by simpa using hu)
    | succ j =>
      rw [show o + (j + 1) = o + 1 + j by omega]
      refine ih _ _ (fun i hi => ?_) j v (by simpa using hv)
      obtain ⟨u, hu⟩ := h (i + 1) (by simp; omega)
      exact ⟨u, by rw [set_other x (by omega), show o + 1 + i = o + (i + 1) by omega]; exact hu⟩
theorem setAll_below {B : Nat} {w0 w : World} (h : Below B w0 w) (g o : Nat) (hB : B ≤ g) (vs : List Value) : Below B w0 (setAll w g o vs) := by
  induction vs generalizing w o with
  | nil => exact h
  | cons v vs ih => exact ih (h.setCell (p := ⟨g, o, none⟩) hB v) _
theorem set_grown {w w' : World} {b : Nat} (h : w.grownBy w' (some b)) (o : Nat) (v : Value) : w.grownBy (w'.setCell ⟨b, o, none⟩ v) (some b) :=
  ⟨h.os, h.tape, h.output, by simpa [World.setCell] using h.size, fun k hk hne => by rw [Below.heap_setCell _ _ _ _ (by intro e; exact hne (by rw [e]))]; exact h.block k hk hne⟩
theorem setAll_grown {w0 w : World} {g : Nat} (h : w0.grownBy w (some g)) (o : Nat) (vs : List Value) : w0.grownBy (setAll w g o vs) (some g) := by
  induction vs generalizing w o with
  | nil => exact h
  | cons v vs ih => exact ih (set_grown h o v) _
theorem grown_on {a w w' : World} {row : Option Nat} (h : a.grownBy w row) (k : w.grownBy w' row) : a.grownBy w' row :=
  ⟨k.os.trans h.os, k.tape.trans h.tape, k.output.trans h.output, Nat.le_trans h.size k.size, fun i hi hne => (k.block i (Nat.lt_of_lt_of_le hi h.size) hne).trans (h.block i hi hne)⟩
theorem grown_below {w w' : World} (hb : Below w.heap.size w w') (row : Option Nat) : w.grownBy w' row := ⟨hb.os, hb.tape, hb.output, hb.size, fun k hk _ => hb.block k hk⟩
theorem Slab.kept {w w' : World} {B : Nat} {v : Value} {n c : Nat} {F : Nat → List Value} {row : Option Nat} (h : Slab w B v n c F) (hg : w.grownBy w' row) (hr : ∀ k, row = some k → k < B) : Slab w' B v n c F := by
  obtain ⟨a, cap, hv, hnc, h⟩ := h
  refine ⟨a, cap, hv, hnc, ?_⟩
  rcases h with h | ⟨g, ha, h1, h2, h3, h4⟩
  · exact .inl h
  · have hb : w'.heap[g]? = w.heap[g]? := hg.block g h2 (fun e => by have := hr g e.symm; omega)
    exact .inr ⟨g, ha, h1, Nat.lt_of_lt_of_le h2 hg.size, fun o => by rw [World.frozen?_of_block (w := w) hb]; exact h3 o, fun i hi j u hu => by rw [World.cell?_of_block (w := w) hb]; exact h4 i hi j u hu⟩
def rowOf (n : Nat) (v : Value) : Option Nat := if n = 0 then none else v.ownBlock
theorem Slab.row {w : World} {B : Nat} {v : Value} {n c : Nat} {F : Nat → List Value} (h : Slab w B v n c F) : ∀ k, rowOf n v = some k → B ≤ k ∧ k < w.heap.size := by
  intro k hk
  unfold rowOf at hk
  split at hk
  · cases hk
  · rename_i hn
    obtain ⟨a, cap, hv, _, h | ⟨g, ha, h1, h2, _⟩⟩ := h
    · exact absurd h hn
    · subst hv; subst ha
      simp [Value.ownBlock] at hk
      subst hk; exact ⟨h1, h2⟩
theorem Slab.apart {w w' : World} {B : Nat} {v : Value} {n c : Nat} {F : Nat → List Value} {row : Option Nat} (h : Slab w B v n c F) (hg : w.grownBy w' row) (hr : ∀ k, rowOf n v = some k → row ≠ some k) : Slab w' B v n c F := by
  by_cases hn : n = 0
  · obtain ⟨a, cap, hv, hnc, _⟩ := h
    exact ⟨a, cap, hv, hnc, .inl hn⟩
  · obtain ⟨a, cap, hv, hnc, h⟩ := h
    refine ⟨a, cap, hv, hnc, ?_⟩
    rcases h with h | ⟨g, ha, h1, h2, h3, h4⟩
    · exact .inl h
    · have hrow : rowOf n v = some g := by subst hv; subst ha; simp [rowOf, hn, Value.ownBlock]
      have hb : w'.heap[g]? = w.heap[g]? := hg.block g h2 (fun e => hr g hrow e.symm)
      exact .inr ⟨g, ha, h1, Nat.lt_of_lt_of_le h2 hg.size, fun o => by rw [World.frozen?_of_block (w := w) hb]; exact h3 o, fun i hi j u hu => by rw [World.cell?_of_block (w := w) hb]; exact h4 i hi j u hu⟩
theorem Writes.all {w : World} {g n c k : Nat} {F G : Nat → List Value} (h : Writes w g n c (upto G F k)) (hk : k < n) (hF : ∀ i, (F i).length = c) (hG : ∀ i, (G i).length = c) : Writes (setAll w g (k * c) (G k)) g n c (upto G F (k + 1)) := by
  have hl : ∀ i m, (upto G F m i).length = c := fun i m => by unfold upto; split <;> simp [hF, hG]
  refine ⟨by rw [setAll_size]; exact h.here, fun o => by rw [setAll_frozen]; exact h.free o, fun i hi j u hu => ?_⟩
  have hj : j < c := by
    have := (List.getElem?_eq_some_iff.1 hu).1
    rw [hl] at this; exact this
  by_cases e : i = k
  · subst e
    rw [upto_lt (by omega)] at hu
    refine setAll_in w g (i * c) (G i) (fun m hm => ?_) j u hu
    rw [hG] at hm
    have : m < (upto G F i i).length := by rw [hl]; exact hm
    exact ⟨_, h.cell i hi m _ (List.getElem?_eq_getElem this)⟩
  · rw [setAll_out]
    · refine h.cell i hi j u ?_
      have : upto G F (k + 1) i = upto G F k i := by
        unfold upto
        by_cases hik : i < k
        · rw [if_pos (by omega), if_pos hik]
        · rw [if_neg (by omega), if_neg hik]
      rw [← this]; exact hu
    · rw [hG]
      by_cases hik : i < k
      · have := Nat.mul_le_mul_right c (show i + 1 ≤ k by omega)
        rw [Nat.succ_mul] at this; omega
      · have := Nat.mul_le_mul_right c (show k + 1 ≤ i by omega)
        rw [Nat.succ_mul] at this; omega
end Go.Proofs.YtbdjnfnphilklaaGreat.Slabs
namespace Go.Proofs.YtbdjnfnphilklaaGreat.Own
open Go.ChangeShapes Go.WideShapes Go.ChangeAt Go.RowKit
open Kit Slabs
set_option linter.unusedVariables false
set_option linter.unusedSimpArgs false
set_option linter.unnecessarySimpa false
theorem rows_flat {w : World} {e : Kd} {g : Nat} : ∀ (n o : Nat) (F : Nat → List Value) (D : Nat → Dt), (∀ i, i < n → Own w e (F i) (D i) []) → (∀ i, i < n → ∀ j u, (F i)[j]? = some u → w.cell? ⟨g, o + i * e.sz + j, none⟩ = some u) → Rows w e g o ((List.range n).map D) []
  | 0, o, F, D, _, _ => .nil
  | n + 1, o, F, D, h, hc => by
    have h1 := rows_flat n (o + e.sz) (fun i => F (i + 1)) (fun i => D (i + 1)) (fun i hi => h (i + 1) (by omega)) (fun i hi j u hu => by
      have := hc (i + 1) (by omega) j u hu
      rw [Nat.succ_mul] at this
      rw [show o + e.sz + i * e.sz + j = o + (i * e.sz + e.sz) + j by omega]
      exact this)
    have h2 := Rows.cons (w := w) (e := e) (g := g) (o := o) (fun j u hu => by have := hc 0 (by omega) j u hu; simpa using this) (h 0 (by omega)) h1
    rw [List.range_succ_eq_map, List.map_cons, List.map_map]
    exact h2
theorem own_of_slab {w : World} {B n c : Nat} {v : Value} {F : Nat → List Value} {e : Kd} {D : Nat → Dt} (h : Slab w B v n c F) (hc : e.sz = c) (hF : ∀ i, i < n → Own w e (F i) (D i) []) :
    Own w (.sl e) [v] (.sl ((List.range n).map D)) (rowOf n v).toList := by
  obtain ⟨a, cap, rfl, hnc, h⟩ := h
  by_cases hn : n = 0
  · subst hn
    exact .nil a cap
  · rcases h with h | ⟨g, rfl, h1, h2, h3, h4⟩
    · exact absurd h hn
    · have hrow : rowOf n (.slice (some ⟨g, 0, none⟩) n cap) = some g := by simp [rowOf, hn, Value.ownBlock]
      rw [hrow]
      refine .sl (by simp) hn hnc h2 h3 (rows_flat n 0 F D hF (fun i hi j u hu => ?_))
      have := h4 i hi j u hu
      rw [hc, Nat.zero_add]; exact this
theorem nodup_row (r : Option Nat) : r.toList.Nodup := by cases r <;> simp
theorem rows_at {w : World} : ∀ {e : Kd} {g o : Nat} {ds : List Dt} {fp : List Nat}, Rows w e g o ds fp → ∀ i (h : i < ds.length), ∃ cs fpi, Own w e cs ds[i] fpi ∧ (∀ b ∈ fpi, b ∈ fp) ∧ ∀ j u, cs[j]? = some u → w.cell? ⟨g, o + i * e.sz + j, none⟩ = some u
  | _, _, _, _, _, .nil, i, h => by simp at h
  | e, g, o, _, _, .cons (cs := cs) (d := d) (fp := fp) (ds := ds) (fp' := fp') hc hd r, i, h => by
    cases i with
    | zero => exact ⟨cs, fp, hd, fun b hb => List.mem_append_left _ hb, fun j u hu => by have := hc j u hu; simpa using this⟩
    | succ i =>
      obtain ⟨cs2, fpi, h1, h2, h3⟩ := rows_at r i (by simpa using h)
      refine ⟨cs2, fpi, h1, fun b hb => List.mem_append_right _ (h2 b hb), fun j u hu => ?_⟩
      have := h3 j u hu
      rw [Nat.succ_mul, show o + (i * e.sz + e.sz) + j = o + e.sz + i * e.sz + j by omega]
      exact this
theorem camer_at {w : World} : ∀ {e : Kd} {g o : Nat} {ds : List Dt}, CameR w e g o ds → ∀ i (h : i < ds.length), ∃ cs, Came w e cs ds[i] ∧ ∀ j u, cs[j]? = some u → w.cell? ⟨g, o + i * e.sz + j, none⟩ = some u
  | _, _, _, _, .nil, i, h => by simp at h
  | e, g, o, _, .cons (cs := cs) (d := d) (ds := ds) hc hd r, i, h => by
    cases i with
    | zero => exact ⟨cs, hd, fun j u hu => by have := hc j u hu; simpa using this⟩
    | succ i =>
      obtain ⟨cs2, h1, h3⟩ := camer_at r i (by simpa using h)
      refine ⟨cs2, h1, fun j u hu => ?_⟩
      have := h3 j u hu
      rw [Nat.succ_mul, show o + (i * e.sz + e.sz) + j = o + e.sz + i * e.sz + j by omega]
      exact this
def Dt.num : Dt → Int
  | .int n => n
  | _ => 0
theorem slab_of_ints {w : World} {v : Value} {d : Dt} {fp : List Nat} (h : Own w (.sl .int) [v] d fp) {B : Nat} (hB : ∀ b ∈ fp, B ≤ b) :
    ∃ es : List Dt, d = .sl es ∧ es = (List.range es.length).map (fun i => .int ((es.getD i (.int 0)).num)) ∧ Slab w B v es.length 1 (fun i => [.int .i64 ((es.getD i (.int 0)).num)]) ∧ ∀ b, b ∈ fp ↔ rowOf es.length v = some b := by
  cases h with
  | nil a cap => exact ⟨[], rfl, rfl, ⟨a, cap, rfl, Nat.zero_le _, .inl rfl⟩, fun b => by simp [rowOf]⟩
  | @sl _ g n cap es fp hl hn hnc hg hf hr =>
    have key : ∀ i (h : i < es.length), es[i] = .int ((es.getD i (.int 0)).num) ∧ w.cell? ⟨g, i, none⟩ = some (.int .i64 ((es.getD i (.int 0)).num)) := by
      intro i hi
      obtain ⟨cs, fpi, h1, _, h3⟩ := rows_at hr i hi
      have hgd : es.getD i (.int 0) = es[i] := by simp [List.getD, List.getElem?_eq_getElem hi]
      rw [hgd]
      generalize es[i] = x at h1 ⊢
      cases h1 with
      | int m => exact ⟨rfl, by have := h3 0 _ rfl; simpa [Kd.sz, Dt.num] using this⟩
    have hfp : fp = [] := by
      have : ∀ {o : Nat} {ds : List Dt} {fp : List Nat}, Rows w .int g o ds fp → fp = [] := by
        intro o ds
        induction ds generalizing o with
        | nil => intro fp h; cases h; rfl
        | cons d ds ih =>
          intro fp h
          cases h with
          | cons hc hd r =>
            have h1 := ih r
            cases hd
            rw [h1]; rfl
      exact this hr
    subst hfp
    refine ⟨es, rfl, ?_, ⟨_, cap, by rw [hl], by omega, .inr ⟨g, rfl, hB g (List.mem_singleton.2 rfl), hg, hf, fun i hi j u hu => ?_⟩⟩, fun b => ?_⟩
    · apply List.ext_getElem
      · simp
      · intro i h1 h2
        simp only [List.getElem_map, List.getElem_range]
        exact (key i h1).1
    · have hj : j = 0 := by
        have := (List.getElem?_eq_some_iff.1 hu).1
        simp at this; omega
      subst hj
      simp only [List.getElem?_cons_zero, Option.some.injEq] at hu
      subst hu
      have := (key i hi).2
      simpa using this
    · have hne : ¬ es.length = 0 := by omega
      simp only [rowOf, if_neg hne, Value.ownBlock, List.mem_singleton, Option.some.injEq]
      exact ⟨fun h => h.symm, fun h => h.symm⟩
end Go.Proofs.YtbdjnfnphilklaaGreat.Own
