/-
  Texts of this seat, laid together: Own, Recs, Row, Tab, Byt
-/
import Derived.Test.YtjmfgbbngocodaaGreatRows
import Derived.WalkKit
import Derived.ProofKit
import Derived.OpenShut
import Derived.ChangeArms
import Derived.Deep.Slices
import Derived.Deep.Fields
import Derived.ChangeSame
import Derived.Below
import Derived.WideMake
import Derived.Carry
import Derived.Test.YtjmfgbbngocodaaGreatZ01
namespace Go.Proofs.YtjmfgbbngocodaaGreat.Own
open Go.ChangeShapes Go.WideShapes Go.ChangeAt Go.RowKit
open Kit
set_option linter.unusedVariables false
set_option linter.unusedSimpArgs false
set_option linter.unnecessarySimpa false
inductive Kd where
  | int
  | str
  | bool
  | st (fs : List Kd)
  | sl (e : Kd)
inductive Dt where
  | int (n : Int)
  | str (s : ByteArray)
  | bool (b : Bool)
  | st (fs : List Dt)
  | sl (es : List Dt)
mutual
def Kd.sz : Kd → Nat
  | .int => 1
  | .str => 1
  | .bool => 1
  | .st fs => szL fs
  | .sl _ => 1
def szL : List Kd → Nat
  | [] => 0
  | k :: r => k.sz + szL r
end
mutual
inductive Own (w : World) : Kd → List Value → Dt → List Nat → Prop
  | int (n : Int) : Own w .int [.int .i64 n] (.int n) []
  | str (s : ByteArray) : Own w .str [.string s] (.str s) []
  | bool (b : Bool) : Own w .bool [.bool b] (.bool b) []
  | st {ks : List Kd} {cs : List Value} {ds : List Dt} {fp : List Nat} : OwnL w ks cs ds fp → Own w (.st ks) cs (.st ds) fp
  | nil {e : Kd} (a : Option Addr) (cap : Nat) : Own w (.sl e) [.slice a 0 cap] (.sl []) []
  | sl {e : Kd} {g n cap : Nat} {es : List Dt} {fp : List Nat} : es.length = n → n ≠ 0 → n ≤ cap → g < w.heap.size → (∀ o, w.frozen? ⟨g, o, none⟩ = false) → Rows w e g 0 es fp → Own w (.sl e) [.slice (some ⟨g, 0, none⟩) n cap] (.sl es) (g :: fp)
inductive OwnL (w : World) : List Kd → List Value → List Dt → List Nat → Prop
  | nil : OwnL w [] [] [] []
  | cons {k : Kd} {cs : List Value} {d : Dt} {fp : List Nat} {ks : List Kd} {cs' : List Value} {ds : List Dt} {fp' : List Nat} : Own w k cs d fp → OwnL w ks cs' ds fp' → OwnL w (k :: ks) (cs ++ cs') (d :: ds) (fp ++ fp')
inductive Rows (w : World) : Kd → Nat → Nat → List Dt → List Nat → Prop
  | nil {e : Kd} {g o : Nat} : Rows w e g o [] []
  | cons {e : Kd} {g o : Nat} {cs : List Value} {d : Dt} {fp : List Nat} {ds : List Dt} {fp' : List Nat} : (∀ j u, cs[j]? = some u → w.cell? ⟨g, o + j, none⟩ = some u) → Own w e cs d fp → Rows w e g (o + e.sz) ds fp' → Rows w e g o (d :: ds) (fp ++ fp')
end
mutual
theorem Own.len {w : World} : ∀ {k : Kd} {cs : List Value} {d : Dt} {fp : List Nat}, Own w k cs d fp → cs.length = k.sz
  | _, _, _, _, .int n => rfl
  | _, _, _, _, .str s => rfl
  | _, _, _, _, .bool b => rfl
  | _, _, _, _, .st h => by simp only [Kd.sz]; exact OwnL.len h
  | _, _, _, _, .nil a cap => rfl
  | _, _, _, _, .sl _ _ _ _ _ _ => rfl
theorem OwnL.len {w : World} : ∀ {ks : List Kd} {cs : List Value} {ds : List Dt} {fp : List Nat}, OwnL w ks cs ds fp → cs.length = szL ks
  | _, _, _, _, .nil => rfl
  | _, _, _, _, .cons h r => by simp only [szL, List.length_append]; rw [Own.len h, OwnL.len r]
end
mutual
theorem Own.stays {w w' : World} (hs : w.heap.size ≤ w'.heap.size) : ∀ {k : Kd} {cs : List Value} {d : Dt} {fp : List Nat}, Own w k cs d fp → (∀ b ∈ fp, w'.heap[b]? = w.heap[b]?) → Own w' k cs d fp
  | _, _, _, _, .int n, _ => .int n
  | _, _, _, _, .str s, _ => .str s
  | _, _, _, _, .bool b, _ => .bool b
  | _, _, _, _, .st h, hb => .st (OwnL.stays hs h hb)
  | _, _, _, _, .nil a cap, _ => .nil a cap
  | _, _, _, _, .sl (g := g) h1 h2 h3 h4 h5 h6, hb =>
    have hg : w'.heap[g]? = w.heap[g]? := hb g (List.mem_cons_self)
    .sl h1 h2 h3 (Nat.lt_of_lt_of_le h4 hs) (fun o => by rw [World.frozen?_of_block (w := w) hg]; exact h5 o) (Rows.stays hs hg h6 (fun b hm => hb b (List.mem_cons_of_mem _ hm)))
theorem OwnL.stays {w w' : World} (hs : w.heap.size ≤ w'.heap.size) : ∀ {ks : List Kd} {cs : List Value} {ds : List Dt} {fp : List Nat}, OwnL w ks cs ds fp → (∀ b ∈ fp, w'.heap[b]? = w.heap[b]?) → OwnL w' ks cs ds fp
  | _, _, _, _, .nil, _ => .nil
  | _, _, _, _, .cons h r, hb => .cons (Own.stays hs h (fun b hm => hb b (List.mem_append_left _ hm))) (OwnL.stays hs r (fun b hm => hb b (List.mem_append_right _ hm)))
theorem Rows.stays {w w' : World} (hs : w.heap.size ≤ w'.heap.size) : ∀ {e : Kd} {g o : Nat} {ds : List Dt} {fp : List Nat}, w'.heap[g]? = w.heap[g]? → Rows w e g o ds fp → (∀ b ∈ fp, w'.heap[b]? = w.heap[b]?) → Rows w' e g o ds fp
  | _, _, _, _, _, _, .nil, _ => .nil
  | _, _, _, _, _, hg, .cons hc h r, hb => .cons (fun j u hu => by rw [World.cell?_of_block (w := w) hg]; exact hc j u hu) (Own.stays hs h (fun b hm => hb b (List.mem_append_left _ hm))) (Rows.stays hs hg r (fun b hm => hb b (List.mem_append_right _ hm)))
end
mutual
theorem Own.lt {w : World} : ∀ {k : Kd} {cs : List Value} {d : Dt} {fp : List Nat}, Own w k cs d fp → ∀ b ∈ fp, b < w.heap.size
  | _, _, _, _, .int n, b, hb => by cases hb
  | _, _, _, _, .str s, b, hb => by cases hb
  | _, _, _, _, .bool _, b, hb => by cases hb
  | _, _, _, _, .st h, b, hb => OwnL.lt h b hb
  | _, _, _, _, .nil a cap, b, hb => by cases hb
  | _, _, _, _, .sl h1 h2 h3 h4 h5 h6, b, hb => by
    rcases List.mem_cons.1 hb with rfl | hb
    · exact h4
    · exact Rows.lt h6 b hb
theorem OwnL.lt {w : World} : ∀ {ks : List Kd} {cs : List Value} {ds : List Dt} {fp : List Nat}, OwnL w ks cs ds fp → ∀ b ∈ fp, b < w.heap.size
  | _, _, _, _, .nil, b, hb => by cases hb
  | _, _, _, _, .cons h r, b, hb => by
    rcases List.mem_append.1 hb with hb | hb
    · exact Own.lt h b hb
    · exact OwnL.lt r b hb
theorem Rows.lt {w : World} : ∀ {e : Kd} {g o : Nat} {ds : List Dt} {fp : List Nat}, Rows w e g o ds fp → ∀ b ∈ fp, b < w.heap.size
  | _, _, _, _, _, .nil, b, hb => by cases hb
  | _, _, _, _, _, .cons hc h r, b, hb => by
    rcases List.mem_append.1 hb with hb | hb
    · exact Own.lt h b hb
    · exact Rows.lt r b hb
end
theorem Own.under {w w' : World} {k : Kd} {cs : List Value} {d : Dt} {fp : List Nat} (h : Own w k cs d fp) (hb : Below w.heap.size w w') : Own w' k cs d fp :=
  h.stays hb.size (fun b hm => hb.block b (h.lt b hm))
theorem Own.kept {w w' : World} {k : Kd} {cs : List Value} {d : Dt} {fp : List Nat} {row : Option Nat} (h : Own w k cs d fp) (hg : w.grownBy w' row) (hr : ∀ b ∈ fp, row ≠ some b) : Own w' k cs d fp :=
  h.stays hg.size (fun b hm => hg.block b (h.lt b hm) (fun e => hr b hm e.symm))
structure Turns (w w' : World) (S : Nat → Prop) : Prop where
  os : w'.os = w.os
  tape : w'.tape = w.tape
  output : w'.output = w.output
  size : w.heap.size ≤ w'.heap.size
  block : ∀ k, k < w.heap.size → ¬ S k → w'.heap[k]? = w.heap[k]?
theorem Turns.refl (w : World) (S : Nat → Prop) : Turns w w S := ⟨rfl, rfl, rfl, Nat.le_refl _, fun _ _ _ => rfl⟩
theorem Turns.trans {a b c : World} {S : Nat → Prop} (h : Turns a b S) (k : Turns b c S) : Turns a c S :=
  ⟨k.os.trans h.os, k.tape.trans h.tape, k.output.trans h.output, Nat.le_trans h.size k.size, fun i hi hn => (k.block i (Nat.lt_of_lt_of_le hi h.size) hn).trans (h.block i hi hn)⟩
theorem Turns.mono {w w' : World} {S T : Nat → Prop} (h : Turns w w' S) (hst : ∀ k, S k → T k) : Turns w w' T := ⟨h.os, h.tape, h.output, h.size, fun k hk hn => h.block k hk (fun hs => hn (hst k hs))⟩
theorem Turns.of_grown {w w' : World} {row : Option Nat} (h : w.grownBy w' row) : Turns w w' (fun k => row = some k) := ⟨h.os, h.tape, h.output, h.size, fun k hk hn => h.block k hk (fun e => hn e.symm)⟩
theorem Turns.below {w w' : World} {S : Nat → Prop} {B : Nat} (h : Turns w w' S) (hB : B ≤ w.heap.size) (hS : ∀ k, S k → B ≤ k) : Below B w w' :=
  ⟨h.os, h.tape, h.output, h.size, fun k hk => h.block k (Nat.lt_of_lt_of_le hk hB) (fun hs => by have := hS k hs; omega)⟩
theorem Own.turned {w w' : World} {k : Kd} {cs : List Value} {d : Dt} {fp : List Nat} {S : Nat → Prop} (h : Own w k cs d fp) (ht : Turns w w' S) (hS : ∀ b ∈ fp, ¬ S b) : Own w' k cs d fp :=
  h.stays ht.size (fun b hm => ht.block b (h.lt b hm) (hS b hm))
end Go.Proofs.YtjmfgbbngocodaaGreat.Own

namespace Go.Proofs.YtjmfgbbngocodaaGreat.Recs
open Go.ChangeShapes Go.WideShapes Go.ChangeAt Go.RowKit
open Go.Deep
set_option linter.unusedVariables false
set_option linter.unusedSimpArgs false
set_option linter.unnecessarySimpa false
section
variable {H : Type} {enc : TypeId × Value → H} {P : Program} {w : World} {base : Nat} {spare : Nat → Bool} {held : Bool}
end
inductive FK where
  | int (k : IntKind)
  | bool
  | string
def FK.fits : FK → Value → Prop
  | .int k, v => ∃ n : Int, v = .int k n ∧ (Lit.int k n).wf = true
  | .bool, v => ∃ b : Bool, v = .bool b
  | .string, v => ∃ s : ByteArray, v = .string s ∧ s.size ≤ maxLen
def IsRecs (kl : List FK) (w : World) (a : Option Addr) (len cap : Nat) (z : Nat → Nat → Value) : Prop :=
  len ≤ cap ∧ cap ≤ maxLen ∧ (len = 0 ∨ ∃ g o, a = some ⟨g, o, none⟩ ∧ g < w.heap.size ∧ ∀ i, i < len → ∀ j kd, kl[j]? = some kd → w.cell? ⟨g, o + (i * kl.length + j), none⟩ = some (z i j) ∧ kd.fits (z i j))
end Go.Proofs.YtjmfgbbngocodaaGreat.Recs

namespace Go.Proofs.YtjmfgbbngocodaaGreat.Draw
open Go.ChangeShapes Go.WideShapes Go.ChangeAt Go.RowKit
set_option linter.unusedVariables false
def IsRow (k : IntKind) (w : World) (a : Option Addr) (len cap : Nat) (zs : List Int) : Prop :=
  (a = none ∧ len = 0 ∧ cap = 0 ∧ zs = []) ∨
  ∃ x, a = some x ∧ len ≤ cap ∧ cap ≤ maxLen ∧ zs.length = cap ∧ (∀ i, i < zs.length → w.cell? (x.add i) = some (.int k (zs.getD i 0))) ∧ ∀ n ∈ zs, (Lit.int k n).wf = true
end Go.Proofs.YtjmfgbbngocodaaGreat.Draw

namespace Go.Proofs.YtjmfgbbngocodaaGreat.Tab
open Go.ChangeShapes Go.WideShapes Go.ChangeAt Go.RowKit
set_option linter.unusedVariables false
set_option linter.unusedSimpArgs false
set_option linter.unnecessarySimpa false
theorem set_alloc (w : World) (o o' : Obj) : ({ w.alloc o with heap := (w.alloc o).heap.setIfInBounds w.heap.size o' } : World) = w.alloc o' := by
  show ({ w with heap := (w.heap.push o).setIfInBounds w.heap.size o' } : World) = { w with heap := w.heap.push o' }
  congr 1
  apply Array.ext
  · simp
  · intro i h1 h2
    have h3 : i < (w.heap.push o).size := by simpa using h1
    simp only [Array.size_setIfInBounds, Array.size_push] at h1
    rw [Array.getElem_setIfInBounds h3]
    by_cases e : w.heap.size = i
    · subst e; simp
    · rw [if_neg e, Array.getElem_push, Array.getElem_push]; simp [show i < w.heap.size by omega]
theorem run_ins {P : Program} {mty kt et : TypeId} (hm : P.underlying mty = some (.map kt et)) (hk : P.underlying kt = some .string) (w : World) (es : Array MapEntry) (clock : Nat) (s : ByteArray) (val : Value)
    (hf : Instr.findNow .string (.string s) es.toList 0 = some none) :
    (Instr.mapUpdate mty (.map (some w.heap.size)) (.string s) val).run P (w.alloc (.map es clock)) = .ok () (w.alloc (.map (es.push { key := .string s, val := val, born := clock }) (clock + 1))) := by
  have hb : (w.alloc (.map es clock)).heap[w.heap.size]? = some (.map es clock) := heap_alloc_new w _
  have hc : (Instr.checkKey false 10000 kt (.string s)).run P (w.alloc (.map es clock)) = .ok () (w.alloc (.map es clock)) := MapKept.run_checkKey (k := .string s) hk (by simp [MapKept.IsKey]) false 9999
  simp [Instr.mapUpdate, run_underlying hm, MapKept.run_getObj_map hb, hc, MapKept.run_findKey hk hf, MapKept.run_setObj_map _ hb, Result.andThen]
  exact set_alloc w _ _
theorem run_look_yes {P : Program} {mty kt et : TypeId} (hm : P.underlying mty = some (.map kt et)) (hk : P.underlying kt = some .string) {W : World} {b : Nat} {es : Array MapEntry} {clock : Nat} (hb : W.heap[b]? = some (.map es clock)) {s : ByteArray} {i : Nat} {v : Value}
    (hf : Instr.findNow .string (.string s) es.toList 0 = some (some (i, v))) :
    (Instr.lookup mty (.map (some b)) (.string s) true).run P W = .ok (.tuple #[v, .bool true]) W := by
  have hc : ∀ e, (Instr.checkKey e 10000 kt (.string s)).run P W = .ok () W := fun e => MapKept.run_checkKey (k := .string s) hk (by simp [MapKept.IsKey]) e 9999
  simp [Instr.lookup, run_underlying hm, MapKept.run_getObj_map hb, hc, MapKept.run_findKey hk hf, Result.andThen]
theorem run_look_no {P : Program} {mty kt et : TypeId} (hm : P.underlying mty = some (.map kt et)) (hk : P.underlying kt = some .string) {W : World} {b : Nat} {es : Array MapEntry} {clock : Nat} (hb : W.heap[b]? = some (.map es clock)) {s : ByteArray} {z : Value}
    (hf : Instr.findNow .string (.string s) es.toList 0 = some none) (hz : (zeroValue et).run P W = .ok z W) :
    (Instr.lookup mty (.map (some b)) (.string s) true).run P W = .ok (.tuple #[z, .bool false]) W := by
  have hc : ∀ e, (Instr.checkKey e 10000 kt (.string s)).run P W = .ok () W := fun e => MapKept.run_checkKey (k := .string s) hk (by simp [MapKept.IsKey]) e 9999
  simp [Instr.lookup, run_underlying hm, MapKept.run_getObj_map hb, hc, MapKept.run_findKey hk hf, hz, Result.andThen]
end Go.Proofs.YtjmfgbbngocodaaGreat.Tab

namespace Go.Proofs.YtjmfgbbngocodaaGreat.Split
set_option linter.unusedVariables false
def byt (s : ByteArray) (k : Nat) : Int := if h : k < s.size then (s[k].toNat : Int) else 32
theorem byt_in (s : ByteArray) (k : Nat) (h : k < s.size) : byt s k = (s[k].toNat : Int) := dif_pos h
theorem byt_end (s : ByteArray) : byt s s.size = 32 := dif_neg (Nat.lt_irrefl _)
end Go.Proofs.YtjmfgbbngocodaaGreat.Split

