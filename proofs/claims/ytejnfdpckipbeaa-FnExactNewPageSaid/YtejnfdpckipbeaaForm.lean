/-
  Flat values (no slices in them) and slices of them, between slabs and Own; no program in it.
-/
import Derived.Test.YtejnfdpckipbeaaZip
import Derived.Test.YtejnfdpckipbeaaRecs
namespace Go.Proofs.Ytejnfdpckipbeaa.Own
open Go.ChangeShapes Go.WideShapes Go.ChangeAt Go.RowKit
open Kit Slabs
open Marking (mt)
open Recs (FK IsRecs)
set_option linter.unusedVariables false
set_option linter.unusedSimpArgs false
set_option linter.unnecessarySimpa false

mutual
/-- The cells of a flat value. -/
def Dt.cells : Dt → List Value
  | .int n => [.int .i64 n]
  | .str s => [.string s]
  | .bool b => [.bool b]
  | .st fs => cellsL fs
  | .sl _ => []
def cellsL : List Dt → List Value
  | [] => []
  | d :: r => d.cells ++ cellsL r
end

mutual
def Kd.flat : Kd → Bool
  | .int => true
  | .str => true
  | .bool => true
  | .st ks => flatL ks
  | .sl _ => false
def flatL : List Kd → Bool
  | [] => true
  | k :: r => k.flat && flatL r
end

mutual
theorem Own.flat {w : World} : ∀ {k : Kd} {cs : List Value} {d : Dt} {fp : List Nat}, k.flat = true → Own w k cs d fp → cs = d.cells ∧ fp = [] ∧ ∀ w', Own w' k cs d fp
  | _, _, _, _, _, .int n => ⟨rfl, rfl, fun w' => .int n⟩
  | _, _, _, _, _, .str s => ⟨rfl, rfl, fun w' => .str s⟩
  | _, _, _, _, _, .bool b => ⟨rfl, rfl, fun w' => .bool b⟩
  | .st ks, _, _, _, h, .st ho => by
    obtain ⟨h1, h2, h3⟩ := OwnL.flat (ks := ks) h ho
    exact ⟨by simp only [Dt.cells]; exact h1, h2, fun w' => .st (h3 w')⟩
  | _, _, _, _, h, .nil a cap => by simp [Kd.flat] at h
  | _, _, _, _, h, .sl _ _ _ _ _ _ => by simp [Kd.flat] at h
theorem OwnL.flat {w : World} : ∀ {ks : List Kd} {cs : List Value} {ds : List Dt} {fp : List Nat}, flatL ks = true → OwnL w ks cs ds fp → cs = cellsL ds ∧ fp = [] ∧ ∀ w', OwnL w' ks cs ds fp
  | _, _, _, _, _, .nil => ⟨rfl, rfl, fun w' => .nil⟩
  | k :: ks, _, _, _, h, .cons ho hr => by
    simp only [flatL, Bool.and_eq_true] at h
    obtain ⟨h1, h2, h3⟩ := Own.flat (k := k) h.1 ho
    obtain ⟨g1, g2, g3⟩ := OwnL.flat (ks := ks) h.2 hr
    exact ⟨by simp only [cellsL]; rw [← h1, ← g1], by rw [h2, g2]; rfl, fun w' => .cons (h3 w') (g3 w')⟩
end

mutual
/-- What came in and is flat is owned by nobody. -/
theorem Came.flat {w : World} : ∀ {k : Kd} {cs : List Value} {d : Dt}, k.flat = true → Came w k cs d → cs = d.cells ∧ ∀ w', Own w' k cs d []
  | _, _, _, _, .int n _ => ⟨rfl, fun w' => .int n⟩
  | _, _, _, _, .str s _ => ⟨rfl, fun w' => .str s⟩
  | _, _, _, _, .bool b => ⟨rfl, fun w' => .bool b⟩
  | .st ks, _, _, h, .st ho => by
    obtain ⟨h1, h3⟩ := CameL.flat (ks := ks) h ho
    exact ⟨by simp only [Dt.cells]; exact h1, fun w' => .st (h3 w')⟩
  | _, _, _, h, .nil a cap _ => by simp [Kd.flat] at h
  | _, _, _, h, .sl _ _ _ _ _ _ => by simp [Kd.flat] at h
theorem CameL.flat {w : World} : ∀ {ks : List Kd} {cs : List Value} {ds : List Dt}, flatL ks = true → CameL w ks cs ds → cs = cellsL ds ∧ ∀ w', OwnL w' ks cs ds []
  | _, _, _, _, .nil => ⟨rfl, fun w' => .nil⟩
  | k :: ks, _, _, h, .cons ho hr => by
    simp only [flatL, Bool.and_eq_true] at h
    obtain ⟨h1, h3⟩ := Came.flat (k := k) h.1 ho
    obtain ⟨g1, g3⟩ := CameL.flat (ks := ks) h.2 hr
    exact ⟨by simp only [cellsL]; rw [← h1, ← g1], fun w' => .cons (fp := []) (fp' := []) (h3 w') (g3 w')⟩
end

/-- The i-th datum of a list. -/
def at_ (es : List Dt) (i : Nat) : Dt := es.getD i (.int 0)
theorem at_eq {es : List Dt} {i : Nat} (h : i < es.length) : at_ es i = es[i] := by simp [at_, List.getD, List.getElem?_eq_getElem h]

theorem rows_flat_fp {w : World} {e : Kd} (he : e.flat = true) {g : Nat} : ∀ {o : Nat} {ds : List Dt} {fp : List Nat}, Rows w e g o ds fp → fp = []
  | _, _, _, .nil => rfl
  | _, _, _, .cons hc hd r => by rw [rows_flat_fp he r, (hd.flat he).2.1]; rfl

/-- An owned slice of flat elements is a slab. -/
theorem slab_of_own {w : World} {e : Kd} (he : e.flat = true) {v : Value} {es : List Dt} {fp : List Nat} (h : Own w (.sl e) [v] (.sl es) fp) {B : Nat} (hB : ∀ b ∈ fp, B ≤ b) :
    Slab w B v es.length e.sz (fun i => (at_ es i).cells) ∧ fp = (rowOf es.length v).toList ∧ ∀ i, i < es.length → Own w e (at_ es i).cells (at_ es i) [] := by
  cases h with
  | nil a cap => exact ⟨⟨a, cap, rfl, Nat.zero_le _, .inl rfl⟩, by simp [rowOf], fun i hi => by simp at hi⟩
  | @sl _ g n cap es fp hl hn hnc hg hf hr =>
    have key : ∀ i (h : i < es.length), Own w e (at_ es i).cells (at_ es i) [] ∧ ∀ j u, (at_ es i).cells[j]? = some u → w.cell? ⟨g, i * e.sz + j, none⟩ = some u := by
      intro i hi
      obtain ⟨cs, fpi, h1, _, h3⟩ := rows_at hr i hi
      rw [at_eq hi]
      obtain ⟨e1, e2, _⟩ := h1.flat he
      rw [e1, e2] at h1
      rw [e1] at h3
      exact ⟨h1, fun j u hu => by have := h3 j u hu; rwa [Nat.zero_add] at this⟩
    refine ⟨⟨_, cap, by rw [hl], by omega, .inr ⟨g, rfl, hB g (by simp), hg, hf, fun i hi j u hu => (key i hi).2 j u hu⟩⟩, ?_, fun i hi => (key i hi).1⟩
    rw [rows_flat_fp he hr]
    have hne : ¬ es.length = 0 := by omega
    simp [rowOf, hne, Value.ownBlock]

theorem map_at (es : List Dt) : (List.range es.length).map (at_ es) = es := by
  apply List.ext_getElem
  · simp
  · intro i h1 h2
    simp [at_eq h2]

/-- A slab whose elements are those data is the owned slice. -/
theorem own_of_at {w : World} {B n : Nat} {v : Value} {F : Nat → List Value} {e : Kd} {es : List Dt} (h : Slab w B v n e.sz F) (hn : es.length = n) (hF : ∀ i, i < n → Own w e (F i) (at_ es i) []) : Own w (.sl e) [v] (.sl es) (rowOf n v).toList := by
  have := own_of_slab (D := at_ es) h rfl hF
  rw [← hn] at this ⊢
  rwa [map_at] at this

end Go.Proofs.Ytejnfdpckipbeaa.Own
