/-
  Texts of this seat, laid together: Slab
-/
import Derived.Laws.AppendOwn
import Derived.Test.YtbdjnfnphilklaaM01
namespace Go.Proofs.Ytbdjnfnphilklaa.Slabs
open Go.ChangeShapes Go.WideShapes Go.ChangeAt Go.RowKit
open Kit
set_option linter.unusedVariables false
set_option linter.unusedSimpArgs false
set_option linter.unnecessarySimpa false
def Slab (w : World) (B : Nat) (v : Value) (n c : Nat) (F : Nat → List Value) : Prop :=
  ∃ (a : Option Addr) (cap : Nat), v = .slice a n cap ∧ n ≤ cap ∧ (n = 0 ∨ ∃ g, a = some ⟨g, 0, none⟩ ∧ B ≤ g ∧ g < w.heap.size ∧ (∀ o, w.frozen? ⟨g, o, none⟩ = false) ∧ ∀ i, i < n → ∀ j u, (F i)[j]? = some u → w.cell? ⟨g, i * c + j, none⟩ = some u)
def flat (F : Nat → List Value) (n : Nat) : List Value := (List.range n).flatMap F
theorem flat_zero (F : Nat → List Value) : flat F 0 = [] := rfl
theorem flat_succ (F : Nat → List Value) (n : Nat) : flat F (n + 1) = flat F n ++ F n := by
  simp [flat, List.range_succ, List.flatMap_append]
theorem flat_length {F : Nat → List Value} {c : Nat} (hc : ∀ i, (F i).length = c) (n : Nat) : (flat F n).length = n * c := by
  induction n with
  | zero => simp [flat_zero]
  | succ n ih => rw [flat_succ, List.length_append, ih, hc, Nat.succ_mul]
theorem flat_get {F : Nat → List Value} {c : Nat} (hc : ∀ i, (F i).length = c) {n i j : Nat} (hi : i < n) (hj : j < c) : (flat F n)[i * c + j]? = (F i)[j]? := by
  induction n with
  | zero => omega
  | succ n ih =>
    rw [flat_succ]
    by_cases h : i < n
    · rw [List.getElem?_append_left (by
        rw [flat_length hc]
        have : (i + 1) * c ≤ n * c := Nat.mul_le_mul_right c (by omega)
        rw [Nat.succ_mul] at this; omega)]
      exact ih h
    · obtain rfl : i = n := by omega
      rw [List.getElem?_append_right (by rw [flat_length hc]; omega), flat_length hc]
      congr 1; omega
theorem Slab.of_owns {w : World} {B : Nat} {T : TypeId} {v : Value} {n c : Nat} {F : Nat → List Value} (h : w.ownsRow B T c v n (flat F n)) (hc : ∀ i, (F i).length = c) : Slab w B v n c F := by
  rcases h.2 with ⟨hv, h0⟩ | ⟨g, cap, cur, hv, hb, hg, hnc, _⟩
  · exact ⟨none, 0, by rw [hv, h0], by omega, .inl h0⟩
  · refine ⟨_, _, hv, hnc, .inr ⟨g, rfl, hb, (Array.getElem?_eq_some_iff.1 hg).1, fun o => by simp [World.frozen?, hg], fun i hi j u hu => ?_⟩⟩
    have hj : j < c := by
      have := (List.getElem?_eq_some_iff.1 hu).1
      rw [hc] at this; exact this
    have h2 := World.ownsRow.cells h (g := g) (by rw [hv]; rfl) (i * c + j) u (by rw [flat_get hc hi hj]; exact hu)
    have hadd : (⟨g, 0, none⟩ : Addr).add (i * c + j) = ⟨g, i * c + j, none⟩ := by unfold Addr.add; split <;> simp_all
    rw [hadd] at h2
    exact h2
theorem Slab.below {w w' : World} {B : Nat} {v : Value} {n c : Nat} {F : Nat → List Value} (h : Slab w B v n c F) (hb : Below w.heap.size w w') : Slab w' B v n c F := by
  obtain ⟨a, cap, hv, hnc, h⟩ := h
  refine ⟨a, cap, hv, hnc, ?_⟩
  rcases h with h | ⟨g, ha, h1, h2, h3, h4⟩
  · exact .inl h
  · exact .inr ⟨g, ha, h1, Nat.lt_of_lt_of_le h2 hb.size, fun o => (hb.frozen (p := ⟨g, o, none⟩) h2).trans (h3 o), fun i hi j u hu => (hb.cell (p := ⟨g, _, none⟩) h2).trans (h4 i hi j u hu)⟩
theorem Slab.cap_le {w : World} {B : Nat} {a : Option Addr} {cap n c : Nat} {F : Nat → List Value} (h : Slab w B (.slice a n cap) n c F) : n ≤ cap := by
  obtain ⟨a', cap', hv, hnc, _⟩ := h
  injection hv with _ _ h3
  omega
theorem Slab.under {w w' : World} {B C : Nat} {v : Value} {n c : Nat} {F : Nat → List Value} (h : Slab w B v n c F) (hC : C = w.heap.size) (hb : Below C w w') : Slab w' B v n c F := by
  subst hC; exact h.below hb
theorem Slab.weaken {w : World} {B B' : Nat} {v : Value} {n c : Nat} {F : Nat → List Value} (h : Slab w B v n c F) (hB : B' ≤ B) : Slab w B' v n c F := by
  obtain ⟨a, cap, hv, hnc, h⟩ := h
  refine ⟨a, cap, hv, hnc, ?_⟩
  rcases h with h | ⟨g, ha, h1, h2⟩
  · exact .inl h
  · exact .inr ⟨g, ha, Nat.le_trans hB h1, h2⟩
theorem Slab.same {w : World} {B : Nat} {v : Value} {n c : Nat} {F G : Nat → List Value} (h : Slab w B v n c F) (e : ∀ i, i < n → F i = G i) : Slab w B v n c G := by
  obtain ⟨a, cap, hv, hnc, h⟩ := h
  refine ⟨a, cap, hv, hnc, ?_⟩
  rcases h with h | ⟨g, ha, h1, h2, h3, h4⟩
  · exact .inl h
  · exact .inr ⟨g, ha, h1, h2, h3, fun i hi j u hu => h4 i hi j u (by rw [e i hi]; exact hu)⟩
def upto (G F : Nat → List Value) (k : Nat) (i : Nat) : List Value := if i < k then G i else F i
theorem upto_zero (G F : Nat → List Value) : upto G F 0 = F := by funext i; simp [upto]
theorem upto_lt {G F : Nat → List Value} {k i : Nat} (h : i < k) : upto G F k i = G i := by simp [upto, h]
theorem upto_ge {G F : Nat → List Value} {k i : Nat} (h : ¬ i < k) : upto G F k i = F i := by simp [upto, h]
structure Writes (w : World) (g n c : Nat) (F : Nat → List Value) : Prop where
  here : g < w.heap.size
  free : ∀ o, w.frozen? ⟨g, o, none⟩ = false
  cell : ∀ i, i < n → ∀ j u, (F i)[j]? = some u → w.cell? ⟨g, i * c + j, none⟩ = some u
theorem Writes.keep {w w' : World} {g n c B : Nat} {F : Nat → List Value} (h : Writes w g n c F) (hb : Below B w w') (hB : g < B) : Writes w' g n c F :=
  ⟨Nat.lt_of_lt_of_le h.here hb.size, fun o => (hb.frozen (p := ⟨g, o, none⟩) hB).trans (h.free o), fun i hi j u hu => (hb.cell (p := ⟨g, _, none⟩) hB).trans (h.cell i hi j u hu)⟩
theorem Writes.on {w w' : World} {g n c : Nat} {F : Nat → List Value} (h : Writes w g n c F) (hb : Below w.heap.size w w') : Writes w' g n c F := h.keep hb h.here
theorem Slab.writes {w : World} {B : Nat} {v : Value} {n c : Nat} {F : Nat → List Value} (h : Slab w B v n c F) : (n = 0 ∧ ∃ a cap, v = .slice a 0 cap) ∨ ∃ g cap, v = .slice (some ⟨g, 0, none⟩) n cap ∧ B ≤ g ∧ Writes w g n c F := by
  obtain ⟨a, cap, hv, hnc, h⟩ := h
  rcases h with h | ⟨g, ha, h1, h2, h3, h4⟩
  · subst h; exact .inl ⟨rfl, a, cap, hv⟩
  · subst ha; exact .inr ⟨g, cap, hv, h1, h2, h3, h4⟩
theorem Writes.slab {w : World} {g n c : Nat} {F : Nat → List Value} (h : Writes w g n c F) {B : Nat} (hB : B ≤ g) (cap : Nat) (hc : n ≤ cap) : Slab w B (.slice (some ⟨g, 0, none⟩) n cap) n c F :=
  ⟨_, cap, rfl, hc, .inr ⟨g, rfl, hB, h.here, h.free, h.cell⟩⟩
def setAll (w : World) (g o : Nat) : List Value → World
  | [] => w
  | v :: vs => setAll (w.setCell ⟨g, o, none⟩ v) g (o + 1) vs
theorem setAll_size (w : World) (g o : Nat) (vs : List Value) : (setAll w g o vs).heap.size = w.heap.size := by
  induction vs generalizing w o with
  | nil => rfl
  | cons v vs ih => rw [setAll, ih]; simp
theorem setAll_frozen (w : World) (g o : Nat) (vs : List Value) (a : Addr) : (setAll w g o vs).frozen? a = w.frozen? a := by
  induction vs generalizing w o with
  | nil => rfl
  | cons v vs ih => rw [setAll, ih]; simp
theorem setAll_out (w : World) (g o p : Nat) (vs : List Value) (h : p < o ∨ o + vs.length ≤ p) : (setAll w g o vs).cell? ⟨g, p, none⟩ = w.cell? ⟨g, p, none⟩ := by
  induction vs generalizing w o with
  | nil => rfl
  | cons v vs ih =>
    rw [setAll, ih _ _ (by simp at h; omega), set_other v (by simp at h; omega)]
theorem setAll_in (w : World) (g o : Nat) (vs : List Value) (h : ∀ j, j < vs.length → ∃ u, w.cell? ⟨g, o + j, none⟩ = some u) : ∀ j v, vs[j]? = some v → (setAll w g o vs).cell? ⟨g, o + j, none⟩ = some v := by
  induction vs generalizing w o with
  | nil => intro j v hv; simp at hv
  | cons x vs ih =>
    intro j v hv
    rw [setAll]
    cases j with
    | zero =>
      simp at hv; subst hv
      obtain ⟨u, hu⟩ := h 0 (by simp)
      rw [Nat.add_zero, setAll_out _ _ _ _ _ (.inl (by omega))]
      exact set_same x (by simpa using hu)
    | succ j =>
      rw [show o + (j + 1) = o + 1 + j by omega]
      refine ih _ _ (fun i hi => ?_) j v (by simpa using hv)
      obtain ⟨u, hu⟩ := h (i + 1) (by simp; omega)
      exact ⟨u, by rw [set_other x (by omega), show o + 1 + i = o + (i + 1) by omega]; exact hu⟩
theorem setAll_below {B : Nat} {w0 w : World} (h : Below B w0 w) (g o : Nat) (hB : B ≤ g) (vs : List Value) : Below B w0 (setAll w g o vs) := by
  induction vs generalizing w o with
  | nil => exact h
  | cons v vs ih => exact ih (h.setCell (p := ⟨g, o, none⟩) hB v) _
theorem set_grown {w w' : World} {b : Nat} (h : w.grownBy w' (some b)) (o : Nat) (v : Value) : w.grownBy (w'.setCell ⟨b, o, none⟩ v) (some b) :=
  ⟨h.os, h.tape, h.output, by simpa [World.setCell] using h.size, fun k hk hne => by rw [Below.heap_setCell _ _ _ _ (by intro e; exact hne (by rw [e]))]; exact h.block k hk hne⟩
theorem setAll_grown {w0 w : World} {g : Nat} (h : w0.grownBy w (some g)) (o : Nat) (vs : List Value) : w0.grownBy (setAll w g o vs) (some g) := by
  induction vs generalizing w o with
  | nil => exact h
  | cons v vs ih => exact ih (set_grown h o v) _
theorem grown_on {a w w' : World} {row : Option Nat} (h : a.grownBy w row) (k : w.grownBy w' row) : a.grownBy w' row :=
  ⟨k.os.trans h.os, k.tape.trans h.tape, k.output.trans h.output, Nat.le_trans h.size k.size, fun i hi hne => (k.block i (Nat.lt_of_lt_of_le hi h.size) hne).trans (h.block i hi hne)⟩
theorem grown_below {w w' : World} (hb : Below w.heap.size w w') (row : Option Nat) : w.grownBy w' row := ⟨hb.os, hb.tape, hb.output, hb.size, fun k hk _ => hb.block k hk⟩
theorem Slab.kept {w w' : World} {B : Nat} {v : Value} {n c : Nat} {F : Nat → List Value} {row : Option Nat} (h : Slab w B v n c F) (hg : w.grownBy w' row) (hr : ∀ k, row = some k → k < B) : Slab w' B v n c F := by
  obtain ⟨a, cap, hv, hnc, h⟩ := h
  refine ⟨a, cap, hv, hnc, ?_⟩
  rcases h with h | ⟨g, ha, h1, h2, h3, h4⟩
  · exact .inl h
  · have hb : w'.heap[g]? = w.heap[g]? := hg.block g h2 (fun e => by have := hr g e.symm; omega)
    exact .inr ⟨g, ha, h1, Nat.lt_of_lt_of_le h2 hg.size, fun o => by rw [World.frozen?_of_block (w := w) hb]; exact h3 o, fun i hi j u hu => by rw [World.cell?_of_block (w := w) hb]; exact h4 i hi j u hu⟩
def rowOf (n : Nat) (v : Value) : Option Nat := if n = 0 then none else v.ownBlock
theorem Slab.row {w : World} {B : Nat} {v : Value} {n c : Nat} {F : Nat → List Value} (h : Slab w B v n c F) : ∀ k, rowOf n v = some k → B ≤ k ∧ k < w.heap.size := by
  intro k hk
  unfold rowOf at hk
  split at hk
  · cases hk
  · rename_i hn
    obtain ⟨a, cap, hv, _, h | ⟨g, ha, h1, h2, _⟩⟩ := h
    · exact absurd h hn
    · subst hv; subst ha
      simp [Value.ownBlock] at hk
      subst hk; exact ⟨h1, h2⟩
theorem Slab.apart {w w' : World} {B : Nat} {v : Value} {n c : Nat} {F : Nat → List Value} {row : Option Nat} (h : Slab w B v n c F) (hg : w.grownBy w' row) (hr : ∀ k, rowOf n v = some k → row ≠ some k) : Slab w' B v n c F := by
  by_cases hn : n = 0
  · obtain ⟨a, cap, hv, hnc, _⟩ := h
    exact ⟨a, cap, hv, hnc, .inl hn⟩
  · obtain ⟨a, cap, hv, hnc, h⟩ := h
    refine ⟨a, cap, hv, hnc, ?_⟩
    rcases h with h | ⟨g, ha, h1, h2, h3, h4⟩
    · exact .inl h
    · have hrow : rowOf n v = some g := by subst hv; subst ha; simp [rowOf, hn, Value.ownBlock]
      have hb : w'.heap[g]? = w.heap[g]? := hg.block g h2 (fun e => hr g hrow e.symm)
      exact .inr ⟨g, ha, h1, Nat.lt_of_lt_of_le h2 hg.size, fun o => by rw [World.frozen?_of_block (w := w) hb]; exact h3 o, fun i hi j u hu => by rw [World.cell?_of_block (w := w) hb]; exact h4 i hi j u hu⟩
theorem Writes.all {w : World} {g n c k : Nat} {F G : Nat → List Value} (h : Writes w g n c (upto G F k)) (hk : k < n) (hF : ∀ i, (F i).length = c) (hG : ∀ i, (G i).length = c) : Writes (setAll w g (k * c) (G k)) g n c (upto G F (k + 1)) := by
  have hl : ∀ i m, (upto G F m i).length = c := fun i m => by unfold upto; split <;> simp [hF, hG]
  refine ⟨by rw [setAll_size]; exact h.here, fun o => by rw [setAll_frozen]; exact h.free o, fun i hi j u hu => ?_⟩
  have hj : j < c := by
    have := (List.getElem?_eq_some_iff.1 hu).1
    rw [hl] at this; exact this
  by_cases e : i = k
  · subst e
    rw [upto_lt (by omega)] at hu
    refine setAll_in w g (i * c) (G i) (fun m hm => ?_) j u hu
    rw [hG] at hm
    have : m < (upto G F i i).length := by rw [hl]; exact hm
    exact ⟨_, h.cell i hi m _ (List.getElem?_eq_getElem this)⟩
  · rw [setAll_out]
    · refine h.cell i hi j u ?_
      have : upto G F (k + 1) i = upto G F k i := by
        unfold upto
        by_cases hik : i < k
        · rw [if_pos (by omega), if_pos hik]
        · rw [if_neg (by omega), if_neg hik]
      rw [← this]; exact hu
    · rw [hG]
      by_cases hik : i < k
      · have := Nat.mul_le_mul_right c (show i + 1 ≤ k by omega)
        rw [Nat.succ_mul] at this; omega
      · have := Nat.mul_le_mul_right c (show k + 1 ≤ i by omega)
        rw [Nat.succ_mul] at this; omega
end Go.Proofs.Ytbdjnfnphilklaa.Slabs
