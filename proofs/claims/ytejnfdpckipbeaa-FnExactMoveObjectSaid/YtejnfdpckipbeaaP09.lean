/-
  Texts of this seat, laid together: OwnFlat
-/
import Derived.Test.YtejnfdpckipbeaaP07
import Derived.Test.YtejnfdpckipbeaaP08
namespace Go.Proofs.Ytejnfdpckipbeaa.Own
open Go.ChangeShapes Go.WideShapes Go.ChangeAt Go.RowKit
open Kit Slabs
set_option linter.unusedVariables false
set_option linter.unusedSimpArgs false
set_option linter.unnecessarySimpa false
theorem rows_flat {w : World} {e : Kd} {g : Nat} : ∀ (n o : Nat) (F : Nat → List Value) (D : Nat → Dt), (∀ i, i < n → Own w e (F i) (D i) []) → (∀ i, i < n → ∀ j u, (F i)[j]? = some u → w.cell? ⟨g, o + i * e.sz + j, none⟩ = some u) → Rows w e g o ((List.range n).map D) []
  | 0, o, F, D, _, _ => .nil
  | n + 1, o, F, D, h, hc => by
    have h1 := rows_flat n (o + e.sz) (fun i => F (i + 1)) (fun i => D (i + 1)) (fun i hi => h (i + 1) (by omega)) (fun i hi j u hu => by
      have := hc (i + 1) (by omega) j u hu
      rw [Nat.succ_mul] at this
      rw [show o + e.sz + i * e.sz + j = o + (i * e.sz + e.sz) + j by omega]
      exact this)
    have h2 := Rows.cons (w := w) (e := e) (g := g) (o := o) (fun j u hu => by have := hc 0 (by omega) j u hu; simpa using this) (h 0 (by omega)) h1
    rw [List.range_succ_eq_map, List.map_cons, List.map_map]
    exact h2
theorem own_of_slab {w : World} {B n c : Nat} {v : Value} {F : Nat → List Value} {e : Kd} {D : Nat → Dt} (h : Slab w B v n c F) (hc : e.sz = c) (hF : ∀ i, i < n → Own w e (F i) (D i) []) :
    Own w (.sl e) [v] (.sl ((List.range n).map D)) (rowOf n v).toList := by
  obtain ⟨a, cap, rfl, hnc, h⟩ := h
  by_cases hn : n = 0
  · subst hn
    exact .nil a cap
  · rcases h with h | ⟨g, rfl, h1, h2, h3, h4⟩
    · exact absurd h hn
    · have hrow : rowOf n (.slice (some ⟨g, 0, none⟩) n cap) = some g := by simp [rowOf, hn, Value.ownBlock]
      rw [hrow]
      refine .sl (by simp) hn hnc h2 h3 (rows_flat n 0 F D hF (fun i hi j u hu => ?_))
      have := h4 i hi j u hu
      rw [hc, Nat.zero_add]; exact this
theorem nodup_row (r : Option Nat) : r.toList.Nodup := by cases r <;> simp
theorem rows_at {w : World} : ∀ {e : Kd} {g o : Nat} {ds : List Dt} {fp : List Nat}, Rows w e g o ds fp → ∀ i (h : i < ds.length), ∃ cs fpi, Own w e cs ds[i] fpi ∧ (∀ b ∈ fpi, b ∈ fp) ∧ ∀ j u, cs[j]? = some u → w.cell? ⟨g, o + i * e.sz + j, none⟩ = some u
  | _, _, _, _, _, .nil, i, h => by simp at h
  | e, g, o, _, _, .cons (cs := cs) (d := d) (fp := fp) (ds := ds) (fp' := fp') hc hd r, i, h => by
    cases i with
    | zero => exact ⟨cs, fp, hd, fun b hb => List.mem_append_left _ hb, fun j u hu => by have := hc j u hu; simpa using this⟩
    | succ i =>
      obtain ⟨cs2, fpi, h1, h2, h3⟩ := rows_at r i (by simpa using h)
      refine ⟨cs2, fpi, h1, fun b hb => List.mem_append_right _ (h2 b hb), fun j u hu => ?_⟩
      have := h3 j u hu
      rw [Nat.succ_mul, show o + (i * e.sz + e.sz) + j = o + e.sz + i * e.sz + j by omega]
      exact this
theorem camer_at {w : World} : ∀ {e : Kd} {g o : Nat} {ds : List Dt}, CameR w e g o ds → ∀ i (h : i < ds.length), ∃ cs, Came w e cs ds[i] ∧ ∀ j u, cs[j]? = some u → w.cell? ⟨g, o + i * e.sz + j, none⟩ = some u
  | _, _, _, _, .nil, i, h => by simp at h
  | e, g, o, _, .cons (cs := cs) (d := d) (ds := ds) hc hd r, i, h => by
    cases i with
    | zero => exact ⟨cs, hd, fun j u hu => by have := hc j u hu; simpa using this⟩
    | succ i =>
      obtain ⟨cs2, h1, h3⟩ := camer_at r i (by simpa using h)
      refine ⟨cs2, h1, fun j u hu => ?_⟩
      have := h3 j u hu
      rw [Nat.succ_mul, show o + (i * e.sz + e.sz) + j = o + e.sz + i * e.sz + j by omega]
      exact this
def Dt.num : Dt → Int
  | .int n => n
  | _ => 0
theorem slab_of_ints {w : World} {v : Value} {d : Dt} {fp : List Nat} (h : Own w (.sl .int) [v] d fp) {B : Nat} (hB : ∀ b ∈ fp, B ≤ b) :
    ∃ es : List Dt, d = .sl es ∧ es = (List.range es.length).map (fun i => .int ((es.getD i (.int 0)).num)) ∧ Slab w B v es.length 1 (fun i => [.int .i64 ((es.getD i (.int 0)).num)]) ∧ ∀ b, b ∈ fp ↔ rowOf es.length v = some b := by
  cases h with
  | nil a cap => exact ⟨[], rfl, rfl, ⟨a, cap, rfl, Nat.zero_le _, .inl rfl⟩, fun b => by simp [rowOf]⟩
  | @sl _ g n cap es fp hl hn hnc hg hf hr =>
    have key : ∀ i (h : i < es.length), es[i] = .int ((es.getD i (.int 0)).num) ∧ w.cell? ⟨g, i, none⟩ = some (.int .i64 ((es.getD i (.int 0)).num)) := by
      intro i hi
      obtain ⟨cs, fpi, h1, _, h3⟩ := rows_at hr i hi
      have hgd : es.getD i (.int 0) = es[i] := by simp [List.getD, List.getElem?_eq_getElem hi]
      rw [hgd]
      generalize es[i] = x at h1 ⊢
      cases h1 with
      | int m => exact ⟨rfl, by have := h3 0 _ rfl; simpa [Kd.sz, Dt.num] using this⟩
    have hfp : fp = [] := by
      have : ∀ {o : Nat} {ds : List Dt} {fp : List Nat}, Rows w .int g o ds fp → fp = [] := by
        intro o ds
        induction ds generalizing o with
        | nil => intro fp h; cases h; rfl
        | cons d ds ih =>
          intro fp h
          cases h with
          | cons hc hd r =>
            have h1 := ih r
            cases hd
            rw [h1]; rfl
      exact this hr
    subst hfp
    refine ⟨es, rfl, ?_, ⟨_, cap, by rw [hl], by omega, .inr ⟨g, rfl, hB g (List.mem_singleton.2 rfl), hg, hf, fun i hi j u hu => ?_⟩⟩, fun b => ?_⟩
    · apply List.ext_getElem
      · simp
      · intro i h1 h2
        simp only [List.getElem_map, List.getElem_range]
        exact (key i h1).1
    · have hj : j = 0 := by
        have := (List.getElem?_eq_some_iff.1 hu).1
        simp at this; omega
      subst hj
      simp only [List.getElem?_cons_zero, Option.some.injEq] at hu
      subst hu
      have := (key i hi).2
      simpa using this
    · have hne : ¬ es.length = 0 := by omega
      simp only [rowOf, if_neg hne, Value.ownBlock, List.mem_singleton, Option.some.injEq]
      exact ⟨fun h => h.symm, fun h => h.symm⟩
end Go.Proofs.Ytejnfdpckipbeaa.Own
