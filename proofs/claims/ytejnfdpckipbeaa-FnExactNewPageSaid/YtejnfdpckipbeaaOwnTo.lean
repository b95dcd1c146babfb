/-
  The laws' copies (toIntS, toPointS, toTurn, toBox) over arguments of any shape: what each call returns is owned and reads as the argument does.
-/
import Derived.Test.YtejnfdpckipbeaaOwnFlat
import Derived.Test.YtejnfdpckipbeaaInts
import Derived.Test.YtejnfdpckipbeaaPoints
namespace Go.Proofs.Ytejnfdpckipbeaa.Own
open Go.ChangeShapes Go.WideShapes Go.ChangeAt Go.RowKit
open Kit Slabs Ints
open Draw (IsRow)
set_option linter.unusedVariables false
set_option linter.unusedSimpArgs false
set_option linter.unnecessarySimpa false
set_option maxRecDepth 100000

/-- What a copy leaves: a value that reads as d, whose blocks are new and differ. -/
def Copied (w : World) (k : Kd) (v : Value) (d : Dt) (w' : World) : Prop := ∃ fp, Own w' k v.cells.toList d fp ∧ fp.Nodup ∧ (∀ b ∈ fp, w.heap.size ≤ b) ∧ Below w.heap.size w w'

/-- A slice of ints that came in. -/
theorem ints_of {w : World} {a : Option Addr} {n cap : Nat} {d : Dt} (h : Came w (.sl .int) [.slice a n cap] d) : ∃ es : List Dt, d = .sl es ∧ es.length = n ∧ es = (List.range n).map (fun i => Dt.int ((es.map Dt.num).getD i 0)) ∧
    (n ≠ 0 → ∃ g o, a = some ⟨g, o, none⟩ ∧ g < w.heap.size ∧ ∀ i, i < n → w.cell? ⟨g, o + i, none⟩ = some (.int .i64 ((es.map Dt.num).getD i 0))) := by
  cases h with
  | nil a cap hm => exact ⟨[], rfl, rfl, rfl, fun h => absurd rfl h⟩
  | @sl _ g o n cap es hl hn hnc hm hg hr =>
    have key : ∀ i (h : i < es.length), es[i] = .int ((es.map Dt.num).getD i 0) ∧ w.cell? ⟨g, o + i, none⟩ = some (.int .i64 ((es.map Dt.num).getD i 0)) := by
      intro i hi
      obtain ⟨cs, h1, h3⟩ := camer_at hr i hi
      have hgd : (es.map Dt.num).getD i 0 = (es[i]).num := by simp [List.getD, List.getElem?_eq_getElem hi]
      rw [hgd]
      generalize es[i] = x at h1 ⊢
      cases h1 with
      | int m hw => exact ⟨rfl, by have := h3 0 _ rfl; simpa [Kd.sz, Dt.num] using this⟩
    refine ⟨es, rfl, hl, ?_, fun _ => ⟨g, o, rfl, hg, fun i hi => (key i (by omega)).2⟩⟩
    apply List.ext_getElem
    · simp [hl]
    · intro i h1 h2
      simp only [List.getElem_map, List.getElem_range]
      exact (key i h1).1


abbrev KPt : Kd := .st [.int, .int]
abbrev K4 : Kd := .st [.int, .int, .int, .int]
abbrev KGr : Kd := .st [.sl .int, K4, .sl KPt, .int, K4]

theorem pt_is {w : World} {cs : List Value} {d : Dt} (h : Came w KPt cs d) : ∃ x y : Int, cs = [.int .i64 x, .int .i64 y] ∧ d = .st [.int x, .int y] ∧ (Lit.int .i64 x).wf = true ∧ (Lit.int .i64 y).wf = true := by
  cases h with
  | st h =>
    cases h with
    | cons h1 h =>
      cases h1 with
      | int x hx =>
        cases h with
        | cons h2 h =>
          cases h2 with
          | int y hy => cases h; exact ⟨x, y, rfl, rfl, hx, hy⟩

/-- The cells of a point's datum. -/
def ptV (d : Dt) (j : Nat) : Value := match d with
  | .st [.int x, .int y] => if j = 0 then .int .i64 x else .int .i64 y
  | _ => undef

theorem own_pt (w : World) (x y : Int) : Own w KPt [.int .i64 x, .int .i64 y] (.st [.int x, .int y]) [] :=
  .st (.cons (cs := [.int .i64 x]) (fp := []) (.int x) (.cons (cs := [.int .i64 y]) (fp := []) (.int y) .nil))

theorem points_of {w : World} {a : Option Addr} {n cap : Nat} {d : Dt} (h : Came w (.sl KPt) [.slice a n cap] d) : ∃ es : List Dt, d = .sl es ∧ es.length = n ∧ (∀ i, i < n → ∃ x y : Int, es.getD i (.int 0) = .st [.int x, .int y]) ∧ Recs.IsRecs [.int .i64, .int .i64] w a n cap (fun i j => ptV (es.getD i (.int 0)) j) := by
  cases h with
  | nil a cap hm => exact ⟨[], rfl, rfl, fun i hi => by omega, Nat.zero_le _, hm, .inl rfl⟩
  | @sl _ g o n cap es hl hn hnc hm hg hr =>
    have key : ∀ i (h : i < es.length), ∃ x y : Int, es.getD i (.int 0) = .st [.int x, .int y] ∧ w.cell? ⟨g, o + (i * 2 + 0), none⟩ = some (.int .i64 x) ∧ w.cell? ⟨g, o + (i * 2 + 1), none⟩ = some (.int .i64 y) ∧ (Lit.int .i64 x).wf = true ∧ (Lit.int .i64 y).wf = true := by
      intro i hi
      obtain ⟨cs, h1, h3⟩ := camer_at hr i hi
      have hgd : es.getD i (.int 0) = es[i] := by simp [List.getD, List.getElem?_eq_getElem hi]
      rw [hgd]
      obtain ⟨x, y, rfl, hd, hx, hy⟩ := pt_is h1
      refine ⟨x, y, hd, ?_, ?_, hx, hy⟩
      · have := h3 0 _ rfl; rw [← Nat.add_assoc]; exact this
      · have := h3 1 _ rfl; rw [← Nat.add_assoc]; exact this
    refine ⟨es, rfl, hl, fun i hi => ?_, hnc, hm, .inr ⟨g, o, rfl, hg, fun i hi j kd hk => ?_⟩⟩
    · obtain ⟨x, y, h, _⟩ := key i (by omega); exact ⟨x, y, h⟩
    · obtain ⟨x, y, h, c0, c1, hx, hy⟩ := key i (by omega)
      have hj : j = 0 ∨ j = 1 := by
        have := (List.getElem?_eq_some_iff.1 hk).1
        simp at this; omega
      rcases hj with rfl | rfl
      · simp only [List.getElem?_cons_zero, Option.some.injEq] at hk
        subst hk
        simp only [h, ptV]
        exact ⟨c0, x, rfl, hx⟩
      · simp only [List.getElem?_cons_succ, List.getElem?_cons_zero, Option.some.injEq] at hk
        subst hk
        simp only [h, ptV]
        exact ⟨c1, y, rfl, hy⟩

theorem toP_came (w : World) (a : Option Addr) (n cap : Nat) (d : Dt) (hn : n ≤ 1048576) (h : Came w (.sl KPt) [.slice a n cap] d) :
    Calls Try.prog 78 #[.slice a n cap] w fun e w' => ∃ (a' : Option Addr) (c' : Nat) (fp : List Nat), e = .returned (.slice a' n c') ∧ Own w' (.sl KPt) [.slice a' n c'] d fp ∧ fp.Nodup ∧ (∀ b ∈ fp, w.heap.size ≤ b) ∧ Below w.heap.size w w' := by
  obtain ⟨es, rfl, hl, hs, hr⟩ := points_of h
  refine (Points.toS_any a n cap _ w hn hr).mono fun e w' ⟨v, hv, hsl, hb⟩ => ?_
  have ho := own_of_slab (e := KPt) (D := fun i => es.getD i (.int 0)) hsl rfl (fun i hi => by
    obtain ⟨x, y, h⟩ := hs i hi
    simp only [h, ptV]
    exact own_pt _ x y)
  have he : (List.range n).map (fun i => es.getD i (.int 0)) = es := by
    apply List.ext_getElem
    · simp [hl]
    · intro i h1 h2
      simp [List.getD, List.getElem?_eq_getElem h2]
  rw [he] at ho
  have hrow := hsl.row
  obtain ⟨a', c', rfl, _⟩ := hsl
  exact ⟨a', c', _, hv, ho, nodup_row _, fun b hbm => (hrow b (by simpa using hbm)).1, hb⟩

end Go.Proofs.Ytejnfdpckipbeaa.Own
