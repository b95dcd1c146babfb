/-
  The cursor behind writes to other blocks, and the drawn points (l02Point); condition: the bytes that came in can be read.
-/
import Derived.Test.YtohoelpfmbbdaaaDraw
import Derived.Test.YtohoelpfmbbdaaaKit
import Derived.Deep.AppendLies
namespace Go.Proofs.Ytohoelpfmbbdaaa.Draw
open Go.ChangeShapes Go.WideShapes Go.ChangeAt Go.RowKit
open Kit
set_option linter.unusedVariables false
set_option linter.unusedSimpArgs false
set_option linter.unnecessarySimpa false
attribute [local go_sem ↓] run_mx run_mn

/-- The cursor goes on behind a write to another block of the call's own. -/
theorem Drawn.grown {W w0 w w' : World} {a : Option Addr} {len cap : Nat} {z : List Int} {b : Nat} {row : Option Nat} (h : Drawn W a len cap z b w0 w) (hg : w.grownBy w' row) (hr : ∀ k, row = some k → w0.heap.size ≤ k ∧ W.heap.size ≤ k ∧ k ≠ b) : Drawn W a len cap z b w0 w' := by
  obtain ⟨d, g⟩ := h
  obtain ⟨i, q, hi, hl, c0, c1, c2, f1, f2⟩ := d.cur
  have hb : w'.heap[b]? = w.heap[b]? := hg.block b d.here (fun e => (hr b e.symm).2.2 rfl)
  refine ⟨⟨d.row, d.far, Nat.lt_of_lt_of_le d.here hg.size, ⟨i, q, hi, hl, ?_, ?_, ?_, ?_, ?_⟩, d.below.grown hg (Nat.le_trans d.far (Nat.le_of_lt d.here)) (fun k hk => (hr k hk).2.1)⟩, ?_⟩
  · rw [World.cell?_of_block (w := w) hb]; exact c0
  · rw [World.cell?_of_block (w := w) hb]; exact c1
  · rw [World.cell?_of_block (w := w) hb]; exact c2
  · rw [World.frozen?_of_block (w := w) hb]; exact f1
  · rw [World.frozen?_of_block (w := w) hb]; exact f2
  · refine ⟨hg.os.trans g.os, hg.tape.trans g.tape, hg.output.trans g.output, Nat.le_trans g.size hg.size, fun k hk hne => ?_⟩
    rw [hg.block k (Nat.lt_of_lt_of_le hk g.size) (fun e => by have := (hr k e.symm).1; omega)]
    exact g.block k hk hne

theorem Drawn.setNew {W w0 w : World} {a : Option Addr} {len cap : Nat} {z : List Int} {b : Nat} (h : Drawn W a len cap z b w0 w) {R : Nat} (h0 : w0.heap.size ≤ R) (hW : W.heap.size ≤ R) (hb : R ≠ b) (o : Nat) (v : Value) : Drawn W a len cap z b w0 (w.setCell ⟨R, o, none⟩ v) :=
  h.grown (grown_set (World.grownBy.refl w (some R)) o v) (fun k hk => by injection hk with hk; subst hk; exact ⟨h0, hW, hb⟩)

/-- What a draw leaves of a cell that is not the cursor's. -/
theorem Drawn.keeps {W w0 w : World} {a : Option Addr} {len cap : Nat} {z : List Int} {b : Nat} (h : Drawn W a len cap z b w0 w) {R o : Nat} {v : Value} (hc : w0.cell? ⟨R, o, none⟩ = some v) (hb : R ≠ b) : w.cell? ⟨R, o, none⟩ = some v :=
  h.2.cell hc (by intro e; exact hb (by simpa using e))

theorem Drawn.thaws {W w0 w : World} {a : Option Addr} {len cap : Nat} {z : List Int} {b : Nat} (h : Drawn W a len cap z b w0 w) {R o : Nat} (hl : R < w0.heap.size) (hf : w0.frozen? ⟨R, o, none⟩ = false) (hb : R ≠ b) : w.frozen? ⟨R, o, none⟩ = false := by
  rw [h.2.frozen_far ⟨R, o, none⟩ hl (by intro e; exact hb (by simpa using e))]; exact hf

theorem Two.drawn {W w0 w : World} {a : Option Addr} {len cap : Nat} {z : List Int} {b R : Nat} {x y : Int} (h : Two w0 R x y) (d : Drawn W a len cap z b w0 w) (hb : R ≠ b) : Two w R x y :=
  ⟨d.keeps h.c0 hb, d.keeps h.c1 hb, fun o => d.thaws h.lt (h.fr o) hb⟩

theorem IsRow.keep {k : IntKind} {w w' : World} {a : Option Addr} {len cap : Nat} {z : List Int} (h : IsRow k w a len cap z) (hb : Below w.heap.size w w') : IsRow k w' a len cap z := by
  rcases h with h | ⟨x, ha, hl, hm, hz, hc, hw⟩
  · exact .inl h
  · refine .inr ⟨x, ha, hl, hm, hz, fun i hi => ?_, hw⟩
    have h1 := hc i hi
    exact (hb.cell (p := x.add i) (World.block_lt_of_cell? w _ h1)).trans h1

def InPage (q : Int) : Prop := -4 ≤ q ∧ q ≤ 36

theorem four_cells (w : World) (T : TypeId) (r s : Int) (hr : InPage r) (hs : InPage s) : ∀ k, k < 4 → ∃ q : Int, InPage q ∧ (w.alloc (.cells #[.int .i64 0, .int .i64 32, .int .i64 r, .int .i64 s] T)).cell? ⟨w.heap.size, k, none⟩ = some (.int .i64 q) := by
  intro k hk
  have h : k = 0 ∨ k = 1 ∨ k = 2 ∨ k = 3 := by omega
  rcases h with rfl | rfl | rfl | rfl
  · exact ⟨0, by unfold InPage; omega, by simp [go_sem]⟩
  · exact ⟨32, by unfold InPage; omega, by simp [go_sem]⟩
  · exact ⟨r, hr, by simp [go_sem]⟩
  · exact ⟨s, hs, by simp [go_sem]⟩

theorem page33 {r : Int} (h : Within 33 r) : InPage r := by obtain ⟨h0, h1, _⟩ := h; have := h1 (by omega); unfold InPage; omega

theorem page41 {r : Int} (h : Within 41 r) : InPage (r - 4) ∧ 0 ≤ r ∧ r ≤ 40 := by obtain ⟨h0, h1, _⟩ := h; have := h1 (by omega); unfold InPage; omega

set_option maxHeartbeats 2000000 in
theorem point_on (W w0 w : World) (b : Nat) (a : Option Addr) (len cap : Nat) (z : List Int) (d : Drawn W a len cap z b w0 w) :
    Calls Try.prog 27 #[.pointer (some ⟨b, 0, none⟩)] w fun e w' => ∃ x y : Int, InPage x ∧ InPage y ∧ e = .returned (.agg #[.int .i64 x, .int .i64 y]) ∧ Drawn W a len cap z b w0 w' := by
  have hne := d.ne
  have D := (d.alloc (.cells #[.int .i64 0, .int .i64 0] 27)).1.same
  have hW := Nat.le_trans d.1.far (Nat.le_of_lt d.1.here)
  have hw0 := d.2.size
  have HD := Lib.hid d
  clear d
  go_enter Try.func27, Try.ntmps27
  go_wp2_with fail
  (refine (below_on W _ _ b a len cap z 33 D).mono ?_; rintro e w1 ⟨r1, hr1, rfl, d1⟩)
  go_wp2_with fail
  (refine (below_on W _ _ b a len cap z 41 d1).mono ?_; rintro e w2 ⟨r2, hr2, rfl, d2⟩)
  obtain ⟨k2, k20, k21⟩ := page41 hr2
  go_wp2_with fail
  (refine (pickP_on InPage W _ _ b a len cap z _ 4 _ (Drawn.ne d2) (by decide) (by decide) (four_cells _ _ _ _ (page33 hr1) k2) (d2.alloc _)).mono ?_; rintro e w3 ⟨x, hx, rfl, d3⟩)
  go_wp2_with fail
  (refine (below_on W _ _ b a len cap z 33 d3).mono ?_; rintro e w4 ⟨r4, hr4, rfl, d4⟩)
  go_wp2_with fail
  (refine (below_on W _ _ b a len cap z 41 d4).mono ?_; rintro e w5 ⟨r5, hr5, rfl, d5⟩)
  obtain ⟨k5, k50, k51⟩ := page41 hr5
  go_wp2_with fail
  (refine (pickP_on InPage W _ _ b a len cap z _ 4 _ (Drawn.ne d5) (by decide) (by decide) (four_cells _ _ _ _ (page33 hr4) k5) (d5.alloc _)).mono ?_; rintro e w6 ⟨y, hy, rfl, d6⟩)
  have T6 := Two.drawn (Two.new w 27 0 0) d6 hne
  obtain ⟨c0, c1, fr⟩ := T6
  have d7 := (HD.out.alloc (.cells #[.int .i64 0, .int .i64 0] 27)).trans d6
  go_wp2_with fail
  refine bodyPost_ret (by simp [results, Try.results27, go_sem, *]; try rfl) rfl ?_
  exact ⟨x, y, hx, hy, rfl, (d7.setNew hw0 hW hne _ _).setNew hw0 hW hne _ _⟩

end Go.Proofs.Ytohoelpfmbbdaaa.Draw
