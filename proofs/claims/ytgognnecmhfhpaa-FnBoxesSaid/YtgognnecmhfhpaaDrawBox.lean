/-
  The model's drawn points and boxes (l02Point, l02Box, DrawBoxes) and DrawPlaces: what each call returns and what it leaves of the world; condition: the bytes that came in can be read.
-/
import Derived.Test.YtgognnecmhfhpaaDraw
import Derived.Test.YtgognnecmhfhpaaPoint
import Derived.Deep.AppendLies
import Derived.Lib.Hide
namespace Go.Proofs.Ytgognnecmhfhpaa.Draw
open Go.ChangeShapes Go.WideShapes Go.ChangeAt Go.RowKit
open Point
set_option linter.unusedVariables false
set_option linter.unusedSimpArgs false
attribute [local go_sem ↓] run_mx run_mn

/-- The cursor goes on behind a write to another block of the call's own. -/
theorem Drawn.grown {W w0 w w' : World} {a : Option Addr} {len cap : Nat} {z : List Int} {b : Nat} {row : Option Nat} (h : Drawn W a len cap z b w0 w) (hg : w.grownBy w' row) (hr : ∀ k, row = some k → w0.heap.size ≤ k ∧ W.heap.size ≤ k ∧ k ≠ b) : Drawn W a len cap z b w0 w' := by
  obtain ⟨d, g⟩ := h
  obtain ⟨i, q, hi, hl, c0, c1, c2, f1, f2⟩ := d.cur
  have hb : w'.heap[b]? = w.heap[b]? := hg.block b d.here (fun e => (hr b e.symm).2.2 rfl)
  refine ⟨⟨d.row, d.far, Nat.lt_of_lt_of_le d.here hg.size, ⟨i, q, hi, hl, ?_, ?_, ?_, ?_, ?_⟩, d.below.grown hg (Nat.le_trans d.far (Nat.le_of_lt d.here)) (fun k hk => (hr k hk).2.1)⟩, ?_⟩
  · rw [World.cell?_of_block (w := w) hb]; exact c0
  · rw [World.cell?_of_block (w := w) hb]; exact c1
  · rw [World.cell?_of_block (w := w) hb]; exact c2
  · rw [World.frozen?_of_block (w := w) hb]; exact f1
  · rw [World.frozen?_of_block (w := w) hb]; exact f2
  · refine ⟨hg.os.trans g.os, hg.tape.trans g.tape, hg.output.trans g.output, Nat.le_trans g.size hg.size, fun k hk hne => ?_⟩
    rw [hg.block k (Nat.lt_of_lt_of_le hk g.size) (fun e => by have := (hr k e.symm).1; omega)]
    exact g.block k hk hne
theorem Drawn.setNew {W w0 w : World} {a : Option Addr} {len cap : Nat} {z : List Int} {b : Nat} (h : Drawn W a len cap z b w0 w) {R : Nat} (h0 : w0.heap.size ≤ R) (hW : W.heap.size ≤ R) (hb : R ≠ b) (o : Nat) (v : Value) : Drawn W a len cap z b w0 (w.setCell ⟨R, o, none⟩ v) :=
  h.grown (grown_set (World.grownBy.refl w (some R)) o v) (fun k hk => by injection hk with hk; subst hk; exact ⟨h0, hW, hb⟩)
/-- What a draw leaves of a cell that is not the cursor's. -/
theorem Drawn.keeps {W w0 w : World} {a : Option Addr} {len cap : Nat} {z : List Int} {b : Nat} (h : Drawn W a len cap z b w0 w) {R o : Nat} {v : Value} (hc : w0.cell? ⟨R, o, none⟩ = some v) (hb : R ≠ b) : w.cell? ⟨R, o, none⟩ = some v :=
  h.2.cell hc (by intro e; exact hb (by simpa using e))
theorem Drawn.thaws {W w0 w : World} {a : Option Addr} {len cap : Nat} {z : List Int} {b : Nat} (h : Drawn W a len cap z b w0 w) {R o : Nat} (hl : R < w0.heap.size) (hf : w0.frozen? ⟨R, o, none⟩ = false) (hb : R ≠ b) : w.frozen? ⟨R, o, none⟩ = false := by
  rw [h.2.frozen_far ⟨R, o, none⟩ hl (by intro e; exact hb (by simpa using e))]; exact hf

/-- Two ints in one block, which may be written. -/
structure Two (w : World) (b : Nat) (x y : Int) : Prop where
  c0 : w.cell? ⟨b, 0, none⟩ = some (.int .i64 x)
  c1 : w.cell? ⟨b, 1, none⟩ = some (.int .i64 y)
  fr : ∀ o, w.frozen? ⟨b, o, none⟩ = false
theorem Two.lt {w : World} {b : Nat} {x y : Int} (h : Two w b x y) : b < w.heap.size := World.block_lt_of_cell? w _ h.c0
theorem Two.drawn {W w0 w : World} {a : Option Addr} {len cap : Nat} {z : List Int} {b R : Nat} {x y : Int} (h : Two w0 R x y) (d : Drawn W a len cap z b w0 w) (hb : R ≠ b) : Two w R x y :=
  ⟨d.keeps h.c0 hb, d.keeps h.c1 hb, fun o => d.thaws h.lt (h.fr o) hb⟩
theorem Two.new (w : World) (T : TypeId) (x y : Int) : Two (w.alloc (.cells #[.int .i64 x, .int .i64 y] T)) w.heap.size x y := ⟨by simp [go_sem], by simp [go_sem], fun o => by simp [go_sem]⟩
theorem Two.alloc {w : World} {b : Nat} {x y : Int} (h : Two w b x y) (o : Obj) : Two (w.alloc o) b x y := by
  have hl := h.lt
  exact ⟨by rw [World.cell?_of_block (w := w) (Below.heap_alloc _ _ _ hl)]; exact h.c0, by rw [World.cell?_of_block (w := w) (Below.heap_alloc _ _ _ hl)]; exact h.c1, fun q => by rw [World.frozen?_of_block (w := w) (Below.heap_alloc _ _ _ hl)]; exact h.fr q⟩

def InPage (q : Int) : Prop := -4 ≤ q ∧ q ≤ 36
theorem four_cells (w : World) (T : TypeId) (r s : Int) (hr : InPage r) (hs : InPage s) : ∀ k, k < 4 → ∃ q : Int, InPage q ∧ (w.alloc (.cells #[.int .i64 0, .int .i64 32, .int .i64 r, .int .i64 s] T)).cell? ⟨w.heap.size, k, none⟩ = some (.int .i64 q) := by
  intro k hk
  have h : k = 0 ∨ k = 1 ∨ k = 2 ∨ k = 3 := by omega
  rcases h with rfl | rfl | rfl | rfl
  · exact ⟨0, by unfold InPage; omega, by simp [go_sem]⟩
  · exact ⟨32, by unfold InPage; omega, by simp [go_sem]⟩
  · exact ⟨r, hr, by simp [go_sem]⟩
  · exact ⟨s, hs, by simp [go_sem]⟩
theorem page33 {r : Int} (h : Within 33 r) : InPage r := by obtain ⟨h0, h1, _⟩ := h; have := h1 (by omega); unfold InPage; omega
theorem page41 {r : Int} (h : Within 41 r) : InPage (r - 4) ∧ 0 ≤ r ∧ r ≤ 40 := by obtain ⟨h0, h1, _⟩ := h; have := h1 (by omega); unfold InPage; omega

set_option maxHeartbeats 2000000 in
theorem point_on (W w0 w : World) (b : Nat) (a : Option Addr) (len cap : Nat) (z : List Int) (d : Drawn W a len cap z b w0 w) :
    Calls Try.prog 38 #[.pointer (some ⟨b, 0, none⟩)] w fun e w' => ∃ x y : Int, InPage x ∧ InPage y ∧ e = .returned (.agg #[.int .i64 x, .int .i64 y]) ∧ Drawn W a len cap z b w0 w' := by
  have hne := d.ne
  have D := (d.alloc (.cells #[.int .i64 0, .int .i64 0] 35)).1.same
  have hW := Nat.le_trans d.1.far (Nat.le_of_lt d.1.here)
  have hw0 := d.2.size
  have HD := Lib.hid d
  clear d
  go_enter Try.func38, Try.ntmps38
  go_wp2_with fail
  (refine (below_on W _ _ b a len cap z 33 D).mono ?_; rintro e w1 ⟨r1, hr1, rfl, d1⟩)
  go_wp2_with fail
  (refine (below_on W _ _ b a len cap z 41 d1).mono ?_; rintro e w2 ⟨r2, hr2, rfl, d2⟩)
  obtain ⟨k2, k20, k21⟩ := page41 hr2
  go_wp2_with fail
  (refine (pickP_on InPage W _ _ b a len cap z _ 4 _ (Drawn.ne d2) (by decide) (by decide) (four_cells _ _ _ _ (page33 hr1) k2) (d2.alloc _)).mono ?_; rintro e w3 ⟨x, hx, rfl, d3⟩)
  go_wp2_with fail
  (refine (below_on W _ _ b a len cap z 33 d3).mono ?_; rintro e w4 ⟨r4, hr4, rfl, d4⟩)
  go_wp2_with fail
  (refine (below_on W _ _ b a len cap z 41 d4).mono ?_; rintro e w5 ⟨r5, hr5, rfl, d5⟩)
  obtain ⟨k5, k50, k51⟩ := page41 hr5
  go_wp2_with fail
  (refine (pickP_on InPage W _ _ b a len cap z _ 4 _ (Drawn.ne d5) (by decide) (by decide) (four_cells _ _ _ _ (page33 hr4) k5) (d5.alloc _)).mono ?_; rintro e w6 ⟨y, hy, rfl, d6⟩)
  have T6 := Two.drawn (Two.new w 35 0 0) d6 hne
  obtain ⟨c0, c1, fr⟩ := T6
  have d7 := (HD.out.alloc (.cells #[.int .i64 0, .int .i64 0] 35)).trans d6
  go_wp2_with fail
  refine bodyPost_ret (by simp [results, Try.results38, go_sem, *]; try rfl) rfl ?_
  exact ⟨x, y, hx, hy, rfl, (d7.setNew hw0 hW hne _ _).setNew hw0 hW hne _ _⟩

theorem Four.newZero (w : World) (T : TypeId) : ∀ o, o < 4 → (w.alloc (.cells #[.int .i64 0, .int .i64 0, .int .i64 0, .int .i64 0] T)).cell? ⟨w.heap.size, o, none⟩ = some (.int .i64 0) := by
  intro o ho
  have h : o = 0 ∨ o = 1 ∨ o = 2 ∨ o = 3 := by omega
  rcases h with rfl | rfl | rfl | rfl <;> simp [go_sem]
def BoxIn (x0 y0 x1 y1 : Int) : Prop := -4 ≤ x0 ∧ x0 ≤ x1 ∧ x1 ≤ 36 ∧ -4 ≤ y0 ∧ y0 ≤ y1 ∧ y1 ≤ 36
theorem box_in {x y u v : Int} (hx : InPage x) (hy : InPage y) (hu : InPage u) (hv : InPage v) : BoxIn (mn x u) (mn y v) (mx x u) (mx y v) := by
  unfold BoxIn mn mx; unfold InPage at *; omega

set_option maxHeartbeats 2000000 in
theorem box_on (W w0 w : World) (b : Nat) (a : Option Addr) (len cap : Nat) (z : List Int) (d : Drawn W a len cap z b w0 w) :
    Calls Try.prog 33 #[.pointer (some ⟨b, 0, none⟩)] w fun e w' => ∃ x0 y0 x1 y1 : Int, BoxIn x0 y0 x1 y1 ∧ e = .returned (.agg #[.int .i64 x0, .int .i64 y0, .int .i64 x1, .int .i64 y1]) ∧ Drawn W a len cap z b w0 w' := by
  have hne := d.ne
  have D := (d.alloc (.cells #[.int .i64 0, .int .i64 0, .int .i64 0, .int .i64 0] 25)).1.same
  have hW := Nat.le_trans d.1.far (Nat.le_of_lt d.1.here)
  have hw0 := d.2.size
  have HD := Lib.hid d
  clear d
  go_enter Try.func33, Try.ntmps33
  go_wp2_with fail
  (refine (point_on W _ _ b a len cap z D).mono ?_; rintro e w1 ⟨x, y, hx, hy, rfl, d1⟩)
  have hne1 := d1.ne
  have D1 := (d1.alloc (.cells #[.int .i64 x, .int .i64 y] 35)).1.same
  go_wp2_with fail
  (refine (point_on W _ _ b a len cap z D1).mono ?_; rintro e w2 ⟨u, v, hu, hv, rfl, d2⟩)
  obtain ⟨p0, p1, pf⟩ := Two.drawn (Two.new w1 35 x y) d2 hne1
  have d3 := (d1.alloc (.cells #[.int .i64 x, .int .i64 y] 35)).trans d2
  have r0 := d3.keeps (Four.newZero w 25 0 (by omega)) hne
  have r1 := d3.keeps (Four.newZero w 25 1 (by omega)) hne
  have r2 := d3.keeps (Four.newZero w 25 2 (by omega)) hne
  have r3 := d3.keeps (Four.newZero w 25 3 (by omega)) hne
  have rf : ∀ o, w2.frozen? ⟨w.heap.size, o, none⟩ = false := fun o => d3.thaws (by simp) (by simp [go_sem]) hne
  have hs1 : w.heap.size < w1.heap.size := by have := d1.2.size; simp at this; omega
  have hs2 : w1.heap.size < w2.heap.size := by have := d2.2.size; simp at this; omega
  have hs3 : w.heap.size < w2.heap.size := by omega
  have d4 := (HD.out.alloc (.cells #[.int .i64 0, .int .i64 0, .int .i64 0, .int .i64 0] 25)).trans d3
  clear d1 d2 d3 D D1
  go_wp2_with fail
  refine bodyPost_ret (by simp [results, Try.results33, go_sem, *]; try rfl) rfl ?_
  exact ⟨_, _, _, _, box_in hx hy hu hv, rfl, ((((d4.setNew hw0 hW hne _ _).setNew hw0 hW hne _ _).setNew hw0 hW hne _ _).setNew hw0 hW hne _ _).alloc _⟩

theorem IsRow.keep {k : IntKind} {w w' : World} {a : Option Addr} {len cap : Nat} {z : List Int} (h : IsRow k w a len cap z) (hb : Below w.heap.size w w') : IsRow k w' a len cap z := by
  rcases h with h | ⟨x, ha, hl, hm, hz, hc, hw⟩
  · exact .inl h
  · refine .inr ⟨x, ha, hl, hm, hz, fun i hi => ?_, hw⟩
    have h1 := hc i hi
    exact (hb.cell (p := x.add i) (World.block_lt_of_cell? w _ h1)).trans h1

/-- The world in which DrawBoxes draws: two blocks for its results lie ready. -/
def ready (w : World) : World := (w.alloc (.cells #[.int .i64 0, .int .i64 0, .int .i64 0, .int .i64 0] 25)).alloc (.cells #[.int .i64 0, .int .i64 0, .int .i64 0, .int .i64 0] 25)

set_option maxHeartbeats 2000000 in
theorem boxes_any (w : World) (a : Option Addr) (len cap : Nat) (z : List Int) (hr : IsRow .u8 w a len cap z) :
    Calls Try.prog 11 #[.slice a len cap] w fun e w' => ∃ x0 y0 x1 y1 u0 v0 u1 v1 : Int, BoxIn x0 y0 x1 y1 ∧ BoxIn u0 v0 u1 v1 ∧ e = .returned (.tuple #[.agg #[.int .i64 x0, .int .i64 y0, .int .i64 x1, .int .i64 y1], .agg #[.int .i64 u0, .int .i64 v0, .int .i64 u1, .int .i64 v1]]) ∧ Below w.heap.size w w' := by
  have hb0 : Below w.heap.size w ((w.alloc (.cells #[.int .i64 0, .int .i64 0, .int .i64 0, .int .i64 0] 25)).alloc (.cells #[.int .i64 0, .int .i64 0, .int .i64 0, .int .i64 0] 25)) := by go_grown
  have HR := Lib.hid (IsRow.keep hr hb0)
  clear hr
  go_enter Try.func11, Try.ntmps11
  go_wp2_with fail
  (refine (new_any _ _ _ _ z HR.out).mono ?_; rintro e w1 ⟨rfl, dr⟩; simp only [World.size_alloc] at dr)
  have d0 := dr.same
  go_wp2_with fail
  ((with_reducible refine (box_on _ _ _ _ a len cap z d0).mono ?_); rintro e w2 ⟨x0, y0, x1, y1, hx, rfl, d1⟩)
  go_wp2_with fail
  ((with_reducible refine (box_on _ _ _ _ a len cap z d1).mono ?_); rintro e w3 ⟨u0, v0, u1, v1, hu, rfl, d2⟩)
  obtain ⟨hc, hf⟩ := bcell d2.1.below
  have hs : w.heap.size + 1 < w3.heap.size := by have := d2.1.below.size; simp at this; omega
  have hs0 : w.heap.size < w3.heap.size := by omega
  have hbb := on_of hb0 d2.1.below
  have r0 := hc w.heap.size 0 (by simp; omega)
  have r1 := hc w.heap.size 1 (by simp; omega)
  have r2 := hc w.heap.size 2 (by simp; omega)
  have r3 := hc w.heap.size 3 (by simp; omega)
  have q0 := hc (w.heap.size + 1) 0 (by simp)
  have q1 := hc (w.heap.size + 1) 1 (by simp)
  have q2 := hc (w.heap.size + 1) 2 (by simp)
  have q3 := hc (w.heap.size + 1) 3 (by simp)
  have rf := fun o => hf w.heap.size o (by simp; omega)
  have qf := fun o => hf (w.heap.size + 1) o (by simp)
  clear hc hf d0 d1 d2 dr
  simp [go_sem] at r0 r1 r2 r3 q0 q1 q2 q3 rf qf
  go_wp2_with fail
  refine bodyPost_ret (by simp [results, Try.results11, go_sem, *]; try rfl) rfl ?_
  refine ⟨x0, y0, x1, y1, u0, v0, u1, v1, hx, hu, ?_, ?_⟩
  · rfl
  · go_grown

theorem info3 : (Try.prog.info? 3).map (fun i => (i.zero, i.size, i.bytes)) = some (some (.int .i64 0), 1, 8) := by kernel_rfl
set_option maxHeartbeats 1000000 in
theorem places_any (w : World) (a : Option Addr) (len cap : Nat) (z : List Int) (hr : IsRow .u8 w a len cap z) :
    Calls Try.prog 12 #[.slice a len cap] w fun e w' => ∃ (g c : Nat) (q : Int), 0 ≤ q ∧ q < 10000 ∧ w'.cell? ⟨g, 0, none⟩ = some (.int .i64 q) ∧ e = .returned (.slice (some ⟨g, 0, none⟩) 12 c) ∧ w.heap.size ≤ g ∧ Below w.heap.size w w' := by
  obtain ⟨i0, hi0, hz0, hz1, hz2⟩ := info_parts info3
  have HR := Lib.hid hr
  clear hr
  go_enter Try.func12, Try.ntmps12
  go_wp2_with fail
  (refine (new_any w _ _ _ z HR.out).mono ?_; rintro e w1 ⟨rfl, dr⟩)
  have hd0 := dr.same
  have hs1 := dr.below.size
  have hs2 := dr.here
  go_wp2_with fail
  go_loopw [4, 5] (fun v i wr => ∃ (k : Nat) (xs : List Int), k ≤ 12 ∧ i = .int .i64 k ∧ (∀ x ∈ xs, 0 ≤ x ∧ x < 10000) ∧ wr.ownsRow w1.heap.size 3 1 v k (xs.map (Value.int .i64)) ∧ w1.heap.size ≤ wr.heap.size ∧ Drawn w a len cap z w.heap.size w1 wr) (fun _ i _ => 12 - (intOf i).toNat)
  case atStart => exact ⟨0, [], by omega, rfl, by simp, World.ownsRow_made w1 #[] 0 (Nat.le_refl _) (by decide) (by simp), by simp, hd0.alloc _⟩
  case round =>
    obtain ⟨k, xs, hk, rfl, hxs, hown, hws, hd⟩ := hrel
    have HX := Lib.hid hxs
    clear hxs
    by_cases hlt : k < 12
    · have hlt' : (k : Int) < 12 := by omega
      go_wp2_with (first
        | (go_at_call 34; refine (below_on w wr _ _ a len cap z 10000 hd.1.same).mono ?_; rintro e w2 ⟨x, hx, rfl, d1⟩; have hown1 := hown.kept d1.2 (.inr fun e => by have := (hown.lt _ e).1; omega); have hd1 := hd.trans d1; have hsz1 := d1.2.size; have hsz := hd.2.size)
        | (at_builtin; refine wpList_append_own _ rfl _ _ 28 rfl w1.heap.size 3 i0 (.int .i64 0) 1 8 Try.underlying28 hi0 hz0 hz1 hz2 rfl (by decide) _ _ _ rfl (hown1.alloc _) ⟨w2.heap.size, 0, none⟩ 1 1 [.int .i64 x] rfl rfl ?c1 ?c2 ?c3 ?c4 ?c5 ?_))
      case c1 => exact World.news_of_block (cs := #[.int .i64 x]) (t := 3) (fr := (0, 0)) (heap_alloc_new w2 _)
      case c2 => simp [Value.oneCell']
      case c3 => unfold maxLen; omega
      case c4 => omega
      case c5 => simp; omega
      intro v2 w3 hown2 hgrow _
      have hd2 := (hd1.alloc (.cells #[.int .i64 x] 3)).grown hgrow (fun q hq => by have := (hown1.lt q hq).1; omega)
      have hws2 : w1.heap.size ≤ w3.heap.size := by have := hgrow.size; simp at this; omega
      have hrel2 : w3.ownsRow w1.heap.size 3 1 v2 (k + 1) ((xs ++ [x]).map (Value.int .i64)) := by rw [List.map_append]; exact hown2
      have hx2 : ∀ y ∈ xs ++ [x], 0 ≤ y ∧ y < 10000 := by
        intro y hy
        rcases List.mem_append.1 hy with h | h
        · exact HX.out y h
        · rw [List.mem_singleton.1 h]; exact ⟨hx.1, hx.2.1 (by omega)⟩
      have HX2 := Lib.hid hx2
      clear hown hown1 hown2 hd hd1 hgrow d1 hx2 hx
      go_wp2
      go_roundw
      case rel => exact ⟨k + 1, xs ++ [x], by omega, by go_num, HX2.out, hrel2, hws2, hd2⟩
      case measure => simp [intOf]; omega
    · obtain rfl : k = 12 := by omega
      rcases hown.2 with ⟨_, h⟩ | ⟨g, c, cur, hv, hg, _⟩
      · omega
      subst hv
      have hlen : 0 < xs.length := by have := hown.1; simp at this; omega
      have hc := World.ownsRow.cells hown (g := g) rfl 0 (.int .i64 (xs[0]'hlen)) (by simp [hlen])
      have hc0 : wr.cell? ⟨g, 0, none⟩ = some (.int .i64 (xs[0]'hlen)) := by simpa [Addr.add] using hc
      have hq := HX.out _ (List.getElem_mem (l := xs) (n := 0) hlen)
      have H := Lib.hid (And.intro hc0 hq)
      have hb := hd.1.below
      clear hc hc0 hq hown
      go_wp2
      go_ret
      exact ⟨g, c, _, H.out.2.1, H.out.2.2, H.out.1, rfl, by omega, hb⟩
end Go.Proofs.Ytgognnecmhfhpaa.Draw
