/-
  Texts of this seat, laid together: Lw8, DrawPlus, DrawPt, Ds8, EqA
-/
import Derived.Deep.AppendLies
import Derived.WalkKit
import Derived.Deep.DeepCutAuto
import Derived.Deep.QuietTactic
import Derived.BigQuiet
import Derived.Deep.RegionHeld3
import Derived.Handy
import Derived.Test.YtkabofbbioaapaaGreatV14
import Derived.Test.YtkabofbbioaapaaGreatV13
import Derived.Test.YtkabofbbioaapaaGreatV22
import Derived.Test.YtkabofbbioaapaaGreatV28
import Derived.Test.YtkabofbbioaapaaGreatV01
import Derived.Test.YtkabofbbioaapaaGreatV15
namespace Go.Proofs.YtkabofbbioaapaaGreat.Ins
open Go.ChangeShapes Go.WideShapes Go.ChangeAt Go.RowKit
open Kit Point Slabs Recs
set_option linter.unusedVariables false
set_option linter.unusedSimpArgs false
set_option linter.unnecessarySimpa false
def plst (z : Nat → Nat → Value) (n : Nat) : List Pt := (List.range n).map fun i => (intOf (z i 0), intOf (z i 1))
theorem plst_len (z : Nat → Nat → Value) (n : Nat) : (plst z n).length = n := by simp [plst]
theorem plst_get (z : Nat → Nat → Value) {n i : Nat} (h : i < n) : (plst z n).getD i (0, 0) = (intOf (z i 0), intOf (z i 1)) := by
  simp [plst, List.getD, h]
theorem pX_plst (z : Nat → Nat → Value) {n i : Nat} (h : i < n) : pX (plst z n) i = intOf (z i 0) := by rw [pX, plst_get z h]
theorem pY_plst (z : Nat → Nat → Value) {n i : Nat} (h : i < n) : pY (plst z n) i = intOf (z i 1) := by rw [pY, plst_get z h]
theorem slab_path {w : World} {B n : Nat} {v : Value} {z : Nat → Nat → Value} (h : Slab w B v n 2 (fun i => [z i 0, z i 1])) (hs : Points.Shape (fun i => [z i 0, z i 1]) n) :
    ∃ a c, v = .slice a (plst z n).length c ∧ PathAt w a (plst z n) := by
  rw [plst_len]
  rcases h.writes with ⟨h0, a, c, hv⟩ | ⟨g, c, hv, _, W1⟩
  · subst h0; exact ⟨a, c, hv, .inl (by simp [plst])⟩
  · refine ⟨_, c, hv, .inr ⟨g, rfl, W1.here, fun i hi => ?_⟩⟩
    rw [plst_len] at hi
    obtain ⟨x0, x1, e⟩ := hs i hi
    have q := Points.cells_of W1.cell hi e
    have e' : [z i 0, z i 1] = [Value.int .i64 x0, .int .i64 x1] := e
    injection e' with e0 e1
    injection e1 with e1
    rw [pX_plst z hi, pY_plst z hi, e0, e1]
    exact q
theorem recs_keep8 {w W' : World} {a : Option Addr} {n c : Nat} {z : Nat → Nat → Value} (h : IsRecs Points.kl w a n c z) (hb : Below w.heap.size w W') : IsRecs Points.kl W' a n c z := by
  obtain ⟨h1, h2, h3⟩ := h
  refine ⟨h1, h2, ?_⟩
  rcases h3 with h3 | ⟨g, o, ha, hg, h4⟩
  · exact .inl h3
  · exact .inr ⟨g, o, ha, Nat.lt_of_lt_of_le hg hb.size, fun i hi j kd hk => ⟨(hb.cell (p := ⟨g, _, none⟩) hg).trans (h4 i hi j kd hk).1, (h4 i hi j kd hk).2⟩⟩
def pcF (l : List Pt) (i : Nat) : List Value := [.int .i64 (pX l i), .int .i64 (pY l i)]
theorem pcF_len (l : List Pt) (i : Nat) : (pcF l i).length = 2 := rfl
theorem pcF_shape (l : List Pt) (n : Nat) : Points.Shape (pcF l) n := fun i _ => ⟨_, _, rfl⟩
theorem pcF_cons (p : Pt) (l : List Pt) (i : Nat) : pcF (p :: l) (i + 1) = pcF l i := by simp [pcF, pX, pY]
theorem flat_pc : ∀ l : List Pt, flat (pcF l) l.length = cellsP l
  | [] => rfl
  | p :: l => by
    have e : flat (pcF (p :: l)) (l.length + 1) = pcF (p :: l) 0 ++ flat (fun i => pcF (p :: l) (i + 1)) l.length := by
      simp only [flat, List.range_succ_eq_map, List.flatMap_cons, List.flatMap_map]
    rw [List.length_cons, e, show (fun i => pcF (p :: l) (i + 1)) = pcF l from funext fun i => pcF_cons p l i, flat_pc l]
    simp [pcF, pX, pY, cellsP]
theorem slab_owns {w : World} {B : Nat} {v : Value} {m : List Pt} (h : w.ownsRow B 123 2 v m.length (cellsP m)) : Slab w B v m.length 2 (pcF m) :=
  Slab.of_owns (by rw [flat_pc]; exact h) (pcF_len m)
variable {w : World} {B n : Nat} {v : Value} {z : Nat → Nat → Value}
end Go.Proofs.YtkabofbbioaapaaGreat.Ins
namespace Go.Proofs.YtkabofbbioaapaaGreat.Draw
open Go.ChangeShapes Go.WideShapes Go.ChangeAt Go.RowKit
open Kit
set_option linter.unusedVariables false
set_option linter.unusedSimpArgs false
set_option linter.unnecessarySimpa false
attribute [local go_sem ↓] run_mx run_mn
theorem Drawn.grown {W w0 w w' : World} {a : Option Addr} {len cap : Nat} {z : List Int} {b : Nat} {row : Option Nat} (h : Drawn W a len cap z b w0 w) (hg : w.grownBy w' row) (hr : ∀ k, row = some k → w0.heap.size ≤ k ∧ W.heap.size ≤ k ∧ k ≠ b) : Drawn W a len cap z b w0 w' := by
  obtain ⟨d, g⟩ := h
  obtain ⟨i, q, hi, hl, c0, c1, c2, f1, f2⟩ := d.cur
  have hb : w'.heap[b]? = w.heap[b]? := hg.block b d.here (fun e => (hr b e.symm).2.2 rfl)
  refine ⟨⟨d.row, d.far, Nat.lt_of_lt_of_le d.here hg.size, ⟨i, q, hi, hl, ?_, ?_, ?_, ?_, ?_⟩, d.below.grown hg (Nat.le_trans d.far (Nat.le_of_lt d.here)) (fun k hk => (hr k hk).2.1)⟩, ?_⟩
  · rw [World.cell?_of_block (w := w) hb]; exact c0
  · rw [World.cell?_of_block (w := w) hb]; exact c1
  · rw [World.cell?_of_block (w := w) hb]; exact c2
  · rw [World.frozen?_of_block (w := w) hb]; exact f1
  · rw [World.frozen?_of_block (w := w) hb]; exact f2
  · refine ⟨hg.os.trans g.os, hg.tape.trans g.tape, hg.output.trans g.output, Nat.le_trans g.size hg.size, fun k hk hne => ?_⟩
    rw [hg.block k (Nat.lt_of_lt_of_le hk g.size) (fun e => by have := (hr k e.symm).1; omega)]
    exact g.block k hk hne
theorem Drawn.setNew {W w0 w : World} {a : Option Addr} {len cap : Nat} {z : List Int} {b : Nat} (h : Drawn W a len cap z b w0 w) {R : Nat} (h0 : w0.heap.size ≤ R) (hW : W.heap.size ≤ R) (hb : R ≠ b) (o : Nat) (v : Value) : Drawn W a len cap z b w0 (w.setCell ⟨R, o, none⟩ v) :=
  h.grown (grown_set (World.grownBy.refl w (some R)) o v) (fun k hk => by injection hk with hk; subst hk; exact ⟨h0, hW, hb⟩)
theorem Drawn.keeps {W w0 w : World} {a : Option Addr} {len cap : Nat} {z : List Int} {b : Nat} (h : Drawn W a len cap z b w0 w) {R o : Nat} {v : Value} (hc : w0.cell? ⟨R, o, none⟩ = some v) (hb : R ≠ b) : w.cell? ⟨R, o, none⟩ = some v :=
  h.2.cell hc (by intro e; exact hb (by simpa using e))
theorem Drawn.thaws {W w0 w : World} {a : Option Addr} {len cap : Nat} {z : List Int} {b : Nat} (h : Drawn W a len cap z b w0 w) {R o : Nat} (hl : R < w0.heap.size) (hf : w0.frozen? ⟨R, o, none⟩ = false) (hb : R ≠ b) : w.frozen? ⟨R, o, none⟩ = false := by
  rw [h.2.frozen_far ⟨R, o, none⟩ hl (by intro e; exact hb (by simpa using e))]; exact hf
theorem Two.drawn {W w0 w : World} {a : Option Addr} {len cap : Nat} {z : List Int} {b R : Nat} {x y : Int} (h : Two w0 R x y) (d : Drawn W a len cap z b w0 w) (hb : R ≠ b) : Two w R x y :=
  ⟨d.keeps h.c0 hb, d.keeps h.c1 hb, fun o => d.thaws h.lt (h.fr o) hb⟩
theorem IsRow.keep {k : IntKind} {w w' : World} {a : Option Addr} {len cap : Nat} {z : List Int} (h : IsRow k w a len cap z) (hb : Below w.heap.size w w') : IsRow k w' a len cap z := by
  rcases h with h | ⟨x, ha, hl, hm, hz, hc, hw⟩
  · exact .inl h
  · refine .inr ⟨x, ha, hl, hm, hz, fun i hi => ?_, hw⟩
    have h1 := hc i hi
    exact (hb.cell (p := x.add i) (World.block_lt_of_cell? w _ h1)).trans h1
theorem Four.drawn {W w0 w : World} {a : Option Addr} {len cap : Nat} {z : List Int} {b R : Nat} {x y u v : Int} (h : Four w0 R x y u v) (d : Drawn W a len cap z b w0 w) (hb : R ≠ b) : Four w R x y u v :=
  ⟨d.keeps h.c0 hb, d.keeps h.c1 hb, d.keeps h.c2 hb, d.keeps h.c3 hb, fun o => d.thaws h.lt (h.fr o) hb⟩
end Go.Proofs.YtkabofbbioaapaaGreat.Draw
namespace Go.Proofs.YtkabofbbioaapaaGreat.Draw
open Go.ChangeShapes Go.WideShapes Go.ChangeAt Go.RowKit
open Kit
set_option linter.unusedVariables false
set_option linter.unusedSimpArgs false
set_option linter.unnecessarySimpa false
attribute [local go_sem ↓] run_mx run_mn
def InPage (q : Int) : Prop := -4 ≤ q ∧ q ≤ 36
theorem four_cells (w : World) (T : TypeId) (r s : Int) (hr : InPage r) (hs : InPage s) : ∀ k, k < 4 → ∃ q : Int, InPage q ∧ (w.alloc (.cells #[.int .i64 0, .int .i64 32, .int .i64 r, .int .i64 s] T)).cell? ⟨w.heap.size, k, none⟩ = some (.int .i64 q) := by
  intro k hk
  have h : k = 0 ∨ k = 1 ∨ k = 2 ∨ k = 3 := by omega
  rcases h with rfl | rfl | rfl | rfl
  · exact ⟨0, by unfold InPage; omega, by simp [go_sem]⟩
  · exact ⟨32, by unfold InPage; omega, by simp [go_sem]⟩
  · exact ⟨r, hr, by simp [go_sem]⟩
  · exact ⟨s, hs, by simp [go_sem]⟩
theorem page33 {r : Int} (h : Within 33 r) : InPage r := by obtain ⟨h0, h1, _⟩ := h; have := h1 (by omega); unfold InPage; omega
theorem page41 {r : Int} (h : Within 41 r) : InPage (r - 4) ∧ 0 ≤ r ∧ r ≤ 40 := by obtain ⟨h0, h1, _⟩ := h; have := h1 (by omega); unfold InPage; omega
set_option maxHeartbeats 2000000 in
theorem point_on (W w0 w : World) (b : Nat) (a : Option Addr) (len cap : Nat) (z : List Int) (d : Drawn W a len cap z b w0 w) :
    Calls Tryz.prog 122 #[.pointer (some ⟨b, 0, none⟩)] w fun e w' => ∃ x y : Int, InPage x ∧ InPage y ∧ e = .returned (.agg #[.int .i64 x, .int .i64 y]) ∧ Drawn W a len cap z b w0 w' := by
  have hne := d.ne
  have D := (d.alloc (.cells #[.int .i64 0, .int .i64 0] 123)).1.same
  have hW := Nat.le_trans d.1.far (Nat.le_of_lt d.1.here)
  have hw0 := d.2.size
  have HD := Lib.hid d
  clear d
  go_enter Tryz.func122, Tryz.ntmps122
  go_wp2_with fail
  (refine (below_on W _ _ b a len cap z 33 D).mono ?_; rintro e w1 ⟨r1, hr1, rfl, d1⟩)
  go_wp2_with fail
  (refine (below_on W _ _ b a len cap z 41 d1).mono ?_; rintro e w2 ⟨r2, hr2, rfl, d2⟩)
  obtain ⟨k2, k20, k21⟩ := page41 hr2
  go_wp2_with fail
  (refine (pickP_on InPage W _ _ b a len cap z _ 4 _ (Drawn.ne d2) (by decide) (by decide) (four_cells _ _ _ _ (page33 hr1) k2) (d2.alloc _)).mono ?_; rintro e w3 ⟨x, hx, rfl, d3⟩)
  go_wp2_with fail
  (refine (below_on W _ _ b a len cap z 33 d3).mono ?_; rintro e w4 ⟨r4, hr4, rfl, d4⟩)
  go_wp2_with fail
  (refine (below_on W _ _ b a len cap z 41 d4).mono ?_; rintro e w5 ⟨r5, hr5, rfl, d5⟩)
  obtain ⟨k5, k50, k51⟩ := page41 hr5
  go_wp2_with fail
  (refine (pickP_on InPage W _ _ b a len cap z _ 4 _ (Drawn.ne d5) (by decide) (by decide) (four_cells _ _ _ _ (page33 hr4) k5) (d5.alloc _)).mono ?_; rintro e w6 ⟨y, hy, rfl, d6⟩)
  have T6 := Two.drawn (Two.new w 123 0 0) d6 hne
  obtain ⟨c0, c1, fr⟩ := T6
  have d7 := (HD.out.alloc (.cells #[.int .i64 0, .int .i64 0] 123)).trans d6
  go_wp2_with fail
  refine bodyPost_ret (by simp [results, Tryz.results122, go_sem, *]; try rfl) rfl ?_
  exact ⟨x, y, hx, hy, rfl, (d7.setNew hw0 hW hne _ _).setNew hw0 hW hne _ _⟩
end Go.Proofs.YtkabofbbioaapaaGreat.Draw
namespace Go.Proofs.YtkabofbbioaapaaGreat.Ins
open Go.ChangeShapes Go.WideShapes Go.ChangeAt Go.RowKit
open Kit Point Slabs Draw
set_option linter.unusedVariables false
set_option linter.unusedSimpArgs false
set_option linter.unnecessarySimpa false
def Shp (l : List Pt) : Prop := ∀ p ∈ l, InPage p.1 ∧ InPage p.2
theorem shp_snoc {l : List Pt} {x y : Int} (h : Shp l) (hx : InPage x) (hy : InPage y) : Shp (l ++ [(x, y)]) := by
  intro p hp
  rcases List.mem_append.1 hp with h1 | h1
  · exact h p h1
  · rw [List.mem_singleton.1 h1]; exact ⟨hx, hy⟩
theorem shp_ok {l : List Pt} (h : Shp l) (h8 : l.length ≤ 8) : pathB l = true := by
  have : ptsB l = true := by
    rw [ptsB, List.all_eq_true]
    intro p hp
    have := h p hp
    unfold InPage at this
    simp [pokB, inB]; omega
  simp [pathB, this, h8]
theorem below4 {r : Int} (h : Within 4 r) : 0 ≤ r ∧ r ≤ 3 := by obtain ⟨h0, h1, _⟩ := h; have := h1 (by omega); omega
set_option maxHeartbeats 2000000 in
theorem path_on (W w0 w : World) (b : Nat) (a : Option Addr) (len cap : Nat) (z : List Int) (d : Drawn W a len cap z b w0 w) :
    Calls Tryz.prog 93 #[.pointer (some ⟨b, 0, none⟩)] w fun e w' => ∃ (v : Value) (l : List Pt), e = .returned v ∧ 3 ≤ l.length ∧ l.length ≤ 6 ∧ Shp l ∧ w'.ownsRow w.heap.size 123 2 v l.length (cellsP l) ∧ Drawn W a len cap z b w0 w' := by
  obtain ⟨i0, hi0, hz0, hz1, hz2⟩ := info_parts info_pt8
  have D := (d.alloc (.cells #[] 123)).1.same
  have D0 := d.1.same.alloc (.cells #[] 123)
  have hbl := d.1.here
  have hW := Nat.le_trans d.1.far (Nat.le_of_lt d.1.here)
  have ho0 := World.ownsRow_made w #[] (e := 123) (size := 2) 0 (Nat.le_refl _) (by decide) (by simp)
  have HD := Lib.hid (And.intro d ho0)
  clear d ho0
  go_enter Tryz.func93, Tryz.ntmps93
  go_wp2_with fail
  (refine (below_on W _ _ b a len cap z 4 D).mono ?_; rintro e w1 ⟨r, hr, rfl, d1⟩)
  have hr4 := below4 hr
  have hown := HD.out.2.kept d1.2 (.inr fun e => by simp [Value.ownBlock] at e; omega)
  have dA := D0.trans d1
  have HA := Lib.hid (And.intro hown dA)
  have hs1 : w.heap.size ≤ w1.heap.size := by have := dA.2.size; omega
  obtain ⟨t, rfl⟩ : ∃ t : Nat, r = (t : Int) := ⟨r.toNat, by omega⟩
  clear hown dA d1 D D0 hr
  go_wp2
  go_loopw [3, 5] (fun v i wr => ∃ l : List Pt, l.length ≤ 3 + t ∧ i = .int .i64 (l.length : Int) ∧ Hid (Shp l) ∧ wr.ownsRow w.heap.size 123 2 v l.length (cellsP l) ∧ w.heap.size ≤ wr.heap.size ∧ Drawn W a len cap z b w wr) (fun _ i _ => 3 + t - (intOf i).toNat)
  case atStart => exact ⟨[], by simp, rfl, Lib.hid (by intro p hp; simp at hp), HA.out.1, hs1, HA.out.2⟩
  case round =>
    obtain ⟨l, hk, rfl, hX, hown, hws, hd⟩ := hrel
    obtain ⟨k, hlk⟩ : ∃ k, l.length = k := ⟨_, rfl⟩
    have HK := Lib.hid hlk
    rw [hlk] at hk hown ⊢
    clear hlk
    by_cases hlt : k < 3 + t
    · have hlt' : (k : Int) < 3 + (t : Int) := by omega
      have hdS := hd.1.same
      have HH := Lib.hid (And.intro hown hd)
      clear hown hd
      go_wp2_with fail
      (refine (point_on W _ _ b a len cap z hdS).mono ?_; rintro e w2 ⟨x, y, hx, hy, rfl, d1⟩)
      have hown1 := HH.out.1.kept d1.2 (.inr fun e => by have := (HH.out.1.lt _ e).1; omega)
      have hd1 := HH.out.2.trans d1
      have hsz1 := d1.2.size
      have HY := Lib.hid (And.intro (shp_snoc hX.out hx hy) (And.intro hown1 hd1))
      have hown1' := hown1.alloc (.cells #[.int .i64 x, .int .i64 y] 123)
      clear hx hy hown1 hd1 d1 hdS
      go_wp2_with (at_builtin; refine wpList_append_own _ rfl _ _ 48 rfl w.heap.size 123 i0 (.agg #[.int .i64 0, .int .i64 0]) 2 16 Tryz.underlying48 hi0 hz0 hz1 hz2 rfl (by decide) _ _ _ rfl (hown1'.alloc _) ⟨w2.heap.size + 1, 0, none⟩ 1 1 [.int .i64 x, .int .i64 y] rfl rfl ?c1 ?c2 ?c3 ?c4 ?c5 ?_)
      case c1 => exact World.news_of_block (cs := #[.int .i64 x, .int .i64 y]) (t := 123) (fr := (0, 0)) (by have := heap_alloc_new (w2.alloc (.cells #[.int .i64 x, .int .i64 y] 123)) (.cells #[.int .i64 x, .int .i64 y] 123); simpa using this)
      case c2 => simp [Value.oneCell']
      case c3 => unfold maxLen; omega
      case c4 => omega
      case c5 => simp; omega
      intro v2 w3 hown2 hgrow _
      have hd2 := ((HY.out.2.2.alloc (.cells #[.int .i64 x, .int .i64 y] 123)).alloc (.cells #[.int .i64 x, .int .i64 y] 123)).grown hgrow (fun q hq => by have := (HY.out.2.1.lt q hq).1; omega)
      have hws2 : w.heap.size ≤ w3.heap.size := by have := hgrow.size; simp at this; omega
      have hrel2 : w3.ownsRow w.heap.size 123 2 v2 (l ++ [(x, y)]).length (cellsP (l ++ [(x, y)])) := by rw [cellsP_snoc, List.length_append, HK.out]; exact hown2
      have HZ := Lib.hid (And.intro hrel2 hd2)
      clear hown2 hown1' hrel2 hd2 hgrow
      go_wp2
      go_roundw
      case rel => exact ⟨l ++ [(x, y)], by simp [HK.out]; omega, by rw [List.length_append, HK.out]; go_num, Lib.hid HY.out.1, HZ.out.1, hws2, HZ.out.2⟩
      case measure => simp [intOf]; omega
    · obtain rfl : k = 3 + t := by omega
      have HX := Lib.hid (And.intro hown (HD.out.1.trans hd))
      clear hown hd
      go_wp2
      go_ret
      exact ⟨_, l, rfl, by rw [HK.out]; omega, by rw [HK.out]; omega, hX.out, by rw [HK.out]; exact HX.out.1, HX.out.2⟩
theorem cellsP_get : ∀ (l : List Pt) (i : Nat) (h : i < l.length), (cellsP l)[i * 2]? = some (.int .i64 l[i].1) ∧ (cellsP l)[i * 2 + 1]? = some (.int .i64 l[i].2)
  | [], i, h => by simp at h
  | p :: l, 0, h => by simp [cellsP]
  | p :: l, i + 1, h => by
    have := cellsP_get l i (by simpa using h)
    have e : cellsP (p :: l) = .int .i64 p.1 :: .int .i64 p.2 :: cellsP l := by simp [cellsP]
    rw [e, show (i + 1) * 2 = i * 2 + 1 + 1 by omega]
    simpa using this
theorem path_of_owns {w : World} {base : Nat} {e : TypeId} {v : Value} {l : List Pt} (h : w.ownsRow base e 2 v l.length (cellsP l)) : ∃ a c, v = .slice a l.length c ∧ PathAt w a l := by
  rcases h.2 with ⟨hv, h0⟩ | ⟨g, cap, cur, hv, hb, hg, _⟩
  · exact ⟨none, 0, by rw [hv, h0], .inl (List.eq_nil_of_length_eq_zero h0)⟩
  · refine ⟨_, _, hv, .inr ⟨g, rfl, (Array.getElem?_eq_some_iff.1 hg).1, fun i hi => ?_⟩⟩
    have hadd : ∀ j, (⟨g, 0, none⟩ : Addr).add j = ⟨g, j, none⟩ := fun j => by unfold Addr.add; split <;> simp_all
    have c := cellsP_get l i hi
    rw [getp l hi] at c
    have h1 := World.ownsRow.cells h (g := g) (by rw [hv]; rfl) (i * 2) _ c.1
    have h2 := World.ownsRow.cells h (g := g) (by rw [hv]; rfl) (i * 2 + 1) _ c.2
    rw [hadd] at h1 h2
    exact ⟨h1, h2⟩
end Go.Proofs.YtkabofbbioaapaaGreat.Ins
namespace Go.Proofs.YtkabofbbioaapaaGreat.Own
open Go.ChangeShapes Go.WideShapes Go.ChangeAt Go.RowKit
open Kit Slabs Ints
set_option linter.unusedVariables false
set_option linter.unusedSimpArgs false
set_option linter.unnecessarySimpa false
set_option maxRecDepth 100000
theorem eq_Box (xx0_0 : Int) (xx1_0 : Int) (xx2_0 : Int) (xx3_0 : Int) (w : World) : Calls Tryz.prog 88 #[.agg #[.int .i64 xx0_0, .int .i64 xx1_0, .int .i64 xx2_0, .int .i64 xx3_0], .agg #[.int .i64 xx0_0, .int .i64 xx1_0, .int .i64 xx2_0, .int .i64 xx3_0]] w fun e w' => e = .returned (.bool true) ∧ Below w.heap.size w w' := by
  go_enter Tryz.func88, Tryz.ntmps88
  go_wp2
  go_ret
  exact ⟨rfl, by go_grown⟩
set_option maxHeartbeats 4000000 in
theorem eq_Object (w : World) {A B : Array Value} {ds : List Dt} {f1 f2 : List Nat} (hb : bulkL ds ≤ 1048576) (h1 : OwnL w LObject A.toList ds f1) (h2 : OwnL w LObject B.toList ds f2) :
    Calls Tryz.prog 46 #[.agg A, .agg B] w fun e w' => e = .returned (.bool true) ∧ Below w.heap.size w w' := by
  obtain ⟨xa0, xc0, xs0, xx1_0, xx2_0, xx2_1, xx2_2, xx2_3, xF0, hA, rfl, rfl, ox0⟩ := inv_Object h1
  obtain ⟨ya0, yc0, yF0, hB, rfl, oy0⟩ := inv_Object_ h2
  simp only [bulkL_app, bulkL, Dt.bulk] at hb
  have BA : Blk ((w.alloc (.cells A 52)).alloc (.cells B 52)) w.heap.size A.toList := (Blk.new w A 52 rfl).alloc _
  have BB : Blk ((w.alloc (.cells A 52)).alloc (.cells B 52)) (w.heap.size + 1) B.toList := Blk.new _ B 52 (by simp)
  have hW : Below w.heap.size w ((w.alloc (.cells A 52)).alloc (.cells B 52)) := by go_grown
  rw [hA] at BA
  rw [hB] at BB
  have HO := Lib.hid (And.intro ox0 oy0)
  have HA0 := Lib.hid BA
  have HB0 := Lib.hid BB
  have HW0 := Lib.hid hW
  have ca0 : A[0]? = some (.slice xa0 xs0.length xc0) := by rw [← Array.getElem?_toList, hA]; rfl
  have cb0 : B[0]? = some (.slice ya0 xs0.length yc0) := by rw [← Array.getElem?_toList, hB]; rfl
  clear ox0 oy0 hA hB BA BB hW h1 h2
  go_enter Tryz.func46, Tryz.ntmps46
  go_wp2_with fail
  ((with_reducible refine (eqP_o _ (by omega) ((HO.out.1).under HW0.out) ((HO.out.2).under HW0.out)).mono ?_); rintro e w1 ⟨rfl, b1⟩)
  have HW1 := Lib.hid (on_of HW0.out b1)
  have HA1 := Lib.hid (HA0.out.keep b1)
  have HB1 := Lib.hid (HB0.out.keep b1)
  clear b1 ca0 cb0
  have ca1 := HA1.out.1 1 (.int .i64 xx1_0) (by rfl)
  have cb1 := HB1.out.1 1 (.int .i64 xx1_0) (by rfl)
  have ca2 := HA1.out.1 2 (.int .i64 xx2_0) (by rfl)
  have ca3 := HA1.out.1 3 (.int .i64 xx2_1) (by rfl)
  have ca4 := HA1.out.1 4 (.int .i64 xx2_2) (by rfl)
  have ca5 := HA1.out.1 5 (.int .i64 xx2_3) (by rfl)
  have cb2 := HB1.out.1 2 (.int .i64 xx2_0) (by rfl)
  have cb3 := HB1.out.1 3 (.int .i64 xx2_1) (by rfl)
  have cb4 := HB1.out.1 4 (.int .i64 xx2_2) (by rfl)
  have cb5 := HB1.out.1 5 (.int .i64 xx2_3) (by rfl)
  go_wp2_with fail
  ((with_reducible refine (eq_Box xx2_0 xx2_1 xx2_2 xx2_3 _).mono ?_); rintro e w2 ⟨rfl, b2⟩)
  have HW2 := Lib.hid (on_of HW1.out b2)
  have HA2 := Lib.hid (HA1.out.keep b2)
  have HB2 := Lib.hid (HB1.out.keep b2)
  clear b2 ca1 cb1 ca2 ca3 ca4 ca5 cb2 cb3 cb4 cb5
  go_wp2
  go_ret
  exact ⟨rfl, HW2.out⟩
end Go.Proofs.YtkabofbbioaapaaGreat.Own
