/-
  Texts of this seat, laid together: Dj10, Dh12
-/
import Derived.Test.YtbdjnfnphilklaaM35
import Derived.Test.YtbdjnfnphilklaaM40
import Derived.Test.YtbdjnfnphilklaaM28
namespace Go.Proofs.Ytbdjnfnphilklaa.Ins
open Go.ChangeShapes Go.WideShapes Go.ChangeAt Go.RowKit
open Kit Point Slabs Draw
open Go.Proofs.Ytbdjnfnphilklaa.Own (Blk Ob grayB)
set_option linter.unusedVariables false
set_option linter.unusedSimpArgs false
set_option linter.unnecessarySimpa false
set_option maxRecDepth 100000
theorem below_grown {w w' : World} (h : Below w.heap.size w w') : w.grownBy w' none := ⟨h.os, h.tape, h.output, h.size, fun k hk _ => h.block k hk⟩
theorem drawn_below {W w0 w w' : World} {a : Option Addr} {len cap : Nat} {z : List Int} {b : Nat} (d : Drawn W a len cap z b w0 w) (h : Below w.heap.size w w') : Drawn W a len cap z b w0 w' :=
  d.grown (below_grown h) (fun k e => by cases e)
theorem blk_drawn {W w0 w : World} {a : Option Addr} {len cap : Nat} {z : List Int} {b R : Nat} {cs : List Value} (h : Blk w0 R cs) (d : Drawn W a len cap z b w0 w) (hb : R ≠ b) : Blk w R cs :=
  ⟨fun o v hv => d.keeps (h.1 o v hv) hb, fun o => d.thaws h.2.2 (h.2.1 o) hb, Nat.lt_of_lt_of_le h.2.2 d.2.size⟩
structure DoS (W : World) (a : Option Addr) (len cap : Nat) (z : List Int) (b : Nat) (w0 : World) (n0 : Nat) (V : World) (GO GR : Nat) (va : Option Addr) (vc : Nat) (l : List Pt) (g x0 y0 x1 y1 : Int) : Prop where
  O : Blk V GO [.slice va l.length vc, .int .i64 g, .int .i64 x0, .int .i64 y0, .int .i64 x1, .int .i64 y1]
  R : Blk V GR [.slice none 0 0, .int .i64 0, .int .i64 0, .int .i64 0, .int .i64 0, .int .i64 0]
  P : V.ownsRow (n0 + 1) 113 2 (.slice va l.length vc) l.length (cellsP l)
  D : Drawn W a len cap z b w0 V
  N : GO ∉ Own.rowL (.slice va l.length vc)
  l3 : 3 ≤ l.length
  l6 : l.length ≤ 6
  S : Shp l
  G : 0 ≤ g ∧ g ≤ 255
  X : Draw.BoxIn x0 y0 x1 y1
  b0 : b < n0
  bO : n0 < GO
  eR : GR = n0
theorem DoS.next {W : World} {a : Option Addr} {len cap : Nat} {z : List Int} {b : Nat} {w0 V V' : World} {n0 GO GR : Nat} {va : Option Addr} {vc : Nat} {l : List Pt} {g x0 y0 x1 y1 : Int} (h : DoS W a len cap z b w0 n0 V GO GR va vc l g x0 y0 x1 y1) (d : Drawn W a len cap z b V V') : DoS W a len cap z b w0 n0 V' GO GR va vc l g x0 y0 x1 y1 :=
  ⟨blk_drawn h.O d (by have := h.b0; have := h.bO; omega), blk_drawn h.R d (by have := h.b0; have := h.eR; omega), h.P.kept d.2 (.inr fun e => by have := (h.P.lt _ e).1; have := h.b0; omega), h.D.trans d, h.N, h.l3, h.l6, h.S, h.G, h.X, h.b0, h.bO, h.eR⟩
theorem DoS.same {W : World} {a : Option Addr} {len cap : Nat} {z : List Int} {b : Nat} {w0 V : World} {n0 GO GR : Nat} {va : Option Addr} {vc : Nat} {l : List Pt} {g x0 y0 x1 y1 : Int} (h : DoS W a len cap z b w0 n0 V GO GR va vc l g x0 y0 x1 y1) : Drawn W a len cap z b V V := h.D.1.same
theorem DoS.alloc {W : World} {a : Option Addr} {len cap : Nat} {z : List Int} {b : Nat} {w0 V : World} {n0 GO GR : Nat} {va : Option Addr} {vc : Nat} {l : List Pt} {g x0 y0 x1 y1 : Int} (h : DoS W a len cap z b w0 n0 V GO GR va vc l g x0 y0 x1 y1) (o : Obj) : DoS W a len cap z b w0 n0 (V.alloc o) GO GR va vc l g x0 y0 x1 y1 :=
  h.next (h.D.1.same.alloc o)
theorem four_gray (w : World) (T : TypeId) (r : Int) (hr : 0 ≤ r ∧ r ≤ 255) : ∀ k, k < 4 → ∃ q : Int, (0 ≤ q ∧ q ≤ 255) ∧ (w.alloc (.cells #[.int .i64 0, .int .i64 255, .int .i64 128, .int .i64 r] T)).cell? ⟨w.heap.size, k, none⟩ = some (.int .i64 q) := by
  intro k hk
  have : k = 0 ∨ k = 1 ∨ k = 2 ∨ k = 3 := by omega
  rcases this with rfl | rfl | rfl | rfl
  · exact ⟨0, by omega, by simp [go_sem]⟩
  · exact ⟨255, by omega, by simp [go_sem]⟩
  · exact ⟨128, by omega, by simp [go_sem]⟩
  · exact ⟨r, hr, by simp [go_sem]⟩
theorem full_in : Draw.BoxIn 0 0 32 32 := by unfold Draw.BoxIn; omega
theorem DoS.box {W : World} {a : Option Addr} {len cap : Nat} {z : List Int} {b : Nat} {w0 V : World} {n0 GO GR : Nat} {va : Option Addr} {vc : Nat} {l : List Pt} {g x0 y0 x1 y1 : Int} (h : DoS W a len cap z b w0 n0 V GO GR va vc l g x0 y0 x1 y1) (hn : w0.heap.size ≤ n0 ∧ W.heap.size ≤ n0) {u0 v0 u1 v1 : Int} (hX : Draw.BoxIn u0 v0 u1 v1) :
    DoS W a len cap z b w0 n0 ((((V.setCell ⟨GO, 2, none⟩ (.int .i64 u0)).setCell ⟨GO, 3, none⟩ (.int .i64 v0)).setCell ⟨GO, 4, none⟩ (.int .i64 u1)).setCell ⟨GO, 5, none⟩ (.int .i64 v1)) GO GR va vc l g u0 v0 u1 v1 := by
  have e1 := Blk.put (P := [.slice va l.length vc, .int .i64 g]) h.O rfl (.int .i64 u0)
  have e2 := Blk.put (P := [.slice va l.length vc, .int .i64 g, .int .i64 u0]) e1 rfl (.int .i64 v0)
  have e3 := Blk.put (P := [.slice va l.length vc, .int .i64 g, .int .i64 u0, .int .i64 v0]) e2 rfl (.int .i64 u1)
  have e4 := Blk.put (P := [.slice va l.length vc, .int .i64 g, .int .i64 u0, .int .i64 v0, .int .i64 u1]) e3 rfl (.int .i64 v1)
  have hne : GO ≠ GR := by have := h.bO; have := h.eR; omega
  have hb : GO ≠ b := by have := h.bO; have := h.b0; omega
  have h0 : w0.heap.size ≤ GO := by have := h.bO; omega
  have hW : W.heap.size ≤ GO := by have := h.bO; omega
  exact ⟨e4, (((h.R.other hne _ _).other hne _ _).other hne _ _).other hne _ _, Own.row_set (Own.row_set (Own.row_set (Own.row_set h.P h.N _ _) h.N _ _) h.N _ _) h.N _ _, (((h.D.setNew h0 hW hb _ _).setNew h0 hW hb _ _).setNew h0 hW hb _ _).setNew h0 hW hb _ _, h.N, h.l3, h.l6, h.S, h.G, hX, h.b0, h.bO, h.eR⟩
theorem row_four (X : World) (n0 : Nat) (hb : n0 ≤ X.heap.size) (u0 v0 u1 v1 : Int) : (X.alloc (.cells #[.int .i64 u0, .int .i64 v0, .int .i64 u1, .int .i64 v0, .int .i64 u1, .int .i64 v1, .int .i64 u0, .int .i64 v1] 113)).ownsRow n0 113 2 (.slice (some ⟨X.heap.size, 0, none⟩) 4 4) 4 (cellsP [(u0, v0), (u1, v0), (u1, v1), (u0, v1)]) :=
  ⟨rfl, .inr ⟨X.heap.size, 4, _, rfl, hb, heap_alloc_new X _, Nat.le_refl _, by decide, rfl, rfl⟩⟩
theorem shp_four {u0 v0 u1 v1 : Int} (h : Draw.BoxIn u0 v0 u1 v1) : Shp [(u0, v0), (u1, v0), (u1, v1), (u0, v1)] := by
  unfold Draw.BoxIn at h
  intro p hp
  simp only [List.mem_cons, List.not_mem_nil, or_false] at hp
  unfold InPage
  rcases hp with rfl | rfl | rfl | rfl <;> (simp only; omega)
theorem DoS.quad {W : World} {a : Option Addr} {len cap : Nat} {z : List Int} {b : Nat} {w0 V : World} {n0 GO GR : Nat} {va : Option Addr} {vc : Nat} {l : List Pt} {g x0 y0 x1 y1 : Int} (h : DoS W a len cap z b w0 n0 V GO GR va vc l g x0 y0 x1 y1) (hn : w0.heap.size ≤ n0 ∧ W.heap.size ≤ n0) {u0 v0 u1 v1 : Int} (hX : Draw.BoxIn u0 v0 u1 v1) :
    DoS W a len cap z b w0 n0 ((V.setCell ⟨GO, 0, none⟩ (.slice (some ⟨V.heap.size, 0, none⟩) 4 4)).alloc (.cells #[.int .i64 u0, .int .i64 v0, .int .i64 u1, .int .i64 v0, .int .i64 u1, .int .i64 v1, .int .i64 u0, .int .i64 v1] 113)) GO GR (some ⟨V.heap.size, 0, none⟩) 4 [(u0, v0), (u1, v0), (u1, v1), (u0, v1)] g x0 y0 x1 y1 := by
  have e1 := Blk.put (P := []) h.O rfl (.slice (some ⟨V.heap.size, 0, none⟩) 4 4)
  have hne : GO ≠ GR := by have := h.bO; have := h.eR; omega
  have hb : GO ≠ b := by have := h.bO; have := h.b0; omega
  have h0 : w0.heap.size ≤ GO := by have := h.bO; omega
  have hW : W.heap.size ≤ GO := by have := h.bO; omega
  have hs : (V.setCell ⟨GO, 0, none⟩ (.slice (some ⟨V.heap.size, 0, none⟩) 4 4)).heap.size = V.heap.size := by simp
  have hlt := h.O.2.2
  have hr := row_four (V.setCell ⟨GO, 0, none⟩ (.slice (some ⟨V.heap.size, 0, none⟩) 4 4)) (n0 + 1) (by rw [hs]; have := h.bO; omega) u0 v0 u1 v1
  rw [hs] at hr
  exact ⟨e1.alloc _, (h.R.other hne _ _).alloc _, hr, (h.D.setNew h0 hW hb _ _).alloc _, fun hx => by simp [Own.rowL, Value.ownBlock] at hx; omega, by simp, by simp, shp_four hX, h.G, h.X, h.b0, h.bO, h.eR⟩
def ObDrawn (W : World) (a : Option Addr) (len cap : Nat) (z : List Int) (b : Nat) (w0 : World) (n0 : Nat) (e : Ending) (w' : World) : Prop := ∃ (va : Option Addr) (vc : Nat) (l : List Pt) (g x0 y0 x1 y1 : Int), e = .returned (.agg #[.slice va l.length vc, .int .i64 g, .int .i64 x0, .int .i64 y0, .int .i64 x1, .int .i64 y1]) ∧
  3 ≤ l.length ∧ l.length ≤ 6 ∧ Shp l ∧ (0 ≤ g ∧ g ≤ 255) ∧ Draw.BoxIn x0 y0 x1 y1 ∧ w'.ownsRow n0 113 2 (.slice va l.length vc) l.length (cellsP l) ∧ Drawn W a len cap z b w0 w'
set_option maxHeartbeats 4000000 in
theorem object_on (W w0 w : World) (b : Nat) (a : Option Addr) (len cap : Nat) (z : List Int) (d : Drawn W a len cap z b w0 w) :
    Calls Try.prog 59 #[.pointer (some ⟨b, 0, none⟩)] w (ObDrawn W a len cap z b w0 w.heap.size) := by
  have hbl := d.1.here
  have hW := Nat.le_trans d.1.far (Nat.le_of_lt d.1.here)
  have hn0 : w0.heap.size ≤ w.heap.size ∧ W.heap.size ≤ w.heap.size := ⟨d.2.size, hW⟩
  have HD := Lib.hid (d.alloc (.cells #[.slice none 0 0, .int .i64 0, .int .i64 0, .int .i64 0, .int .i64 0, .int .i64 0] 40))
  have HRb := Lib.hid (Blk.new w #[.slice none 0 0, .int .i64 0, .int .i64 0, .int .i64 0, .int .i64 0, .int .i64 0] 40 rfl)
  clear d
  go_enter Try.func59, Try.ntmps59
  go_wp2_with fail
  (refine (path_on W _ _ b a len cap z HD.out.1.same).mono ?_; rintro e w1 ⟨v, l, rfl, h3, h6, hS, ho, d1⟩)
  obtain ⟨va, vc, rfl, _⟩ := path_of_owns ho
  have HO := Lib.hid (And.intro ho (And.intro d1 hS))
  clear ho d1 hS
  go_wp2_with fail
  (refine (below_on W _ _ b a len cap z 256 HO.out.2.1.1.same).mono ?_; rintro e w2 ⟨r, hr, rfl, d2⟩)
  have hr' : 0 ≤ r ∧ r ≤ 255 := by obtain ⟨h0, h1, _⟩ := hr; have := h1 (by omega); omega
  have H2 := Lib.hid (And.intro d2 hr')
  clear d2 hr hr'
  go_wp2_with fail
  (refine (pickP_on (fun q => 0 ≤ q ∧ q ≤ 255) W _ _ b a len cap z _ 4 _ (Drawn.ne H2.out.1) (by decide) (by decide) (four_gray _ _ _ H2.out.2) (H2.out.1.alloc _)).mono ?_; rintro e w3 ⟨g, hg, rfl, d3⟩)
  have H3 := Lib.hid d3
  clear d3
  go_wp2_with fail
  have hFull : ∀ V : World, Calls Try.prog 89 #[] V fun e w' => e = .returned (.agg #[.int .i64 0, .int .i64 0, .int .i64 32, .int .i64 32]) ∧ Below V.heap.size V w' := fun V => page_full V
  ((with_reducible refine (hFull _).mono ?_); rintro e w4 ⟨rfl, b4⟩)
  have D4 := drawn_below H3.out b4
  have H4 := Lib.hid (And.intro D4 hg)
  have HB := Lib.hid hbl
  have HN := Lib.hid hn0
  clear hFull b4 D4 hg hbl hn0 hW
  go_upto_region 2 with fail
  refine gen_any9 (fun V => DoS W a len cap z b w0 w.heap.size V w4.heap.size w.heap.size va vc l g 0 0 32 32) ?_ ?_
  · have hsz : (w.alloc (.cells #[.slice none 0 0, .int .i64 0, .int .i64 0, .int .i64 0, .int .i64 0, .int .i64 0] 40)).heap.size = w.heap.size + 1 := by simp
    have D5 := H4.out.1.alloc (.cells #[.slice va l.length vc, .int .i64 g, .int .i64 0, .int .i64 0, .int .i64 32, .int .i64 32] 40)
    have hP := HO.out.1
    rw [hsz] at hP
    have s1 := HO.out.2.1.2.size
    rw [hsz] at s1
    have s4 := H4.out.1.2.size
    have hb := HB.out
    exact ⟨Blk.new w4 _ _ rfl, (blk_drawn (blk_drawn HRb.out HO.out.2.1 (by omega)) H4.out.1 (by omega)).alloc _, hP.kept D5.2 (.inr fun e => by have := (hP.lt _ e).1; omega), (HD.out.trans HO.out.2.1).trans D5, fun hx => by have := (Own.rowL_ge hP _ hx).2; omega, h3, h6, HO.out.2.2, H4.out.2, full_in, hb, by omega, rfl⟩
  intro V5 hS
  obtain ⟨GR, hGR⟩ : ∃ x, w.heap.size = x := ⟨_, rfl⟩
  obtain ⟨GO, hGO⟩ : ∃ x, w4.heap.size = x := ⟨_, rfl⟩
  have HS : Hid (DoS W a len cap z b w0 w.heap.size V5 GO GR va vc l g 0 0 32 32) := Lib.hid (by have := hS; rw [hGO] at this; exact hGR ▸ this)
  simp only [hGO, hGR]
  clear hS hGO hGR HO H2 H3 H4 HD HRb
  go_wp2_with fail
  (refine (once_on W _ _ b a len cap z 3 HS.out.same).mono ?_; rintro e w5 ⟨r5, rfl, d5⟩)
  have HS := Lib.hid (HS.out.next d5)
  clear d5
  cases r5
  · go_wp2_with fail
    (refine (once_on W _ _ b a len cap z 3 HS.out.same).mono ?_; rintro e w6 ⟨r6, rfl, d6⟩)
    have HS := Lib.hid (HS.out.next d6)
    clear d6
    cases r6
    · obtain ⟨k0, k1, k2, k3, k4, k5, _, hzA⟩ := six HS.out.O
      obtain ⟨e0, e1, e2, e3, e4, e5, hf, hzR⟩ := six HS.out.R
      go_wp2
      refine bodyPost_ret (by simp [results, Try.results59, go_sem, *]; try rfl) rfl ?_
      have hN : GR ∉ Own.rowL (.slice va l.length vc) := fun hx => by have := (Own.rowL_ge HS.out.P _ hx).1; have := HS.out.eR; omega
      have hb : GR ≠ b := by have := HS.out.eR; have := HS.out.b0; omega
      have h0 : w0.heap.size ≤ GR := by have := HS.out.eR; have := HN.out; omega
      have hW : W.heap.size ≤ GR := by have := HS.out.eR; have := HN.out; omega
      refine ⟨va, vc, l, g, _, _, _, _, rfl, HS.out.l3, HS.out.l6, HS.out.S, HS.out.G, HS.out.X, ?_, ?_⟩
      · refine Own.row_base (B := w.heap.size + 1) ?_ (by omega)
        repeat (refine Own.row_set ?_ hN _ _)
        exact HS.out.P
      · repeat (refine Drawn.setNew ?_ h0 hW hb _ _)
        exact HS.out.D
    · go_wp2_with fail
      ((with_reducible refine (box_on W _ _ b a len cap z HS.out.same).mono ?_); rintro e w7 ⟨u0, v0, u1, v1, hX7, rfl, d7⟩)
      have HS := Lib.hid (HS.out.next d7)
      clear d7
      go_upto_region 6 with fail
      refine gen_any9 (fun V => (∃ x0 y0 x1 y1, DoS W a len cap z b w0 w.heap.size V GO GR va vc l g x0 y0 x1 y1) ∧ Four V w7.heap.size u0 v0 u1 v1) ⟨⟨_, _, _, _, HS.out.alloc _⟩, Four.new _ _ _ _ _ _⟩ ?_
      rintro V7 ⟨⟨x0, y0, x1, y1, hS⟩, hF⟩
      have HS := Lib.hid hS
      obtain ⟨GB, hGB⟩ : ∃ x, w7.heap.size = x := ⟨_, rfl⟩
      rw [hGB] at hF ⊢
      clear hS hGB
      obtain ⟨f0, f1, f2, f3, _⟩ := hF.lay
      obtain ⟨k0, k1, k2, k3, k4, k5, hfO, hzO⟩ := six HS.out.O
      go_upto_region 7 with fail
      have H7 := Lib.hid hX7
      clear hX7 f0 f1 f2 f3 k0 k1 k2 k3 k4 k5 hfO hzO hF
      refine gen_any9 (fun V => DoS W a len cap z b w0 w.heap.size V GO GR (some ⟨V7.heap.size, 0, none⟩) 4 [(u0, v0), (u1, v0), (u1, v1), (u0, v1)] g x0 y0 x1 y1) (HS.out.quad HN.out H7.out) ?_
      intro V9 hS
      obtain ⟨NV, hNV⟩ : ∃ x, V7.heap.size = x := ⟨_, rfl⟩
      rw [hNV] at hS
      simp only [hNV]
      have HS := Lib.hid hS
      clear hS hNV
      obtain ⟨k0, k1, k2, k3, k4, k5, _, hzA⟩ := six HS.out.O
      obtain ⟨e0, e1, e2, e3, e4, e5, hf, hzR⟩ := six HS.out.R
      go_wp2
      refine bodyPost_ret (by simp [results, Try.results59, go_sem, *]; try rfl) rfl ?_
      have hN : GR ∉ Own.rowL (.slice (some ⟨NV, 0, none⟩) 4 4) := fun hx => by have := (Own.rowL_ge HS.out.P _ hx).1; have := HS.out.eR; omega
      have hb : GR ≠ b := by have := HS.out.eR; have := HS.out.b0; omega
      have h0 : w0.heap.size ≤ GR := by have := HS.out.eR; have := HN.out; omega
      have hW : W.heap.size ≤ GR := by have := HS.out.eR; have := HN.out; omega
      refine ⟨_, 4, [(u0, v0), (u1, v0), (u1, v1), (u0, v1)], g, _, _, _, _, rfl, HS.out.l3, HS.out.l6, HS.out.S, HS.out.G, HS.out.X, ?_, ?_⟩
      · refine Own.row_base (B := w.heap.size + 1) ?_ (by omega)
        repeat (refine Own.row_set ?_ hN _ _)
        exact HS.out.P
      · repeat (refine Drawn.setNew ?_ h0 hW hb _ _)
        exact HS.out.D
  · go_wp2_with fail
    ((with_reducible refine (box_on W _ _ b a len cap z HS.out.same).mono ?_); rintro e w8 ⟨s0, t0, s1, t1, hX8, rfl, d8⟩)
    have HS := Lib.hid (HS.out.next d8)
    have H8 := Lib.hid hX8
    clear d8 hX8
    obtain ⟨k0, k1, k2, k3, k4, k5, hfO, hzO⟩ := six HS.out.O
    go_upto_region 4 with fail
    clear k0 k1 k2 k3 k4 k5 hfO hzO
    refine gen_any9 (fun V => DoS W a len cap z b w0 w.heap.size V GO GR va vc l g s0 t0 s1 t1) (HS.out.box HN.out H8.out) ?_
    intro V8 hS
    have HS := Lib.hid hS
    clear hS
    go_wp2_with fail
    (refine (once_on W _ _ b a len cap z 3 HS.out.same).mono ?_; rintro e w6 ⟨r6, rfl, d6⟩)
    have HS := Lib.hid (HS.out.next d6)
    clear d6
    cases r6
    · obtain ⟨k0, k1, k2, k3, k4, k5, _, hzA⟩ := six HS.out.O
      obtain ⟨e0, e1, e2, e3, e4, e5, hf, hzR⟩ := six HS.out.R
      go_wp2
      refine bodyPost_ret (by simp [results, Try.results59, go_sem, *]; try rfl) rfl ?_
      have hN : GR ∉ Own.rowL (.slice va l.length vc) := fun hx => by have := (Own.rowL_ge HS.out.P _ hx).1; have := HS.out.eR; omega
      have hb : GR ≠ b := by have := HS.out.eR; have := HS.out.b0; omega
      have h0 : w0.heap.size ≤ GR := by have := HS.out.eR; have := HN.out; omega
      have hW : W.heap.size ≤ GR := by have := HS.out.eR; have := HN.out; omega
      refine ⟨va, vc, l, g, _, _, _, _, rfl, HS.out.l3, HS.out.l6, HS.out.S, HS.out.G, HS.out.X, ?_, ?_⟩
      · refine Own.row_base (B := w.heap.size + 1) ?_ (by omega)
        repeat (refine Own.row_set ?_ hN _ _)
        exact HS.out.P
      · repeat (refine Drawn.setNew ?_ h0 hW hb _ _)
        exact HS.out.D
    · go_wp2_with fail
      ((with_reducible refine (box_on W _ _ b a len cap z HS.out.same).mono ?_); rintro e w7 ⟨u0, v0, u1, v1, hX7, rfl, d7⟩)
      have HS := Lib.hid (HS.out.next d7)
      clear d7
      go_upto_region 6 with fail
      refine gen_any9 (fun V => (∃ x0 y0 x1 y1, DoS W a len cap z b w0 w.heap.size V GO GR va vc l g x0 y0 x1 y1) ∧ Four V w7.heap.size u0 v0 u1 v1) ⟨⟨_, _, _, _, HS.out.alloc _⟩, Four.new _ _ _ _ _ _⟩ ?_
      rintro V7 ⟨⟨x0, y0, x1, y1, hS⟩, hF⟩
      have HS := Lib.hid hS
      obtain ⟨GB, hGB⟩ : ∃ x, w7.heap.size = x := ⟨_, rfl⟩
      rw [hGB] at hF ⊢
      clear hS hGB
      obtain ⟨f0, f1, f2, f3, _⟩ := hF.lay
      obtain ⟨k0, k1, k2, k3, k4, k5, hfO, hzO⟩ := six HS.out.O
      go_upto_region 7 with fail
      have H7 := Lib.hid hX7
      clear hX7 f0 f1 f2 f3 k0 k1 k2 k3 k4 k5 hfO hzO hF
      refine gen_any9 (fun V => DoS W a len cap z b w0 w.heap.size V GO GR (some ⟨V7.heap.size, 0, none⟩) 4 [(u0, v0), (u1, v0), (u1, v1), (u0, v1)] g x0 y0 x1 y1) (HS.out.quad HN.out H7.out) ?_
      intro V9 hS
      obtain ⟨NV, hNV⟩ : ∃ x, V7.heap.size = x := ⟨_, rfl⟩
      rw [hNV] at hS
      simp only [hNV]
      have HS := Lib.hid hS
      clear hS hNV
      obtain ⟨k0, k1, k2, k3, k4, k5, _, hzA⟩ := six HS.out.O
      obtain ⟨e0, e1, e2, e3, e4, e5, hf, hzR⟩ := six HS.out.R
      go_wp2
      refine bodyPost_ret (by simp [results, Try.results59, go_sem, *]; try rfl) rfl ?_
      have hN : GR ∉ Own.rowL (.slice (some ⟨NV, 0, none⟩) 4 4) := fun hx => by have := (Own.rowL_ge HS.out.P _ hx).1; have := HS.out.eR; omega
      have hb : GR ≠ b := by have := HS.out.eR; have := HS.out.b0; omega
      have h0 : w0.heap.size ≤ GR := by have := HS.out.eR; have := HN.out; omega
      have hW : W.heap.size ≤ GR := by have := HS.out.eR; have := HN.out; omega
      refine ⟨_, 4, [(u0, v0), (u1, v0), (u1, v1), (u0, v1)], g, _, _, _, _, rfl, HS.out.l3, HS.out.l6, HS.out.S, HS.out.G, HS.out.X, ?_, ?_⟩
      · refine Own.row_base (B := w.heap.size + 1) ?_ (by omega)
        repeat (refine Own.row_set ?_ hN _ _)
        exact HS.out.P
      · repeat (refine Drawn.setNew ?_ h0 hW hb _ _)
        exact HS.out.D
end Go.Proofs.Ytbdjnfnphilklaa.Ins
namespace Go.Proofs.Ytbdjnfnphilklaa.Own
open Go.ChangeShapes Go.WideShapes Go.ChangeAt Go.RowKit
open Kit Slabs Ints Draw
open Go.Proofs.Ytbdjnfnphilklaa.Ins (Pt obx obK orow)
set_option linter.unusedVariables false
set_option linter.unusedSimpArgs false
set_option linter.unnecessarySimpa false
set_option maxRecDepth 100000
theorem sevenH (w : World) (T : TypeId) : ∀ k, k < 7 → ∃ q : Int, hgB q = true ∧ (w.alloc (.cells #[.int .i64 1, .int .i64 2, .int .i64 4, .int .i64 8, .int .i64 8, .int .i64 16, .int .i64 32] T)).cell? ⟨w.heap.size, k, none⟩ = some (.int .i64 q) := by
  intro k hk
  have : k = 0 ∨ k = 1 ∨ k = 2 ∨ k = 3 ∨ k = 4 ∨ k = 5 ∨ k = 6 := by omega
  rcases this with rfl | rfl | rfl | rfl | rfl | rfl | rfl
  · exact ⟨1, by decide, by simp [go_sem]⟩
  · exact ⟨2, by decide, by simp [go_sem]⟩
  · exact ⟨4, by decide, by simp [go_sem]⟩
  · exact ⟨8, by decide, by simp [go_sem]⟩
  · exact ⟨8, by decide, by simp [go_sem]⟩
  · exact ⟨16, by decide, by simp [go_sem]⟩
  · exact ⟨32, by decide, by simp [go_sem]⟩
theorem height_on (W w0 w : World) (b : Nat) (a : Option Addr) (len cap : Nat) (z : List Int) (d : Drawn W a len cap z b w0 w) :
    Calls Try.prog 29 #[.pointer (some ⟨b, 0, none⟩)] w fun e w' => ∃ q : Int, hgB q = true ∧ e = .returned (.int .i64 q) ∧ Drawn W a len cap z b w0 w' := by
  have HD := Lib.hid d
  clear d
  go_enter Try.func29, Try.ntmps29
  go_wp2_with fail
  (refine (pickP_on (fun q => hgB q = true) W _ _ b a len cap z _ 7 _ (Drawn.ne HD.out) (by decide) (by decide) (sevenH _ _) (HD.out.alloc _)).mono ?_; rintro e w3 ⟨q, hq, rfl, d3⟩)
  have HQ := Lib.hid (And.intro hq d3)
  clear hq d3
  go_wp2
  go_ret
  exact ⟨_, HQ.out.1, rfl, HQ.out.2⟩
theorem height_any (w : World) (a : Option Addr) (len cap : Nat) (z : List Int) (hr : IsRow .u8 w a len cap z) :
    Calls Try.prog 9 #[.slice a len cap] w fun e w' => ∃ q : Int, hgB q = true ∧ e = .returned (.int .i64 q) ∧ Below w.heap.size w w' := by
  have HR := Lib.hid hr
  clear hr
  go_enter Try.func9, Try.ntmps9
  go_wp2_with fail
  (refine (new_any _ _ _ _ z HR.out).mono ?_; rintro e w1 ⟨rfl, dr⟩)
  have HD := Lib.hid (And.intro dr.same dr.below)
  clear dr
  go_wp2_with fail
  ((with_reducible refine (height_on _ _ _ _ a len cap z HD.out.1).mono ?_); rintro e w2 ⟨q, hq, rfl, d2⟩)
  have HQ := Lib.hid (And.intro hq d2.1.below)
  clear hq d2
  go_wp2
  go_ret
  exact ⟨_, HQ.out.1, rfl, HQ.out.2⟩
theorem pnF_out {ht bd : Int} {o : Ob} (hb : bnB ht bd = true) (h : tbO ht bd o = false) {R : List (List Int)} (hR : (R.length : Int) ≤ ht) : pnF (bd * ht) R o = R := by
  have hB := pgb_obx o.path o.gray o.x0 o.y0 o.x1 o.y1
  unfold tbO tbB tbX at h
  rw [hb, Bool.true_and, decide_eq_false_iff_not] at h
  have hnone : ∀ k, k < R.length → rowsL o.path o.gray o.x0 o.y0 o.x1 o.y1 (bd * ht) k = [] := by
    intro k hk
    unfold rowsL Ins.orow
    rw [if_neg]
    generalize obx o.path o.gray o.x0 o.y0 o.x1 o.y1 = B at *
    generalize bd * ht = r at *
    rcases hB with rfl | ⟨k0, k1, k2, k3, k4, k5⟩
    · rintro ⟨h1, h2⟩
      have h1' : (0 : Int) ≤ r + k := h1
      have h2' : r + (k : Int) < 0 := h2
      omega
    · intro h2
      have hd : 0 < (B.x1 - B.x0) * (B.y1 - B.y0) := Int.mul_pos (by omega) (by omega)
      exact h ⟨hd, by omega, by omega⟩
  unfold pnF pntR pntK
  apply List.ext_getElem
  · simp
  · intro i h1 h2
    rw [List.getElem_mapIdx]
    rw [if_pos h2, hnone i h2, pnt_nil]
theorem rb_one {ht bd : Int} {o : Ob} (hb : bnB ht bd = true) : rbR ht bd [o] = pnF (bd * ht) (whR ht) o ∧ (rbR ht bd [o]).length = ht.toNat := by
  have e : rbR ht bd [o] = pnF (bd * ht) (whR ht) o := by simp [rbR, hb]
  exact ⟨e, by rw [e, pnF_len, whR_len]⟩
theorem rb_out {ht bd : Int} {o : Ob} (hb : bnB ht bd = true) (h : tbO ht bd o = false) : rbR ht bd [o] = whR ht ∧ ofB ht bd [.st o.dt] = [] := by
  obtain ⟨b0, b1, b2, b3, b4, b5⟩ := bn_rows hb
  refine ⟨by rw [(rb_one hb).1]; exact pnF_out hb h (by rw [whR_len]; omega), ?_⟩
  simp [ofB, tbD_st, h]
theorem obs_one (o : Ob) : obsOf [.st o.dt] = [o] := by
  show [obOf (unS (.st o.dt))] = [o]
  show [obOf o.dt] = [o]
  rw [ob_un]
structure FtS (V w : World) (GO B : Nat) (o : Ob) (a : Option Addr) (c : Nat) : Prop where
  O : Blk V GO (sixo o a c)
  P : V.ownsRow B 113 2 (.slice a o.path.length c) o.path.length (Ins.cellsP o.path)
  L : o.path.length ≤ 1048576
  B : Below w.heap.size w V
theorem FtS.on {V W w : World} {GO B : Nat} {o : Ob} {a : Option Addr} {c : Nat} (h : FtS V w GO B o a c) (hb : Below V.heap.size V W) : FtS W w GO B o a c :=
  ⟨h.O.keep hb, row_on h.P hb, h.L, on_of h.B hb⟩
theorem FtS.path {V w : World} {GO B : Nat} {o : Ob} {a : Option Addr} {c : Nat} (h : FtS V w GO B o a c) : Ins.PathAt V a o.path := by
  obtain ⟨a', c', e, hp⟩ := Ins.path_of_owns h.P
  injection e with e1 e2 e3
  subst e1; exact hp
theorem FtS.one {V w : World} {GO B : Nat} {o : Ob} {a : Option Addr} {c : Nat} (h : FtS V w GO B o a c) : ∃ fp, Own (V.alloc (.cells #[.slice a o.path.length c, .int .i64 o.gray, .int .i64 o.x0, .int .i64 o.y0, .int .i64 o.x1, .int .i64 o.y1] 40)) (.sl KObject) [.slice (some ⟨V.heap.size, 0, none⟩) 1 1] (.sl [.st o.dt]) fp := by
  have hb : Below V.heap.size V (V.alloc (.cells #[.slice a o.path.length c, .int .i64 o.gray, .int .i64 o.x0, .int .i64 o.y0, .int .i64 o.x1, .int .i64 o.y1] 40)) := by go_grown
  obtain ⟨f, h1, h2, h3⟩ := Ins.obj_close (row_on h.P hb)
  have hB := Blk.new V #[.slice a o.path.length c, .int .i64 o.gray, .int .i64 o.x0, .int .i64 o.y0, .int .i64 o.x1, .int .i64 o.y1] 40 rfl
  exact ⟨_, .sl rfl (by decide) (Nat.le_refl _) hB.2.2 hB.2.1 (.cons (fun j u hu => by rw [Nat.zero_add]; exact hB.1 j u hu) (.st h1) .nil)⟩
theorem one_bulk {o : Ob} (h : o.path.length ≤ 1048570) : ([Dt.st o.dt] : List Dt).length + bulkL [.st o.dt] ≤ 1048576 := by
  simp only [List.length_singleton, bulkL, Dt.bulk, Ob.dt, len_dP, bulk_dP]; omega
end Go.Proofs.Ytbdjnfnphilklaa.Own
