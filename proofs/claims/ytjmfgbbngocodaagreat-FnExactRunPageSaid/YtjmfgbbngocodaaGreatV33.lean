/-
  Texts of this seat, laid together: ClH
-/
import Derived.Test.YtjmfgbbngocodaaGreatV27
namespace Go.Proofs.YtjmfgbbngocodaaGreat.Own
open Go.ChangeShapes Go.WideShapes Go.ChangeAt Go.RowKit
open Kit Slabs Ints Stack Point Turn
set_option linter.unusedVariables false
set_option linter.unusedSimpArgs false
set_option linter.unnecessarySimpa false
set_option maxRecDepth 100000
attribute [local go_sem ↓] hload_Graphics hload_Object hstore_Graphics hstore_Object hload_Page hstore_Page
theorem GrRows.cells {w : World} {B : Nat} {R : List Value} {g : Gr} {F : List Nat} (h : GrRows w B R g F) : ∃ a0 c0 a5 c5, R = [.slice a0 g.st.length c0, .int .i64 g.q, .int .i64 g.s, .int .i64 g.dx, .int .i64 g.dy, .slice a5 g.path.length c5, .int .i64 g.gray, .int .i64 g.x0, .int .i64 g.y0, .int .i64 g.x1, .int .i64 g.y1] := by
  obtain ⟨a0, c0, f0, a5, c5, P5, rfl, _⟩ := h; exact ⟨a0, c0, a5, c5, rfl⟩
theorem arr_of {R : Array Value} {l : List Value} (h : R.toList = l) : R = l.toArray := by rw [← h]
theorem ob_cells {w : World} {R : List Value} {o : Ob} {F : List Nat} (h : OwnL w LObject R o.dt F) : ∃ a c, R = [.slice a o.path.length c, .int .i64 o.gray, .int .i64 o.x0, .int .i64 o.y0, .int .i64 o.x1, .int .i64 o.y1] := by
  obtain ⟨a0, c0, f0, hA, hf, o0⟩ := inv_Object_ h
  simp only [len_dP] at hA
  exact ⟨a0, c0, hA⟩
def Cq (p : Pg) (B O GA GR : Nat) (G : List Value) (F1 : List Nat) (C : Array Value) (a11 : Option Addr) (c11 : Nat) (a12 : Option Addr) (c12 : Nat) (w : World) (k j : Nat) (wr : World) : Prop :=
  (∃ b11 d11 P11 f11 b12 d12 P12 f12, PgOpen wr B O ⟨p.now, p.saved.take k, p.objs.take j⟩ G F1 b11 d11 P11 f11 b12 d12 P12 f12) ∧ Blk wr GA (C.toList ++ [.slice a11 p.saved.length c11, .slice a12 p.objs.length c12]) ∧ Blk wr GR (#[.slice none 0 0, .int .i64 0, .int .i64 0, .int .i64 0, .int .i64 0, .slice none 0 0, .int .i64 0, .int .i64 0, .int .i64 0, .int .i64 0, .int .i64 0, .slice none 0 0, .slice none 0 0] : Array Value).toList ∧ Below w.heap.size w wr ∧ B ≤ wr.heap.size
theorem Cq.start {p : Pg} {B O GA GR : Nat} {G : List Value} {F1 : List Nat} {C : Array Value} {a11 : Option Addr} {c11 : Nat} {a12 : Option Addr} {c12 : Nat} {w w1 E : World} (g1 : GrRows w1 B G p.now F1) (cx : Below w1.heap.size w1 E) (hO : w1.heap.size = O) (BX : Blk E O (G ++ [.slice none 0 0, .slice none 0 0])) (BA : Blk E GA (C.toList ++ [.slice a11 p.saved.length c11, .slice a12 p.objs.length c12])) (BR : Blk E GR (#[.slice none 0 0, .int .i64 0, .int .i64 0, .int .i64 0, .int .i64 0, .slice none 0 0, .int .i64 0, .int .i64 0, .int .i64 0, .int .i64 0, .int .i64 0, .slice none 0 0, .slice none 0 0] : Array Value).toList) (hb : Below w.heap.size w E) (hB : B ≤ w1.heap.size) :
    Cq p B O GA GR G F1 C a11 c11 a12 c12 w 0 0 E := by
  have hE := cx.size
  refine ⟨⟨none, 0, [], [], none, 0, [], [], ⟨BX, g1.under cx, World.ownsRow_nil _ _ _ _, .nil, World.ownsRow_nil _ _ _ _, .nil, ?_, by simp⟩⟩, BA, BR, hb, by omega⟩
  have h1 : O ∉ F1 := fun h => by have := g1.lt _ h; omega
  have := List.nodup_cons.2 ⟨h1, g1.nodup⟩
  simpa [rowL, Value.ownBlock] using this
theorem PgOpen.store_saved {w w7 : World} {B X : Nat} {p : Pg} {G : List Value} {F0 : List Nat} {a11 : Option Addr} {c11 : Nat} {P11 : List Value} {f11 : List Nat} {a12 : Option Addr} {c12 : Nat} {P12 : List Value} {f12 : List Nat} (h : PgOpen w B X p G F0 a11 c11 P11 f11 a12 c12 P12 f12)
    (gr : w.grownBy w7 (Value.ownBlock (.slice a11 p.saved.length c11))) : Turns w w7 (fun q => q ∈ rowL (.slice a11 p.saved.length c11)) ∧ X ∉ rowL (.slice a11 p.saved.length c11) ∧ Blk w7 X (G ++ [.slice a11 p.saved.length c11, .slice a12 p.objs.length c12]) := by
  have tt : Turns w w7 (fun q => q ∈ rowL (.slice a11 p.saved.length c11)) := (Turns.of_grown gr).mono (fun k hk => by simpa [rowL] using hk)
  have hX := (List.nodup_cons.1 h.nd).1
  have rowX : X ∉ rowL (.slice a11 p.saved.length c11) := fun hx => hX (by simp [hx])
  exact ⟨tt, rowX, h.blk.turned tt rowX⟩
theorem Cq.saved {p : Pg} {B O GA GR : Nat} {G : List Value} {F1 : List Nat} {C : Array Value} {a11 : Option Addr} {c11 : Nat} {a12 : Option Addr} {c12 : Nat} {w wr w5 w6 w7 : World} {k j : Nat} {b11 : Option Addr} {d11 : Nat} {P11 : List Value} {f11 : List Nat} {b12 : Option Addr} {d12 : Nat} {P12 : List Value} {f12 : List Nat}
    (PO : PgOpen wr B O ⟨p.now, p.saved.take k, p.objs.take j⟩ G F1 b11 d11 P11 f11 b12 d12 P12 f12) (BA : Blk wr GA (C.toList ++ [.slice a11 p.saved.length c11, .slice a12 p.objs.length c12])) (BR : Blk wr GR (#[.slice none 0 0, .int .i64 0, .int .i64 0, .int .i64 0, .int .i64 0, .slice none 0 0, .int .i64 0, .int .i64 0, .int .i64 0, .int .i64 0, .int .i64 0, .slice none 0 0, .slice none 0 0] : Array Value).toList) (bw : Below w.heap.size w wr) (hBw : B ≤ wr.heap.size)
    (hk : k < p.saved.length) (hA : GA < B) (hR : GR < B) (hO : B ≤ O) (hw : w.heap.size ≤ B) {R : List Value} {F : List Nat} (oR : OwnL w5 LGraphics R p.saved[k].dt F) (nR : F.Nodup) (gR : ∀ b ∈ F, wr.heap.size ≤ b) (b5 : Below wr.heap.size wr w5) (b6 : Below w5.heap.size w5 w6)
    {a' : Option Addr} {c' : Nat} (r7 : w7.ownsRow B 42 11 (.slice a' (k + 1) c') (k + 1) (P11 ++ R)) (gr : w6.grownBy w7 (Value.ownBlock (.slice b11 k d11))) (sub : ∀ b ∈ rowL (.slice a' (k + 1) c'), b ∈ rowL (.slice b11 k d11) ∨ w6.heap.size ≤ b) :
    Cq p B O GA GR G F1 C a11 c11 a12 c12 w (k + 1) j (w7.setCell ⟨O, 11, none⟩ (.slice a' (k + 1) c')) := by
  have htl : (p.saved.take k).length = k := by rw [List.length_take]; omega
  have e1 : p.saved.take (k + 1) = p.saved.take k ++ [p.saved[k]] := List.take_succ_eq_append_getElem hk
  have b65 := on_of b5 b6
  have P6 := PO.on b65
  obtain ⟨tt, _, _⟩ := P6.store_saved (w7 := w7) (by simpa [htl] using gr)
  have ge : ∀ b ∈ rowL (.slice b11 (p.saved.take k).length d11), B ≤ b := fun b hb => (rowL_ge PO.r11 b hb).1
  have z65 := b65.size
  have bV := ((on_of bw b65).trans (tt.below (by have := bw.size; omega) (fun x hx => by have := ge x hx; omega))).setCell (p := ⟨O, 11, none⟩) (show w.heap.size ≤ O by omega) (.slice a' (k + 1) c')
  have PN := PO.push_saved b5 oR nR gR b6 hBw (a' := a') (c' := c') (by simpa [htl] using r7) (by simpa [htl] using gr) (by simpa [htl] using sub)
  simp only [htl] at PN
  refine ⟨⟨_, _, _, _, _, _, _, _, by rw [e1]; exact PN⟩, ((BA.keep b65).turned tt (fun hx => by have := ge _ hx; omega)).other (by omega) _ _, ((BR.keep b65).turned tt (fun hx => by have := ge _ hx; omega)).other (by omega) _ _, bV, ?_⟩
  have := tt.size
  simp
  omega
theorem PgOpen.store_objs {w w7 : World} {B X : Nat} {p : Pg} {G : List Value} {F0 : List Nat} {a11 : Option Addr} {c11 : Nat} {P11 : List Value} {f11 : List Nat} {a12 : Option Addr} {c12 : Nat} {P12 : List Value} {f12 : List Nat} (h : PgOpen w B X p G F0 a11 c11 P11 f11 a12 c12 P12 f12)
    (gr : w.grownBy w7 (Value.ownBlock (.slice a12 p.objs.length c12))) : Turns w w7 (fun q => q ∈ rowL (.slice a12 p.objs.length c12)) ∧ X ∉ rowL (.slice a12 p.objs.length c12) ∧ Blk w7 X (G ++ [.slice a11 p.saved.length c11, .slice a12 p.objs.length c12]) := by
  have tt : Turns w w7 (fun q => q ∈ rowL (.slice a12 p.objs.length c12)) := (Turns.of_grown gr).mono (fun k hk => by simpa [rowL] using hk)
  have hX := (List.nodup_cons.1 h.nd).1
  have rowX : X ∉ rowL (.slice a12 p.objs.length c12) := fun hx => hX (by simp [hx])
  exact ⟨tt, rowX, h.blk.turned tt rowX⟩
theorem Cq.objs {p : Pg} {B O GA GR : Nat} {G : List Value} {F1 : List Nat} {C : Array Value} {a11 : Option Addr} {c11 : Nat} {a12 : Option Addr} {c12 : Nat} {w wr w5 w6 w7 : World} {k j : Nat} {b11 : Option Addr} {d11 : Nat} {P11 : List Value} {f11 : List Nat} {b12 : Option Addr} {d12 : Nat} {P12 : List Value} {f12 : List Nat}
    (PO : PgOpen wr B O ⟨p.now, p.saved.take k, p.objs.take j⟩ G F1 b11 d11 P11 f11 b12 d12 P12 f12) (BA : Blk wr GA (C.toList ++ [.slice a11 p.saved.length c11, .slice a12 p.objs.length c12])) (BR : Blk wr GR (#[.slice none 0 0, .int .i64 0, .int .i64 0, .int .i64 0, .int .i64 0, .slice none 0 0, .int .i64 0, .int .i64 0, .int .i64 0, .int .i64 0, .int .i64 0, .slice none 0 0, .slice none 0 0] : Array Value).toList) (bw : Below w.heap.size w wr) (hBw : B ≤ wr.heap.size)
    (hk : j < p.objs.length) (hA : GA < B) (hR : GR < B) (hO : B ≤ O) (hw : w.heap.size ≤ B) {R : List Value} {F : List Nat} (oR : OwnL w5 LObject R p.objs[j].dt F) (nR : F.Nodup) (gR : ∀ b ∈ F, wr.heap.size ≤ b) (b5 : Below wr.heap.size wr w5) (b6 : Below w5.heap.size w5 w6)
    {a' : Option Addr} {c' : Nat} (r7 : w7.ownsRow B 101 6 (.slice a' (j + 1) c') (j + 1) (P12 ++ R)) (gr : w6.grownBy w7 (Value.ownBlock (.slice b12 j d12))) (sub : ∀ b ∈ rowL (.slice a' (j + 1) c'), b ∈ rowL (.slice b12 j d12) ∨ w6.heap.size ≤ b) :
    Cq p B O GA GR G F1 C a11 c11 a12 c12 w k (j + 1) (w7.setCell ⟨O, 12, none⟩ (.slice a' (j + 1) c')) := by
  have htl : (p.objs.take j).length = j := by rw [List.length_take]; omega
  have e1 : p.objs.take (j + 1) = p.objs.take j ++ [p.objs[j]] := List.take_succ_eq_append_getElem hk
  have b65 := on_of b5 b6
  have P6 := PO.on b65
  obtain ⟨tt, _, _⟩ := P6.store_objs (w7 := w7) (by simpa [htl] using gr)
  have ge : ∀ b ∈ rowL (.slice b12 (p.objs.take j).length d12), B ≤ b := fun b hb => (rowL_ge PO.r12 b hb).1
  have z65 := b65.size
  have bV := ((on_of bw b65).trans (tt.below (by have := bw.size; omega) (fun x hx => by have := ge x hx; omega))).setCell (p := ⟨O, 12, none⟩) (show w.heap.size ≤ O by omega) (.slice a' (j + 1) c')
  have PN := PO.push_objs b5 oR nR gR b6 hBw (a' := a') (c' := c') (by simpa [htl] using r7) (by simpa [htl] using gr) (by simpa [htl] using sub)
  simp only [htl] at PN
  refine ⟨⟨_, _, _, _, _, _, _, _, by rw [e1]; exact PN⟩, ((BA.keep b65).turned tt (fun hx => by have := ge _ hx; omega)).other (by omega) _ _, ((BR.keep b65).turned tt (fun hx => by have := ge _ hx; omega)).other (by omega) _ _, bV, ?_⟩
  have := tt.size
  simp
  omega
set_option maxHeartbeats 8000000 in
theorem copy_Page (w : World) {A : Array Value} {p : Pg} {fp : List Nat} (hb : bulkL p.dt ≤ 1048576) (h : OwnL w LPage A.toList p.dt fp) :
    Calls Tryz.prog 25 #[.agg A] w (PgNew p w) := by
  obtain ⟨G, a11, c11, a12, c12, f0, f11, f12, hA, hf, o0, o11, o12⟩ := inv_Page_ (by rfl) h
  simp only [Pg.dt, bulkL_app, bulkL, Dt.bulk, len_dG, len_dO] at hb
  simp only [len_dG, len_dO] at hA o11 o12
  obtain ⟨C, hC⟩ : ∃ C, G.toArray = C := ⟨_, rfl⟩
  have tC : C.toList = G := by rw [← hC]
  have nG : C.toList.length = 11 := by rw [tC]; exact o0.len
  rw [← tC] at o0 hA
  obtain ⟨P11, q11, L11, l11, O11, _, e11, _, _⟩ := own_lies o11
  obtain ⟨P12, q12, L12, l12, O12, _, e12, _, _⟩ := own_lies o12
  have l11' : P11.length = p.saved.length * 11 := by simpa [Kd.sz, szL] using l11
  have l12' : P12.length = p.objs.length * 6 := by simpa [Kd.sz, szL] using l12
  have hw2 : ((w.alloc (.cells A 46)).alloc (.cells #[.slice none 0 0, .int .i64 0, .int .i64 0, .int .i64 0, .int .i64 0, .slice none 0 0, .int .i64 0, .int .i64 0, .int .i64 0, .int .i64 0, .int .i64 0, .slice none 0 0, .slice none 0 0] 46)).heap.size = w.heap.size + 2 := by simp
  have BA : Blk ((w.alloc (.cells A 46)).alloc (.cells #[.slice none 0 0, .int .i64 0, .int .i64 0, .int .i64 0, .int .i64 0, .slice none 0 0, .int .i64 0, .int .i64 0, .int .i64 0, .int .i64 0, .int .i64 0, .slice none 0 0, .slice none 0 0] 46)) w.heap.size A.toList := (Blk.new w A 46 rfl).alloc _
  have BR : Blk ((w.alloc (.cells A 46)).alloc (.cells #[.slice none 0 0, .int .i64 0, .int .i64 0, .int .i64 0, .int .i64 0, .slice none 0 0, .int .i64 0, .int .i64 0, .int .i64 0, .int .i64 0, .int .i64 0, .slice none 0 0, .slice none 0 0] 46)) (w.heap.size + 1) (#[.slice none 0 0, .int .i64 0, .int .i64 0, .int .i64 0, .int .i64 0, .slice none 0 0, .int .i64 0, .int .i64 0, .int .i64 0, .int .i64 0, .int .i64 0, .slice none 0 0, .slice none 0 0] : Array Value).toList := Blk.new _ _ 46 (by simp)
  rw [hA] at BA
  have hW : Below w.heap.size w ((w.alloc (.cells A 46)).alloc (.cells #[.slice none 0 0, .int .i64 0, .int .i64 0, .int .i64 0, .int .i64 0, .slice none 0 0, .int .i64 0, .int .i64 0, .int .i64 0, .int .i64 0, .int .i64 0, .slice none 0 0, .slice none 0 0] 46)) := by go_grown
  have HS := Lib.hid (And.intro BA (And.intro BR (And.intro hW hw2)))
  have HX0 := Lib.hid (And.intro o11 o12)
  have HO := Lib.hid (And.intro o0 (And.intro O11 (And.intro O12 nG)))
  have HL := Lib.hid (And.intro L11 (And.intro L12 (And.intro l11' l12')))
  have HE := Lib.hid (And.intro e11 e12)
  clear BA BR hW hw2 L11 L12 l11 l12 l11' l12' e11 e12 hA h hf o0 o11 o12 O11 O12 hC tC nG
  go_enter Tryz.func25, Tryz.ntmps25
  go_upto_region 1 with (fail)
  obtain ⟨W, hWe⟩ : ∃ W, W = ((w.alloc (.cells A 46)).alloc (.cells #[.slice none 0 0, .int .i64 0, .int .i64 0, .int .i64 0, .int .i64 0, .slice none 0 0, .int .i64 0, .int .i64 0, .int .i64 0, .int .i64 0, .int .i64 0, .slice none 0 0, .slice none 0 0] 46)) := ⟨_, rfl⟩
  rw [← hWe] at HS ⊢
  clear hWe
  obtain ⟨GA, hGA⟩ : ∃ x, w.heap.size = x := ⟨_, rfl⟩
  obtain ⟨GR, hGR⟩ : ∃ x, w.heap.size + 1 = x := ⟨_, rfl⟩
  have HS2 : Hid (Blk W GA (C.toList ++ [.slice a11 p.saved.length c11, .slice a12 p.objs.length c12]) ∧ Blk W GR (#[.slice none 0 0, .int .i64 0, .int .i64 0, .int .i64 0, .int .i64 0, .slice none 0 0, .int .i64 0, .int .i64 0, .int .i64 0, .int .i64 0, .int .i64 0, .slice none 0 0, .slice none 0 0] : Array Value).toList) := Lib.hid ⟨hGA ▸ HS.out.1, hGR ▸ HS.out.2.1⟩
  rw [hGR]
  have hWw := Lib.hid HS.out.2.2
  have gA : w.heap.size ≤ GA := by omega
  have gAR : GA < GR := by omega
  have gAW : GA < W.heap.size := by have := hWw.out.2; omega
  have gR : GR < W.heap.size := by have := hWw.out.2; omega
  rw [hGA]
  clear HS hGR hGA
  have ra := hload_run (P := Tryz.prog) (t := 42) Tryz.isAgg42 Tryz.sizeOf42 (w := W) (b := GA) (o := 0) (us := C.toList) (Blk.part (P := []) HS2.out.1 rfl) HO.out.2.2.2
  rw [Array.toArray_toList] at ra
  go_wp2_with fail
  clear ra
  ((with_reducible refine (copy_Graphics W (by omega) (HO.out.1.under hWw.out.1)).mono ?_); rintro e w1 ⟨R1, F1, rfl, g1, b1⟩)
  obtain ⟨m0, d0, m5, d5, eR⟩ := g1.cells
  have eR2 : R1 = #[.slice m0 p.now.st.length d0, .int .i64 p.now.q, .int .i64 p.now.s, .int .i64 p.now.dx, .int .i64 p.now.dy, .slice m5 p.now.path.length d5, .int .i64 p.now.gray, .int .i64 p.now.x0, .int .i64 p.now.y0, .int .i64 p.now.x1, .int .i64 p.now.y1] := by rw [← Array.toList_inj, eR]
  rw [eR] at g1
  subst eR2
  obtain ⟨f0', o0', _, _⟩ := g1.own
  have oP : OwnL w1 LPage ([.slice m0 p.now.st.length d0, .int .i64 p.now.q, .int .i64 p.now.s, .int .i64 p.now.dx, .int .i64 p.now.dy, .slice m5 p.now.path.length d5, .int .i64 p.now.gray, .int .i64 p.now.x0, .int .i64 p.now.y0, .int .i64 p.now.x1, .int .i64 p.now.y1] ++ [.slice none 0 0, .slice none 0 0]) (Pg.dt ⟨p.now, [], []⟩) (f0' ++ ([] ++ [])) := mk_pg (p := ⟨p.now, [], []⟩) o0' (.nil none 0) (.nil none 0)
  obtain ⟨E, st, BX, cx, zx⟩ := var_new (P := Tryz.prog) (T := 46) Tryz.sizeOf46 w1 #[.slice none 0 0, .int .i64 0, .int .i64 0, .int .i64 0, .int .i64 0, .slice none 0 0, .int .i64 0, .int .i64 0, .int .i64 0, .int .i64 0, .int .i64 0, .slice none 0 0, .slice none 0 0] rfl (R := ([.slice m0 p.now.st.length d0, .int .i64 p.now.q, .int .i64 p.now.s, .int .i64 p.now.dx, .int .i64 p.now.dy, .slice m5 p.now.path.length d5, .int .i64 p.now.gray, .int .i64 p.now.x0, .int .i64 p.now.y0, .int .i64 p.now.x1, .int .i64 p.now.y1] ++ [.slice none 0 0, .slice none 0 0] : List Value).toArray) (by simpa using oP) rfl
  simp only [List.cons_append, List.nil_append] at st
  obtain ⟨O, hO⟩ : ∃ O, w1.heap.size = O := ⟨_, rfl⟩
  obtain ⟨XG, hXG⟩ : ∃ XG : List Value, [.slice m0 p.now.st.length d0, .int .i64 p.now.q, .int .i64 p.now.s, .int .i64 p.now.dx, .int .i64 p.now.dy, .slice m5 p.now.path.length d5, .int .i64 p.now.gray, .int .i64 p.now.x0, .int .i64 p.now.y0, .int .i64 p.now.x1, .int .i64 p.now.y1] = XG := ⟨_, rfl⟩
  have z1 := b1.size
  have zE := cx.size
  have HQ : Hid (Cq p W.heap.size O GA GR XG F1 C a11 c11 a12 c12 w 0 0 E) := Lib.hid (Cq.start (hXG ▸ g1) cx hO (by rw [← hXG, ← hO]; simpa using BX) ((HS2.out.1.keep b1).keep cx) ((HS2.out.2.keep b1).keep cx) (on_of (on_of hWw.out.1 b1) cx) (by omega))
  have zO : W.heap.size ≤ O := by omega
  have HXl := Lib.hid g1.len
  rw [hXG] at HXl
  rw [hO] at st
  have k11 := ((HS2.out.1.keep b1).keep cx).1 11 (.slice a11 p.saved.length c11) (by rw [List.getElem?_append_right (by have := HO.out.2.2.2; omega)]; have := HO.out.2.2.2; simp [this])
  obtain ⟨n, hN⟩ : ∃ n, p.saved.length = n := ⟨_, rfl⟩
  obtain ⟨m, hM⟩ : ∃ m, p.objs.length = m := ⟨_, rfl⟩
  have HNn := Lib.hid hN
  have HNm := Lib.hid hM
  rw [hN] at k11
  rw [hN, hM] at hb
  have hWs := hWw.out.1.size
  clear g1 b1 eR o0' oP BX cx zx hXG hN hM
  go_wp2_with fail
  clear st k11 hO
  go_loopw [4] (fun v wr => ∃ k : Nat, k ≤ n ∧ v = .int .i64 (k : Int) ∧ Cq p W.heap.size O GA GR XG F1 C a11 c11 a12 c12 w k 0 wr) (fun v _ => n - (intOf v).toNat)
  case atStart => exact ⟨0, Nat.zero_le _, rfl, HQ.out⟩
  case round =>
    obtain ⟨k, hk, rfl, hQ⟩ := hrel
    have HQk := Lib.hid hQ
    obtain ⟨⟨b11, d11, P11', f11', b12, d12, P12', f12', PO⟩, BA, BR, bw, hBw⟩ := hQ
    have kA := BA.1 11 (.slice a11 p.saved.length c11) (by rw [List.getElem?_append_right (by have := HO.out.2.2.2; omega)]; have := HO.out.2.2.2; simp [this])
    rw [HNn.out] at kA
    by_cases hlt : k < n
    · have hkl : k < p.saved.length := by rw [HNn.out]; exact hlt
      have htl : (p.saved.take k).length = k := by rw [List.length_take]; omega
      obtain ⟨g, D, fq, ha, hgl, oD, _, hbk, hld⟩ := elt_Graphics HX0.out.1 hkl
      subst ha
      have L1 := hld wr.drew (show Below w.heap.size w wr.drew from by have := bw; go_grown)
      have kO := PO.cell11
      have fO := PO.blk.2.1
      have lO := PO.blk.2.2
      simp only [htl] at kO
      have hbk2 : bulkL p.saved[k].dt ≤ 1048576 := by omega
      have i0 : (0 : Int) ≤ (k : Int) := by omega
      have i1 : (k : Int) < (n : Int) := by omega
      have HP := Lib.hid (And.intro PO (And.intro BA (And.intro BR (And.intro bw htl))))
      have HD := Lib.hid (oD.under (show Below w.heap.size w wr.drew from by have := bw; go_grown))
      have HL1 := Lib.hid hld
      clear oD hbk hld PO BA BR bw htl
      go_upto_region 5 with (fail)
      clear HQk
      go_region_law (first
        | (go_simp; go_at_call 62; (with_reducible refine (copy_Graphics wr.drew hbk2 HD.out).mono ?_); rintro e w5 ⟨R, F0', rfl, gR, bb⟩; obtain ⟨r0, s0, r5, s5, eR⟩ := gR.cells; obtain ⟨F, oR, nR, sR⟩ := gR.own; have gF := (fun b hb => gR.ge b (sR b hb)); clear gR sR; obtain rfl := arr_of eR; clear eR; have bb := on_of (W := wr) (by go_grown) bb; have gF' : ∀ b ∈ F, wr.heap.size ≤ b := gF; have kO5 := (HP.out.1.on bb).cell11; have z5 := bb.size; have lO5 : O < w5.heap.size := (by omega); rw [HP.out.2.2.2.2] at kO5; have r5 := row_on HP.out.1.r11 bb; rw [HP.out.2.2.2.2] at r5; have H5 := Lib.hid (And.intro oR (And.intro nR (And.intro gF' (And.intro bb r5)))); clear oR nR gF gF' bb r5)
        | (refine step_append_sl et_grs rfl _ _ rfl W.heap.size b11 k d11 P11' (by rfl) (H5.out.2.2.2.2.alloc _) (some ⟨w5.heap.size, 0, none⟩) 1 1 [.slice r0 p.saved[k].st.length s0, .int .i64 p.saved[k].q, .int .i64 p.saved[k].s, .int .i64 p.saved[k].dx, .int .i64 p.saved[k].dy, .slice r5 p.saved[k].path.length s5, .int .i64 p.saved[k].gray, .int .i64 p.saved[k].x0, .int .i64 p.saved[k].y0, .int .i64 p.saved[k].x1, .int .i64 p.saved[k].y1] (by rfl) (by rfl) (Lies.new w5 _ _ rfl) (fun u hu => H5.out.1.one u hu) (by unfold maxLen; omega) (by omega) (by have := H5.out.2.2.2.1.size; simp; omega) ?_; intro a' c' w7 r7 gr7 sub7; have b6 : Below w5.heap.size w5 (w5.alloc (.cells #[.slice r0 p.saved[k].st.length s0, .int .i64 p.saved[k].q, .int .i64 p.saved[k].s, .int .i64 p.saved[k].dx, .int .i64 p.saved[k].dy, .slice r5 p.saved[k].path.length s5, .int .i64 p.saved[k].gray, .int .i64 p.saved[k].x0, .int .i64 p.saved[k].y0, .int .i64 p.saved[k].x1, .int .i64 p.saved[k].y1] 42)) := (by go_grown); have hs7 := ((HP.out.1.on H5.out.2.2.2.1).on b6).store_saved (w7 := w7) (by rw [HP.out.2.2.2.2]; exact gr7); have k7 := hs7.2.2.1 11 _ (by have := HXl.out; rw [List.getElem?_append_right (by omega)]; simp [this]; rfl); have f7 := hs7.2.2.2.1; have HV := Lib.hid (Cq.saved (C := C) HP.out.1 HP.out.2.1 HP.out.2.2.1 HP.out.2.2.2.1 hBw hkl (by omega) (by omega) zO (by omega) H5.out.1 H5.out.2.1 H5.out.2.2.1 H5.out.2.2.2.1 b6 r7 gr7 sub7); clear hs7 r7 gr7 sub7 b6))
      all_goals
        go_wp2
        go_roundw
        case rel => exact ⟨k + 1, by omega, by go_num, HV.out⟩
        case measure => simp [intOf]; omega
    · obtain rfl : n = k := by omega
      have HQ2 : Hid (Cq p W.heap.size O GA GR XG F1 C a11 c11 a12 c12 w n 0 wr) := HQk
      clear PO BA BR bw HQk
      go_wp2_with fail
      clear kA
      go_loopw [5] (fun v wr => ∃ k : Nat, k ≤ m ∧ v = .int .i64 (k : Int) ∧ Cq p W.heap.size O GA GR XG F1 C a11 c11 a12 c12 w n k wr) (fun v _ => m - (intOf v).toNat)
      case atStart => exact ⟨0, Nat.zero_le _, rfl, HQ2.out⟩
      case round =>
        obtain ⟨k, hk, rfl, hQ⟩ := hrel
        have HQk := Lib.hid hQ
        obtain ⟨⟨b11, d11, P11', f11', b12, d12, P12', f12', PO⟩, BA, BR, bw, hBw⟩ := hQ
        have kA := BA.1 12 (.slice a12 p.objs.length c12) (by rw [List.getElem?_append_right (by have := HO.out.2.2.2; omega)]; have := HO.out.2.2.2; simp [this])
        rw [HNm.out] at kA
        by_cases hlt : k < m
        · have hkl : k < p.objs.length := by rw [HNm.out]; exact hlt
          have htl : (p.objs.take k).length = k := by rw [List.length_take]; omega
          obtain ⟨g, D, fq, ha, hgl, oD, _, hbk, hld⟩ := elt_Object HX0.out.2 hkl
          subst ha
          have L1 := hld wr.drew (show Below w.heap.size w wr.drew from by have := bw; go_grown)
          have kO := PO.cell12
          have fO := PO.blk.2.1
          have lO := PO.blk.2.2
          simp only [htl] at kO
          have hbk2 : bulkL p.objs[k].dt ≤ 1048576 := by omega
          have i0 : (0 : Int) ≤ (k : Int) := by omega
          have i1 : (k : Int) < (m : Int) := by omega
          have HP := Lib.hid (And.intro PO (And.intro BA (And.intro BR (And.intro bw htl))))
          have HD := Lib.hid (oD.under (show Below w.heap.size w wr.drew from by have := bw; go_grown))
          have HL1 := Lib.hid hld
          clear oD hbk hld PO BA BR bw htl
          go_upto_region 9 with (fail)
          clear HQk
          go_region_law (first
            | (go_simp; go_at_call 63; (with_reducible refine (copy_Object wr.drew hbk2 HD.out).mono ?_); rintro e w5 ⟨R, F, rfl, oR, nR, gF, bb⟩; obtain ⟨r0, s0, eR⟩ := ob_cells oR; obtain rfl := arr_of eR; clear eR; have bb := on_of (W := wr) (by go_grown) bb; have gF' : ∀ b ∈ F, wr.heap.size ≤ b := gF; have kO5 := (HP.out.1.on bb).cell12; have z5 := bb.size; have lO5 : O < w5.heap.size := (by omega); rw [HP.out.2.2.2.2] at kO5; have r5 := row_on HP.out.1.r12 bb; rw [HP.out.2.2.2.2] at r5; have H5 := Lib.hid (And.intro oR (And.intro nR (And.intro gF' (And.intro bb r5)))); clear oR nR gF gF' bb r5)
            | (refine step_append_sl et_obs rfl _ _ rfl W.heap.size b12 k d12 P12' (by rfl) (H5.out.2.2.2.2.alloc _) (some ⟨w5.heap.size, 0, none⟩) 1 1 [.slice r0 p.objs[k].path.length s0, .int .i64 p.objs[k].gray, .int .i64 p.objs[k].x0, .int .i64 p.objs[k].y0, .int .i64 p.objs[k].x1, .int .i64 p.objs[k].y1] (by rfl) (by rfl) (Lies.new w5 _ _ rfl) (fun u hu => H5.out.1.one u hu) (by unfold maxLen; omega) (by omega) (by have := H5.out.2.2.2.1.size; simp; omega) ?_; intro a' c' w7 r7 gr7 sub7; have b6 : Below w5.heap.size w5 (w5.alloc (.cells #[.slice r0 p.objs[k].path.length s0, .int .i64 p.objs[k].gray, .int .i64 p.objs[k].x0, .int .i64 p.objs[k].y0, .int .i64 p.objs[k].x1, .int .i64 p.objs[k].y1] 101)) := (by go_grown); have hs7 := ((HP.out.1.on H5.out.2.2.2.1).on b6).store_objs (w7 := w7) (by rw [HP.out.2.2.2.2]; exact gr7); have k7 := hs7.2.2.1 12 _ (by have := HXl.out; rw [List.getElem?_append_right (by omega)]; simp [this]; rfl); have f7 := hs7.2.2.2.1; have HV := Lib.hid (Cq.objs (C := C) HP.out.1 HP.out.2.1 HP.out.2.2.1 HP.out.2.2.2.1 hBw hkl (by omega) (by omega) zO (by omega) H5.out.1 H5.out.2.1 H5.out.2.2.1 H5.out.2.2.2.1 b6 r7 gr7 sub7); clear hs7 r7 gr7 sub7 b6))
          all_goals
            go_wp2
            go_roundw
            case rel => exact ⟨k + 1, by omega, by go_num, HV.out⟩
            case measure => simp [intOf]; omega
        · obtain rfl : m = k := by omega
          obtain ⟨F, PR, hF, hXF⟩ := PO.rows
          have tk1 : p.saved.take p.saved.length = p.saved := List.take_length
          have tk2 : p.objs.take p.objs.length = p.objs := List.take_length
          have BO := PO.blk
          rw [← HNn.out, ← HNm.out, tk1, tk2] at PR BO
          obtain ⟨fV, oV, _, _⟩ := PR.own
          have hgF := PR.ge
          obtain ⟨R, E2, s1, s2, s3, e4, tE, bE⟩ := hand_over (P := Tryz.prog) (T := 46) Tryz.isAgg46 Tryz.sizeOf46 BO BR rfl oV rfl bw (by omega) (by omega)
          have PE := (PR.stays tE.size (fun b hb => tE.block b (PR.lt b hb) (fun e => by have := hgF b hb; have e' : b = GR := e; omega))).base hWs
          rw [← e4] at PE
          have HX := Lib.hid (And.intro PE (And.intro bE s3))
          clear PO PR hF hXF BO BA BR oV bw hgF e4 tE PE bE s3 HQk tk1 tk2
          go_wp2
          refine bodyPost_ret (v := .agg R) ?_ rfl ⟨R, _, rfl, HX.out.1, HX.out.2.1⟩
          exact results_h Tryz.results25 (by rfl) HX.out.2.2
end Go.Proofs.YtjmfgbbngocodaaGreat.Own

