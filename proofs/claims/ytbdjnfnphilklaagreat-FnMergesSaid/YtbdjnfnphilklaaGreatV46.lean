/-
  Texts of this seat, laid together: Dh12, Dm13, Dn13
-/
import Derived.Test.YtbdjnfnphilklaaGreatV34
import Derived.Test.YtbdjnfnphilklaaGreatV40
import Derived.Test.YtbdjnfnphilklaaGreatV42
import Derived.Test.YtbdjnfnphilklaaGreatV44
import Derived.Test.YtbdjnfnphilklaaGreatV43
namespace Go.Proofs.YtbdjnfnphilklaaGreat.Own
open Go.ChangeShapes Go.WideShapes Go.ChangeAt Go.RowKit
open Kit Slabs Ints Draw
open Go.Proofs.YtbdjnfnphilklaaGreat.Ins (Pt obx obK orow)
set_option linter.unusedVariables false
set_option linter.unusedSimpArgs false
set_option linter.unnecessarySimpa false
set_option maxRecDepth 100000
theorem sevenH (w : World) (T : TypeId) : ∀ k, k < 7 → ∃ q : Int, hgB q = true ∧ (w.alloc (.cells #[.int .i64 1, .int .i64 2, .int .i64 4, .int .i64 8, .int .i64 8, .int .i64 16, .int .i64 32] T)).cell? ⟨w.heap.size, k, none⟩ = some (.int .i64 q) := by
  intro k hk
  have : k = 0 ∨ k = 1 ∨ k = 2 ∨ k = 3 ∨ k = 4 ∨ k = 5 ∨ k = 6 := by omega
  rcases this with rfl | rfl | rfl | rfl | rfl | rfl | rfl
  · exact ⟨1, by decide, by simp [go_sem]⟩
  · exact ⟨2, by decide, by simp [go_sem]⟩
  · exact ⟨4, by decide, by simp [go_sem]⟩
  · exact ⟨8, by decide, by simp [go_sem]⟩
  · exact ⟨8, by decide, by simp [go_sem]⟩
  · exact ⟨16, by decide, by simp [go_sem]⟩
  · exact ⟨32, by decide, by simp [go_sem]⟩
theorem height_on (W w0 w : World) (b : Nat) (a : Option Addr) (len cap : Nat) (z : List Int) (d : Drawn W a len cap z b w0 w) :
    Calls Tryz.prog 66 #[.pointer (some ⟨b, 0, none⟩)] w fun e w' => ∃ q : Int, hgB q = true ∧ e = .returned (.int .i64 q) ∧ Drawn W a len cap z b w0 w' := by
  have HD := Lib.hid d
  clear d
  go_enter Tryz.func66, Tryz.ntmps66
  go_wp2_with fail
  (refine (pickP_on (fun q => hgB q = true) W _ _ b a len cap z _ 7 _ (Drawn.ne HD.out) (by decide) (by decide) (sevenH _ _) (HD.out.alloc _)).mono ?_; rintro e w3 ⟨q, hq, rfl, d3⟩)
  have HQ := Lib.hid (And.intro hq d3)
  clear hq d3
  go_wp2
  go_ret
  exact ⟨_, HQ.out.1, rfl, HQ.out.2⟩
theorem pnF_out {ht bd : Int} {o : Ob} (hb : bnB ht bd = true) (h : tbO ht bd o = false) {R : List (List Int)} (hR : (R.length : Int) ≤ ht) : pnF (bd * ht) R o = R := by
  have hB := pgb_obx o.path o.gray o.x0 o.y0 o.x1 o.y1
  unfold tbO tbB tbX at h
  rw [hb, Bool.true_and, decide_eq_false_iff_not] at h
  have hnone : ∀ k, k < R.length → rowsL o.path o.gray o.x0 o.y0 o.x1 o.y1 (bd * ht) k = [] := by
    intro k hk
    unfold rowsL Ins.orow
    rw [if_neg]
    generalize obx o.path o.gray o.x0 o.y0 o.x1 o.y1 = B at *
    generalize bd * ht = r at *
    rcases hB with rfl | ⟨k0, k1, k2, k3, k4, k5⟩
    · rintro ⟨h1, h2⟩
      have h1' : (0 : Int) ≤ r + k := h1
      have h2' : r + (k : Int) < 0 := h2
      omega
    · intro h2
      have hd : 0 < (B.x1 - B.x0) * (B.y1 - B.y0) := Int.mul_pos (by omega) (by omega)
      exact h ⟨hd, by omega, by omega⟩
  unfold pnF pntR pntK
  apply List.ext_getElem
  · simp
  · intro i h1 h2
    rw [List.getElem_mapIdx]
    rw [if_pos h2, hnone i h2, pnt_nil]
theorem rb_one {ht bd : Int} {o : Ob} (hb : bnB ht bd = true) : rbR ht bd [o] = pnF (bd * ht) (whR ht) o ∧ (rbR ht bd [o]).length = ht.toNat := by
  have e : rbR ht bd [o] = pnF (bd * ht) (whR ht) o := by simp [rbR, hb]
  exact ⟨e, by rw [e, pnF_len, whR_len]⟩
theorem rb_out {ht bd : Int} {o : Ob} (hb : bnB ht bd = true) (h : tbO ht bd o = false) : rbR ht bd [o] = whR ht ∧ ofB ht bd [.st o.dt] = [] := by
  obtain ⟨b0, b1, b2, b3, b4, b5⟩ := bn_rows hb
  refine ⟨by rw [(rb_one hb).1]; exact pnF_out hb h (by rw [whR_len]; omega), ?_⟩
  simp [ofB, tbD_st, h]
theorem obs_one (o : Ob) : obsOf [.st o.dt] = [o] := by
  show [obOf (unS (.st o.dt))] = [o]
  show [obOf o.dt] = [o]
  rw [ob_un]
structure FtS (V w : World) (GO B : Nat) (o : Ob) (a : Option Addr) (c : Nat) : Prop where
  O : Blk V GO (sixo o a c)
  P : V.ownsRow B 110 2 (.slice a o.path.length c) o.path.length (Ins.cellsP o.path)
  L : o.path.length ≤ 1048576
  B : Below w.heap.size w V
theorem FtS.on {V W w : World} {GO B : Nat} {o : Ob} {a : Option Addr} {c : Nat} (h : FtS V w GO B o a c) (hb : Below V.heap.size V W) : FtS W w GO B o a c :=
  ⟨h.O.keep hb, row_on h.P hb, h.L, on_of h.B hb⟩
theorem FtS.path {V w : World} {GO B : Nat} {o : Ob} {a : Option Addr} {c : Nat} (h : FtS V w GO B o a c) : Ins.PathAt V a o.path := by
  obtain ⟨a', c', e, hp⟩ := Ins.path_of_owns h.P
  injection e with e1 e2 e3
  subst e1; exact hp
theorem FtS.one {V w : World} {GO B : Nat} {o : Ob} {a : Option Addr} {c : Nat} (h : FtS V w GO B o a c) : ∃ fp, Own (V.alloc (.cells #[.slice a o.path.length c, .int .i64 o.gray, .int .i64 o.x0, .int .i64 o.y0, .int .i64 o.x1, .int .i64 o.y1] 53)) (.sl KObject) [.slice (some ⟨V.heap.size, 0, none⟩) 1 1] (.sl [.st o.dt]) fp := by
  have hb : Below V.heap.size V (V.alloc (.cells #[.slice a o.path.length c, .int .i64 o.gray, .int .i64 o.x0, .int .i64 o.y0, .int .i64 o.x1, .int .i64 o.y1] 53)) := by go_grown
  obtain ⟨f, h1, h2, h3⟩ := Ins.obj_close (row_on h.P hb)
  have hB := Blk.new V #[.slice a o.path.length c, .int .i64 o.gray, .int .i64 o.x0, .int .i64 o.y0, .int .i64 o.x1, .int .i64 o.y1] 53 rfl
  exact ⟨_, .sl rfl (by decide) (Nat.le_refl _) hB.2.2 hB.2.1 (.cons (fun j u hu => by rw [Nat.zero_add]; exact hB.1 j u hu) (.st h1) .nil)⟩
theorem one_bulk {o : Ob} (h : o.path.length ≤ 1048570) : ([Dt.st o.dt] : List Dt).length + bulkL [.st o.dt] ≤ 1048576 := by
  simp only [List.length_singleton, bulkL, Dt.bulk, Ob.dt, len_dP, bulk_dP]; omega
end Go.Proofs.YtbdjnfnphilklaaGreat.Own
namespace Go.Proofs.YtbdjnfnphilklaaGreat.Own
open Go.ChangeShapes Go.WideShapes Go.ChangeAt Go.RowKit
open Kit Slabs Ints Draw Point
open Go.Proofs.YtbdjnfnphilklaaGreat.Ins (gen_any9 ObDrawn object_on drawn_below blk_drawn below_grown)
set_option linter.unusedVariables false
set_option linter.unusedSimpArgs false
set_option linter.unnecessarySimpa false
set_option maxRecDepth 100000
attribute [local go_sem ↓] hload_Band hstore_Band
structure DbS (W : World) (a : Option Addr) (len cap : Nat) (z : List Int) (cb : Nat) (w0 : World) (n0 : Nat) (V : World) (X2 X4 : Nat) (b : Bd) (ra : Option Addr) (rc : Nat) (rf : List Nat) (oa : Option Addr) (oc : Nat) (F2 : List Nat) : Prop where
  B2 : Blk V X2 Z4.toList
  B4 : Blk V X4 [.int .i64 b.h, .int .i64 b.n, .slice ra b.base.length rc, .slice oa b.objs.length oc]
  R : Own V KSS [.slice ra b.base.length rc] (.sl (dR b.base)) rf
  O : ObsRow V n0 oa oc b.objs F2
  N : (rf ++ F2).Nodup
  ge : ∀ x ∈ rf ++ F2, n0 ≤ x
  n2 : X2 ∉ rf ++ F2
  n4 : X4 ∉ rf ++ F2
  ne : X2 ≠ X4
  D : Drawn W a len cap z cb w0 V
  ok : bdB b = true
  c0 : cb < n0
  g2 : n0 ≤ X2
  g4 : n0 ≤ X4
  zw : w0.heap.size ≤ n0
  zW : W.heap.size ≤ n0
theorem obs_drawn {W w0 w : World} {a : Option Addr} {len cap : Nat} {z : List Int} {b B : Nat} {oa : Option Addr} {oc : Nat} {l : List Ob} {F : List Nat} (h : ObsRow w0 B oa oc l F) (d : Drawn W a len cap z b w0 w) (hb : b ∉ F) : ObsRow w B oa oc l F :=
  h.stays d.2.size (fun x hx => d.2.block x (h.lt x hx) (fun e => hb (by injection e with e; rw [← e]; exact hx)))
theorem DbS.next {W : World} {a : Option Addr} {len cap : Nat} {z : List Int} {cb : Nat} {w0 : World} {n0 : Nat} {V V' : World} {X2 X4 : Nat} {b : Bd} {ra : Option Addr} {rc : Nat} {rf : List Nat} {oa : Option Addr} {oc : Nat} {F2 : List Nat} (h : DbS W a len cap z cb w0 n0 V X2 X4 b ra rc rf oa oc F2) (d : Drawn W a len cap z cb V V') : DbS W a len cap z cb w0 n0 V' X2 X4 b ra rc rf oa oc F2 := by
  have c0 := h.c0
  have g2 := h.g2
  have g4 := h.g4
  exact ⟨blk_drawn h.B2 d (by omega), blk_drawn h.B4 d (by omega), h.R.kept d.2 (fun x hx e => by injection e with e; have := h.ge x (List.mem_append_left _ hx); omega), obs_drawn h.O d (fun hm => by have := h.ge cb (List.mem_append_right _ hm); omega), h.N, h.ge, h.n2, h.n4, h.ne, h.D.trans d, h.ok, h.c0, h.g2, h.g4, h.zw, h.zW⟩
theorem DbS.below {W : World} {a : Option Addr} {len cap : Nat} {z : List Int} {cb : Nat} {w0 : World} {n0 : Nat} {V V' : World} {X2 X4 : Nat} {b : Bd} {ra : Option Addr} {rc : Nat} {rf : List Nat} {oa : Option Addr} {oc : Nat} {F2 : List Nat} (h : DbS W a len cap z cb w0 n0 V X2 X4 b ra rc rf oa oc F2) (hb : Below V.heap.size V V') : DbS W a len cap z cb w0 n0 V' X2 X4 b ra rc rf oa oc F2 := h.next (drawn_below h.D.1.same hb)
theorem turns_grown {V E : World} {X : Nat} (t : Turns V E (fun x => x = X)) : V.grownBy E (some X) := ⟨t.os, t.tape, t.output, t.size, fun k hk hne => t.block k hk (fun e => hne (by rw [e]))⟩
theorem DbS.bda {W : World} {a : Option Addr} {len cap : Nat} {z : List Int} {cb : Nat} {w0 : World} {n0 : Nat} {V : World} {X2 X4 : Nat} {b : Bd} {ra : Option Addr} {rc : Nat} {rf : List Nat} {oa : Option Addr} {oc : Nat} {F2 : List Nat} (h : DbS W a len cap z cb w0 n0 V X2 X4 b ra rc rf oa oc F2) : BdA V b ra rc oa oc := by
  obtain ⟨f, ho, _⟩ := h.O.own
  exact ⟨ok_size h.ok, rr_of h.R, f, ho⟩
theorem DbS.put {W : World} {a : Option Addr} {len cap : Nat} {z : List Int} {cb : Nat} {w0 : World} {n0 : Nat} {V w5 E : World} {X2 X4 : Nat} {b b' : Bd} {ra : Option Addr} {rc : Nat} {rf : List Nat} {oa : Option Addr} {oc : Nat} {F2 : List Nat} {ra1 : Option Addr} {rc1 : Nat} {rf1 : List Nat} {oa1 : Option Addr} {oc1 : Nat} {F3 : List Nat} (h : DbS W a len cap z cb w0 n0 V X2 X4 b ra rc rf oa oc F2) (hb : Below V.heap.size V w5) (o2 : Own w5 KSS [.slice ra1 b'.base.length rc1] (.sl (dR b'.base)) rf1) (o3 : ObsRow w5 V.heap.size oa1 oc1 b'.objs F3) (hN : (rf1 ++ F3).Nodup) (hge : ∀ x ∈ rf1 ++ F3, V.heap.size ≤ x) (ok : bdB b' = true)
    (BX : Blk E X4 [.int .i64 b'.h, .int .i64 b'.n, .slice ra1 b'.base.length rc1, .slice oa1 b'.objs.length oc1]) (tE : Turns w5 E (fun x => x = X4)) : DbS W a len cap z cb w0 n0 E X2 X4 b' ra1 rc1 rf1 oa1 oc1 F3 := by
  have h5 := h.below hb
  have l2 := h.B2.2.2
  have l4 := h.B4.2.2
  have c0 := h.c0
  have g4 := h.g4
  have hx : ∀ x ∈ rf1 ++ F3, x ≠ X4 := fun x hx e => by have := hge x hx; omega
  exact ⟨h5.B2.turned tE h.ne, BX, o2.turned tE (fun x hm => hx x (List.mem_append_left _ hm)), (o3.turned tE (fun x hm => hx x (List.mem_append_right _ hm))).base (by omega), hN, fun x hm => by have := hge x hm; omega, fun hm => by have := hge _ hm; omega, fun hm => by have := hge _ hm; omega, h.ne, h5.D.grown (turns_grown tE) (fun k e => by injection e with e; have := h.zw; have := h.zW; exact ⟨by omega, by omega, by omega⟩), ok, h.c0, h.g2, h.g4, h.zw, h.zW⟩
def BdDrawn (W : World) (a : Option Addr) (len cap : Nat) (z : List Int) (cb : Nat) (w0 : World) (n0 : Nat) (e : Ending) (w' : World) : Prop := ∃ (b : Bd) (R : Array Value) (F : List Nat), e = .returned (.agg R) ∧ BdRows w' n0 R.toList b F ∧ bdB b = true ∧ Drawn W a len cap z cb w0 w'
end Go.Proofs.YtbdjnfnphilklaaGreat.Own
namespace Go.Proofs.YtbdjnfnphilklaaGreat.Own
open Go.ChangeShapes Go.WideShapes Go.ChangeAt Go.RowKit
open Kit Slabs Ints Draw Point
open Go.Proofs.YtbdjnfnphilklaaGreat.Ins (gen_any9 ObDrawn object_on drawn_below blk_drawn)
set_option linter.unusedVariables false
set_option linter.unusedSimpArgs false
set_option linter.unnecessarySimpa false
set_option maxRecDepth 100000
attribute [local go_sem ↓] hload_Band hstore_Band
set_option maxHeartbeats 8000000 in
theorem band_on (W w0 w : World) (cb : Nat) (a : Option Addr) (len cap : Nat) (z : List Int) (d : Drawn W a len cap z cb w0 w) :
    Calls Tryz.prog 30 #[.pointer (some ⟨cb, 0, none⟩)] w (BdDrawn W a len cap z cb w0 w.heap.size) := by
  have hbl := d.1.here
  have hWz : W.heap.size ≤ w.heap.size := Nat.le_trans d.1.far (Nat.le_of_lt d.1.here)
  have hz0 := d.2.size
  have HD := Lib.hid (d.alloc (.cells Z4 27))
  have HRb := Lib.hid (Blk.new w Z4 27 rfl)
  have hsz : (w.alloc (.cells Z4 27)).heap.size = w.heap.size + 1 := by simp
  have HZ := Lib.hid (And.intro hbl (And.intro hWz (And.intro hz0 hsz)))
  clear d hbl hWz hz0 hsz
  go_enter Tryz.func30, Tryz.ntmps30
  go_wp2_with fail
  ((refine (height_on W _ _ cb a len cap z HD.out.1.same).mono ?_); rintro e w1 ⟨q, hq, rfl, d1⟩)
  obtain ⟨m1, m0, m2, m3, m4⟩ := cb_mul hq
  have H1 := Lib.hid (And.intro hq (And.intro d1 (And.intro m0 m2)))
  clear hq d1 m0 m1 m2 m3 m4
  go_wp2_with fail
  ((with_reducible refine (cb_spec q _).mono ?_); rintro e w2 ⟨rfl, bb⟩)
  have H2 := Lib.hid (drawn_below H1.out.2.1 bb)
  clear bb
  go_wp2_with fail
  ((with_reducible refine (below_on W _ _ cb a len cap z (cbV q) H2.out).mono ?_); rintro e w3 ⟨r, hr, rfl, d3⟩)
  have hbn : bnB q r = true := by
    obtain ⟨h0, h1, _⟩ := hr
    have := h1 H1.out.2.2.1
    simp [bnB]; omega
  have HB := Lib.hid (And.intro hbn d3)
  have HNb := Lib.hid (newband_spec w3 q r)
  clear hr d3 hbn
  go_wp2_with fail
  ((with_reducible refine HNb.out.mono ?_); rintro e w4 ⟨R, F, rfl, hR, bb⟩)
  obtain ⟨ra1, rc1, rf, oa1, oc1, F2, rfl, o2, o3, hN, hge⟩ := bd_arr hR
  obtain ⟨E, st, BX, bE⟩ := bd_new w4 (nbD q r).h (nbD q r).n ra1 (nbD q r).base.length rc1 oa1 (nbD q r).objs.length oc1
  have s1 := HB.out.2.2.size
  have s4 := bb.size
  have hZ := HZ.out
  have D4 := drawn_below HB.out.2 bb
  have D5 := drawn_below D4 bE
  have hlt := mem2 (p := fun x => x < w4.heap.size) o2.lt o3.lt
  have hS : DbS W a len cap z cb w0 w.heap.size E w.heap.size w4.heap.size (nbD q r) ra1 rc1 rf oa1 oc1 F2 :=
    ⟨blk_drawn HRb.out D5 (by omega), BX, o2.under bE, (o3.under bE).base (by omega), hN, fun x hx => by have := hge x hx; omega, fun hm => by have := hge _ hm; omega, fun hm => by have := hlt _ hm; omega, by omega, HD.out.trans D5, nbD_valid HB.out.1, hZ.1, Nat.le_refl _, by omega, hZ.2.2.1, hZ.2.1⟩
  obtain ⟨b, hb⟩ : ∃ b, nbD q r = b := ⟨_, rfl⟩
  rw [hb] at hS st ⊢
  obtain ⟨X2, hX2⟩ : ∃ x, w.heap.size = x := ⟨_, rfl⟩
  obtain ⟨X4, hX4⟩ : ∃ x, w4.heap.size = x := ⟨_, rfl⟩
  have HS : Hid (DbS W a len cap z cb w0 w.heap.size E X2 X4 b ra1 rc1 rf oa1 oc1 F2) := Lib.hid (by have := hS; rw [hX4] at this; exact hX2 ▸ this)
  clear hR o2 o3 hN hge BX bE D4 D5 hlt hS hb bb s1 s4 hZ HD HRb H1 H2 HB HNb
  rw [hX4] at st
  rw [hX2]
  go_wp2_with fail
  clear st
  ((refine (below_on W _ _ cb a len cap z 14 HS.out.D.1.same).mono ?_); rintro e w5 ⟨r2, hr2, rfl, d5⟩)
  obtain ⟨cnt, rfl⟩ : ∃ cnt : Nat, r2 = (cnt : Int) := ⟨r2.toNat, by have := hr2.1; omega⟩
  have HS := Lib.hid (HS.out.next d5)
  have hc14 : cnt ≤ 14 := by have := hr2.2.1 (by omega); omega
  clear hr2 d5
  go_wp2
  go_loopw [7] (fun v wr => ∃ (k : Nat) (b : Bd) (ra : Option Addr) (rc : Nat) (rf : List Nat) (oa : Option Addr) (oc : Nat) (F2 : List Nat), k ≤ cnt ∧ v = .int .i64 (k : Int) ∧ Hid (DbS W a len cap z cb w0 w.heap.size wr X2 X4 b ra rc rf oa oc F2)) (fun v _ => cnt - (intOf v).toNat)
  case atStart => exact ⟨0, _, _, _, _, _, _, _, Nat.zero_le _, rfl, HS⟩
  case round =>
    obtain ⟨k, b, ra, rc, rf, oa, oc, F2, hk, rfl, hS⟩ := hrel
    by_cases hlt : k < cnt
    · have i1 : (k : Int) < (cnt : Int) := by omega
      have lb := bd_load hS.out.B4
      obtain ⟨_, _, _, _, fz, zz⟩ := three_cells hS.out.B4
      have HDd := Lib.hid (drawn_below hS.out.D.1.same (show Below wr.heap.size wr wr.drew from by go_grown))
      go_upto_region 7 with (fail)
      have lbd := bd_load (hS.out.B4.keep (show Below wr.heap.size wr wr.drew from by go_grown))
      go_region_law (first
        | (go_simp; go_at_call 70; (refine (object_on W _ _ cb a len cap z HDd.out).mono ?_); rintro e w5 ⟨va, vc, l, g, x0, y0, x1, y1, rfl, h3, h6, hSh, hg, hX, hrow, d5⟩; obtain ⟨o, ho⟩ : ∃ o : Ob, o = ⟨l, g, x0, y0, x1, y1⟩ := ⟨_, rfl⟩; have HS5 := Lib.hid (hS.out.next d5); have hE := Ins.obj_close (o := ⟨l, g, x0, y0, x1, y1⟩) hrow; rw [← ho] at hE; obtain ⟨f5, hE, _, _⟩ := hE; have hbk : bulkL o.dt ≤ 1048576 := (by rw [ho]; simp only [Ob.dt, bulkL, Dt.bulk, len_dP, bulk_dP]; omega); have lb5 := bd_load HS5.out.B4; have HAd := Lib.hid (addband_spec w5 b ra rc oa oc HS5.out.bda va vc o f5 hbk hE); have hol : l = o.path := (by rw [ho]); have hog : g = o.gray := (by rw [ho]); have ho0 : x0 = o.x0 := (by rw [ho]); have ho1 : y0 = o.y0 := (by rw [ho]); have ho2 : x1 = o.x1 := (by rw [ho]); have ho3 : y1 = o.y1 := (by rw [ho]); subst hol hog ho0 ho1 ho2 ho3; clear ho hE hrow d5 hSh hX hg h3 h6)
        | (go_simp; go_at_call 21; ((with_reducible refine HAd.out.mono ?_); rintro e w6 ⟨R, F, rfl, hR, bb⟩); obtain ⟨ra1, rc1, rf1, oa1, oc1, F3, rfl, o2, o3, hN, hge⟩ := bd_arr hR; obtain ⟨E, st, BX, tE⟩ := bd_store (HS5.out.B4.keep bb) (adD b o).h (adD b o).n ra1 (adD b o).base.length rc1 oa1 (adD b o).objs.length oc1; have HV := Lib.hid (HS5.out.put bb o2 o3 hN hge (adD_valid HS5.out.ok o) BX tE); clear hR o2 o3 hN hge BX tE bb))
      all_goals
        clear lb lbd fz zz
        go_wp2
        go_roundw
        case rel => exact ⟨k + 1, _, _, _, _, _, _, _, by omega, by go_num, HV⟩
        case measure => simp [intOf]; omega
    · obtain rfl : k = cnt := by omega
      have GV : BdRows wr w.heap.size [.int .i64 b.h, .int .i64 b.n, .slice ra b.base.length rc, .slice oa b.objs.length oc] b (rf ++ F2) := ⟨ra, rc, rf, oa, oc, F2, rfl, hS.out.R, hS.out.O, rfl, hS.out.N, hS.out.ge⟩
      obtain ⟨fV, oV, _, _⟩ := GV.own
      obtain ⟨E9, st, BX, tE⟩ := bd_store hS.out.B2 b.h b.n ra b.base.length rc oa b.objs.length oc
      have lb := bd_load hS.out.B4
      have ld := bd_load BX
      have hX2n : w.heap.size ≤ X2 := hS.out.g2
      have hc0 := hS.out.c0
      have hzw := hS.out.zw
      have hzW := hS.out.zW
      have HX := Lib.hid (show BdDrawn W a len cap z cb w0 w.heap.size (.returned (.agg #[.int .i64 b.h, .int .i64 b.n, .slice ra b.base.length rc, .slice oa b.objs.length oc])) E9 from ⟨b, _, rf ++ F2, rfl, GV.turned tE (fun x hx e => hS.out.n2 (by have e' : x = X2 := e; rw [← e']; exact hx)), hS.out.ok, hS.out.D.grown (turns_grown tE) (fun k e => by injection e with e; exact ⟨by omega, by omega, by omega⟩)⟩)
      have HLd := Lib.hid ld
      clear GV oV BX tE ld hX2n hc0 hzw hzW
      go_wp2
      refine bodyPost_ret (v := .agg _) ?_ rfl HX.out
      exact results_h Tryz.results30 (by rfl) HLd.out
set_option maxHeartbeats 4000000 in
theorem drawband_any (w : World) (a : Option Addr) (len cap : Nat) (z : List Int) (hr : IsRow .u8 w a len cap z) :
    Calls Tryz.prog 8 #[.slice a len cap] w fun e w' => ∃ (b : Bd) (R : Array Value) (F : List Nat), e = .returned (.agg R) ∧ BdRows w' w.heap.size R.toList b F ∧ bdB b = true ∧ Below w.heap.size w w' := by
  have hb0 : Below w.heap.size w (w.alloc (.cells Z4 27)) := by go_grown
  have HR := Lib.hid (IsRow.keep hr hb0)
  have HRb := Lib.hid (Blk.new w Z4 27 rfl)
  have HB0 := Lib.hid hb0
  have hsz : (w.alloc (.cells Z4 27)).heap.size = w.heap.size + 1 := by simp
  have HZ := Lib.hid hsz
  clear hr hb0 hsz
  go_enter Tryz.func8, Tryz.ntmps8
  go_wp2_with fail
  (refine (new_any _ _ _ _ z HR.out).mono ?_; rintro e w1 ⟨rfl, dr⟩; simp only [World.size_alloc] at dr)
  have HD := Lib.hid (And.intro dr.same dr.below)
  clear dr
  go_wp2_with fail
  ((with_reducible refine (band_on _ _ _ _ a len cap z HD.out.1).mono ?_); rintro e w2 ⟨b, R, F, rfl, hR, ok, d2⟩)
  obtain ⟨ra1, rc1, rf, oa1, oc1, F2, rfl, o2, o3, hN, hge⟩ := bd_arr hR
  have hb2 : Below (w.heap.size + 1) (w.alloc (.cells Z4 27)) w2 := by have := d2.1.below; rwa [HZ.out] at this
  have hs1 := HD.out.2.size
  have hz := HZ.out
  obtain ⟨E, st, BX, tE⟩ := bd_store (HRb.out.keep (by rw [hz]; exact hb2)) b.h b.n ra1 b.base.length rc1 oa1 b.objs.length oc1
  have ld := bd_load BX
  have GV : BdRows w2 w.heap.size [.int .i64 b.h, .int .i64 b.n, .slice ra1 b.base.length rc1, .slice oa1 b.objs.length oc1] b (rf ++ F2) := ⟨ra1, rc1, rf, oa1, oc1, F2, rfl, o2, o3.base (by omega), rfl, hN, fun x hx => by have := hge x hx; omega⟩
  have HX := Lib.hid (And.intro (show BdRows E w.heap.size [.int .i64 b.h, .int .i64 b.n, .slice ra1 b.base.length rc1, .slice oa1 b.objs.length oc1] b (rf ++ F2) from GV.turned tE (fun x hx e => by have e' : x = w.heap.size := e; have := hge x hx; omega)) (And.intro ok ((HB0.out.trans (hb2.mono (by omega))).trans (tE.below (by have := hb2.size; omega) (fun x e => by have e' : x = w.heap.size := e; omega)))))
  have HLd := Lib.hid ld
  clear hR o2 o3 hN hge GV BX tE ld hb2 d2 ok
  go_wp2
  refine bodyPost_ret (v := .agg _) ?_ rfl ⟨b, _, _, rfl, HX.out.1, HX.out.2.1, HX.out.2.2⟩
  exact results_h Tryz.results8 (by rfl) HLd.out
end Go.Proofs.YtbdjnfnphilklaaGreat.Own
