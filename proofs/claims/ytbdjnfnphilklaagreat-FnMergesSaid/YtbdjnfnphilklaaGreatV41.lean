/-
  Texts of this seat, laid together: Sl13, Sm13
-/
import Derived.Deep.RegionLaw
import Derived.Test.YtbdjnfnphilklaaGreatV38
import Derived.Test.YtbdjnfnphilklaaGreatV39
import Derived.Test.YtbdjnfnphilklaaGreatV40
namespace Go.Proofs.YtbdjnfnphilklaaGreat.Own
open Go.ChangeShapes Go.WideShapes Go.ChangeAt Go.RowKit
open Kit Slabs Ints Point
open Go.Proofs.YtbdjnfnphilklaaGreat.Ins (gen_any9)
set_option linter.unusedVariables false
set_option linter.unusedSimpArgs false
set_option linter.unnecessarySimpa false
set_option maxRecDepth 100000
attribute [local go_sem ↓] hload_Band hstore_Band
structure CqB (w V : World) (B X0 GR X3 : Nat) (b : Bd) (ra : Option Addr) (rc : Nat) (oa : Option Addr) (oc : Nat) (of : List Nat) (ra1 : Option Addr) (rc1 : Nat) (rf : List Nat) (k : Nat) (oa1 : Option Addr) (oc1 : Nat) (F2 : List Nat) : Prop where
  B0 : Blk V X0 [.int .i64 b.h, .int .i64 b.n, .slice ra b.base.length rc, .slice oa b.objs.length oc]
  BR : Blk V GR Z4.toList
  B3 : Blk V X3 [.int .i64 b.h, .int .i64 b.n, .slice ra1 b.base.length rc1, .slice oa1 k oc1]
  R : Own V KSS [.slice ra1 b.base.length rc1] (.sl (dR b.base)) rf
  L : Own V (.sl KObject) [.slice oa b.objs.length oc] (.sl (dO b.objs)) of
  O : ObsRow V B oa1 oc1 (b.objs.take k) F2
  K : k ≤ b.objs.length
  N : (rf ++ F2).Nodup
  gR : ∀ x ∈ rf, B ≤ x
  nX : X3 ∉ rf ++ F2
  n0 : X0 < B
  nG : GR < B
  n3 : B ≤ X3
  fo : ∀ x ∈ of, x < B
  wB : w.heap.size ≤ B
  wX : w.heap.size ≤ X0
  W : Below w.heap.size w V
theorem CqB.on {w V V' : World} {B X0 GR X3 : Nat} {b : Bd} {ra : Option Addr} {rc : Nat} {oa : Option Addr} {oc : Nat} {of : List Nat} {ra1 : Option Addr} {rc1 : Nat} {rf : List Nat} {k : Nat} {oa1 : Option Addr} {oc1 : Nat} {F2 : List Nat} (h : CqB w V B X0 GR X3 b ra rc oa oc of ra1 rc1 rf k oa1 oc1 F2) (hb : Below V.heap.size V V') : CqB w V' B X0 GR X3 b ra rc oa oc of ra1 rc1 rf k oa1 oc1 F2 :=
  ⟨h.B0.keep hb, h.BR.keep hb, h.B3.keep hb, h.R.under hb, h.L.under hb, h.O.under hb, h.K, h.N, h.gR, h.nX, h.n0, h.nG, h.n3, h.fo, h.wB, h.wX, on_of h.W hb⟩
theorem take_snoc {l : List Ob} {k : Nat} (hk : k < l.length) : l.take (k + 1) = l.take k ++ [l.getD k ob0] := by
  rw [List.take_succ_eq_append_getElem hk]; simp [List.getD, List.getElem?_eq_getElem hk]
theorem CqB.next {w V : World} {B X0 GR X3 : Nat} {b : Bd} {ra : Option Addr} {rc : Nat} {oa : Option Addr} {oc : Nat} {of : List Nat} {ra1 : Option Addr} {rc1 : Nat} {rf : List Nat} {k : Nat} {oa1 : Option Addr} {oc1 : Nat} {F2 : List Nat} (h : CqB w V B X0 GR X3 b ra rc oa oc of ra1 rc1 rf k oa1 oc1 F2) (hk : k < b.objs.length) :
    ∃ P, V.ownsRow B 53 6 (.slice oa1 k oc1) k P ∧ ∀ (w6 w7 : World) (a' : Option Addr) (c' : Nat) (us : List Value) (F : List Nat), Below V.heap.size V w6 → OwnL w6 LObject us (b.objs.getD k ob0).dt F → F.Nodup → (∀ x ∈ F, V.heap.size ≤ x) →
      w7.ownsRow B 53 6 (.slice a' (k + 1) c') (k + 1) (P ++ us) → w6.grownBy w7 (Value.ownBlock (.slice oa1 k oc1)) → (∀ x ∈ rowL (.slice a' (k + 1) c'), x ∈ rowL (.slice oa1 k oc1) ∨ w6.heap.size ≤ x) →
      Blk w7 X3 [.int .i64 b.h, .int .i64 b.n, .slice ra1 b.base.length rc1, .slice oa1 k oc1] ∧ ∃ F', CqB w (w7.setCell ⟨X3, 3, none⟩ (.slice a' (k + 1) c')) B X0 GR X3 b ra rc oa oc of ra1 rc1 rf (k + 1) a' c' F' := by
  have hl : (b.objs.take k).length = k := by rw [List.length_take]; omega
  obtain ⟨P, r, hnext⟩ := h.O.next
  rw [hl] at r hnext
  have hlt3 := h.B3.2.2
  have hz : B ≤ V.heap.size := by have := h.n3; omega
  have hX2 : X3 ∉ F2 := fun hm => h.nX (List.mem_append_right _ hm)
  have hXr : X3 ∉ rf := fun hm => h.nX (List.mem_append_left _ hm)
  refine ⟨P, r, fun w6 w7 a' c' us F b6 ho hn hg r7 gr sub => ?_⟩
  obtain ⟨F', hO', hF', hT⟩ := hnext w6 w7 a' c' us (b.objs.getD k ob0) F b6 ho hn hg hz r7 gr sub
  rw [← take_snoc hk] at hO'
  obtain ⟨n1, n2, nd⟩ := nodup_parts h.N
  have gF2 : ∀ x ∈ F2, B ≤ x := h.O.ge
  have gF' : X3 ∉ F' := fun hx => (hF' X3 hx).elim (fun e => hX2 e) (fun e => by omega)
  have BX := h.B3.turned hT hX2
  have tS : Turns w7 (w7.setCell ⟨X3, 3, none⟩ (.slice a' (k + 1) c')) (fun x => x = X3) := Turns.one (Turns.refl w7 (fun x => x = X3)) 3 _
  refine ⟨BX, F', ⟨(h.B0.turned hT (fun hm => by have := gF2 _ hm; have := h.n0; omega)).turned tS (fun e => by have e' : X0 = X3 := e; have := h.n0; have := h.n3; omega), (h.BR.turned hT (fun hm => by have := gF2 _ hm; have := h.nG; omega)).turned tS (fun e => by have e' : GR = X3 := e; have := h.nG; have := h.n3; omega), ?_, (h.R.turned hT nd).turned tS (fun x hx e => hXr (by have e' : x = X3 := e; rw [← e']; exact hx)), (h.L.turned hT (fun x hx hm => by have := gF2 _ hm; have := h.fo x hx; omega)).turned tS (fun x hx e => by have e' : x = X3 := e; have := h.fo x hx; have := h.n3; omega), hO'.turned tS (fun x hx e => gF' (by have e' : x = X3 := e; rw [← e']; exact hx)), hk, ?_, h.gR, fun hm => (List.mem_append.1 hm).elim hXr gF', h.n0, h.nG, h.n3, h.fo, h.wB, h.wX, ?_⟩⟩
  · have := Blk.put (P := [.int .i64 b.h, .int .i64 b.n, .slice ra1 b.base.length rc1]) (R := []) BX rfl (.slice a' (k + 1) c')
    simpa using this
  · exact app_nodup n1 hO'.nodup (fun x hx hm => by
      rcases hF' x hm with e | e
      · exact nd x hx e
      · have := h.R.lt x hx; omega)
  · exact (h.W.trans (hT.below h.W.size (fun x hx => Nat.le_trans h.wB (gF2 x hx)))).setCell (p := ⟨X3, 3, none⟩) (Nat.le_trans h.wB h.n3) _
def CpI (W E : World) (X : Nat) (h n : Int) (ra : Option Addr) (m rc : Nat) (es : List Dt) (f : List Nat) : Prop := Own E KSS [.slice ra m rc] (.sl es) f ∧ f.Nodup ∧ (∀ x ∈ f, W.heap.size ≤ x) ∧ X ∉ f ∧ Blk E X [.int .i64 h, .int .i64 n, .slice ra m rc, .slice none 0 0] ∧ W.heap.size ≤ X ∧ Below W.heap.size W E
theorem cp_put {W wz : World} {X c : Nat} {ra : Option Addr} {m rc : Nat} {es : List Dt} {f : List Nat} (h n : Int) (BZ : Blk wz X Z4.toList ∧ W.heap.size ≤ X ∧ X < c) (o : Own wz KSS [.slice ra m rc] (.sl es) f) (nf : f.Nodup) (g : ∀ x ∈ f, c ≤ x) (hB : Below W.heap.size W wz) :
    ∃ E, (hstore 27 ⟨X, 0, none⟩ (.agg #[.int .i64 h, .int .i64 n, .slice ra m rc, .slice none 0 0])).run Tryz.prog wz = .ok () E ∧ CpI W E X h n ra m rc es f := by
  obtain ⟨E, st, BX, tE⟩ := bd_store BZ.1 h n ra m rc none 0 0
  have hx : X ∉ f := fun hm => by have := g X hm; have := BZ.2.2; omega
  exact ⟨E, st, o.turned tE (fun x hx2 e => hx (by have e' : x = X := e; rw [← e']; exact hx2)), nf, fun x hx2 => by have := g x hx2; have := BZ.2.1; have := BZ.2.2; omega, hx, BX, BZ.2.1, hB.trans (tE.below hB.size (fun x e => by have e' : x = X := e; rw [e']; exact BZ.2.1))⟩
theorem cp_late {W wz : World} {c : Nat} {ra : Option Addr} {m rc : Nat} {es : List Dt} {f : List Nat} (h n : Int) (o : Own wz KSS [.slice ra m rc] (.sl es) f) (nf : f.Nodup) (g : ∀ x ∈ f, c ≤ x) (hc : W.heap.size ≤ c) (hB : Below W.heap.size W wz) :
    ∃ E, (hstore 27 ⟨wz.heap.size, 0, none⟩ (.agg #[.int .i64 h, .int .i64 n, .slice ra m rc, .slice none 0 0])).run Tryz.prog (wz.alloc (.cells Z4 27)) = .ok () E ∧ CpI W E wz.heap.size h n ra m rc es f := by
  obtain ⟨E, st, BX, bE⟩ := bd_new wz h n ra m rc none 0 0
  exact ⟨E, st, o.under bE, nf, fun x hx2 => by have := g x hx2; omega, fun hm => by have := o.lt _ hm; omega, BX, hB.size, on_of hB bE⟩
set_option maxHeartbeats 8000000 in
theorem copy_Band (w : World) (b : Bd) (ra : Option Addr) (rc : Nat) (oa : Option Addr) (oc : Nat) (h : BdA w b ra rc oa oc) :
    Calls Tryz.prog 43 #[.agg #[.int .i64 b.h, .int .i64 b.n, .slice ra b.base.length rc, .slice oa b.objs.length oc]] w (BdNew b w) := by
  have hs := h.s
  have BA : Blk ((w.alloc (.cells #[.int .i64 b.h, .int .i64 b.n, .slice ra b.base.length rc, .slice oa b.objs.length oc] 27)).alloc (.cells Z4 27)) w.heap.size [.int .i64 b.h, .int .i64 b.n, .slice ra b.base.length rc, .slice oa b.objs.length oc] := (Blk.new w _ 27 rfl).alloc _
  have BR : Blk ((w.alloc (.cells #[.int .i64 b.h, .int .i64 b.n, .slice ra b.base.length rc, .slice oa b.objs.length oc] 27)).alloc (.cells Z4 27)) (w.heap.size + 1) Z4.toList := Blk.new _ _ 27 (by simp)
  have hW : Below w.heap.size w ((w.alloc (.cells #[.int .i64 b.h, .int .i64 b.n, .slice ra b.base.length rc, .slice oa b.objs.length oc] 27)).alloc (.cells Z4 27)) := by go_grown
  obtain ⟨of, hof⟩ := h.o
  have hofl := hof.lt
  have HS := Lib.hid (And.intro BA (And.intro BR (And.intro (h.r.on hW) (And.intro (hof.under hW) (And.intro hofl hW)))))
  clear BA BR hW h hof hofl
  go_enter Tryz.func43, Tryz.ntmps43
  go_upto_region 1 with (fail)
  obtain ⟨W, hWe⟩ : ∃ W, W = ((w.alloc (.cells #[.int .i64 b.h, .int .i64 b.n, .slice ra b.base.length rc, .slice oa b.objs.length oc] 27)).alloc (.cells Z4 27)) := ⟨_, rfl⟩
  rw [← hWe] at HS ⊢
  clear hWe
  obtain ⟨X0, hX0⟩ : ∃ x, w.heap.size = x := ⟨_, rfl⟩
  obtain ⟨GR, hGR⟩ : ∃ x, w.heap.size + 1 = x := ⟨_, rfl⟩
  have HS : Hid (Blk W X0 [.int .i64 b.h, .int .i64 b.n, .slice ra b.base.length rc, .slice oa b.objs.length oc] ∧ Blk W GR Z4.toList ∧ RR W ra b.base ∧ Own W (.sl KObject) [.slice oa b.objs.length oc] (.sl (dO b.objs)) of ∧ (∀ x ∈ of, x < w.heap.size) ∧ Below w.heap.size w W) := Lib.hid ⟨hX0 ▸ HS.out.1, hGR ▸ HS.out.2.1, HS.out.2.2⟩
  have gX : w.heap.size ≤ X0 := by omega
  have gG : w.heap.size ≤ GR := by omega
  rw [hGR, hX0]
  clear hGR hX0
  have HK : Hid (∀ V, Below W.heap.size W V → V.cell? ⟨X0, 0, none⟩ = some (.int .i64 b.h) ∧ V.cell? ⟨X0, 1, none⟩ = some (.int .i64 b.n) ∧ V.cell? ⟨X0, 2, none⟩ = some (.slice ra b.base.length rc)) := Lib.hid fun V hV => by
    obtain ⟨x0, x1, x2, x3, _, _⟩ := three_cells (HS.out.1.keep hV)
    exact ⟨x0, x1, x2⟩
  have HCR := Lib.hid (fun (V : World) (hV : Below W.heap.size W V) => copyrows_spec V ra rc b.base (by omega) (by omega) (HS.out.2.2.1.on hV))
  obtain ⟨x0, x1, x2, _, _, xz⟩ := three_cells HS.out.1
  go_cut [3] (fun s3 wx => ∃ (X : Nat) (ra1 : Option Addr) (rc1 : Nat) (f : List Nat), s3 = .pointer (some ⟨X, 0, none⟩) ∧ CpI W wx X b.h b.n ra1 b.base.length rc1 (dR b.base) f)
  case first =>
    go_region_held3 (fun w' => (w'.cell? ⟨X0, 0, none⟩ = some (.int .i64 b.h) ∧ w'.cell? ⟨X0, 1, none⟩ = some (.int .i64 b.n) ∧ w'.cell? ⟨X0, 2, none⟩ = some (.slice ra b.base.length rc)) ∧ Below W.heap.size W w') (first | exact ⟨HK.out _ hE, hE⟩ | exact ⟨HK.out _ hB, hB⟩ | exact ⟨HK.out _ (by go_grown), by go_grown⟩)
      ((go_at_call 79; (with_reducible refine (HCR.out _ (by first | exact hB | exact Below.refl _ _ | go_grown)).mono ?_); rintro e wz ⟨aR, cR, fR, rfl, oR, nR, gR, bz⟩; have hm : W.heap.size ≤ _ := (by first | exact hB.size | exact Nat.le_refl _); have hB := on_of (W := W) (by first | exact hB | go_grown) bz; have hz := hB.size; (first
          | (have BZ := made0 (B := W.heap.size) hm bz; obtain ⟨E, st, hI⟩ := cp_put b.h b.n BZ oR nR gR hB)
          | (have BZ := made1 (B := W.heap.size) hm bz; obtain ⟨E, st, hI⟩ := cp_put b.h b.n BZ oR nR gR hB)
          | (obtain ⟨E, st, hI⟩ := cp_late (W := W) b.h b.n oR nR gR hm hB)); have HR := Lib.hid hI; have hE := hI.2.2.2.2.2.2; clear hI))
    all_goals (go_wp2_with fail; go_meet; exact ⟨_, _, _, _, rfl, HR.out⟩)
  case rest =>
    obtain ⟨X3, ra1, rc1, rf, rfl, hR, hn, hge, hx3, hB3, g3, bb⟩ := hcut
    have hwW := HS.out.2.2.2.2.2.size
    have Q0 : CqB w wc W.heap.size X0 GR X3 b ra rc oa oc of ra1 rc1 rf 0 none 0 [] :=
      ⟨HS.out.1.keep bb, HS.out.2.1.keep bb, hB3, hR, HS.out.2.2.2.1.under bb, by rw [List.take_zero]; exact ObsRow.nil _ _, Nat.zero_le _, by simpa using hn, hge, by simpa using hx3, HS.out.1.2.2, HS.out.2.1.2.2, g3, fun x hx => by have := HS.out.2.2.2.2.1 x hx; omega, hwW, gX, on_of HS.out.2.2.2.2.2 bb⟩
    have HQ0 := Lib.hid Q0
    have hob : b.objs.length + bulkL (dO b.objs) ≤ 1048576 := by omega
    have hol : b.objs.length ≤ 1048576 := by omega
    have HOB := Lib.hid hob
    clear Q0 hR hn hge hx3 hB3 bb x0 x1 x2 xz HK HCR hob
    go_wp2
    go_loopw [4] (fun v wr => ∃ (k : Nat) (oa1 : Option Addr) (oc1 : Nat) (F2 : List Nat), k ≤ b.objs.length ∧ v = .int .i64 (k : Int) ∧ Hid (CqB w wr W.heap.size X0 GR X3 b ra rc oa oc of ra1 rc1 rf k oa1 oc1 F2)) (fun v _ => b.objs.length - (intOf v).toNat)
    case atStart => exact ⟨0, none, 0, [], Nat.zero_le _, rfl, HQ0⟩
    case round =>
      obtain ⟨k, oa1, oc1, F2, hk, rfl, hQ⟩ := hrel
      obtain ⟨_, _, _, x3, _, xz⟩ := three_cells hQ.out.B0
      by_cases hlt : k < b.objs.length
      · obtain ⟨g, pa, pc, fq, rfl, hg, h6, hoo, hpl, hfq⟩ := path_at_turn rfl HOB.out hQ.out.L hlt
        obtain ⟨P, hP, hnext⟩ := hQ.out.next hlt
        obtain ⟨o, hx⟩ : ∃ o, b.objs.getD k ob0 = o := ⟨_, rfl⟩
        rw [hx] at h6 hoo hpl hnext
        have q0 : wr.cell? ⟨g, k * 6, none⟩ = some (.slice pa o.path.length pc) := h6 0 _ rfl
        have q1 : wr.cell? ⟨g, k * 6 + 1, none⟩ = some (.int .i64 o.gray) := h6 1 _ rfl
        have q2 : wr.cell? ⟨g, k * 6 + 2, none⟩ = some (.int .i64 o.x0) := h6 2 _ rfl
        have q3 : wr.cell? ⟨g, k * 6 + 3, none⟩ = some (.int .i64 o.y0) := h6 3 _ rfl
        have q4 : wr.cell? ⟨g, k * 6 + 4, none⟩ = some (.int .i64 o.x1) := h6 4 _ rfl
        have q5 : wr.cell? ⟨g, k * 6 + 5, none⟩ = some (.int .i64 o.y1) := h6 5 _ rfl
        have hbk : bulkL o.dt ≤ 1048576 := by simp only [Ob.dt, bulkL, Dt.bulk, len_dP, bulk_dP]; omega
        have i0 : (0 : Int) ≤ (k : Int) := by omega
        have i1 : (k : Int) < (b.objs.length : Int) := by omega
        have HD := Lib.hid (show OwnL wr.drew LObject (#[.slice pa o.path.length pc, .int .i64 o.gray, .int .i64 o.x0, .int .i64 o.y0, .int .i64 o.x1, .int .i64 o.y1] : Array Value).toList o.dt fq from hoo.under (show Below wr.heap.size wr wr.drew from by go_grown))
        have HN := Lib.hid (And.intro hP hnext)
        obtain ⟨z0, z1, z2, z3, zf, zz⟩ := three_cells hQ.out.B3
        have hBV : W.heap.size ≤ wr.heap.size := by omega
        clear hx h6 hoo hfq hP hnext
        go_upto_region 5 with (fail)
        go_region_law (first
          | (go_simp; go_at_call 55; (with_reducible refine (copy_Object wr.drew hbk HD.out).mono ?_); rintro e w5 ⟨R, F, rfl, oR, nR, gF, bb⟩; obtain ⟨r0, s0, rfl⟩ := ob_six oR; have bb := on_of (W := wr) (by go_grown) bb; have gF' : ∀ x ∈ F, wr.heap.size ≤ x := gF; have z5 := bb.size; obtain ⟨y0, y1, y2, y3, yf, yz⟩ := three_cells (hQ.out.B3.keep bb); have r5 := row_on HN.out.1 bb; have H5 := Lib.hid (And.intro oR (And.intro nR (And.intro gF' (And.intro bb r5)))); clear oR nR gF gF' bb r5)
          | (refine step_append_sl et_obs rfl _ _ rfl W.heap.size oa1 k oc1 P (by rfl) (H5.out.2.2.2.2.alloc _) (some ⟨w5.heap.size, 0, none⟩) 1 1 [.slice r0 o.path.length s0, .int .i64 o.gray, .int .i64 o.x0, .int .i64 o.y0, .int .i64 o.x1, .int .i64 o.y1] (by rfl) (by rfl) (Lies.new w5 _ _ rfl) (fun u hu => H5.out.1.one u hu) (by unfold maxLen; omega) (by omega) (by simp; omega) ?_; intro a' c' w7 r7 gr7 sub7; have b6 : Below w5.heap.size w5 (w5.alloc (.cells #[.slice r0 o.path.length s0, .int .i64 o.gray, .int .i64 o.x0, .int .i64 o.y0, .int .i64 o.x1, .int .i64 o.y1] 53)) := (by go_grown); have hs7 := HN.out.2 _ w7 a' c' _ F (on_of H5.out.2.2.2.1 b6) (H5.out.1.under b6) H5.out.2.1 H5.out.2.2.1 r7 gr7 sub7; obtain ⟨u0, u1, u2, u3, uf, uz⟩ := three_cells hs7.1; obtain ⟨F9, hF9⟩ := hs7.2; have HV := Lib.hid hF9; clear hF9 hs7 r7 gr7 sub7 b6))
        all_goals
          go_wp2
          go_roundw
          case rel => exact ⟨k + 1, a', c', F9, by omega, by go_num, HV⟩
          case measure => simp [intOf]; omega
      · obtain rfl : k = b.objs.length := by omega
        have hO := hQ.out.O
        rw [List.take_length] at hO
        have hN := hQ.out.N
        obtain ⟨R, E2, s1, s2, s3, hE, bE⟩ := bd_fin (w := w) hQ.out.B3 hQ.out.BR hQ.out.R (hO.base hQ.out.wB) hN (mem2 (p := fun x => w.heap.size ≤ x) (fun x hx => Nat.le_trans hQ.out.wB (hQ.out.gR x hx)) (fun x hx => Nat.le_trans hQ.out.wB (hO.ge x hx))) (fun hm => by
          have hG := hQ.out.nG
          rcases List.mem_append.1 hm with e | e
          · have := hQ.out.gR _ e; omega
          · have := hO.ge _ e; omega) gG hQ.out.W
        have HX := Lib.hid (And.intro hE (And.intro bE s3))
        clear hE bE s3 hO hN
        go_wp2
        refine bodyPost_ret (v := .agg R) ?_ rfl ⟨R, _, rfl, HX.out.1, HX.out.2.1⟩
        exact results_h Tryz.results43 (by rfl) HX.out.2.2
end Go.Proofs.YtbdjnfnphilklaaGreat.Own
namespace Go.Proofs.YtbdjnfnphilklaaGreat.Own
open Go.ChangeShapes Go.WideShapes Go.ChangeAt Go.RowKit
open Kit Slabs Ints Point
open Go.Proofs.YtbdjnfnphilklaaGreat.Ins (gen_any9)
set_option linter.unusedVariables false
set_option linter.unusedSimpArgs false
set_option linter.unnecessarySimpa false
set_option maxRecDepth 100000
attribute [local go_sem ↓] hload_Band hstore_Band
structure MpS (w V : World) (X0 GR X3 : Nat) (ht bd : Int) (m n : Nat) (l : List Ob) (ra : Option Addr) (rc : Nat) (oa : Option Addr) (oc : Nat) (of : List Nat) (oa1 : Option Addr) (oc1 : Nat) (R : List (List Int)) (ra1 : Option Addr) (rc1 : Nat) (rf : List Nat) : Prop where
  B0 : Blk V X0 [.int .i64 ht, .int .i64 bd, .slice ra m rc, .slice oa n oc]
  BR : Blk V GR Z4.toList
  B3 : Blk V X3 [.int .i64 ht, .int .i64 bd, .slice ra1 m rc1, .slice oa1 n oc1]
  R : Own V KSS [.slice ra1 m rc1] (.sl (dR R)) rf
  L : Own V (.sl KObject) [.slice oa n oc] (.sl (dO l)) of
  N : rf.Nodup
  ge : ∀ x ∈ rf, w.heap.size ≤ x
  nX : X3 ∉ rf
  nG : GR ∉ rf
  nL : X3 ∉ of
  ne : GR ≠ X3
  n0 : X0 ≠ X3
  gG : w.heap.size ≤ GR
  g3 : w.heap.size ≤ X3
  W : Below w.heap.size w V
theorem MpS.on {w V V' : World} {X0 GR X3 : Nat} {ht bd : Int} {m n : Nat} {l : List Ob} {ra : Option Addr} {rc : Nat} {oa : Option Addr} {oc : Nat} {of : List Nat} {oa1 : Option Addr} {oc1 : Nat} {R : List (List Int)} {ra1 : Option Addr} {rc1 : Nat} {rf : List Nat} (h : MpS w V X0 GR X3 ht bd m n l ra rc oa oc of oa1 oc1 R ra1 rc1 rf) (hb : Below V.heap.size V V') : MpS w V' X0 GR X3 ht bd m n l ra rc oa oc of oa1 oc1 R ra1 rc1 rf :=
  ⟨h.B0.keep hb, h.BR.keep hb, h.B3.keep hb, h.R.under hb, h.L.under hb, h.N, h.ge, h.nX, h.nG, h.nL, h.ne, h.n0, h.gG, h.g3, on_of h.W hb⟩
theorem MpS.next {w V V' : World} {X0 GR X3 : Nat} {ht bd : Int} {m n : Nat} {l : List Ob} {ra : Option Addr} {rc : Nat} {oa : Option Addr} {oc : Nat} {of : List Nat} {oa1 : Option Addr} {oc1 : Nat} {R R' : List (List Int)} {ra1 ra2 : Option Addr} {rc1 rc2 : Nat} {rf f : List Nat} (h : MpS w V X0 GR X3 ht bd m n l ra rc oa oc of oa1 oc1 R ra1 rc1 rf) (hb : Below V.heap.size V V')
    (o : Own V' KSS [.slice ra2 m rc2] (.sl (dR R')) f) (nf : f.Nodup) (g : ∀ x ∈ f, V.heap.size ≤ x) : MpS w (V'.setCell ⟨X3, 2, none⟩ (.slice ra2 m rc2)) X0 GR X3 ht bd m n l ra rc oa oc of oa1 oc1 R' ra2 rc2 f := by
  have h1 := h.on hb
  have hx : X3 ∉ f := fun hm => by have := g X3 hm; have := h.B3.2.2; omega
  have hg : GR ∉ f := fun hm => by have := g GR hm; have := h.BR.2.2; omega
  exact ⟨h1.B0.other (fun e => h.n0 e.symm) 2 _, h1.BR.other (fun e => h.ne e.symm) 2 _, Blk.put (P := [.int .i64 ht, .int .i64 bd]) (R := [.slice oa1 n oc1]) h1.B3 rfl _, own_setN o hx 2 _, own_setN h1.L h.nL 2 _, nf, fun x hx => Nat.le_trans h.W.size (g x hx), hx, hg, h.nL, h.ne, h.n0, h.gG, h.g3, h1.W.setCell (p := ⟨X3, 2, none⟩) h.g3 _⟩
theorem ObsRow.made (w : World) {B : Nat} (h : B ≤ w.heap.size) : ObsRow (w.alloc (.cells #[] 53)) B (some ⟨w.heap.size, 0, none⟩) 0 [] [w.heap.size] :=
  ⟨[], [], World.ownsRow_made w #[] (e := 53) (size := 6) 0 h (by decide) (by simp), .nil, rfl, by simp, fun x hx => by rw [List.mem_singleton.1 hx]; exact h⟩
set_option maxHeartbeats 4000000 in
theorem mergeband_spec (w : World) (b : Bd) (ra : Option Addr) (rc : Nat) (oa : Option Addr) (oc : Nat) (h : BdA w b ra rc oa oc) :
    Calls Tryz.prog 15 #[.agg #[.int .i64 b.h, .int .i64 b.n, .slice ra b.base.length rc, .slice oa b.objs.length oc]] w (BdNew (mgD b) w) := by
  have BA : Blk ((w.alloc (.cells #[.int .i64 b.h, .int .i64 b.n, .slice ra b.base.length rc, .slice oa b.objs.length oc] 27)).alloc (.cells Z4 27)) w.heap.size [.int .i64 b.h, .int .i64 b.n, .slice ra b.base.length rc, .slice oa b.objs.length oc] := (Blk.new w _ 27 rfl).alloc _
  have BR : Blk ((w.alloc (.cells #[.int .i64 b.h, .int .i64 b.n, .slice ra b.base.length rc, .slice oa b.objs.length oc] 27)).alloc (.cells Z4 27)) (w.heap.size + 1) Z4.toList := Blk.new _ _ 27 (by simp)
  have hW : Below w.heap.size w ((w.alloc (.cells #[.int .i64 b.h, .int .i64 b.n, .slice ra b.base.length rc, .slice oa b.objs.length oc] 27)).alloc (.cells Z4 27)) := by go_grown
  obtain ⟨of, hof⟩ := h.o
  have hofl := hof.lt
  have HS := Lib.hid (And.intro BA (And.intro BR (And.intro (h.on hW) hW)))
  have HOf := Lib.hid (And.intro hof hofl)
  have hs := h.s
  clear BA BR hW h hof hofl
  go_enter Tryz.func15, Tryz.ntmps15
  go_upto_region 1 with (fail)
  obtain ⟨W, hWe⟩ : ∃ W, W = ((w.alloc (.cells #[.int .i64 b.h, .int .i64 b.n, .slice ra b.base.length rc, .slice oa b.objs.length oc] 27)).alloc (.cells Z4 27)) := ⟨_, rfl⟩
  rw [← hWe] at HS ⊢
  clear hWe
  obtain ⟨X0, hX0⟩ : ∃ x, w.heap.size = x := ⟨_, rfl⟩
  obtain ⟨GR, hGR⟩ : ∃ x, w.heap.size + 1 = x := ⟨_, rfl⟩
  have HS : Hid (Blk W X0 [.int .i64 b.h, .int .i64 b.n, .slice ra b.base.length rc, .slice oa b.objs.length oc] ∧ Blk W GR Z4.toList ∧ BdA W b ra rc oa oc ∧ Below w.heap.size w W) := Lib.hid ⟨hX0 ▸ HS.out.1, hGR ▸ HS.out.2.1, HS.out.2.2⟩
  have gX : w.heap.size ≤ X0 := by omega
  have gG : w.heap.size ≤ GR := by omega
  rw [hGR, hX0]
  have lb := bd_load HS.out.1
  clear hGR hX0
  go_wp2_with fail
  clear lb
  ((with_reducible refine (copy_Band W b ra rc oa oc HS.out.2.2.1).mono ?_); rintro e w1 ⟨R, F, rfl, hR, b1⟩)
  obtain ⟨ra1, rc1, rf, oa1, oc1, F2, rfl, o2, o3, hN, hge⟩ := bd_arr hR
  obtain ⟨E, st, BX, bE⟩ := bd_new w1 b.h b.n ra1 b.base.length rc1 oa1 b.objs.length oc1
  have HM := Lib.hid (MbS.start HS.out.1 HS.out.2.1 HS.out.2.2.1 HS.out.2.2.2 gG b1 o2 o3 hN hge BX bE)
  have h01 : X0 < w1.heap.size := by have := HS.out.1.2.2; have := b1.size; omega
  have h0w : w.heap.size ≤ w1.heap.size := by have := HS.out.2.2.2.size; have := b1.size; omega
  have lb := bd_load HM.out.B0
  clear hR o2 o3 hN hge BX bE b1 HS
  go_wp2_with fail
  clear lb st
  ((with_reducible refine (bok_spec E b ra rc oa oc HM.out.A).mono ?_); rintro e w2 ⟨rfl, bb⟩)
  obtain ⟨X6, hX6⟩ : ∃ x, w1.heap.size = x := ⟨_, rfl⟩
  rw [hX6] at HM h01 h0w
  simp only [hX6]
  have HM := Lib.hid (HM.out.on bb)
  clear bb hX6
  cases hb : bdB b
  · have HV := Lib.hid (show mgD b = b from by simp [mgD, hb])
    obtain ⟨R, E2, s1, s2, s3, hE, bE⟩ := bd_fin HM.out.B6 HM.out.BR HM.out.R HM.out.O HM.out.N HM.out.ge HM.out.nG HM.out.gG HM.out.W
    have HX := Lib.hid (And.intro hE (And.intro bE s3))
    clear hE bE s3 hb
    go_wp2
    refine bodyPost_ret (v := .agg R) ?_ rfl ⟨R, _, rfl, by rw [HV.out]; exact HX.out.1, HX.out.2.1⟩
    exact results_h Tryz.results15 (by rfl) HX.out.2.2
  · have HV := Lib.hid (show mgD b = ⟨b.h, b.n, mgR b, []⟩ from by simp [mgD, hb])
    obtain ⟨p1, p2, p3, p4, p5⟩ := bd_parts hb
    obtain ⟨b0, b1, b2, b3, b4, b5⟩ := bn_rows p1
    obtain ⟨n1, n2, nd⟩ := nodup_parts HM.out.N
    have hml := mgR_len b
    have HT : Hid (mgR b = b.objs.foldl (pnF (b.n * b.h)) b.base) := Lib.hid rfl
    have e1 : IntKind.i64.wrap (b.h * b.n) = b.n * b.h := by rw [Int.mul_comm]; exact IntWalk.i64_in _ ⟨by omega, by omega⟩
    have hF : Hid (0 ≤ b.n * b.h ∧ b.n * b.h ≤ 32) := Lib.hid ⟨b3, by omega⟩
    have S0 : MpS w w2 X0 GR X6 b.h b.n b.base.length b.objs.length b.objs ra rc oa oc of oa1 oc1 b.base ra1 rc1 rf :=
      ⟨HM.out.B0, HM.out.BR, HM.out.B6, HM.out.R, HOf.out.1.under HM.out.W, n1, fun x hx => HM.out.ge x (List.mem_append_left _ hx), fun hm => HM.out.n6 (List.mem_append_left _ hm), fun hm => HM.out.nG (List.mem_append_left _ hm), fun hm => by have := HOf.out.2 _ hm; have := HM.out.g6; omega, HM.out.ne, by omega, HM.out.gG, HM.out.g6, HM.out.W⟩
    have HS0 := Lib.hid S0
    have hob : b.objs.length + bulkL (dO b.objs) ≤ 1048576 := by omega
    have h32 := (rows32 p3).2
    have hm32 : b.base.length ≤ 32 := by omega
    obtain ⟨n, hN⟩ : ∃ n, b.objs.length = n := ⟨_, rfl⟩
    obtain ⟨m, hM⟩ : ∃ m, b.base.length = m := ⟨_, rfl⟩
    have HN := Lib.hid (And.intro hN (And.intro hM (And.intro hob (And.intro h32 p3))))
    have hn0 : n ≤ 1048576 := by omega
    rw [hN, hM] at HS0
    rw [hM] at hm32 hml
    clear S0 hb hob h32 p1 p2 p3 p4 p5 n1 n2 nd HM hs
    generalize mgD b = D at *
    generalize mgR b = T at *
    generalize b.n * b.h = f at *
    generalize b.base = R0 at *
    generalize b.objs = l at *
    generalize b.h = ht at *
    generalize b.n = bd at *
    clear hN hM b0 b1 b2 b3 b4 b5
    go_wp2
    go_loopw [4] (fun v wr => ∃ (k : Nat) (ra1 : Option Addr) (rc1 : Nat) (rf : List Nat), k ≤ n ∧ v = .int .i64 (k : Int) ∧ Hid (MpS w wr X0 GR X6 ht bd m n l ra rc oa oc of oa1 oc1 ((l.take k).foldl (pnF f) R0) ra1 rc1 rf)) (fun v _ => n - (intOf v).toNat)
    case atStart => exact ⟨0, _, _, _, Nat.zero_le _, rfl, HS0⟩
    case round =>
      obtain ⟨k, ra1, rc1, rf, hk, rfl, hL⟩ := hrel
      obtain ⟨x0, x1, _, x3, _, xz⟩ := three_cells hL.out.B0
      by_cases hlt : k < n
      · have hkl : k < l.length := by rw [HN.out.1]; exact hlt
        obtain ⟨g, pa, pc, fq, rfl, hg, h6, hoo, hpl, hfq⟩ := path_at_turn HN.out.1 HN.out.2.2.1 hL.out.L hkl
        have htk : (l.take (k + 1)).foldl (pnF f) R0 = pnF f ((l.take k).foldl (pnF f) R0) (l.getD k ob0) := by
          rw [List.take_succ_eq_append_getElem hkl, List.foldl_append]
          simp [List.getD, List.getElem?_eq_getElem hkl]
        obtain ⟨f1, f2⟩ := foldF f (l.take k) HN.out.2.1 HN.out.2.2.2.1
        have hrb := rowsB_foldF f (l.take k) HN.out.2.2.2.2
        obtain ⟨o, hx⟩ : ∃ o, l.getD k ob0 = o := ⟨_, rfl⟩
        rw [hx] at h6 hoo hpl htk
        obtain ⟨R, hR⟩ : ∃ R, (l.take k).foldl (pnF f) R0 = R := ⟨_, rfl⟩
        rw [hR] at f1 f2 htk hL hrb
        have htot := tot_32 f2
        have q0 : wr.cell? ⟨g, k * 6, none⟩ = some (.slice pa o.path.length pc) := h6 0 _ rfl
        have q1 : wr.cell? ⟨g, k * 6 + 1, none⟩ = some (.int .i64 o.gray) := h6 1 _ rfl
        have q2 : wr.cell? ⟨g, k * 6 + 2, none⟩ = some (.int .i64 o.x0) := h6 2 _ rfl
        have q3 : wr.cell? ⟨g, k * 6 + 3, none⟩ = some (.int .i64 o.y0) := h6 3 _ rfl
        have q4 : wr.cell? ⟨g, k * 6 + 4, none⟩ = some (.int .i64 o.x1) := h6 4 _ rfl
        have q5 : wr.cell? ⟨g, k * 6 + 5, none⟩ = some (.int .i64 o.y1) := h6 5 _ rfl
        have i0 : (0 : Int) ≤ (k : Int) := by omega
        have i1 : (k : Int) < (n : Int) := by omega
        have hPt := fun (V : World) (hV : Below wr.heap.size wr V) => paintobj_spec V ra1 rc1 R f pa pc o.path o.gray o.x0 o.y0 o.x1 o.y1 hpl (by omega) (by omega) (rr_of (c := rc1) (fp := rf) (by rw [f1]; exact hL.out.R.under hV)) ((six_path hoo).on hV)
        rw [poR_F o hrb hF.out, f1] at hPt
        generalize poB R f o.path o.gray o.x0 o.y0 o.x1 o.y1 = okv at hPt
        have HPt := Lib.hid hPt
        have HX := Lib.hid (And.intro htk (show (pnF f R o).length = m by rw [pnF_len]; exact f1))
        obtain ⟨z0, z1, z2, z3, zf, zz⟩ := three_cells hL.out.B3
        clear hx hR hpl h6 hPt f1 f2 htk hrb htot hoo hfq
        go_upto_region 7 with (fail)
        have hgX : g ≠ X6 := fun e => by
          obtain ⟨_, hr⟩ := hL.out.L.row
          obtain ⟨g9, hg9, hm9⟩ := hr (by omega)
          injection hg9 with hg9
          injection hg9 with hg9
          exact hL.out.nL (by rw [← e, hg9]; exact hm9)
        have HK : Hid (∀ w', Turns wr w' (fun x => x = X6) → (w'.cell? ⟨X0, 0, none⟩ = some (.int .i64 ht) ∧ w'.cell? ⟨X0, 1, none⟩ = some (.int .i64 bd) ∧ w'.cell? ⟨X0, 3, none⟩ = some (.slice (some ⟨g, 0, none⟩) n oc)) ∧ (w'.cell? ⟨g, k * 6, none⟩ = some (.slice pa o.path.length pc) ∧ w'.cell? ⟨g, k * 6 + 1, none⟩ = some (.int .i64 o.gray) ∧ w'.cell? ⟨g, k * 6 + 2, none⟩ = some (.int .i64 o.x0) ∧ w'.cell? ⟨g, k * 6 + 3, none⟩ = some (.int .i64 o.y0) ∧ w'.cell? ⟨g, k * 6 + 4, none⟩ = some (.int .i64 o.x1) ∧ w'.cell? ⟨g, k * 6 + 5, none⟩ = some (.int .i64 o.y1))) := Lib.hid fun w' hw' => by
          obtain ⟨a0, a1, _, a3, _, _⟩ := three_cells (hL.out.B0.turned hw' hL.out.n0)
          have c := fun (j : Nat) => World.cell?_of_block (w := wr) (w' := w') (a := ⟨g, j, none⟩) (hw'.block g hg hgX)
          exact ⟨⟨a0, a1, a3⟩, (c _).trans q0, (c _).trans q1, (c _).trans q2, (c _).trans q3, (c _).trans q4, (c _).trans q5⟩
        refine wp_region_held_drew (S := (fun w' => (w'.cell? ⟨X0, 0, none⟩ = some (.int .i64 ht) ∧ w'.cell? ⟨X0, 1, none⟩ = some (.int .i64 bd) ∧ w'.cell? ⟨X0, 3, none⟩ = some (.slice (some ⟨g, 0, none⟩) n oc)) ∧ (w'.cell? ⟨g, k * 6, none⟩ = some (.slice pa o.path.length pc) ∧ w'.cell? ⟨g, k * 6 + 1, none⟩ = some (.int .i64 o.gray) ∧ w'.cell? ⟨g, k * 6 + 2, none⟩ = some (.int .i64 o.x0) ∧ w'.cell? ⟨g, k * 6 + 3, none⟩ = some (.int .i64 o.y0) ∧ w'.cell? ⟨g, k * 6 + 4, none⟩ = some (.int .i64 o.x1) ∧ w'.cell? ⟨g, k * 6 + 5, none⟩ = some (.int .i64 o.y1)))) (by kernel_rfl) ?_ (fun hHeld => ?_)
        · (try dsimp only); exact HK.out _ (Turns.of_below (by go_grown))
        refine wpAnyH_take (i := 0) (oi := _) (v := ?_) rfl (by kernel_rfl) (by kernel_rfl) (by kernel_rfl) (fun _ _ _ h => h) (Or.inl ⟨by rfl, ?_⟩) (by assumption) ?_
        rotate_left
        · (intro w hSw; (try dsimp only at hSw); go_simp; try with_reducible rfl)
        try simp only [Act.put, List.setIfInBounds_toArray, List.set_cons_zero, List.set_cons_succ]
        refine wpAnyH_take (i := 2) (oi := _) (v := ?_) rfl (by kernel_rfl) (by kernel_rfl) (by kernel_rfl) (fun _ _ _ h => h) (Or.inl ⟨by rfl, ?_⟩) (by assumption) ?_
        rotate_left
        · (intro w hSw; (try dsimp only at hSw); go_simp; try with_reducible rfl)
        try simp only [Act.put, List.setIfInBounds_toArray, List.set_cons_zero, List.set_cons_succ]
        refine wpAnyH_take (i := 3) (oi := _) (v := ?_) rfl (by kernel_rfl) (by kernel_rfl) (by kernel_rfl) (fun _ _ _ h => h) (Or.inl ⟨by rfl, ?_⟩) (by assumption) ?_
        rotate_left
        · (intro w hSw; (try dsimp only at hSw); go_simp; try with_reducible rfl)
        try simp only [Act.put, List.setIfInBounds_toArray, List.set_cons_zero, List.set_cons_succ]
        refine wpAnyH_take (i := 4) (oi := _) (v := ?_) rfl (by kernel_rfl) (by kernel_rfl) (by kernel_rfl) (fun _ _ _ h => h) (Or.inl ⟨by rfl, ?_⟩) (by assumption) ?_
        rotate_left
        · (intro w hSw; (try dsimp only at hSw); go_simp; try with_reducible rfl)
        try simp only [Act.put, List.setIfInBounds_toArray, List.set_cons_zero, List.set_cons_succ]
        refine wpAnyH_take (i := 5) (oi := _) (v := ?_) rfl (by kernel_rfl) (by kernel_rfl) (by kernel_rfl) (fun _ _ _ h => h) (Or.inl ⟨by rfl, ?_⟩) (by assumption) ?_
        rotate_left
        · (intro w hSw; (try dsimp only at hSw); go_simp; try with_reducible rfl)
        try simp only [Act.put, List.setIfInBounds_toArray, List.set_cons_zero, List.set_cons_succ]
        refine wpAnyH_take (i := 6) (oi := _) (v := ?_) rfl (by kernel_rfl) (by kernel_rfl) (by kernel_rfl) (fun _ _ _ h => h) (Or.inl ⟨by rfl, ?_⟩) (by assumption) ?_
        rotate_left
        · (intro w hSw; (try dsimp only at hSw); go_simp; try with_reducible rfl)
        try simp only [Act.put, List.setIfInBounds_toArray, List.set_cons_zero, List.set_cons_succ]
        refine wpAnyH_take (i := 7) (oi := _) (v := ?_) rfl (by kernel_rfl) (by kernel_rfl) (by kernel_rfl) (fun _ _ _ h => h) (Or.inl ⟨by rfl, ?_⟩) (by assumption) ?_
        rotate_left
        · (intro w hSw; (try dsimp only at hSw); go_simp; try with_reducible rfl)
        try simp only [Act.put, List.setIfInBounds_toArray, List.set_cons_zero, List.set_cons_succ]
        refine wpAnyH_take (i := 8) (oi := _) (v := ?_) rfl (by kernel_rfl) (by kernel_rfl) (by kernel_rfl) (fun _ _ _ h => h) (Or.inl ⟨by rfl, ?_⟩) (by assumption) ?_
        rotate_left
        · (intro w hSw; (try dsimp only at hSw); go_simp; try with_reducible rfl)
        try simp only [Act.put, List.setIfInBounds_toArray, List.set_cons_zero, List.set_cons_succ]
        refine wpAnyH_take (i := 9) (oi := _) (v := ?_) rfl (by kernel_rfl) (by kernel_rfl) (by kernel_rfl) (fun _ _ _ h => h) (Or.inl ⟨by rfl, ?_⟩) (by assumption) ?_
        rotate_left
        · (intro w hSw; (try dsimp only at hSw); go_simp; try with_reducible rfl)
        try simp only [Act.put, List.setIfInBounds_toArray, List.set_cons_zero, List.set_cons_succ]
        refine wpAnyH_take (i := 10) (oi := _) (v := ?_) rfl (by kernel_rfl) (by kernel_rfl) (by kernel_rfl) (fun _ _ _ h => h) (Or.inl ⟨by rfl, ?_⟩) (by assumption) ?_
        rotate_left
        · (intro w hSw; (try dsimp only at hSw); go_simp; try with_reducible rfl)
        try simp only [Act.put, List.setIfInBounds_toArray, List.set_cons_zero, List.set_cons_succ]
        refine wpAnyH_take (i := 11) (oi := _) (v := ?_) rfl (by kernel_rfl) (by kernel_rfl) (by kernel_rfl) (fun _ _ _ h => h) (Or.inl ⟨by rfl, ?_⟩) (by assumption) ?_
        rotate_left
        · (intro w hSw; (try dsimp only at hSw); go_simp; try with_reducible rfl)
        try simp only [Act.put, List.setIfInBounds_toArray, List.set_cons_zero, List.set_cons_succ]
        refine wpAnyH_ready (rs := [1]) (by kernel_rfl) (by simp) ?_
        refine AllReadyH.cons (o := _) rfl (fun KK hKK => ?_) AllReadyH.nil
        go_simp
        (skip)
        try go_wp2_with fail
        refine hKK.out _ _ ?_ (fun hHeld2 => ?_)
        · (try dsimp only); (first | exact HS8.out _ | exact HS9.out | exact HK.out _ (Turns.of_below (by go_grown)))
        clear hKK KK
        try simp only [Act.put, List.setIfInBounds_toArray, List.set_cons_zero, List.set_cons_succ]
        refine wpAnyH_ready (rs := [12]) (by kernel_rfl) (by simp) ?_
        refine AllReadyH.cons (o := _) rfl (fun KK hKK => ?_) AllReadyH.nil
        go_simp
        (go_at_call 45; (with_reducible refine (HPt.out _ (show Below wr.heap.size wr wr.drew from by go_grown)).mono ?_); rintro e w5 ⟨a5, c5, f5, rfl, o5, n5, g5, bb⟩; have bb := on_of (W := wr) (by go_grown) bb; have g5' : ∀ x ∈ f5, wr.heap.size ≤ x := g5; rw [HX.out.2] at o5 ⊢; have z5 := bb.size; obtain ⟨y0, y1, y2, y3, yf, yz⟩ := three_cells (hL.out.B3.keep bb); have HS9 := Lib.hid (HK.out _ (Turns.of_below bb)); have HS8 := Lib.hid (fun v => HK.out _ (Turns.one (Turns.of_below bb) 2 v)); have HN5 := hL.out.next bb o5 n5 g5'; rw [← HX.out.1] at HN5; have HV5 := Lib.hid HN5; clear HN5 o5 n5 g5 g5' bb)
        try go_wp2_with fail
        refine hKK.out _ _ ?_ (fun hHeld2 => ?_)
        · (try dsimp only); (first | exact HS8.out _ | exact HS9.out | exact HK.out _ (Turns.of_below (by go_grown)))
        clear hKK KK
        try simp only [Act.put, List.setIfInBounds_toArray, List.set_cons_zero, List.set_cons_succ]
        refine wpAnyH_take (i := 13) (oi := _) (v := ?_) rfl (by kernel_rfl) (by kernel_rfl) (by kernel_rfl) (fun _ _ _ h => h) (Or.inl ⟨by rfl, ?_⟩) (by assumption) ?_
        rotate_left
        · (intro w hSw; (try dsimp only at hSw); go_simp; try with_reducible rfl)
        try simp only [Act.put, List.setIfInBounds_toArray, List.set_cons_zero, List.set_cons_succ]
        refine wpAnyH_take (i := 14) (oi := _) (v := ?_) rfl (by kernel_rfl) (by kernel_rfl) (by kernel_rfl) (fun _ _ _ h => h) (Or.inl ⟨by rfl, ?_⟩) (by assumption) ?_
        rotate_left
        · (intro w hSw; (try dsimp only at hSw); go_simp; try with_reducible rfl)
        try simp only [Act.put, List.setIfInBounds_toArray, List.set_cons_zero, List.set_cons_succ]
        refine wpAnyH_take (i := 15) (oi := _) (v := ?_) rfl (by kernel_rfl) (by kernel_rfl) (by kernel_rfl) (fun _ _ _ h => h) (Or.inl ⟨by rfl, ?_⟩) (by assumption) ?_
        rotate_left
        · (intro w hSw; (try dsimp only at hSw); go_simp; try with_reducible rfl)
        try simp only [Act.put, List.setIfInBounds_toArray, List.set_cons_zero, List.set_cons_succ]
        refine wpAnyH_take (i := 16) (oi := _) (v := ?_) rfl (by kernel_rfl) (by kernel_rfl) (by kernel_rfl) (fun _ _ _ h => h) (Or.inl ⟨by rfl, ?_⟩) (by assumption) ?_
        rotate_left
        · (intro w hSw; (try dsimp only at hSw); go_simp; try with_reducible rfl)
        try simp only [Act.put, List.setIfInBounds_toArray, List.set_cons_zero, List.set_cons_succ]
        refine wpAnyH_ready (rs := [17]) (by kernel_rfl) (by simp) ?_
        refine AllReadyH.cons (o := _) rfl (fun KK hKK => ?_) AllReadyH.nil
        go_simp
        (skip)
        try go_wp2_with fail
        refine hKK.out _ _ ?_ (fun hHeld2 => ?_)
        · (try dsimp only); (first | exact HS8.out _ | exact HS9.out | exact HK.out _ (Turns.of_below (by go_grown)))
        clear hKK KK
        try simp only [Act.put, List.setIfInBounds_toArray, List.set_cons_zero, List.set_cons_succ]
        refine wpAnyH_done (by kernel_rfl) ?_ _
        all_goals
          go_wp2
          go_roundw
          case rel => exact ⟨k + 1, a5, c5, f5, by omega, by go_num, HV5⟩
          case measure => simp [intOf]; omega
      · obtain rfl : k = n := by omega
        have htk : l.take k = l := by rw [← HN.out.1, List.take_length]
        rw [htk, ← HT.out] at hL
        obtain ⟨z0, z1, z2, z3, zf, zz⟩ := three_cells hL.out.B3
        go_upto_region 9 with (fail)
        refine gen_any9 (fun V => Blk V X6 [.int .i64 ht, .int .i64 bd, .slice ra1 m rc1, .slice (some ⟨wr.heap.size, 0, none⟩) 0 0] ∧ Blk V GR Z4.toList ∧ Own V KSS [.slice ra1 m rc1] (.sl (dR T)) rf ∧ ObsRow V w.heap.size (some ⟨wr.heap.size, 0, none⟩) 0 [] [wr.heap.size] ∧ Below w.heap.size w V) ?_ ?_
        · have hsz : (wr.setCell ⟨X6, 3, none⟩ (.slice (some ⟨wr.heap.size, 0, none⟩) 0 0)).heap.size = wr.heap.size := by simp
          have hO := ObsRow.made (wr.setCell ⟨X6, 3, none⟩ (.slice (some ⟨wr.heap.size, 0, none⟩) 0 0)) (B := w.heap.size) (by rw [hsz]; exact hL.out.W.size)
          rw [hsz] at hO
          exact ⟨(Blk.put (P := [.int .i64 ht, .int .i64 bd, .slice ra1 m rc1]) (R := []) hL.out.B3 rfl _).alloc _, (hL.out.BR.other (fun e => hL.out.ne e.symm) 3 _).alloc _, (own_setN hL.out.R hL.out.nX 3 _).under (by go_grown), hO, (hL.out.W.setCell (p := ⟨X6, 3, none⟩) hL.out.g3 _).alloc (by rw [hsz]; exact hL.out.W.size) _⟩
        · rintro V ⟨v3, vR, vO, vF, vW⟩
          have hrl := hL.out.R.lt
          have hGl := hL.out.BR.2.2
          have hwz := hL.out.W.size
          obtain ⟨R, E2, s1, s2, s3, hE, bE⟩ := bd_fin (w := w) (b := ⟨ht, bd, T, []⟩) (by show Blk V X6 [.int .i64 ht, .int .i64 bd, .slice ra1 T.length rc1, .slice (some ⟨wr.heap.size, 0, none⟩) 0 0]; rw [hml]; exact v3) vR (by show Own V KSS [.slice ra1 T.length rc1] (.sl (dR T)) rf; rw [hml]; exact vO) vF (app_nodup hL.out.N (by simp) (fun x hx hm => by have := hrl x hx; have := List.mem_singleton.1 hm; omega)) (fun x hx => by
            rcases List.mem_append.1 hx with e | e
            · exact hL.out.ge x e
            · rw [List.mem_singleton.1 e]; exact hwz) (fun hm => by
            rcases List.mem_append.1 hm with e | e
            · exact hL.out.nG e
            · have := List.mem_singleton.1 e; omega) hL.out.gG vW
          have HX := Lib.hid (And.intro hE (And.intro bE s3))
          clear hE bE s3 v3 vR vO vF vW z0 z1 z2 z3 zf zz x0 x1 x3 xz
          go_wp2
          refine bodyPost_ret (v := .agg R) ?_ rfl ⟨R, _, rfl, by rw [HV.out]; exact HX.out.1, HX.out.2.1⟩
          exact results_h Tryz.results15 (by rfl) HX.out.2.2
end Go.Proofs.YtbdjnfnphilklaaGreat.Own
