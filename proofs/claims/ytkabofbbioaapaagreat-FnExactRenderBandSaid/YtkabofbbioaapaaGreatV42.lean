/-
  Texts of this seat, laid together: Mo10, Ms10, SzO, ToBO
-/
import Derived.WalkKit
import Derived.Deep.DeepCutAuto
import Derived.Deep.QuietTactic
import Derived.BigQuiet
import Derived.Deep.RegionHeld3
import Derived.Handy
import Derived.Test.YtkabofbbioaapaaGreatV33
import Derived.Test.YtkabofbbioaapaaGreatV25
import Derived.Test.YtkabofbbioaapaaGreatV41
import Derived.Test.YtkabofbbioaapaaGreatV15
namespace Go.Proofs.YtkabofbbioaapaaGreat.Ins
open Go.ChangeShapes Go.WideShapes Go.ChangeAt Go.RowKit
open Kit Point Slabs
open Go.Proofs.YtkabofbbioaapaaGreat.Own (Blk Ob grayB OwnL LObject KPt dP dPt)
set_option linter.unusedVariables false
set_option linter.unusedSimpArgs false
set_option linter.unnecessarySimpa false
set_option maxRecDepth 100000
def mvO (o : Ob) (dx dy : Int) : Ob := ⟨shV o.path (dx, dy), o.gray, IntKind.i64.wrap (o.x0 + dx), IntKind.i64.wrap (o.y0 + dy), IntKind.i64.wrap (o.x1 + dx), IntKind.i64.wrap (o.y1 + dy)⟩
def mvB (o : Ob) (dx dy : Int) : Bool := Own.obB o && Own.obB (mvO o dx dy)
def mvR (o : Ob) (dx dy : Int) : Ob := if mvB o dx dy then mvO o dx dy else o
def MvIs (o : Ob) (r : Bool) (w : World) (e : Ending) (w' : World) : Prop := ∃ (R : Array Value) (f : List Nat), e = .returned (.tuple #[.agg R, .bool r]) ∧ OwnL w' LObject R.toList o.dt f ∧ f.Nodup ∧ (∀ b ∈ f, w.heap.size ≤ b) ∧ Below w.heap.size w w'
theorem ownL_set {w : World} {ks : List Own.Kd} {cs : List Value} {ds : List Own.Dt} {fp : List Nat} {b : Nat} (h : OwnL w ks cs ds fp) (hn : b ∉ fp) (o : Nat) (v : Value) : OwnL (w.setCell ⟨b, o, none⟩ v) ks cs ds fp :=
  OwnL.stays (by simp) h (fun x hx => Below.heap_setCell _ _ _ _ (fun e => hn (by have e' : x = b := e; rw [← e']; exact hx)))
theorem own_row10 {w : World} {B : Nat} {v : Value} {m : List Pt} (h : w.ownsRow B 123 2 v m.length (cellsP m)) : ∃ fp, Own.Own w (.sl KPt) [v] (.sl (dP m)) fp ∧ fp.Nodup ∧ ∀ b ∈ fp, B ≤ b := by
  have hs := slab_owns h
  refine ⟨_, Own.pts_own hs (Own.len_dP m) (fun i hi => ⟨pX m i, pY m i, ?_, rfl⟩), ?_, fun b hb => (hs.row b (by simpa using hb)).1⟩
  · have e : m.getD i (0, 0) = m[i] := by simp [List.getD, List.getElem?_eq_getElem hi]
    simp only [Own.at_, dP, List.getD_eq_getElem?_getD, List.getElem?_map, List.getElem?_eq_getElem hi, Option.map_some, Option.getD_some, dPt, pX, pY]
  · cases Slabs.rowOf m.length v <;> simp
theorem obj_open {w : World} {A : Array Value} {o : Ob} {fp : List Nat} (h : OwnL w LObject A.toList o.dt fp) :
    ∃ a c, A = #[.slice a o.path.length c, .int .i64 o.gray, .int .i64 o.x0, .int .i64 o.y0, .int .i64 o.x1, .int .i64 o.y1] ∧ PathAt w a o.path := by
  obtain ⟨a0, c0, f0, hA, hf, o0⟩ := Own.inv_Object_ h
  simp only [Own.len_dP] at hA o0
  refine ⟨a0, c0, ?_, (Own.path_of o0).2⟩
  apply Array.toList_inj.1
  simpa using hA
theorem obj_len {o : Ob} (hb : Own.bulkL o.dt ≤ 1048576) : o.path.length ≤ 1048576 := by
  simp only [Own.Ob.dt, Own.bulkL, Own.Dt.bulk, Own.len_dP, Own.bulk_dP] at hb; omega
theorem obj_close {w : World} {B : Nat} {va : Option Addr} {vc : Nat} {o : Ob} (h : w.ownsRow B 123 2 (.slice va o.path.length vc) o.path.length (cellsP o.path)) :
    ∃ f, OwnL w LObject [.slice va o.path.length vc, .int .i64 o.gray, .int .i64 o.x0, .int .i64 o.y0, .int .i64 o.x1, .int .i64 o.y1] o.dt f ∧ f.Nodup ∧ ∀ b ∈ f, B ≤ b := by
  obtain ⟨f, o0, n0, g0⟩ := own_row10 h
  exact ⟨f, Own.mk_ob o.gray o.x0 o.y0 o.x1 o.y1 o0, n0, g0⟩
structure MvS (W w : World) (GA GR GM : Nat) (cs ms : List Value) : Prop where
  A : Blk W GA cs
  R : Blk W GR [.slice none 0 0, .int .i64 0, .int .i64 0, .int .i64 0, .int .i64 0, .int .i64 0]
  M : Blk W GM ms
  B : Below w.heap.size w W
theorem MvS.on {W w V : World} {GA GR GM : Nat} {cs ms : List Value} (h : MvS W w GA GR GM cs ms) (hb : Below W.heap.size W V) : MvS V w GA GR GM cs ms :=
  ⟨h.A.keep hb, h.R.keep hb, h.M.keep hb, on_of h.B hb⟩
theorem six {W : World} {G : Nat} {v : Value} {g x0 y0 x1 y1 : Int} (h : Blk W G [v, .int .i64 g, .int .i64 x0, .int .i64 y0, .int .i64 x1, .int .i64 y1]) :
    W.cell? ⟨G, 0, none⟩ = some v ∧ W.cell? ⟨G, 1, none⟩ = some (.int .i64 g) ∧ W.cell? ⟨G, 2, none⟩ = some (.int .i64 x0) ∧ W.cell? ⟨G, 3, none⟩ = some (.int .i64 y0) ∧ W.cell? ⟨G, 4, none⟩ = some (.int .i64 x1) ∧ W.cell? ⟨G, 5, none⟩ = some (.int .i64 y1) ∧ (∀ o, W.frozen? ⟨G, o, none⟩ = false) ∧ G < W.heap.size :=
  ⟨h.1 0 _ rfl, h.1 1 _ rfl, h.1 2 _ rfl, h.1 3 _ rfl, h.1 4 _ rfl, h.1 5 _ rfl, h.2.1, h.2.2⟩
end Go.Proofs.YtkabofbbioaapaaGreat.Ins
namespace Go.Proofs.YtkabofbbioaapaaGreat.Ins
open Go.ChangeShapes Go.WideShapes Go.ChangeAt Go.RowKit
open Kit Point Slabs
open Go.Proofs.YtkabofbbioaapaaGreat.Own (Blk Ob grayB OwnL LObject KPt dP dPt)
set_option linter.unusedVariables false
set_option linter.unusedSimpArgs false
set_option linter.unnecessarySimpa false
set_option maxRecDepth 100000
structure MvT (W w : World) (GA GR : Nat) (cs : List Value) : Prop where
  A : Blk W GA cs
  R : Blk W GR [.slice none 0 0, .int .i64 0, .int .i64 0, .int .i64 0, .int .i64 0, .int .i64 0]
  B : Below w.heap.size w W
theorem MvT.on {W w V : World} {GA GR : Nat} {cs : List Value} (h : MvT W w GA GR cs) (hb : Below W.heap.size W V) : MvT V w GA GR cs :=
  ⟨h.A.keep hb, h.R.keep hb, on_of h.B hb⟩
theorem MvS.two {W w : World} {GA GR GM : Nat} {cs ms : List Value} (h : MvS W w GA GR GM cs ms) : MvT W w GA GR cs := ⟨h.A, h.R, h.B⟩
theorem shV_no {l : List Pt} {dx dy : Int} (h : (inB dx && inB dy) = false) : shV l (dx, dy) = [] := shV_far h
end Go.Proofs.YtkabofbbioaapaaGreat.Ins
namespace Go.Proofs.YtkabofbbioaapaaGreat.Own
open Go.ChangeShapes Go.WideShapes Go.ChangeAt Go.RowKit
open Kit Slabs Ints
set_option linter.unusedVariables false
set_option linter.unusedSimpArgs false
set_option linter.unnecessarySimpa false
set_option maxRecDepth 100000
set_option maxHeartbeats 4000000 in
theorem sz_Object (w : World) {A : Array Value} {ds : List Dt} (h : CameL w LObject A.toList ds) (l : Int) (l0 : 0 ≤ l) (l1 : l ≤ 1048576) :
    Calls Tryz.prog 39 #[.agg A, .int .i64 l] w fun e w' => e = .returned (.int .i64 (szv l (bulkL ds))) ∧ Below w.heap.size w w' := by
  obtain ⟨xa0, xc0, xs0, xx1_0, xx2_0, xx2_1, xx2_2, xx2_3, hA, rfl, ⟨ox0, mox0⟩⟩ := invC_Object h
  have hbk : bulkL (.sl xs0 :: (.int xx1_0 :: (.int xx2_0 :: (.int xx2_1 :: (.int xx2_2 :: (.int xx2_3 :: ([]))))))) = (xs0.length + bulkL xs0) := by simp only [bulkL_app, bulkL, Dt.bulk]; omega
  rw [hbk]
  obtain ⟨y1, q1⟩ : ∃ x, szv l (xs0.length + bulkL xs0) = x := ⟨_, rfl⟩
  have BA : Blk (w.alloc (.cells A 77)) w.heap.size A.toList := Blk.new w A 77 rfl
  have hW : Below w.heap.size w (w.alloc (.cells A 77)) := by go_grown
  rw [hA] at BA
  have HO := Lib.hid (ox0)
  have HA0 := Lib.hid BA
  have HW0 := Lib.hid hW
  by_cases c1 : y1 < 0
  · have u : y1 = -1 := by rw [← q1] at c1 ⊢; unfold szv at c1 ⊢; split at c1 <;> first | rfl | omega
    have HZ := Lib.hid (q1.trans u)
    clear u
    have ca0 : A[0]? = some (.slice xa0 xs0.length xc0) := by rw [← Array.getElem?_toList, hA]; rfl
    clear ox0 hA BA hW h hbk
    go_enter Tryz.func39, Tryz.ntmps39
    go_wp2_with fail
    ((with_reducible refine (sz_PointS _ ((HO.out).on HW0.out) mox0 l (by omega) (by omega)).mono ?_); rintro e w1 ⟨rfl, b1⟩)
    rw [q1]
    have HW1 := Lib.hid (on_of HW0.out b1)
    have HA1 := Lib.hid (HA0.out.keep b1)
    clear b1 ca0
    clear q1
    go_wp2
    go_ret
    exact ⟨ret_int HZ.out.symm, HW1.out⟩
  · have d1 : 0 ≤ y1 := by omega
    have e1 : y1 ≤ 1048576 := by have := szv_le (a := (xs0.length + bulkL xs0)) (show 0 ≤ l by omega); rw [q1] at this; omega
    have HZ := Lib.hid q1
    have ca0 : A[0]? = some (.slice xa0 xs0.length xc0) := by rw [← Array.getElem?_toList, hA]; rfl
    clear ox0 hA BA hW h hbk
    go_enter Tryz.func39, Tryz.ntmps39
    go_wp2_with fail
    ((with_reducible refine (sz_PointS _ ((HO.out).on HW0.out) mox0 l (by omega) (by omega)).mono ?_); rintro e w1 ⟨rfl, b1⟩)
    rw [q1]
    have HW1 := Lib.hid (on_of HW0.out b1)
    have HA1 := Lib.hid (HA0.out.keep b1)
    clear b1 ca0
    clear q1
    go_wp2
    go_ret
    exact ⟨ret_int HZ.out.symm, HW1.out⟩
end Go.Proofs.YtkabofbbioaapaaGreat.Own
namespace Go.Proofs.YtkabofbbioaapaaGreat.Own
open Go.ChangeShapes Go.WideShapes Go.ChangeAt Go.RowKit
open Kit Slabs Ints
set_option linter.unusedVariables false
set_option linter.unusedSimpArgs false
set_option linter.unnecessarySimpa false
set_option maxRecDepth 100000
attribute [local go_sem ↓] hstore_Object
attribute [local go_sem ↓] hloadL_Object
theorem info_Object : (Tryz.prog.info? 52).map (fun i => (i.zero, i.size, i.bytes)) = some (some (.agg #[.slice none 0 0, .int .i64 0, .int .i64 0, .int .i64 0, .int .i64 0, .int .i64 0]), 6, 64) := by kernel_rfl
set_option maxHeartbeats 4000000 in
theorem to_ObjectS (w : World) (a : Option Addr) (n c : Nat) (es : List Dt) (hb : n + bulkL es ≤ 1048576) (h : Came w (.sl KObject) [.slice a n c] (.sl es)) :
    Calls Tryz.prog 16 #[.slice a n c] w fun e w' => ∃ (a' : Option Addr) (c' : Nat) (fp : List Nat), e = .returned (.slice a' n c') ∧ Own w' (.sl KObject) [.slice a' n c'] (.sl es) fp ∧ fp.Nodup ∧ (∀ b ∈ fp, w.heap.size ≤ b) ∧ Below w.heap.size w w' := by
  obtain ⟨i0, hi0, hz0, hz1, hz2⟩ := info_parts info_Object
  have hmk : ∀ W : World, (Instr.makeSlice 24 (.int .i64 (n : Int)) (.int .i64 (n : Int))).run Tryz.prog W = .ok (.slice (some ⟨W.heap.size, 0, none⟩) n n) (W.alloc (.cells (madeCells (Value.agg #[.slice none 0 0, .int .i64 0, .int .i64 0, .int .i64 0, .int .i64 0, .int .i64 0]).cells (n * i0.size)) 52)) := fun W =>
    run_make_rowN 24 52 i0 _ Tryz.underlying24 hi0 hz0 .i64 .i64 n n (Nat.le_refl _) (by rw [hz2]; omega) (by omega) W
  obtain ⟨Z0, hZ0⟩ : ∃ Z0 : List Value, madeCells (Value.agg #[.slice none 0 0, .int .i64 0, .int .i64 0, .int .i64 0, .int .i64 0, .int .i64 0]).cells (n * i0.size) = Z0.toArray := ⟨(madeCells (Value.agg #[.slice none 0 0, .int .i64 0, .int .i64 0, .int .i64 0, .int .i64 0, .int .i64 0]).cells (n * i0.size)).toList, by simp⟩
  have hZl : Z0.length = n * 6 := by have := size_madeCells (Value.agg #[.slice none 0 0, .int .i64 0, .int .i64 0, .int .i64 0, .int .i64 0, .int .i64 0]).cells (n * i0.size); rw [hZ0, hz1] at this; simpa using this
  rw [hZ0] at hmk
  clear hZ0 hi0 hz0 hz1 hz2
  obtain ⟨hl, hr⟩ := h.row
  by_cases h0 : n = 0
  · subst h0
    have hes : es = [] := List.eq_nil_of_length_eq_zero hl
    subst hes
    simp only [Int.natCast_zero, Int.ofNat_zero, show ((0 : Nat) : Int) = 0 from rfl] at hmk
    clear h hr
    go_enter Tryz.func16, Tryz.ntmps16
    go_wp2
    go_rounds 1
    go_ret
    exact ⟨_, _, [], rfl, .nil _ _, List.nodup_nil, fun b hb => absurd hb List.not_mem_nil, by go_grown⟩
  · obtain ⟨g, o, rfl, hg⟩ := hr h0
    have H := Lib.hid (And.intro h (And.intro hl hb))
    have hn1 : n ≤ 1048576 := by omega
    have B0 := Lib.hid (show Blk (w.alloc (.cells Z0.toArray 52)) w.heap.size Z0 from by have := Blk.new w Z0.toArray 52 rfl; simpa using this)
    have HZl := Lib.hid hZl
    clear h hr hl hb hZl
    go_enter Tryz.func16, Tryz.ntmps16
    go_wp2
    go_loopw [4] (fun v4 wr => ∃ (k : Nat) (P1 Z : List Value) (f1 : List Nat), k ≤ n ∧ v4 = .int .i64 (k : Int) ∧ Blk wr w.heap.size (P1 ++ Z) ∧ P1.length = k * 6 ∧ Z.length = (n - k) * 6 ∧ OwnL wr (List.replicate k KObject) P1 (es.take k) f1 ∧ f1.Nodup ∧ (∀ b ∈ f1, w.heap.size + 1 ≤ b) ∧ Below w.heap.size w wr) (fun v4 _ => n - (intOf v4).toNat)
    case atStart => exact ⟨0, [], Z0, [], Nat.zero_le _, rfl, B0.out, by simp, by simpa using HZl.out, .nil, List.nodup_nil, fun b hb => absurd hb List.not_mem_nil, by go_grown⟩
    case round =>
      obtain ⟨k, P1, Z, f1, hk, rfl, hB, hP1, hZ, hO, hnd, hge, hbel⟩ := hrel
      by_cases hlt : k < n
      · have hke : k < es.length := by rw [H.out.2.1]; exact hlt
        obtain ⟨_, cs, ds, ed, od, ld, sd⟩ := H.out.1.elt hke
        have hbk := bulk_elt hke
        rw [ed] at hbk
        have hbk2 : bulkL ds ≤ 1048576 := by simp only [Dt.bulk] at hbk; have := H.out.2.2; omega
        have htk : es.take (k + 1) = es.take k ++ [.st ds] := by rw [List.take_succ_eq_append_getElem hke, ed]
        obtain ⟨C, hC⟩ : ∃ C, cs.toArray = C := ⟨_, rfl⟩
        have tC : C.toList = cs := by rw [← hC]
        have L1 := hload_run (P := Tryz.prog) (t := 77) Tryz.isAgg77 Tryz.sizeOf77 (w := wr) (b := g) (o := o + k * 6) (us := cs) (sd wr hbel) ld
        rw [hC] at L1
        rw [← tC] at od
        have HO := Lib.hid (od.on hbel)
        have hZm : 6 ≤ Z.length := by rw [hZ]; exact Nat.le_mul_of_pos_left _ (by omega)
        obtain ⟨Z1, Z2, rfl, hZ1⟩ : ∃ Z1 Z2, Z = Z1 ++ Z2 ∧ Z1.length = 6 := ⟨Z.take 6, Z.drop 6, (List.take_append_drop _ _).symm, by rw [List.length_take]; omega⟩
        clear hZm
        have hZ2 : Z2.length = (n - (k + 1)) * 6 := by
          have e : n - k = (n - (k + 1)) + 1 := by omega
          rw [List.length_append, hZ1, e, Nat.succ_mul] at hZ
          omega
        have i0 : (0 : Int) ≤ (k : Int) := by omega
        have i1 : (k : Int) < (n : Int) := by omega
        have hws := hbel.size
        have hGl := hB.2.2
        have HF := Lib.hid (And.intro hB (And.intro hO (And.intro hnd (And.intro hge (And.intro hP1 (And.intro hZ2 (And.intro htk hZ1)))))))
        clear od sd ed ld hke hC tC hbk hB hO hnd hge hP1 hZ hZ2 htk hZ1
        go_wp2_with fail
        ((with_reducible refine (to_Object _ hbk2 HO.out).mono ?_); rintro e w1 ⟨R, fq, rfl, oR, nR, gR, bb⟩)
        have hRl : R.toList.length = 6 := oR.len
        have hs2 := bb.size
        have B1 := HF.out.1.keep bb
        have st := hstore_run (P := Tryz.prog) (t := 52) Tryz.sizeOf52 (w := w1) (b := w.heap.size) (o := k * 6) (A := P1) (us := Z1) (R := Z2) (vs := R.toList) (by simpa using B1) HF.out.2.2.2.2.1 (by rw [hRl, HF.out.2.2.2.2.2.2.2]) hRl (fun v hv => oR.one v hv)
        have est : R.toList.toArray = R := by simp
        rw [est] at st
        have B2 : Blk (w1.setCells w.heap.size (k * 6) R.toList) w.heap.size ((P1 ++ R.toList) ++ Z2) := by have := Blk.sets (P := P1) (us := Z1) (vs := R.toList) (R := Z2) (w := w1) (b := w.heap.size) (o := k * 6) (by simpa using B1) HF.out.2.2.2.2.1 (by rw [hRl, HF.out.2.2.2.2.2.2.2]); simpa using this
        have q1 : OwnL (w1.setCells w.heap.size (k * 6) R.toList) (List.replicate k KObject) P1 (es.take k) f1 := ownL_sets (HF.out.2.1.under bb) (fun x hx e => by have := HF.out.2.2.2.1 x hx; omega) _ _
        have q2 : OwnL (w1.setCells w.heap.size (k * 6) R.toList) LObject R.toList ds fq := ownL_sets oR (fun x hx e => by have := gR x hx; omega) _ _
        have q3 : OwnL (w1.setCells w.heap.size (k * 6) R.toList) (List.replicate (k + 1) KObject) (P1 ++ R.toList) (es.take (k + 1)) (f1 ++ fq) := by rw [List.replicate_succ', HF.out.2.2.2.2.2.2.1]; exact q1.snoc (.st q2)
        have q4 : (f1 ++ fq).Nodup := List.nodup_append.2 ⟨HF.out.2.2.1, nR, fun x hx y hy e => by have := HF.out.2.1.lt x hx; have := gR y hy; omega⟩
        have q5 : ∀ b ∈ f1 ++ fq, w.heap.size + 1 ≤ b := fun b hx => (List.mem_append.1 hx).elim (fun h => HF.out.2.2.2.1 b h) (fun h => by have := gR b h; omega)
        have q6 : Below w.heap.size w (w1.setCells w.heap.size (k * 6) R.toList) := Below.setCells (Nat.le_refl _) R.toList (k * 6) (on_of hbel bb)
        have q7 : (P1 ++ R.toList).length = (k + 1) * 6 := by rw [List.length_append, HF.out.2.2.2.2.1, hRl, Nat.succ_mul]
        have HE := Lib.hid (And.intro B2 (And.intro q3 (And.intro q4 (And.intro q5 (And.intro q6 q7)))))
        clear B2 q1 q2 q3 q4 q5 q6 q7 oR B1 est hRl nR gR bb
        go_wp2
        go_roundw
        case rel => exact ⟨k + 1, P1 ++ R.toList, Z2, f1 ++ fq, by omega, by go_num, HE.out.1, HE.out.2.2.2.2.2, HF.out.2.2.2.2.2.1, HE.out.2.1, HE.out.2.2.1, HE.out.2.2.2.1, HE.out.2.2.2.2.1⟩
        case measure => simp [intOf]; omega
      · obtain rfl : k = n := by omega
        have hZe : Z = [] := List.eq_nil_of_length_eq_zero (by rw [hZ]; simp)
        subst hZe
        rw [List.append_nil] at hB
        have hes : es.take k = es := by rw [← H.out.2.1, List.take_length]
        rw [hes] at hO
        have x1 : (w.heap.size :: f1).Nodup := List.nodup_cons.2 ⟨fun (hm : w.heap.size ∈ f1) => by have := hge _ hm; omega, hnd⟩
        have x2 : ∀ b ∈ w.heap.size :: f1, w.heap.size ≤ b := fun b hm => by
          rcases List.mem_cons.1 hm with e | h
          · omega
          · have := hge b h; omega
        have HE := Lib.hid (And.intro (own_sl (n := k) (cap := k) hB hO (fun q hq => (List.mem_replicate.1 hq).2) H.out.2.1 h0 (Nat.le_refl _)) (And.intro x1 (And.intro x2 hbel)))
        clear x1 x2
        clear hB hO hnd hge hbel hes
        go_wp2
        go_ret
        exact ⟨_, _, _, rfl, HE.out.1, HE.out.2.1, HE.out.2.2.1, HE.out.2.2.2⟩
end Go.Proofs.YtkabofbbioaapaaGreat.Own
