/-
  Texts of this seat, laid together: Rs11, SzO, Lw10, EqBO, SzBO
-/
import Derived.WalkKit
import Derived.Deep.DeepCutAuto
import Derived.Deep.QuietTactic
import Derived.BigQuiet
import Derived.Deep.RegionHeld3
import Derived.Handy
import Derived.Test.YtifmdgncgokikaaGreatV34
import Derived.Test.YtifmdgncgokikaaGreatV16
import Derived.Test.YtifmdgncgokikaaGreatV32
import Derived.Test.YtifmdgncgokikaaGreatV29
import Derived.Test.YtifmdgncgokikaaGreatV42
namespace Go.Proofs.YtifmdgncgokikaaGreat.Own
open Go.ChangeShapes Go.WideShapes Go.ChangeAt Go.RowKit
open Kit Slabs Ints
set_option linter.unusedVariables false
set_option linter.unusedSimpArgs false
set_option linter.unnecessarySimpa false
set_option maxRecDepth 100000
def sameB (R S : List (List Int)) : Bool := decide (R = S)
theorem ext_getD {α : Type} {l m : List α} {z : α} (hl : l.length = m.length) (h : ∀ i, i < l.length → l.getD i z = m.getD i z) : l = m := by
  apply List.ext_getElem hl
  intro i h1 h2
  have := h i h1
  simpa [List.getD, List.getElem?_eq_getElem h1, List.getElem?_eq_getElem h2] using this
theorem ne_getD {α : Type} {l m : List α} {z : α} (i : Nat) (h : l.getD i z ≠ m.getD i z) : l ≠ m := fun e => h (by rw [e])
def cnt1 (v : Int) (r : List Int) : Nat := (r.map fun x => if x = v then 1 else 0).sum
def cntR (v : Int) (R : List (List Int)) : Nat := (R.map (cnt1 v)).sum
theorem cnt1_le (v : Int) (r : List Int) : cnt1 v r ≤ r.length := by
  induction r with
  | nil => simp [cnt1]
  | cons x r ih => simp only [cnt1, List.map_cons, List.sum_cons, List.length_cons] at *; split <;> omega
theorem cntR_le (v : Int) (R : List (List Int)) : cntR v R ≤ tot R := by
  induction R with
  | nil => simp [cntR, tot]
  | cons r R ih => have := cnt1_le v r; simp only [cntR, tot, List.map_cons, List.sum_cons] at *; omega
theorem cnt1_take {v : Int} {r : List Int} {k : Nat} (h : k < r.length) : cnt1 v (r.take (k + 1)) = cnt1 v (r.take k) + (if r.getD k 0 = v then 1 else 0) := by
  rw [List.take_succ_eq_append_getElem h]
  simp only [cnt1, List.map_append, List.sum_append, List.map_cons, List.map_nil, List.sum_cons, List.sum_nil, Nat.add_zero]
  simp [List.getD, List.getElem?_eq_getElem h]
theorem cntR_take {v : Int} {R : List (List Int)} {k : Nat} (h : k < R.length) : cntR v (R.take (k + 1)) = cntR v (R.take k) + cnt1 v (R.getD k []) := by
  rw [List.take_succ_eq_append_getElem h]
  simp only [cntR, List.map_append, List.sum_append, List.map_cons, List.map_nil, List.sum_cons, List.sum_nil, Nat.add_zero]
  simp [List.getD, List.getElem?_eq_getElem h]
theorem cnt1_upto (v : Int) (r : List Int) (k : Nat) : cnt1 v (r.take k) ≤ cnt1 v r := by
  have : cnt1 v r = cnt1 v (r.take k) + cnt1 v (r.drop k) := by
    have : cnt1 v (r.take k ++ r.drop k) = cnt1 v (r.take k) + cnt1 v (r.drop k) := by simp only [cnt1, List.map_append, List.sum_append]
    rw [← this, List.take_append_drop]
  omega
theorem cntR_upto (v : Int) (R : List (List Int)) (k : Nat) : cntR v (R.take k) ≤ cntR v R := by
  have : cntR v R = cntR v (R.take k) + cntR v (R.drop k) := by
    have : cntR v (R.take k ++ R.drop k) = cntR v (R.take k) + cntR v (R.drop k) := by simp only [cntR, List.map_append, List.sum_append]
    rw [← this, List.take_append_drop]
  omega
end Go.Proofs.YtifmdgncgokikaaGreat.Own
namespace Go.Proofs.YtifmdgncgokikaaGreat.Own
open Go.ChangeShapes Go.WideShapes Go.ChangeAt Go.RowKit
open Kit Slabs Ints
set_option linter.unusedVariables false
set_option linter.unusedSimpArgs false
set_option linter.unnecessarySimpa false
set_option maxRecDepth 100000
set_option maxHeartbeats 4000000 in
theorem sz_Object (w : World) {A : Array Value} {ds : List Dt} (h : CameL w LObject A.toList ds) (l : Int) (l0 : 0 ≤ l) (l1 : l ≤ 1048576) :
    Calls Tryz.prog 13 #[.agg A, .int .i64 l] w fun e w' => e = .returned (.int .i64 (szv l (bulkL ds))) ∧ Below w.heap.size w w' := by
  obtain ⟨xa0, xc0, xs0, xx1_0, xx2_0, xx2_1, xx2_2, xx2_3, hA, rfl, ⟨ox0, mox0⟩⟩ := invC_Object h
  have hbk : bulkL (.sl xs0 :: (.int xx1_0 :: (.int xx2_0 :: (.int xx2_1 :: (.int xx2_2 :: (.int xx2_3 :: ([]))))))) = (xs0.length + bulkL xs0) := by simp only [bulkL_app, bulkL, Dt.bulk]; omega
  rw [hbk]
  obtain ⟨y1, q1⟩ : ∃ x, szv l (xs0.length + bulkL xs0) = x := ⟨_, rfl⟩
  have BA : Blk (w.alloc (.cells A 39)) w.heap.size A.toList := Blk.new w A 39 rfl
  have hW : Below w.heap.size w (w.alloc (.cells A 39)) := by go_grown
  rw [hA] at BA
  have HO := Lib.hid (ox0)
  have HA0 := Lib.hid BA
  have HW0 := Lib.hid hW
  by_cases c1 : y1 < 0
  · have u : y1 = -1 := by rw [← q1] at c1 ⊢; unfold szv at c1 ⊢; split at c1 <;> first | rfl | omega
    have HZ := Lib.hid (q1.trans u)
    clear u
    have ca0 : A[0]? = some (.slice xa0 xs0.length xc0) := by rw [← Array.getElem?_toList, hA]; rfl
    clear ox0 hA BA hW h hbk
    go_enter Tryz.func13, Tryz.ntmps13
    go_wp2_with fail
    ((with_reducible refine (sz_PointS _ ((HO.out).on HW0.out) mox0 l (by omega) (by omega)).mono ?_); rintro e w1 ⟨rfl, b1⟩)
    rw [q1]
    have HW1 := Lib.hid (on_of HW0.out b1)
    have HA1 := Lib.hid (HA0.out.keep b1)
    clear b1 ca0
    clear q1
    go_wp2
    go_ret
    exact ⟨ret_int HZ.out.symm, HW1.out⟩
  · have d1 : 0 ≤ y1 := by omega
    have e1 : y1 ≤ 1048576 := by have := szv_le (a := (xs0.length + bulkL xs0)) (show 0 ≤ l by omega); rw [q1] at this; omega
    have HZ := Lib.hid q1
    have ca0 : A[0]? = some (.slice xa0 xs0.length xc0) := by rw [← Array.getElem?_toList, hA]; rfl
    clear ox0 hA BA hW h hbk
    go_enter Tryz.func13, Tryz.ntmps13
    go_wp2_with fail
    ((with_reducible refine (sz_PointS _ ((HO.out).on HW0.out) mox0 l (by omega) (by omega)).mono ?_); rintro e w1 ⟨rfl, b1⟩)
    rw [q1]
    have HW1 := Lib.hid (on_of HW0.out b1)
    have HA1 := Lib.hid (HA0.out.keep b1)
    clear b1 ca0
    clear q1
    go_wp2
    go_ret
    exact ⟨ret_int HZ.out.symm, HW1.out⟩
end Go.Proofs.YtifmdgncgokikaaGreat.Own
namespace Go.Proofs.YtifmdgncgokikaaGreat.Own
open Go.ChangeShapes Go.WideShapes Go.ChangeAt Go.RowKit
open Kit Slabs
set_option linter.unusedVariables false
set_option linter.unusedSimpArgs false
set_option linter.unnecessarySimpa false
theorem spec_ObjectOk (w : World) {A : Array Value} {ds : List Dt} {fp : List Nat} (hb : bulkL ds ≤ 1048576) (h : OwnL w LObject A.toList ds fp) : Calls Tryz.prog 28 #[.agg A] w fun e w' => e = .returned (.bool (obB (obOf ds))) ∧ Below w.heap.size w w' := by
  have e := ob_dt h
  rw [e] at hb h
  obtain ⟨a, c, rfl, hp⟩ := Ins.obj_open h
  exact Ins.ok_spec w a c _ _ _ _ _ _ (Ins.obj_len hb) hp
theorem impl_ObjectOk (w : World) {A : Array Value} {ds : List Dt} {fp : List Nat} (hb : bulkL ds ≤ 1048576) (h : OwnL w LObject A.toList ds fp) : Calls Tryz.prog 19 #[.agg A] w fun e w' => e = .returned (.bool (obB (obOf ds))) ∧ Below w.heap.size w w' := by
  have e := ob_dt h
  rw [e] at hb h
  obtain ⟨a, c, rfl, hp⟩ := Ins.obj_open h
  exact Ins.ok_impl w a c _ _ _ _ _ _ (Ins.obj_len hb) hp
def obD (o : Ob) : Int := Ins.odV o.path o.gray o.x0 o.y0 o.x1 o.y1
def obX (o : Ob) : Ins.Bx := Ins.obx o.path o.gray o.x0 o.y0 o.x1 o.y1
theorem spec_ObjectBox (w : World) {A : Array Value} {ds : List Dt} {fp : List Nat} (hb : bulkL ds ≤ 1048576) (h : OwnL w LObject A.toList ds fp) {p0 p1 p2 p3 : Int} (hX : obX (obOf ds) = ⟨p0, p1, p2, p3⟩) : Calls Tryz.prog 43 #[.agg A] w fun e w' => e = .returned (.agg #[.int .i64 p0, .int .i64 p1, .int .i64 p2, .int .i64 p3]) ∧ Below w.heap.size w w' := by
  have e := ob_dt h
  rw [e] at hb h
  obtain ⟨a, c, rfl, hp⟩ := Ins.obj_open h
  have := Ins.obox_spec w a c _ (obOf ds).gray (obOf ds).x0 (obOf ds).y0 (obOf ds).x1 (obOf ds).y1 (Ins.obj_len hb) hp
  rw [show Ins.obx (obOf ds).path (obOf ds).gray (obOf ds).x0 (obOf ds).y0 (obOf ds).x1 (obOf ds).y1 = ⟨p0, p1, p2, p3⟩ from hX] at this
  exact this
theorem impl_ObjectBox (w : World) {A : Array Value} {ds : List Dt} {fp : List Nat} (hb : bulkL ds ≤ 1048576) (h : OwnL w LObject A.toList ds fp) {p0 p1 p2 p3 : Int} (hX : obX (obOf ds) = ⟨p0, p1, p2, p3⟩) : Calls Tryz.prog 52 #[.agg A] w fun e w' => e = .returned (.agg #[.int .i64 p0, .int .i64 p1, .int .i64 p2, .int .i64 p3]) ∧ Below w.heap.size w w' := by
  have e := ob_dt h
  rw [e] at hb h
  obtain ⟨a, c, rfl, hp⟩ := Ins.obj_open h
  have := Ins.obox_impl w a c _ (obOf ds).gray (obOf ds).x0 (obOf ds).y0 (obOf ds).x1 (obOf ds).y1 (Ins.obj_len hb) hp
  rw [show Ins.obx (obOf ds).path (obOf ds).gray (obOf ds).x0 (obOf ds).y0 (obOf ds).x1 (obOf ds).y1 = ⟨p0, p1, p2, p3⟩ from hX] at this
  exact this
def obS (o : Ob) (y : Int) : List (Int × Int) := Ins.orow o.path o.gray o.x0 o.y0 o.x1 o.y1 y
theorem obS_le (ds : List Dt) (hd : ds = (obOf ds).dt) (hb : bulkL ds ≤ 1048576) (y : Int) : (dP (obS (obOf ds) y)).length ≤ 1048576 := by
  rw [len_dP]
  rw [hd] at hb
  exact Nat.le_trans (Ins.orow_len _ _ _ _ _ _ _) (Ins.obj_len hb)
theorem own_spans {w : World} {B : Nat} {v : Value} {m : List (Int × Int)} (h : w.ownsRow B 63 2 v m.length (Ins.cellsP m)) : ∃ fp, Own w (.sl KPt) [v] (.sl (dP m)) fp ∧ fp.Nodup ∧ ∀ b ∈ fp, B ≤ b := by
  have hs := Ins.slab_owns9 h
  refine ⟨_, pts_own hs (len_dP m) (fun i hi => ⟨Ins.pX m i, Ins.pY m i, ?_, rfl⟩), ?_, fun b hb => (hs.row b (by simpa using hb)).1⟩
  · simp only [at_, dP, List.getD_eq_getElem?_getD, List.getElem?_map, List.getElem?_eq_getElem hi, Option.map_some, Option.getD_some, dPt, Ins.pX, Ins.pY]
  · cases rowOf m.length v <;> simp
theorem spec_ObjectRow (w : World) {A : Array Value} {ds : List Dt} {fp : List Nat} (hb : bulkL ds ≤ 1048576) (h : OwnL w LObject A.toList ds fp) (y : Int) : Calls Tryz.prog 32 #[.agg A, .int .i64 y] w fun e w' => ∃ (u : Value) (fp : List Nat), e = .returned u ∧ Own w' (.sl KPt) [u] (.sl (dP (obS (obOf ds) y))) fp ∧ fp.Nodup ∧ (∀ b ∈ fp, w.heap.size ≤ b) ∧ Below w.heap.size w w' := by
  have e := ob_dt h
  rw [e] at hb h
  obtain ⟨a, c, rfl, hp⟩ := Ins.obj_open h
  refine (Ins.orow_spec w a c _ (obOf ds).gray (obOf ds).x0 (obOf ds).y0 (obOf ds).x1 (obOf ds).y1 y (Ins.obj_len hb) hp).mono fun e w' ⟨u, he, ho, hb⟩ => ?_
  obtain ⟨f, h1, h2, h3⟩ := own_spans ho
  exact ⟨u, f, he, h1, h2, h3, hb⟩
theorem impl_ObjectRow (w : World) {A : Array Value} {ds : List Dt} {fp : List Nat} (hb : bulkL ds ≤ 1048576) (h : OwnL w LObject A.toList ds fp) (y : Int) : Calls Tryz.prog 37 #[.agg A, .int .i64 y] w fun e w' => ∃ (u : Value) (fp : List Nat), e = .returned u ∧ Own w' (.sl KPt) [u] (.sl (dP (obS (obOf ds) y))) fp ∧ fp.Nodup ∧ (∀ b ∈ fp, w.heap.size ≤ b) ∧ Below w.heap.size w w' := by
  have e := ob_dt h
  rw [e] at hb h
  obtain ⟨a, c, rfl, hp⟩ := Ins.obj_open h
  refine (Ins.orow_impl w a c _ (obOf ds).gray (obOf ds).x0 (obOf ds).y0 (obOf ds).x1 (obOf ds).y1 y (Ins.obj_len hb) hp).mono fun e w' ⟨u, he, ho, hb⟩ => ?_
  obtain ⟨f, h1, h2, h3⟩ := own_spans ho
  exact ⟨u, f, he, h1, h2, h3, hb⟩
theorem bulk_ob (o : Ob) : bulkL o.dt = o.path.length := by simp only [Ob.dt, bulkL, Dt.bulk, len_dP, bulk_dP]; omega
end Go.Proofs.YtifmdgncgokikaaGreat.Own
namespace Go.Proofs.YtifmdgncgokikaaGreat.Own
open Go.ChangeShapes Go.WideShapes Go.ChangeAt Go.RowKit
open Kit Slabs Ints
set_option linter.unusedVariables false
set_option linter.unusedSimpArgs false
set_option linter.unnecessarySimpa false
set_option maxRecDepth 100000
attribute [local go_sem ↓] hload_Object
set_option maxHeartbeats 4000000 in
theorem eq_ObjectS (w : World) {a1 a2 : Option Addr} {n1 n2 p1 p2 : Nat} {es : List Dt} {f1 f2 : List Nat} (hb : es.length + bulkL es ≤ 1048576) (h1 : Own w (.sl KObject) [.slice a1 n1 p1] (.sl es) f1) (h2 : Own w (.sl KObject) [.slice a2 n2 p2] (.sl es) f2) :
    Calls Tryz.prog 9 #[.slice a1 n1 p1, .slice a2 n2 p2] w fun e w' => e = .returned (.bool true) ∧ Below w.heap.size w w' := by
  obtain ⟨e1, r1⟩ := h1.row
  obtain ⟨e2, r2⟩ := h2.row
  obtain ⟨n, hn⟩ : ∃ n, es.length = n := ⟨_, rfl⟩
  obtain rfl : n1 = n := e1.symm.trans hn
  obtain rfl : n2 = n1 := e2.symm.trans hn
  by_cases h0 : n2 = 0
  · subst h0
    clear h1 h2 r1 r2
    go_enter Tryz.func9, Tryz.ntmps9
    go_wp2
    go_loopw [5] (fun i wr => i = .int .i64 0 ∧ Below w.heap.size w wr) (fun _ _ => 0)
    case atStart => exact ⟨rfl, Below.refl _ _⟩
    case round =>
      obtain ⟨rfl, hbel⟩ := hrel
      go_wp2
      go_ret
      exact ⟨rfl, hbel⟩
  · obtain ⟨g1, rfl, _⟩ := r1 h0
    obtain ⟨g2, rfl, _⟩ := r2 h0
    have H := Lib.hid (And.intro h1 h2)
    have hn2 : n2 ≤ 1048576 := by omega
    have HN := Lib.hid (And.intro hn hb)
    clear h1 h2 r1 r2 e1 e2 hb hn
    go_enter Tryz.func9, Tryz.ntmps9
    go_wp2
    go_loopw [5] (fun i wr => ∃ k : Nat, k ≤ n2 ∧ i = .int .i64 (k : Int) ∧ Below w.heap.size w wr) (fun i _ => n2 - (intOf i).toNat)
    case atStart => exact ⟨0, Nat.zero_le _, rfl, Below.refl _ _⟩
    case round =>
      obtain ⟨k, hk, rfl, hbel⟩ := hrel
      by_cases hlt : k < n2
      · have hke : k < es.length := by rw [HN.out.1]; exact hlt
        obtain ⟨hg1, _, c1, d1, q1, ed1, o1, l1, _, s1⟩ := H.out.1.elt hke
        obtain ⟨hg2, _, c2, d2, q2, ed2, o2, l2, _, s2⟩ := H.out.2.elt hke
        rw [ed1] at ed2
        injection ed2 with ed2
        subst ed2
        have hbk := bulk_elt hke
        rw [ed1] at hbk
        have hbk2 : bulkL d1 ≤ 1048576 := by simp only [Dt.bulk] at hbk; have := HN.out.2; omega
        have L1 := Lib.hid (fun W hW => hload_run (P := Tryz.prog) (t := 46) Tryz.isAgg46 Tryz.sizeOf46 (w := W) (b := g1) (o := k * 6) (us := c1) (s1 W hW) l1)
        have L2 := Lib.hid (fun W hW => hload_run (P := Tryz.prog) (t := 46) Tryz.isAgg46 Tryz.sizeOf46 (w := W) (b := g2) (o := k * 6) (us := c2) (s2 W hW) l2)
        have HE := Lib.hid (And.intro o1 o2)
        have i0 : (0 : Int) ≤ (k : Int) := by omega
        have i1 : (k : Int) < (n2 : Int) := by omega
        obtain ⟨C1, hC1⟩ : ∃ C, c1.toArray = C := ⟨_, rfl⟩
        obtain ⟨C2, hC2⟩ : ∃ C, c2.toArray = C := ⟨_, rfl⟩
        rw [hC1] at L1
        rw [hC2] at L2
        have t1 : C1.toList = c1 := by rw [← hC1]
        have t2 : C2.toList = c2 := by rw [← hC2]
        rw [← t1, ← t2] at HE
        clear o1 o2 s1 s2 ed1 hbk l1 l2 hC1 hC2 t1 t2 hg1 hg2 hke
        go_wp2_with fail
        go_region_held3 (fun w' => (hload 46 ⟨g1, k * 6, none⟩).run Tryz.prog w' = .ok (.agg C1) w' ∧ (hload 46 ⟨g2, k * 6, none⟩).run Tryz.prog w' = .ok (.agg C2) w' ∧ Below w.heap.size w w') (first | exact ⟨L1.out _ hB, L2.out _ hB, hB⟩ | exact ⟨L1.out _ (by go_grown), L2.out _ (by go_grown), by go_grown⟩)
          ((go_at_call 23; (with_reducible refine (eq_Object _ hbk2 (HE.out.1.under (by go_grown)) (HE.out.2.under (by go_grown))).mono ?_); rintro e w' ⟨rfl, hb⟩; have hB := on_of (W := w) (by go_grown) hb))
        go_wp2
        go_roundw
        case rel => exact ⟨k + 1, by omega, by go_num, hB⟩
        case measure => simp [intOf]; omega
      · obtain rfl : k = n2 := by omega
        go_wp2
        go_ret
        exact ⟨rfl, hbel⟩
end Go.Proofs.YtifmdgncgokikaaGreat.Own
namespace Go.Proofs.YtifmdgncgokikaaGreat.Own
open Go.ChangeShapes Go.WideShapes Go.ChangeAt Go.RowKit
open Kit Slabs Ints
set_option linter.unusedVariables false
set_option linter.unusedSimpArgs false
set_option linter.unnecessarySimpa false
set_option maxRecDepth 100000
attribute [local go_sem ↓] hloadL_Object
set_option maxHeartbeats 4000000 in
theorem sz_ObjectS (w : World) {a : Option Addr} {c : Nat} {es : List Dt} (h : Came w (.sl KObject) [.slice a es.length c] (.sl es)) (hm : es.length ≤ maxLen) (l : Int) (l0 : 0 ≤ l) (l1 : l ≤ 1048576) :
    Calls Tryz.prog 4 #[.slice a es.length c, .int .i64 l] w fun e w' => e = .returned (.int .i64 (szv l (es.length + bulkL es))) ∧ Below w.heap.size w w' := by
  obtain ⟨_, hr⟩ := h.row
  obtain ⟨n, hn⟩ : ∃ n, es.length = n := ⟨_, rfl⟩
  rw [hn] at hr hm h ⊢
  have hm2 : n ≤ 9223372036854775807 := by unfold maxLen at hm; omega
  clear hm
  by_cases c0 : l - (n : Int) < 0
  · have hz : szv l n = -1 := by unfold szv; rw [if_pos c0]
    have HZ := Lib.hid (szv_neg (b := bulkL es) l0 (by rw [hz]; omega))
    clear hr h hz
    go_enter Tryz.func4, Tryz.ntmps4
    go_wp2
    go_ret
    exact ⟨ret_int HZ.out.symm, Below.refl _ _⟩
  · have hz : szv l n = l - (n : Int) := by unfold szv; rw [if_neg c0]
    have H := Lib.hid h
    have HN := Lib.hid hn
    have hn1 : n ≤ 1048576 := by omega
    have HR : n ≠ 0 → ∃ g o, a = some ⟨g, o, none⟩ ∧ g < w.heap.size := hr
    have ha : n = 0 ∨ ∃ g o, a = some ⟨g, o, none⟩ := by
      by_cases h0 : n = 0
      · exact .inl h0
      · obtain ⟨g, o, h1, _⟩ := hr h0; exact .inr ⟨g, o, h1⟩
    have HZ := Lib.hid hz
    clear h hr hz HR hn
    rcases ha with rfl | ⟨g, o, rfl⟩
    · have hes : es = [] := List.eq_nil_of_length_eq_zero HN.out
      subst hes
      have HT := Lib.hid (show szv l (0 + bulkL []) = l by simp [szv, bulkL]; omega)
      clear H HN HZ
      go_enter Tryz.func4, Tryz.ntmps4
      go_wp2
      go_rounds 1
      go_ret
      exact ⟨ret_int (by rw [HT.out]), Below.refl _ _⟩
    · go_enter Tryz.func4, Tryz.ntmps4
      go_wp2
      go_loopw [1, 5] (fun v1 i wr => ∃ (k : Nat) (y : Int), k ≤ n ∧ i = .int .i64 (k : Int) ∧ v1 = .int .i64 y ∧ 0 ≤ y ∧ y ≤ 1048576 ∧ szv l (n + bulkL (es.take k)) = y ∧ Below w.heap.size w wr) (fun _ i _ => n - (intOf i).toNat)
      case atStart => exact ⟨0, l - (n : Int), Nat.zero_le _, rfl, rfl, by omega, by omega, by rw [List.take_zero]; simp only [bulkL, Nat.add_zero]; exact HZ.out, Below.refl _ _⟩
      case round =>
        obtain ⟨k, y, hk, rfl, rfl, y0, y1, hy, hbel⟩ := hrel
        by_cases hlt : k < n
        · have hke : k < es.length := by rw [HN.out]; exact hlt
          obtain ⟨hg, cs, ds, ed, od, ld, sd⟩ := H.out.elt hke
          have htk := take_bulk hke
          rw [ed] at htk
          simp only [Dt.bulk] at htk
          have hpart := bulk_parts es (k + 1)
          obtain ⟨C, hC⟩ : ∃ C, cs.toArray = C := ⟨_, rfl⟩
          have tC : C.toList = cs := by rw [← hC]
          have L1 := hload_run (P := Tryz.prog) (t := 39) Tryz.isAgg39 Tryz.sizeOf39 (w := wr) (b := g) (o := o + k * 6) (us := cs) (sd wr hbel) ld
          rw [hC] at L1
          rw [← tC] at od
          have HO := Lib.hid (od.on hbel)
          have i0 : (0 : Int) ≤ (k : Int) := by omega
          have i1 : (k : Int) < (n : Int) := by omega
          obtain ⟨z, hz⟩ : ∃ z, szv y (bulkL ds) = z := ⟨_, rfl⟩
          have hz2 : szv l (n + bulkL (es.take (k + 1))) = z := by rw [htk, ← Nat.add_assoc, ← szv_add (by rw [hy]; exact y0), hy, hz]
          have hzl : z ≤ 1048576 := by have := szv_le (a := bulkL ds) y0; omega
          have hneg : z < 0 → szv l (n + bulkL es) = -1 := fun hc => by rw [hpart, ← Nat.add_assoc]; exact szv_neg l0 (by rw [hz2]; exact hc)
          have hm1 : z < 0 → z = -1 := fun hc => by rw [← hz] at hc ⊢; unfold szv at hc ⊢; split at hc <;> first | rfl | omega
          have HF := Lib.hid (And.intro hz (And.intro hz2 (And.intro hneg hm1)))
          clear od sd ed ld hke hC tC htk hpart hz hz2 hneg hm1 hy
          by_cases c1 : z < 0
          · go_wp2_with (go_at_call 13; (with_reducible refine (sz_Object _ HO.out y y0 y1).mono ?_); rintro e w' ⟨rfl, hb⟩; rw [HF.out.1]; have hB := on_of hbel hb; clear hb)
            go_ret
            exact ⟨ret_int (HF.out.2.2.1 c1).symm, hB⟩
          · have z0 : 0 ≤ z := by omega
            go_wp2_with (go_at_call 13; (with_reducible refine (sz_Object _ HO.out y y0 y1).mono ?_); rintro e w' ⟨rfl, hb⟩; rw [HF.out.1]; have hB := on_of hbel hb; clear hb)
            go_roundw
            case rel => exact ⟨k + 1, z, by omega, by go_num, rfl, z0, hzl, HF.out.2.1, hB⟩
            case measure => simp [intOf]; omega
        · obtain rfl : k = n := by omega
          have HY := Lib.hid (show szv l (k + bulkL es) = y by rw [← hy, ← HN.out, List.take_length])
          clear hy
          go_wp2
          go_ret
          exact ⟨ret_int HY.out.symm, hbel⟩
end Go.Proofs.YtifmdgncgokikaaGreat.Own
