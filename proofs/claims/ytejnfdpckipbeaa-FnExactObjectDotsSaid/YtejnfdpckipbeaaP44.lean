/-
  Texts of this seat, laid together: Lw10
-/
import Derived.Test.YtejnfdpckipbeaaP42
import Derived.Test.YtejnfdpckipbeaaP36
import Derived.Test.YtejnfdpckipbeaaP34
import Derived.Test.YtejnfdpckipbeaaP31
import Derived.Test.YtejnfdpckipbeaaP43
import Derived.Test.YtejnfdpckipbeaaP33
import Derived.Test.YtejnfdpckipbeaaP30
namespace Go.Proofs.Ytejnfdpckipbeaa.Own
open Go.ChangeShapes Go.WideShapes Go.ChangeAt Go.RowKit
open Kit Slabs
set_option linter.unusedVariables false
set_option linter.unusedSimpArgs false
set_option linter.unnecessarySimpa false
theorem spec_ObjectOk (w : World) {A : Array Value} {ds : List Dt} {fp : List Nat} (hb : bulkL ds ≤ 1048576) (h : OwnL w LObject A.toList ds fp) : Calls Try.prog 29 #[.agg A] w fun e w' => e = .returned (.bool (obB (obOf ds))) ∧ Below w.heap.size w w' := by
  have e := ob_dt h
  rw [e] at hb h
  obtain ⟨a, c, rfl, hp⟩ := Ins.obj_open h
  exact Ins.ok_spec w a c _ _ _ _ _ _ (Ins.obj_len hb) hp
theorem impl_ObjectOk (w : World) {A : Array Value} {ds : List Dt} {fp : List Nat} (hb : bulkL ds ≤ 1048576) (h : OwnL w LObject A.toList ds fp) : Calls Try.prog 20 #[.agg A] w fun e w' => e = .returned (.bool (obB (obOf ds))) ∧ Below w.heap.size w w' := by
  have e := ob_dt h
  rw [e] at hb h
  obtain ⟨a, c, rfl, hp⟩ := Ins.obj_open h
  exact Ins.ok_impl w a c _ _ _ _ _ _ (Ins.obj_len hb) hp
def obD (o : Ob) : Int := Ins.odV o.path o.gray o.x0 o.y0 o.x1 o.y1
theorem spec_ObjectDots (w : World) {A : Array Value} {ds : List Dt} {fp : List Nat} (hb : bulkL ds ≤ 1048576) (h : OwnL w LObject A.toList ds fp) : Calls Try.prog 39 #[.agg A] w fun e w' => e = .returned (.int .i64 (obD (obOf ds))) ∧ Below w.heap.size w w' := by
  have e := ob_dt h
  rw [e] at hb h
  obtain ⟨a, c, rfl, hp⟩ := Ins.obj_open h
  exact Ins.odots_spec w a c _ _ _ _ _ _ (Ins.obj_len hb) hp
theorem impl_ObjectDots (w : World) {A : Array Value} {ds : List Dt} {fp : List Nat} (hb : bulkL ds ≤ 1048576) (h : OwnL w LObject A.toList ds fp) : Calls Try.prog 21 #[.agg A] w fun e w' => e = .returned (.int .i64 (obD (obOf ds))) ∧ Below w.heap.size w w' := by
  have e := ob_dt h
  rw [e] at hb h
  obtain ⟨a, c, rfl, hp⟩ := Ins.obj_open h
  exact Ins.odots_impl w a c _ _ _ _ _ _ (Ins.obj_len hb) hp
def obX (o : Ob) : Ins.Bx := Ins.obx o.path o.gray o.x0 o.y0 o.x1 o.y1
theorem spec_ObjectBox (w : World) {A : Array Value} {ds : List Dt} {fp : List Nat} (hb : bulkL ds ≤ 1048576) (h : OwnL w LObject A.toList ds fp) {p0 p1 p2 p3 : Int} (hX : obX (obOf ds) = ⟨p0, p1, p2, p3⟩) : Calls Try.prog 32 #[.agg A] w fun e w' => e = .returned (.agg #[.int .i64 p0, .int .i64 p1, .int .i64 p2, .int .i64 p3]) ∧ Below w.heap.size w w' := by
  have e := ob_dt h
  rw [e] at hb h
  obtain ⟨a, c, rfl, hp⟩ := Ins.obj_open h
  have := Ins.obox_spec w a c _ (obOf ds).gray (obOf ds).x0 (obOf ds).y0 (obOf ds).x1 (obOf ds).y1 (Ins.obj_len hb) hp
  rw [show Ins.obx (obOf ds).path (obOf ds).gray (obOf ds).x0 (obOf ds).y0 (obOf ds).x1 (obOf ds).y1 = ⟨p0, p1, p2, p3⟩ from hX] at this
  exact this
theorem impl_ObjectBox (w : World) {A : Array Value} {ds : List Dt} {fp : List Nat} (hb : bulkL ds ≤ 1048576) (h : OwnL w LObject A.toList ds fp) {p0 p1 p2 p3 : Int} (hX : obX (obOf ds) = ⟨p0, p1, p2, p3⟩) : Calls Try.prog 13 #[.agg A] w fun e w' => e = .returned (.agg #[.int .i64 p0, .int .i64 p1, .int .i64 p2, .int .i64 p3]) ∧ Below w.heap.size w w' := by
  have e := ob_dt h
  rw [e] at hb h
  obtain ⟨a, c, rfl, hp⟩ := Ins.obj_open h
  have := Ins.obox_impl w a c _ (obOf ds).gray (obOf ds).x0 (obOf ds).y0 (obOf ds).x1 (obOf ds).y1 (Ins.obj_len hb) hp
  rw [show Ins.obx (obOf ds).path (obOf ds).gray (obOf ds).x0 (obOf ds).y0 (obOf ds).x1 (obOf ds).y1 = ⟨p0, p1, p2, p3⟩ from hX] at this
  exact this
def obS (o : Ob) (y : Int) : List (Int × Int) := Ins.orow o.path o.gray o.x0 o.y0 o.x1 o.y1 y
theorem obS_le (ds : List Dt) (hd : ds = (obOf ds).dt) (hb : bulkL ds ≤ 1048576) (y : Int) : (dP (obS (obOf ds) y)).length ≤ 1048576 := by
  rw [len_dP]
  rw [hd] at hb
  exact Nat.le_trans (Ins.orow_len _ _ _ _ _ _ _) (Ins.obj_len hb)
theorem own_spans {w : World} {B : Nat} {v : Value} {m : List (Int × Int)} (h : w.ownsRow B 83 2 v m.length (Ins.cellsP m)) : ∃ fp, Own w (.sl KPt) [v] (.sl (dP m)) fp ∧ fp.Nodup ∧ ∀ b ∈ fp, B ≤ b := by
  have hs := Ins.slab_owns9 h
  refine ⟨_, pts_own hs (len_dP m) (fun i hi => ⟨Ins.pX m i, Ins.pY m i, ?_, rfl⟩), ?_, fun b hb => (hs.row b (by simpa using hb)).1⟩
  · simp only [at_, dP, List.getD_eq_getElem?_getD, List.getElem?_map, List.getElem?_eq_getElem hi, Option.map_some, Option.getD_some, dPt, Ins.pX, Ins.pY]
  · cases rowOf m.length v <;> simp
theorem spec_ObjectRow (w : World) {A : Array Value} {ds : List Dt} {fp : List Nat} (hb : bulkL ds ≤ 1048576) (h : OwnL w LObject A.toList ds fp) (y : Int) : Calls Try.prog 34 #[.agg A, .int .i64 y] w fun e w' => ∃ (u : Value) (fp : List Nat), e = .returned u ∧ Own w' (.sl KPt) [u] (.sl (dP (obS (obOf ds) y))) fp ∧ fp.Nodup ∧ (∀ b ∈ fp, w.heap.size ≤ b) ∧ Below w.heap.size w w' := by
  have e := ob_dt h
  rw [e] at hb h
  obtain ⟨a, c, rfl, hp⟩ := Ins.obj_open h
  refine (Ins.orow_spec w a c _ (obOf ds).gray (obOf ds).x0 (obOf ds).y0 (obOf ds).x1 (obOf ds).y1 y (Ins.obj_len hb) hp).mono fun e w' ⟨u, he, ho, hb⟩ => ?_
  obtain ⟨f, h1, h2, h3⟩ := own_spans ho
  exact ⟨u, f, he, h1, h2, h3, hb⟩
theorem impl_ObjectRow (w : World) {A : Array Value} {ds : List Dt} {fp : List Nat} (hb : bulkL ds ≤ 1048576) (h : OwnL w LObject A.toList ds fp) (y : Int) : Calls Try.prog 14 #[.agg A, .int .i64 y] w fun e w' => ∃ (u : Value) (fp : List Nat), e = .returned u ∧ Own w' (.sl KPt) [u] (.sl (dP (obS (obOf ds) y))) fp ∧ fp.Nodup ∧ (∀ b ∈ fp, w.heap.size ≤ b) ∧ Below w.heap.size w w' := by
  have e := ob_dt h
  rw [e] at hb h
  obtain ⟨a, c, rfl, hp⟩ := Ins.obj_open h
  refine (Ins.orow_impl w a c _ (obOf ds).gray (obOf ds).x0 (obOf ds).y0 (obOf ds).x1 (obOf ds).y1 y (Ins.obj_len hb) hp).mono fun e w' ⟨u, he, ho, hb⟩ => ?_
  obtain ⟨f, h1, h2, h3⟩ := own_spans ho
  exact ⟨u, f, he, h1, h2, h3, hb⟩
theorem eq_SpanS (w : World) {v1 v2 : Value} {es : List Dt} {f1 f2 : List Nat} (hn : es.length ≤ 1048576) (h1 : Own w (.sl KPt) [v1] (.sl es) f1) (h2 : Own w (.sl KPt) [v2] (.sl es) f2) :
    Calls Try.prog 35 #[v1, v2] w fun e w' => e = .returned (.bool true) ∧ Below w.heap.size w w' := by
  obtain ⟨s1, _, k1, _⟩ := pts_slab h1 (B := 0) (fun _ _ => Nat.zero_le _)
  obtain ⟨s2, _, _, _⟩ := pts_slab h2 (B := 0) (fun _ _ => Nat.zero_le _)
  exact Spans.eqS_same w 0 0 v1 v2 es.length _ hn s1 s2 (fun i hi => by obtain ⟨x, y, e⟩ := k1 i hi; exact ⟨x, y, by rw [e]; rfl⟩)
theorem mark_SpanS1 (w : World) {v : Value} {es : List Dt} {fp : List Nat} (hn : es.length ≤ 1048576) (h : Own w (.sl KPt) [v] (.sl es) fp) :
    Calls Try.prog 37 #[v, .int .i64 1] w fun e w' => e = .returned (.int .i64 ((1 + cntL es : Nat) : Int)) ∧ Own w' (.sl KPt) [v] (.sl (mkL es 1)) fp ∧ Turns w w' (fun b => b ∈ fp) := by
  obtain ⟨hs, hf, hk, hc⟩ := pts_slab h (B := 0) (fun _ _ => Nat.zero_le _)
  have hs2 : Slab w 0 v es.length 2 (ptF es) := hs.same (fun i hi => by obtain ⟨x, y, e⟩ := hk i hi; simp only [ptF, e]; rfl)
  refine (Spans.markS_any w 0 1 es.length v _ (by omega) (by omega) (by omega) (Nat.zero_le _) hs2 (fun i hi => by obtain ⟨x, y, e⟩ := hk i hi; exact ⟨x, y, by simp only [ptF, e]⟩) (ptF_len es)).mono fun e w' ⟨he, hs', _, hg⟩ => ?_
  refine ⟨by rw [he, cnt_all es 2 hc], ?_, turns_row hg hf⟩
  rw [hf]
  exact pts_own hs' (mkL_length es 1) (fun i hi => by
    obtain ⟨x, y, e⟩ := hk i hi
    exact ⟨((1 + i * 2 : Nat) : Int), ((1 + i * 2 + 1 : Nat) : Int), by rw [mk_at es 2 1 hc i hi, e]; rfl, rfl⟩)
theorem held_SpanS1 (w : World) {v : Value} {es : List Dt} {fp fq : List Nat} {w0 : World} {v0 : Value} (hn : es.length ≤ 1048576) (h0 : Own w0 (.sl KPt) [v0] (.sl es) fq) (h : Own w (.sl KPt) [v] (.sl (mkL es 1)) fp) :
    Calls Try.prog 38 #[v, .int .i64 1] w fun e w' => e = .returned (.int .i64 ((1 + cntL es : Nat) : Int)) ∧ Below w.heap.size w w' := by
  obtain ⟨_, _, hk, hc⟩ := pts_slab h0 (B := 0) (fun _ _ => Nat.zero_le _)
  obtain ⟨hs, _, _, _⟩ := pts_slab h (B := 0) (fun _ _ => Nat.zero_le _)
  rw [mkL_length] at hs
  have hs2 : Slab w 0 v es.length 2 (Spans.marked 1) := hs.same (fun i hi => by obtain ⟨x, y, e⟩ := hk i hi; rw [mk_at es 2 1 hc i hi, e]; rfl)
  refine (Spans.heldS_any w 0 1 es.length v (by omega) (by omega) (by omega) hs2).mono fun e w' ⟨he, hb⟩ => ⟨?_, hb⟩
  rw [he, cnt_all es 2 hc]
def obM (o : Ob) (dx dy : Int) : Ob := Ins.mvR o dx dy
def obMB (o : Ob) (dx dy : Int) : Bool := Ins.mvB o dx dy
theorem bulk_ob (o : Ob) : bulkL o.dt = o.path.length := by simp only [Ob.dt, bulkL, Dt.bulk, len_dP, bulk_dP]; omega
theorem obM_le (ds : List Dt) (hd : ds = (obOf ds).dt) (hb : bulkL ds ≤ 1048576) (dx dy : Int) : bulkL (obM (obOf ds) dx dy).dt ≤ 1048576 := by
  have h0 : (obOf ds).path.length ≤ 1048576 := by rw [hd, bulk_ob] at hb; exact hb
  rw [bulk_ob]
  unfold obM Ins.mvR
  split
  · exact Nat.le_trans (Ins.shV_len _ _) h0
  · exact h0
theorem spec_MoveObject (w : World) {A : Array Value} {ds : List Dt} {fp : List Nat} (hb : bulkL ds ≤ 1048576) (h : OwnL w LObject A.toList ds fp) (dx dy : Int) : Calls Try.prog 40 #[.agg A, .int .i64 dx, .int .i64 dy] w fun e w' => ∃ (R : Array Value) (fp : List Nat), e = .returned (.tuple #[.agg R, .bool (obMB (obOf ds) dx dy)]) ∧ OwnL w' LObject R.toList (obM (obOf ds) dx dy).dt fp ∧ fp.Nodup ∧ (∀ b ∈ fp, w.heap.size ≤ b) ∧ Below w.heap.size w w' := by
  have e := ob_dt h
  rw [e] at hb h
  exact Ins.move_spec w hb h dx dy
theorem impl_MoveObject (w : World) {A : Array Value} {ds : List Dt} {fp : List Nat} (hb : bulkL ds ≤ 1048576) (h : OwnL w LObject A.toList ds fp) (dx dy : Int) : Calls Try.prog 19 #[.agg A, .int .i64 dx, .int .i64 dy] w fun e w' => ∃ (R : Array Value) (fp : List Nat), e = .returned (.tuple #[.agg R, .bool (obMB (obOf ds) dx dy)]) ∧ OwnL w' LObject R.toList (obM (obOf ds) dx dy).dt fp ∧ fp.Nodup ∧ (∀ b ∈ fp, w.heap.size ≤ b) ∧ Below w.heap.size w w' := by
  have e := ob_dt h
  rw [e] at hb h
  exact Ins.move_impl w hb h dx dy
end Go.Proofs.Ytejnfdpckipbeaa.Own
