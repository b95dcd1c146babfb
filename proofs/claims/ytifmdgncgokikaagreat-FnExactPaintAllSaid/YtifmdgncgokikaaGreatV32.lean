/-
  Texts of this seat, laid together: Shelf7, Mv10, ClB, ClC, Mo10, Ms10, Do10, MkO, EqA
-/
import Derived.Shelf.LaysM
import Derived.Shelf.Strconv.Clone
import Derived.Shelf.Bits.Mul64
import Derived.Test.YtifmdgncgokikaaGreatProg
import Derived.Deep.RegionHeld3
import Derived.WalkKit
import Derived.Deep.DeepCutAuto
import Derived.Deep.QuietTactic
import Derived.BigQuiet
import Derived.Handy
import Derived.Test.YtifmdgncgokikaaGreatV19
import Derived.Test.YtifmdgncgokikaaGreatV28
import Derived.Test.YtifmdgncgokikaaGreatV26
import Derived.Test.YtifmdgncgokikaaGreatV30
import Derived.Test.YtifmdgncgokikaaGreatV16
namespace Go.Proofs
open Go.Shelf
def Tryz.lays264_ren : Go.Shelf.Ren := ⟨fun | 264 => 76 | n => n, fun | 53 => 104 | 46 => 97 | n => n, fun | n => n⟩
theorem Tryz.lays264 : Go.Proofs.Lays.n264 Tryz.prog Tryz.lays264_ren := {
  mixed := by kernel_rfl
  f264 := Tryz.func76.trans (congrArg some (by kernel_rfl))
  t46 := Tryz.underlying97
  a46 := Tryz.isAgg97
  z46 := Tryz.sizeOf97
  v46 := Tryz.zeroValue97
  t53 := Tryz.underlying104
  a53 := Tryz.isAgg104
  z53 := Tryz.sizeOf104
  v53 := Tryz.zeroValue104 }
open Go.RowKit Go.Lib in
theorem Tryz.bits_Mul64 (x y : Nat) (hx : x < 18446744073709551616) (hy : y < 18446744073709551616) (w : World) :
    Calls Tryz.prog 76 #[.int .u64 x, .int .u64 y] w fun e w' => e = .returned (.tuple #[.int .u64 ((x * y / 18446744073709551616 : Nat) : Int), .int .u64 ((x * y % 18446744073709551616 : Nat) : Int)]) ∧ w' = w := Any.bits_Mul64 Tryz.lays264 x y hx hy w
def Tryz.lays212_ren : Go.Shelf.Ren := ⟨fun | 212 => 67 | 263 => 75 | 264 => 76 | n => n, fun | 46 => 97 | 51 => 101 | 146 => 102 | 53 => 104 | 148 => 105 | n => n, fun | n => n⟩
theorem Tryz.lays212 : Go.Proofs.Lays.n212 Tryz.prog Tryz.lays212_ren := {
  mixed := by kernel_rfl
  f212 := Tryz.func67.trans (congrArg some (by kernel_rfl))
  f263 := Tryz.func75.trans (congrArg some (by kernel_rfl))
  f264 := Tryz.func76.trans (congrArg some (by kernel_rfl))
  t46 := Tryz.underlying97
  a46 := Tryz.isAgg97
  z46 := Tryz.sizeOf97
  v46 := Tryz.zeroValue97
  t51 := Tryz.underlying101
  a51 := Tryz.isAgg101
  z51 := Tryz.sizeOf101
  v51 := Tryz.zeroValue101
  t53 := Tryz.underlying104
  a53 := Tryz.isAgg104
  z53 := Tryz.sizeOf104
  v53 := Tryz.zeroValue104
  t146 := Tryz.underlying102
  a146 := Tryz.isAgg102
  z146 := Tryz.sizeOf102
  v146 := Tryz.zeroValue102
  t148 := Tryz.underlying105
  a148 := Tryz.isAgg105
  z148 := Tryz.sizeOf105
  v148 := Tryz.zeroValue105 }
open Go.RowKit Go.Lib in
theorem Tryz.bits_Mul (x y : Nat) (hx : x < 18446744073709551616) (hy : y < 18446744073709551616) (w : World) :
    Calls Tryz.prog 67 #[.int .u64 x, .int .u64 y] w fun e w' => e = .returned (.tuple #[.int .u64 ((x * y / 18446744073709551616 : Nat) : Int), .int .u64 ((x * y % 18446744073709551616 : Nat) : Int)]) ∧ w' = w := Any.bits_Mul Tryz.lays212 x y hx hy w
end Go.Proofs
namespace Go.Proofs.YtifmdgncgokikaaGreat.Ins
open Go.ChangeShapes Go.WideShapes Go.ChangeAt Go.RowKit
open Kit Point
open Go.Proofs.YtifmdgncgokikaaGreat.Own (Blk Ob grayB)
set_option linter.unusedVariables false
set_option linter.unusedSimpArgs false
set_option linter.unnecessarySimpa false
set_option maxRecDepth 100000
def FgIs (w : World) (m : List Pt) (g x0 y0 x1 y1 : Int) (e : Ending) (w' : World) : Prop := ∃ va vc, e = .returned (.agg #[.slice va m.length vc, .int .i64 g, .int .i64 x0, .int .i64 y0, .int .i64 x1, .int .i64 y1]) ∧
  w'.ownsRow w.heap.size 71 2 (.slice va m.length vc) m.length (cellsP m) ∧ Below w.heap.size w w'
end Go.Proofs.YtifmdgncgokikaaGreat.Ins
namespace Go.Proofs.YtifmdgncgokikaaGreat.Own
open Go.ChangeShapes Go.WideShapes Go.ChangeAt Go.RowKit
open Kit Slabs Ints Stack Point Turn
set_option linter.unusedVariables false
set_option linter.unusedSimpArgs false
set_option linter.unnecessarySimpa false
set_option maxRecDepth 100000
attribute [local go_sem ↓] hload_Object hstore_Object
end Go.Proofs.YtifmdgncgokikaaGreat.Own
namespace Go.Proofs.YtifmdgncgokikaaGreat.Own
open Go.ChangeShapes Go.WideShapes Go.ChangeAt Go.RowKit
open Kit Slabs Ints Stack Point Turn
set_option linter.unusedVariables false
set_option linter.unusedSimpArgs false
set_option linter.unnecessarySimpa false
set_option maxRecDepth 100000
def NewSt (ks : List Kd) (ds : List Dt) (w : World) (e : Ending) (w' : World) : Prop := ∃ (R : Array Value) (f : List Nat), e = .returned (.agg R) ∧ OwnL w' ks R.toList ds f ∧ f.Nodup ∧ (∀ b ∈ f, w.heap.size ≤ b) ∧ Below w.heap.size w w'
attribute [local go_sem ↓] hload_Object hstore_Object
end Go.Proofs.YtifmdgncgokikaaGreat.Own
namespace Go.Proofs.YtifmdgncgokikaaGreat.Ins
open Go.ChangeShapes Go.WideShapes Go.ChangeAt Go.RowKit
open Kit Point Slabs
open Go.Proofs.YtifmdgncgokikaaGreat.Own (Blk Ob grayB OwnL LObject KPt dP dPt)
set_option linter.unusedVariables false
set_option linter.unusedSimpArgs false
set_option linter.unnecessarySimpa false
set_option maxRecDepth 100000
def mvO (o : Ob) (dx dy : Int) : Ob := ⟨shV o.path (dx, dy), o.gray, IntKind.i64.wrap (o.x0 + dx), IntKind.i64.wrap (o.y0 + dy), IntKind.i64.wrap (o.x1 + dx), IntKind.i64.wrap (o.y1 + dy)⟩
def mvB (o : Ob) (dx dy : Int) : Bool := Own.obB o && Own.obB (mvO o dx dy)
def mvR (o : Ob) (dx dy : Int) : Ob := if mvB o dx dy then mvO o dx dy else o
def MvIs (o : Ob) (r : Bool) (w : World) (e : Ending) (w' : World) : Prop := ∃ (R : Array Value) (f : List Nat), e = .returned (.tuple #[.agg R, .bool r]) ∧ OwnL w' LObject R.toList o.dt f ∧ f.Nodup ∧ (∀ b ∈ f, w.heap.size ≤ b) ∧ Below w.heap.size w w'
theorem ownL_set {w : World} {ks : List Own.Kd} {cs : List Value} {ds : List Own.Dt} {fp : List Nat} {b : Nat} (h : OwnL w ks cs ds fp) (hn : b ∉ fp) (o : Nat) (v : Value) : OwnL (w.setCell ⟨b, o, none⟩ v) ks cs ds fp :=
  OwnL.stays (by simp) h (fun x hx => Below.heap_setCell _ _ _ _ (fun e => hn (by have e' : x = b := e; rw [← e']; exact hx)))
theorem own_row10 {w : World} {B : Nat} {v : Value} {m : List Pt} (h : w.ownsRow B 71 2 v m.length (cellsP m)) : ∃ fp, Own.Own w (.sl KPt) [v] (.sl (dP m)) fp ∧ fp.Nodup ∧ ∀ b ∈ fp, B ≤ b := by
  have hs := slab_owns h
  refine ⟨_, Own.pts_own hs (Own.len_dP m) (fun i hi => ⟨pX m i, pY m i, ?_, rfl⟩), ?_, fun b hb => (hs.row b (by simpa using hb)).1⟩
  · have e : m.getD i (0, 0) = m[i] := by simp [List.getD, List.getElem?_eq_getElem hi]
    simp only [Own.at_, dP, List.getD_eq_getElem?_getD, List.getElem?_map, List.getElem?_eq_getElem hi, Option.map_some, Option.getD_some, dPt, pX, pY]
  · cases Slabs.rowOf m.length v <;> simp
theorem obj_open {w : World} {A : Array Value} {o : Ob} {fp : List Nat} (h : OwnL w LObject A.toList o.dt fp) :
    ∃ a c, A = #[.slice a o.path.length c, .int .i64 o.gray, .int .i64 o.x0, .int .i64 o.y0, .int .i64 o.x1, .int .i64 o.y1] ∧ PathAt w a o.path := by
  obtain ⟨a0, c0, f0, hA, hf, o0⟩ := Own.inv_Object_ h
  simp only [Own.len_dP] at hA o0
  refine ⟨a0, c0, ?_, (Own.path_of o0).2⟩
  apply Array.toList_inj.1
  simpa using hA
theorem obj_len {o : Ob} (hb : Own.bulkL o.dt ≤ 1048576) : o.path.length ≤ 1048576 := by
  simp only [Own.Ob.dt, Own.bulkL, Own.Dt.bulk, Own.len_dP, Own.bulk_dP] at hb; omega
theorem obj_close {w : World} {B : Nat} {va : Option Addr} {vc : Nat} {o : Ob} (h : w.ownsRow B 71 2 (.slice va o.path.length vc) o.path.length (cellsP o.path)) :
    ∃ f, OwnL w LObject [.slice va o.path.length vc, .int .i64 o.gray, .int .i64 o.x0, .int .i64 o.y0, .int .i64 o.x1, .int .i64 o.y1] o.dt f ∧ f.Nodup ∧ ∀ b ∈ f, B ≤ b := by
  obtain ⟨f, o0, n0, g0⟩ := own_row10 h
  exact ⟨f, Own.mk_ob o.gray o.x0 o.y0 o.x1 o.y1 o0, n0, g0⟩
structure MvS (W w : World) (GA GR GM : Nat) (cs ms : List Value) : Prop where
  A : Blk W GA cs
  R : Blk W GR [.slice none 0 0, .int .i64 0, .int .i64 0, .int .i64 0, .int .i64 0, .int .i64 0]
  M : Blk W GM ms
  B : Below w.heap.size w W
theorem MvS.on {W w V : World} {GA GR GM : Nat} {cs ms : List Value} (h : MvS W w GA GR GM cs ms) (hb : Below W.heap.size W V) : MvS V w GA GR GM cs ms :=
  ⟨h.A.keep hb, h.R.keep hb, h.M.keep hb, on_of h.B hb⟩
theorem six {W : World} {G : Nat} {v : Value} {g x0 y0 x1 y1 : Int} (h : Blk W G [v, .int .i64 g, .int .i64 x0, .int .i64 y0, .int .i64 x1, .int .i64 y1]) :
    W.cell? ⟨G, 0, none⟩ = some v ∧ W.cell? ⟨G, 1, none⟩ = some (.int .i64 g) ∧ W.cell? ⟨G, 2, none⟩ = some (.int .i64 x0) ∧ W.cell? ⟨G, 3, none⟩ = some (.int .i64 y0) ∧ W.cell? ⟨G, 4, none⟩ = some (.int .i64 x1) ∧ W.cell? ⟨G, 5, none⟩ = some (.int .i64 y1) ∧ (∀ o, W.frozen? ⟨G, o, none⟩ = false) ∧ G < W.heap.size :=
  ⟨h.1 0 _ rfl, h.1 1 _ rfl, h.1 2 _ rfl, h.1 3 _ rfl, h.1 4 _ rfl, h.1 5 _ rfl, h.2.1, h.2.2⟩
end Go.Proofs.YtifmdgncgokikaaGreat.Ins
namespace Go.Proofs.YtifmdgncgokikaaGreat.Ins
open Go.ChangeShapes Go.WideShapes Go.ChangeAt Go.RowKit
open Kit Point Slabs
open Go.Proofs.YtifmdgncgokikaaGreat.Own (Blk Ob grayB OwnL LObject KPt dP dPt)
set_option linter.unusedVariables false
set_option linter.unusedSimpArgs false
set_option linter.unnecessarySimpa false
set_option maxRecDepth 100000
structure MvT (W w : World) (GA GR : Nat) (cs : List Value) : Prop where
  A : Blk W GA cs
  R : Blk W GR [.slice none 0 0, .int .i64 0, .int .i64 0, .int .i64 0, .int .i64 0, .int .i64 0]
  B : Below w.heap.size w W
theorem MvT.on {W w V : World} {GA GR : Nat} {cs : List Value} (h : MvT W w GA GR cs) (hb : Below W.heap.size W V) : MvT V w GA GR cs :=
  ⟨h.A.keep hb, h.R.keep hb, on_of h.B hb⟩
theorem MvS.two {W w : World} {GA GR GM : Nat} {cs ms : List Value} (h : MvS W w GA GR GM cs ms) : MvT W w GA GR cs := ⟨h.A, h.R, h.B⟩
theorem shV_no {l : List Pt} {dx dy : Int} (h : (inB dx && inB dy) = false) : shV l (dx, dy) = [] := shV_far h
end Go.Proofs.YtifmdgncgokikaaGreat.Ins
namespace Go.Proofs.YtifmdgncgokikaaGreat.Ins
open Go.ChangeShapes Go.WideShapes Go.ChangeAt Go.RowKit
open Kit Point
open Go.Proofs.YtifmdgncgokikaaGreat.Own (Blk Ob grayB)
set_option linter.unusedVariables false
set_option linter.unusedSimpArgs false
set_option linter.unnecessarySimpa false
set_option maxRecDepth 100000
def odK (f : Nat → Int) : Nat → Int
  | 0 => 0
  | k + 1 => IntKind.i64.wrap (odK f k + f k)
def odV (l : List Pt) (g x0 y0 x1 y1 : Int) : Int := odK (fun k => dtV (orow l g x0 y0 x1 y1 (k : Int))) 32
theorem odK_succ (f : Nat → Int) (k : Nat) : odK f (k + 1) = wrap64 (odK f k + f k) := IntWalk.i64_left _
theorem orow_len (l : List Pt) (g x0 y0 x1 y1 y : Int) : (orow l g x0 y0 x1 y1 y).length ≤ l.length := by
  unfold orow
  split
  · have h1 := mtV_len (spsV l y) (obx l g x0 y0 x1 y1).x0 (obx l g x0 y0 x1 y1).x1
    have h2 := spsV_len l y
    omega
  · simp
end Go.Proofs.YtifmdgncgokikaaGreat.Ins
namespace Go.Proofs.YtifmdgncgokikaaGreat.Own
open Go.ChangeShapes Go.WideShapes Go.ChangeAt Go.RowKit
open Kit Slabs Ints
set_option linter.unusedVariables false
set_option linter.unusedSimpArgs false
set_option linter.unnecessarySimpa false
set_option maxRecDepth 100000
end Go.Proofs.YtifmdgncgokikaaGreat.Own
namespace Go.Proofs.YtifmdgncgokikaaGreat.Own
open Go.ChangeShapes Go.WideShapes Go.ChangeAt Go.RowKit
open Kit Slabs Ints
set_option linter.unusedVariables false
set_option linter.unusedSimpArgs false
set_option linter.unnecessarySimpa false
set_option maxRecDepth 100000
theorem eq_Box (xx0_0 : Int) (xx1_0 : Int) (xx2_0 : Int) (xx3_0 : Int) (w : World) : Calls Tryz.prog 39 #[.agg #[.int .i64 xx0_0, .int .i64 xx1_0, .int .i64 xx2_0, .int .i64 xx3_0], .agg #[.int .i64 xx0_0, .int .i64 xx1_0, .int .i64 xx2_0, .int .i64 xx3_0]] w fun e w' => e = .returned (.bool true) ∧ Below w.heap.size w w' := by
  go_enter Tryz.func39, Tryz.ntmps39
  go_wp2
  go_ret
  exact ⟨rfl, by go_grown⟩
set_option maxHeartbeats 4000000 in
theorem eq_Object (w : World) {A B : Array Value} {ds : List Dt} {f1 f2 : List Nat} (hb : bulkL ds ≤ 1048576) (h1 : OwnL w LObject A.toList ds f1) (h2 : OwnL w LObject B.toList ds f2) :
    Calls Tryz.prog 23 #[.agg A, .agg B] w fun e w' => e = .returned (.bool true) ∧ Below w.heap.size w w' := by
  obtain ⟨xa0, xc0, xs0, xx1_0, xx2_0, xx2_1, xx2_2, xx2_3, xF0, hA, rfl, rfl, ox0⟩ := inv_Object h1
  obtain ⟨ya0, yc0, yF0, hB, rfl, oy0⟩ := inv_Object_ h2
  simp only [bulkL_app, bulkL, Dt.bulk] at hb
  have BA : Blk ((w.alloc (.cells A 46)).alloc (.cells B 46)) w.heap.size A.toList := (Blk.new w A 46 rfl).alloc _
  have BB : Blk ((w.alloc (.cells A 46)).alloc (.cells B 46)) (w.heap.size + 1) B.toList := Blk.new _ B 46 (by simp)
  have hW : Below w.heap.size w ((w.alloc (.cells A 46)).alloc (.cells B 46)) := by go_grown
  rw [hA] at BA
  rw [hB] at BB
  have HO := Lib.hid (And.intro ox0 oy0)
  have HA0 := Lib.hid BA
  have HB0 := Lib.hid BB
  have HW0 := Lib.hid hW
  have ca0 : A[0]? = some (.slice xa0 xs0.length xc0) := by rw [← Array.getElem?_toList, hA]; rfl
  have cb0 : B[0]? = some (.slice ya0 xs0.length yc0) := by rw [← Array.getElem?_toList, hB]; rfl
  clear ox0 oy0 hA hB BA BB hW h1 h2
  go_enter Tryz.func23, Tryz.ntmps23
  go_wp2_with fail
  ((with_reducible refine (eqP_o _ (by omega) ((HO.out.1).under HW0.out) ((HO.out.2).under HW0.out)).mono ?_); rintro e w1 ⟨rfl, b1⟩)
  have HW1 := Lib.hid (on_of HW0.out b1)
  have HA1 := Lib.hid (HA0.out.keep b1)
  have HB1 := Lib.hid (HB0.out.keep b1)
  clear b1 ca0 cb0
  have ca1 := HA1.out.1 1 (.int .i64 xx1_0) (by rfl)
  have cb1 := HB1.out.1 1 (.int .i64 xx1_0) (by rfl)
  have ca2 := HA1.out.1 2 (.int .i64 xx2_0) (by rfl)
  have ca3 := HA1.out.1 3 (.int .i64 xx2_1) (by rfl)
  have ca4 := HA1.out.1 4 (.int .i64 xx2_2) (by rfl)
  have ca5 := HA1.out.1 5 (.int .i64 xx2_3) (by rfl)
  have cb2 := HB1.out.1 2 (.int .i64 xx2_0) (by rfl)
  have cb3 := HB1.out.1 3 (.int .i64 xx2_1) (by rfl)
  have cb4 := HB1.out.1 4 (.int .i64 xx2_2) (by rfl)
  have cb5 := HB1.out.1 5 (.int .i64 xx2_3) (by rfl)
  go_wp2_with fail
  ((with_reducible refine (eq_Box xx2_0 xx2_1 xx2_2 xx2_3 _).mono ?_); rintro e w2 ⟨rfl, b2⟩)
  have HW2 := Lib.hid (on_of HW1.out b2)
  have HA2 := Lib.hid (HA1.out.keep b2)
  have HB2 := Lib.hid (HB1.out.keep b2)
  clear b2 ca1 cb1 ca2 ca3 ca4 ca5 cb2 cb3 cb4 cb5
  go_wp2
  go_ret
  exact ⟨rfl, HW2.out⟩
end Go.Proofs.YtifmdgncgokikaaGreat.Own
