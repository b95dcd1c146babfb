/-
  Texts of this seat, laid together: EqA, EqB, RpA, RpB
-/
import Derived.WalkKit
import Derived.Deep.DeepCutAuto
import Derived.Deep.QuietTactic
import Derived.BigQuiet
import Derived.Deep.RegionHeld3
import Derived.Handy
import Derived.Test.YtjmfgbbngocodaaGreatV09
import Derived.Test.YtjmfgbbngocodaaGreatV37
import Derived.Test.YtjmfgbbngocodaaGreatV38
import Derived.Test.YtjmfgbbngocodaaGreatV17
import Derived.Test.YtjmfgbbngocodaaGreatV42
import Derived.Test.YtjmfgbbngocodaaGreatV40
namespace Go.Proofs.YtjmfgbbngocodaaGreat.Own
open Go.ChangeShapes Go.WideShapes Go.ChangeAt Go.RowKit
open Kit Slabs Ints
set_option linter.unusedVariables false
set_option linter.unusedSimpArgs false
set_option linter.unnecessarySimpa false
set_option maxRecDepth 100000
theorem eq_Turn (xx0_0 : Int) (xx1_0 : Int) (xx2_0 : Int) (xx3_0 : Int) (w : World) : Calls Tryz.prog 90 #[.agg #[.int .i64 xx0_0, .int .i64 xx1_0, .int .i64 xx2_0, .int .i64 xx3_0], .agg #[.int .i64 xx0_0, .int .i64 xx1_0, .int .i64 xx2_0, .int .i64 xx3_0]] w fun e w' => e = .returned (.bool true) ∧ Below w.heap.size w w' := by
  go_enter Tryz.func90, Tryz.ntmps90
  go_wp2
  go_ret
  exact ⟨rfl, by go_grown⟩
theorem eq_Box (xx0_0 : Int) (xx1_0 : Int) (xx2_0 : Int) (xx3_0 : Int) (w : World) : Calls Tryz.prog 92 #[.agg #[.int .i64 xx0_0, .int .i64 xx1_0, .int .i64 xx2_0, .int .i64 xx3_0], .agg #[.int .i64 xx0_0, .int .i64 xx1_0, .int .i64 xx2_0, .int .i64 xx3_0]] w fun e w' => e = .returned (.bool true) ∧ Below w.heap.size w w' := by
  go_enter Tryz.func92, Tryz.ntmps92
  go_wp2
  go_ret
  exact ⟨rfl, by go_grown⟩
set_option maxHeartbeats 4000000 in
theorem eq_Graphics (w : World) {A B : Array Value} {ds : List Dt} {f1 f2 : List Nat} (hb : bulkL ds ≤ 1048576) (h1 : OwnL w LGraphics A.toList ds f1) (h2 : OwnL w LGraphics B.toList ds f2) :
    Calls Tryz.prog 40 #[.agg A, .agg B] w fun e w' => e = .returned (.bool true) ∧ Below w.heap.size w w' := by
  obtain ⟨xa0, xc0, xa5, xc5, xs0, xx1_0, xx1_1, xx1_2, xx1_3, xs5, xx6_0, xx7_0, xx7_1, xx7_2, xx7_3, xF0, xF5, hA, rfl, rfl, ox0, ox5⟩ := inv_Graphics h1
  obtain ⟨ya0, yc0, ya5, yc5, yF0, yF5, hB, rfl, oy0, oy5⟩ := inv_Graphics_ h2
  simp only [bulkL_app, bulkL, Dt.bulk] at hb
  have BA : Blk ((w.alloc (.cells A 42)).alloc (.cells B 42)) w.heap.size A.toList := (Blk.new w A 42 rfl).alloc _
  have BB : Blk ((w.alloc (.cells A 42)).alloc (.cells B 42)) (w.heap.size + 1) B.toList := Blk.new _ B 42 (by simp)
  have hW : Below w.heap.size w ((w.alloc (.cells A 42)).alloc (.cells B 42)) := by go_grown
  rw [hA] at BA
  rw [hB] at BB
  have HO := Lib.hid (And.intro ox0 (And.intro ox5 (And.intro oy0 oy5)))
  have HA0 := Lib.hid BA
  have HB0 := Lib.hid BB
  have HW0 := Lib.hid hW
  have ca0 : A[0]? = some (.slice xa0 xs0.length xc0) := by rw [← Array.getElem?_toList, hA]; rfl
  have cb0 : B[0]? = some (.slice ya0 xs0.length yc0) := by rw [← Array.getElem?_toList, hB]; rfl
  clear ox0 ox5 oy0 oy5 hA hB BA BB hW h1 h2
  go_enter Tryz.func40, Tryz.ntmps40
  go_wp2_with fail
  ((with_reducible refine (eqI_o _ (by omega) ((HO.out.1).under HW0.out) ((HO.out.2.2.1).under HW0.out)).mono ?_); rintro e w1 ⟨rfl, b1⟩)
  have HW1 := Lib.hid (on_of HW0.out b1)
  have HA1 := Lib.hid (HA0.out.keep b1)
  have HB1 := Lib.hid (HB0.out.keep b1)
  clear b1 ca0 cb0
  have ca1 := HA1.out.1 1 (.int .i64 xx1_0) (by rfl)
  have ca2 := HA1.out.1 2 (.int .i64 xx1_1) (by rfl)
  have ca3 := HA1.out.1 3 (.int .i64 xx1_2) (by rfl)
  have ca4 := HA1.out.1 4 (.int .i64 xx1_3) (by rfl)
  have cb1 := HB1.out.1 1 (.int .i64 xx1_0) (by rfl)
  have cb2 := HB1.out.1 2 (.int .i64 xx1_1) (by rfl)
  have cb3 := HB1.out.1 3 (.int .i64 xx1_2) (by rfl)
  have cb4 := HB1.out.1 4 (.int .i64 xx1_3) (by rfl)
  go_wp2_with fail
  ((with_reducible refine (eq_Turn xx1_0 xx1_1 xx1_2 xx1_3 _).mono ?_); rintro e w2 ⟨rfl, b2⟩)
  have HW2 := Lib.hid (on_of HW1.out b2)
  have HA2 := Lib.hid (HA1.out.keep b2)
  have HB2 := Lib.hid (HB1.out.keep b2)
  clear b2 ca1 ca2 ca3 ca4 cb1 cb2 cb3 cb4
  have ca5 := HA2.out.1 5 (.slice xa5 xs5.length xc5) (by rfl)
  have cb5 := HB2.out.1 5 (.slice ya5 xs5.length yc5) (by rfl)
  go_wp2_with fail
  ((with_reducible refine (eqP_o _ (by omega) ((HO.out.2.1).under HW2.out) ((HO.out.2.2.2).under HW2.out)).mono ?_); rintro e w3 ⟨rfl, b3⟩)
  have HW3 := Lib.hid (on_of HW2.out b3)
  have HA3 := Lib.hid (HA2.out.keep b3)
  have HB3 := Lib.hid (HB2.out.keep b3)
  clear b3 ca5 cb5
  have ca6 := HA3.out.1 6 (.int .i64 xx6_0) (by rfl)
  have cb6 := HB3.out.1 6 (.int .i64 xx6_0) (by rfl)
  have ca7 := HA3.out.1 7 (.int .i64 xx7_0) (by rfl)
  have ca8 := HA3.out.1 8 (.int .i64 xx7_1) (by rfl)
  have ca9 := HA3.out.1 9 (.int .i64 xx7_2) (by rfl)
  have ca10 := HA3.out.1 10 (.int .i64 xx7_3) (by rfl)
  have cb7 := HB3.out.1 7 (.int .i64 xx7_0) (by rfl)
  have cb8 := HB3.out.1 8 (.int .i64 xx7_1) (by rfl)
  have cb9 := HB3.out.1 9 (.int .i64 xx7_2) (by rfl)
  have cb10 := HB3.out.1 10 (.int .i64 xx7_3) (by rfl)
  go_wp2_with fail
  ((with_reducible refine (eq_Box xx7_0 xx7_1 xx7_2 xx7_3 _).mono ?_); rintro e w4 ⟨rfl, b4⟩)
  have HW4 := Lib.hid (on_of HW3.out b4)
  have HA4 := Lib.hid (HA3.out.keep b4)
  have HB4 := Lib.hid (HB3.out.keep b4)
  clear b4 ca6 cb6 ca7 ca8 ca9 ca10 cb7 cb8 cb9 cb10
  go_wp2
  go_ret
  exact ⟨rfl, HW4.out⟩
set_option maxHeartbeats 4000000 in
theorem eq_Object (w : World) {A B : Array Value} {ds : List Dt} {f1 f2 : List Nat} (hb : bulkL ds ≤ 1048576) (h1 : OwnL w LObject A.toList ds f1) (h2 : OwnL w LObject B.toList ds f2) :
    Calls Tryz.prog 93 #[.agg A, .agg B] w fun e w' => e = .returned (.bool true) ∧ Below w.heap.size w w' := by
  obtain ⟨xa0, xc0, xs0, xx1_0, xx2_0, xx2_1, xx2_2, xx2_3, xF0, hA, rfl, rfl, ox0⟩ := inv_Object h1
  obtain ⟨ya0, yc0, yF0, hB, rfl, oy0⟩ := inv_Object_ h2
  simp only [bulkL_app, bulkL, Dt.bulk] at hb
  have BA : Blk ((w.alloc (.cells A 101)).alloc (.cells B 101)) w.heap.size A.toList := (Blk.new w A 101 rfl).alloc _
  have BB : Blk ((w.alloc (.cells A 101)).alloc (.cells B 101)) (w.heap.size + 1) B.toList := Blk.new _ B 101 (by simp)
  have hW : Below w.heap.size w ((w.alloc (.cells A 101)).alloc (.cells B 101)) := by go_grown
  rw [hA] at BA
  rw [hB] at BB
  have HO := Lib.hid (And.intro ox0 oy0)
  have HA0 := Lib.hid BA
  have HB0 := Lib.hid BB
  have HW0 := Lib.hid hW
  have ca0 : A[0]? = some (.slice xa0 xs0.length xc0) := by rw [← Array.getElem?_toList, hA]; rfl
  have cb0 : B[0]? = some (.slice ya0 xs0.length yc0) := by rw [← Array.getElem?_toList, hB]; rfl
  clear ox0 oy0 hA hB BA BB hW h1 h2
  go_enter Tryz.func93, Tryz.ntmps93
  go_wp2_with fail
  ((with_reducible refine (eqP_o _ (by omega) ((HO.out.1).under HW0.out) ((HO.out.2).under HW0.out)).mono ?_); rintro e w1 ⟨rfl, b1⟩)
  have HW1 := Lib.hid (on_of HW0.out b1)
  have HA1 := Lib.hid (HA0.out.keep b1)
  have HB1 := Lib.hid (HB0.out.keep b1)
  clear b1 ca0 cb0
  have ca1 := HA1.out.1 1 (.int .i64 xx1_0) (by rfl)
  have cb1 := HB1.out.1 1 (.int .i64 xx1_0) (by rfl)
  have ca2 := HA1.out.1 2 (.int .i64 xx2_0) (by rfl)
  have ca3 := HA1.out.1 3 (.int .i64 xx2_1) (by rfl)
  have ca4 := HA1.out.1 4 (.int .i64 xx2_2) (by rfl)
  have ca5 := HA1.out.1 5 (.int .i64 xx2_3) (by rfl)
  have cb2 := HB1.out.1 2 (.int .i64 xx2_0) (by rfl)
  have cb3 := HB1.out.1 3 (.int .i64 xx2_1) (by rfl)
  have cb4 := HB1.out.1 4 (.int .i64 xx2_2) (by rfl)
  have cb5 := HB1.out.1 5 (.int .i64 xx2_3) (by rfl)
  go_wp2_with fail
  ((with_reducible refine (eq_Box xx2_0 xx2_1 xx2_2 xx2_3 _).mono ?_); rintro e w2 ⟨rfl, b2⟩)
  have HW2 := Lib.hid (on_of HW1.out b2)
  have HA2 := Lib.hid (HA1.out.keep b2)
  have HB2 := Lib.hid (HB1.out.keep b2)
  clear b2 ca1 cb1 ca2 ca3 ca4 ca5 cb2 cb3 cb4 cb5
  go_wp2
  go_ret
  exact ⟨rfl, HW2.out⟩
end Go.Proofs.YtjmfgbbngocodaaGreat.Own

namespace Go.Proofs.YtjmfgbbngocodaaGreat.Own
open Go.ChangeShapes Go.WideShapes Go.ChangeAt Go.RowKit
open Kit Slabs Ints
set_option linter.unusedVariables false
set_option linter.unusedSimpArgs false
set_option linter.unnecessarySimpa false
set_option maxRecDepth 100000
attribute [local go_sem ↓] hload_Graphics
attribute [local go_sem ↓] hload_Object
set_option maxHeartbeats 4000000 in
theorem eq_GraphicsS (w : World) {a1 a2 : Option Addr} {n1 n2 p1 p2 : Nat} {es : List Dt} {f1 f2 : List Nat} (hb : es.length + bulkL es ≤ 1048576) (h1 : Own w (.sl KGraphics) [.slice a1 n1 p1] (.sl es) f1) (h2 : Own w (.sl KGraphics) [.slice a2 n2 p2] (.sl es) f2) :
    Calls Tryz.prog 41 #[.slice a1 n1 p1, .slice a2 n2 p2] w fun e w' => e = .returned (.bool true) ∧ Below w.heap.size w w' := by
  obtain ⟨e1, r1⟩ := h1.row
  obtain ⟨e2, r2⟩ := h2.row
  obtain ⟨n, hn⟩ : ∃ n, es.length = n := ⟨_, rfl⟩
  obtain rfl : n1 = n := e1.symm.trans hn
  obtain rfl : n2 = n1 := e2.symm.trans hn
  by_cases h0 : n2 = 0
  · subst h0
    clear h1 h2 r1 r2
    go_enter Tryz.func41, Tryz.ntmps41
    go_wp2
    go_loopw [5] (fun i wr => i = .int .i64 0 ∧ Below w.heap.size w wr) (fun _ _ => 0)
    case atStart => exact ⟨rfl, Below.refl _ _⟩
    case round =>
      obtain ⟨rfl, hbel⟩ := hrel
      go_wp2
      go_ret
      exact ⟨rfl, hbel⟩
  · obtain ⟨g1, rfl, _⟩ := r1 h0
    obtain ⟨g2, rfl, _⟩ := r2 h0
    have H := Lib.hid (And.intro h1 h2)
    have hn2 : n2 ≤ 1048576 := by omega
    have HN := Lib.hid (And.intro hn hb)
    clear h1 h2 r1 r2 e1 e2 hb hn
    go_enter Tryz.func41, Tryz.ntmps41
    go_wp2
    go_loopw [5] (fun i wr => ∃ k : Nat, k ≤ n2 ∧ i = .int .i64 (k : Int) ∧ Below w.heap.size w wr) (fun i _ => n2 - (intOf i).toNat)
    case atStart => exact ⟨0, Nat.zero_le _, rfl, Below.refl _ _⟩
    case round =>
      obtain ⟨k, hk, rfl, hbel⟩ := hrel
      by_cases hlt : k < n2
      · have hke : k < es.length := by rw [HN.out.1]; exact hlt
        obtain ⟨hg1, _, c1, d1, q1, ed1, o1, l1, _, s1⟩ := H.out.1.elt hke
        obtain ⟨hg2, _, c2, d2, q2, ed2, o2, l2, _, s2⟩ := H.out.2.elt hke
        rw [ed1] at ed2
        injection ed2 with ed2
        subst ed2
        have hbk := bulk_elt hke
        rw [ed1] at hbk
        have hbk2 : bulkL d1 ≤ 1048576 := by simp only [Dt.bulk] at hbk; have := HN.out.2; omega
        have L1 := Lib.hid (fun W hW => hload_run (P := Tryz.prog) (t := 42) Tryz.isAgg42 Tryz.sizeOf42 (w := W) (b := g1) (o := k * 11) (us := c1) (s1 W hW) l1)
        have L2 := Lib.hid (fun W hW => hload_run (P := Tryz.prog) (t := 42) Tryz.isAgg42 Tryz.sizeOf42 (w := W) (b := g2) (o := k * 11) (us := c2) (s2 W hW) l2)
        have HE := Lib.hid (And.intro o1 o2)
        have i0 : (0 : Int) ≤ (k : Int) := by omega
        have i1 : (k : Int) < (n2 : Int) := by omega
        obtain ⟨C1, hC1⟩ : ∃ C, c1.toArray = C := ⟨_, rfl⟩
        obtain ⟨C2, hC2⟩ : ∃ C, c2.toArray = C := ⟨_, rfl⟩
        rw [hC1] at L1
        rw [hC2] at L2
        have t1 : C1.toList = c1 := by rw [← hC1]
        have t2 : C2.toList = c2 := by rw [← hC2]
        rw [← t1, ← t2] at HE
        clear o1 o2 s1 s2 ed1 hbk l1 l2 hC1 hC2 t1 t2 hg1 hg2 hke
        go_wp2_with fail
        go_region_held3 (fun w' => (hload 42 ⟨g1, k * 11, none⟩).run Tryz.prog w' = .ok (.agg C1) w' ∧ (hload 42 ⟨g2, k * 11, none⟩).run Tryz.prog w' = .ok (.agg C2) w' ∧ Below w.heap.size w w') (first | exact ⟨L1.out _ hB, L2.out _ hB, hB⟩ | exact ⟨L1.out _ (by go_grown), L2.out _ (by go_grown), by go_grown⟩)
          ((go_at_call 40; (with_reducible refine (eq_Graphics _ hbk2 (HE.out.1.under (by go_grown)) (HE.out.2.under (by go_grown))).mono ?_); rintro e w' ⟨rfl, hb⟩; have hB := on_of (W := w) (by go_grown) hb))
        go_wp2
        go_roundw
        case rel => exact ⟨k + 1, by omega, by go_num, hB⟩
        case measure => simp [intOf]; omega
      · obtain rfl : k = n2 := by omega
        go_wp2
        go_ret
        exact ⟨rfl, hbel⟩
set_option maxHeartbeats 4000000 in
theorem eq_ObjectS (w : World) {a1 a2 : Option Addr} {n1 n2 p1 p2 : Nat} {es : List Dt} {f1 f2 : List Nat} (hb : es.length + bulkL es ≤ 1048576) (h1 : Own w (.sl KObject) [.slice a1 n1 p1] (.sl es) f1) (h2 : Own w (.sl KObject) [.slice a2 n2 p2] (.sl es) f2) :
    Calls Tryz.prog 42 #[.slice a1 n1 p1, .slice a2 n2 p2] w fun e w' => e = .returned (.bool true) ∧ Below w.heap.size w w' := by
  obtain ⟨e1, r1⟩ := h1.row
  obtain ⟨e2, r2⟩ := h2.row
  obtain ⟨n, hn⟩ : ∃ n, es.length = n := ⟨_, rfl⟩
  obtain rfl : n1 = n := e1.symm.trans hn
  obtain rfl : n2 = n1 := e2.symm.trans hn
  by_cases h0 : n2 = 0
  · subst h0
    clear h1 h2 r1 r2
    go_enter Tryz.func42, Tryz.ntmps42
    go_wp2
    go_loopw [5] (fun i wr => i = .int .i64 0 ∧ Below w.heap.size w wr) (fun _ _ => 0)
    case atStart => exact ⟨rfl, Below.refl _ _⟩
    case round =>
      obtain ⟨rfl, hbel⟩ := hrel
      go_wp2
      go_ret
      exact ⟨rfl, hbel⟩
  · obtain ⟨g1, rfl, _⟩ := r1 h0
    obtain ⟨g2, rfl, _⟩ := r2 h0
    have H := Lib.hid (And.intro h1 h2)
    have hn2 : n2 ≤ 1048576 := by omega
    have HN := Lib.hid (And.intro hn hb)
    clear h1 h2 r1 r2 e1 e2 hb hn
    go_enter Tryz.func42, Tryz.ntmps42
    go_wp2
    go_loopw [5] (fun i wr => ∃ k : Nat, k ≤ n2 ∧ i = .int .i64 (k : Int) ∧ Below w.heap.size w wr) (fun i _ => n2 - (intOf i).toNat)
    case atStart => exact ⟨0, Nat.zero_le _, rfl, Below.refl _ _⟩
    case round =>
      obtain ⟨k, hk, rfl, hbel⟩ := hrel
      by_cases hlt : k < n2
      · have hke : k < es.length := by rw [HN.out.1]; exact hlt
        obtain ⟨hg1, _, c1, d1, q1, ed1, o1, l1, _, s1⟩ := H.out.1.elt hke
        obtain ⟨hg2, _, c2, d2, q2, ed2, o2, l2, _, s2⟩ := H.out.2.elt hke
        rw [ed1] at ed2
        injection ed2 with ed2
        subst ed2
        have hbk := bulk_elt hke
        rw [ed1] at hbk
        have hbk2 : bulkL d1 ≤ 1048576 := by simp only [Dt.bulk] at hbk; have := HN.out.2; omega
        have L1 := Lib.hid (fun W hW => hload_run (P := Tryz.prog) (t := 101) Tryz.isAgg101 Tryz.sizeOf101 (w := W) (b := g1) (o := k * 6) (us := c1) (s1 W hW) l1)
        have L2 := Lib.hid (fun W hW => hload_run (P := Tryz.prog) (t := 101) Tryz.isAgg101 Tryz.sizeOf101 (w := W) (b := g2) (o := k * 6) (us := c2) (s2 W hW) l2)
        have HE := Lib.hid (And.intro o1 o2)
        have i0 : (0 : Int) ≤ (k : Int) := by omega
        have i1 : (k : Int) < (n2 : Int) := by omega
        obtain ⟨C1, hC1⟩ : ∃ C, c1.toArray = C := ⟨_, rfl⟩
        obtain ⟨C2, hC2⟩ : ∃ C, c2.toArray = C := ⟨_, rfl⟩
        rw [hC1] at L1
        rw [hC2] at L2
        have t1 : C1.toList = c1 := by rw [← hC1]
        have t2 : C2.toList = c2 := by rw [← hC2]
        rw [← t1, ← t2] at HE
        clear o1 o2 s1 s2 ed1 hbk l1 l2 hC1 hC2 t1 t2 hg1 hg2 hke
        go_wp2_with fail
        go_region_held3 (fun w' => (hload 101 ⟨g1, k * 6, none⟩).run Tryz.prog w' = .ok (.agg C1) w' ∧ (hload 101 ⟨g2, k * 6, none⟩).run Tryz.prog w' = .ok (.agg C2) w' ∧ Below w.heap.size w w') (first | exact ⟨L1.out _ hB, L2.out _ hB, hB⟩ | exact ⟨L1.out _ (by go_grown), L2.out _ (by go_grown), by go_grown⟩)
          ((go_at_call 93; (with_reducible refine (eq_Object _ hbk2 (HE.out.1.under (by go_grown)) (HE.out.2.under (by go_grown))).mono ?_); rintro e w' ⟨rfl, hb⟩; have hB := on_of (W := w) (by go_grown) hb))
        go_wp2
        go_roundw
        case rel => exact ⟨k + 1, by omega, by go_num, hB⟩
        case measure => simp [intOf]; omega
      · obtain rfl : k = n2 := by omega
        go_wp2
        go_ret
        exact ⟨rfl, hbel⟩
set_option maxHeartbeats 4000000 in
theorem eq_Page (w : World) {A B : Array Value} {ds : List Dt} {f1 f2 : List Nat} (hb : bulkL ds ≤ 1048576) (h1 : OwnL w LPage A.toList ds f1) (h2 : OwnL w LPage B.toList ds f2) :
    Calls Tryz.prog 11 #[.agg A, .agg B] w fun e w' => e = .returned (.bool true) ∧ Below w.heap.size w w' := by
  obtain ⟨xG0, xa11, xc11, xa12, xc12, xD0, xs11, xs12, xF0, xF11, xF12, hA, rfl, rfl, ox0, ox11, ox12⟩ := inv_Page h1
  have lxD0 := ox0.dlen
  obtain ⟨yG0, ya11, yc11, ya12, yc12, yF0, yF11, yF12, hB, rfl, oy0, oy11, oy12⟩ := inv_Page_ lxD0 h2
  simp only [bulkL_app, bulkL, Dt.bulk] at hb
  have nxG0 : xG0.length = 11 := ox0.len
  have nyG0 : yG0.length = 11 := oy0.len
  have BA : Blk ((w.alloc (.cells A 46)).alloc (.cells B 46)) w.heap.size A.toList := (Blk.new w A 46 rfl).alloc _
  have BB : Blk ((w.alloc (.cells A 46)).alloc (.cells B 46)) (w.heap.size + 1) B.toList := Blk.new _ B 46 (by simp)
  have hW : Below w.heap.size w ((w.alloc (.cells A 46)).alloc (.cells B 46)) := by go_grown
  rw [hA] at BA
  rw [hB] at BB
  have HO := Lib.hid (And.intro ox0 (And.intro ox11 (And.intro ox12 (And.intro oy0 (And.intro oy11 oy12)))))
  have HA0 := Lib.hid BA
  have HB0 := Lib.hid BB
  have HW0 := Lib.hid hW
  have ra := hload_run (P := Tryz.prog) (t := 42) Tryz.isAgg42 Tryz.sizeOf42 (w := (w.alloc (.cells A 46)).alloc (.cells B 46)) (b := w.heap.size) (o := 0) (us := xG0) (Blk.part (P := []) HA0.out rfl) nxG0
  have rb := hload_run (P := Tryz.prog) (t := 42) Tryz.isAgg42 Tryz.sizeOf42 (w := (w.alloc (.cells A 46)).alloc (.cells B 46)) (b := w.heap.size + 1) (o := 0) (us := yG0) (Blk.part (P := []) HB0.out rfl) nyG0
  clear ox0 ox11 ox12 oy0 oy11 oy12 hA hB BA BB hW h1 h2
  go_enter Tryz.func11, Tryz.ntmps11
  go_wp2_with fail
  ((with_reducible refine (eq_Graphics (ds := xD0) _ (by omega) (by simpa using (HO.out.1).under HW0.out) (by simpa using (HO.out.2.2.2.1).under HW0.out)).mono ?_); rintro e w1 ⟨rfl, b1⟩)
  have HW1 := Lib.hid (on_of HW0.out b1)
  have HA1 := Lib.hid (HA0.out.keep b1)
  have HB1 := Lib.hid (HB0.out.keep b1)
  clear b1  ra rb
  have ca11 := HA1.out.1 11 (.slice xa11 xs11.length xc11) (by simp [nxG0, nyG0])
  have cb11 := HB1.out.1 11 (.slice ya11 xs11.length yc11) (by simp [nxG0, nyG0])
  go_wp2_with fail
  ((with_reducible refine (eq_GraphicsS _ (by omega) ((HO.out.2.1).under HW1.out) ((HO.out.2.2.2.2.1).under HW1.out)).mono ?_); rintro e w2 ⟨rfl, b2⟩)
  have HW2 := Lib.hid (on_of HW1.out b2)
  have HA2 := Lib.hid (HA1.out.keep b2)
  have HB2 := Lib.hid (HB1.out.keep b2)
  clear b2 ca11 cb11
  have ca12 := HA2.out.1 12 (.slice xa12 xs12.length xc12) (by simp [nxG0, nyG0])
  have cb12 := HB2.out.1 12 (.slice ya12 xs12.length yc12) (by simp [nxG0, nyG0])
  go_wp2_with fail
  ((with_reducible refine (eq_ObjectS _ (by omega) ((HO.out.2.2.1).under HW2.out) ((HO.out.2.2.2.2.2).under HW2.out)).mono ?_); rintro e w3 ⟨rfl, b3⟩)
  have HW3 := Lib.hid (on_of HW2.out b3)
  have HA3 := Lib.hid (HA2.out.keep b3)
  have HB3 := Lib.hid (HB2.out.keep b3)
  clear b3 ca12 cb12
  go_wp2
  go_ret
  exact ⟨rfl, HW3.out⟩
end Go.Proofs.YtjmfgbbngocodaaGreat.Own

namespace Go.Proofs.YtjmfgbbngocodaaGreat.Own
open Go.ChangeShapes Go.WideShapes Go.ChangeAt Go.RowKit
open Kit Slabs Recs Ints Stack Point Turn
open Go.Proofs.YtjmfgbbngocodaaGreat.Blk (Tok Rdt FbIs FbLeft toL toL_len cellsL)
set_option linter.unusedVariables false
set_option linter.unusedSimpArgs false
set_option linter.unnecessarySimpa false
set_option maxRecDepth 100000
attribute [local go_sem ↓] hload_Graphics hload_Object hstore_Graphics hstore_Object hload_Page hstore_Page
def unT : Dt → Tok
  | .st [.str s, .int n] => (s, n)
  | _ => (⟨#[]⟩, 0)
def tokL (es : List Dt) : List Tok := toL (fun i => (unT (at_ es i)).1) (fun i => (unT (at_ es i)).2) es.length
theorem tokL_len (es : List Dt) : (tokL es).length = es.length := toL_len _ _ _
theorem rdt_own {w : World} {v : Value} {es : List Dt} {fp : List Nat} (h : Own w (.sl KToken) [v] (.sl es) fp) : Rdt w v (tokL es) := by
  obtain ⟨hs, _, hk, _⟩ := toks_slab h (B := 0) (fun b _ => Nat.zero_le b)
  refine Go.Proofs.YtjmfgbbngocodaaGreat.Blk.Rdt.of_slab (hs.same fun i hi => ?_)
  obtain ⟨s, n, e⟩ := hk i hi
  rw [e]; rfl
theorem tokL_size {w : World} {v : Value} {es : List Dt} {fp : List Nat} (h : Own w (.sl KToken) [v] (.sl es) fp) (hb : bulkL es ≤ 1048576) : ∀ t ∈ tokL es, t.1.size ≤ 1048576 := by
  intro t ht
  obtain ⟨_, _, hk, _⟩ := toks_slab h (B := 0) (fun b _ => Nat.zero_le b)
  simp only [tokL, toL, List.mem_map, List.mem_range] at ht
  obtain ⟨i, hi, rfl⟩ := ht
  obtain ⟨s, n, e⟩ := hk i hi
  have h2 := bulk_elt hi
  rw [← at_eq hi, e] at h2
  simp only [Dt.bulk, bulkL] at h2
  rw [e]
  show s.size ≤ _
  omega
def runT : Pg → List Tok → Nat → Pg × Nat
  | p, [], k => (p, k)
  | p, t :: r, k => if exB p t.1 t.2 = true then runT (exD p t.1 t.2) r (k + 1) else (p, k)
def zeroPg : Pg := ⟨⟨[], 0, 0, 0, 0, [], 0, 0, 0, 0, 0⟩, [], []⟩
def rpF (A : List Tok) (B : Bool) : Pg × Int := if B = true then ((runT newP A 0).1, ((runT newP A 0).2 : Nat)) else (zeroPg, -1)
theorem newP_le : bulkL newP.dt ≤ 1048576 := by decide
theorem runT_le : ∀ (A : List Tok) (p : Pg) (k : Nat), bulkL p.dt ≤ 1048576 → bulkL (runT p A k).1.dt ≤ 1048576
  | [], p, k, h => h
  | t :: r, p, k, h => by
    unfold runT
    split
    · exact runT_le r _ _ (exD_le h _ _)
    · exact h
theorem rpF_le (A : List Tok) (B : Bool) : bulkL (rpF A B).1.dt ≤ 1048576 := by
  unfold rpF
  split
  · exact runT_le A newP 0 newP_le
  · decide
theorem runT_step {A : List Tok} {p : Pg} {k : Nat} (hk : k < A.length) : runT p (A.drop k) k = if exB p (A[k]).1 (A[k]).2 = true then runT (exD p (A[k]).1 (A[k]).2) (A.drop (k + 1)) (k + 1) else (p, k) := by
  rw [List.drop_eq_getElem_cons hk]; rfl
theorem runT_end {A : List Tok} {p : Pg} {k : Nat} (hk : A.length ≤ k) : runT p (A.drop k) k = (p, k) := by
  rw [List.drop_eq_nil_of_le hk]; rfl
def RpNew (r : Pg × Int) (w : World) (e : Ending) (w' : World) : Prop := ∃ (R : Array Value) (f : List Nat), e = .returned (.tuple #[.agg R, .int .i64 r.2]) ∧ OwnL w' LPage R.toList r.1.dt f ∧ f.Nodup ∧ (∀ b ∈ f, w.heap.size ≤ b) ∧ Below w.heap.size w w'
theorem own_zero (w : World) : OwnL w LPage zeroP.toList zeroPg.dt [] := by
  have := mk_pg (p := zeroPg) (mk_gr 0 0 0 0 0 0 0 0 0 (v0 := .slice none 0 0) (v5 := .slice none 0 0) (.nil none 0) (.nil none 0)) (.nil none 0) (w := w) (a11 := none) (c11 := 0) (a12 := none) (c12 := 0) (f11 := []) (f12 := []) (.nil none 0)
  exact this
def RpAt (W0 : World) (X : Nat) (u : Value) (A : List Tok) (q : Pg) (wr : World) : Prop := ∃ (R : Array Value) (f : List Nat), Blk wr X R.toList ∧ OwnL wr LPage R.toList q.dt f ∧ f.Nodup ∧ X ∉ f ∧ (∀ b ∈ f, W0.heap.size ≤ b) ∧ Below W0.heap.size W0 wr ∧ W0.heap.size ≤ X ∧ wr.ownsRow W0.heap.size 50 2 u A.length (Go.Proofs.YtjmfgbbngocodaaGreat.Blk.cellsL A) ∧ X ∉ rowL u
theorem RpAt.on {W0 wr w' : World} {X : Nat} {u : Value} {A : List Tok} {q : Pg} (h : RpAt W0 X u A q wr) (hb : Below wr.heap.size wr w') : RpAt W0 X u A q w' := by
  obtain ⟨R, f, b, o, n, x, g, bw, z, r, nx⟩ := h
  exact ⟨R, f, b.keep hb, o.under hb, n, x, g, on_of bw hb, z, row_on r hb, nx⟩
theorem RpAt.put {W0 wr w1 : World} {X : Nat} {u : Value} {A : List Tok} {q p : Pg} (h : RpAt W0 X u A q wr) (b1 : Below wr.heap.size wr w1) {R : Array Value} {f : List Nat} (o : OwnL w1 LPage R.toList p.dt f) (n : f.Nodup) (g : ∀ b ∈ f, wr.heap.size ≤ b) :
    ∃ E, (hstore 46 ⟨X, 0, none⟩ (.agg R)).run Tryz.prog w1 = .ok () E ∧ RpAt W0 X u A p E ∧ (∀ b o, b < w1.heap.size → b ≠ X → E.cell? ⟨b, o, none⟩ = w1.cell? ⟨b, o, none⟩) := by
  obtain ⟨R0, f0, bl, _, _, _, _, bw, z, r, nx⟩ := h
  have lX := bl.2.2
  have zw := bw.size
  have hR0 : R0.toList.length = 13 := by rename_i oo _ _ _; exact oo.len
  obtain ⟨E, st, BX, tt⟩ := var_put (P := Tryz.prog) (T := 46) Tryz.sizeOf46 (bl.keep b1) (by simpa using hR0) o rfl
  have nf : X ∉ f := fun hx => by have := g X hx; omega
  refine ⟨E, st, ⟨R, f, BX, o.turned tt (fun b hb e => nf (e ▸ hb)), n, nf, fun b hb => by have := g b hb; omega, (on_of bw b1).trans (tt.below (by have := b1.size; omega) (fun k e => e ▸ z)), z, row_turned (row_on r b1) tt (fun b hb e => nx (e ▸ hb)), nx⟩, fun b o hb hn => ?_⟩
  simp only [World.cell?, tt.block b hb hn]
theorem RpAt.tok {W0 wr : World} {X : Nat} {u : Value} {A : List Tok} {q : Pg} (h : RpAt W0 X u A q wr) {a : Option Addr} {n c : Nat} (hu : u = .slice a n c) {k : Nat} (hk : k < A.length) : ∃ g, a = some ⟨g, 0, none⟩ ∧ n = A.length ∧ wr.cell? ⟨g, k * 2, none⟩ = some (.string (A[k]).1) ∧ wr.cell? ⟨g, k * 2 + 1, none⟩ = some (.int .i64 (A[k]).2) := by
  obtain ⟨R, f, b, o, nn, x, gg, bw, z, r, nx⟩ := h
  subst hu
  have hn : n = A.length := by
    rcases r.2 with ⟨h, h0⟩ | ⟨g, cap, cur, h, _⟩
    · injection h with _ h; omega
    · injection h
  subst hn
  obtain ⟨g, rfl, _, hb, _⟩ := row_cap r (by omega)
  have e : ∀ (A : List Tok) (k : Nat) (hk : k < A.length), (Go.Proofs.YtjmfgbbngocodaaGreat.Blk.cellsL A)[k * 2]? = some (.string (A[k]).1) ∧ (Go.Proofs.YtjmfgbbngocodaaGreat.Blk.cellsL A)[k * 2 + 1]? = some (.int .i64 (A[k]).2) := by
    intro A
    induction A with
    | nil => intro k hk; simp at hk
    | cons t r ih =>
      intro k hk
      cases k with
      | zero => exact ⟨rfl, rfl⟩
      | succ k =>
        have := ih k (by simpa using hk)
        rw [show (k + 1) * 2 = k * 2 + 2 by omega]
        simpa [Go.Proofs.YtjmfgbbngocodaaGreat.Blk.cellsL] using this
  exact ⟨g, rfl, rfl, hb.1 _ _ (e A k hk).1, hb.1 _ _ (e A k hk).2⟩
end Go.Proofs.YtjmfgbbngocodaaGreat.Own

namespace Go.Proofs.YtjmfgbbngocodaaGreat.Own
open Go.ChangeShapes Go.WideShapes Go.ChangeAt Go.RowKit
open Kit Slabs Recs Ints Stack Point Turn
open Go.Proofs.YtjmfgbbngocodaaGreat.Blk (Tok Rdt FbIs FbLeft toL toL_len cellsL)
set_option linter.unusedVariables false
set_option linter.unusedSimpArgs false
set_option linter.unnecessarySimpa false
set_option maxRecDepth 100000
attribute [local go_sem ↓] hload_Graphics hload_Object hstore_Graphics hstore_Object hload_Page hstore_Page
theorem rpt_mem {n : Nat} {f : List Tok} {t : Tok} (h : t ∈ Go.Proofs.YtjmfgbbngocodaaGreat.Blk.rpt n f) : t ∈ f := by
  simp only [Go.Proofs.YtjmfgbbngocodaaGreat.Blk.rpt, List.mem_flatten, List.mem_replicate] at h
  obtain ⟨l, ⟨_, rfl⟩, h⟩ := h
  exact h
theorem fl_mem {l f : List Tok} {d : Nat} (h : Go.Proofs.YtjmfgbbngocodaaGreat.Blk.Fl l f d) : ∀ t ∈ f, t ∈ l := by
  induction h with
  | nil => intro t ht; exact ht
  | tok _ _ _ _ _ ih =>
    intro t ht
    rcases List.mem_cons.1 ht with rfl | ht
    · exact List.mem_cons_self
    · exact List.mem_cons_of_mem _ (ih t ht)
  | rep n _ _ _ _ _ _ _ _ _ ih1 ih2 =>
    intro t ht
    rcases List.mem_append.1 ht with ht | ht
    · have := ih1 t (rpt_mem ht)
      simp [this]
    · have := ih2 t ht
      simp [this]
theorem fb_mem {L A : List Tok} {B : Bool} (h : FbIs L A B) : ∀ t ∈ A, t ∈ L := by
  rcases h with ⟨_, f, d, F, _, _, _, rfl⟩ | ⟨_, _, rfl⟩
  · split
    · exact fl_mem F
    · intro t ht; cases ht
  · intro t ht; cases ht
theorem exD_same {p : Pg} {s : ByteArray} {m : Int} (h : exB p s m = false) : exD p s m = p := by
  unfold exB at h
  unfold exD
  cases e : exR p s m with
  | none => rfl
  | some q => rw [e] at h; cases h
theorem row_sl {w : World} {B : Nat} {T : TypeId} {k n : Nat} {u : Value} {P : List Value} (h : w.ownsRow B T k u n P) : ∃ a c, u = .slice a n c := by
  rcases h.2 with ⟨h, h0⟩ | ⟨g, cap, cur, h, _⟩
  · exact ⟨none, 0, by rw [h, h0]⟩
  · exact ⟨_, _, h⟩
set_option maxHeartbeats 8000000 in
theorem run_impl (w : World) {v : Value} {es : List Dt} {fp : List Nat} (hb : es.length + bulkL es ≤ 1048576) (h : Own w (.sl KToken) [v] (.sl es) fp) {A : List Tok} {B : Bool} (hA : FbIs (tokL es) A B) :
    Calls Tryz.prog 17 #[v] w (RpNew (rpF A B) w) := by
  have hsz := tokL_size h (by omega)
  have hAs : ∀ t ∈ A, t.1.size ≤ 1048576 := fun t ht => hsz t (fb_mem hA t ht)
  have hAl := Go.Proofs.YtjmfgbbngocodaaGreat.Blk.fb_bound hA
  have hRd := rdt_own h
  obtain ⟨W0, hW0⟩ : ∃ W0, w.alloc (.cells #[.slice none 0 0, .int .i64 0, .int .i64 0, .int .i64 0, .int .i64 0, .slice none 0 0, .int .i64 0, .int .i64 0, .int .i64 0, .int .i64 0, .int .i64 0, .slice none 0 0, .slice none 0 0] 46) = W0 := ⟨_, rfl⟩
  have BR : Blk W0 w.heap.size zeroP.toList := by rw [← hW0]; exact Blk.new w zeroP 46 rfl
  have bW : Below w.heap.size w W0 := by rw [← hW0]; go_grown
  have zW : W0.heap.size = w.heap.size + 1 := by rw [← hW0]; simp
  obtain ⟨GR, hGR⟩ : ∃ x, w.heap.size = x := ⟨_, rfl⟩
  have HFb := Lib.hid (Go.Proofs.YtjmfgbbngocodaaGreat.Impl.fb_impl W0 v (tokL es) (by rw [tokL_len]; omega) (fun t ht => by have := hsz t ht; omega) (hRd.on bW) A B hA)
  have gGR : w.heap.size ≤ GR := by omega
  have HBR := Lib.hid (show Blk W0 GR zeroP.toList from hGR ▸ BR)
  have HbW := Lib.hid bW
  have HZ := Lib.hid zW
  have HST := Lib.hid (fun (w1 : World) (b1 : Below W0.heap.size W0 w1) (R : Array Value) (p : Pg) (f : List Nat) (o : OwnL w1 LPage R.toList p.dt f) (n : f.Nodup) (g : ∀ b ∈ f, W0.heap.size ≤ b) => store_res HbW.out b1 HBR.out gGR o n g)
  clear h hb hsz hRd BR bW
  cases B
  · go_enter Tryz.func17, Tryz.ntmps17
    go_upto_region 1 with (fail)
    clear hW0 hGR zW
    go_wp2_with fail
    ((with_reducible refine (HFb.out).mono ?_); rintro e w1 ⟨u, rfl, _, b1⟩)
    obtain ⟨E, st, ld, oE, nE, gE, bE⟩ := HST.out w1 b1 zeroP zeroPg [] (own_zero w1) List.nodup_nil (fun b hb => absurd hb List.not_mem_nil)
    have HE := Lib.hid (show RpNew (rpF A false) w (.returned (.tuple #[.agg zeroP, .int .i64 (-1)])) E from ⟨zeroP, [], rfl, oE, nE, gE, bE⟩)
    clear b1 oE nE gE bE
    go_wp2
    refine bodyPost_ret (results_h2 Tryz.results17 (by rfl) (by rfl) ld) rfl ?_
    exact HE.out
  · obtain ⟨n, hn⟩ : ∃ n, A.length = n := ⟨_, rfl⟩
    have HN := Lib.hid hn
    rw [hn] at hAl
    go_enter Tryz.func17, Tryz.ntmps17
    go_upto_region 1 with (fail)
    clear hW0 hGR zW hn
    go_wp2_with fail
    ((with_reducible refine (HFb.out).mono ?_); rintro e w1 ⟨u, rfl, r1, b1⟩)
    obtain ⟨ua, uc, rfl⟩ := row_sl r1
    rw [HN.out]
    go_wp2_with fail
    ((with_reducible refine (impl_NewPage _).mono ?_); rintro e w2 ⟨R, f, rfl, o, nf, gf, b2⟩)
    obtain ⟨E, st, BX, cx, zx⟩ := var_new (P := Tryz.prog) (T := 46) Tryz.sizeOf46 w2 zeroP rfl o rfl
    have z1 := b1.size
    have z2 := b2.size
    obtain ⟨X, hX⟩ : ∃ X, w2.heap.size = X := ⟨_, rfl⟩
    rw [hX] at st BX
    have HI := Lib.hid (show RpAt W0 X (.slice ua A.length uc) A newP E from ⟨R, f, BX, o.under cx, nf, (fun hx => by have := o.lt X hx; omega), (fun b hb => by have := gf b hb; omega), on_of (on_of b1 b2) cx, by omega, row_on (row_on r1 b2) cx, (fun hx => by have := (rowL_ge r1 X hx).2; omega)⟩)
    rw [HN.out] at HI
    have gX : GR < X := by have := HBR.out.2.2; omega
    clear r1 b1 o nf gf b2 BX cx zx
    go_upto_region 5 with (fail)
    clear st hX
    go_wp2_with fail
    go_loopw [20] (fun v20 wr => ∃ (k : Nat) (q : Pg), k ≤ n ∧ v20 = .int .i64 (k : Int) ∧ bulkL q.dt ≤ 1048576 ∧ runT newP A 0 = runT q (A.drop k) k ∧ RpAt W0 X (.slice ua n uc) A q wr) (fun v20 _ => n - (intOf v20).toNat)
    case atStart => exact ⟨0, newP, Nat.zero_le _, rfl, newP_le, rfl, HI.out⟩
    case round =>
      obtain ⟨k, q, hk, rfl, hq, hrun, hI⟩ := hrel
      have HI := Lib.hid hI
      have HRu := Lib.hid hrun
      clear hI hrun
      by_cases hlt : k < n
      · have hkl : k < A.length := by rw [HN.out]; exact hlt
        obtain ⟨g, rfl, -, c0, c1⟩ := HI.out.tok rfl hkl
        obtain ⟨s, hs⟩ : ∃ s, (A[k]).1 = s := ⟨_, rfl⟩
        obtain ⟨m, hm⟩ : ∃ m, (A[k]).2 = m := ⟨_, rfl⟩
        rw [hs] at c0
        rw [hm] at c1
        have hz : s.size ≤ 1048576 := by rw [← hs]; exact hAs _ (List.getElem_mem hkl)
        have hst := runT_step (p := q) hkl
        rw [hs, hm] at hst
        have HStep := Lib.hid (HRu.out.trans hst)
        have i0 : (0 : Int) ≤ (k : Int) := by omega
        have i1 : (k : Int) < (n : Int) := by omega
        clear hst hs hm HRu
        go_upto_region 8 with (fail)
        have bV : Below wr.heap.size wr (wr.alloc (.cells #[.string s, .int .i64 m] 50)) := by go_grown
        have BT : Blk (wr.alloc (.cells #[.string s, .int .i64 m] 50)) wr.heap.size [.string s, .int .i64 m] := Blk.new wr #[.string s, .int .i64 m] 50 rfl
        have HV := Lib.hid (HI.out.on bV)
        obtain ⟨gt, hgt⟩ : ∃ x, wr.heap.size = x := ⟨_, rfl⟩
        rw [hgt] at BT ⊢
        generalize wr.alloc (.cells #[.string s, .int .i64 m] 50) = V at bV BT HV ⊢
        have y0 := BT.1 0 _ rfl
        have y1 := BT.1 1 _ rfl
        clear c0 c1 bV BT hgt HI
        obtain ⟨Rq, fq, Bq, oq, _⟩ := HV.out
        have ra := var_load (P := Tryz.prog) (T := 46) Tryz.isAgg46 Tryz.sizeOf46 Bq oq rfl
        have HX := Lib.hid (exec_impl V hq oq s m hz)
        clear Bq oq
        go_wp2_with fail
        clear ra y0 y1
        ((with_reducible refine (HX.out).mono ?_); rintro e w5 ⟨R5, f5, rfl, o5, n5, g5, b5⟩)
        obtain ⟨E5, st5, HI5, _⟩ := HV.out.put b5 o5 n5 g5
        obtain ⟨v5, hv5⟩ : ∃ v, exB q s m = v := ⟨_, rfl⟩
        have H5 := Lib.hid HI5
        rw [hv5]
        rw [hv5] at HStep
        have HD5 := Lib.hid (exD_le hq s m)
        cases v5
        · have HSame := Lib.hid (exD_same hv5)
          clear o5 n5 g5 b5 HI5 hv5
          go_upto_region 10 with (fail)
          clear st5
          obtain ⟨R6, f6, B6, o6, n6, x6, g6, b6, _⟩ := H5.out
          have r6 := var_load (P := Tryz.prog) (T := 46) Tryz.isAgg46 Tryz.sizeOf46 B6 o6 rfl
          obtain ⟨E, st, ld, oE, nE, gE, bE⟩ := HST.out E5 b6 R6 _ f6 o6 n6 g6
          have HE := Lib.hid (show RpNew (rpF A true) w (.returned (.tuple #[.agg R6, .int .i64 (k : Int)])) E from by
            have e : rpF A true = (exD q s m, (k : Int)) := by
              rw [rpF, if_pos rfl, HStep.out, if_neg (by decide), HSame.out]
            rw [e]
            exact ⟨R6, f6, rfl, oE, nE, gE, bE⟩)
          clear B6 o6 n6 x6 g6 b6 oE nE gE bE
          go_wp2
          refine bodyPost_ret (results_h2 Tryz.results17 (by rfl) (by rfl) ld) rfl ?_
          exact HE.out
        · clear o5 n5 g5 b5 HI5 hv5
          go_wp2
          go_roundw
          case rel => exact ⟨k + 1, exD q s m, by omega, by go_num, HD5.out, by simpa using HStep.out, H5.out⟩
          case measure => simp [intOf]; omega
      · obtain rfl : n = k := by omega
        obtain ⟨R6, f6, B6, o6, n6, x6, g6, b6, _⟩ := HI.out
        have r6 := var_load (P := Tryz.prog) (T := 46) Tryz.isAgg46 Tryz.sizeOf46 B6 o6 rfl
        obtain ⟨E, st, ld, oE, nE, gE, bE⟩ := HST.out wr b6 R6 _ f6 o6 n6 g6
        have HE := Lib.hid (show RpNew (rpF A true) w (.returned (.tuple #[.agg R6, .int .i64 (n : Int)])) E from by
          have e : rpF A true = (q, (n : Int)) := by
            rw [rpF, if_pos rfl, HRu.out, runT_end (by rw [HN.out]; omega)]
          rw [e]
          exact ⟨R6, f6, rfl, oE, nE, gE, bE⟩)
        clear B6 o6 n6 x6 g6 b6 oE nE gE bE
        go_wp2
        refine bodyPost_ret (results_h2 Tryz.results17 (by rfl) (by rfl) ld) rfl ?_
        exact HE.out
end Go.Proofs.YtjmfgbbngocodaaGreat.Own

