/-
  The laws' helpers over values with slices inside slices, told of owned values.
-/
import Derived.Test.YtejnfdpckipbeaaInv7
import Derived.WalkKit
import Derived.Deep.DeepCutAuto
import Derived.Deep.QuietTactic
import Derived.BigQuiet
import Derived.Deep.RegionHeld3
import Derived.Handy
namespace Go.Proofs.Ytejnfdpckipbeaa.Own
open Go.ChangeShapes Go.WideShapes Go.ChangeAt Go.RowKit
open Kit Slabs Ints
set_option linter.unusedVariables false
set_option linter.unusedSimpArgs false
set_option linter.unnecessarySimpa false
set_option maxRecDepth 100000

theorem eq_Turn (xx0_0 : Int) (xx1_0 : Int) (xx2_0 : Int) (xx3_0 : Int) (w : World) : Calls Try.prog 110 #[.agg #[.int .i64 xx0_0, .int .i64 xx1_0, .int .i64 xx2_0, .int .i64 xx3_0], .agg #[.int .i64 xx0_0, .int .i64 xx1_0, .int .i64 xx2_0, .int .i64 xx3_0]] w fun e w' => e = .returned (.bool true) ∧ Below w.heap.size w w' := by
  go_enter Try.func110, Try.ntmps110
  go_wp2
  go_ret
  exact ⟨rfl, by go_grown⟩
theorem eq_Box (xx0_0 : Int) (xx1_0 : Int) (xx2_0 : Int) (xx3_0 : Int) (w : World) : Calls Try.prog 33 #[.agg #[.int .i64 xx0_0, .int .i64 xx1_0, .int .i64 xx2_0, .int .i64 xx3_0], .agg #[.int .i64 xx0_0, .int .i64 xx1_0, .int .i64 xx2_0, .int .i64 xx3_0]] w fun e w' => e = .returned (.bool true) ∧ Below w.heap.size w w' := by
  go_enter Try.func33, Try.ntmps33
  go_wp2
  go_ret
  exact ⟨rfl, by go_grown⟩
set_option maxHeartbeats 4000000 in
theorem eq_Graphics (w : World) {A B : Array Value} {ds : List Dt} {f1 f2 : List Nat} (hb : bulkL ds ≤ 1048576) (h1 : OwnL w LGraphics A.toList ds f1) (h2 : OwnL w LGraphics B.toList ds f2) :
    Calls Try.prog 67 #[.agg A, .agg B] w fun e w' => e = .returned (.bool true) ∧ Below w.heap.size w w' := by
  obtain ⟨xa0, xc0, xa5, xc5, xs0, xx1_0, xx1_1, xx1_2, xx1_3, xs5, xx6_0, xx7_0, xx7_1, xx7_2, xx7_3, xF0, xF5, hA, rfl, rfl, ox0, ox5⟩ := inv_Graphics h1
  obtain ⟨ya0, yc0, ya5, yc5, yF0, yF5, hB, rfl, oy0, oy5⟩ := inv_Graphics_ h2
  simp only [bulkL_app, bulkL, Dt.bulk] at hb
  have BA : Blk ((w.alloc (.cells A 47)).alloc (.cells B 47)) w.heap.size A.toList := (Blk.new w A 47 rfl).alloc _
  have BB : Blk ((w.alloc (.cells A 47)).alloc (.cells B 47)) (w.heap.size + 1) B.toList := Blk.new _ B 47 (by simp)
  have hW : Below w.heap.size w ((w.alloc (.cells A 47)).alloc (.cells B 47)) := by go_grown
  rw [hA] at BA
  rw [hB] at BB
  have HO := Lib.hid (And.intro ox0 (And.intro ox5 (And.intro oy0 oy5)))
  have HA0 := Lib.hid BA
  have HB0 := Lib.hid BB
  have HW0 := Lib.hid hW
  have ca0 : A[0]? = some (.slice xa0 xs0.length xc0) := by rw [← Array.getElem?_toList, hA]; rfl
  have cb0 : B[0]? = some (.slice ya0 xs0.length yc0) := by rw [← Array.getElem?_toList, hB]; rfl
  clear ox0 ox5 oy0 oy5 hA hB BA BB hW h1 h2
  go_enter Try.func67, Try.ntmps67
  go_wp2_with fail
  ((with_reducible refine (eqI_o _ (by omega) ((HO.out.1).under HW0.out) ((HO.out.2.2.1).under HW0.out)).mono ?_); rintro e w1 ⟨rfl, b1⟩)
  have HW1 := Lib.hid (on_of HW0.out b1)
  have HA1 := Lib.hid (HA0.out.keep b1)
  have HB1 := Lib.hid (HB0.out.keep b1)
  clear b1 ca0 cb0
  have ca1 := HA1.out.1 1 (.int .i64 xx1_0) (by rfl)
  have ca2 := HA1.out.1 2 (.int .i64 xx1_1) (by rfl)
  have ca3 := HA1.out.1 3 (.int .i64 xx1_2) (by rfl)
  have ca4 := HA1.out.1 4 (.int .i64 xx1_3) (by rfl)
  have cb1 := HB1.out.1 1 (.int .i64 xx1_0) (by rfl)
  have cb2 := HB1.out.1 2 (.int .i64 xx1_1) (by rfl)
  have cb3 := HB1.out.1 3 (.int .i64 xx1_2) (by rfl)
  have cb4 := HB1.out.1 4 (.int .i64 xx1_3) (by rfl)
  go_wp2_with fail
  ((with_reducible refine (eq_Turn xx1_0 xx1_1 xx1_2 xx1_3 _).mono ?_); rintro e w2 ⟨rfl, b2⟩)
  have HW2 := Lib.hid (on_of HW1.out b2)
  have HA2 := Lib.hid (HA1.out.keep b2)
  have HB2 := Lib.hid (HB1.out.keep b2)
  clear b2 ca1 ca2 ca3 ca4 cb1 cb2 cb3 cb4
  have ca5 := HA2.out.1 5 (.slice xa5 xs5.length xc5) (by rfl)
  have cb5 := HB2.out.1 5 (.slice ya5 xs5.length yc5) (by rfl)
  go_wp2_with fail
  ((with_reducible refine (eqP_o _ (by omega) ((HO.out.2.1).under HW2.out) ((HO.out.2.2.2).under HW2.out)).mono ?_); rintro e w3 ⟨rfl, b3⟩)
  have HW3 := Lib.hid (on_of HW2.out b3)
  have HA3 := Lib.hid (HA2.out.keep b3)
  have HB3 := Lib.hid (HB2.out.keep b3)
  clear b3 ca5 cb5
  have ca6 := HA3.out.1 6 (.int .i64 xx6_0) (by rfl)
  have cb6 := HB3.out.1 6 (.int .i64 xx6_0) (by rfl)
  have ca7 := HA3.out.1 7 (.int .i64 xx7_0) (by rfl)
  have ca8 := HA3.out.1 8 (.int .i64 xx7_1) (by rfl)
  have ca9 := HA3.out.1 9 (.int .i64 xx7_2) (by rfl)
  have ca10 := HA3.out.1 10 (.int .i64 xx7_3) (by rfl)
  have cb7 := HB3.out.1 7 (.int .i64 xx7_0) (by rfl)
  have cb8 := HB3.out.1 8 (.int .i64 xx7_1) (by rfl)
  have cb9 := HB3.out.1 9 (.int .i64 xx7_2) (by rfl)
  have cb10 := HB3.out.1 10 (.int .i64 xx7_3) (by rfl)
  go_wp2_with fail
  ((with_reducible refine (eq_Box xx7_0 xx7_1 xx7_2 xx7_3 _).mono ?_); rintro e w4 ⟨rfl, b4⟩)
  have HW4 := Lib.hid (on_of HW3.out b4)
  have HA4 := Lib.hid (HA3.out.keep b4)
  have HB4 := Lib.hid (HB3.out.keep b4)
  clear b4 ca6 cb6 ca7 ca8 ca9 ca10 cb7 cb8 cb9 cb10
  go_wp2
  go_ret
  exact ⟨rfl, HW4.out⟩
set_option maxHeartbeats 4000000 in
theorem eq_Object (w : World) {A B : Array Value} {ds : List Dt} {f1 f2 : List Nat} (hb : bulkL ds ≤ 1048576) (h1 : OwnL w LObject A.toList ds f1) (h2 : OwnL w LObject B.toList ds f2) :
    Calls Try.prog 31 #[.agg A, .agg B] w fun e w' => e = .returned (.bool true) ∧ Below w.heap.size w w' := by
  obtain ⟨xa0, xc0, xs0, xx1_0, xx2_0, xx2_1, xx2_2, xx2_3, xF0, hA, rfl, rfl, ox0⟩ := inv_Object h1
  obtain ⟨ya0, yc0, yF0, hB, rfl, oy0⟩ := inv_Object_ h2
  simp only [bulkL_app, bulkL, Dt.bulk] at hb
  have BA : Blk ((w.alloc (.cells A 28)).alloc (.cells B 28)) w.heap.size A.toList := (Blk.new w A 28 rfl).alloc _
  have BB : Blk ((w.alloc (.cells A 28)).alloc (.cells B 28)) (w.heap.size + 1) B.toList := Blk.new _ B 28 (by simp)
  have hW : Below w.heap.size w ((w.alloc (.cells A 28)).alloc (.cells B 28)) := by go_grown
  rw [hA] at BA
  rw [hB] at BB
  have HO := Lib.hid (And.intro ox0 oy0)
  have HA0 := Lib.hid BA
  have HB0 := Lib.hid BB
  have HW0 := Lib.hid hW
  have ca0 : A[0]? = some (.slice xa0 xs0.length xc0) := by rw [← Array.getElem?_toList, hA]; rfl
  have cb0 : B[0]? = some (.slice ya0 xs0.length yc0) := by rw [← Array.getElem?_toList, hB]; rfl
  clear ox0 oy0 hA hB BA BB hW h1 h2
  go_enter Try.func31, Try.ntmps31
  go_wp2_with fail
  ((with_reducible refine (eqP_o _ (by omega) ((HO.out.1).under HW0.out) ((HO.out.2).under HW0.out)).mono ?_); rintro e w1 ⟨rfl, b1⟩)
  have HW1 := Lib.hid (on_of HW0.out b1)
  have HA1 := Lib.hid (HA0.out.keep b1)
  have HB1 := Lib.hid (HB0.out.keep b1)
  clear b1 ca0 cb0
  have ca1 := HA1.out.1 1 (.int .i64 xx1_0) (by rfl)
  have cb1 := HB1.out.1 1 (.int .i64 xx1_0) (by rfl)
  have ca2 := HA1.out.1 2 (.int .i64 xx2_0) (by rfl)
  have ca3 := HA1.out.1 3 (.int .i64 xx2_1) (by rfl)
  have ca4 := HA1.out.1 4 (.int .i64 xx2_2) (by rfl)
  have ca5 := HA1.out.1 5 (.int .i64 xx2_3) (by rfl)
  have cb2 := HB1.out.1 2 (.int .i64 xx2_0) (by rfl)
  have cb3 := HB1.out.1 3 (.int .i64 xx2_1) (by rfl)
  have cb4 := HB1.out.1 4 (.int .i64 xx2_2) (by rfl)
  have cb5 := HB1.out.1 5 (.int .i64 xx2_3) (by rfl)
  go_wp2_with fail
  ((with_reducible refine (eq_Box xx2_0 xx2_1 xx2_2 xx2_3 _).mono ?_); rintro e w2 ⟨rfl, b2⟩)
  have HW2 := Lib.hid (on_of HW1.out b2)
  have HA2 := Lib.hid (HA1.out.keep b2)
  have HB2 := Lib.hid (HB1.out.keep b2)
  clear b2 ca1 cb1 ca2 ca3 ca4 ca5 cb2 cb3 cb4 cb5
  go_wp2
  go_ret
  exact ⟨rfl, HW2.out⟩

end Go.Proofs.Ytejnfdpckipbeaa.Own
