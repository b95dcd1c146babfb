/-
  The laws' helpers over values with slices inside slices, told of owned values.
-/
import Derived.Test.YtnpbhmeanfolnaaInv7
import Derived.WalkKit
import Derived.Deep.DeepCutAuto
import Derived.Deep.QuietTactic
import Derived.BigQuiet
import Derived.Deep.RegionHeld3
import Derived.Handy
namespace Go.Proofs.Ytnpbhmeanfolnaa.Own
open Go.ChangeShapes Go.WideShapes Go.ChangeAt Go.RowKit
open Kit Slabs Ints
set_option linter.unusedVariables false
set_option linter.unusedSimpArgs false
set_option linter.unnecessarySimpa false
set_option maxRecDepth 100000

set_option maxHeartbeats 4000000 in
theorem sz_Graphics (w : World) {A : Array Value} {ds : List Dt} (h : CameL w LGraphics A.toList ds) (l : Int) (l0 : 0 ≤ l) (l1 : l ≤ 1048576) :
    Calls Try.prog 35 #[.agg A, .int .i64 l] w fun e w' => e = .returned (.int .i64 (szv l (bulkL ds))) ∧ Below w.heap.size w w' := by
  obtain ⟨xa0, xc0, xa5, xc5, xs0, xx1_0, xx1_1, xx1_2, xx1_3, xs5, xx6_0, xx7_0, xx7_1, xx7_2, xx7_3, hA, rfl, ⟨ox0, mox0⟩, ⟨ox5, mox5⟩⟩ := invC_Graphics h
  have hbk : bulkL (.sl xs0 :: (.int xx1_0 :: (.int xx1_1 :: (.int xx1_2 :: (.int xx1_3 :: (.sl xs5 :: (.int xx6_0 :: (.int xx7_0 :: (.int xx7_1 :: (.int xx7_2 :: (.int xx7_3 :: ([])))))))))))) = ((xs0.length + bulkL xs0) + (xs5.length + bulkL xs5)) := by simp only [bulkL_app, bulkL, Dt.bulk]; omega
  rw [hbk]
  obtain ⟨y1, q1⟩ : ∃ x, szv l (xs0.length + bulkL xs0) = x := ⟨_, rfl⟩
  obtain ⟨y2, q2⟩ : ∃ x, szv y1 (xs5.length + bulkL xs5) = x := ⟨_, rfl⟩
  have BA : Blk (w.alloc (.cells A 57)) w.heap.size A.toList := Blk.new w A 57 rfl
  have hW : Below w.heap.size w (w.alloc (.cells A 57)) := by go_grown
  rw [hA] at BA
  have HO := Lib.hid (And.intro ox0 ox5)
  have HA0 := Lib.hid BA
  have HW0 := Lib.hid hW
  by_cases c1 : y1 < 0
  · have t2 : szv l ((xs0.length + bulkL xs0) + (xs5.length + bulkL xs5)) = -1 := szv_neg l0 (by rw [q1]; omega)
    have HZ := Lib.hid t2
    have ca0 : A[0]? = some (.slice xa0 xs0.length xc0) := by rw [← Array.getElem?_toList, hA]; rfl
    clear ox0 ox5 hA BA hW h hbk
    go_enter Try.func35, Try.ntmps35
    go_wp2_with fail
    ((with_reducible refine (sz_IntS _ ((HO.out.1).on HW0.out) mox0 l (by omega) (by omega)).mono ?_); rintro e w1 ⟨rfl, b1⟩)
    rw [q1]
    have HW1 := Lib.hid (on_of HW0.out b1)
    have HA1 := Lib.hid (HA0.out.keep b1)
    clear b1 ca0
    clear q1 q2
    go_wp2
    go_ret
    exact ⟨ret_int HZ.out.symm, HW1.out⟩
  · have d1 : 0 ≤ y1 := by omega
    have e1 : y1 ≤ 1048576 := by have := szv_le (a := (xs0.length + bulkL xs0)) (show 0 ≤ l by omega); rw [q1] at this; omega
    by_cases c2 : y2 < 0
    · have s2 : szv l ((xs0.length + bulkL xs0) + (xs5.length + bulkL xs5)) = y2 := by rw [← szv_add (by rw [q1]; omega), q1, q2]
      have u : y2 = -1 := by rw [← q2] at c2 ⊢; unfold szv at c2 ⊢; split at c2 <;> first | rfl | omega
      have HZ := Lib.hid (s2.trans u)
      clear u
      have ca0 : A[0]? = some (.slice xa0 xs0.length xc0) := by rw [← Array.getElem?_toList, hA]; rfl
      clear ox0 ox5 hA BA hW h hbk
      go_enter Try.func35, Try.ntmps35
      go_wp2_with fail
      ((with_reducible refine (sz_IntS _ ((HO.out.1).on HW0.out) mox0 l (by omega) (by omega)).mono ?_); rintro e w1 ⟨rfl, b1⟩)
      rw [q1]
      have HW1 := Lib.hid (on_of HW0.out b1)
      have HA1 := Lib.hid (HA0.out.keep b1)
      clear b1 ca0
      have ca1 := HA1.out.1 1 (.int .i64 xx1_0) (by rfl)
      have ca2 := HA1.out.1 2 (.int .i64 xx1_1) (by rfl)
      have ca3 := HA1.out.1 3 (.int .i64 xx1_2) (by rfl)
      have ca4 := HA1.out.1 4 (.int .i64 xx1_3) (by rfl)
      have ca5 := HA1.out.1 5 (.slice xa5 xs5.length xc5) (by rfl)
      go_wp2_with fail
      ((with_reducible refine (sz_PointS _ ((HO.out.2).on HW1.out) mox5 y1 (by omega) (by omega)).mono ?_); rintro e w2 ⟨rfl, b2⟩)
      rw [q2]
      have HW2 := Lib.hid (on_of HW1.out b2)
      have HA2 := Lib.hid (HA1.out.keep b2)
      clear b2 ca1 ca2 ca3 ca4 ca5
      clear q1 q2
      go_wp2
      go_ret
      exact ⟨ret_int HZ.out.symm, HW2.out⟩
    · have d2 : 0 ≤ y2 := by omega
      have e2 : y2 ≤ 1048576 := by have := szv_le (a := (xs5.length + bulkL xs5)) (show 0 ≤ y1 by omega); rw [q2] at this; omega
      have s2 : szv l ((xs0.length + bulkL xs0) + (xs5.length + bulkL xs5)) = y2 := by rw [← szv_add (by rw [q1]; omega), q1, q2]
      have HZ := Lib.hid s2
      have ca0 : A[0]? = some (.slice xa0 xs0.length xc0) := by rw [← Array.getElem?_toList, hA]; rfl
      clear ox0 ox5 hA BA hW h hbk
      go_enter Try.func35, Try.ntmps35
      go_wp2_with fail
      ((with_reducible refine (sz_IntS _ ((HO.out.1).on HW0.out) mox0 l (by omega) (by omega)).mono ?_); rintro e w1 ⟨rfl, b1⟩)
      rw [q1]
      have HW1 := Lib.hid (on_of HW0.out b1)
      have HA1 := Lib.hid (HA0.out.keep b1)
      clear b1 ca0
      have ca1 := HA1.out.1 1 (.int .i64 xx1_0) (by rfl)
      have ca2 := HA1.out.1 2 (.int .i64 xx1_1) (by rfl)
      have ca3 := HA1.out.1 3 (.int .i64 xx1_2) (by rfl)
      have ca4 := HA1.out.1 4 (.int .i64 xx1_3) (by rfl)
      have ca5 := HA1.out.1 5 (.slice xa5 xs5.length xc5) (by rfl)
      go_wp2_with fail
      ((with_reducible refine (sz_PointS _ ((HO.out.2).on HW1.out) mox5 y1 (by omega) (by omega)).mono ?_); rintro e w2 ⟨rfl, b2⟩)
      rw [q2]
      have HW2 := Lib.hid (on_of HW1.out b2)
      have HA2 := Lib.hid (HA1.out.keep b2)
      clear b2 ca1 ca2 ca3 ca4 ca5
      clear q1 q2
      go_wp2
      go_ret
      exact ⟨ret_int HZ.out.symm, HW2.out⟩
set_option maxHeartbeats 4000000 in
theorem sz_Object (w : World) {A : Array Value} {ds : List Dt} (h : CameL w LObject A.toList ds) (l : Int) (l0 : 0 ≤ l) (l1 : l ≤ 1048576) :
    Calls Try.prog 104 #[.agg A, .int .i64 l] w fun e w' => e = .returned (.int .i64 (szv l (bulkL ds))) ∧ Below w.heap.size w w' := by
  obtain ⟨xa0, xc0, xs0, xx1_0, xx2_0, xx2_1, xx2_2, xx2_3, hA, rfl, ⟨ox0, mox0⟩⟩ := invC_Object h
  have hbk : bulkL (.sl xs0 :: (.int xx1_0 :: (.int xx2_0 :: (.int xx2_1 :: (.int xx2_2 :: (.int xx2_3 :: ([]))))))) = (xs0.length + bulkL xs0) := by simp only [bulkL_app, bulkL, Dt.bulk]; omega
  rw [hbk]
  obtain ⟨y1, q1⟩ : ∃ x, szv l (xs0.length + bulkL xs0) = x := ⟨_, rfl⟩
  have BA : Blk (w.alloc (.cells A 123)) w.heap.size A.toList := Blk.new w A 123 rfl
  have hW : Below w.heap.size w (w.alloc (.cells A 123)) := by go_grown
  rw [hA] at BA
  have HO := Lib.hid (ox0)
  have HA0 := Lib.hid BA
  have HW0 := Lib.hid hW
  by_cases c1 : y1 < 0
  · have u : y1 = -1 := by rw [← q1] at c1 ⊢; unfold szv at c1 ⊢; split at c1 <;> first | rfl | omega
    have HZ := Lib.hid (q1.trans u)
    clear u
    have ca0 : A[0]? = some (.slice xa0 xs0.length xc0) := by rw [← Array.getElem?_toList, hA]; rfl
    clear ox0 hA BA hW h hbk
    go_enter Try.func104, Try.ntmps104
    go_wp2_with fail
    ((with_reducible refine (sz_PointS _ ((HO.out).on HW0.out) mox0 l (by omega) (by omega)).mono ?_); rintro e w1 ⟨rfl, b1⟩)
    rw [q1]
    have HW1 := Lib.hid (on_of HW0.out b1)
    have HA1 := Lib.hid (HA0.out.keep b1)
    clear b1 ca0
    clear q1
    go_wp2
    go_ret
    exact ⟨ret_int HZ.out.symm, HW1.out⟩
  · have d1 : 0 ≤ y1 := by omega
    have e1 : y1 ≤ 1048576 := by have := szv_le (a := (xs0.length + bulkL xs0)) (show 0 ≤ l by omega); rw [q1] at this; omega
    have HZ := Lib.hid q1
    have ca0 : A[0]? = some (.slice xa0 xs0.length xc0) := by rw [← Array.getElem?_toList, hA]; rfl
    clear ox0 hA BA hW h hbk
    go_enter Try.func104, Try.ntmps104
    go_wp2_with fail
    ((with_reducible refine (sz_PointS _ ((HO.out).on HW0.out) mox0 l (by omega) (by omega)).mono ?_); rintro e w1 ⟨rfl, b1⟩)
    rw [q1]
    have HW1 := Lib.hid (on_of HW0.out b1)
    have HA1 := Lib.hid (HA0.out.keep b1)
    clear b1 ca0
    clear q1
    go_wp2
    go_ret
    exact ⟨ret_int HZ.out.symm, HW1.out⟩

end Go.Proofs.Ytnpbhmeanfolnaa.Own
