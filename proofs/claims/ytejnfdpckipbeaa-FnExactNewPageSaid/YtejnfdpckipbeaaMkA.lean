/-
  The laws' helpers over values with slices inside slices, told of owned values.
-/
import Derived.Test.YtejnfdpckipbeaaInv7
import Derived.WalkKit
import Derived.Deep.DeepCutAuto
import Derived.Deep.QuietTactic
import Derived.BigQuiet
import Derived.Deep.RegionHeld3
import Derived.Handy
namespace Go.Proofs.Ytejnfdpckipbeaa.Own
open Go.ChangeShapes Go.WideShapes Go.ChangeAt Go.RowKit
open Kit Slabs Ints
set_option linter.unusedVariables false
set_option linter.unusedSimpArgs false
set_option linter.unnecessarySimpa false
set_option maxRecDepth 100000

set_option maxHeartbeats 4000000 in
theorem mark_Graphics (w : World) (N : Nat) {A : Array Value} {ds : List Dt} {fp : List Nat} (hb : bulkL ds ≤ 1048576) (h0 : 0 < N) (hN : N + cnt0L ds ≤ 1000000000) (h : OwnL w LGraphics A.toList ds fp) (hd : fp.Nodup) :
    Calls Try.prog 70 #[.agg A, .int .i64 (N : Int)] w fun e w' => e = .returned (.int .i64 ((N + cnt0L ds : Nat) : Int)) ∧ OwnL w' LGraphics A.toList (mk0L ds N) fp ∧ Turns w w' (fun b => b ∈ fp) := by
  obtain ⟨xa0, xc0, xa5, xc5, xs0, xx1_0, xx1_1, xx1_2, xx1_3, xs5, xx6_0, xx7_0, xx7_1, xx7_2, xx7_3, xF0, xF5, hA, rfl, rfl, ox0, ox5⟩ := inv_Graphics h
  obtain ⟨nd0, r0, x0⟩ := nodup_parts hd
  obtain ⟨nd1, r1, x1⟩ := nodup_parts r0
  have d0_1 : ∀ b ∈ xF0, b ∉ xF5 := fun b ha hb => x0 b ha (List.mem_append_left _ hb)
  have d1_0 : ∀ b ∈ xF5, b ∉ xF0 := fun b ha hb => d0_1 b hb ha
  have hc : N + cnt0L (.sl xs0 :: (.int xx1_0 :: (.int xx1_1 :: (.int xx1_2 :: (.int xx1_3 :: (.sl xs5 :: (.int xx6_0 :: (.int xx7_0 :: (.int xx7_1 :: (.int xx7_2 :: (.int xx7_3 :: ([])))))))))))) = ((N + cntL xs0) + cntL xs5) := by simp only [cnt0L_app, cnt0L, Dt.cnt0]; omega
  have hm : mk0L (.sl xs0 :: (.int xx1_0 :: (.int xx1_1 :: (.int xx1_2 :: (.int xx1_3 :: (.sl xs5 :: (.int xx6_0 :: (.int xx7_0 :: (.int xx7_1 :: (.int xx7_2 :: (.int xx7_3 :: ([])))))))))))) N = .sl (mkL xs0 N) :: (.int xx1_0 :: (.int xx1_1 :: (.int xx1_2 :: (.int xx1_3 :: (.sl (mkL xs5 (N + cntL xs0)) :: (.int xx6_0 :: (.int xx7_0 :: (.int xx7_1 :: (.int xx7_2 :: (.int xx7_3 :: ([]))))))))))) := by simp only [mk0L_app, mk0L, Dt.mk0, cnt0L_app, cnt0L, Dt.cnt0, Nat.add_zero, Nat.add_assoc]
  obtain ⟨M1, hM1⟩ : ∃ M, N + cntL xs0 = M := ⟨_, rfl⟩
  simp only [hM1] at hc hm
  obtain ⟨M2, hM2⟩ : ∃ M, M1 + cntL xs5 = M := ⟨_, rfl⟩
  simp only [hM2] at hc hm
  rw [hc] at hN ⊢
  rw [hm]
  clear hc hm
  simp only [bulkL_app, bulkL, Dt.bulk] at hb
  have BA : Blk (w.alloc (.cells A 47)) w.heap.size A.toList := Blk.new w A 47 rfl
  have hT : Turns w (w.alloc (.cells A 47)) (fun b => b ∈ xF0 ++ (xF5 ++ ([]))) := Turns.of_below (by go_grown)
  rw [hA] at BA ⊢
  have lt0 := ox0.lt
  have ne0 : ¬ (w.heap.size ∈ xF0) := fun hb => by have := lt0 _ hb; omega
  have p0 := ox0.under (w' := w.alloc (.cells A 47)) (by go_grown)
  have lt1 := ox5.lt
  have ne1 : ¬ (w.heap.size ∈ xF5) := fun hb => by have := lt1 _ hb; omega
  have p1 := ox5.under (w' := w.alloc (.cells A 47)) (by go_grown)
  have HO0 := Lib.hid (And.intro p0 p1)
  have HA0 := Lib.hid BA
  have HT0 := Lib.hid hT
  have ca0 : A[0]? = some (.slice xa0 xs0.length xc0) := by rw [← Array.getElem?_toList, hA]; rfl
  clear ox0 ox5 hA BA hT h hd p0 lt0 p1 lt1
  go_enter Try.func70, Try.ntmps70
  go_wp2_with fail
  ((with_reducible refine (mark_IntS _ N (by omega) (by omega) (by omega) (HO0.out.1) nd0).mono ?_); rintro e w1 ⟨rfl, o1, b1⟩)
  rw [hM1]
  have HO1 := Lib.hid (And.intro o1 ((HO0.out.2).turned b1 d1_0))
  have HA1 := Lib.hid (HA0.out.turned b1 ne0)
  have HT1 := Lib.hid (HT0.out.trans (b1.mono (fun _ hk => List.mem_append_left _ hk)))
  clear o1 b1 ca0
  have ca1 := HA1.out.1 1 (.int .i64 xx1_0) (by rfl)
  have ca2 := HA1.out.1 2 (.int .i64 xx1_1) (by rfl)
  have ca3 := HA1.out.1 3 (.int .i64 xx1_2) (by rfl)
  have ca4 := HA1.out.1 4 (.int .i64 xx1_3) (by rfl)
  have ca5 := HA1.out.1 5 (.slice xa5 xs5.length xc5) (by rfl)
  go_wp2_with fail
  ((with_reducible refine (mark_PointS _ M1 (by omega) (by omega) (by omega) (HO1.out.2) nd1).mono ?_); rintro e w2 ⟨rfl, o2, b2⟩)
  rw [hM2]
  have HO2 := Lib.hid (And.intro ((HO1.out.1).turned b2 d0_1) o2)
  have HA2 := Lib.hid (HA1.out.turned b2 ne1)
  have HT2 := Lib.hid (HT1.out.trans (b2.mono (fun _ hk => List.mem_append_right _ (List.mem_append_left _ hk))))
  clear o2 b2 ca1 ca2 ca3 ca4 ca5
  go_wp2
  go_ret
  exact ⟨rfl, .cons (cs := [.slice xa0 xs0.length xc0]) (fp := xF0) (HO2.out.1) (.cons (cs := [.int .i64 xx1_0]) (fp := []) (.int xx1_0) (.cons (cs := [.int .i64 xx1_1]) (fp := []) (.int xx1_1) (.cons (cs := [.int .i64 xx1_2]) (fp := []) (.int xx1_2) (.cons (cs := [.int .i64 xx1_3]) (fp := []) (.int xx1_3) (.cons (cs := [.slice xa5 xs5.length xc5]) (fp := xF5) (HO2.out.2) (.cons (cs := [.int .i64 xx6_0]) (fp := []) (.int xx6_0) (.cons (cs := [.int .i64 xx7_0]) (fp := []) (.int xx7_0) (.cons (cs := [.int .i64 xx7_1]) (fp := []) (.int xx7_1) (.cons (cs := [.int .i64 xx7_2]) (fp := []) (.int xx7_2) (.cons (cs := [.int .i64 xx7_3]) (fp := []) (.int xx7_3) (.nil))))))))))), HT2.out⟩
set_option maxHeartbeats 4000000 in
theorem held_Graphics (w : World) (N : Nat) {A : Array Value} {ds : List Dt} {cs0 : List Value} {fp fq : List Nat} {w0 : World} (hb : bulkL ds ≤ 1048576) (h0 : 0 < N) (hN : N + cnt0L ds ≤ 1000000000) (hs : OwnL w0 LGraphics cs0 ds fq) (h : OwnL w LGraphics A.toList (mk0L ds N) fp) :
    Calls Try.prog 73 #[.agg A, .int .i64 (N : Int)] w fun e w' => e = .returned (.int .i64 ((N + cnt0L ds : Nat) : Int)) ∧ Below w.heap.size w w' := by
  obtain ⟨xa0, xc0, xa5, xc5, xs0, xx1_0, xx1_1, xx1_2, xx1_3, xs5, xx6_0, xx7_0, xx7_1, xx7_2, xx7_3, xF0, xF5, _, rfl, _, ox0, ox5⟩ := inv_Graphics hs
  have hc : N + cnt0L (.sl xs0 :: (.int xx1_0 :: (.int xx1_1 :: (.int xx1_2 :: (.int xx1_3 :: (.sl xs5 :: (.int xx6_0 :: (.int xx7_0 :: (.int xx7_1 :: (.int xx7_2 :: (.int xx7_3 :: ([])))))))))))) = ((N + cntL xs0) + cntL xs5) := by simp only [cnt0L_app, cnt0L, Dt.cnt0]; omega
  have hm : mk0L (.sl xs0 :: (.int xx1_0 :: (.int xx1_1 :: (.int xx1_2 :: (.int xx1_3 :: (.sl xs5 :: (.int xx6_0 :: (.int xx7_0 :: (.int xx7_1 :: (.int xx7_2 :: (.int xx7_3 :: ([])))))))))))) N = .sl (mkL xs0 N) :: (.int xx1_0 :: (.int xx1_1 :: (.int xx1_2 :: (.int xx1_3 :: (.sl (mkL xs5 (N + cntL xs0)) :: (.int xx6_0 :: (.int xx7_0 :: (.int xx7_1 :: (.int xx7_2 :: (.int xx7_3 :: ([]))))))))))) := by simp only [mk0L_app, mk0L, Dt.mk0, cnt0L_app, cnt0L, Dt.cnt0, Nat.add_zero, Nat.add_assoc]
  obtain ⟨M1, hM1⟩ : ∃ M, N + cntL xs0 = M := ⟨_, rfl⟩
  simp only [hM1] at hc hm
  obtain ⟨M2, hM2⟩ : ∃ M, M1 + cntL xs5 = M := ⟨_, rfl⟩
  simp only [hM2] at hc hm
  rw [hc] at hN ⊢
  rw [hm] at h
  clear hc hm
  simp only [bulkL_app, bulkL, Dt.bulk] at hb
  obtain ⟨ya0, yc0, ya5, yc5, yF0, yF5, hA, rfl, oy0, oy5⟩ := inv_Graphics_ h
  simp only [mkL_length] at hA oy0 oy5
  have BA : Blk (w.alloc (.cells A 47)) w.heap.size A.toList := Blk.new w A 47 rfl
  have hW : Below w.heap.size w (w.alloc (.cells A 47)) := by go_grown
  rw [hA] at BA
  have HS := Lib.hid (And.intro ox0 ox5)
  have HO := Lib.hid (And.intro oy0 oy5)
  have HA0 := Lib.hid BA
  have HW0 := Lib.hid hW
  have ca0 : A[0]? = some (.slice ya0 xs0.length yc0) := by rw [← Array.getElem?_toList, hA]; rfl
  clear ox0 ox5 oy0 oy5 hA BA hW h hs
  go_enter Try.func73, Try.ntmps73
  go_wp2_with fail
  ((with_reducible refine (held_IntS _ N (by omega) (by omega) (by omega) (HS.out.1) ((HO.out.1).under HW0.out)).mono ?_); rintro e w1 ⟨rfl, b1⟩)
  rw [hM1]
  have HW1 := Lib.hid (on_of HW0.out b1)
  have HA1 := Lib.hid (HA0.out.keep b1)
  have g1 : ¬ (((M1 : Nat) : Int) < 0) := by omega
  clear b1 ca0
  have ca1 := HA1.out.1 1 (.int .i64 xx1_0) (by rfl)
  have ca2 := HA1.out.1 2 (.int .i64 xx1_1) (by rfl)
  have ca3 := HA1.out.1 3 (.int .i64 xx1_2) (by rfl)
  have ca4 := HA1.out.1 4 (.int .i64 xx1_3) (by rfl)
  have ca5 := HA1.out.1 5 (.slice ya5 xs5.length yc5) (by rfl)
  go_wp2_with fail
  ((with_reducible refine (held_PointS _ M1 (by omega) (by omega) (by omega) (HS.out.2) ((HO.out.2).under HW1.out)).mono ?_); rintro e w2 ⟨rfl, b2⟩)
  rw [hM2]
  have HW2 := Lib.hid (on_of HW1.out b2)
  have HA2 := Lib.hid (HA1.out.keep b2)
  have g2 : ¬ (((M2 : Nat) : Int) < 0) := by omega
  clear b2 ca1 ca2 ca3 ca4 ca5
  go_wp2
  go_ret
  exact ⟨rfl, HW2.out⟩

end Go.Proofs.Ytejnfdpckipbeaa.Own
