/-
  The laws' helpers over values with slices inside slices, told of owned values.
-/
import Derived.Test.YtejnfdpckipbeaaMkA
import Derived.Test.YtejnfdpckipbeaaMkS
import Derived.Test.YtejnfdpckipbeaaHdA
import Derived.WalkKit
import Derived.Deep.DeepCutAuto
import Derived.Deep.QuietTactic
import Derived.BigQuiet
import Derived.Deep.RegionHeld3
import Derived.Handy
namespace Go.Proofs.Ytejnfdpckipbeaa.Own
open Go.ChangeShapes Go.WideShapes Go.ChangeAt Go.RowKit
open Kit Slabs Ints
set_option linter.unusedVariables false
set_option linter.unusedSimpArgs false
set_option linter.unnecessarySimpa false
set_option maxRecDepth 100000

attribute [local go_sem ↓] hload_Graphics
set_option maxHeartbeats 4000000 in
theorem mark_Page (w : World) (N : Nat) {A : Array Value} {ds : List Dt} {fp : List Nat} (hb : bulkL ds ≤ 1048576) (h0 : 0 < N) (hN : N + cnt0L ds ≤ 1000000000) (h : OwnL w LPage A.toList ds fp) (hd : fp.Nodup) :
    Calls Try.prog 26 #[.agg A, .int .i64 (N : Int)] w fun e w' => e = .returned (.int .i64 ((N + cnt0L ds : Nat) : Int)) ∧ OwnL w' LPage A.toList (mk0L ds N) fp ∧ Turns w w' (fun b => b ∈ fp) := by
  obtain ⟨xG0, xa11, xc11, xa12, xc12, xD0, xs11, xs12, xF0, xF11, xF12, hA, rfl, rfl, ox0, ox11, ox12⟩ := inv_Page h
  have nxG0 : xG0.length = 11 := ox0.len
  obtain ⟨nd0, r0, x0⟩ := nodup_parts hd
  obtain ⟨nd1, r1, x1⟩ := nodup_parts r0
  obtain ⟨nd2, r2, x2⟩ := nodup_parts r1
  have d0_1 : ∀ b ∈ xF0, b ∉ xF11 := fun b ha hb => x0 b ha (List.mem_append_left _ hb)
  have d1_0 : ∀ b ∈ xF11, b ∉ xF0 := fun b ha hb => d0_1 b hb ha
  have d0_2 : ∀ b ∈ xF0, b ∉ xF12 := fun b ha hb => x0 b ha (List.mem_append_right _ (List.mem_append_left _ hb))
  have d2_0 : ∀ b ∈ xF12, b ∉ xF0 := fun b ha hb => d0_2 b hb ha
  have d1_2 : ∀ b ∈ xF11, b ∉ xF12 := fun b ha hb => x1 b ha (List.mem_append_left _ hb)
  have d2_1 : ∀ b ∈ xF12, b ∉ xF11 := fun b ha hb => d1_2 b hb ha
  have hc : N + cnt0L (xD0 ++ (.sl xs11 :: (.sl xs12 :: ([])))) = (((N + cnt0L xD0) + cntL xs11) + cntL xs12) := by simp only [cnt0L_app, cnt0L, Dt.cnt0]; omega
  have hm : mk0L (xD0 ++ (.sl xs11 :: (.sl xs12 :: ([])))) N = mk0L xD0 N ++ (.sl (mkL xs11 (N + cnt0L xD0)) :: (.sl (mkL xs12 ((N + cnt0L xD0) + cntL xs11)) :: ([]))) := by simp only [mk0L_app, mk0L, Dt.mk0, cnt0L_app, cnt0L, Dt.cnt0, Nat.add_zero, Nat.add_assoc]
  obtain ⟨M1, hM1⟩ : ∃ M, N + cnt0L xD0 = M := ⟨_, rfl⟩
  simp only [hM1] at hc hm
  obtain ⟨M2, hM2⟩ : ∃ M, M1 + cntL xs11 = M := ⟨_, rfl⟩
  simp only [hM2] at hc hm
  obtain ⟨M3, hM3⟩ : ∃ M, M2 + cntL xs12 = M := ⟨_, rfl⟩
  simp only [hM3] at hc hm
  rw [hc] at hN ⊢
  rw [hm]
  clear hc hm
  simp only [bulkL_app, bulkL, Dt.bulk] at hb
  have BA : Blk (w.alloc (.cells A 51)) w.heap.size A.toList := Blk.new w A 51 rfl
  have hT : Turns w (w.alloc (.cells A 51)) (fun b => b ∈ xF0 ++ (xF11 ++ (xF12 ++ ([])))) := Turns.of_below (by go_grown)
  rw [hA] at BA ⊢
  have lt0 := ox0.lt
  have ne0 : ¬ (w.heap.size ∈ xF0) := fun hb => by have := lt0 _ hb; omega
  have p0 := ox0.under (w' := w.alloc (.cells A 51)) (by go_grown)
  have lt1 := ox11.lt
  have ne1 : ¬ (w.heap.size ∈ xF11) := fun hb => by have := lt1 _ hb; omega
  have p1 := ox11.under (w' := w.alloc (.cells A 51)) (by go_grown)
  have lt2 := ox12.lt
  have ne2 : ¬ (w.heap.size ∈ xF12) := fun hb => by have := lt2 _ hb; omega
  have p2 := ox12.under (w' := w.alloc (.cells A 51)) (by go_grown)
  have HO0 := Lib.hid (And.intro p0 (And.intro p1 p2))
  have HA0 := Lib.hid BA
  have HT0 := Lib.hid hT
  have ra := hload_run (P := Try.prog) (t := 47) Try.isAgg47 Try.sizeOf47 (w := w.alloc (.cells A 51)) (b := w.heap.size) (o := 0) (us := xG0) (Blk.part (P := []) HA0.out rfl) nxG0
  clear ox0 ox11 ox12 hA BA hT h hd p0 lt0 p1 lt1 p2 lt2
  go_enter Try.func26, Try.ntmps26
  go_wp2_with fail
  ((with_reducible refine (mark_Graphics _ N (ds := xD0) (by omega) (by omega) (by omega) (by simpa using HO0.out.1) nd0).mono ?_); rintro e w1 ⟨rfl, o1, b1⟩)
  rw [hM1]
  simp only [List.toList_toArray] at o1
  have HO1 := Lib.hid (And.intro o1 (And.intro ((HO0.out.2.1).turned b1 d1_0) ((HO0.out.2.2).turned b1 d2_0)))
  have HA1 := Lib.hid (HA0.out.turned b1 ne0)
  have HT1 := Lib.hid (HT0.out.trans (b1.mono (fun _ hk => List.mem_append_left _ hk)))
  clear o1 b1  ra
  have ca11 := HA1.out.1 11 (.slice xa11 xs11.length xc11) (by simp [nxG0])
  go_wp2_with fail
  ((with_reducible refine (mark_GraphicsS _ M1 (by omega) (by omega) (by omega) (HO1.out.2.1) nd1).mono ?_); rintro e w2 ⟨rfl, o2, b2⟩)
  rw [hM2]
  have HO2 := Lib.hid (And.intro ((HO1.out.1).turned b2 d0_1) (And.intro o2 ((HO1.out.2.2).turned b2 d2_1)))
  have HA2 := Lib.hid (HA1.out.turned b2 ne1)
  have HT2 := Lib.hid (HT1.out.trans (b2.mono (fun _ hk => List.mem_append_right _ (List.mem_append_left _ hk))))
  clear o2 b2 ca11
  have ca12 := HA2.out.1 12 (.slice xa12 xs12.length xc12) (by simp [nxG0])
  go_wp2_with fail
  ((with_reducible refine (mark_ObjectS _ M2 (by omega) (by omega) (by omega) (HO2.out.2.2) nd2).mono ?_); rintro e w3 ⟨rfl, o3, b3⟩)
  rw [hM3]
  have HO3 := Lib.hid (And.intro ((HO2.out.1).turned b3 d0_2) (And.intro ((HO2.out.2.1).turned b3 d1_2) o3))
  have HA3 := Lib.hid (HA2.out.turned b3 ne2)
  have HT3 := Lib.hid (HT2.out.trans (b3.mono (fun _ hk => List.mem_append_right _ (List.mem_append_right _ (List.mem_append_left _ hk)))))
  clear o3 b3 ca12
  go_wp2
  go_ret
  exact ⟨rfl, OwnL.app (.cons (cs := [.slice xa11 xs11.length xc11]) (fp := xF11) (HO3.out.2.1) (.cons (cs := [.slice xa12 xs12.length xc12]) (fp := xF12) (HO3.out.2.2) (.nil))) (HO3.out.1), HT3.out⟩
set_option maxHeartbeats 4000000 in
theorem held_Page (w : World) (N : Nat) {A : Array Value} {ds : List Dt} {cs0 : List Value} {fp fq : List Nat} {w0 : World} (hb : bulkL ds ≤ 1048576) (h0 : 0 < N) (hN : N + cnt0L ds ≤ 1000000000) (hs : OwnL w0 LPage cs0 ds fq) (h : OwnL w LPage A.toList (mk0L ds N) fp) :
    Calls Try.prog 27 #[.agg A, .int .i64 (N : Int)] w fun e w' => e = .returned (.int .i64 ((N + cnt0L ds : Nat) : Int)) ∧ Below w.heap.size w w' := by
  obtain ⟨xG0, xa11, xc11, xa12, xc12, xD0, xs11, xs12, xF0, xF11, xF12, _, rfl, _, ox0, ox11, ox12⟩ := inv_Page hs
  have lxD0 := ox0.dlen
  have hc : N + cnt0L (xD0 ++ (.sl xs11 :: (.sl xs12 :: ([])))) = (((N + cnt0L xD0) + cntL xs11) + cntL xs12) := by simp only [cnt0L_app, cnt0L, Dt.cnt0]; omega
  have hm : mk0L (xD0 ++ (.sl xs11 :: (.sl xs12 :: ([])))) N = mk0L xD0 N ++ (.sl (mkL xs11 (N + cnt0L xD0)) :: (.sl (mkL xs12 ((N + cnt0L xD0) + cntL xs11)) :: ([]))) := by simp only [mk0L_app, mk0L, Dt.mk0, cnt0L_app, cnt0L, Dt.cnt0, Nat.add_zero, Nat.add_assoc]
  obtain ⟨M1, hM1⟩ : ∃ M, N + cnt0L xD0 = M := ⟨_, rfl⟩
  simp only [hM1] at hc hm
  obtain ⟨M2, hM2⟩ : ∃ M, M1 + cntL xs11 = M := ⟨_, rfl⟩
  simp only [hM2] at hc hm
  obtain ⟨M3, hM3⟩ : ∃ M, M2 + cntL xs12 = M := ⟨_, rfl⟩
  simp only [hM3] at hc hm
  rw [hc] at hN ⊢
  rw [hm] at h
  clear hc hm
  simp only [bulkL_app, bulkL, Dt.bulk] at hb
  obtain ⟨yG0, ya11, yc11, ya12, yc12, yF0, yF11, yF12, hA, rfl, oy0, oy11, oy12⟩ := inv_Page_ (by rw [mk0L_length, lxD0]) h
  simp only [mkL_length] at hA oy11 oy12
  have nyG0 : yG0.length = 11 := oy0.len
  have BA : Blk (w.alloc (.cells A 51)) w.heap.size A.toList := Blk.new w A 51 rfl
  have hW : Below w.heap.size w (w.alloc (.cells A 51)) := by go_grown
  rw [hA] at BA
  have HS := Lib.hid (And.intro ox0 (And.intro ox11 ox12))
  have HO := Lib.hid (And.intro oy0 (And.intro oy11 oy12))
  have HA0 := Lib.hid BA
  have HW0 := Lib.hid hW
  have ra := hload_run (P := Try.prog) (t := 47) Try.isAgg47 Try.sizeOf47 (w := w.alloc (.cells A 51)) (b := w.heap.size) (o := 0) (us := yG0) (Blk.part (P := []) HA0.out rfl) nyG0
  clear ox0 ox11 ox12 oy0 oy11 oy12 hA BA hW h hs
  go_enter Try.func27, Try.ntmps27
  go_wp2_with fail
  ((with_reducible refine (held_Graphics _ N (ds := xD0) (by omega) (by omega) (by omega) (HS.out.1) (by simpa using (HO.out.1).under HW0.out)).mono ?_); rintro e w1 ⟨rfl, b1⟩)
  rw [hM1]
  have HW1 := Lib.hid (on_of HW0.out b1)
  have HA1 := Lib.hid (HA0.out.keep b1)
  have g1 : ¬ (((M1 : Nat) : Int) < 0) := by omega
  clear b1  ra
  have ca11 := HA1.out.1 11 (.slice ya11 xs11.length yc11) (by simp [nyG0])
  go_wp2_with fail
  ((with_reducible refine (held_GraphicsS _ M1 (by omega) (by omega) (by omega) (HS.out.2.1) ((HO.out.2.1).under HW1.out)).mono ?_); rintro e w2 ⟨rfl, b2⟩)
  rw [hM2]
  have HW2 := Lib.hid (on_of HW1.out b2)
  have HA2 := Lib.hid (HA1.out.keep b2)
  have g2 : ¬ (((M2 : Nat) : Int) < 0) := by omega
  clear b2 ca11
  have ca12 := HA2.out.1 12 (.slice ya12 xs12.length yc12) (by simp [nyG0])
  go_wp2_with fail
  ((with_reducible refine (held_ObjectS _ M2 (by omega) (by omega) (by omega) (HS.out.2.2) ((HO.out.2.2).under HW2.out)).mono ?_); rintro e w3 ⟨rfl, b3⟩)
  rw [hM3]
  have HW3 := Lib.hid (on_of HW2.out b3)
  have HA3 := Lib.hid (HA2.out.keep b3)
  have g3 : ¬ (((M3 : Nat) : Int) < 0) := by omega
  clear b3 ca12
  go_wp2
  go_ret
  exact ⟨rfl, HW3.out⟩

end Go.Proofs.Ytejnfdpckipbeaa.Own
