/-
  Texts of this seat, laid together: MkA, HdA, OpC
-/
import Derived.WalkKit
import Derived.Deep.DeepCutAuto
import Derived.Deep.QuietTactic
import Derived.BigQuiet
import Derived.Deep.RegionHeld3
import Derived.Handy
import Derived.Test.YtnkookegoicfnaaGreatW09
import Derived.Test.YtnkookegoicfnaaGreatW28
namespace Go.Proofs.YtnkookegoicfnaaGreat.Own
open Go.ChangeShapes Go.WideShapes Go.ChangeAt Go.RowKit
open Kit Slabs Ints
set_option linter.unusedVariables false
set_option linter.unusedSimpArgs false
set_option linter.unnecessarySimpa false
set_option maxRecDepth 100000
set_option maxHeartbeats 4000000 in
theorem mark_Graphics (w : World) (N : Nat) {A : Array Value} {ds : List Dt} {fp : List Nat} (hb : bulkL ds ≤ 1048576) (h0 : 0 < N) (hN : N + cnt0L ds ≤ 1000000000) (h : OwnL w LGraphics A.toList ds fp) (hd : fp.Nodup) :
    Calls Tryz.prog 43 #[.agg A, .int .i64 (N : Int)] w fun e w' => e = .returned (.int .i64 ((N + cnt0L ds : Nat) : Int)) ∧ OwnL w' LGraphics A.toList (mk0L ds N) fp ∧ Turns w w' (fun b => b ∈ fp) := by
  obtain ⟨xa0, xc0, xa5, xc5, xs0, xx1_0, xx1_1, xx1_2, xx1_3, xs5, xx6_0, xx7_0, xx7_1, xx7_2, xx7_3, xF0, xF5, hA, rfl, rfl, ox0, ox5⟩ := inv_Graphics h
  obtain ⟨nd0, r0, x0⟩ := nodup_parts hd
  obtain ⟨nd1, r1, x1⟩ := nodup_parts r0
  have d0_1 : ∀ b ∈ xF0, b ∉ xF5 := fun b ha hb => x0 b ha (List.mem_append_left _ hb)
  have d1_0 : ∀ b ∈ xF5, b ∉ xF0 := fun b ha hb => d0_1 b hb ha
  have hc : N + cnt0L (.sl xs0 :: (.int xx1_0 :: (.int xx1_1 :: (.int xx1_2 :: (.int xx1_3 :: (.sl xs5 :: (.int xx6_0 :: (.int xx7_0 :: (.int xx7_1 :: (.int xx7_2 :: (.int xx7_3 :: ([])))))))))))) = ((N + cntL xs0) + cntL xs5) := by simp only [cnt0L_app, cnt0L, Dt.cnt0]; omega
  have hm : mk0L (.sl xs0 :: (.int xx1_0 :: (.int xx1_1 :: (.int xx1_2 :: (.int xx1_3 :: (.sl xs5 :: (.int xx6_0 :: (.int xx7_0 :: (.int xx7_1 :: (.int xx7_2 :: (.int xx7_3 :: ([])))))))))))) N = .sl (mkL xs0 N) :: (.int xx1_0 :: (.int xx1_1 :: (.int xx1_2 :: (.int xx1_3 :: (.sl (mkL xs5 (N + cntL xs0)) :: (.int xx6_0 :: (.int xx7_0 :: (.int xx7_1 :: (.int xx7_2 :: (.int xx7_3 :: ([]))))))))))) := by simp only [mk0L_app, mk0L, Dt.mk0, cnt0L_app, cnt0L, Dt.cnt0, Nat.add_zero, Nat.add_assoc]
  obtain ⟨M1, hM1⟩ : ∃ M, N + cntL xs0 = M := ⟨_, rfl⟩
  simp only [hM1] at hc hm
  obtain ⟨M2, hM2⟩ : ∃ M, M1 + cntL xs5 = M := ⟨_, rfl⟩
  simp only [hM2] at hc hm
  rw [hc] at hN ⊢
  rw [hm]
  clear hc hm
  simp only [bulkL_app, bulkL, Dt.bulk] at hb
  have BA : Blk (w.alloc (.cells A 42)) w.heap.size A.toList := Blk.new w A 42 rfl
  have hT : Turns w (w.alloc (.cells A 42)) (fun b => b ∈ xF0 ++ (xF5 ++ ([]))) := Turns.of_below (by go_grown)
  rw [hA] at BA ⊢
  have lt0 := ox0.lt
  have ne0 : ¬ (w.heap.size ∈ xF0) := fun hb => by have := lt0 _ hb; omega
  have p0 := ox0.under (w' := w.alloc (.cells A 42)) (by go_grown)
  have lt1 := ox5.lt
  have ne1 : ¬ (w.heap.size ∈ xF5) := fun hb => by have := lt1 _ hb; omega
  have p1 := ox5.under (w' := w.alloc (.cells A 42)) (by go_grown)
  have HO0 := Lib.hid (And.intro p0 p1)
  have HA0 := Lib.hid BA
  have HT0 := Lib.hid hT
  have ca0 : A[0]? = some (.slice xa0 xs0.length xc0) := by rw [← Array.getElem?_toList, hA]; rfl
  clear ox0 ox5 hA BA hT h hd p0 lt0 p1 lt1
  go_enter Tryz.func43, Tryz.ntmps43
  go_wp2_with fail
  ((with_reducible refine (mark_IntS _ N (by omega) (by omega) (by omega) (HO0.out.1) nd0).mono ?_); rintro e w1 ⟨rfl, o1, b1⟩)
  rw [hM1]
  have HO1 := Lib.hid (And.intro o1 ((HO0.out.2).turned b1 d1_0))
  have HA1 := Lib.hid (HA0.out.turned b1 ne0)
  have HT1 := Lib.hid (HT0.out.trans (b1.mono (fun _ hk => List.mem_append_left _ hk)))
  clear o1 b1 ca0
  have ca1 := HA1.out.1 1 (.int .i64 xx1_0) (by rfl)
  have ca2 := HA1.out.1 2 (.int .i64 xx1_1) (by rfl)
  have ca3 := HA1.out.1 3 (.int .i64 xx1_2) (by rfl)
  have ca4 := HA1.out.1 4 (.int .i64 xx1_3) (by rfl)
  have ca5 := HA1.out.1 5 (.slice xa5 xs5.length xc5) (by rfl)
  go_wp2_with fail
  ((with_reducible refine (mark_PointS _ M1 (by omega) (by omega) (by omega) (HO1.out.2) nd1).mono ?_); rintro e w2 ⟨rfl, o2, b2⟩)
  rw [hM2]
  have HO2 := Lib.hid (And.intro ((HO1.out.1).turned b2 d0_1) o2)
  have HA2 := Lib.hid (HA1.out.turned b2 ne1)
  have HT2 := Lib.hid (HT1.out.trans (b2.mono (fun _ hk => List.mem_append_right _ (List.mem_append_left _ hk))))
  clear o2 b2 ca1 ca2 ca3 ca4 ca5
  go_wp2
  go_ret
  exact ⟨rfl, .cons (cs := [.slice xa0 xs0.length xc0]) (fp := xF0) (HO2.out.1) (.cons (cs := [.int .i64 xx1_0]) (fp := []) (.int xx1_0) (.cons (cs := [.int .i64 xx1_1]) (fp := []) (.int xx1_1) (.cons (cs := [.int .i64 xx1_2]) (fp := []) (.int xx1_2) (.cons (cs := [.int .i64 xx1_3]) (fp := []) (.int xx1_3) (.cons (cs := [.slice xa5 xs5.length xc5]) (fp := xF5) (HO2.out.2) (.cons (cs := [.int .i64 xx6_0]) (fp := []) (.int xx6_0) (.cons (cs := [.int .i64 xx7_0]) (fp := []) (.int xx7_0) (.cons (cs := [.int .i64 xx7_1]) (fp := []) (.int xx7_1) (.cons (cs := [.int .i64 xx7_2]) (fp := []) (.int xx7_2) (.cons (cs := [.int .i64 xx7_3]) (fp := []) (.int xx7_3) (.nil))))))))))), HT2.out⟩
set_option maxHeartbeats 4000000 in
theorem held_Graphics (w : World) (N : Nat) {A : Array Value} {ds : List Dt} {cs0 : List Value} {fp fq : List Nat} {w0 : World} (hb : bulkL ds ≤ 1048576) (h0 : 0 < N) (hN : N + cnt0L ds ≤ 1000000000) (hs : OwnL w0 LGraphics cs0 ds fq) (h : OwnL w LGraphics A.toList (mk0L ds N) fp) :
    Calls Tryz.prog 46 #[.agg A, .int .i64 (N : Int)] w fun e w' => e = .returned (.int .i64 ((N + cnt0L ds : Nat) : Int)) ∧ Below w.heap.size w w' := by
  obtain ⟨xa0, xc0, xa5, xc5, xs0, xx1_0, xx1_1, xx1_2, xx1_3, xs5, xx6_0, xx7_0, xx7_1, xx7_2, xx7_3, xF0, xF5, _, rfl, _, ox0, ox5⟩ := inv_Graphics hs
  have hc : N + cnt0L (.sl xs0 :: (.int xx1_0 :: (.int xx1_1 :: (.int xx1_2 :: (.int xx1_3 :: (.sl xs5 :: (.int xx6_0 :: (.int xx7_0 :: (.int xx7_1 :: (.int xx7_2 :: (.int xx7_3 :: ([])))))))))))) = ((N + cntL xs0) + cntL xs5) := by simp only [cnt0L_app, cnt0L, Dt.cnt0]; omega
  have hm : mk0L (.sl xs0 :: (.int xx1_0 :: (.int xx1_1 :: (.int xx1_2 :: (.int xx1_3 :: (.sl xs5 :: (.int xx6_0 :: (.int xx7_0 :: (.int xx7_1 :: (.int xx7_2 :: (.int xx7_3 :: ([])))))))))))) N = .sl (mkL xs0 N) :: (.int xx1_0 :: (.int xx1_1 :: (.int xx1_2 :: (.int xx1_3 :: (.sl (mkL xs5 (N + cntL xs0)) :: (.int xx6_0 :: (.int xx7_0 :: (.int xx7_1 :: (.int xx7_2 :: (.int xx7_3 :: ([]))))))))))) := by simp only [mk0L_app, mk0L, Dt.mk0, cnt0L_app, cnt0L, Dt.cnt0, Nat.add_zero, Nat.add_assoc]
  obtain ⟨M1, hM1⟩ : ∃ M, N + cntL xs0 = M := ⟨_, rfl⟩
  simp only [hM1] at hc hm
  obtain ⟨M2, hM2⟩ : ∃ M, M1 + cntL xs5 = M := ⟨_, rfl⟩
  simp only [hM2] at hc hm
  rw [hc] at hN ⊢
  rw [hm] at h
  clear hc hm
  simp only [bulkL_app, bulkL, Dt.bulk] at hb
  obtain ⟨ya0, yc0, ya5, yc5, yF0, yF5, hA, rfl, oy0, oy5⟩ := inv_Graphics_ h
  simp only [mkL_length] at hA oy0 oy5
  have BA : Blk (w.alloc (.cells A 42)) w.heap.size A.toList := Blk.new w A 42 rfl
  have hW : Below w.heap.size w (w.alloc (.cells A 42)) := by go_grown
  rw [hA] at BA
  have HS := Lib.hid (And.intro ox0 ox5)
  have HO := Lib.hid (And.intro oy0 oy5)
  have HA0 := Lib.hid BA
  have HW0 := Lib.hid hW
  have ca0 : A[0]? = some (.slice ya0 xs0.length yc0) := by rw [← Array.getElem?_toList, hA]; rfl
  clear ox0 ox5 oy0 oy5 hA BA hW h hs
  go_enter Tryz.func46, Tryz.ntmps46
  go_wp2_with fail
  ((with_reducible refine (held_IntS _ N (by omega) (by omega) (by omega) (HS.out.1) ((HO.out.1).under HW0.out)).mono ?_); rintro e w1 ⟨rfl, b1⟩)
  rw [hM1]
  have HW1 := Lib.hid (on_of HW0.out b1)
  have HA1 := Lib.hid (HA0.out.keep b1)
  have g1 : ¬ (((M1 : Nat) : Int) < 0) := by omega
  clear b1 ca0
  have ca1 := HA1.out.1 1 (.int .i64 xx1_0) (by rfl)
  have ca2 := HA1.out.1 2 (.int .i64 xx1_1) (by rfl)
  have ca3 := HA1.out.1 3 (.int .i64 xx1_2) (by rfl)
  have ca4 := HA1.out.1 4 (.int .i64 xx1_3) (by rfl)
  have ca5 := HA1.out.1 5 (.slice ya5 xs5.length yc5) (by rfl)
  go_wp2_with fail
  ((with_reducible refine (held_PointS _ M1 (by omega) (by omega) (by omega) (HS.out.2) ((HO.out.2).under HW1.out)).mono ?_); rintro e w2 ⟨rfl, b2⟩)
  rw [hM2]
  have HW2 := Lib.hid (on_of HW1.out b2)
  have HA2 := Lib.hid (HA1.out.keep b2)
  have g2 : ¬ (((M2 : Nat) : Int) < 0) := by omega
  clear b2 ca1 ca2 ca3 ca4 ca5
  go_wp2
  go_ret
  exact ⟨rfl, HW2.out⟩
end Go.Proofs.YtnkookegoicfnaaGreat.Own

namespace Go.Proofs.YtnkookegoicfnaaGreat.Own
open Go.ChangeShapes Go.WideShapes Go.ChangeAt Go.RowKit
open Kit Slabs Ints
set_option linter.unusedVariables false
set_option linter.unusedSimpArgs false
set_option linter.unnecessarySimpa false
set_option maxRecDepth 100000
set_option maxHeartbeats 8000000 in
theorem held_ObjectS (w : World) (N : Nat) {a : Option Addr} {n c : Nat} {es : List Dt} {fp fq : List Nat} {w0 : World} {v0 : Value} (hn : es.length + bulkL es ≤ 1048576) (h0 : 0 < N) (hN : N + cntL es ≤ 1000000000) (hs : Own w0 (.sl KObject) [v0] (.sl es) fq) (h : Own w (.sl KObject) [.slice a n c] (.sl (mkL es N)) fp) :
    Calls Tryz.prog 48 #[.slice a n c, .int .i64 (N : Int)] w fun e w' => e = .returned (.int .i64 ((N + cntL es : Nat) : Int)) ∧ Below w.heap.size w w' := by
  obtain ⟨hl, hr⟩ := h.row
  rw [mkL_length] at hl
  obtain ⟨hl0, _⟩ : es.length = n ∧ True := ⟨hl, trivial⟩
  by_cases hz : n = 0
  · subst hz
    have hes : es = [] := List.eq_nil_of_length_eq_zero hl
    subst hes
    clear h hr hs
    go_enter Tryz.func48, Tryz.ntmps48
    go_wp2
    go_rounds 1
    go_ret
    exact ⟨ret_int (by simp [cntL]), Below.refl _ _⟩
  · obtain ⟨g, rfl, _⟩ := hr hz
    have H := Lib.hid (And.intro h (And.intro hs hl))
    have hn1 : n ≤ 1048576 := by omega
    have HB := Lib.hid (And.intro hn hN)
    clear h hs hr hl hl0 hn hN
    go_enter Tryz.func48, Tryz.ntmps48
    go_wp2
    go_loopw [1, 5] (fun v1 i wr => ∃ k : Nat, k ≤ n ∧ i = .int .i64 (k : Int) ∧ v1 = .int .i64 ((N + cntL (es.take k) : Nat) : Int) ∧ Below w.heap.size w wr) (fun _ i _ => n - (intOf i).toNat)
    case atStart => exact ⟨0, Nat.zero_le _, rfl, by simp [cntL], Below.refl _ _⟩
    case round =>
      obtain ⟨k, hk, rfl, rfl, hbel⟩ := hrel
      by_cases hlt : k < n
      · have hke : k < es.length := by rw [H.out.2.2]; exact hlt
        have hkm : k < (mkL es N).length := by rw [mkL_length]; exact hke
        obtain ⟨hg, _, cs, ds, q, ed, od, ld, _, sd⟩ := H.out.1.elt hkm
        rw [mk_elt hke] at ed
        obtain ⟨v0a, v0n, v0c, hv0⟩ : ∃ a n c, v0 = .slice a n c := by cases H.out.2.1 <;> exact ⟨_, _, _, rfl⟩
        have hs1 := H.out.2.1
        rw [hv0] at hs1
        obtain ⟨e0, r0⟩ := hs1.row
        obtain ⟨g0, rfl, _⟩ := r0 (by omega)
        obtain ⟨_, _, cs0, ds0, q0, ed0, od0, _, _, _⟩ := hs1.elt hke
        have htk := take_cnt hke
        have hpart := cnt_parts es (k + 1)
        have hbk := bulk_elt hke
        rw [ed0] at ed htk hbk
        simp only [Dt.mk] at ed
        injection ed with ed
        subst ed
        obtain ⟨xa0, xc0, xs0, xx1_0, xx2_0, xx2_1, xx2_2, xx2_3, xF0, _, rfl, rfl, ox0⟩ := inv_Object od0
        obtain ⟨M0, hM0⟩ : ∃ M, N + cntL (es.take k) = M := ⟨_, rfl⟩
        rw [hM0] at od ⊢
        obtain ⟨M1, hM1⟩ : ∃ M, M0 + cntL xs0 = M := ⟨_, rfl⟩
        obtain ⟨M2, hM2⟩ : ∃ M, M1 + 1 = M := ⟨_, rfl⟩
        obtain ⟨M3, hM3⟩ : ∃ M, M2 + 1 = M := ⟨_, rfl⟩
        obtain ⟨M4, hM4⟩ : ∃ M, M3 + 1 = M := ⟨_, rfl⟩
        obtain ⟨M5, hM5⟩ : ∃ M, M4 + 1 = M := ⟨_, rfl⟩
        obtain ⟨M6, hM6⟩ : ∃ M, M5 + 1 = M := ⟨_, rfl⟩
        have hmk : mkL (.sl xs0 :: (.int xx1_0 :: (.int xx2_0 :: (.int xx2_1 :: (.int xx2_2 :: (.int xx2_3 :: ([]))))))) M0 = .sl (mkL xs0 M0) :: (.int ((M1 : Nat) : Int) :: (.int ((M2 : Nat) : Int) :: (.int ((M3 : Nat) : Int) :: (.int ((M4 : Nat) : Int) :: (.int ((M5 : Nat) : Int) :: ([])))))) := by simp only [mkL, Dt.mk, Dt.cnt, hM1, hM2, hM3, hM4, hM5, hM6]
        rw [hmk] at od
        have hM : N + cntL (es.take (k + 1)) = M6 := by rw [htk, ← Nat.add_assoc, hM0]; simp only [Dt.cnt, cntL]; omega
        simp only [Dt.bulk, bulkL] at hbk
        have hMb : M6 ≤ 1000000000 := by have := HB.out.2; omega
        have hMp : 0 < M0 := by omega
        obtain ⟨ya0, yc0, yF0, rfl, rfl, oy0⟩ := inv_Object_ od
        simp only [mkL_length] at sd oy0
        have HBK := Lib.hid hbk
        have u0 : xs0.length + bulkL xs0 ≤ 1048576 := by have := HB.out.1; omega
        have HS := Lib.hid sd
        have HE := Lib.hid (ox0)
        have HO := Lib.hid (oy0)
        have HM := Lib.hid hM
        have b0 : M0 ≤ 1000000000 := by omega
        have p0 : 0 < M0 := by omega
        have g1 : ¬ ((M1 : Int) < 0) := by omega
        have s0 : M0 + cntL xs0 ≤ 1000000000 := by omega
        have e2 : (M1 : Int) + 1 = (M2 : Int) := by omega
        have b1 : M1 ≤ 1000000000 := by omega
        have e3 : (M2 : Int) + 1 = (M3 : Int) := by omega
        have b2 : M2 ≤ 1000000000 := by omega
        have e4 : (M3 : Int) + 1 = (M4 : Int) := by omega
        have b3 : M3 ≤ 1000000000 := by omega
        have e5 : (M4 : Int) + 1 = (M5 : Int) := by omega
        have b4 : M4 ≤ 1000000000 := by omega
        have e6 : (M5 : Int) + 1 = (M6 : Int) := by omega
        have b5 : M5 ≤ 1000000000 := by omega
        have i0 : (0 : Int) ≤ (k : Int) := by omega
        have i1 : (k : Int) < (n : Int) := by omega
        clear od od0 hs1 r0 e0 htk hpart hmk hM hM0 hbk sd hke hkm ed0 ox0 oy0
        have HW0 := Lib.hid hbel
        have ca0 : wr.cell? ⟨g, k * 6, none⟩ = some (.slice ya0 xs0.length yc0) := HS.out wr HW0.out 0 _ rfl
        go_wp2_with fail
        ((with_reducible refine (held_PointS _ M0 u0 p0 s0 (HE.out) ((HO.out).under HW0.out)).mono ?_); rintro e w1 ⟨rfl, bb⟩)
        rw [hM1]
        have HW1 := Lib.hid (on_of HW0.out bb)
        clear bb ca0
        have ca1 : w1.cell? ⟨g, k * 6 + 1, none⟩ = some (.int .i64 (M1 : Int)) := HS.out w1 HW1.out 1 _ rfl
        have ca2 : w1.cell? ⟨g, k * 6 + 2, none⟩ = some (.int .i64 (M2 : Int)) := HS.out w1 HW1.out 2 _ rfl
        have ca3 : w1.cell? ⟨g, k * 6 + 3, none⟩ = some (.int .i64 (M3 : Int)) := HS.out w1 HW1.out 3 _ rfl
        have ca4 : w1.cell? ⟨g, k * 6 + 4, none⟩ = some (.int .i64 (M4 : Int)) := HS.out w1 HW1.out 4 _ rfl
        have ca5 : w1.cell? ⟨g, k * 6 + 5, none⟩ = some (.int .i64 (M5 : Int)) := HS.out w1 HW1.out 5 _ rfl
        have HWl := HW1.out
        go_wp2
        go_roundw
        case rel => exact ⟨k + 1, by omega, by go_num, by rw [HM.out], HWl⟩
        case measure => simp [intOf]; omega
      · obtain rfl : k = n := by omega
        have HY := Lib.hid (show es.take k = es by rw [← H.out.2.2, List.take_length])
        rw [HY.out]
        go_wp2
        go_ret
        exact ⟨rfl, hbel⟩
set_option maxHeartbeats 8000000 in
theorem held_GraphicsS (w : World) (N : Nat) {a : Option Addr} {n c : Nat} {es : List Dt} {fp fq : List Nat} {w0 : World} {v0 : Value} (hn : es.length + bulkL es ≤ 1048576) (h0 : 0 < N) (hN : N + cntL es ≤ 1000000000) (hs : Own w0 (.sl KGraphics) [v0] (.sl es) fq) (h : Own w (.sl KGraphics) [.slice a n c] (.sl (mkL es N)) fp) :
    Calls Tryz.prog 47 #[.slice a n c, .int .i64 (N : Int)] w fun e w' => e = .returned (.int .i64 ((N + cntL es : Nat) : Int)) ∧ Below w.heap.size w w' := by
  obtain ⟨hl, hr⟩ := h.row
  rw [mkL_length] at hl
  obtain ⟨hl0, _⟩ : es.length = n ∧ True := ⟨hl, trivial⟩
  by_cases hz : n = 0
  · subst hz
    have hes : es = [] := List.eq_nil_of_length_eq_zero hl
    subst hes
    clear h hr hs
    go_enter Tryz.func47, Tryz.ntmps47
    go_wp2
    go_rounds 1
    go_ret
    exact ⟨ret_int (by simp [cntL]), Below.refl _ _⟩
  · obtain ⟨g, rfl, _⟩ := hr hz
    have H := Lib.hid (And.intro h (And.intro hs hl))
    have hn1 : n ≤ 1048576 := by omega
    have HB := Lib.hid (And.intro hn hN)
    clear h hs hr hl hl0 hn hN
    go_enter Tryz.func47, Tryz.ntmps47
    go_wp2
    go_loopw [1, 5] (fun v1 i wr => ∃ k : Nat, k ≤ n ∧ i = .int .i64 (k : Int) ∧ v1 = .int .i64 ((N + cntL (es.take k) : Nat) : Int) ∧ Below w.heap.size w wr) (fun _ i _ => n - (intOf i).toNat)
    case atStart => exact ⟨0, Nat.zero_le _, rfl, by simp [cntL], Below.refl _ _⟩
    case round =>
      obtain ⟨k, hk, rfl, rfl, hbel⟩ := hrel
      by_cases hlt : k < n
      · have hke : k < es.length := by rw [H.out.2.2]; exact hlt
        have hkm : k < (mkL es N).length := by rw [mkL_length]; exact hke
        obtain ⟨hg, _, cs, ds, q, ed, od, ld, _, sd⟩ := H.out.1.elt hkm
        rw [mk_elt hke] at ed
        obtain ⟨v0a, v0n, v0c, hv0⟩ : ∃ a n c, v0 = .slice a n c := by cases H.out.2.1 <;> exact ⟨_, _, _, rfl⟩
        have hs1 := H.out.2.1
        rw [hv0] at hs1
        obtain ⟨e0, r0⟩ := hs1.row
        obtain ⟨g0, rfl, _⟩ := r0 (by omega)
        obtain ⟨_, _, cs0, ds0, q0, ed0, od0, _, _, _⟩ := hs1.elt hke
        have htk := take_cnt hke
        have hpart := cnt_parts es (k + 1)
        have hbk := bulk_elt hke
        rw [ed0] at ed htk hbk
        simp only [Dt.mk] at ed
        injection ed with ed
        subst ed
        obtain ⟨xa0, xc0, xa5, xc5, xs0, xx1_0, xx1_1, xx1_2, xx1_3, xs5, xx6_0, xx7_0, xx7_1, xx7_2, xx7_3, xF0, xF5, _, rfl, rfl, ox0, ox5⟩ := inv_Graphics od0
        obtain ⟨M0, hM0⟩ : ∃ M, N + cntL (es.take k) = M := ⟨_, rfl⟩
        rw [hM0] at od ⊢
        obtain ⟨M1, hM1⟩ : ∃ M, M0 + cntL xs0 = M := ⟨_, rfl⟩
        obtain ⟨M2, hM2⟩ : ∃ M, M1 + 1 = M := ⟨_, rfl⟩
        obtain ⟨M3, hM3⟩ : ∃ M, M2 + 1 = M := ⟨_, rfl⟩
        obtain ⟨M4, hM4⟩ : ∃ M, M3 + 1 = M := ⟨_, rfl⟩
        obtain ⟨M5, hM5⟩ : ∃ M, M4 + 1 = M := ⟨_, rfl⟩
        obtain ⟨M6, hM6⟩ : ∃ M, M5 + cntL xs5 = M := ⟨_, rfl⟩
        obtain ⟨M7, hM7⟩ : ∃ M, M6 + 1 = M := ⟨_, rfl⟩
        obtain ⟨M8, hM8⟩ : ∃ M, M7 + 1 = M := ⟨_, rfl⟩
        obtain ⟨M9, hM9⟩ : ∃ M, M8 + 1 = M := ⟨_, rfl⟩
        obtain ⟨M10, hM10⟩ : ∃ M, M9 + 1 = M := ⟨_, rfl⟩
        obtain ⟨M11, hM11⟩ : ∃ M, M10 + 1 = M := ⟨_, rfl⟩
        have hmk : mkL (.sl xs0 :: (.int xx1_0 :: (.int xx1_1 :: (.int xx1_2 :: (.int xx1_3 :: (.sl xs5 :: (.int xx6_0 :: (.int xx7_0 :: (.int xx7_1 :: (.int xx7_2 :: (.int xx7_3 :: ([])))))))))))) M0 = .sl (mkL xs0 M0) :: (.int ((M1 : Nat) : Int) :: (.int ((M2 : Nat) : Int) :: (.int ((M3 : Nat) : Int) :: (.int ((M4 : Nat) : Int) :: (.sl (mkL xs5 M5) :: (.int ((M6 : Nat) : Int) :: (.int ((M7 : Nat) : Int) :: (.int ((M8 : Nat) : Int) :: (.int ((M9 : Nat) : Int) :: (.int ((M10 : Nat) : Int) :: ([]))))))))))) := by simp only [mkL, Dt.mk, Dt.cnt, hM1, hM2, hM3, hM4, hM5, hM6, hM7, hM8, hM9, hM10, hM11]
        rw [hmk] at od
        have hM : N + cntL (es.take (k + 1)) = M11 := by rw [htk, ← Nat.add_assoc, hM0]; simp only [Dt.cnt, cntL]; omega
        simp only [Dt.bulk, bulkL] at hbk
        have hMb : M11 ≤ 1000000000 := by have := HB.out.2; omega
        have hMp : 0 < M0 := by omega
        obtain ⟨ya0, yc0, ya5, yc5, yF0, yF5, rfl, rfl, oy0, oy5⟩ := inv_Graphics_ od
        simp only [mkL_length] at sd oy0 oy5
        have HBK := Lib.hid hbk
        have u0 : xs0.length + bulkL xs0 ≤ 1048576 := by have := HB.out.1; omega
        have u1 : xs5.length + bulkL xs5 ≤ 1048576 := by have := HB.out.1; omega
        have HS := Lib.hid sd
        have HE := Lib.hid (And.intro ox0 ox5)
        have HO := Lib.hid (And.intro oy0 oy5)
        have HM := Lib.hid hM
        have b0 : M0 ≤ 1000000000 := by omega
        have p0 : 0 < M0 := by omega
        have g1 : ¬ ((M1 : Int) < 0) := by omega
        have s0 : M0 + cntL xs0 ≤ 1000000000 := by omega
        have e2 : (M1 : Int) + 1 = (M2 : Int) := by omega
        have b1 : M1 ≤ 1000000000 := by omega
        have e3 : (M2 : Int) + 1 = (M3 : Int) := by omega
        have b2 : M2 ≤ 1000000000 := by omega
        have e4 : (M3 : Int) + 1 = (M4 : Int) := by omega
        have b3 : M3 ≤ 1000000000 := by omega
        have e5 : (M4 : Int) + 1 = (M5 : Int) := by omega
        have b4 : M4 ≤ 1000000000 := by omega
        have b5 : M5 ≤ 1000000000 := by omega
        have p5 : 0 < M5 := by omega
        have g6 : ¬ ((M6 : Int) < 0) := by omega
        have s5 : M5 + cntL xs5 ≤ 1000000000 := by omega
        have e7 : (M6 : Int) + 1 = (M7 : Int) := by omega
        have b6 : M6 ≤ 1000000000 := by omega
        have e8 : (M7 : Int) + 1 = (M8 : Int) := by omega
        have b7 : M7 ≤ 1000000000 := by omega
        have e9 : (M8 : Int) + 1 = (M9 : Int) := by omega
        have b8 : M8 ≤ 1000000000 := by omega
        have e10 : (M9 : Int) + 1 = (M10 : Int) := by omega
        have b9 : M9 ≤ 1000000000 := by omega
        have e11 : (M10 : Int) + 1 = (M11 : Int) := by omega
        have b10 : M10 ≤ 1000000000 := by omega
        have i0 : (0 : Int) ≤ (k : Int) := by omega
        have i1 : (k : Int) < (n : Int) := by omega
        clear od od0 hs1 r0 e0 htk hpart hmk hM hM0 hbk sd hke hkm ed0 ox0 ox5 oy0 oy5
        have HW0 := Lib.hid hbel
        have ca0 : wr.cell? ⟨g, k * 11, none⟩ = some (.slice ya0 xs0.length yc0) := HS.out wr HW0.out 0 _ rfl
        go_wp2_with fail
        ((with_reducible refine (held_IntS _ M0 u0 p0 s0 (HE.out.1) ((HO.out.1).under HW0.out)).mono ?_); rintro e w1 ⟨rfl, bb⟩)
        rw [hM1]
        have HW1 := Lib.hid (on_of HW0.out bb)
        clear bb ca0
        have ca1 : w1.cell? ⟨g, k * 11 + 1, none⟩ = some (.int .i64 (M1 : Int)) := HS.out w1 HW1.out 1 _ rfl
        have ca2 : w1.cell? ⟨g, k * 11 + 2, none⟩ = some (.int .i64 (M2 : Int)) := HS.out w1 HW1.out 2 _ rfl
        have ca3 : w1.cell? ⟨g, k * 11 + 3, none⟩ = some (.int .i64 (M3 : Int)) := HS.out w1 HW1.out 3 _ rfl
        have ca4 : w1.cell? ⟨g, k * 11 + 4, none⟩ = some (.int .i64 (M4 : Int)) := HS.out w1 HW1.out 4 _ rfl
        have ca5 : w1.cell? ⟨g, k * 11 + 5, none⟩ = some (.slice ya5 xs5.length yc5) := HS.out w1 HW1.out 5 _ rfl
        go_wp2_with fail
        ((with_reducible refine (held_PointS _ M5 u1 p5 s5 (HE.out.2) ((HO.out.2).under HW1.out)).mono ?_); rintro e w2 ⟨rfl, bb⟩)
        rw [hM6]
        have HW2 := Lib.hid (on_of HW1.out bb)
        clear bb ca1 ca2 ca3 ca4 ca5
        have ca6 : w2.cell? ⟨g, k * 11 + 6, none⟩ = some (.int .i64 (M6 : Int)) := HS.out w2 HW2.out 6 _ rfl
        have ca7 : w2.cell? ⟨g, k * 11 + 7, none⟩ = some (.int .i64 (M7 : Int)) := HS.out w2 HW2.out 7 _ rfl
        have ca8 : w2.cell? ⟨g, k * 11 + 8, none⟩ = some (.int .i64 (M8 : Int)) := HS.out w2 HW2.out 8 _ rfl
        have ca9 : w2.cell? ⟨g, k * 11 + 9, none⟩ = some (.int .i64 (M9 : Int)) := HS.out w2 HW2.out 9 _ rfl
        have ca10 : w2.cell? ⟨g, k * 11 + 10, none⟩ = some (.int .i64 (M10 : Int)) := HS.out w2 HW2.out 10 _ rfl
        have HWl := HW2.out
        go_wp2
        go_roundw
        case rel => exact ⟨k + 1, by omega, by go_num, by rw [HM.out], HWl⟩
        case measure => simp [intOf]; omega
      · obtain rfl : k = n := by omega
        have HY := Lib.hid (show es.take k = es by rw [← H.out.2.2, List.take_length])
        rw [HY.out]
        go_wp2
        go_ret
        exact ⟨rfl, hbel⟩
end Go.Proofs.YtnkookegoicfnaaGreat.Own

namespace Go.Proofs.YtnkookegoicfnaaGreat.Own
open Go.ChangeShapes Go.WideShapes Go.ChangeAt Go.RowKit
open Kit Slabs Ints Stack Point Turn Join Pts Box
set_option linter.unusedVariables false
set_option linter.unusedSimpArgs false
set_option linter.unnecessarySimpa false
set_option maxRecDepth 100000
attribute [local go_sem ↓] hload_Graphics hload_Object hstore_Graphics hstore_Object hload_Page hstore_Page
theorem PgFl.clip {w w' : World} {B X : Nat} {p : Pg} {a0 : Option Addr} {c0 : Nat} {f0 : List Nat} {a5 : Option Addr} {c5 : Nat} {P5 : List Value} {a11 : Option Addr} {c11 : Nat} {P11 : List Value} {f11 : List Nat} {a12 : Option Addr} {c12 : Nat} {P12 : List Value} {f12 : List Nat}
    (h : PgFl w B X p a0 c0 f0 a5 c5 P5 a11 c11 P11 f11 a12 c12 P12 f12) (hb : Below w.heap.size w w') (hB : B ≤ w.heap.size) (hX : B ≤ X) (x0 y0 x1 y1 : Int) :
    OpRes B X (some { p with now := { p.now with path := [], x0 := x0, y0 := y0, x1 := x1, y1 := y1 } }) w (.returned (.bool true)) ((w'.setCells X 7 [.int .i64 x0, .int .i64 y0, .int .i64 x1, .int .i64 y1]).setCell ⟨X, 5, none⟩ (.slice none 0 0)) := by
  have hXl := h.blk.2.2
  obtain ⟨nX, nX5, _⟩ := h.apart
  have BX := Blk.put (o := 5) (P := [_, _, _, _, _]) (Blk.sets (P := [_, _, _, _, _, _, _]) (us := [_, _, _, _]) (vs := [.int .i64 x0, .int .i64 y0, .int .i64 x1, .int .i64 y1]) (h.blk.keep hb) rfl rfl) rfl (.slice none 0 0)
  have tt : Turns w' ((w'.setCells X 7 [.int .i64 x0, .int .i64 y0, .int .i64 x1, .int .i64 y1]).setCell ⟨X, 5, none⟩ (.slice none 0 0)) (fun b => b = X) := turns_set (S := fun b => b = X) (turns_sets (S := fun b => b = X) X rfl _ _ _) rfl _ _
  generalize (w'.setCells X 7 [.int .i64 x0, .int .i64 y0, .int .i64 x1, .int .i64 y1]).setCell ⟨X, 5, none⟩ (.slice none 0 0) = V at *
  have zb := hb.size
  refine ⟨rfl, (hb.mono hB).trans (tt.below (by omega) (fun k e => e ▸ hX)), fun P' hP => ?_⟩
  injection hP with hP
  subst hP
  refine h.close (by have := tt.size; omega) (fun b hb' => ?_) (g := { p.now with path := [], x0 := x0, y0 := y0, x1 := x1, y1 := y1 }) rfl (a5' := none) (c5' := 0) BX (.nil none 0) List.nodup_nil hXl hB (fun b hb => absurd hb List.not_mem_nil)
  have lb := h.lt b hb'
  rw [tt.block b (by omega) (fun (e : b = X) => nX (e ▸ hb'))]
  exact hb.block b lb
set_option maxHeartbeats 4000000 in
theorem op_clip {w : World} {B X : Nat} {P : Pg} (h : PgAt w B X P) (hB : B ≤ w.heap.size) (hX : B ≤ X) (hl : P.now.path.length ≤ 8) (u : Value) :
    Calls Tryz.prog 127 #[.pointer (some ⟨X, 0, none⟩), u] w (OpRes B X (if P.now.path.length = 0 then none else some (cliM P)) w) := by
  obtain ⟨a0, c0, f0, a5, c5, P5, a11, c11, P11, f11, a12, c12, P12, f12, h⟩ := h.flat
  obtain ⟨n, hN⟩ : ∃ n, P.now.path.length = n := ⟨_, rfl⟩
  have k5 := h.blk.1 5 _ rfl
  rw [hN] at k5 hl ⊢
  by_cases h0 : n = 0
  · subst h0
    have HN : Hid (OpRes B X none w (.returned (.bool false)) w) := Lib.hid ⟨rfl, (Below.refl _ _).mono hB, fun P' hP => by cases hP⟩
    clear h hN
    go_enter Tryz.func127, Tryz.ntmps127
    go_wp2
    go_ret
    exact HN.out
  · rw [if_neg h0]
    obtain ⟨_, hp⟩ := path_of (row_own2 h.r5 (h.o5 w))
    have hp : ∃ g, a5 = some ⟨g, 0, none⟩ ∧ g < w.heap.size ∧ PtsAt w g n (pX P.now.path) (pY P.now.path) := by
      rcases hp with hp | ⟨g, e, hg, hp⟩
      · exact absurd (by rw [← hN, hp]; rfl) h0
      · exact ⟨g, e, hg, fun i hi => hp i (by rw [hN]; exact hi)⟩
    obtain ⟨g, rfl, hg, hp⟩ := hp
    obtain ⟨m0, hm0⟩ : ∃ x, sel (clB P.now) (mx P.now.x0 (bx0 P.now.path)) = x := ⟨_, rfl⟩
    obtain ⟨m1, hm1⟩ : ∃ x, sel (clB P.now) (mx P.now.y0 (bx1 P.now.path)) = x := ⟨_, rfl⟩
    obtain ⟨m2, hm2⟩ : ∃ x, sel (clB P.now) (mn P.now.x1 (bx2 P.now.path)) = x := ⟨_, rfl⟩
    obtain ⟨m3, hm3⟩ : ∃ x, sel (clB P.now) (mn P.now.y1 (bx3 P.now.path)) = x := ⟨_, rfl⟩
    have hM : ∀ w : World, Calls Tryz.prog 152 #[.agg #[.int .i64 P.now.x0, .int .i64 P.now.y0, .int .i64 P.now.x1, .int .i64 P.now.y1], .agg #[.int .i64 (bx0 P.now.path), .int .i64 (bx1 P.now.path), .int .i64 (bx2 P.now.path), .int .i64 (bx3 P.now.path)]] w fun e w' => e = .returned (.agg #[.int .i64 m0, .int .i64 m1, .int .i64 m2, .int .i64 m3]) ∧ Below w.heap.size w w' := fun w => by
      subst hm0 hm1 hm2 hm3
      exact meet_impl P.now.x0 P.now.y0 P.now.x1 P.now.y1 (bx0 P.now.path) (bx1 P.now.path) (bx2 P.now.path) (bx3 P.now.path) w
    have HF := Lib.hid (fun (W : World) (hb : Below w.heap.size w W) => (show OpRes B X (some (cliM P)) w (.returned (.bool true)) ((W.setCells X 7 [.int .i64 m0, .int .i64 m1, .int .i64 m2, .int .i64 m3]).setCell ⟨X, 5, none⟩ (.slice none 0 0)) from by
      have := h.clip hb hB hX m0 m1 m2 m3
      subst hm0 hm1 hm2 hm3
      exact this))
    have hBx : Calls Tryz.prog 153 #[.slice (some ⟨g, 0, none⟩) n c5] w.drew fun e w' => e = .returned (.agg #[.int .i64 (bx0 P.now.path), .int .i64 (bx1 P.now.path), .int .i64 (bx2 P.now.path), .int .i64 (bx3 P.now.path)]) ∧ Below w.heap.size w w' := by
      refine (boxof_impl g n c5 (pX P.now.path) (pY P.now.path) w.drew (by omega) (by simpa using hg) hp).mono ?_
      rintro e w' ⟨rfl, hb⟩
      refine ⟨?_, on_of (show Below w.heap.size w w.drew from by go_grown) hb⟩
      simp only [boxofV, bx0, bx1, bx2, bx3, bxB, hN]
    obtain ⟨b0, hb0⟩ : ∃ x, bx0 P.now.path = x := ⟨_, rfl⟩
    obtain ⟨b1, hb1⟩ : ∃ x, bx1 P.now.path = x := ⟨_, rfl⟩
    obtain ⟨b2, hb2⟩ : ∃ x, bx2 P.now.path = x := ⟨_, rfl⟩
    obtain ⟨b3, hb3⟩ : ∃ x, bx3 P.now.path = x := ⟨_, rfl⟩
    rw [hb0, hb1, hb2, hb3] at hBx
    simp only [hb0, hb1, hb2, hb3] at hM
    have HM := Lib.hid hM
    have HBx := Lib.hid hBx
    have n0 : ((n : Int) == 0) = false := by simp; omega
    have HK := Lib.hid (fun (W : World) (hb : Below w.heap.size w W) => (show (W.cell? ⟨X, 7, none⟩ = some (.int .i64 P.now.x0) ∧ W.cell? ⟨X, 8, none⟩ = some (.int .i64 P.now.y0) ∧ W.cell? ⟨X, 9, none⟩ = some (.int .i64 P.now.x1) ∧ W.cell? ⟨X, 10, none⟩ = some (.int .i64 P.now.y1)) ∧ W.cell? ⟨X, 5, none⟩ = some (.slice (some ⟨g, 0, none⟩) n c5) ∧ (∀ o, W.frozen? ⟨X, o, none⟩ = false) from by
      have k := h.blk.keep hb
      rw [← hN]
      exact ⟨⟨k.1 7 _ rfl, k.1 8 _ rfl, k.1 9 _ rfl, k.1 10 _ rfl⟩, k.1 5 _ rfl, k.2.1⟩))
    obtain ⟨⟨k7, k8, k9, k10⟩, _, fz⟩ := HK.out w (Below.refl _ _)
    clear h hN h0 hp hM hBx hm0 hm1 hm2 hm3 hb0 hb1 hb2 hb3
    go_enter Tryz.func127, Tryz.ntmps127
    go_upto_region 3 with (fail)
    go_region_law (first
      | (go_simp; go_at_call 153; (with_reducible refine (HBx.out).mono ?_); rintro e w5 ⟨rfl, b5⟩; have H5 := Lib.hid b5; obtain ⟨⟨j7, j8, j9, j10⟩, j5, fj⟩ := HK.out w5 b5; clear b5)
      | (go_simp; go_at_call 152; (with_reducible refine (HM.out _).mono ?_); rintro e w6 ⟨rfl, b6⟩; have b6 := on_of H5.out b6; have H6 := Lib.hid b6; obtain ⟨⟨i7, i8, i9, i10⟩, i5, fi⟩ := HK.out w6 b6; clear b6))
    all_goals
      go_wp2
      go_ret
      exact HF.out _ H6.out
end Go.Proofs.YtnkookegoicfnaaGreat.Own

