/-
  Texts of this seat, laid together: MkA, HdA, MkP, Join, Pts
-/
import Derived.WalkKit
import Derived.Deep.DeepCutAuto
import Derived.Deep.QuietTactic
import Derived.BigQuiet
import Derived.Deep.RegionHeld3
import Derived.Handy
import Derived.LoopTactic
import Derived.OwnWalk
import Derived.Test.YtaapofbccanjhaaGreatZ08
import Derived.Test.YtaapofbccanjhaaGreatZ09
import Derived.Test.YtaapofbccanjhaaGreatZ03
import Derived.Test.YtaapofbccanjhaaGreatZ01
namespace Go.Proofs.YtaapofbccanjhaaGreat.Own
open Go.ChangeShapes Go.WideShapes Go.ChangeAt Go.RowKit
open Kit Slabs Ints
set_option linter.unusedVariables false
set_option linter.unusedSimpArgs false
set_option linter.unnecessarySimpa false
set_option maxRecDepth 100000
set_option maxHeartbeats 4000000 in
theorem mark_Graphics (w : World) (N : Nat) {A : Array Value} {ds : List Dt} {fp : List Nat} (hb : bulkL ds ≤ 1048576) (h0 : 0 < N) (hN : N + cnt0L ds ≤ 1000000000) (h : OwnL w LGraphics A.toList ds fp) (hd : fp.Nodup) :
    Calls Tryz.prog 43 #[.agg A, .int .i64 (N : Int)] w fun e w' => e = .returned (.int .i64 ((N + cnt0L ds : Nat) : Int)) ∧ OwnL w' LGraphics A.toList (mk0L ds N) fp ∧ Turns w w' (fun b => b ∈ fp) := by
  obtain ⟨xa0, xc0, xa5, xc5, xs0, xx1_0, xx1_1, xx1_2, xx1_3, xs5, xx6_0, xx7_0, xx7_1, xx7_2, xx7_3, xF0, xF5, hA, rfl, rfl, ox0, ox5⟩ := inv_Graphics h
  obtain ⟨nd0, r0, x0⟩ := nodup_parts hd
  obtain ⟨nd1, r1, x1⟩ := nodup_parts r0
  have d0_1 : ∀ b ∈ xF0, b ∉ xF5 := fun b ha hb => x0 b ha (List.mem_append_left _ hb)
  have d1_0 : ∀ b ∈ xF5, b ∉ xF0 := fun b ha hb => d0_1 b hb ha
  have hc : N + cnt0L (.sl xs0 :: (.int xx1_0 :: (.int xx1_1 :: (.int xx1_2 :: (.int xx1_3 :: (.sl xs5 :: (.int xx6_0 :: (.int xx7_0 :: (.int xx7_1 :: (.int xx7_2 :: (.int xx7_3 :: ([])))))))))))) = ((N + cntL xs0) + cntL xs5) := by simp only [cnt0L_app, cnt0L, Dt.cnt0]; omega
  have hm : mk0L (.sl xs0 :: (.int xx1_0 :: (.int xx1_1 :: (.int xx1_2 :: (.int xx1_3 :: (.sl xs5 :: (.int xx6_0 :: (.int xx7_0 :: (.int xx7_1 :: (.int xx7_2 :: (.int xx7_3 :: ([])))))))))))) N = .sl (mkL xs0 N) :: (.int xx1_0 :: (.int xx1_1 :: (.int xx1_2 :: (.int xx1_3 :: (.sl (mkL xs5 (N + cntL xs0)) :: (.int xx6_0 :: (.int xx7_0 :: (.int xx7_1 :: (.int xx7_2 :: (.int xx7_3 :: ([]))))))))))) := by simp only [mk0L_app, mk0L, Dt.mk0, cnt0L_app, cnt0L, Dt.cnt0, Nat.add_zero, Nat.add_assoc]
  obtain ⟨M1, hM1⟩ : ∃ M, N + cntL xs0 = M := ⟨_, rfl⟩
  simp only [hM1] at hc hm
  obtain ⟨M2, hM2⟩ : ∃ M, M1 + cntL xs5 = M := ⟨_, rfl⟩
  simp only [hM2] at hc hm
  rw [hc] at hN ⊢
  rw [hm]
  clear hc hm
  simp only [bulkL_app, bulkL, Dt.bulk] at hb
  have BA : Blk (w.alloc (.cells A 42)) w.heap.size A.toList := Blk.new w A 42 rfl
  have hT : Turns w (w.alloc (.cells A 42)) (fun b => b ∈ xF0 ++ (xF5 ++ ([]))) := Turns.of_below (by go_grown)
  rw [hA] at BA ⊢
  have lt0 := ox0.lt
  have ne0 : ¬ (w.heap.size ∈ xF0) := fun hb => by have := lt0 _ hb; omega
  have p0 := ox0.under (w' := w.alloc (.cells A 42)) (by go_grown)
  have lt1 := ox5.lt
  have ne1 : ¬ (w.heap.size ∈ xF5) := fun hb => by have := lt1 _ hb; omega
  have p1 := ox5.under (w' := w.alloc (.cells A 42)) (by go_grown)
  have HO0 := Lib.hid (And.intro p0 p1)
  have HA0 := Lib.hid BA
  have HT0 := Lib.hid hT
  have ca0 : A[0]? = some (.slice xa0 xs0.length xc0) := by rw [← Array.getElem?_toList, hA]; rfl
  clear ox0 ox5 hA BA hT h hd p0 lt0 p1 lt1
  go_enter Tryz.func43, Tryz.ntmps43
  go_wp2_with fail
  ((with_reducible refine (mark_IntS _ N (by omega) (by omega) (by omega) (HO0.out.1) nd0).mono ?_); rintro e w1 ⟨rfl, o1, b1⟩)
  rw [hM1]
  have HO1 := Lib.hid (And.intro o1 ((HO0.out.2).turned b1 d1_0))
  have HA1 := Lib.hid (HA0.out.turned b1 ne0)
  have HT1 := Lib.hid (HT0.out.trans (b1.mono (fun _ hk => List.mem_append_left _ hk)))
  clear o1 b1 ca0
  have ca1 := HA1.out.1 1 (.int .i64 xx1_0) (by rfl)
  have ca2 := HA1.out.1 2 (.int .i64 xx1_1) (by rfl)
  have ca3 := HA1.out.1 3 (.int .i64 xx1_2) (by rfl)
  have ca4 := HA1.out.1 4 (.int .i64 xx1_3) (by rfl)
  have ca5 := HA1.out.1 5 (.slice xa5 xs5.length xc5) (by rfl)
  go_wp2_with fail
  ((with_reducible refine (mark_PointS _ M1 (by omega) (by omega) (by omega) (HO1.out.2) nd1).mono ?_); rintro e w2 ⟨rfl, o2, b2⟩)
  rw [hM2]
  have HO2 := Lib.hid (And.intro ((HO1.out.1).turned b2 d0_1) o2)
  have HA2 := Lib.hid (HA1.out.turned b2 ne1)
  have HT2 := Lib.hid (HT1.out.trans (b2.mono (fun _ hk => List.mem_append_right _ (List.mem_append_left _ hk))))
  clear o2 b2 ca1 ca2 ca3 ca4 ca5
  go_wp2
  go_ret
  exact ⟨rfl, .cons (cs := [.slice xa0 xs0.length xc0]) (fp := xF0) (HO2.out.1) (.cons (cs := [.int .i64 xx1_0]) (fp := []) (.int xx1_0) (.cons (cs := [.int .i64 xx1_1]) (fp := []) (.int xx1_1) (.cons (cs := [.int .i64 xx1_2]) (fp := []) (.int xx1_2) (.cons (cs := [.int .i64 xx1_3]) (fp := []) (.int xx1_3) (.cons (cs := [.slice xa5 xs5.length xc5]) (fp := xF5) (HO2.out.2) (.cons (cs := [.int .i64 xx6_0]) (fp := []) (.int xx6_0) (.cons (cs := [.int .i64 xx7_0]) (fp := []) (.int xx7_0) (.cons (cs := [.int .i64 xx7_1]) (fp := []) (.int xx7_1) (.cons (cs := [.int .i64 xx7_2]) (fp := []) (.int xx7_2) (.cons (cs := [.int .i64 xx7_3]) (fp := []) (.int xx7_3) (.nil))))))))))), HT2.out⟩
set_option maxHeartbeats 4000000 in
theorem held_Graphics (w : World) (N : Nat) {A : Array Value} {ds : List Dt} {cs0 : List Value} {fp fq : List Nat} {w0 : World} (hb : bulkL ds ≤ 1048576) (h0 : 0 < N) (hN : N + cnt0L ds ≤ 1000000000) (hs : OwnL w0 LGraphics cs0 ds fq) (h : OwnL w LGraphics A.toList (mk0L ds N) fp) :
    Calls Tryz.prog 46 #[.agg A, .int .i64 (N : Int)] w fun e w' => e = .returned (.int .i64 ((N + cnt0L ds : Nat) : Int)) ∧ Below w.heap.size w w' := by
  obtain ⟨xa0, xc0, xa5, xc5, xs0, xx1_0, xx1_1, xx1_2, xx1_3, xs5, xx6_0, xx7_0, xx7_1, xx7_2, xx7_3, xF0, xF5, _, rfl, _, ox0, ox5⟩ := inv_Graphics hs
  have hc : N + cnt0L (.sl xs0 :: (.int xx1_0 :: (.int xx1_1 :: (.int xx1_2 :: (.int xx1_3 :: (.sl xs5 :: (.int xx6_0 :: (.int xx7_0 :: (.int xx7_1 :: (.int xx7_2 :: (.int xx7_3 :: ([])))))))))))) = ((N + cntL xs0) + cntL xs5) := by simp only [cnt0L_app, cnt0L, Dt.cnt0]; omega
  have hm : mk0L (.sl xs0 :: (.int xx1_0 :: (.int xx1_1 :: (.int xx1_2 :: (.int xx1_3 :: (.sl xs5 :: (.int xx6_0 :: (.int xx7_0 :: (.int xx7_1 :: (.int xx7_2 :: (.int xx7_3 :: ([])))))))))))) N = .sl (mkL xs0 N) :: (.int xx1_0 :: (.int xx1_1 :: (.int xx1_2 :: (.int xx1_3 :: (.sl (mkL xs5 (N + cntL xs0)) :: (.int xx6_0 :: (.int xx7_0 :: (.int xx7_1 :: (.int xx7_2 :: (.int xx7_3 :: ([]))))))))))) := by simp only [mk0L_app, mk0L, Dt.mk0, cnt0L_app, cnt0L, Dt.cnt0, Nat.add_zero, Nat.add_assoc]
  obtain ⟨M1, hM1⟩ : ∃ M, N + cntL xs0 = M := ⟨_, rfl⟩
  simp only [hM1] at hc hm
  obtain ⟨M2, hM2⟩ : ∃ M, M1 + cntL xs5 = M := ⟨_, rfl⟩
  simp only [hM2] at hc hm
  rw [hc] at hN ⊢
  rw [hm] at h
  clear hc hm
  simp only [bulkL_app, bulkL, Dt.bulk] at hb
  obtain ⟨ya0, yc0, ya5, yc5, yF0, yF5, hA, rfl, oy0, oy5⟩ := inv_Graphics_ h
  simp only [mkL_length] at hA oy0 oy5
  have BA : Blk (w.alloc (.cells A 42)) w.heap.size A.toList := Blk.new w A 42 rfl
  have hW : Below w.heap.size w (w.alloc (.cells A 42)) := by go_grown
  rw [hA] at BA
  have HS := Lib.hid (And.intro ox0 ox5)
  have HO := Lib.hid (And.intro oy0 oy5)
  have HA0 := Lib.hid BA
  have HW0 := Lib.hid hW
  have ca0 : A[0]? = some (.slice ya0 xs0.length yc0) := by rw [← Array.getElem?_toList, hA]; rfl
  clear ox0 ox5 oy0 oy5 hA BA hW h hs
  go_enter Tryz.func46, Tryz.ntmps46
  go_wp2_with fail
  ((with_reducible refine (held_IntS _ N (by omega) (by omega) (by omega) (HS.out.1) ((HO.out.1).under HW0.out)).mono ?_); rintro e w1 ⟨rfl, b1⟩)
  rw [hM1]
  have HW1 := Lib.hid (on_of HW0.out b1)
  have HA1 := Lib.hid (HA0.out.keep b1)
  have g1 : ¬ (((M1 : Nat) : Int) < 0) := by omega
  clear b1 ca0
  have ca1 := HA1.out.1 1 (.int .i64 xx1_0) (by rfl)
  have ca2 := HA1.out.1 2 (.int .i64 xx1_1) (by rfl)
  have ca3 := HA1.out.1 3 (.int .i64 xx1_2) (by rfl)
  have ca4 := HA1.out.1 4 (.int .i64 xx1_3) (by rfl)
  have ca5 := HA1.out.1 5 (.slice ya5 xs5.length yc5) (by rfl)
  go_wp2_with fail
  ((with_reducible refine (held_PointS _ M1 (by omega) (by omega) (by omega) (HS.out.2) ((HO.out.2).under HW1.out)).mono ?_); rintro e w2 ⟨rfl, b2⟩)
  rw [hM2]
  have HW2 := Lib.hid (on_of HW1.out b2)
  have HA2 := Lib.hid (HA1.out.keep b2)
  have g2 : ¬ (((M2 : Nat) : Int) < 0) := by omega
  clear b2 ca1 ca2 ca3 ca4 ca5
  go_wp2
  go_ret
  exact ⟨rfl, HW2.out⟩
end Go.Proofs.YtaapofbccanjhaaGreat.Own
namespace Go.Proofs.YtaapofbccanjhaaGreat.Own
open Go.ChangeShapes Go.WideShapes Go.ChangeAt Go.RowKit
open Kit Slabs Ints
set_option linter.unusedVariables false
set_option linter.unusedSimpArgs false
set_option linter.unnecessarySimpa false
set_option maxRecDepth 100000
set_option maxHeartbeats 8000000 in
theorem held_ObjectS (w : World) (N : Nat) {a : Option Addr} {n c : Nat} {es : List Dt} {fp fq : List Nat} {w0 : World} {v0 : Value} (hn : es.length + bulkL es ≤ 1048576) (h0 : 0 < N) (hN : N + cntL es ≤ 1000000000) (hs : Own w0 (.sl KObject) [v0] (.sl es) fq) (h : Own w (.sl KObject) [.slice a n c] (.sl (mkL es N)) fp) :
    Calls Tryz.prog 48 #[.slice a n c, .int .i64 (N : Int)] w fun e w' => e = .returned (.int .i64 ((N + cntL es : Nat) : Int)) ∧ Below w.heap.size w w' := by
  obtain ⟨hl, hr⟩ := h.row
  rw [mkL_length] at hl
  obtain ⟨hl0, _⟩ : es.length = n ∧ True := ⟨hl, trivial⟩
  by_cases hz : n = 0
  · subst hz
    have hes : es = [] := List.eq_nil_of_length_eq_zero hl
    subst hes
    clear h hr hs
    go_enter Tryz.func48, Tryz.ntmps48
    go_wp2
    go_rounds 1
    go_ret
    exact ⟨ret_int (by simp [cntL]), Below.refl _ _⟩
  · obtain ⟨g, rfl, _⟩ := hr hz
    have H := Lib.hid (And.intro h (And.intro hs hl))
    have hn1 : n ≤ 1048576 := by omega
    have HB := Lib.hid (And.intro hn hN)
    clear h hs hr hl hl0 hn hN
    go_enter Tryz.func48, Tryz.ntmps48
    go_wp2
    go_loopw [1, 5] (fun v1 i wr => ∃ k : Nat, k ≤ n ∧ i = .int .i64 (k : Int) ∧ v1 = .int .i64 ((N + cntL (es.take k) : Nat) : Int) ∧ Below w.heap.size w wr) (fun _ i _ => n - (intOf i).toNat)
    case atStart => exact ⟨0, Nat.zero_le _, rfl, by simp [cntL], Below.refl _ _⟩
    case round =>
      obtain ⟨k, hk, rfl, rfl, hbel⟩ := hrel
      by_cases hlt : k < n
      · have hke : k < es.length := by rw [H.out.2.2]; exact hlt
        have hkm : k < (mkL es N).length := by rw [mkL_length]; exact hke
        obtain ⟨hg, _, cs, ds, q, ed, od, ld, _, sd⟩ := H.out.1.elt hkm
        rw [mk_elt hke] at ed
        obtain ⟨v0a, v0n, v0c, hv0⟩ : ∃ a n c, v0 = .slice a n c := by cases H.out.2.1 <;> exact ⟨_, _, _, rfl⟩
        have hs1 := H.out.2.1
        rw [hv0] at hs1
        obtain ⟨e0, r0⟩ := hs1.row
        obtain ⟨g0, rfl, _⟩ := r0 (by omega)
        obtain ⟨_, _, cs0, ds0, q0, ed0, od0, _, _, _⟩ := hs1.elt hke
        have htk := take_cnt hke
        have hpart := cnt_parts es (k + 1)
        have hbk := bulk_elt hke
        rw [ed0] at ed htk hbk
        simp only [Dt.mk] at ed
        injection ed with ed
        subst ed
        obtain ⟨xa0, xc0, xs0, xx1_0, xx2_0, xx2_1, xx2_2, xx2_3, xF0, _, rfl, rfl, ox0⟩ := inv_Object od0
        obtain ⟨M0, hM0⟩ : ∃ M, N + cntL (es.take k) = M := ⟨_, rfl⟩
        rw [hM0] at od ⊢
        obtain ⟨M1, hM1⟩ : ∃ M, M0 + cntL xs0 = M := ⟨_, rfl⟩
        obtain ⟨M2, hM2⟩ : ∃ M, M1 + 1 = M := ⟨_, rfl⟩
        obtain ⟨M3, hM3⟩ : ∃ M, M2 + 1 = M := ⟨_, rfl⟩
        obtain ⟨M4, hM4⟩ : ∃ M, M3 + 1 = M := ⟨_, rfl⟩
        obtain ⟨M5, hM5⟩ : ∃ M, M4 + 1 = M := ⟨_, rfl⟩
        obtain ⟨M6, hM6⟩ : ∃ M, M5 + 1 = M := ⟨_, rfl⟩
        have hmk : mkL (.sl xs0 :: (.int xx1_0 :: (.int xx2_0 :: (.int xx2_1 :: (.int xx2_2 :: (.int xx2_3 :: ([]))))))) M0 = .sl (mkL xs0 M0) :: (.int ((M1 : Nat) : Int) :: (.int ((M2 : Nat) : Int) :: (.int ((M3 : Nat) : Int) :: (.int ((M4 : Nat) : Int) :: (.int ((M5 : Nat) : Int) :: ([])))))) := by simp only [mkL, Dt.mk, Dt.cnt, hM1, hM2, hM3, hM4, hM5, hM6]
        rw [hmk] at od
        have hM : N + cntL (es.take (k + 1)) = M6 := by rw [htk, ← Nat.add_assoc, hM0]; simp only [Dt.cnt, cntL]; omega
        simp only [Dt.bulk, bulkL] at hbk
        have hMb : M6 ≤ 1000000000 := by have := HB.out.2; omega
        have hMp : 0 < M0 := by omega
        obtain ⟨ya0, yc0, yF0, rfl, rfl, oy0⟩ := inv_Object_ od
        simp only [mkL_length] at sd oy0
        have HBK := Lib.hid hbk
        have u0 : xs0.length + bulkL xs0 ≤ 1048576 := by have := HB.out.1; omega
        have HS := Lib.hid sd
        have HE := Lib.hid (ox0)
        have HO := Lib.hid (oy0)
        have HM := Lib.hid hM
        have b0 : M0 ≤ 1000000000 := by omega
        have p0 : 0 < M0 := by omega
        have g1 : ¬ ((M1 : Int) < 0) := by omega
        have s0 : M0 + cntL xs0 ≤ 1000000000 := by omega
        have e2 : (M1 : Int) + 1 = (M2 : Int) := by omega
        have b1 : M1 ≤ 1000000000 := by omega
        have e3 : (M2 : Int) + 1 = (M3 : Int) := by omega
        have b2 : M2 ≤ 1000000000 := by omega
        have e4 : (M3 : Int) + 1 = (M4 : Int) := by omega
        have b3 : M3 ≤ 1000000000 := by omega
        have e5 : (M4 : Int) + 1 = (M5 : Int) := by omega
        have b4 : M4 ≤ 1000000000 := by omega
        have e6 : (M5 : Int) + 1 = (M6 : Int) := by omega
        have b5 : M5 ≤ 1000000000 := by omega
        have i0 : (0 : Int) ≤ (k : Int) := by omega
        have i1 : (k : Int) < (n : Int) := by omega
        clear od od0 hs1 r0 e0 htk hpart hmk hM hM0 hbk sd hke hkm ed0 ox0 oy0
        have HW0 := Lib.hid hbel
        have ca0 : wr.cell? ⟨g, k * 6, none⟩ = some (.slice ya0 xs0.length yc0) := HS.out wr HW0.out 0 _ rfl
        go_wp2_with fail
        ((with_reducible refine (held_PointS _ M0 u0 p0 s0 (HE.out) ((HO.out).under HW0.out)).mono ?_); rintro e w1 ⟨rfl, bb⟩)
        rw [hM1]
        have HW1 := Lib.hid (on_of HW0.out bb)
        clear bb ca0
        have ca1 : w1.cell? ⟨g, k * 6 + 1, none⟩ = some (.int .i64 (M1 : Int)) := HS.out w1 HW1.out 1 _ rfl
        have ca2 : w1.cell? ⟨g, k * 6 + 2, none⟩ = some (.int .i64 (M2 : Int)) := HS.out w1 HW1.out 2 _ rfl
        have ca3 : w1.cell? ⟨g, k * 6 + 3, none⟩ = some (.int .i64 (M3 : Int)) := HS.out w1 HW1.out 3 _ rfl
        have ca4 : w1.cell? ⟨g, k * 6 + 4, none⟩ = some (.int .i64 (M4 : Int)) := HS.out w1 HW1.out 4 _ rfl
        have ca5 : w1.cell? ⟨g, k * 6 + 5, none⟩ = some (.int .i64 (M5 : Int)) := HS.out w1 HW1.out 5 _ rfl
        have HWl := HW1.out
        go_wp2
        go_roundw
        case rel => exact ⟨k + 1, by omega, by go_num, by rw [HM.out], HWl⟩
        case measure => simp [intOf]; omega
      · obtain rfl : k = n := by omega
        have HY := Lib.hid (show es.take k = es by rw [← H.out.2.2, List.take_length])
        rw [HY.out]
        go_wp2
        go_ret
        exact ⟨rfl, hbel⟩
set_option maxHeartbeats 8000000 in
theorem held_GraphicsS (w : World) (N : Nat) {a : Option Addr} {n c : Nat} {es : List Dt} {fp fq : List Nat} {w0 : World} {v0 : Value} (hn : es.length + bulkL es ≤ 1048576) (h0 : 0 < N) (hN : N + cntL es ≤ 1000000000) (hs : Own w0 (.sl KGraphics) [v0] (.sl es) fq) (h : Own w (.sl KGraphics) [.slice a n c] (.sl (mkL es N)) fp) :
    Calls Tryz.prog 47 #[.slice a n c, .int .i64 (N : Int)] w fun e w' => e = .returned (.int .i64 ((N + cntL es : Nat) : Int)) ∧ Below w.heap.size w w' := by
  obtain ⟨hl, hr⟩ := h.row
  rw [mkL_length] at hl
  obtain ⟨hl0, _⟩ : es.length = n ∧ True := ⟨hl, trivial⟩
  by_cases hz : n = 0
  · subst hz
    have hes : es = [] := List.eq_nil_of_length_eq_zero hl
    subst hes
    clear h hr hs
    go_enter Tryz.func47, Tryz.ntmps47
    go_wp2
    go_rounds 1
    go_ret
    exact ⟨ret_int (by simp [cntL]), Below.refl _ _⟩
  · obtain ⟨g, rfl, _⟩ := hr hz
    have H := Lib.hid (And.intro h (And.intro hs hl))
    have hn1 : n ≤ 1048576 := by omega
    have HB := Lib.hid (And.intro hn hN)
    clear h hs hr hl hl0 hn hN
    go_enter Tryz.func47, Tryz.ntmps47
    go_wp2
    go_loopw [1, 5] (fun v1 i wr => ∃ k : Nat, k ≤ n ∧ i = .int .i64 (k : Int) ∧ v1 = .int .i64 ((N + cntL (es.take k) : Nat) : Int) ∧ Below w.heap.size w wr) (fun _ i _ => n - (intOf i).toNat)
    case atStart => exact ⟨0, Nat.zero_le _, rfl, by simp [cntL], Below.refl _ _⟩
    case round =>
      obtain ⟨k, hk, rfl, rfl, hbel⟩ := hrel
      by_cases hlt : k < n
      · have hke : k < es.length := by rw [H.out.2.2]; exact hlt
        have hkm : k < (mkL es N).length := by rw [mkL_length]; exact hke
        obtain ⟨hg, _, cs, ds, q, ed, od, ld, _, sd⟩ := H.out.1.elt hkm
        rw [mk_elt hke] at ed
        obtain ⟨v0a, v0n, v0c, hv0⟩ : ∃ a n c, v0 = .slice a n c := by cases H.out.2.1 <;> exact ⟨_, _, _, rfl⟩
        have hs1 := H.out.2.1
        rw [hv0] at hs1
        obtain ⟨e0, r0⟩ := hs1.row
        obtain ⟨g0, rfl, _⟩ := r0 (by omega)
        obtain ⟨_, _, cs0, ds0, q0, ed0, od0, _, _, _⟩ := hs1.elt hke
        have htk := take_cnt hke
        have hpart := cnt_parts es (k + 1)
        have hbk := bulk_elt hke
        rw [ed0] at ed htk hbk
        simp only [Dt.mk] at ed
        injection ed with ed
        subst ed
        obtain ⟨xa0, xc0, xa5, xc5, xs0, xx1_0, xx1_1, xx1_2, xx1_3, xs5, xx6_0, xx7_0, xx7_1, xx7_2, xx7_3, xF0, xF5, _, rfl, rfl, ox0, ox5⟩ := inv_Graphics od0
        obtain ⟨M0, hM0⟩ : ∃ M, N + cntL (es.take k) = M := ⟨_, rfl⟩
        rw [hM0] at od ⊢
        obtain ⟨M1, hM1⟩ : ∃ M, M0 + cntL xs0 = M := ⟨_, rfl⟩
        obtain ⟨M2, hM2⟩ : ∃ M, M1 + 1 = M := ⟨_, rfl⟩
        obtain ⟨M3, hM3⟩ : ∃ M, M2 + 1 = M := ⟨_, rfl⟩
        obtain ⟨M4, hM4⟩ : ∃ M, M3 + 1 = M := ⟨_, rfl⟩
        obtain ⟨M5, hM5⟩ : ∃ M, M4 + 1 = M := ⟨_, rfl⟩
        obtain ⟨M6, hM6⟩ : ∃ M, M5 + cntL xs5 = M := ⟨_, rfl⟩
        obtain ⟨M7, hM7⟩ : ∃ M, M6 + 1 = M := ⟨_, rfl⟩
        obtain ⟨M8, hM8⟩ : ∃ M, M7 + 1 = M := ⟨_, rfl⟩
        obtain ⟨M9, hM9⟩ : ∃ M, M8 + 1 = M := ⟨_, rfl⟩
        obtain ⟨M10, hM10⟩ : ∃ M, M9 + 1 = M := ⟨_, rfl⟩
        obtain ⟨M11, hM11⟩ : ∃ M, M10 + 1 = M := ⟨_, rfl⟩
        have hmk : mkL (.sl xs0 :: (.int xx1_0 :: (.int xx1_1 :: (.int xx1_2 :: (.int xx1_3 :: (.sl xs5 :: (.int xx6_0 :: (.int xx7_0 :: (.int xx7_1 :: (.int xx7_2 :: (.int xx7_3 :: ([])))))))))))) M0 = .sl (mkL xs0 M0) :: (.int ((M1 : Nat) : Int) :: (.int ((M2 : Nat) : Int) :: (.int ((M3 : Nat) : Int) :: (.int ((M4 : Nat) : Int) :: (.sl (mkL xs5 M5) :: (.int ((M6 : Nat) : Int) :: (.int ((M7 : Nat) : Int) :: (.int ((M8 : Nat) : Int) :: (.int ((M9 : Nat) : Int) :: (.int ((M10 : Nat) : Int) :: ([]))))))))))) := by simp only [mkL, Dt.mk, Dt.cnt, hM1, hM2, hM3, hM4, hM5, hM6, hM7, hM8, hM9, hM10, hM11]
        rw [hmk] at od
        have hM : N + cntL (es.take (k + 1)) = M11 := by rw [htk, ← Nat.add_assoc, hM0]; simp only [Dt.cnt, cntL]; omega
        simp only [Dt.bulk, bulkL] at hbk
        have hMb : M11 ≤ 1000000000 := by have := HB.out.2; omega
        have hMp : 0 < M0 := by omega
        obtain ⟨ya0, yc0, ya5, yc5, yF0, yF5, rfl, rfl, oy0, oy5⟩ := inv_Graphics_ od
        simp only [mkL_length] at sd oy0 oy5
        have HBK := Lib.hid hbk
        have u0 : xs0.length + bulkL xs0 ≤ 1048576 := by have := HB.out.1; omega
        have u1 : xs5.length + bulkL xs5 ≤ 1048576 := by have := HB.out.1; omega
        have HS := Lib.hid sd
        have HE := Lib.hid (And.intro ox0 ox5)
        have HO := Lib.hid (And.intro oy0 oy5)
        have HM := Lib.hid hM
        have b0 : M0 ≤ 1000000000 := by omega
        have p0 : 0 < M0 := by omega
        have g1 : ¬ ((M1 : Int) < 0) := by omega
        have s0 : M0 + cntL xs0 ≤ 1000000000 := by omega
        have e2 : (M1 : Int) + 1 = (M2 : Int) := by omega
        have b1 : M1 ≤ 1000000000 := by omega
        have e3 : (M2 : Int) + 1 = (M3 : Int) := by omega
        have b2 : M2 ≤ 1000000000 := by omega
        have e4 : (M3 : Int) + 1 = (M4 : Int) := by omega
        have b3 : M3 ≤ 1000000000 := by omega
        have e5 : (M4 : Int) + 1 = (M5 : Int) := by omega
        have b4 : M4 ≤ 1000000000 := by omega
        have b5 : M5 ≤ 1000000000 := by omega
        have p5 : 0 < M5 := by omega
        have g6 : ¬ ((M6 : Int) < 0) := by omega
        have s5 : M5 + cntL xs5 ≤ 1000000000 := by omega
        have e7 : (M6 : Int) + 1 = (M7 : Int) := by omega
        have b6 : M6 ≤ 1000000000 := by omega
        have e8 : (M7 : Int) + 1 = (M8 : Int) := by omega
        have b7 : M7 ≤ 1000000000 := by omega
        have e9 : (M8 : Int) + 1 = (M9 : Int) := by omega
        have b8 : M8 ≤ 1000000000 := by omega
        have e10 : (M9 : Int) + 1 = (M10 : Int) := by omega
        have b9 : M9 ≤ 1000000000 := by omega
        have e11 : (M10 : Int) + 1 = (M11 : Int) := by omega
        have b10 : M10 ≤ 1000000000 := by omega
        have i0 : (0 : Int) ≤ (k : Int) := by omega
        have i1 : (k : Int) < (n : Int) := by omega
        clear od od0 hs1 r0 e0 htk hpart hmk hM hM0 hbk sd hke hkm ed0 ox0 ox5 oy0 oy5
        have HW0 := Lib.hid hbel
        have ca0 : wr.cell? ⟨g, k * 11, none⟩ = some (.slice ya0 xs0.length yc0) := HS.out wr HW0.out 0 _ rfl
        go_wp2_with fail
        ((with_reducible refine (held_IntS _ M0 u0 p0 s0 (HE.out.1) ((HO.out.1).under HW0.out)).mono ?_); rintro e w1 ⟨rfl, bb⟩)
        rw [hM1]
        have HW1 := Lib.hid (on_of HW0.out bb)
        clear bb ca0
        have ca1 : w1.cell? ⟨g, k * 11 + 1, none⟩ = some (.int .i64 (M1 : Int)) := HS.out w1 HW1.out 1 _ rfl
        have ca2 : w1.cell? ⟨g, k * 11 + 2, none⟩ = some (.int .i64 (M2 : Int)) := HS.out w1 HW1.out 2 _ rfl
        have ca3 : w1.cell? ⟨g, k * 11 + 3, none⟩ = some (.int .i64 (M3 : Int)) := HS.out w1 HW1.out 3 _ rfl
        have ca4 : w1.cell? ⟨g, k * 11 + 4, none⟩ = some (.int .i64 (M4 : Int)) := HS.out w1 HW1.out 4 _ rfl
        have ca5 : w1.cell? ⟨g, k * 11 + 5, none⟩ = some (.slice ya5 xs5.length yc5) := HS.out w1 HW1.out 5 _ rfl
        go_wp2_with fail
        ((with_reducible refine (held_PointS _ M5 u1 p5 s5 (HE.out.2) ((HO.out.2).under HW1.out)).mono ?_); rintro e w2 ⟨rfl, bb⟩)
        rw [hM6]
        have HW2 := Lib.hid (on_of HW1.out bb)
        clear bb ca1 ca2 ca3 ca4 ca5
        have ca6 : w2.cell? ⟨g, k * 11 + 6, none⟩ = some (.int .i64 (M6 : Int)) := HS.out w2 HW2.out 6 _ rfl
        have ca7 : w2.cell? ⟨g, k * 11 + 7, none⟩ = some (.int .i64 (M7 : Int)) := HS.out w2 HW2.out 7 _ rfl
        have ca8 : w2.cell? ⟨g, k * 11 + 8, none⟩ = some (.int .i64 (M8 : Int)) := HS.out w2 HW2.out 8 _ rfl
        have ca9 : w2.cell? ⟨g, k * 11 + 9, none⟩ = some (.int .i64 (M9 : Int)) := HS.out w2 HW2.out 9 _ rfl
        have ca10 : w2.cell? ⟨g, k * 11 + 10, none⟩ = some (.int .i64 (M10 : Int)) := HS.out w2 HW2.out 10 _ rfl
        have HWl := HW2.out
        go_wp2
        go_roundw
        case rel => exact ⟨k + 1, by omega, by go_num, by rw [HM.out], HWl⟩
        case measure => simp [intOf]; omega
      · obtain rfl : k = n := by omega
        have HY := Lib.hid (show es.take k = es by rw [← H.out.2.2, List.take_length])
        rw [HY.out]
        go_wp2
        go_ret
        exact ⟨rfl, hbel⟩
end Go.Proofs.YtaapofbccanjhaaGreat.Own
namespace Go.Proofs.YtaapofbccanjhaaGreat.Own
open Go.ChangeShapes Go.WideShapes Go.ChangeAt Go.RowKit
open Kit Slabs Ints
set_option linter.unusedVariables false
set_option linter.unusedSimpArgs false
set_option linter.unnecessarySimpa false
set_option maxRecDepth 100000
attribute [local go_sem ↓] hload_Graphics
set_option maxHeartbeats 4000000 in
theorem mark_Page (w : World) (N : Nat) {A : Array Value} {ds : List Dt} {fp : List Nat} (hb : bulkL ds ≤ 1048576) (h0 : 0 < N) (hN : N + cnt0L ds ≤ 1000000000) (h : OwnL w LPage A.toList ds fp) (hd : fp.Nodup) :
    Calls Tryz.prog 12 #[.agg A, .int .i64 (N : Int)] w fun e w' => e = .returned (.int .i64 ((N + cnt0L ds : Nat) : Int)) ∧ OwnL w' LPage A.toList (mk0L ds N) fp ∧ Turns w w' (fun b => b ∈ fp) := by
  obtain ⟨xG0, xa11, xc11, xa12, xc12, xD0, xs11, xs12, xF0, xF11, xF12, hA, rfl, rfl, ox0, ox11, ox12⟩ := inv_Page h
  have nxG0 : xG0.length = 11 := ox0.len
  obtain ⟨nd0, r0, x0⟩ := nodup_parts hd
  obtain ⟨nd1, r1, x1⟩ := nodup_parts r0
  obtain ⟨nd2, r2, x2⟩ := nodup_parts r1
  have d0_1 : ∀ b ∈ xF0, b ∉ xF11 := fun b ha hb => x0 b ha (List.mem_append_left _ hb)
  have d1_0 : ∀ b ∈ xF11, b ∉ xF0 := fun b ha hb => d0_1 b hb ha
  have d0_2 : ∀ b ∈ xF0, b ∉ xF12 := fun b ha hb => x0 b ha (List.mem_append_right _ (List.mem_append_left _ hb))
  have d2_0 : ∀ b ∈ xF12, b ∉ xF0 := fun b ha hb => d0_2 b hb ha
  have d1_2 : ∀ b ∈ xF11, b ∉ xF12 := fun b ha hb => x1 b ha (List.mem_append_left _ hb)
  have d2_1 : ∀ b ∈ xF12, b ∉ xF11 := fun b ha hb => d1_2 b hb ha
  have hc : N + cnt0L (xD0 ++ (.sl xs11 :: (.sl xs12 :: ([])))) = (((N + cnt0L xD0) + cntL xs11) + cntL xs12) := by simp only [cnt0L_app, cnt0L, Dt.cnt0]; omega
  have hm : mk0L (xD0 ++ (.sl xs11 :: (.sl xs12 :: ([])))) N = mk0L xD0 N ++ (.sl (mkL xs11 (N + cnt0L xD0)) :: (.sl (mkL xs12 ((N + cnt0L xD0) + cntL xs11)) :: ([]))) := by simp only [mk0L_app, mk0L, Dt.mk0, cnt0L_app, cnt0L, Dt.cnt0, Nat.add_zero, Nat.add_assoc]
  obtain ⟨M1, hM1⟩ : ∃ M, N + cnt0L xD0 = M := ⟨_, rfl⟩
  simp only [hM1] at hc hm
  obtain ⟨M2, hM2⟩ : ∃ M, M1 + cntL xs11 = M := ⟨_, rfl⟩
  simp only [hM2] at hc hm
  obtain ⟨M3, hM3⟩ : ∃ M, M2 + cntL xs12 = M := ⟨_, rfl⟩
  simp only [hM3] at hc hm
  rw [hc] at hN ⊢
  rw [hm]
  clear hc hm
  simp only [bulkL_app, bulkL, Dt.bulk] at hb
  have BA : Blk (w.alloc (.cells A 46)) w.heap.size A.toList := Blk.new w A 46 rfl
  have hT : Turns w (w.alloc (.cells A 46)) (fun b => b ∈ xF0 ++ (xF11 ++ (xF12 ++ ([])))) := Turns.of_below (by go_grown)
  rw [hA] at BA ⊢
  have lt0 := ox0.lt
  have ne0 : ¬ (w.heap.size ∈ xF0) := fun hb => by have := lt0 _ hb; omega
  have p0 := ox0.under (w' := w.alloc (.cells A 46)) (by go_grown)
  have lt1 := ox11.lt
  have ne1 : ¬ (w.heap.size ∈ xF11) := fun hb => by have := lt1 _ hb; omega
  have p1 := ox11.under (w' := w.alloc (.cells A 46)) (by go_grown)
  have lt2 := ox12.lt
  have ne2 : ¬ (w.heap.size ∈ xF12) := fun hb => by have := lt2 _ hb; omega
  have p2 := ox12.under (w' := w.alloc (.cells A 46)) (by go_grown)
  have HO0 := Lib.hid (And.intro p0 (And.intro p1 p2))
  have HA0 := Lib.hid BA
  have HT0 := Lib.hid hT
  have ra := hload_run (P := Tryz.prog) (t := 42) Tryz.isAgg42 Tryz.sizeOf42 (w := w.alloc (.cells A 46)) (b := w.heap.size) (o := 0) (us := xG0) (Blk.part (P := []) HA0.out rfl) nxG0
  clear ox0 ox11 ox12 hA BA hT h hd p0 lt0 p1 lt1 p2 lt2
  go_enter Tryz.func12, Tryz.ntmps12
  go_wp2_with fail
  ((with_reducible refine (mark_Graphics _ N (ds := xD0) (by omega) (by omega) (by omega) (by simpa using HO0.out.1) nd0).mono ?_); rintro e w1 ⟨rfl, o1, b1⟩)
  rw [hM1]
  simp only [List.toList_toArray] at o1
  have HO1 := Lib.hid (And.intro o1 (And.intro ((HO0.out.2.1).turned b1 d1_0) ((HO0.out.2.2).turned b1 d2_0)))
  have HA1 := Lib.hid (HA0.out.turned b1 ne0)
  have HT1 := Lib.hid (HT0.out.trans (b1.mono (fun _ hk => List.mem_append_left _ hk)))
  clear o1 b1  ra
  have ca11 := HA1.out.1 11 (.slice xa11 xs11.length xc11) (by simp [nxG0])
  go_wp2_with fail
  ((with_reducible refine (mark_GraphicsS _ M1 (by omega) (by omega) (by omega) (HO1.out.2.1) nd1).mono ?_); rintro e w2 ⟨rfl, o2, b2⟩)
  rw [hM2]
  have HO2 := Lib.hid (And.intro ((HO1.out.1).turned b2 d0_1) (And.intro o2 ((HO1.out.2.2).turned b2 d2_1)))
  have HA2 := Lib.hid (HA1.out.turned b2 ne1)
  have HT2 := Lib.hid (HT1.out.trans (b2.mono (fun _ hk => List.mem_append_right _ (List.mem_append_left _ hk))))
  clear o2 b2 ca11
  have ca12 := HA2.out.1 12 (.slice xa12 xs12.length xc12) (by simp [nxG0])
  go_wp2_with fail
  ((with_reducible refine (mark_ObjectS _ M2 (by omega) (by omega) (by omega) (HO2.out.2.2) nd2).mono ?_); rintro e w3 ⟨rfl, o3, b3⟩)
  rw [hM3]
  have HO3 := Lib.hid (And.intro ((HO2.out.1).turned b3 d0_2) (And.intro ((HO2.out.2.1).turned b3 d1_2) o3))
  have HA3 := Lib.hid (HA2.out.turned b3 ne2)
  have HT3 := Lib.hid (HT2.out.trans (b3.mono (fun _ hk => List.mem_append_right _ (List.mem_append_right _ (List.mem_append_left _ hk)))))
  clear o3 b3 ca12
  go_wp2
  go_ret
  exact ⟨rfl, OwnL.app (.cons (cs := [.slice xa11 xs11.length xc11]) (fp := xF11) (HO3.out.2.1) (.cons (cs := [.slice xa12 xs12.length xc12]) (fp := xF12) (HO3.out.2.2) (.nil))) (HO3.out.1), HT3.out⟩
set_option maxHeartbeats 4000000 in
theorem held_Page (w : World) (N : Nat) {A : Array Value} {ds : List Dt} {cs0 : List Value} {fp fq : List Nat} {w0 : World} (hb : bulkL ds ≤ 1048576) (h0 : 0 < N) (hN : N + cnt0L ds ≤ 1000000000) (hs : OwnL w0 LPage cs0 ds fq) (h : OwnL w LPage A.toList (mk0L ds N) fp) :
    Calls Tryz.prog 13 #[.agg A, .int .i64 (N : Int)] w fun e w' => e = .returned (.int .i64 ((N + cnt0L ds : Nat) : Int)) ∧ Below w.heap.size w w' := by
  obtain ⟨xG0, xa11, xc11, xa12, xc12, xD0, xs11, xs12, xF0, xF11, xF12, _, rfl, _, ox0, ox11, ox12⟩ := inv_Page hs
  have lxD0 := ox0.dlen
  have hc : N + cnt0L (xD0 ++ (.sl xs11 :: (.sl xs12 :: ([])))) = (((N + cnt0L xD0) + cntL xs11) + cntL xs12) := by simp only [cnt0L_app, cnt0L, Dt.cnt0]; omega
  have hm : mk0L (xD0 ++ (.sl xs11 :: (.sl xs12 :: ([])))) N = mk0L xD0 N ++ (.sl (mkL xs11 (N + cnt0L xD0)) :: (.sl (mkL xs12 ((N + cnt0L xD0) + cntL xs11)) :: ([]))) := by simp only [mk0L_app, mk0L, Dt.mk0, cnt0L_app, cnt0L, Dt.cnt0, Nat.add_zero, Nat.add_assoc]
  obtain ⟨M1, hM1⟩ : ∃ M, N + cnt0L xD0 = M := ⟨_, rfl⟩
  simp only [hM1] at hc hm
  obtain ⟨M2, hM2⟩ : ∃ M, M1 + cntL xs11 = M := ⟨_, rfl⟩
  simp only [hM2] at hc hm
  obtain ⟨M3, hM3⟩ : ∃ M, M2 + cntL xs12 = M := ⟨_, rfl⟩
  simp only [hM3] at hc hm
  rw [hc] at hN ⊢
  rw [hm] at h
  clear hc hm
  simp only [bulkL_app, bulkL, Dt.bulk] at hb
  obtain ⟨yG0, ya11, yc11, ya12, yc12, yF0, yF11, yF12, hA, rfl, oy0, oy11, oy12⟩ := inv_Page_ (by rw [mk0L_length, lxD0]) h
  simp only [mkL_length] at hA oy11 oy12
  have nyG0 : yG0.length = 11 := oy0.len
  have BA : Blk (w.alloc (.cells A 46)) w.heap.size A.toList := Blk.new w A 46 rfl
  have hW : Below w.heap.size w (w.alloc (.cells A 46)) := by go_grown
  rw [hA] at BA
  have HS := Lib.hid (And.intro ox0 (And.intro ox11 ox12))
  have HO := Lib.hid (And.intro oy0 (And.intro oy11 oy12))
  have HA0 := Lib.hid BA
  have HW0 := Lib.hid hW
  have ra := hload_run (P := Tryz.prog) (t := 42) Tryz.isAgg42 Tryz.sizeOf42 (w := w.alloc (.cells A 46)) (b := w.heap.size) (o := 0) (us := yG0) (Blk.part (P := []) HA0.out rfl) nyG0
  clear ox0 ox11 ox12 oy0 oy11 oy12 hA BA hW h hs
  go_enter Tryz.func13, Tryz.ntmps13
  go_wp2_with fail
  ((with_reducible refine (held_Graphics _ N (ds := xD0) (by omega) (by omega) (by omega) (HS.out.1) (by simpa using (HO.out.1).under HW0.out)).mono ?_); rintro e w1 ⟨rfl, b1⟩)
  rw [hM1]
  have HW1 := Lib.hid (on_of HW0.out b1)
  have HA1 := Lib.hid (HA0.out.keep b1)
  have g1 : ¬ (((M1 : Nat) : Int) < 0) := by omega
  clear b1  ra
  have ca11 := HA1.out.1 11 (.slice ya11 xs11.length yc11) (by simp [nyG0])
  go_wp2_with fail
  ((with_reducible refine (held_GraphicsS _ M1 (by omega) (by omega) (by omega) (HS.out.2.1) ((HO.out.2.1).under HW1.out)).mono ?_); rintro e w2 ⟨rfl, b2⟩)
  rw [hM2]
  have HW2 := Lib.hid (on_of HW1.out b2)
  have HA2 := Lib.hid (HA1.out.keep b2)
  have g2 : ¬ (((M2 : Nat) : Int) < 0) := by omega
  clear b2 ca11
  have ca12 := HA2.out.1 12 (.slice ya12 xs12.length yc12) (by simp [nyG0])
  go_wp2_with fail
  ((with_reducible refine (held_ObjectS _ M2 (by omega) (by omega) (by omega) (HS.out.2.2) ((HO.out.2.2).under HW2.out)).mono ?_); rintro e w3 ⟨rfl, b3⟩)
  rw [hM3]
  have HW3 := Lib.hid (on_of HW2.out b3)
  have HA3 := Lib.hid (HA2.out.keep b3)
  have g3 : ¬ (((M3 : Nat) : Int) < 0) := by omega
  clear b3 ca12
  go_wp2
  go_ret
  exact ⟨rfl, HW3.out⟩
end Go.Proofs.YtaapofbccanjhaaGreat.Own
namespace Go.Proofs.YtaapofbccanjhaaGreat.Join
open Go.ChangeShapes Go.WideShapes Go.ChangeAt Go.RowKit
open Kit Point Turn Apply
set_option linter.unusedVariables false
set_option linter.unusedSimpArgs false
set_option linter.unnecessarySimpa false
def jq (q r : Int) : Int := if q + r < 4 then q + r else q + r - 4
theorem jq_mod {q r : Int} (h : 0 ≤ q ∧ q ≤ 3) (k : 0 ≤ r ∧ r ≤ 3) : (q + r).tmod 4 = jq q r := by
  unfold jq; rw [Int.tmod_eq_emod_of_nonneg (by omega)]; split <;> omega
theorem jq_in {q r : Int} (h : 0 ≤ q ∧ q ≤ 3) (k : 0 ≤ r ∧ r ≤ 3) : 0 ≤ jq q r ∧ jq q r ≤ 3 := by unfold jq; split <;> omega
theorem im_zero (q s dx dy : Int) : imX q s dx 0 0 = dx ∧ imY q s dy 0 0 = dy := by
  simp [imX, imY, rotX, rotY]
theorem mul16 {s t : Int} (h : 1 ≤ s ∧ s ≤ 4) (k : 1 ≤ t ∧ t ≤ 4) : 1 ≤ s * t ∧ s * t ≤ 16 := by
  have : s = 1 ∨ s = 2 ∨ s = 3 ∨ s = 4 := by omega
  rcases this with rfl | rfl | rfl | rfl <;> omega
structure Pair (w0 w : World) (q s dx dy r t ex ey : Int) : Prop where
  a : Four w w0.heap.size q s dx dy
  b : Four w (w0.heap.size + 1) r t ex ey
  r : Four w (w0.heap.size + 1 + 1) 0 0 0 0
  g : Below w0.heap.size w0 w
theorem Pair.start (w : World) (q s dx dy r t ex ey : Int) (T : TypeId) : Pair w (((w.alloc (.cells #[.int .i64 q, .int .i64 s, .int .i64 dx, .int .i64 dy] T)).alloc (.cells #[.int .i64 r, .int .i64 t, .int .i64 ex, .int .i64 ey] T)).alloc (.cells #[.int .i64 0, .int .i64 0, .int .i64 0, .int .i64 0] T)) q s dx dy r t ex ey := by
  refine ⟨((Four.new w T q s dx dy).alloc _).alloc _, ?_, ?_, by go_grown⟩
  · have := (Four.new (w.alloc (.cells #[.int .i64 q, .int .i64 s, .int .i64 dx, .int .i64 dy] T)) T r t ex ey).alloc (.cells #[.int .i64 0, .int .i64 0, .int .i64 0, .int .i64 0] T)
    simpa using this
  · have := Four.new ((w.alloc (.cells #[.int .i64 q, .int .i64 s, .int .i64 dx, .int .i64 dy] T)).alloc (.cells #[.int .i64 r, .int .i64 t, .int .i64 ex, .int .i64 ey] T)) T 0 0 0 0
    simpa using this
theorem Pair.on {w0 w w' : World} {q s dx dy r t ex ey : Int} (h : Pair w0 w q s dx dy r t ex ey) (hb : Below w.heap.size w w') : Pair w0 w' q s dx dy r t ex ey :=
  ⟨h.a.keep hb h.a.lt, h.b.keep hb h.b.lt, h.r.keep hb h.r.lt, on_of h.g hb⟩
theorem image_impl_to (q s dx dy x y a b : Int) (w : World) (ht : tokB q s dx dy = true) (hx : -200 ≤ x ∧ x ≤ 200) (hy : -200 ≤ y ∧ y ≤ 200) (ha : imX q s dx x y = a) (hb : imY q s dy x y = b) :
    Calls Tryz.prog 160 #[.agg #[.int .i64 q, .int .i64 s, .int .i64 dx, .int .i64 dy], .agg #[.int .i64 x, .int .i64 y]] w fun e w' => e = .returned (.agg #[.int .i64 a, .int .i64 b]) ∧ Below w.heap.size w w' := by
  rw [← ha, ← hb]; exact image_impl q s dx dy x y w ht hx hy
theorem image_zero (q s dx dy : Int) (w : World) (ht : tokB q s dx dy = true) :
    Calls Tryz.prog 160 #[.agg #[.int .i64 q, .int .i64 s, .int .i64 dx, .int .i64 dy], .agg #[.int .i64 0, .int .i64 0]] w fun e w' => e = .returned (.agg #[.int .i64 dx, .int .i64 dy]) ∧ Below w.heap.size w w' :=
  image_impl_to q s dx dy 0 0 dx dy w ht (by omega) (by omega) (im_zero q s dx dy).1 (im_zero q s dx dy).2
set_option maxHeartbeats 2000000 in
theorem then_impl (q s dx dy r t ex ey a b Q S : Int) (w : World) (h1 : tokB q s dx dy = true) (h2 : tokB r t ex ey = true) (ha : imX r t ex dx dy = a) (hb : imY r t ey dx dy = b) (hQ : jq q r = Q) (hS : s * t = S) :
    Calls Tryz.prog 162 #[.agg #[.int .i64 q, .int .i64 s, .int .i64 dx, .int .i64 dy], .agg #[.int .i64 r, .int .i64 t, .int .i64 ex, .int .i64 ey]] w fun e w' => e = .returned (.agg #[.int .i64 Q, .int .i64 S, .int .i64 a, .int .i64 b]) ∧ Below w.heap.size w w' := by
  have F0 := Pair.start w q s dx dy r t ex ey 38
  have t1 := tok_true h1
  have t2 := tok_true h2
  have m1 := mul16 t1.2.1 t2.2.1
  have m2 := jq_mod t1.1 t2.1
  have HI := Lib.hid (And.intro ha hb)
  rw [hS] at m1
  rw [hQ] at m2
  clear ha hb
  go_enter Tryz.func162, Tryz.ntmps162
  go_upto_region 2 with fail
  go_wp2_with fail
  refine gen_world (fun W => Pair w W q s dx dy r t ex ey ∧ Four W (w.heap.size + 1 + 1 + 1) Q S 0 0) ⟨F0.on ((Below.refl _ _).alloc (Nat.le_refl _) _), Four.newAt _ 38 Q S 0 0 (by simp)⟩ ?_
  clear F0
  rintro W ⟨FW, FS⟩
  have hw := FW.g
  have hl : w.heap.size + 1 + 1 + 1 < W.heap.size := FS.lt
  have hl2 : w.heap.size + 1 + 1 < W.heap.size := by omega
  have hl1 : w.heap.size + 1 < W.heap.size := by omega
  have hl0 : w.heap.size < W.heap.size := by omega
  have hne0 : w.heap.size ≠ w.heap.size + 1 + 1 := by omega
  have hne1 : w.heap.size + 1 ≠ w.heap.size + 1 + 1 := by omega
  obtain ⟨a0, a1, a2, a3, a4⟩ := Four.lay FW.a
  obtain ⟨b0, b1, b2, b3, b4⟩ := Four.lay FW.b
  obtain ⟨c0, c1, c2, c3, c4⟩ := Four.lay FW.r
  obtain ⟨d0, d1, d2, d3, d4⟩ := Four.lay FS
  clear FW FS
  go_cut [4] (fun s4 wx => s4 = .pointer (some ⟨w.heap.size + 1 + 1, 0, none⟩) ∧ wx.cell? ⟨w.heap.size + 1 + 1, 0, none⟩ = some (.int .i64 Q) ∧ wx.cell? ⟨w.heap.size + 1 + 1, 1, none⟩ = some (.int .i64 S) ∧ wx.cell? ⟨w.heap.size + 1 + 1, 2, none⟩ = some (.int .i64 a) ∧ wx.cell? ⟨w.heap.size + 1 + 1, 3, none⟩ = some (.int .i64 b) ∧ Below w.heap.size w wx)
  case first =>
    go_region_held3 (fun w' => (∀ b o, b < W.heap.size → b ≠ w.heap.size + 1 + 1 → w'.cell? ⟨b, o, none⟩ = W.cell? ⟨b, o, none⟩) ∧ Below w.heap.size w w') (first | (refine keepR _ ?_ hw; go_grown; done) | (refine keepR4 ?_ hw (by omega) _ _ _ _; go_grown; done)) (first | (go_at_call 160; (first | (with_reducible refine (image_zero _ _ _ _ _ h1).mono ?_) | (with_reducible refine (image_impl_to _ _ _ _ _ _ _ _ _ h2 t1.2.2.1 t1.2.2.2 HI.out.1 HI.out.2).mono ?_)); rintro e w' ⟨rfl, hb⟩; have hB := on_of (W := W) (by go_grown) hb; obtain ⟨hc, hf, hz⟩ := bcell3 hB; have hs := hB.size; clear hb) | (go_at_call 164; (with_reducible refine (at_impl _ _ _ _ _ _ _).mono ?_); rintro e w' ⟨rfl, hb⟩; have hB := on_of (W := W) (by go_grown) hb; obtain ⟨hc, hf, hz⟩ := bcell3 hB; have hs := hB.size; clear hb))
    all_goals
      go_wp2_with fail
      go_meet
      have FR : Four w' (w.heap.size + 1 + 1) 0 0 0 0 := ⟨(hc _ _ hl2).trans c0, (hc _ _ hl2).trans c1, (hc _ _ hl2).trans c2, (hc _ _ hl2).trans c3, fun o => (hf _ o hl2).trans (c4 o)⟩
      have FN := FR.set Q S a b
      exact ⟨rfl, FN.c0, FN.c1, FN.c2, FN.c3, (keepR4 hB hw (by omega) _ _ _ _).2⟩
  case rest =>
    obtain ⟨rfl, k0, k1, k2, k3, hk⟩ := hcut
    go_wp2_with fail
    refine bodyPost_ret (by simp [results, Tryz.results162, go_sem, *]; try rfl) rfl ?_
    exact ⟨rfl, hk⟩
def jnB (q s dx dy r t ex ey : Int) : Bool := tokB q s dx dy && tokB r t ex ey && tokB (jq q r) (s * t) (imX r t ex dx dy) (imY r t ey dx dy)
def jnV (q s dx dy r t ex ey : Int) : Value :=
  .tuple #[.agg #[.int .i64 (sel (jnB q s dx dy r t ex ey) (jq q r)), .int .i64 (sel (jnB q s dx dy r t ex ey) (s * t)), .int .i64 (sel (jnB q s dx dy r t ex ey) (imX r t ex dx dy)), .int .i64 (sel (jnB q s dx dy r t ex ey) (imY r t ey dx dy))], .bool (jnB q s dx dy r t ex ey)]
theorem jn_no {q s dx dy r t ex ey : Int} (h : jnB q s dx dy r t ex ey = false) : Ending.returned (.tuple #[.agg #[.int .i64 0, .int .i64 0, .int .i64 0, .int .i64 0], .bool false]) = .returned (jnV q s dx dy r t ex ey) := by
  simp [jnV, h, sel]
theorem jn_no3 {q s dx dy r t ex ey a b Q S : Int} (ha : imX r t ex dx dy = a) (hb : imY r t ey dx dy = b) (hQ : jq q r = Q) (hS : s * t = S) (h3 : tokB Q S a b = false) : Ending.returned (.tuple #[.agg #[.int .i64 0, .int .i64 0, .int .i64 0, .int .i64 0], .bool false]) = .returned (jnV q s dx dy r t ex ey) :=
  jn_no (by simp only [jnB, ha, hb, hQ, hS, h3, Bool.and_false])
theorem jn_yes {q s dx dy r t ex ey a b Q S : Int} (h1 : tokB q s dx dy = true) (h2 : tokB r t ex ey = true) (ha : imX r t ex dx dy = a) (hb : imY r t ey dx dy = b) (hQ : jq q r = Q) (hS : s * t = S) (h3 : tokB Q S a b = true) : Ending.returned (.tuple #[.agg #[.int .i64 Q, .int .i64 S, .int .i64 a, .int .i64 b], .bool true]) = .returned (jnV q s dx dy r t ex ey) := by
  have : jnB q s dx dy r t ex ey = true := by simp only [jnB, h1, h2, ha, hb, hQ, hS, h3, Bool.and_self]
  simp [jnV, this, sel, ha, hb, hQ, hS]
set_option maxHeartbeats 2000000 in
theorem join_impl (q s dx dy r t ex ey : Int) (w : World) :
    Calls Tryz.prog 154 #[.agg #[.int .i64 q, .int .i64 s, .int .i64 dx, .int .i64 dy], .agg #[.int .i64 r, .int .i64 t, .int .i64 ex, .int .i64 ey]] w fun e w' => e = .returned (jnV q s dx dy r t ex ey) ∧ Below w.heap.size w w' := by
  have F0 := Lib.hid (Pair.start w q s dx dy r t ex ey 38)
  cases h1 : tokB q s dx dy
  · go_enter Tryz.func154, Tryz.ntmps154
    go_wp2_with fail
    (refine (turn_impl _ _ _ _ _).mono ?_; rintro e w1 ⟨rfl, hb1⟩)
    have F1 := F0.out.on hb1
    obtain ⟨a0, a1, a2, a3, a4⟩ := Four.lay F1.a
    obtain ⟨b0, b1, b2, b3, b4⟩ := Four.lay F1.b
    obtain ⟨c0, c1, c2, c3, c4⟩ := Four.lay F1.r
    have hB := F1.g
    clear F1 hb1
    go_wp2_with fail
    refine bodyPost_ret (by simp [results, Tryz.results154, go_sem, *]; try rfl) rfl ?_
    exact ⟨jn_no (by simp [jnB, h1]), by go_grown⟩
  · cases h2 : tokB r t ex ey
    · go_enter Tryz.func154, Tryz.ntmps154
      go_wp2_with fail
      (refine (turn_impl _ _ _ _ _).mono ?_; rintro e w1 ⟨rfl, hb1⟩)
      have F1 := F0.out.on hb1
      have G1 := Lib.hid F1
      obtain ⟨a0, a1, a2, a3, a4⟩ := Four.lay F1.a
      obtain ⟨b0, b1, b2, b3, b4⟩ := Four.lay F1.b
      clear F1 hb1
      go_wp2_with fail
      (refine (turn_impl _ _ _ _ _).mono ?_; rintro e w2 ⟨rfl, hb2⟩)
      have F2 := G1.out.on hb2
      obtain ⟨a0, a1, a2, a3, a4⟩ := Four.lay F2.a
      obtain ⟨b0, b1, b2, b3, b4⟩ := Four.lay F2.b
      obtain ⟨c0, c1, c2, c3, c4⟩ := Four.lay F2.r
      have hB := F2.g
      clear F2 hb2
      go_wp2_with fail
      refine bodyPost_ret (by simp [results, Tryz.results154, go_sem, *]; try rfl) rfl ?_
      exact ⟨jn_no (by simp [jnB, h2]), by go_grown⟩
    · obtain ⟨a, ha⟩ : ∃ a, imX r t ex dx dy = a := ⟨_, rfl⟩
      obtain ⟨b, hb⟩ : ∃ b, imY r t ey dx dy = b := ⟨_, rfl⟩
      obtain ⟨Q, hQ⟩ : ∃ Q, jq q r = Q := ⟨_, rfl⟩
      obtain ⟨S, hS⟩ : ∃ S, s * t = S := ⟨_, rfl⟩
      have HI := Lib.hid (And.intro (And.intro ha hb) (And.intro hQ hS))
      clear ha hb hQ hS
      cases h3 : tokB Q S a b
      all_goals
        go_enter Tryz.func154, Tryz.ntmps154
        go_wp2_with fail
        (refine (turn_impl _ _ _ _ _).mono ?_; rintro e w1 ⟨rfl, hb1⟩)
        have F1 := F0.out.on hb1
        have G1 := Lib.hid F1
        obtain ⟨a0, a1, a2, a3, a4⟩ := Four.lay F1.a
        obtain ⟨b0, b1, b2, b3, b4⟩ := Four.lay F1.b
        clear F1 hb1
        go_wp2_with fail
        (refine (turn_impl _ _ _ _ _).mono ?_; rintro e w2 ⟨rfl, hb2⟩)
        have F2 := G1.out.on hb2
        have G2 := Lib.hid F2
        obtain ⟨a0, a1, a2, a3, a4⟩ := Four.lay F2.a
        obtain ⟨b0, b1, b2, b3, b4⟩ := Four.lay F2.b
        clear F2 hb2
        go_wp2_with fail
        (refine (then_impl _ _ _ _ _ _ _ _ _ _ _ _ _ h1 h2 HI.out.1.1 HI.out.1.2 HI.out.2.1 HI.out.2.2).mono ?_; rintro e w3 ⟨rfl, hb3⟩)
        have F3 := (G2.out.on hb3).on ((Below.refl _ _).alloc (Nat.le_refl _) (.cells #[.int .i64 Q, .int .i64 S, .int .i64 a, .int .i64 b] 38))
        have P3 := Four.new w3 38 Q S a b
        have G3 := Lib.hid (And.intro F3 P3)
        have hs3 := hb3.size
        clear F3 P3 hb3
        go_wp2_with fail
        (refine (turn_impl _ _ _ _ _).mono ?_; rintro e w4 ⟨rfl, hb4⟩)
        have F4 := G3.out.1.on hb4
        have P4 := G3.out.2.keep hb4 G3.out.2.lt
        obtain ⟨c0, c1, c2, c3, c4⟩ := Four.lay F4.r
        obtain ⟨p0, p1, p2, p3, p4⟩ := Four.lay P4
        have hB := F4.g
        clear F4 P4 hb4
        go_wp2_with fail
        refine bodyPost_ret (by simp [results, Tryz.results154, go_sem, *]; try rfl) rfl ?_
      · exact ⟨jn_no3 HI.out.1.1 HI.out.1.2 HI.out.2.1 HI.out.2.2 h3, by go_grown⟩
      · exact ⟨jn_yes h1 h2 HI.out.1.1 HI.out.1.2 HI.out.2.1 HI.out.2.2 h3, by go_grown⟩
theorem image_spec_to (q s dx dy x y a b : Int) (w : World) (ht : tokB q s dx dy = true) (hx : -200 ≤ x ∧ x ≤ 200) (hy : -200 ≤ y ∧ y ≤ 200) (ha : imX q s dx x y = a) (hb : imY q s dy x y = b) :
    Calls Tryz.prog 66 #[.agg #[.int .i64 q, .int .i64 s, .int .i64 dx, .int .i64 dy], .agg #[.int .i64 x, .int .i64 y]] w fun e w' => e = .returned (.agg #[.int .i64 a, .int .i64 b]) ∧ Below w.heap.size w w' := by
  rw [← ha, ← hb]; exact image_spec q s dx dy x y w ht hx hy
set_option maxHeartbeats 2000000 in
theorem join_spec (q s dx dy r t ex ey : Int) (w : World) :
    Calls Tryz.prog 70 #[.agg #[.int .i64 q, .int .i64 s, .int .i64 dx, .int .i64 dy], .agg #[.int .i64 r, .int .i64 t, .int .i64 ex, .int .i64 ey]] w fun e w' => e = .returned (jnV q s dx dy r t ex ey) ∧ Below w.heap.size w w' := by
  have F0 := Lib.hid (Pair.start w q s dx dy r t ex ey 38)
  cases h1 : tokB q s dx dy
  · go_enter Tryz.func70, Tryz.ntmps70
    go_wp2_with fail
    (refine (turn_spec _ _ _ _ _).mono ?_; rintro e w1 ⟨rfl, hb1⟩)
    have F1 := F0.out.on hb1
    obtain ⟨a0, a1, a2, a3, a4⟩ := Four.lay F1.a
    obtain ⟨b0, b1, b2, b3, b4⟩ := Four.lay F1.b
    obtain ⟨c0, c1, c2, c3, c4⟩ := Four.lay F1.r
    have hB := F1.g
    clear F1 hb1
    go_wp2_with fail
    refine bodyPost_ret (by simp [results, Tryz.results70, go_sem, *]; try rfl) rfl ?_
    exact ⟨jn_no (by simp [jnB, h1]), by go_grown⟩
  · cases h2 : tokB r t ex ey
    · go_enter Tryz.func70, Tryz.ntmps70
      go_wp2_with fail
      (refine (turn_spec _ _ _ _ _).mono ?_; rintro e w1 ⟨rfl, hb1⟩)
      have F1 := F0.out.on hb1
      have G1 := Lib.hid F1
      obtain ⟨a0, a1, a2, a3, a4⟩ := Four.lay F1.a
      obtain ⟨b0, b1, b2, b3, b4⟩ := Four.lay F1.b
      clear F1 hb1
      go_wp2_with fail
      (refine (turn_spec _ _ _ _ _).mono ?_; rintro e w2 ⟨rfl, hb2⟩)
      have F2 := G1.out.on hb2
      obtain ⟨a0, a1, a2, a3, a4⟩ := Four.lay F2.a
      obtain ⟨b0, b1, b2, b3, b4⟩ := Four.lay F2.b
      obtain ⟨c0, c1, c2, c3, c4⟩ := Four.lay F2.r
      have hB := F2.g
      clear F2 hb2
      go_wp2_with fail
      refine bodyPost_ret (by simp [results, Tryz.results70, go_sem, *]; try rfl) rfl ?_
      exact ⟨jn_no (by simp [jnB, h2]), by go_grown⟩
    · obtain ⟨a, ha⟩ : ∃ a, imX r t ex dx dy = a := ⟨_, rfl⟩
      obtain ⟨b, hb⟩ : ∃ b, imY r t ey dx dy = b := ⟨_, rfl⟩
      obtain ⟨Q, hQ⟩ : ∃ Q, jq q r = Q := ⟨_, rfl⟩
      obtain ⟨S, hS⟩ : ∃ S, s * t = S := ⟨_, rfl⟩
      have HI := Lib.hid (And.intro (And.intro ha hb) (And.intro hQ hS))
      clear ha hb hQ hS
      cases h3 : tokB Q S a b
      all_goals
        have t1 := tok_true h1
        have t2 := tok_true h2
        have m1 := mul16 t1.2.1 t2.2.1
        have m2 := jq_mod t1.1 t2.1
        rw [HI.out.2.2] at m1
        rw [HI.out.2.1] at m2
        have hS := HI.out.2.2
        have T1 := Lib.hid t1
        go_enter Tryz.func70, Tryz.ntmps70
        go_wp2_with fail
        (refine (turn_spec _ _ _ _ _).mono ?_; rintro e w1 ⟨rfl, hb1⟩)
        have F1 := F0.out.on hb1
        have G1 := Lib.hid F1
        obtain ⟨a0, a1, a2, a3, a4⟩ := Four.lay F1.a
        obtain ⟨b0, b1, b2, b3, b4⟩ := Four.lay F1.b
        clear F1 hb1
        go_wp2_with fail
        (refine (turn_spec _ _ _ _ _).mono ?_; rintro e w2 ⟨rfl, hb2⟩)
        have F2 := G1.out.on hb2
        have G2 := Lib.hid F2
        obtain ⟨a0, a1, a2, a3, a4⟩ := Four.lay F2.a
        obtain ⟨b0, b1, b2, b3, b4⟩ := Four.lay F2.b
        clear F2 hb2
        go_wp2_with fail
        (refine (image_spec_to _ _ _ _ _ _ _ _ _ h2 T1.out.2.2.1 T1.out.2.2.2 HI.out.1.1 HI.out.1.2).mono ?_; rintro e w3 ⟨rfl, hb3⟩)
        have F3 := (G2.out.on hb3).on ((Below.refl _ _).alloc (Nat.le_refl _) (.cells #[.int .i64 a, .int .i64 b] 109))
        have P3 := Two.new w3 109 a b
        have G3 := Lib.hid (And.intro (F3.on ((Below.refl _ _).alloc (Nat.le_refl _) (.cells #[.int .i64 Q, .int .i64 S, .int .i64 a, .int .i64 b] 38))) (Four.newAt (b := w3.heap.size + 1) (w3.alloc (.cells #[.int .i64 a, .int .i64 b] 109)) 38 Q S a b (by simp)))
        obtain ⟨a0, a1, a2, a3, a4⟩ := Four.lay (G2.out.on hb3).a
        obtain ⟨b0, b1, b2, b3, b4⟩ := Four.lay (G2.out.on hb3).b
        have l0 := (G2.out.on hb3).a.lt
        have l1 := (G2.out.on hb3).b.lt
        clear F3 P3 hb3
        go_wp2_with fail
        (refine (turn_spec _ _ _ _ _).mono ?_; rintro e w4 ⟨rfl, hb4⟩)
        have F4 := G3.out.1.on hb4
        have P4 := G3.out.2.keep hb4 G3.out.2.lt
        obtain ⟨c0, c1, c2, c3, c4⟩ := Four.lay F4.r
        obtain ⟨p0, p1, p2, p3, p4⟩ := Four.lay P4
        have hB := F4.g
        clear F4 P4 hb4
        go_wp2_with fail
        refine bodyPost_ret (by simp [results, Tryz.results70, go_sem, *]; try rfl) rfl ?_
      · exact ⟨jn_no3 HI.out.1.1 HI.out.1.2 HI.out.2.1 HI.out.2.2 h3, by go_grown⟩
      · exact ⟨jn_yes h1 h2 HI.out.1.1 HI.out.1.2 HI.out.2.1 HI.out.2.2 h3, by go_grown⟩
end Go.Proofs.YtaapofbccanjhaaGreat.Join
namespace Go.Proofs.YtaapofbccanjhaaGreat.Pts
open Go.ChangeShapes Go.WideShapes Go.ChangeAt Go.RowKit
open Kit Point
set_option linter.unusedVariables false
set_option linter.unusedSimpArgs false
set_option linter.unnecessarySimpa false
attribute [local go_sem ↓] run_mx run_mn
def PtsAt (w : World) (g n : Nat) (X Y : Nat → Int) : Prop := ∀ i, i < n → w.cell? ⟨g, i * 2, none⟩ = some (.int .i64 (X i)) ∧ w.cell? ⟨g, i * 2 + 1, none⟩ = some (.int .i64 (Y i))
def acc (f : Int → Int → Int) (X : Nat → Int) : Nat → Int
  | 0 => X 0
  | k + 1 => f (acc f X k) (X k)
def okB (X Y : Nat → Int) : Nat → Bool
  | 0 => true
  | k + 1 => okB X Y k && pokB (X k) (Y k)
theorem okB_bad {X Y : Nat → Int} {k n : Nat} (hk : k < n) (h : pokB (X k) (Y k) = false) : okB X Y n = false := by
  induction n with
  | zero => omega
  | succ m ih =>
    by_cases e : k = m
    · subst e; simp [okB, h]
    · simp [okB, ih (by omega)]
theorem okB_good {X Y : Nat → Int} {n : Nat} (h : ∀ i, i < n → pokB (X i) (Y i) = true) : okB X Y n = true := by
  induction n with
  | zero => rfl
  | succ m ih => simp [okB, ih (fun i hi => h i (by omega)), h m (by omega)]
def boxofV (X Y : Nat → Int) (n : Nat) : Value :=
  .agg #[.int .i64 (sel (decide (0 < n) && okB X Y n) (acc mn X n)), .int .i64 (sel (decide (0 < n) && okB X Y n) (acc mn Y n)), .int .i64 (sel (decide (0 < n) && okB X Y n) (acc mx X n)), .int .i64 (sel (decide (0 < n) && okB X Y n) (acc mx Y n))]
theorem boxof_zero (X Y : Nat → Int) : Ending.returned (.agg #[.int .i64 0, .int .i64 0, .int .i64 0, .int .i64 0]) = .returned (boxofV X Y 0) := by simp [boxofV, sel]
theorem boxof_bad {X Y : Nat → Int} {k n : Nat} (hk : k < n) (h : pokB (X k) (Y k) = false) : Ending.returned (.agg #[.int .i64 0, .int .i64 0, .int .i64 0, .int .i64 0]) = .returned (boxofV X Y n) := by simp [boxofV, sel, okB_bad hk h]
theorem boxof_good {X Y : Nat → Int} {n : Nat} (h0 : 0 < n) (h : ∀ i, i < n → pokB (X i) (Y i) = true) : Ending.returned (.agg #[.int .i64 (acc mn X n), .int .i64 (acc mn Y n), .int .i64 (acc mx X n), .int .i64 (acc mx Y n)]) = .returned (boxofV X Y n) := by simp [boxofV, sel, okB_good h, h0]
set_option maxHeartbeats 2000000 in
theorem boxof_impl (g n c : Nat) (X Y : Nat → Int) (w : World) (hn : n ≤ 1048576) (hg : g < w.heap.size) (hp : PtsAt w g n X Y) :
    Calls Tryz.prog 152 #[.slice (some ⟨g, 0, none⟩) n c] w fun e w' => e = .returned (boxofV X Y n) ∧ Below w.heap.size w w' := by
  by_cases h0 : n = 0
  · subst h0
    go_enter Tryz.func152, Tryz.ntmps152
    go_wp2
    go_returns
    exact ⟨boxof_zero X Y, by go_grown⟩
  · have hp0 := hp 0 (by omega)
    simp only [Nat.zero_mul, Nat.zero_add] at hp0
    obtain ⟨e0, e1⟩ := hp0
    have HP := Lib.hid hp
    clear hp
    have hn0 : (0 : Int) < (n : Int) := by omega
    have hn9 : ((n : Int) == 0) = false := by simp; omega
    go_enter Tryz.func152, Tryz.ntmps152
    go_wp2
    go_loopw [25] (fun v25 wr => ∃ k : Nat, k ≤ n ∧ v25 = .int .i64 (k : Int) ∧ (∀ i, i < k → pokB (X i) (Y i) = true) ∧ Four wr w.heap.size 0 0 0 0 ∧ Four wr (w.heap.size + 1 + 1) (acc mn X k) (acc mn Y k) (acc mx X k) (acc mx Y k) ∧ w.heap.size + 1 + 1 < wr.heap.size ∧ Below w.heap.size w wr) (fun v25 _ => n - (intOf v25).toNat)
    case atStart => exact ⟨0, Nat.zero_le _, rfl, fun i hi => by omega, ⟨by simp [go_sem], by simp [go_sem], by simp [go_sem], by simp [go_sem], fun o => by simp [go_sem]⟩, ⟨by simp [go_sem, acc], by simp [go_sem, acc], by simp [go_sem, acc], by simp [go_sem, acc], fun o => by simp [go_sem]⟩, by simp, by go_grown⟩
    case round =>
      obtain ⟨k, hk, rfl, hok, F0, F1, hsz, hbel⟩ := hrel
      have HO := Lib.hid hok
      clear hok
      have hs0 : w.heap.size < wr.heap.size := by omega
      by_cases hlt : k < n
      · have hpk := HP.out k hlt
        have q0 : wr.cell? ⟨g, k * 2, none⟩ = some (.int .i64 (X k)) := by rw [hbel.cell (p := ⟨g, k * 2, none⟩) hg]; exact hpk.1
        have q1 : wr.cell? ⟨g, k * 2 + 1, none⟩ = some (.int .i64 (Y k)) := by rw [hbel.cell (p := ⟨g, k * 2 + 1, none⟩) hg]; exact hpk.2
        clear hpk
        have i0 : (0 : Int) ≤ (k : Int) := by omega
        have i1 : (k : Int) < (n : Int) := by omega
        cases hpk : pokB (X k) (Y k)
        · go_wp2_with (go_at_call 141; (with_reducible refine (pok_impl _ _ _).mono ?_); rintro e w' ⟨rfl, hb⟩; have hB := on_of (W := w) (by go_grown) hb; obtain ⟨r0, r1, r2, r3, rf⟩ := Four.keep (Four.alloc F0 _) hb (by simp; omega); obtain ⟨b0, b1, b2, b3, bf⟩ := Four.keep (Four.alloc F1 _) hb (by simp; omega); have p0 := (bcell hb).1 wr.heap.size 0 (by simp); have p1 := (bcell hb).1 wr.heap.size 1 (by simp); simp only [World.cell?_alloc_new] at p0 p1; have hsw := hb.size; simp at hsw; clear hb)
          refine bodyPost_ret (by simp [results, Tryz.results152, go_sem, *]; try rfl) rfl ?_
          exact ⟨boxof_bad hlt hpk, by go_grown⟩
        · go_wp2_with (go_at_call 141; (with_reducible refine (pok_impl _ _ _).mono ?_); rintro e w' ⟨rfl, hb⟩; have hB := on_of (W := w) (by go_grown) hb; obtain ⟨r0, r1, r2, r3, rf⟩ := Four.keep (Four.alloc F0 _) hb (by simp; omega); obtain ⟨b0, b1, b2, b3, bf⟩ := Four.keep (Four.alloc F1 _) hb (by simp; omega); have p0 := (bcell hb).1 wr.heap.size 0 (by simp); have p1 := (bcell hb).1 wr.heap.size 1 (by simp); simp only [World.cell?_alloc_new] at p0 p1; have hsw := hb.size; simp at hsw; clear hb)
          have G0 : Four w' w.heap.size 0 0 0 0 := ⟨r0, r1, r2, r3, rf⟩
          have G1 : Four w' (w.heap.size + 1 + 1) (acc mn X k) (acc mn Y k) (acc mx X k) (acc mx Y k) := ⟨b0, b1, b2, b3, bf⟩
          go_roundw
          case rel =>
            refine ⟨k + 1, by omega, by go_num, fun i hi => ?_, Four.other (Four.other (Four.other (Four.other G0 (by omega) _ _) (by omega) _ _) (by omega) _ _) (by omega) _ _, Four.set G1 _ _ _ _, by simp; omega, by go_grown⟩
            by_cases e : i = k
            · subst e; exact hpk
            · exact HO.out i (by omega)
          case measure => simp [intOf]; omega
      · obtain rfl : k = n := by omega
        obtain ⟨r0, r1, r2, r3, rf⟩ := F0
        obtain ⟨b0, b1, b2, b3, bf⟩ := F1
        go_wp2
        refine bodyPost_ret (by simp [results, Tryz.results152, go_sem, *]; try rfl) rfl ?_
        exact ⟨boxof_good (by omega) HO.out, by go_grown⟩
set_option maxHeartbeats 2000000 in
theorem boxof_spec (g n c : Nat) (X Y : Nat → Int) (w : World) (hn : n ≤ 1048576) (hg : g < w.heap.size) (hp : PtsAt w g n X Y) :
    Calls Tryz.prog 68 #[.slice (some ⟨g, 0, none⟩) n c] w fun e w' => e = .returned (boxofV X Y n) ∧ Below w.heap.size w w' := by
  have HP := Lib.hid hp
  clear hp
  go_enter Tryz.func68, Tryz.ntmps68
  go_wp2
  go_loopw [4] (fun v4 wr => ∃ k : Nat, k ≤ n ∧ v4 = .int .i64 (k : Int) ∧ (∀ i, i < k → pokB (X i) (Y i) = true) ∧ Four wr w.heap.size 0 0 0 0 ∧ Four wr (w.heap.size + 1) (sel (decide (0 < k)) (acc mn X k)) (sel (decide (0 < k)) (acc mn Y k)) (sel (decide (0 < k)) (acc mx X k)) (sel (decide (0 < k)) (acc mx Y k)) ∧ w.heap.size + 1 < wr.heap.size ∧ Below w.heap.size w wr) (fun v4 _ => n - (intOf v4).toNat)
  case atStart => exact ⟨0, Nat.zero_le _, rfl, fun i hi => by omega, ⟨by simp [go_sem], by simp [go_sem], by simp [go_sem], by simp [go_sem], fun o => by simp [go_sem]⟩, ⟨by simp [go_sem, sel], by simp [go_sem, sel], by simp [go_sem, sel], by simp [go_sem, sel], fun o => by simp [go_sem]⟩, by simp, by go_grown⟩
  case round =>
    obtain ⟨k, hk, rfl, hok, F0, F1, hsz, hbel⟩ := hrel
    have HO := Lib.hid hok
    clear hok
    have hs0 : w.heap.size < wr.heap.size := by omega
    by_cases hlt : k < n
    · have hpk := HP.out k hlt
      have q0 : wr.cell? ⟨g, k * 2, none⟩ = some (.int .i64 (X k)) := by rw [hbel.cell (p := ⟨g, k * 2, none⟩) hg]; exact hpk.1
      have q1 : wr.cell? ⟨g, k * 2 + 1, none⟩ = some (.int .i64 (Y k)) := by rw [hbel.cell (p := ⟨g, k * 2 + 1, none⟩) hg]; exact hpk.2
      clear hpk
      have i0 : (0 : Int) ≤ (k : Int) := by omega
      have i1 : (k : Int) < (n : Int) := by omega
      have hok1 : pokB (X k) (Y k) = true → ∀ i, i < k + 1 → pokB (X i) (Y i) = true := fun h i hi => by
        by_cases e : i = k
        · subst e; exact h
        · exact HO.out i (by omega)
      have HO1 := Lib.hid hok1
      clear hok1
      cases hpk : pokB (X k) (Y k)
      · go_wp2_with (go_at_call 110; (with_reducible refine (pok_spec _ _ _).mono ?_); rintro e w' ⟨rfl, hb⟩; have hB := on_of (W := w) (by go_grown) hb; obtain ⟨r0, r1, r2, r3, rf⟩ := Four.keep (Four.alloc F0 _) hb (by simp; omega); obtain ⟨b0, b1, b2, b3, bf⟩ := Four.keep (Four.alloc F1 _) hb (by simp; omega); have p0 := (bcell hb).1 wr.heap.size 0 (by simp); have p1 := (bcell hb).1 wr.heap.size 1 (by simp); simp only [World.cell?_alloc_new] at p0 p1; have hsw := hb.size; simp at hsw; clear hb)
        refine bodyPost_ret (by simp [results, Tryz.results68, go_sem, *]; try rfl) rfl ?_
        exact ⟨boxof_bad hlt hpk, by go_grown⟩
      · by_cases hk0 : k = 0
        · subst hk0
          have hk9 : (((0 : Nat) : Int) == 0) = true := by simp
          go_wp2_with (go_at_call 110; (with_reducible refine (pok_spec _ _ _).mono ?_); rintro e w' ⟨rfl, hb⟩; have hB := on_of (W := w) (by go_grown) hb; obtain ⟨r0, r1, r2, r3, rf⟩ := Four.keep (Four.alloc F0 _) hb (by simp; omega); obtain ⟨b0, b1, b2, b3, bf⟩ := Four.keep (Four.alloc F1 _) hb (by simp; omega); have p0 := (bcell hb).1 wr.heap.size 0 (by simp); have p1 := (bcell hb).1 wr.heap.size 1 (by simp); simp only [World.cell?_alloc_new] at p0 p1; have hsw := hb.size; simp at hsw; clear hb)
          have G0 : Four w' w.heap.size 0 0 0 0 := ⟨r0, r1, r2, r3, rf⟩
          have G1 : Four w' (w.heap.size + 1) _ _ _ _ := ⟨b0, b1, b2, b3, bf⟩
          go_roundw
          case rel =>
            refine ⟨1, by omega, by go_num, HO1.out hpk, ?_, ?_, by simp; omega, by go_grown⟩
            · refine Four.other (Four.other (Four.other (Four.other ?_ (by omega) _ _) (by omega) _ _) (by omega) _ _) (by omega) _ _
              exact Four.other (Four.other (Four.other (Four.other G0 (by omega) _ _) (by omega) _ _) (by omega) _ _) (by omega) _ _
            · simp only [sel, show decide (0 < 1) = true by simp, if_true]
              exact Four.set (Four.set G1 _ _ _ _) _ _ _ _
          case measure => simp [intOf]; omega
        · have hk9 : ((k : Int) == 0) = false := by simp; omega
          simp only [sel, show decide (0 < k) = true by simp; omega, if_true] at F1
          go_wp2_with (go_at_call 110; (with_reducible refine (pok_spec _ _ _).mono ?_); rintro e w' ⟨rfl, hb⟩; have hB := on_of (W := w) (by go_grown) hb; obtain ⟨r0, r1, r2, r3, rf⟩ := Four.keep (Four.alloc F0 _) hb (by simp; omega); obtain ⟨b0, b1, b2, b3, bf⟩ := Four.keep (Four.alloc F1 _) hb (by simp; omega); have p0 := (bcell hb).1 wr.heap.size 0 (by simp); have p1 := (bcell hb).1 wr.heap.size 1 (by simp); simp only [World.cell?_alloc_new] at p0 p1; have hsw := hb.size; simp at hsw; clear hb)
          have G0 : Four w' w.heap.size 0 0 0 0 := ⟨r0, r1, r2, r3, rf⟩
          have G1 : Four w' (w.heap.size + 1) _ _ _ _ := ⟨b0, b1, b2, b3, bf⟩
          go_roundw
          case rel =>
            refine ⟨k + 1, by omega, by go_num, HO1.out hpk, Four.other (Four.other (Four.other (Four.other G0 (by omega) _ _) (by omega) _ _) (by omega) _ _) (by omega) _ _, ?_, by simp; omega, by go_grown⟩
            simp only [sel, show decide (0 < k + 1) = true by simp, if_true]
            exact Four.set G1 _ _ _ _
          case measure => simp [intOf]; omega
    · obtain rfl : k = n := by omega
      obtain ⟨r0, r1, r2, r3, rf⟩ := F0
      obtain ⟨b0, b1, b2, b3, bf⟩ := F1
      go_wp2
      refine bodyPost_ret (by simp [results, Tryz.results68, go_sem, *]; try rfl) rfl ?_
      refine ⟨?_, by go_grown⟩
      by_cases hk0 : k = 0
      · subst hk0; exact boxof_zero X Y
      · have := boxof_good (n := k) (X := X) (Y := Y) (by omega) HO.out
        simpa [sel, show 0 < k by omega] using this
end Go.Proofs.YtaapofbccanjhaaGreat.Pts
