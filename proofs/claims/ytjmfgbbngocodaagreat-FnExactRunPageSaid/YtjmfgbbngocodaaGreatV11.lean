/-
  Texts of this seat, laid together: MkS
-/
import Derived.WalkKit
import Derived.Deep.DeepCutAuto
import Derived.Deep.QuietTactic
import Derived.BigQuiet
import Derived.Deep.RegionHeld3
import Derived.Handy
import Derived.Test.YtjmfgbbngocodaaGreatV09
namespace Go.Proofs.YtjmfgbbngocodaaGreat.Own
open Go.ChangeShapes Go.WideShapes Go.ChangeAt Go.RowKit
open Kit Slabs Ints
set_option linter.unusedVariables false
set_option linter.unusedSimpArgs false
set_option linter.unnecessarySimpa false
set_option maxRecDepth 100000
set_option maxHeartbeats 16000000 in
theorem mark_ObjectS (w : World) (N : Nat) {a : Option Addr} {n c : Nat} {es : List Dt} {fp : List Nat} (hn : es.length + bulkL es ≤ 1048576) (h0 : 0 < N) (hN : N + cntL es ≤ 1000000000) (h : Own w (.sl KObject) [.slice a n c] (.sl es) fp) (hd : fp.Nodup) :
    Calls Tryz.prog 45 #[.slice a n c, .int .i64 (N : Int)] w fun e w' => e = .returned (.int .i64 ((N + cntL es : Nat) : Int)) ∧ Own w' (.sl KObject) [.slice a n c] (.sl (mkL es N)) fp ∧ Turns w w' (fun b => b ∈ fp) := by
  obtain ⟨hl, hr⟩ := h.row
  by_cases hz : n = 0
  · subst hz
    have hes : es = [] := List.eq_nil_of_length_eq_zero hl
    subst hes
    have HH := Lib.hid h
    clear h hr hd
    go_enter Tryz.func45, Tryz.ntmps45
    go_wp2
    go_rounds 1
    go_ret
    exact ⟨ret_int (by simp [cntL]), HH.out, Turns.refl _ _⟩
  · obtain ⟨g, rfl, hgf⟩ := hr hz
    have H := Lib.hid (And.intro h (And.intro hd (And.intro hl hgf)))
    have hn1 : n ≤ 1048576 := by omega
    have HB := Lib.hid (And.intro hn hN)
    clear h hr hl hd hn hN hgf
    go_enter Tryz.func45, Tryz.ntmps45
    go_wp2
    go_loopw [1, 5] (fun v1 i wr => ∃ k : Nat, k ≤ n ∧ i = .int .i64 (k : Int) ∧ v1 = .int .i64 ((N + cntL (es.take k) : Nat) : Int) ∧ Own wr (.sl KObject) [.slice (some ⟨g, 0, none⟩) n c] (.sl (mkL (es.take k) N ++ es.drop k)) fp ∧ Turns w wr (fun b => b ∈ fp)) (fun _ i _ => n - (intOf i).toNat)
    case atStart => exact ⟨0, Nat.zero_le _, rfl, by simp [cntL], by simpa [mkL] using H.out.1, Turns.refl _ _⟩
    case round =>
      obtain ⟨k, hk, rfl, rfl, hown, htn⟩ := hrel
      by_cases hlt : k < n
      · have hke : k < es.length := by rw [H.out.2.2.1]; exact hlt
        have hks : (es.take k).length = k := by rw [List.length_take]; omega
        have hks2 : (mkL (es.take k) N).length = k := by rw [mkL_length, hks]
        rw [drop_elt hke] at hown
        obtain ⟨P1, cs, P2, f1, fq, f2, ds, ed, hfp, hP1, B0, O1, OE, O2, hnn, hnc⟩ := hown.pick
        rw [hks2] at hP1
        have hP1n : P1.length = k * 6 := hP1
        have htk := take_cnt hke
        have hpart := cnt_parts es (k + 1)
        have hbk := bulk_elt hke
        have hmke := take_mk (N := N) hke
        rw [ed] at htk hbk hmke
        obtain ⟨xa0, xc0, xs0, xx1_0, xx2_0, xx2_1, xx2_2, xx2_3, xF0, rfl, rfl, rfl, ox0⟩ := inv_Object OE
        obtain ⟨M0, hM0⟩ : ∃ M, N + cntL (es.take k) = M := ⟨_, rfl⟩
        rw [hM0] at hmke ⊢
        obtain ⟨M1, hM1⟩ : ∃ M, M0 + cntL xs0 = M := ⟨_, rfl⟩
        obtain ⟨M2, hM2⟩ : ∃ M, M1 + 1 = M := ⟨_, rfl⟩
        obtain ⟨M3, hM3⟩ : ∃ M, M2 + 1 = M := ⟨_, rfl⟩
        obtain ⟨M4, hM4⟩ : ∃ M, M3 + 1 = M := ⟨_, rfl⟩
        obtain ⟨M5, hM5⟩ : ∃ M, M4 + 1 = M := ⟨_, rfl⟩
        obtain ⟨M6, hM6⟩ : ∃ M, M5 + 1 = M := ⟨_, rfl⟩
        simp only [Dt.mk, mkL, Dt.cnt, hM1, hM2, hM3, hM4, hM5, hM6] at hmke
        have hM : N + cntL (es.take (k + 1)) = M6 := by rw [htk, ← Nat.add_assoc, hM0]; simp only [Dt.cnt, cntL]; omega
        simp only [Dt.bulk, bulkL] at hbk
        have hMb : M6 ≤ 1000000000 := by have := HB.out.2; omega
        have hMp : 0 < M0 := by omega
        have u0 : xs0.length + bulkL xs0 ≤ 1048576 := by have := HB.out.1; omega
        have hnd : (g :: (f1 ++ ((xF0 ++ ([])) ++ f2))).Nodup := hfp ▸ H.out.2.1
        have hnd2 := (List.nodup_cons.1 hnd).2
        have hng := (List.nodup_cons.1 hnd).1
        have hnd3 : (f1 ++ (xF0 ++ f2)).Nodup := by simpa using hnd2
        have hng3 : g ∉ (f1 ++ (xF0 ++ f2)) := by simpa using hng
        obtain ⟨nd0, r0, x0⟩ := nodup_parts hnd3
        obtain ⟨nd1, r1, x1⟩ := nodup_parts r0
        have nd2 := r1
        have d0_1 : ∀ b ∈ f1, b ∉ xF0 := fun b ha hb => x0 b ha (List.mem_append_left _ hb)
        have d1_0 : ∀ b ∈ xF0, b ∉ f1 := fun b ha hb => d0_1 b hb ha
        have d0_2 : ∀ b ∈ f1, b ∉ f2 := fun b ha hb => x0 b ha (List.mem_append_right _ (hb))
        have d2_0 : ∀ b ∈ f2, b ∉ f1 := fun b ha hb => d0_2 b hb ha
        have d1_2 : ∀ b ∈ xF0, b ∉ f2 := fun b ha hb => x1 b ha (hb)
        have d2_1 : ∀ b ∈ f2, b ∉ xF0 := fun b ha hb => d1_2 b hb ha
        have ng0 : g ∉ f1 := fun hb => hng3 (List.mem_append_left _ hb)
        have sb0 : ∀ b ∈ f1, b ∈ fp := fun b hb => by rw [hfp]; simp [hb]
        have ng1 : g ∉ xF0 := fun hb => hng3 (List.mem_append_right _ (List.mem_append_left _ hb))
        have sb1 : ∀ b ∈ xF0, b ∈ fp := fun b hb => by rw [hfp]; simp [hb]
        have ng2 : g ∉ f2 := fun hb => hng3 (List.mem_append_right _ (List.mem_append_right _ (hb)))
        have sb2 : ∀ b ∈ f2, b ∈ fp := fun b hb => by rw [hfp]; simp [hb]
        have sg : g ∈ fp := by rw [hfp]; simp
        have HM := Lib.hid (And.intro hM (And.intro hmke (And.intro hfp (And.intro hnn (And.intro hnc hks2)))))
        have HP := Lib.hid B0
        have HQ0 := Lib.hid (And.intro O1 (And.intro O2 ox0))
        have HT0 := Lib.hid htn
        have b0 : M0 ≤ 1000000000 := by omega
        have p0 : 0 < M0 := by omega
        have s0 : M0 + cntL xs0 ≤ 1000000000 := by omega
        have e2 : (M1 : Int) + 1 = (M2 : Int) := by omega
        have b1 : M1 ≤ 1000000000 := by omega
        have e3 : (M2 : Int) + 1 = (M3 : Int) := by omega
        have b2 : M2 ≤ 1000000000 := by omega
        have e4 : (M3 : Int) + 1 = (M4 : Int) := by omega
        have b3 : M3 ≤ 1000000000 := by omega
        have e5 : (M4 : Int) + 1 = (M5 : Int) := by omega
        have b4 : M4 ≤ 1000000000 := by omega
        have e6 : (M5 : Int) + 1 = (M6 : Int) := by omega
        have b5 : M5 ≤ 1000000000 := by omega
        have i0 : (0 : Int) ≤ (k : Int) := by omega
        have i1 : (k : Int) < (n : Int) := by omega
        have HPn := Lib.hid hP1n
        clear hown OE O1 O2 B0 htn hP1 hP1n htk hpart hmke hM hM0 hbk hke hks hks2 hnd hnd2 hnd3 hng hng3 hnn hnc ed hfp ox0 r0 x0 x1
        have ca0 : wr.cell? ⟨g, k * 6, none⟩ = some (.slice xa0 xs0.length xc0) := by have := HP.out.1 (k * 6 + 0) (.slice xa0 xs0.length xc0) (by rw [List.getElem?_append_right (by rw [HPn.out]; omega), HPn.out, Nat.add_sub_cancel_left]; rfl); exact this
        go_wp2_with fail
        ((with_reducible refine (mark_PointS _ M0 u0 p0 s0 (HQ0.out.2.2) nd1).mono ?_); rintro e w1 ⟨rfl, oo, bb⟩)
        rw [hM1]
        have HQ1 := Lib.hid (And.intro ((HQ0.out.1).turned bb d0_1) (And.intro ((HQ0.out.2.1).turned bb d2_1) oo))
        have HP1 := Lib.hid (HP.out.turned bb ng1)
        have HT1 := Lib.hid (HT0.out.trans (bb.mono sb1))
        clear oo bb ca0
        have fz : ∀ o, w1.frozen? ⟨g, o, none⟩ = false := HP1.out.2.1
        have ca1 : w1.cell? ⟨g, k * 6 + 1, none⟩ = some (.int .i64 xx1_0) := by have := HP1.out.1 (k * 6 + 1) (.int .i64 xx1_0) (by rw [List.getElem?_append_right (by rw [HPn.out]; omega), HPn.out, Nat.add_sub_cancel_left]; rfl); exact this
        have ca2 : w1.cell? ⟨g, k * 6 + 2, none⟩ = some (.int .i64 xx2_0) := by have := HP1.out.1 (k * 6 + 2) (.int .i64 xx2_0) (by rw [List.getElem?_append_right (by rw [HPn.out]; omega), HPn.out, Nat.add_sub_cancel_left]; rfl); exact this
        have ca3 : w1.cell? ⟨g, k * 6 + 3, none⟩ = some (.int .i64 xx2_1) := by have := HP1.out.1 (k * 6 + 3) (.int .i64 xx2_1) (by rw [List.getElem?_append_right (by rw [HPn.out]; omega), HPn.out, Nat.add_sub_cancel_left]; rfl); exact this
        have ca4 : w1.cell? ⟨g, k * 6 + 4, none⟩ = some (.int .i64 xx2_2) := by have := HP1.out.1 (k * 6 + 4) (.int .i64 xx2_2) (by rw [List.getElem?_append_right (by rw [HPn.out]; omega), HPn.out, Nat.add_sub_cancel_left]; rfl); exact this
        have ca5 : w1.cell? ⟨g, k * 6 + 5, none⟩ = some (.int .i64 xx2_3) := by have := HP1.out.1 (k * 6 + 5) (.int .i64 xx2_3) (by rw [List.getElem?_append_right (by rw [HPn.out]; omega), HPn.out, Nat.add_sub_cancel_left]; rfl); exact this
        have bs1 : Blk (w1.setCell ⟨g, k * 6 + 1, none⟩ (.int .i64 (M1 : Int))) g (P1 ++ (.slice xa0 xs0.length xc0 :: (.int .i64 (M1 : Int) :: (.int .i64 xx2_0 :: (.int .i64 xx2_1 :: (.int .i64 xx2_2 :: (.int .i64 xx2_3 :: P2))))))) := by have := Blk.put (P := P1 ++ [.slice xa0 xs0.length xc0]) (o := k * 6 + 1) (w := w1) (R := .int .i64 xx2_0 :: (.int .i64 xx2_1 :: (.int .i64 xx2_2 :: (.int .i64 xx2_3 :: P2)))) (x := .int .i64 xx1_0) (by simpa using HP1.out) (by simp [HPn.out]) (.int .i64 (M1 : Int)); simpa using this
        have bs2 : Blk ((w1.setCell ⟨g, k * 6 + 1, none⟩ (.int .i64 (M1 : Int))).setCell ⟨g, k * 6 + 2, none⟩ (.int .i64 (M2 : Int))) g (P1 ++ (.slice xa0 xs0.length xc0 :: (.int .i64 (M1 : Int) :: (.int .i64 (M2 : Int) :: (.int .i64 xx2_1 :: (.int .i64 xx2_2 :: (.int .i64 xx2_3 :: P2))))))) := by have := Blk.put (P := P1 ++ [.slice xa0 xs0.length xc0, .int .i64 (M1 : Int)]) (o := k * 6 + 2) (w := (w1.setCell ⟨g, k * 6 + 1, none⟩ (.int .i64 (M1 : Int)))) (R := .int .i64 xx2_1 :: (.int .i64 xx2_2 :: (.int .i64 xx2_3 :: P2))) (x := .int .i64 xx2_0) (by simpa using bs1) (by simp [HPn.out]) (.int .i64 (M2 : Int)); simpa using this
        have bs3 : Blk (((w1.setCell ⟨g, k * 6 + 1, none⟩ (.int .i64 (M1 : Int))).setCell ⟨g, k * 6 + 2, none⟩ (.int .i64 (M2 : Int))).setCell ⟨g, k * 6 + 3, none⟩ (.int .i64 (M3 : Int))) g (P1 ++ (.slice xa0 xs0.length xc0 :: (.int .i64 (M1 : Int) :: (.int .i64 (M2 : Int) :: (.int .i64 (M3 : Int) :: (.int .i64 xx2_2 :: (.int .i64 xx2_3 :: P2))))))) := by have := Blk.put (P := P1 ++ [.slice xa0 xs0.length xc0, .int .i64 (M1 : Int), .int .i64 (M2 : Int)]) (o := k * 6 + 3) (w := ((w1.setCell ⟨g, k * 6 + 1, none⟩ (.int .i64 (M1 : Int))).setCell ⟨g, k * 6 + 2, none⟩ (.int .i64 (M2 : Int)))) (R := .int .i64 xx2_2 :: (.int .i64 xx2_3 :: P2)) (x := .int .i64 xx2_1) (by simpa using bs2) (by simp [HPn.out]) (.int .i64 (M3 : Int)); simpa using this
        have bs4 : Blk ((((w1.setCell ⟨g, k * 6 + 1, none⟩ (.int .i64 (M1 : Int))).setCell ⟨g, k * 6 + 2, none⟩ (.int .i64 (M2 : Int))).setCell ⟨g, k * 6 + 3, none⟩ (.int .i64 (M3 : Int))).setCell ⟨g, k * 6 + 4, none⟩ (.int .i64 (M4 : Int))) g (P1 ++ (.slice xa0 xs0.length xc0 :: (.int .i64 (M1 : Int) :: (.int .i64 (M2 : Int) :: (.int .i64 (M3 : Int) :: (.int .i64 (M4 : Int) :: (.int .i64 xx2_3 :: P2))))))) := by have := Blk.put (P := P1 ++ [.slice xa0 xs0.length xc0, .int .i64 (M1 : Int), .int .i64 (M2 : Int), .int .i64 (M3 : Int)]) (o := k * 6 + 4) (w := (((w1.setCell ⟨g, k * 6 + 1, none⟩ (.int .i64 (M1 : Int))).setCell ⟨g, k * 6 + 2, none⟩ (.int .i64 (M2 : Int))).setCell ⟨g, k * 6 + 3, none⟩ (.int .i64 (M3 : Int)))) (R := .int .i64 xx2_3 :: P2) (x := .int .i64 xx2_2) (by simpa using bs3) (by simp [HPn.out]) (.int .i64 (M4 : Int)); simpa using this
        have bs5 : Blk (((((w1.setCell ⟨g, k * 6 + 1, none⟩ (.int .i64 (M1 : Int))).setCell ⟨g, k * 6 + 2, none⟩ (.int .i64 (M2 : Int))).setCell ⟨g, k * 6 + 3, none⟩ (.int .i64 (M3 : Int))).setCell ⟨g, k * 6 + 4, none⟩ (.int .i64 (M4 : Int))).setCell ⟨g, k * 6 + 5, none⟩ (.int .i64 (M5 : Int))) g (P1 ++ (.slice xa0 xs0.length xc0 :: (.int .i64 (M1 : Int) :: (.int .i64 (M2 : Int) :: (.int .i64 (M3 : Int) :: (.int .i64 (M4 : Int) :: (.int .i64 (M5 : Int) :: P2))))))) := by have := Blk.put (P := P1 ++ [.slice xa0 xs0.length xc0, .int .i64 (M1 : Int), .int .i64 (M2 : Int), .int .i64 (M3 : Int), .int .i64 (M4 : Int)]) (o := k * 6 + 5) (w := ((((w1.setCell ⟨g, k * 6 + 1, none⟩ (.int .i64 (M1 : Int))).setCell ⟨g, k * 6 + 2, none⟩ (.int .i64 (M2 : Int))).setCell ⟨g, k * 6 + 3, none⟩ (.int .i64 (M3 : Int))).setCell ⟨g, k * 6 + 4, none⟩ (.int .i64 (M4 : Int)))) (R := P2) (x := .int .i64 xx2_3) (by simpa using bs4) (by simp [HPn.out]) (.int .i64 (M5 : Int)); simpa using this
        have HQ2 := Lib.hid (show OwnL (((((w1.setCell ⟨g, k * 6 + 1, none⟩ (.int .i64 (M1 : Int))).setCell ⟨g, k * 6 + 2, none⟩ (.int .i64 (M2 : Int))).setCell ⟨g, k * 6 + 3, none⟩ (.int .i64 (M3 : Int))).setCell ⟨g, k * 6 + 4, none⟩ (.int .i64 (M4 : Int))).setCell ⟨g, k * 6 + 5, none⟩ (.int .i64 (M5 : Int))) (List.replicate (mkL (es.take k) N).length KObject) P1 (mkL (es.take k) N) f1 ∧ OwnL (((((w1.setCell ⟨g, k * 6 + 1, none⟩ (.int .i64 (M1 : Int))).setCell ⟨g, k * 6 + 2, none⟩ (.int .i64 (M2 : Int))).setCell ⟨g, k * 6 + 3, none⟩ (.int .i64 (M3 : Int))).setCell ⟨g, k * 6 + 4, none⟩ (.int .i64 (M4 : Int))).setCell ⟨g, k * 6 + 5, none⟩ (.int .i64 (M5 : Int))) (List.replicate (es.drop (k + 1)).length KObject) P2 (es.drop (k + 1)) f2 ∧ Own (((((w1.setCell ⟨g, k * 6 + 1, none⟩ (.int .i64 (M1 : Int))).setCell ⟨g, k * 6 + 2, none⟩ (.int .i64 (M2 : Int))).setCell ⟨g, k * 6 + 3, none⟩ (.int .i64 (M3 : Int))).setCell ⟨g, k * 6 + 4, none⟩ (.int .i64 (M4 : Int))).setCell ⟨g, k * 6 + 5, none⟩ (.int .i64 (M5 : Int))) (.sl KPt) [.slice xa0 xs0.length xc0] (.sl (mkL xs0 M0)) xF0 from And.intro (ownL_set ((ownL_set ((ownL_set ((ownL_set ((ownL_set (HQ1.out.1) ng0 _ (.int .i64 (M1 : Int)))) ng0 _ (.int .i64 (M2 : Int)))) ng0 _ (.int .i64 (M3 : Int)))) ng0 _ (.int .i64 (M4 : Int)))) ng0 _ (.int .i64 (M5 : Int))) (And.intro (ownL_set ((ownL_set ((ownL_set ((ownL_set ((ownL_set (HQ1.out.2.1) ng2 _ (.int .i64 (M1 : Int)))) ng2 _ (.int .i64 (M2 : Int)))) ng2 _ (.int .i64 (M3 : Int)))) ng2 _ (.int .i64 (M4 : Int)))) ng2 _ (.int .i64 (M5 : Int))) (own_setN ((own_setN ((own_setN ((own_setN ((own_setN (HQ1.out.2.2) ng1 _ (.int .i64 (M1 : Int)))) ng1 _ (.int .i64 (M2 : Int)))) ng1 _ (.int .i64 (M3 : Int)))) ng1 _ (.int .i64 (M4 : Int)))) ng1 _ (.int .i64 (M5 : Int)))))
        have HP2 := Lib.hid bs5
        have HT2 := Lib.hid (show Turns w (((((w1.setCell ⟨g, k * 6 + 1, none⟩ (.int .i64 (M1 : Int))).setCell ⟨g, k * 6 + 2, none⟩ (.int .i64 (M2 : Int))).setCell ⟨g, k * 6 + 3, none⟩ (.int .i64 (M3 : Int))).setCell ⟨g, k * 6 + 4, none⟩ (.int .i64 (M4 : Int))).setCell ⟨g, k * 6 + 5, none⟩ (.int .i64 (M5 : Int))) (fun b => b ∈ fp) from (turns_set (turns_set (turns_set (turns_set (turns_set HT1.out sg _ (.int .i64 (M1 : Int))) sg _ (.int .i64 (M2 : Int))) sg _ (.int .i64 (M3 : Int))) sg _ (.int .i64 (M4 : Int))) sg _ (.int .i64 (M5 : Int))))
        clear bs1 bs2 bs3 bs4 bs5
        have HU := Lib.hid (Own.unpick (n := n) (c := c) HP2.out (HQ2.out.1) (show OwnL _ LObject (.slice xa0 xs0.length xc0 :: (.int .i64 (M1 : Int) :: (.int .i64 (M2 : Int) :: (.int .i64 (M3 : Int) :: (.int .i64 (M4 : Int) :: (.int .i64 (M5 : Int) :: [])))))) (.sl (mkL xs0 M0) :: (.int ((M1 : Nat) : Int) :: (.int ((M2 : Nat) : Int) :: (.int ((M3 : Nat) : Int) :: (.int ((M4 : Nat) : Int) :: (.int ((M5 : Nat) : Int) :: ([]))))))) (xF0 ++ ([])) from .cons (cs := [.slice xa0 xs0.length xc0]) (fp := xF0) (HQ2.out.2.2) (.cons (cs := [.int .i64 (M1 : Int)]) (fp := []) (.int (M1 : Int)) (.cons (cs := [.int .i64 (M2 : Int)]) (fp := []) (.int (M2 : Int)) (.cons (cs := [.int .i64 (M3 : Int)]) (fp := []) (.int (M3 : Int)) (.cons (cs := [.int .i64 (M4 : Int)]) (fp := []) (.int (M4 : Int)) (.cons (cs := [.int .i64 (M5 : Int)]) (fp := []) (.int (M5 : Int)) (.nil))))))) (HQ2.out.2.1) HM.out.2.2.2.1 HM.out.2.2.2.2.1)
        go_wp2
        go_roundw
        case rel => exact ⟨k + 1, by omega, by go_num, by rw [HM.out.1], by rw [HM.out.2.1, HM.out.2.2.1, List.append_assoc]; exact HU.out, HT2.out⟩
        case measure => simp [intOf]; omega
      · obtain rfl : k = n := by omega
        have HY := Lib.hid (And.intro (show es.take k = es by rw [← H.out.2.2.1, List.take_length]) (show es.drop k = [] by rw [← H.out.2.2.1, List.drop_length]))
        have HH := Lib.hid (And.intro hown htn)
        clear hown htn
        go_wp2
        go_ret
        exact ⟨ret_int (by rw [HY.out.1]), by have := HH.out.1; rw [HY.out.1, HY.out.2, List.append_nil] at this; exact this, HH.out.2⟩
set_option maxHeartbeats 16000000 in
theorem mark_GraphicsS (w : World) (N : Nat) {a : Option Addr} {n c : Nat} {es : List Dt} {fp : List Nat} (hn : es.length + bulkL es ≤ 1048576) (h0 : 0 < N) (hN : N + cntL es ≤ 1000000000) (h : Own w (.sl KGraphics) [.slice a n c] (.sl es) fp) (hd : fp.Nodup) :
    Calls Tryz.prog 44 #[.slice a n c, .int .i64 (N : Int)] w fun e w' => e = .returned (.int .i64 ((N + cntL es : Nat) : Int)) ∧ Own w' (.sl KGraphics) [.slice a n c] (.sl (mkL es N)) fp ∧ Turns w w' (fun b => b ∈ fp) := by
  obtain ⟨hl, hr⟩ := h.row
  by_cases hz : n = 0
  · subst hz
    have hes : es = [] := List.eq_nil_of_length_eq_zero hl
    subst hes
    have HH := Lib.hid h
    clear h hr hd
    go_enter Tryz.func44, Tryz.ntmps44
    go_wp2
    go_rounds 1
    go_ret
    exact ⟨ret_int (by simp [cntL]), HH.out, Turns.refl _ _⟩
  · obtain ⟨g, rfl, hgf⟩ := hr hz
    have H := Lib.hid (And.intro h (And.intro hd (And.intro hl hgf)))
    have hn1 : n ≤ 1048576 := by omega
    have HB := Lib.hid (And.intro hn hN)
    clear h hr hl hd hn hN hgf
    go_enter Tryz.func44, Tryz.ntmps44
    go_wp2
    go_loopw [1, 5] (fun v1 i wr => ∃ k : Nat, k ≤ n ∧ i = .int .i64 (k : Int) ∧ v1 = .int .i64 ((N + cntL (es.take k) : Nat) : Int) ∧ Own wr (.sl KGraphics) [.slice (some ⟨g, 0, none⟩) n c] (.sl (mkL (es.take k) N ++ es.drop k)) fp ∧ Turns w wr (fun b => b ∈ fp)) (fun _ i _ => n - (intOf i).toNat)
    case atStart => exact ⟨0, Nat.zero_le _, rfl, by simp [cntL], by simpa [mkL] using H.out.1, Turns.refl _ _⟩
    case round =>
      obtain ⟨k, hk, rfl, rfl, hown, htn⟩ := hrel
      by_cases hlt : k < n
      · have hke : k < es.length := by rw [H.out.2.2.1]; exact hlt
        have hks : (es.take k).length = k := by rw [List.length_take]; omega
        have hks2 : (mkL (es.take k) N).length = k := by rw [mkL_length, hks]
        rw [drop_elt hke] at hown
        obtain ⟨P1, cs, P2, f1, fq, f2, ds, ed, hfp, hP1, B0, O1, OE, O2, hnn, hnc⟩ := hown.pick
        rw [hks2] at hP1
        have hP1n : P1.length = k * 11 := hP1
        have htk := take_cnt hke
        have hpart := cnt_parts es (k + 1)
        have hbk := bulk_elt hke
        have hmke := take_mk (N := N) hke
        rw [ed] at htk hbk hmke
        obtain ⟨xa0, xc0, xa5, xc5, xs0, xx1_0, xx1_1, xx1_2, xx1_3, xs5, xx6_0, xx7_0, xx7_1, xx7_2, xx7_3, xF0, xF5, rfl, rfl, rfl, ox0, ox5⟩ := inv_Graphics OE
        obtain ⟨M0, hM0⟩ : ∃ M, N + cntL (es.take k) = M := ⟨_, rfl⟩
        rw [hM0] at hmke ⊢
        obtain ⟨M1, hM1⟩ : ∃ M, M0 + cntL xs0 = M := ⟨_, rfl⟩
        obtain ⟨M2, hM2⟩ : ∃ M, M1 + 1 = M := ⟨_, rfl⟩
        obtain ⟨M3, hM3⟩ : ∃ M, M2 + 1 = M := ⟨_, rfl⟩
        obtain ⟨M4, hM4⟩ : ∃ M, M3 + 1 = M := ⟨_, rfl⟩
        obtain ⟨M5, hM5⟩ : ∃ M, M4 + 1 = M := ⟨_, rfl⟩
        obtain ⟨M6, hM6⟩ : ∃ M, M5 + cntL xs5 = M := ⟨_, rfl⟩
        obtain ⟨M7, hM7⟩ : ∃ M, M6 + 1 = M := ⟨_, rfl⟩
        obtain ⟨M8, hM8⟩ : ∃ M, M7 + 1 = M := ⟨_, rfl⟩
        obtain ⟨M9, hM9⟩ : ∃ M, M8 + 1 = M := ⟨_, rfl⟩
        obtain ⟨M10, hM10⟩ : ∃ M, M9 + 1 = M := ⟨_, rfl⟩
        obtain ⟨M11, hM11⟩ : ∃ M, M10 + 1 = M := ⟨_, rfl⟩
        simp only [Dt.mk, mkL, Dt.cnt, hM1, hM2, hM3, hM4, hM5, hM6, hM7, hM8, hM9, hM10, hM11] at hmke
        have hM : N + cntL (es.take (k + 1)) = M11 := by rw [htk, ← Nat.add_assoc, hM0]; simp only [Dt.cnt, cntL]; omega
        simp only [Dt.bulk, bulkL] at hbk
        have hMb : M11 ≤ 1000000000 := by have := HB.out.2; omega
        have hMp : 0 < M0 := by omega
        have u0 : xs0.length + bulkL xs0 ≤ 1048576 := by have := HB.out.1; omega
        have u1 : xs5.length + bulkL xs5 ≤ 1048576 := by have := HB.out.1; omega
        have hnd : (g :: (f1 ++ ((xF0 ++ (xF5 ++ ([]))) ++ f2))).Nodup := hfp ▸ H.out.2.1
        have hnd2 := (List.nodup_cons.1 hnd).2
        have hng := (List.nodup_cons.1 hnd).1
        have hnd3 : (f1 ++ (xF0 ++ (xF5 ++ f2))).Nodup := by simpa using hnd2
        have hng3 : g ∉ (f1 ++ (xF0 ++ (xF5 ++ f2))) := by simpa using hng
        obtain ⟨nd0, r0, x0⟩ := nodup_parts hnd3
        obtain ⟨nd1, r1, x1⟩ := nodup_parts r0
        obtain ⟨nd2, r2, x2⟩ := nodup_parts r1
        have nd3 := r2
        have d0_1 : ∀ b ∈ f1, b ∉ xF0 := fun b ha hb => x0 b ha (List.mem_append_left _ hb)
        have d1_0 : ∀ b ∈ xF0, b ∉ f1 := fun b ha hb => d0_1 b hb ha
        have d0_2 : ∀ b ∈ f1, b ∉ xF5 := fun b ha hb => x0 b ha (List.mem_append_right _ (List.mem_append_left _ hb))
        have d2_0 : ∀ b ∈ xF5, b ∉ f1 := fun b ha hb => d0_2 b hb ha
        have d0_3 : ∀ b ∈ f1, b ∉ f2 := fun b ha hb => x0 b ha (List.mem_append_right _ (List.mem_append_right _ (hb)))
        have d3_0 : ∀ b ∈ f2, b ∉ f1 := fun b ha hb => d0_3 b hb ha
        have d1_2 : ∀ b ∈ xF0, b ∉ xF5 := fun b ha hb => x1 b ha (List.mem_append_left _ hb)
        have d2_1 : ∀ b ∈ xF5, b ∉ xF0 := fun b ha hb => d1_2 b hb ha
        have d1_3 : ∀ b ∈ xF0, b ∉ f2 := fun b ha hb => x1 b ha (List.mem_append_right _ (hb))
        have d3_1 : ∀ b ∈ f2, b ∉ xF0 := fun b ha hb => d1_3 b hb ha
        have d2_3 : ∀ b ∈ xF5, b ∉ f2 := fun b ha hb => x2 b ha (hb)
        have d3_2 : ∀ b ∈ f2, b ∉ xF5 := fun b ha hb => d2_3 b hb ha
        have ng0 : g ∉ f1 := fun hb => hng3 (List.mem_append_left _ hb)
        have sb0 : ∀ b ∈ f1, b ∈ fp := fun b hb => by rw [hfp]; simp [hb]
        have ng1 : g ∉ xF0 := fun hb => hng3 (List.mem_append_right _ (List.mem_append_left _ hb))
        have sb1 : ∀ b ∈ xF0, b ∈ fp := fun b hb => by rw [hfp]; simp [hb]
        have ng2 : g ∉ xF5 := fun hb => hng3 (List.mem_append_right _ (List.mem_append_right _ (List.mem_append_left _ hb)))
        have sb2 : ∀ b ∈ xF5, b ∈ fp := fun b hb => by rw [hfp]; simp [hb]
        have ng3 : g ∉ f2 := fun hb => hng3 (List.mem_append_right _ (List.mem_append_right _ (List.mem_append_right _ (hb))))
        have sb3 : ∀ b ∈ f2, b ∈ fp := fun b hb => by rw [hfp]; simp [hb]
        have sg : g ∈ fp := by rw [hfp]; simp
        have HM := Lib.hid (And.intro hM (And.intro hmke (And.intro hfp (And.intro hnn (And.intro hnc hks2)))))
        have HP := Lib.hid B0
        have HQ0 := Lib.hid (And.intro O1 (And.intro O2 (And.intro ox0 ox5)))
        have HT0 := Lib.hid htn
        have b0 : M0 ≤ 1000000000 := by omega
        have p0 : 0 < M0 := by omega
        have s0 : M0 + cntL xs0 ≤ 1000000000 := by omega
        have e2 : (M1 : Int) + 1 = (M2 : Int) := by omega
        have b1 : M1 ≤ 1000000000 := by omega
        have e3 : (M2 : Int) + 1 = (M3 : Int) := by omega
        have b2 : M2 ≤ 1000000000 := by omega
        have e4 : (M3 : Int) + 1 = (M4 : Int) := by omega
        have b3 : M3 ≤ 1000000000 := by omega
        have e5 : (M4 : Int) + 1 = (M5 : Int) := by omega
        have b4 : M4 ≤ 1000000000 := by omega
        have b5 : M5 ≤ 1000000000 := by omega
        have p5 : 0 < M5 := by omega
        have s5 : M5 + cntL xs5 ≤ 1000000000 := by omega
        have e7 : (M6 : Int) + 1 = (M7 : Int) := by omega
        have b6 : M6 ≤ 1000000000 := by omega
        have e8 : (M7 : Int) + 1 = (M8 : Int) := by omega
        have b7 : M7 ≤ 1000000000 := by omega
        have e9 : (M8 : Int) + 1 = (M9 : Int) := by omega
        have b8 : M8 ≤ 1000000000 := by omega
        have e10 : (M9 : Int) + 1 = (M10 : Int) := by omega
        have b9 : M9 ≤ 1000000000 := by omega
        have e11 : (M10 : Int) + 1 = (M11 : Int) := by omega
        have b10 : M10 ≤ 1000000000 := by omega
        have i0 : (0 : Int) ≤ (k : Int) := by omega
        have i1 : (k : Int) < (n : Int) := by omega
        have HPn := Lib.hid hP1n
        clear hown OE O1 O2 B0 htn hP1 hP1n htk hpart hmke hM hM0 hbk hke hks hks2 hnd hnd2 hnd3 hng hng3 hnn hnc ed hfp ox0 ox5 r0 x0 r1 x1 x2
        have ca0 : wr.cell? ⟨g, k * 11, none⟩ = some (.slice xa0 xs0.length xc0) := by have := HP.out.1 (k * 11 + 0) (.slice xa0 xs0.length xc0) (by rw [List.getElem?_append_right (by rw [HPn.out]; omega), HPn.out, Nat.add_sub_cancel_left]; rfl); exact this
        go_wp2_with fail
        ((with_reducible refine (mark_IntS _ M0 u0 p0 s0 (HQ0.out.2.2.1) nd1).mono ?_); rintro e w1 ⟨rfl, oo, bb⟩)
        rw [hM1]
        have HQ1 := Lib.hid (And.intro ((HQ0.out.1).turned bb d0_1) (And.intro ((HQ0.out.2.1).turned bb d3_1) (And.intro oo ((HQ0.out.2.2.2).turned bb d2_1))))
        have HP1 := Lib.hid (HP.out.turned bb ng1)
        have HT1 := Lib.hid (HT0.out.trans (bb.mono sb1))
        clear oo bb ca0
        have fz : ∀ o, w1.frozen? ⟨g, o, none⟩ = false := HP1.out.2.1
        have ca1 : w1.cell? ⟨g, k * 11 + 1, none⟩ = some (.int .i64 xx1_0) := by have := HP1.out.1 (k * 11 + 1) (.int .i64 xx1_0) (by rw [List.getElem?_append_right (by rw [HPn.out]; omega), HPn.out, Nat.add_sub_cancel_left]; rfl); exact this
        have ca2 : w1.cell? ⟨g, k * 11 + 2, none⟩ = some (.int .i64 xx1_1) := by have := HP1.out.1 (k * 11 + 2) (.int .i64 xx1_1) (by rw [List.getElem?_append_right (by rw [HPn.out]; omega), HPn.out, Nat.add_sub_cancel_left]; rfl); exact this
        have ca3 : w1.cell? ⟨g, k * 11 + 3, none⟩ = some (.int .i64 xx1_2) := by have := HP1.out.1 (k * 11 + 3) (.int .i64 xx1_2) (by rw [List.getElem?_append_right (by rw [HPn.out]; omega), HPn.out, Nat.add_sub_cancel_left]; rfl); exact this
        have ca4 : w1.cell? ⟨g, k * 11 + 4, none⟩ = some (.int .i64 xx1_3) := by have := HP1.out.1 (k * 11 + 4) (.int .i64 xx1_3) (by rw [List.getElem?_append_right (by rw [HPn.out]; omega), HPn.out, Nat.add_sub_cancel_left]; rfl); exact this
        have bs1 : Blk (w1.setCell ⟨g, k * 11 + 1, none⟩ (.int .i64 (M1 : Int))) g (P1 ++ (.slice xa0 xs0.length xc0 :: (.int .i64 (M1 : Int) :: (.int .i64 xx1_1 :: (.int .i64 xx1_2 :: (.int .i64 xx1_3 :: (.slice xa5 xs5.length xc5 :: (.int .i64 xx6_0 :: (.int .i64 xx7_0 :: (.int .i64 xx7_1 :: (.int .i64 xx7_2 :: (.int .i64 xx7_3 :: P2)))))))))))) := by have := Blk.put (P := P1 ++ [.slice xa0 xs0.length xc0]) (o := k * 11 + 1) (w := w1) (R := .int .i64 xx1_1 :: (.int .i64 xx1_2 :: (.int .i64 xx1_3 :: (.slice xa5 xs5.length xc5 :: (.int .i64 xx6_0 :: (.int .i64 xx7_0 :: (.int .i64 xx7_1 :: (.int .i64 xx7_2 :: (.int .i64 xx7_3 :: P2))))))))) (x := .int .i64 xx1_0) (by simpa using HP1.out) (by simp [HPn.out]) (.int .i64 (M1 : Int)); simpa using this
        have bs2 : Blk ((w1.setCell ⟨g, k * 11 + 1, none⟩ (.int .i64 (M1 : Int))).setCell ⟨g, k * 11 + 2, none⟩ (.int .i64 (M2 : Int))) g (P1 ++ (.slice xa0 xs0.length xc0 :: (.int .i64 (M1 : Int) :: (.int .i64 (M2 : Int) :: (.int .i64 xx1_2 :: (.int .i64 xx1_3 :: (.slice xa5 xs5.length xc5 :: (.int .i64 xx6_0 :: (.int .i64 xx7_0 :: (.int .i64 xx7_1 :: (.int .i64 xx7_2 :: (.int .i64 xx7_3 :: P2)))))))))))) := by have := Blk.put (P := P1 ++ [.slice xa0 xs0.length xc0, .int .i64 (M1 : Int)]) (o := k * 11 + 2) (w := (w1.setCell ⟨g, k * 11 + 1, none⟩ (.int .i64 (M1 : Int)))) (R := .int .i64 xx1_2 :: (.int .i64 xx1_3 :: (.slice xa5 xs5.length xc5 :: (.int .i64 xx6_0 :: (.int .i64 xx7_0 :: (.int .i64 xx7_1 :: (.int .i64 xx7_2 :: (.int .i64 xx7_3 :: P2)))))))) (x := .int .i64 xx1_1) (by simpa using bs1) (by simp [HPn.out]) (.int .i64 (M2 : Int)); simpa using this
        have bs3 : Blk (((w1.setCell ⟨g, k * 11 + 1, none⟩ (.int .i64 (M1 : Int))).setCell ⟨g, k * 11 + 2, none⟩ (.int .i64 (M2 : Int))).setCell ⟨g, k * 11 + 3, none⟩ (.int .i64 (M3 : Int))) g (P1 ++ (.slice xa0 xs0.length xc0 :: (.int .i64 (M1 : Int) :: (.int .i64 (M2 : Int) :: (.int .i64 (M3 : Int) :: (.int .i64 xx1_3 :: (.slice xa5 xs5.length xc5 :: (.int .i64 xx6_0 :: (.int .i64 xx7_0 :: (.int .i64 xx7_1 :: (.int .i64 xx7_2 :: (.int .i64 xx7_3 :: P2)))))))))))) := by have := Blk.put (P := P1 ++ [.slice xa0 xs0.length xc0, .int .i64 (M1 : Int), .int .i64 (M2 : Int)]) (o := k * 11 + 3) (w := ((w1.setCell ⟨g, k * 11 + 1, none⟩ (.int .i64 (M1 : Int))).setCell ⟨g, k * 11 + 2, none⟩ (.int .i64 (M2 : Int)))) (R := .int .i64 xx1_3 :: (.slice xa5 xs5.length xc5 :: (.int .i64 xx6_0 :: (.int .i64 xx7_0 :: (.int .i64 xx7_1 :: (.int .i64 xx7_2 :: (.int .i64 xx7_3 :: P2))))))) (x := .int .i64 xx1_2) (by simpa using bs2) (by simp [HPn.out]) (.int .i64 (M3 : Int)); simpa using this
        have bs4 : Blk ((((w1.setCell ⟨g, k * 11 + 1, none⟩ (.int .i64 (M1 : Int))).setCell ⟨g, k * 11 + 2, none⟩ (.int .i64 (M2 : Int))).setCell ⟨g, k * 11 + 3, none⟩ (.int .i64 (M3 : Int))).setCell ⟨g, k * 11 + 4, none⟩ (.int .i64 (M4 : Int))) g (P1 ++ (.slice xa0 xs0.length xc0 :: (.int .i64 (M1 : Int) :: (.int .i64 (M2 : Int) :: (.int .i64 (M3 : Int) :: (.int .i64 (M4 : Int) :: (.slice xa5 xs5.length xc5 :: (.int .i64 xx6_0 :: (.int .i64 xx7_0 :: (.int .i64 xx7_1 :: (.int .i64 xx7_2 :: (.int .i64 xx7_3 :: P2)))))))))))) := by have := Blk.put (P := P1 ++ [.slice xa0 xs0.length xc0, .int .i64 (M1 : Int), .int .i64 (M2 : Int), .int .i64 (M3 : Int)]) (o := k * 11 + 4) (w := (((w1.setCell ⟨g, k * 11 + 1, none⟩ (.int .i64 (M1 : Int))).setCell ⟨g, k * 11 + 2, none⟩ (.int .i64 (M2 : Int))).setCell ⟨g, k * 11 + 3, none⟩ (.int .i64 (M3 : Int)))) (R := .slice xa5 xs5.length xc5 :: (.int .i64 xx6_0 :: (.int .i64 xx7_0 :: (.int .i64 xx7_1 :: (.int .i64 xx7_2 :: (.int .i64 xx7_3 :: P2)))))) (x := .int .i64 xx1_3) (by simpa using bs3) (by simp [HPn.out]) (.int .i64 (M4 : Int)); simpa using this
        have HQ2 := Lib.hid (show OwnL ((((w1.setCell ⟨g, k * 11 + 1, none⟩ (.int .i64 (M1 : Int))).setCell ⟨g, k * 11 + 2, none⟩ (.int .i64 (M2 : Int))).setCell ⟨g, k * 11 + 3, none⟩ (.int .i64 (M3 : Int))).setCell ⟨g, k * 11 + 4, none⟩ (.int .i64 (M4 : Int))) (List.replicate (mkL (es.take k) N).length KGraphics) P1 (mkL (es.take k) N) f1 ∧ OwnL ((((w1.setCell ⟨g, k * 11 + 1, none⟩ (.int .i64 (M1 : Int))).setCell ⟨g, k * 11 + 2, none⟩ (.int .i64 (M2 : Int))).setCell ⟨g, k * 11 + 3, none⟩ (.int .i64 (M3 : Int))).setCell ⟨g, k * 11 + 4, none⟩ (.int .i64 (M4 : Int))) (List.replicate (es.drop (k + 1)).length KGraphics) P2 (es.drop (k + 1)) f2 ∧ Own ((((w1.setCell ⟨g, k * 11 + 1, none⟩ (.int .i64 (M1 : Int))).setCell ⟨g, k * 11 + 2, none⟩ (.int .i64 (M2 : Int))).setCell ⟨g, k * 11 + 3, none⟩ (.int .i64 (M3 : Int))).setCell ⟨g, k * 11 + 4, none⟩ (.int .i64 (M4 : Int))) (.sl .int) [.slice xa0 xs0.length xc0] (.sl (mkL xs0 M0)) xF0 ∧ Own ((((w1.setCell ⟨g, k * 11 + 1, none⟩ (.int .i64 (M1 : Int))).setCell ⟨g, k * 11 + 2, none⟩ (.int .i64 (M2 : Int))).setCell ⟨g, k * 11 + 3, none⟩ (.int .i64 (M3 : Int))).setCell ⟨g, k * 11 + 4, none⟩ (.int .i64 (M4 : Int))) (.sl KPt) [.slice xa5 xs5.length xc5] (.sl xs5) xF5 from And.intro (ownL_set ((ownL_set ((ownL_set ((ownL_set (HQ1.out.1) ng0 _ (.int .i64 (M1 : Int)))) ng0 _ (.int .i64 (M2 : Int)))) ng0 _ (.int .i64 (M3 : Int)))) ng0 _ (.int .i64 (M4 : Int))) (And.intro (ownL_set ((ownL_set ((ownL_set ((ownL_set (HQ1.out.2.1) ng3 _ (.int .i64 (M1 : Int)))) ng3 _ (.int .i64 (M2 : Int)))) ng3 _ (.int .i64 (M3 : Int)))) ng3 _ (.int .i64 (M4 : Int))) (And.intro (own_setN ((own_setN ((own_setN ((own_setN (HQ1.out.2.2.1) ng1 _ (.int .i64 (M1 : Int)))) ng1 _ (.int .i64 (M2 : Int)))) ng1 _ (.int .i64 (M3 : Int)))) ng1 _ (.int .i64 (M4 : Int))) (own_setN ((own_setN ((own_setN ((own_setN (HQ1.out.2.2.2) ng2 _ (.int .i64 (M1 : Int)))) ng2 _ (.int .i64 (M2 : Int)))) ng2 _ (.int .i64 (M3 : Int)))) ng2 _ (.int .i64 (M4 : Int))))))
        have HP2 := Lib.hid bs4
        have HT2 := Lib.hid (show Turns w ((((w1.setCell ⟨g, k * 11 + 1, none⟩ (.int .i64 (M1 : Int))).setCell ⟨g, k * 11 + 2, none⟩ (.int .i64 (M2 : Int))).setCell ⟨g, k * 11 + 3, none⟩ (.int .i64 (M3 : Int))).setCell ⟨g, k * 11 + 4, none⟩ (.int .i64 (M4 : Int))) (fun b => b ∈ fp) from (turns_set (turns_set (turns_set (turns_set HT1.out sg _ (.int .i64 (M1 : Int))) sg _ (.int .i64 (M2 : Int))) sg _ (.int .i64 (M3 : Int))) sg _ (.int .i64 (M4 : Int))))
        clear bs1 bs2 bs3 bs4
        have ca5 : ((((w1.setCell ⟨g, k * 11 + 1, none⟩ (.int .i64 (M1 : Int))).setCell ⟨g, k * 11 + 2, none⟩ (.int .i64 (M2 : Int))).setCell ⟨g, k * 11 + 3, none⟩ (.int .i64 (M3 : Int))).setCell ⟨g, k * 11 + 4, none⟩ (.int .i64 (M4 : Int))).cell? ⟨g, k * 11 + 5, none⟩ = some (.slice xa5 xs5.length xc5) := by have := HP2.out.1 (k * 11 + 5) (.slice xa5 xs5.length xc5) (by rw [List.getElem?_append_right (by rw [HPn.out]; omega), HPn.out, Nat.add_sub_cancel_left]; rfl); exact this
        go_wp2_with fail
        ((with_reducible refine (mark_PointS _ M5 u1 p5 s5 (HQ2.out.2.2.2) nd2).mono ?_); rintro e w3 ⟨rfl, oo, bb⟩)
        rw [hM6]
        have HQ3 := Lib.hid (And.intro ((HQ2.out.1).turned bb d0_2) (And.intro ((HQ2.out.2.1).turned bb d3_2) (And.intro ((HQ2.out.2.2.1).turned bb d1_2) oo)))
        have HP3 := Lib.hid (HP2.out.turned bb ng2)
        have HT3 := Lib.hid (HT2.out.trans (bb.mono sb2))
        clear oo bb fz ca1 ca2 ca3 ca4 ca5
        have fz : ∀ o, w3.frozen? ⟨g, o, none⟩ = false := HP3.out.2.1
        have ca6 : w3.cell? ⟨g, k * 11 + 6, none⟩ = some (.int .i64 xx6_0) := by have := HP3.out.1 (k * 11 + 6) (.int .i64 xx6_0) (by rw [List.getElem?_append_right (by rw [HPn.out]; omega), HPn.out, Nat.add_sub_cancel_left]; rfl); exact this
        have ca7 : w3.cell? ⟨g, k * 11 + 7, none⟩ = some (.int .i64 xx7_0) := by have := HP3.out.1 (k * 11 + 7) (.int .i64 xx7_0) (by rw [List.getElem?_append_right (by rw [HPn.out]; omega), HPn.out, Nat.add_sub_cancel_left]; rfl); exact this
        have ca8 : w3.cell? ⟨g, k * 11 + 8, none⟩ = some (.int .i64 xx7_1) := by have := HP3.out.1 (k * 11 + 8) (.int .i64 xx7_1) (by rw [List.getElem?_append_right (by rw [HPn.out]; omega), HPn.out, Nat.add_sub_cancel_left]; rfl); exact this
        have ca9 : w3.cell? ⟨g, k * 11 + 9, none⟩ = some (.int .i64 xx7_2) := by have := HP3.out.1 (k * 11 + 9) (.int .i64 xx7_2) (by rw [List.getElem?_append_right (by rw [HPn.out]; omega), HPn.out, Nat.add_sub_cancel_left]; rfl); exact this
        have ca10 : w3.cell? ⟨g, k * 11 + 10, none⟩ = some (.int .i64 xx7_3) := by have := HP3.out.1 (k * 11 + 10) (.int .i64 xx7_3) (by rw [List.getElem?_append_right (by rw [HPn.out]; omega), HPn.out, Nat.add_sub_cancel_left]; rfl); exact this
        have bs6 : Blk (w3.setCell ⟨g, k * 11 + 6, none⟩ (.int .i64 (M6 : Int))) g (P1 ++ (.slice xa0 xs0.length xc0 :: (.int .i64 (M1 : Int) :: (.int .i64 (M2 : Int) :: (.int .i64 (M3 : Int) :: (.int .i64 (M4 : Int) :: (.slice xa5 xs5.length xc5 :: (.int .i64 (M6 : Int) :: (.int .i64 xx7_0 :: (.int .i64 xx7_1 :: (.int .i64 xx7_2 :: (.int .i64 xx7_3 :: P2)))))))))))) := by have := Blk.put (P := P1 ++ [.slice xa0 xs0.length xc0, .int .i64 (M1 : Int), .int .i64 (M2 : Int), .int .i64 (M3 : Int), .int .i64 (M4 : Int), .slice xa5 xs5.length xc5]) (o := k * 11 + 6) (w := w3) (R := .int .i64 xx7_0 :: (.int .i64 xx7_1 :: (.int .i64 xx7_2 :: (.int .i64 xx7_3 :: P2)))) (x := .int .i64 xx6_0) (by simpa using HP3.out) (by simp [HPn.out]) (.int .i64 (M6 : Int)); simpa using this
        have bs7 : Blk ((w3.setCell ⟨g, k * 11 + 6, none⟩ (.int .i64 (M6 : Int))).setCell ⟨g, k * 11 + 7, none⟩ (.int .i64 (M7 : Int))) g (P1 ++ (.slice xa0 xs0.length xc0 :: (.int .i64 (M1 : Int) :: (.int .i64 (M2 : Int) :: (.int .i64 (M3 : Int) :: (.int .i64 (M4 : Int) :: (.slice xa5 xs5.length xc5 :: (.int .i64 (M6 : Int) :: (.int .i64 (M7 : Int) :: (.int .i64 xx7_1 :: (.int .i64 xx7_2 :: (.int .i64 xx7_3 :: P2)))))))))))) := by have := Blk.put (P := P1 ++ [.slice xa0 xs0.length xc0, .int .i64 (M1 : Int), .int .i64 (M2 : Int), .int .i64 (M3 : Int), .int .i64 (M4 : Int), .slice xa5 xs5.length xc5, .int .i64 (M6 : Int)]) (o := k * 11 + 7) (w := (w3.setCell ⟨g, k * 11 + 6, none⟩ (.int .i64 (M6 : Int)))) (R := .int .i64 xx7_1 :: (.int .i64 xx7_2 :: (.int .i64 xx7_3 :: P2))) (x := .int .i64 xx7_0) (by simpa using bs6) (by simp [HPn.out]) (.int .i64 (M7 : Int)); simpa using this
        have bs8 : Blk (((w3.setCell ⟨g, k * 11 + 6, none⟩ (.int .i64 (M6 : Int))).setCell ⟨g, k * 11 + 7, none⟩ (.int .i64 (M7 : Int))).setCell ⟨g, k * 11 + 8, none⟩ (.int .i64 (M8 : Int))) g (P1 ++ (.slice xa0 xs0.length xc0 :: (.int .i64 (M1 : Int) :: (.int .i64 (M2 : Int) :: (.int .i64 (M3 : Int) :: (.int .i64 (M4 : Int) :: (.slice xa5 xs5.length xc5 :: (.int .i64 (M6 : Int) :: (.int .i64 (M7 : Int) :: (.int .i64 (M8 : Int) :: (.int .i64 xx7_2 :: (.int .i64 xx7_3 :: P2)))))))))))) := by have := Blk.put (P := P1 ++ [.slice xa0 xs0.length xc0, .int .i64 (M1 : Int), .int .i64 (M2 : Int), .int .i64 (M3 : Int), .int .i64 (M4 : Int), .slice xa5 xs5.length xc5, .int .i64 (M6 : Int), .int .i64 (M7 : Int)]) (o := k * 11 + 8) (w := ((w3.setCell ⟨g, k * 11 + 6, none⟩ (.int .i64 (M6 : Int))).setCell ⟨g, k * 11 + 7, none⟩ (.int .i64 (M7 : Int)))) (R := .int .i64 xx7_2 :: (.int .i64 xx7_3 :: P2)) (x := .int .i64 xx7_1) (by simpa using bs7) (by simp [HPn.out]) (.int .i64 (M8 : Int)); simpa using this
        have bs9 : Blk ((((w3.setCell ⟨g, k * 11 + 6, none⟩ (.int .i64 (M6 : Int))).setCell ⟨g, k * 11 + 7, none⟩ (.int .i64 (M7 : Int))).setCell ⟨g, k * 11 + 8, none⟩ (.int .i64 (M8 : Int))).setCell ⟨g, k * 11 + 9, none⟩ (.int .i64 (M9 : Int))) g (P1 ++ (.slice xa0 xs0.length xc0 :: (.int .i64 (M1 : Int) :: (.int .i64 (M2 : Int) :: (.int .i64 (M3 : Int) :: (.int .i64 (M4 : Int) :: (.slice xa5 xs5.length xc5 :: (.int .i64 (M6 : Int) :: (.int .i64 (M7 : Int) :: (.int .i64 (M8 : Int) :: (.int .i64 (M9 : Int) :: (.int .i64 xx7_3 :: P2)))))))))))) := by have := Blk.put (P := P1 ++ [.slice xa0 xs0.length xc0, .int .i64 (M1 : Int), .int .i64 (M2 : Int), .int .i64 (M3 : Int), .int .i64 (M4 : Int), .slice xa5 xs5.length xc5, .int .i64 (M6 : Int), .int .i64 (M7 : Int), .int .i64 (M8 : Int)]) (o := k * 11 + 9) (w := (((w3.setCell ⟨g, k * 11 + 6, none⟩ (.int .i64 (M6 : Int))).setCell ⟨g, k * 11 + 7, none⟩ (.int .i64 (M7 : Int))).setCell ⟨g, k * 11 + 8, none⟩ (.int .i64 (M8 : Int)))) (R := .int .i64 xx7_3 :: P2) (x := .int .i64 xx7_2) (by simpa using bs8) (by simp [HPn.out]) (.int .i64 (M9 : Int)); simpa using this
        have bs10 : Blk (((((w3.setCell ⟨g, k * 11 + 6, none⟩ (.int .i64 (M6 : Int))).setCell ⟨g, k * 11 + 7, none⟩ (.int .i64 (M7 : Int))).setCell ⟨g, k * 11 + 8, none⟩ (.int .i64 (M8 : Int))).setCell ⟨g, k * 11 + 9, none⟩ (.int .i64 (M9 : Int))).setCell ⟨g, k * 11 + 10, none⟩ (.int .i64 (M10 : Int))) g (P1 ++ (.slice xa0 xs0.length xc0 :: (.int .i64 (M1 : Int) :: (.int .i64 (M2 : Int) :: (.int .i64 (M3 : Int) :: (.int .i64 (M4 : Int) :: (.slice xa5 xs5.length xc5 :: (.int .i64 (M6 : Int) :: (.int .i64 (M7 : Int) :: (.int .i64 (M8 : Int) :: (.int .i64 (M9 : Int) :: (.int .i64 (M10 : Int) :: P2)))))))))))) := by have := Blk.put (P := P1 ++ [.slice xa0 xs0.length xc0, .int .i64 (M1 : Int), .int .i64 (M2 : Int), .int .i64 (M3 : Int), .int .i64 (M4 : Int), .slice xa5 xs5.length xc5, .int .i64 (M6 : Int), .int .i64 (M7 : Int), .int .i64 (M8 : Int), .int .i64 (M9 : Int)]) (o := k * 11 + 10) (w := ((((w3.setCell ⟨g, k * 11 + 6, none⟩ (.int .i64 (M6 : Int))).setCell ⟨g, k * 11 + 7, none⟩ (.int .i64 (M7 : Int))).setCell ⟨g, k * 11 + 8, none⟩ (.int .i64 (M8 : Int))).setCell ⟨g, k * 11 + 9, none⟩ (.int .i64 (M9 : Int)))) (R := P2) (x := .int .i64 xx7_3) (by simpa using bs9) (by simp [HPn.out]) (.int .i64 (M10 : Int)); simpa using this
        have HQ4 := Lib.hid (show OwnL (((((w3.setCell ⟨g, k * 11 + 6, none⟩ (.int .i64 (M6 : Int))).setCell ⟨g, k * 11 + 7, none⟩ (.int .i64 (M7 : Int))).setCell ⟨g, k * 11 + 8, none⟩ (.int .i64 (M8 : Int))).setCell ⟨g, k * 11 + 9, none⟩ (.int .i64 (M9 : Int))).setCell ⟨g, k * 11 + 10, none⟩ (.int .i64 (M10 : Int))) (List.replicate (mkL (es.take k) N).length KGraphics) P1 (mkL (es.take k) N) f1 ∧ OwnL (((((w3.setCell ⟨g, k * 11 + 6, none⟩ (.int .i64 (M6 : Int))).setCell ⟨g, k * 11 + 7, none⟩ (.int .i64 (M7 : Int))).setCell ⟨g, k * 11 + 8, none⟩ (.int .i64 (M8 : Int))).setCell ⟨g, k * 11 + 9, none⟩ (.int .i64 (M9 : Int))).setCell ⟨g, k * 11 + 10, none⟩ (.int .i64 (M10 : Int))) (List.replicate (es.drop (k + 1)).length KGraphics) P2 (es.drop (k + 1)) f2 ∧ Own (((((w3.setCell ⟨g, k * 11 + 6, none⟩ (.int .i64 (M6 : Int))).setCell ⟨g, k * 11 + 7, none⟩ (.int .i64 (M7 : Int))).setCell ⟨g, k * 11 + 8, none⟩ (.int .i64 (M8 : Int))).setCell ⟨g, k * 11 + 9, none⟩ (.int .i64 (M9 : Int))).setCell ⟨g, k * 11 + 10, none⟩ (.int .i64 (M10 : Int))) (.sl .int) [.slice xa0 xs0.length xc0] (.sl (mkL xs0 M0)) xF0 ∧ Own (((((w3.setCell ⟨g, k * 11 + 6, none⟩ (.int .i64 (M6 : Int))).setCell ⟨g, k * 11 + 7, none⟩ (.int .i64 (M7 : Int))).setCell ⟨g, k * 11 + 8, none⟩ (.int .i64 (M8 : Int))).setCell ⟨g, k * 11 + 9, none⟩ (.int .i64 (M9 : Int))).setCell ⟨g, k * 11 + 10, none⟩ (.int .i64 (M10 : Int))) (.sl KPt) [.slice xa5 xs5.length xc5] (.sl (mkL xs5 M5)) xF5 from And.intro (ownL_set ((ownL_set ((ownL_set ((ownL_set ((ownL_set (HQ3.out.1) ng0 _ (.int .i64 (M6 : Int)))) ng0 _ (.int .i64 (M7 : Int)))) ng0 _ (.int .i64 (M8 : Int)))) ng0 _ (.int .i64 (M9 : Int)))) ng0 _ (.int .i64 (M10 : Int))) (And.intro (ownL_set ((ownL_set ((ownL_set ((ownL_set ((ownL_set (HQ3.out.2.1) ng3 _ (.int .i64 (M6 : Int)))) ng3 _ (.int .i64 (M7 : Int)))) ng3 _ (.int .i64 (M8 : Int)))) ng3 _ (.int .i64 (M9 : Int)))) ng3 _ (.int .i64 (M10 : Int))) (And.intro (own_setN ((own_setN ((own_setN ((own_setN ((own_setN (HQ3.out.2.2.1) ng1 _ (.int .i64 (M6 : Int)))) ng1 _ (.int .i64 (M7 : Int)))) ng1 _ (.int .i64 (M8 : Int)))) ng1 _ (.int .i64 (M9 : Int)))) ng1 _ (.int .i64 (M10 : Int))) (own_setN ((own_setN ((own_setN ((own_setN ((own_setN (HQ3.out.2.2.2) ng2 _ (.int .i64 (M6 : Int)))) ng2 _ (.int .i64 (M7 : Int)))) ng2 _ (.int .i64 (M8 : Int)))) ng2 _ (.int .i64 (M9 : Int)))) ng2 _ (.int .i64 (M10 : Int))))))
        have HP4 := Lib.hid bs10
        have HT4 := Lib.hid (show Turns w (((((w3.setCell ⟨g, k * 11 + 6, none⟩ (.int .i64 (M6 : Int))).setCell ⟨g, k * 11 + 7, none⟩ (.int .i64 (M7 : Int))).setCell ⟨g, k * 11 + 8, none⟩ (.int .i64 (M8 : Int))).setCell ⟨g, k * 11 + 9, none⟩ (.int .i64 (M9 : Int))).setCell ⟨g, k * 11 + 10, none⟩ (.int .i64 (M10 : Int))) (fun b => b ∈ fp) from (turns_set (turns_set (turns_set (turns_set (turns_set HT3.out sg _ (.int .i64 (M6 : Int))) sg _ (.int .i64 (M7 : Int))) sg _ (.int .i64 (M8 : Int))) sg _ (.int .i64 (M9 : Int))) sg _ (.int .i64 (M10 : Int))))
        clear bs6 bs7 bs8 bs9 bs10
        have HU := Lib.hid (Own.unpick (n := n) (c := c) HP4.out (HQ4.out.1) (show OwnL _ LGraphics (.slice xa0 xs0.length xc0 :: (.int .i64 (M1 : Int) :: (.int .i64 (M2 : Int) :: (.int .i64 (M3 : Int) :: (.int .i64 (M4 : Int) :: (.slice xa5 xs5.length xc5 :: (.int .i64 (M6 : Int) :: (.int .i64 (M7 : Int) :: (.int .i64 (M8 : Int) :: (.int .i64 (M9 : Int) :: (.int .i64 (M10 : Int) :: []))))))))))) (.sl (mkL xs0 M0) :: (.int ((M1 : Nat) : Int) :: (.int ((M2 : Nat) : Int) :: (.int ((M3 : Nat) : Int) :: (.int ((M4 : Nat) : Int) :: (.sl (mkL xs5 M5) :: (.int ((M6 : Nat) : Int) :: (.int ((M7 : Nat) : Int) :: (.int ((M8 : Nat) : Int) :: (.int ((M9 : Nat) : Int) :: (.int ((M10 : Nat) : Int) :: ([])))))))))))) (xF0 ++ (xF5 ++ ([]))) from .cons (cs := [.slice xa0 xs0.length xc0]) (fp := xF0) (HQ4.out.2.2.1) (.cons (cs := [.int .i64 (M1 : Int)]) (fp := []) (.int (M1 : Int)) (.cons (cs := [.int .i64 (M2 : Int)]) (fp := []) (.int (M2 : Int)) (.cons (cs := [.int .i64 (M3 : Int)]) (fp := []) (.int (M3 : Int)) (.cons (cs := [.int .i64 (M4 : Int)]) (fp := []) (.int (M4 : Int)) (.cons (cs := [.slice xa5 xs5.length xc5]) (fp := xF5) (HQ4.out.2.2.2) (.cons (cs := [.int .i64 (M6 : Int)]) (fp := []) (.int (M6 : Int)) (.cons (cs := [.int .i64 (M7 : Int)]) (fp := []) (.int (M7 : Int)) (.cons (cs := [.int .i64 (M8 : Int)]) (fp := []) (.int (M8 : Int)) (.cons (cs := [.int .i64 (M9 : Int)]) (fp := []) (.int (M9 : Int)) (.cons (cs := [.int .i64 (M10 : Int)]) (fp := []) (.int (M10 : Int)) (.nil)))))))))))) (HQ4.out.2.1) HM.out.2.2.2.1 HM.out.2.2.2.2.1)
        go_wp2
        go_roundw
        case rel => exact ⟨k + 1, by omega, by go_num, by rw [HM.out.1], by rw [HM.out.2.1, HM.out.2.2.1, List.append_assoc]; exact HU.out, HT4.out⟩
        case measure => simp [intOf]; omega
      · obtain rfl : k = n := by omega
        have HY := Lib.hid (And.intro (show es.take k = es by rw [← H.out.2.2.1, List.take_length]) (show es.drop k = [] by rw [← H.out.2.2.1, List.drop_length]))
        have HH := Lib.hid (And.intro hown htn)
        clear hown htn
        go_wp2
        go_ret
        exact ⟨ret_int (by rw [HY.out.1]), by have := HH.out.1; rw [HY.out.1, HY.out.2, List.append_nil] at this; exact this, HH.out.2⟩
end Go.Proofs.YtjmfgbbngocodaaGreat.Own

