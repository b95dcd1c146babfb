/-
  Texts of this seat, laid together: Rbo12, Rs12, MkSO, HdSO, Of12, Lw12
-/
import Derived.WalkKit
import Derived.Deep.DeepCutAuto
import Derived.Deep.QuietTactic
import Derived.BigQuiet
import Derived.Deep.RegionHeld3
import Derived.Handy
import Derived.Test.YtbdjnfnphilklaaGreatV33
import Derived.Test.YtbdjnfnphilklaaGreatV36
import Derived.Test.YtbdjnfnphilklaaGreatV10
namespace Go.Proofs.YtbdjnfnphilklaaGreat.Own
open Go.ChangeShapes Go.WideShapes Go.ChangeAt Go.RowKit
open Kit Slabs Ints
set_option linter.unusedVariables false
set_option linter.unusedSimpArgs false
set_option linter.unnecessarySimpa false
theorem rbR_le (ht bd : Int) (l : List Ob) : (rbR ht bd l).length + tot (rbR ht bd l) ≤ 1048576 := by
  unfold rbR
  split
  · rename_i hb
    obtain ⟨b0, b1, b2, b3, b4, b5⟩ := bn_rows hb
    obtain ⟨h1, h2⟩ := foldF (bd * ht) l (whR_len ht) (whR_32 ht)
    rw [tot_32 h2, h1]; omega
  · simp [tot]
end Go.Proofs.YtbdjnfnphilklaaGreat.Own
namespace Go.Proofs.YtbdjnfnphilklaaGreat.Own
open Go.ChangeShapes Go.WideShapes Go.ChangeAt Go.RowKit
open Kit Slabs Ints
open Go.Proofs.YtbdjnfnphilklaaGreat.Ins (Pt inS orow obK)
set_option linter.unusedVariables false
set_option linter.unusedSimpArgs false
set_option linter.unnecessarySimpa false
set_option maxRecDepth 100000
theorem pnF_bad {f : Int} {o : Ob} (h : okO o = false) (R : List (List Int)) : pnF f R o = R := by
  have hnone : ∀ k, rowsL o.path o.gray o.x0 o.y0 o.x1 o.y1 f k = [] := by
    intro k
    unfold rowsL Ins.orow
    rw [show Ins.obx o.path o.gray o.x0 o.y0 o.x1 o.y1 = ⟨0, 0, 0, 0⟩ from Ins.obx_no h, if_neg]
    rintro ⟨h1, h2⟩
    have h1' : (0 : Int) ≤ f + k := h1
    have h2' : f + (k : Int) < 0 := h2
    omega
  unfold pnF pntR pntK
  apply List.ext_getElem
  · simp
  · intro i h1 h2
    rw [List.getElem_mapIdx, if_pos h2, hnone i, pnt_nil]
theorem rowsB_pnF {f : Int} {R : List (List Int)} {o : Ob} (h : rowsB R = true) : rowsB (pnF f R o) = true := by
  cases ho : okO o
  · rw [pnF_bad ho]; exact h
  · have hg : grayB o.gray = true := by simp only [okO, Ins.obK, Bool.and_eq_true] at ho; exact ho.1.2
    simp only [rowsB, Bool.and_eq_true, decide_eq_true_eq, List.all_eq_true] at h ⊢
    refine ⟨by rw [pnF_len]; exact h.1, fun x hx => ?_⟩
    obtain ⟨i, hi, rfl⟩ := List.mem_iff_getElem.1 hx
    simp only [pnF, pntR, pntK, List.getElem_mapIdx]
    split
    · exact rowB_pnt hg (h.2 _ (List.getElem_mem _))
    · exact h.2 _ (List.getElem_mem _)
theorem rowsB_foldF (f : Int) (l : List Ob) : ∀ {R : List (List Int)}, rowsB R = true → rowsB (l.foldl (pnF f) R) = true := by
  induction l with
  | nil => intro R h; exact h
  | cons o l ih => intro R h; exact ih (rowsB_pnF h)
theorem whR_rows {ht : Int} (h : ht ≤ 32) : rowsB (whR ht) = true := by
  simp only [rowsB, Bool.and_eq_true, decide_eq_true_eq, List.all_eq_true]
  refine ⟨by rw [whR_len]; omega, fun x hx => ?_⟩
  rw [(List.mem_replicate.1 hx).2]; decide
theorem poR_F {f : Int} {R : List (List Int)} (o : Ob) (h : rowsB R = true) (hf : 0 ≤ f ∧ f ≤ 32) : poR R f o.path o.gray o.x0 o.y0 o.x1 o.y1 = pnF f R o := by
  cases ho : okO o
  · rw [pnF_bad ho]
    have : obK o.path o.gray o.x0 o.y0 o.x1 o.y1 = false := ho
    simp [poR, poB, this]
  · have : obK o.path o.gray o.x0 o.y0 o.x1 o.y1 = true := ho
    simp [poR, poB, this, h, hf, pnF]
theorem whitesh_spec (w : World) (ht : Int) (h : 0 < ht ∧ ht ≤ 32) : Calls Tryz.prog 96 #[.int .i64 ht] w (SsNew (whR ht) w) := by
  have := whites_spec w ht
  rw [if_pos (by omega)] at this
  exact this
end Go.Proofs.YtbdjnfnphilklaaGreat.Own
namespace Go.Proofs.YtbdjnfnphilklaaGreat.Own
open Go.ChangeShapes Go.WideShapes Go.ChangeAt Go.RowKit
open Kit Slabs Ints
set_option linter.unusedVariables false
set_option linter.unusedSimpArgs false
set_option linter.unnecessarySimpa false
set_option maxRecDepth 100000
set_option maxHeartbeats 16000000 in
theorem mark_ObjectS (w : World) (N : Nat) {a : Option Addr} {n c : Nat} {es : List Dt} {fp : List Nat} (hn : es.length + bulkL es ≤ 1048576) (h0 : 0 < N) (hN : N + cntL es ≤ 1000000000) (h : Own w (.sl KObject) [.slice a n c] (.sl es) fp) (hd : fp.Nodup) :
    Calls Tryz.prog 49 #[.slice a n c, .int .i64 (N : Int)] w fun e w' => e = .returned (.int .i64 ((N + cntL es : Nat) : Int)) ∧ Own w' (.sl KObject) [.slice a n c] (.sl (mkL es N)) fp ∧ Turns w w' (fun b => b ∈ fp) := by
  obtain ⟨hl, hr⟩ := h.row
  by_cases hz : n = 0
  · subst hz
    have hes : es = [] := List.eq_nil_of_length_eq_zero hl
    subst hes
    have HH := Lib.hid h
    clear h hr hd
    go_enter Tryz.func49, Tryz.ntmps49
    go_wp2
    go_rounds 1
    go_ret
    exact ⟨ret_int (by simp [cntL]), HH.out, Turns.refl _ _⟩
  · obtain ⟨g, rfl, hgf⟩ := hr hz
    have H := Lib.hid (And.intro h (And.intro hd (And.intro hl hgf)))
    have hn1 : n ≤ 1048576 := by omega
    have HB := Lib.hid (And.intro hn hN)
    clear h hr hl hd hn hN hgf
    go_enter Tryz.func49, Tryz.ntmps49
    go_wp2
    go_loopw [1, 5] (fun v1 i wr => ∃ k : Nat, k ≤ n ∧ i = .int .i64 (k : Int) ∧ v1 = .int .i64 ((N + cntL (es.take k) : Nat) : Int) ∧ Own wr (.sl KObject) [.slice (some ⟨g, 0, none⟩) n c] (.sl (mkL (es.take k) N ++ es.drop k)) fp ∧ Turns w wr (fun b => b ∈ fp)) (fun _ i _ => n - (intOf i).toNat)
    case atStart => exact ⟨0, Nat.zero_le _, rfl, by simp [cntL], by simpa [mkL] using H.out.1, Turns.refl _ _⟩
    case round =>
      obtain ⟨k, hk, rfl, rfl, hown, htn⟩ := hrel
      by_cases hlt : k < n
      · have hke : k < es.length := by rw [H.out.2.2.1]; exact hlt
        have hks : (es.take k).length = k := by rw [List.length_take]; omega
        have hks2 : (mkL (es.take k) N).length = k := by rw [mkL_length, hks]
        rw [drop_elt hke] at hown
        obtain ⟨P1, cs, P2, f1, fq, f2, ds, ed, hfp, hP1, B0, O1, OE, O2, hnn, hnc⟩ := hown.pick
        rw [hks2] at hP1
        have hP1n : P1.length = k * 6 := hP1
        have htk := take_cnt hke
        have hpart := cnt_parts es (k + 1)
        have hbk := bulk_elt hke
        have hmke := take_mk (N := N) hke
        rw [ed] at htk hbk hmke
        obtain ⟨xa0, xc0, xs0, xx1_0, xx2_0, xx2_1, xx2_2, xx2_3, xF0, rfl, rfl, rfl, ox0⟩ := inv_Object OE
        obtain ⟨M0, hM0⟩ : ∃ M, N + cntL (es.take k) = M := ⟨_, rfl⟩
        rw [hM0] at hmke ⊢
        obtain ⟨M1, hM1⟩ : ∃ M, M0 + cntL xs0 = M := ⟨_, rfl⟩
        obtain ⟨M2, hM2⟩ : ∃ M, M1 + 1 = M := ⟨_, rfl⟩
        obtain ⟨M3, hM3⟩ : ∃ M, M2 + 1 = M := ⟨_, rfl⟩
        obtain ⟨M4, hM4⟩ : ∃ M, M3 + 1 = M := ⟨_, rfl⟩
        obtain ⟨M5, hM5⟩ : ∃ M, M4 + 1 = M := ⟨_, rfl⟩
        obtain ⟨M6, hM6⟩ : ∃ M, M5 + 1 = M := ⟨_, rfl⟩
        simp only [Dt.mk, mkL, Dt.cnt, hM1, hM2, hM3, hM4, hM5, hM6] at hmke
        have hM : N + cntL (es.take (k + 1)) = M6 := by rw [htk, ← Nat.add_assoc, hM0]; simp only [Dt.cnt, cntL]; omega
        simp only [Dt.bulk, bulkL] at hbk
        have hMb : M6 ≤ 1000000000 := by have := HB.out.2; omega
        have hMp : 0 < M0 := by omega
        have u0 : xs0.length + bulkL xs0 ≤ 1048576 := by have := HB.out.1; omega
        have hnd : (g :: (f1 ++ ((xF0 ++ ([])) ++ f2))).Nodup := hfp ▸ H.out.2.1
        have hnd2 := (List.nodup_cons.1 hnd).2
        have hng := (List.nodup_cons.1 hnd).1
        have hnd3 : (f1 ++ (xF0 ++ f2)).Nodup := by simpa using hnd2
        have hng3 : g ∉ (f1 ++ (xF0 ++ f2)) := by simpa using hng
        obtain ⟨nd0, r0, x0⟩ := nodup_parts hnd3
        obtain ⟨nd1, r1, x1⟩ := nodup_parts r0
        have nd2 := r1
        have d0_1 : ∀ b ∈ f1, b ∉ xF0 := fun b ha hb => x0 b ha (List.mem_append_left _ hb)
        have d1_0 : ∀ b ∈ xF0, b ∉ f1 := fun b ha hb => d0_1 b hb ha
        have d0_2 : ∀ b ∈ f1, b ∉ f2 := fun b ha hb => x0 b ha (List.mem_append_right _ (hb))
        have d2_0 : ∀ b ∈ f2, b ∉ f1 := fun b ha hb => d0_2 b hb ha
        have d1_2 : ∀ b ∈ xF0, b ∉ f2 := fun b ha hb => x1 b ha (hb)
        have d2_1 : ∀ b ∈ f2, b ∉ xF0 := fun b ha hb => d1_2 b hb ha
        have ng0 : g ∉ f1 := fun hb => hng3 (List.mem_append_left _ hb)
        have sb0 : ∀ b ∈ f1, b ∈ fp := fun b hb => by rw [hfp]; simp [hb]
        have ng1 : g ∉ xF0 := fun hb => hng3 (List.mem_append_right _ (List.mem_append_left _ hb))
        have sb1 : ∀ b ∈ xF0, b ∈ fp := fun b hb => by rw [hfp]; simp [hb]
        have ng2 : g ∉ f2 := fun hb => hng3 (List.mem_append_right _ (List.mem_append_right _ (hb)))
        have sb2 : ∀ b ∈ f2, b ∈ fp := fun b hb => by rw [hfp]; simp [hb]
        have sg : g ∈ fp := by rw [hfp]; simp
        have HM := Lib.hid (And.intro hM (And.intro hmke (And.intro hfp (And.intro hnn (And.intro hnc hks2)))))
        have HP := Lib.hid B0
        have HQ0 := Lib.hid (And.intro O1 (And.intro O2 ox0))
        have HT0 := Lib.hid htn
        have b0 : M0 ≤ 1000000000 := by omega
        have p0 : 0 < M0 := by omega
        have s0 : M0 + cntL xs0 ≤ 1000000000 := by omega
        have e2 : (M1 : Int) + 1 = (M2 : Int) := by omega
        have b1 : M1 ≤ 1000000000 := by omega
        have e3 : (M2 : Int) + 1 = (M3 : Int) := by omega
        have b2 : M2 ≤ 1000000000 := by omega
        have e4 : (M3 : Int) + 1 = (M4 : Int) := by omega
        have b3 : M3 ≤ 1000000000 := by omega
        have e5 : (M4 : Int) + 1 = (M5 : Int) := by omega
        have b4 : M4 ≤ 1000000000 := by omega
        have e6 : (M5 : Int) + 1 = (M6 : Int) := by omega
        have b5 : M5 ≤ 1000000000 := by omega
        have i0 : (0 : Int) ≤ (k : Int) := by omega
        have i1 : (k : Int) < (n : Int) := by omega
        have HPn := Lib.hid hP1n
        clear hown OE O1 O2 B0 htn hP1 hP1n htk hpart hmke hM hM0 hbk hke hks hks2 hnd hnd2 hnd3 hng hng3 hnn hnc ed hfp ox0 r0 x0 x1
        have ca0 : wr.cell? ⟨g, k * 6, none⟩ = some (.slice xa0 xs0.length xc0) := by have := HP.out.1 (k * 6 + 0) (.slice xa0 xs0.length xc0) (by rw [List.getElem?_append_right (by rw [HPn.out]; omega), HPn.out, Nat.add_sub_cancel_left]; rfl); exact this
        go_wp2_with fail
        ((with_reducible refine (mark_PointS _ M0 u0 p0 s0 (HQ0.out.2.2) nd1).mono ?_); rintro e w1 ⟨rfl, oo, bb⟩)
        rw [hM1]
        have HQ1 := Lib.hid (And.intro ((HQ0.out.1).turned bb d0_1) (And.intro ((HQ0.out.2.1).turned bb d2_1) oo))
        have HP1 := Lib.hid (HP.out.turned bb ng1)
        have HT1 := Lib.hid (HT0.out.trans (bb.mono sb1))
        clear oo bb ca0
        have fz : ∀ o, w1.frozen? ⟨g, o, none⟩ = false := HP1.out.2.1
        have ca1 : w1.cell? ⟨g, k * 6 + 1, none⟩ = some (.int .i64 xx1_0) := by have := HP1.out.1 (k * 6 + 1) (.int .i64 xx1_0) (by rw [List.getElem?_append_right (by rw [HPn.out]; omega), HPn.out, Nat.add_sub_cancel_left]; rfl); exact this
        have ca2 : w1.cell? ⟨g, k * 6 + 2, none⟩ = some (.int .i64 xx2_0) := by have := HP1.out.1 (k * 6 + 2) (.int .i64 xx2_0) (by rw [List.getElem?_append_right (by rw [HPn.out]; omega), HPn.out, Nat.add_sub_cancel_left]; rfl); exact this
        have ca3 : w1.cell? ⟨g, k * 6 + 3, none⟩ = some (.int .i64 xx2_1) := by have := HP1.out.1 (k * 6 + 3) (.int .i64 xx2_1) (by rw [List.getElem?_append_right (by rw [HPn.out]; omega), HPn.out, Nat.add_sub_cancel_left]; rfl); exact this
        have ca4 : w1.cell? ⟨g, k * 6 + 4, none⟩ = some (.int .i64 xx2_2) := by have := HP1.out.1 (k * 6 + 4) (.int .i64 xx2_2) (by rw [List.getElem?_append_right (by rw [HPn.out]; omega), HPn.out, Nat.add_sub_cancel_left]; rfl); exact this
        have ca5 : w1.cell? ⟨g, k * 6 + 5, none⟩ = some (.int .i64 xx2_3) := by have := HP1.out.1 (k * 6 + 5) (.int .i64 xx2_3) (by rw [List.getElem?_append_right (by rw [HPn.out]; omega), HPn.out, Nat.add_sub_cancel_left]; rfl); exact this
        have bs1 : Blk (w1.setCell ⟨g, k * 6 + 1, none⟩ (.int .i64 (M1 : Int))) g (P1 ++ (.slice xa0 xs0.length xc0 :: (.int .i64 (M1 : Int) :: (.int .i64 xx2_0 :: (.int .i64 xx2_1 :: (.int .i64 xx2_2 :: (.int .i64 xx2_3 :: P2))))))) := by have := Blk.put (P := P1 ++ [.slice xa0 xs0.length xc0]) (o := k * 6 + 1) (w := w1) (R := .int .i64 xx2_0 :: (.int .i64 xx2_1 :: (.int .i64 xx2_2 :: (.int .i64 xx2_3 :: P2)))) (x := .int .i64 xx1_0) (by simpa using HP1.out) (by simp [HPn.out]) (.int .i64 (M1 : Int)); simpa using this
        have bs2 : Blk ((w1.setCell ⟨g, k * 6 + 1, none⟩ (.int .i64 (M1 : Int))).setCell ⟨g, k * 6 + 2, none⟩ (.int .i64 (M2 : Int))) g (P1 ++ (.slice xa0 xs0.length xc0 :: (.int .i64 (M1 : Int) :: (.int .i64 (M2 : Int) :: (.int .i64 xx2_1 :: (.int .i64 xx2_2 :: (.int .i64 xx2_3 :: P2))))))) := by have := Blk.put (P := P1 ++ [.slice xa0 xs0.length xc0, .int .i64 (M1 : Int)]) (o := k * 6 + 2) (w := (w1.setCell ⟨g, k * 6 + 1, none⟩ (.int .i64 (M1 : Int)))) (R := .int .i64 xx2_1 :: (.int .i64 xx2_2 :: (.int .i64 xx2_3 :: P2))) (x := .int .i64 xx2_0) (by simpa using bs1) (by simp [HPn.out]) (.int .i64 (M2 : Int)); simpa using this
        have bs3 : Blk (((w1.setCell ⟨g, k * 6 + 1, none⟩ (.int .i64 (M1 : Int))).setCell ⟨g, k * 6 + 2, none⟩ (.int .i64 (M2 : Int))).setCell ⟨g, k * 6 + 3, none⟩ (.int .i64 (M3 : Int))) g (P1 ++ (.slice xa0 xs0.length xc0 :: (.int .i64 (M1 : Int) :: (.int .i64 (M2 : Int) :: (.int .i64 (M3 : Int) :: (.int .i64 xx2_2 :: (.int .i64 xx2_3 :: P2))))))) := by have := Blk.put (P := P1 ++ [.slice xa0 xs0.length xc0, .int .i64 (M1 : Int), .int .i64 (M2 : Int)]) (o := k * 6 + 3) (w := ((w1.setCell ⟨g, k * 6 + 1, none⟩ (.int .i64 (M1 : Int))).setCell ⟨g, k * 6 + 2, none⟩ (.int .i64 (M2 : Int)))) (R := .int .i64 xx2_2 :: (.int .i64 xx2_3 :: P2)) (x := .int .i64 xx2_1) (by simpa using bs2) (by simp [HPn.out]) (.int .i64 (M3 : Int)); simpa using this
        have bs4 : Blk ((((w1.setCell ⟨g, k * 6 + 1, none⟩ (.int .i64 (M1 : Int))).setCell ⟨g, k * 6 + 2, none⟩ (.int .i64 (M2 : Int))).setCell ⟨g, k * 6 + 3, none⟩ (.int .i64 (M3 : Int))).setCell ⟨g, k * 6 + 4, none⟩ (.int .i64 (M4 : Int))) g (P1 ++ (.slice xa0 xs0.length xc0 :: (.int .i64 (M1 : Int) :: (.int .i64 (M2 : Int) :: (.int .i64 (M3 : Int) :: (.int .i64 (M4 : Int) :: (.int .i64 xx2_3 :: P2))))))) := by have := Blk.put (P := P1 ++ [.slice xa0 xs0.length xc0, .int .i64 (M1 : Int), .int .i64 (M2 : Int), .int .i64 (M3 : Int)]) (o := k * 6 + 4) (w := (((w1.setCell ⟨g, k * 6 + 1, none⟩ (.int .i64 (M1 : Int))).setCell ⟨g, k * 6 + 2, none⟩ (.int .i64 (M2 : Int))).setCell ⟨g, k * 6 + 3, none⟩ (.int .i64 (M3 : Int)))) (R := .int .i64 xx2_3 :: P2) (x := .int .i64 xx2_2) (by simpa using bs3) (by simp [HPn.out]) (.int .i64 (M4 : Int)); simpa using this
        have bs5 : Blk (((((w1.setCell ⟨g, k * 6 + 1, none⟩ (.int .i64 (M1 : Int))).setCell ⟨g, k * 6 + 2, none⟩ (.int .i64 (M2 : Int))).setCell ⟨g, k * 6 + 3, none⟩ (.int .i64 (M3 : Int))).setCell ⟨g, k * 6 + 4, none⟩ (.int .i64 (M4 : Int))).setCell ⟨g, k * 6 + 5, none⟩ (.int .i64 (M5 : Int))) g (P1 ++ (.slice xa0 xs0.length xc0 :: (.int .i64 (M1 : Int) :: (.int .i64 (M2 : Int) :: (.int .i64 (M3 : Int) :: (.int .i64 (M4 : Int) :: (.int .i64 (M5 : Int) :: P2))))))) := by have := Blk.put (P := P1 ++ [.slice xa0 xs0.length xc0, .int .i64 (M1 : Int), .int .i64 (M2 : Int), .int .i64 (M3 : Int), .int .i64 (M4 : Int)]) (o := k * 6 + 5) (w := ((((w1.setCell ⟨g, k * 6 + 1, none⟩ (.int .i64 (M1 : Int))).setCell ⟨g, k * 6 + 2, none⟩ (.int .i64 (M2 : Int))).setCell ⟨g, k * 6 + 3, none⟩ (.int .i64 (M3 : Int))).setCell ⟨g, k * 6 + 4, none⟩ (.int .i64 (M4 : Int)))) (R := P2) (x := .int .i64 xx2_3) (by simpa using bs4) (by simp [HPn.out]) (.int .i64 (M5 : Int)); simpa using this
        have HQ2 := Lib.hid (show OwnL (((((w1.setCell ⟨g, k * 6 + 1, none⟩ (.int .i64 (M1 : Int))).setCell ⟨g, k * 6 + 2, none⟩ (.int .i64 (M2 : Int))).setCell ⟨g, k * 6 + 3, none⟩ (.int .i64 (M3 : Int))).setCell ⟨g, k * 6 + 4, none⟩ (.int .i64 (M4 : Int))).setCell ⟨g, k * 6 + 5, none⟩ (.int .i64 (M5 : Int))) (List.replicate (mkL (es.take k) N).length KObject) P1 (mkL (es.take k) N) f1 ∧ OwnL (((((w1.setCell ⟨g, k * 6 + 1, none⟩ (.int .i64 (M1 : Int))).setCell ⟨g, k * 6 + 2, none⟩ (.int .i64 (M2 : Int))).setCell ⟨g, k * 6 + 3, none⟩ (.int .i64 (M3 : Int))).setCell ⟨g, k * 6 + 4, none⟩ (.int .i64 (M4 : Int))).setCell ⟨g, k * 6 + 5, none⟩ (.int .i64 (M5 : Int))) (List.replicate (es.drop (k + 1)).length KObject) P2 (es.drop (k + 1)) f2 ∧ Own (((((w1.setCell ⟨g, k * 6 + 1, none⟩ (.int .i64 (M1 : Int))).setCell ⟨g, k * 6 + 2, none⟩ (.int .i64 (M2 : Int))).setCell ⟨g, k * 6 + 3, none⟩ (.int .i64 (M3 : Int))).setCell ⟨g, k * 6 + 4, none⟩ (.int .i64 (M4 : Int))).setCell ⟨g, k * 6 + 5, none⟩ (.int .i64 (M5 : Int))) (.sl KPt) [.slice xa0 xs0.length xc0] (.sl (mkL xs0 M0)) xF0 from And.intro (ownL_set ((ownL_set ((ownL_set ((ownL_set ((ownL_set (HQ1.out.1) ng0 _ (.int .i64 (M1 : Int)))) ng0 _ (.int .i64 (M2 : Int)))) ng0 _ (.int .i64 (M3 : Int)))) ng0 _ (.int .i64 (M4 : Int)))) ng0 _ (.int .i64 (M5 : Int))) (And.intro (ownL_set ((ownL_set ((ownL_set ((ownL_set ((ownL_set (HQ1.out.2.1) ng2 _ (.int .i64 (M1 : Int)))) ng2 _ (.int .i64 (M2 : Int)))) ng2 _ (.int .i64 (M3 : Int)))) ng2 _ (.int .i64 (M4 : Int)))) ng2 _ (.int .i64 (M5 : Int))) (own_setN ((own_setN ((own_setN ((own_setN ((own_setN (HQ1.out.2.2) ng1 _ (.int .i64 (M1 : Int)))) ng1 _ (.int .i64 (M2 : Int)))) ng1 _ (.int .i64 (M3 : Int)))) ng1 _ (.int .i64 (M4 : Int)))) ng1 _ (.int .i64 (M5 : Int)))))
        have HP2 := Lib.hid bs5
        have HT2 := Lib.hid (show Turns w (((((w1.setCell ⟨g, k * 6 + 1, none⟩ (.int .i64 (M1 : Int))).setCell ⟨g, k * 6 + 2, none⟩ (.int .i64 (M2 : Int))).setCell ⟨g, k * 6 + 3, none⟩ (.int .i64 (M3 : Int))).setCell ⟨g, k * 6 + 4, none⟩ (.int .i64 (M4 : Int))).setCell ⟨g, k * 6 + 5, none⟩ (.int .i64 (M5 : Int))) (fun b => b ∈ fp) from (turns_set (turns_set (turns_set (turns_set (turns_set HT1.out sg _ (.int .i64 (M1 : Int))) sg _ (.int .i64 (M2 : Int))) sg _ (.int .i64 (M3 : Int))) sg _ (.int .i64 (M4 : Int))) sg _ (.int .i64 (M5 : Int))))
        clear bs1 bs2 bs3 bs4 bs5
        have HU := Lib.hid (Own.unpick (n := n) (c := c) HP2.out (HQ2.out.1) (show OwnL _ LObject (.slice xa0 xs0.length xc0 :: (.int .i64 (M1 : Int) :: (.int .i64 (M2 : Int) :: (.int .i64 (M3 : Int) :: (.int .i64 (M4 : Int) :: (.int .i64 (M5 : Int) :: [])))))) (.sl (mkL xs0 M0) :: (.int ((M1 : Nat) : Int) :: (.int ((M2 : Nat) : Int) :: (.int ((M3 : Nat) : Int) :: (.int ((M4 : Nat) : Int) :: (.int ((M5 : Nat) : Int) :: ([]))))))) (xF0 ++ ([])) from .cons (cs := [.slice xa0 xs0.length xc0]) (fp := xF0) (HQ2.out.2.2) (.cons (cs := [.int .i64 (M1 : Int)]) (fp := []) (.int (M1 : Int)) (.cons (cs := [.int .i64 (M2 : Int)]) (fp := []) (.int (M2 : Int)) (.cons (cs := [.int .i64 (M3 : Int)]) (fp := []) (.int (M3 : Int)) (.cons (cs := [.int .i64 (M4 : Int)]) (fp := []) (.int (M4 : Int)) (.cons (cs := [.int .i64 (M5 : Int)]) (fp := []) (.int (M5 : Int)) (.nil))))))) (HQ2.out.2.1) HM.out.2.2.2.1 HM.out.2.2.2.2.1)
        go_wp2
        go_roundw
        case rel => exact ⟨k + 1, by omega, by go_num, by rw [HM.out.1], by rw [HM.out.2.1, HM.out.2.2.1, List.append_assoc]; exact HU.out, HT2.out⟩
        case measure => simp [intOf]; omega
      · obtain rfl : k = n := by omega
        have HY := Lib.hid (And.intro (show es.take k = es by rw [← H.out.2.2.1, List.take_length]) (show es.drop k = [] by rw [← H.out.2.2.1, List.drop_length]))
        have HH := Lib.hid (And.intro hown htn)
        clear hown htn
        go_wp2
        go_ret
        exact ⟨ret_int (by rw [HY.out.1]), by have := HH.out.1; rw [HY.out.1, HY.out.2, List.append_nil] at this; exact this, HH.out.2⟩
end Go.Proofs.YtbdjnfnphilklaaGreat.Own
namespace Go.Proofs.YtbdjnfnphilklaaGreat.Own
open Go.ChangeShapes Go.WideShapes Go.ChangeAt Go.RowKit
open Kit Slabs Ints
set_option linter.unusedVariables false
set_option linter.unusedSimpArgs false
set_option linter.unnecessarySimpa false
set_option maxRecDepth 100000
set_option maxHeartbeats 8000000 in
theorem held_ObjectS (w : World) (N : Nat) {a : Option Addr} {n c : Nat} {es : List Dt} {fp fq : List Nat} {w0 : World} {v0 : Value} (hn : es.length + bulkL es ≤ 1048576) (h0 : 0 < N) (hN : N + cntL es ≤ 1000000000) (hs : Own w0 (.sl KObject) [v0] (.sl es) fq) (h : Own w (.sl KObject) [.slice a n c] (.sl (mkL es N)) fp) :
    Calls Tryz.prog 50 #[.slice a n c, .int .i64 (N : Int)] w fun e w' => e = .returned (.int .i64 ((N + cntL es : Nat) : Int)) ∧ Below w.heap.size w w' := by
  obtain ⟨hl, hr⟩ := h.row
  rw [mkL_length] at hl
  obtain ⟨hl0, _⟩ : es.length = n ∧ True := ⟨hl, trivial⟩
  by_cases hz : n = 0
  · subst hz
    have hes : es = [] := List.eq_nil_of_length_eq_zero hl
    subst hes
    clear h hr hs
    go_enter Tryz.func50, Tryz.ntmps50
    go_wp2
    go_rounds 1
    go_ret
    exact ⟨ret_int (by simp [cntL]), Below.refl _ _⟩
  · obtain ⟨g, rfl, _⟩ := hr hz
    have H := Lib.hid (And.intro h (And.intro hs hl))
    have hn1 : n ≤ 1048576 := by omega
    have HB := Lib.hid (And.intro hn hN)
    clear h hs hr hl hl0 hn hN
    go_enter Tryz.func50, Tryz.ntmps50
    go_wp2
    go_loopw [1, 5] (fun v1 i wr => ∃ k : Nat, k ≤ n ∧ i = .int .i64 (k : Int) ∧ v1 = .int .i64 ((N + cntL (es.take k) : Nat) : Int) ∧ Below w.heap.size w wr) (fun _ i _ => n - (intOf i).toNat)
    case atStart => exact ⟨0, Nat.zero_le _, rfl, by simp [cntL], Below.refl _ _⟩
    case round =>
      obtain ⟨k, hk, rfl, rfl, hbel⟩ := hrel
      by_cases hlt : k < n
      · have hke : k < es.length := by rw [H.out.2.2]; exact hlt
        have hkm : k < (mkL es N).length := by rw [mkL_length]; exact hke
        obtain ⟨hg, _, cs, ds, q, ed, od, ld, _, sd⟩ := H.out.1.elt hkm
        rw [mk_elt hke] at ed
        obtain ⟨v0a, v0n, v0c, hv0⟩ : ∃ a n c, v0 = .slice a n c := by cases H.out.2.1 <;> exact ⟨_, _, _, rfl⟩
        have hs1 := H.out.2.1
        rw [hv0] at hs1
        obtain ⟨e0, r0⟩ := hs1.row
        obtain ⟨g0, rfl, _⟩ := r0 (by omega)
        obtain ⟨_, _, cs0, ds0, q0, ed0, od0, _, _, _⟩ := hs1.elt hke
        have htk := take_cnt hke
        have hpart := cnt_parts es (k + 1)
        have hbk := bulk_elt hke
        rw [ed0] at ed htk hbk
        simp only [Dt.mk] at ed
        injection ed with ed
        subst ed
        obtain ⟨xa0, xc0, xs0, xx1_0, xx2_0, xx2_1, xx2_2, xx2_3, xF0, _, rfl, rfl, ox0⟩ := inv_Object od0
        obtain ⟨M0, hM0⟩ : ∃ M, N + cntL (es.take k) = M := ⟨_, rfl⟩
        rw [hM0] at od ⊢
        obtain ⟨M1, hM1⟩ : ∃ M, M0 + cntL xs0 = M := ⟨_, rfl⟩
        obtain ⟨M2, hM2⟩ : ∃ M, M1 + 1 = M := ⟨_, rfl⟩
        obtain ⟨M3, hM3⟩ : ∃ M, M2 + 1 = M := ⟨_, rfl⟩
        obtain ⟨M4, hM4⟩ : ∃ M, M3 + 1 = M := ⟨_, rfl⟩
        obtain ⟨M5, hM5⟩ : ∃ M, M4 + 1 = M := ⟨_, rfl⟩
        obtain ⟨M6, hM6⟩ : ∃ M, M5 + 1 = M := ⟨_, rfl⟩
        have hmk : mkL (.sl xs0 :: (.int xx1_0 :: (.int xx2_0 :: (.int xx2_1 :: (.int xx2_2 :: (.int xx2_3 :: ([]))))))) M0 = .sl (mkL xs0 M0) :: (.int ((M1 : Nat) : Int) :: (.int ((M2 : Nat) : Int) :: (.int ((M3 : Nat) : Int) :: (.int ((M4 : Nat) : Int) :: (.int ((M5 : Nat) : Int) :: ([])))))) := by simp only [mkL, Dt.mk, Dt.cnt, hM1, hM2, hM3, hM4, hM5, hM6]
        rw [hmk] at od
        have hM : N + cntL (es.take (k + 1)) = M6 := by rw [htk, ← Nat.add_assoc, hM0]; simp only [Dt.cnt, cntL]; omega
        simp only [Dt.bulk, bulkL] at hbk
        have hMb : M6 ≤ 1000000000 := by have := HB.out.2; omega
        have hMp : 0 < M0 := by omega
        obtain ⟨ya0, yc0, yF0, rfl, rfl, oy0⟩ := inv_Object_ od
        simp only [mkL_length] at sd oy0
        have HBK := Lib.hid hbk
        have u0 : xs0.length + bulkL xs0 ≤ 1048576 := by have := HB.out.1; omega
        have HS := Lib.hid sd
        have HE := Lib.hid (ox0)
        have HO := Lib.hid (oy0)
        have HM := Lib.hid hM
        have b0 : M0 ≤ 1000000000 := by omega
        have p0 : 0 < M0 := by omega
        have g1 : ¬ ((M1 : Int) < 0) := by omega
        have s0 : M0 + cntL xs0 ≤ 1000000000 := by omega
        have e2 : (M1 : Int) + 1 = (M2 : Int) := by omega
        have b1 : M1 ≤ 1000000000 := by omega
        have e3 : (M2 : Int) + 1 = (M3 : Int) := by omega
        have b2 : M2 ≤ 1000000000 := by omega
        have e4 : (M3 : Int) + 1 = (M4 : Int) := by omega
        have b3 : M3 ≤ 1000000000 := by omega
        have e5 : (M4 : Int) + 1 = (M5 : Int) := by omega
        have b4 : M4 ≤ 1000000000 := by omega
        have e6 : (M5 : Int) + 1 = (M6 : Int) := by omega
        have b5 : M5 ≤ 1000000000 := by omega
        have i0 : (0 : Int) ≤ (k : Int) := by omega
        have i1 : (k : Int) < (n : Int) := by omega
        clear od od0 hs1 r0 e0 htk hpart hmk hM hM0 hbk sd hke hkm ed0 ox0 oy0
        have HW0 := Lib.hid hbel
        have ca0 : wr.cell? ⟨g, k * 6, none⟩ = some (.slice ya0 xs0.length yc0) := HS.out wr HW0.out 0 _ rfl
        go_wp2_with fail
        ((with_reducible refine (held_PointS _ M0 u0 p0 s0 (HE.out) ((HO.out).under HW0.out)).mono ?_); rintro e w1 ⟨rfl, bb⟩)
        rw [hM1]
        have HW1 := Lib.hid (on_of HW0.out bb)
        clear bb ca0
        have ca1 : w1.cell? ⟨g, k * 6 + 1, none⟩ = some (.int .i64 (M1 : Int)) := HS.out w1 HW1.out 1 _ rfl
        have ca2 : w1.cell? ⟨g, k * 6 + 2, none⟩ = some (.int .i64 (M2 : Int)) := HS.out w1 HW1.out 2 _ rfl
        have ca3 : w1.cell? ⟨g, k * 6 + 3, none⟩ = some (.int .i64 (M3 : Int)) := HS.out w1 HW1.out 3 _ rfl
        have ca4 : w1.cell? ⟨g, k * 6 + 4, none⟩ = some (.int .i64 (M4 : Int)) := HS.out w1 HW1.out 4 _ rfl
        have ca5 : w1.cell? ⟨g, k * 6 + 5, none⟩ = some (.int .i64 (M5 : Int)) := HS.out w1 HW1.out 5 _ rfl
        have HWl := HW1.out
        go_wp2
        go_roundw
        case rel => exact ⟨k + 1, by omega, by go_num, by rw [HM.out], HWl⟩
        case measure => simp [intOf]; omega
      · obtain rfl : k = n := by omega
        have HY := Lib.hid (show es.take k = es by rw [← H.out.2.2, List.take_length])
        rw [HY.out]
        go_wp2
        go_ret
        exact ⟨rfl, hbel⟩
end Go.Proofs.YtbdjnfnphilklaaGreat.Own
namespace Go.Proofs.YtbdjnfnphilklaaGreat.Own
open Go.ChangeShapes Go.WideShapes Go.ChangeAt Go.RowKit
open Kit Slabs Ints Point
open Go.Proofs.YtbdjnfnphilklaaGreat.Ins (Pt Bx obx obK gen_any9)
set_option linter.unusedVariables false
set_option linter.unusedSimpArgs false
set_option linter.unnecessarySimpa false
set_option maxRecDepth 100000
end Go.Proofs.YtbdjnfnphilklaaGreat.Own
namespace Go.Proofs.YtbdjnfnphilklaaGreat.Own
open Go.ChangeShapes Go.WideShapes Go.ChangeAt Go.RowKit
open Kit Slabs Ints
set_option linter.unusedVariables false
set_option linter.unusedSimpArgs false
set_option linter.unnecessarySimpa false
theorem spec_TouchesBand (w : World) {A : Array Value} {ds : List Dt} {fp : List Nat} (hb : bulkL ds ≤ 1048576) (h : OwnL w LObject A.toList ds fp) (ht bd : Int) :
    Calls Tryz.prog 53 #[.agg A, .int .i64 ht, .int .i64 bd] w fun e w' => e = .returned (.bool (tbO ht bd (obOf ds))) ∧ Below w.heap.size w w' := by
  have e := ob_dt h
  rw [e] at hb h
  obtain ⟨a, c, rfl, hp⟩ := Ins.obj_open h
  exact touch_spec w a c _ _ _ _ _ _ ht bd (Ins.obj_len hb) hp
theorem impl_TouchesBand (w : World) {A : Array Value} {ds : List Dt} {fp : List Nat} (hb : bulkL ds ≤ 1048576) (h : OwnL w LObject A.toList ds fp) (ht bd : Int) :
    Calls Tryz.prog 58 #[.agg A, .int .i64 ht, .int .i64 bd] w fun e w' => e = .returned (.bool (tbO ht bd (obOf ds))) ∧ Below w.heap.size w w' := by
  have e := ob_dt h
  rw [e] at hb h
  obtain ⟨a, c, rfl, hp⟩ := Ins.obj_open h
  exact touch_impl w a c _ _ _ _ _ _ ht bd (Ins.obj_len hb) hp
theorem filter_bulk (p : Dt → Bool) : ∀ es : List Dt, (es.filter p).length + bulkL (es.filter p) ≤ es.length + bulkL es
  | [] => Nat.le_refl _
  | d :: es => by
    have ih := filter_bulk p es
    rw [List.filter_cons]
    split
    · simp only [List.length_cons, bulkL]; omega
    · simp only [List.length_cons, bulkL]; omega
theorem ofB_le {ht bd : Int} {es : List Dt} (hb : es.length + bulkL es ≤ 1048576) : (ofB ht bd es).length + bulkL (ofB ht bd es) ≤ 1048576 := by
  have := filter_bulk (tbD ht bd) es
  unfold ofB; omega
end Go.Proofs.YtbdjnfnphilklaaGreat.Own
