/-
  Texts of this seat, laid together: MkP, ClF, SpE
-/
import Derived.WalkKit
import Derived.Deep.DeepCutAuto
import Derived.Deep.QuietTactic
import Derived.BigQuiet
import Derived.Deep.RegionHeld3
import Derived.Handy
import Derived.Test.YtnkookegoicfnaaGreatW10
import Derived.Test.YtnkookegoicfnaaGreatW11
import Derived.Test.YtnkookegoicfnaaGreatW24
import Derived.Test.YtnkookegoicfnaaGreatW41
namespace Go.Proofs.YtnkookegoicfnaaGreat.Own
open Go.ChangeShapes Go.WideShapes Go.ChangeAt Go.RowKit
open Kit Slabs Ints
set_option linter.unusedVariables false
set_option linter.unusedSimpArgs false
set_option linter.unnecessarySimpa false
set_option maxRecDepth 100000
attribute [local go_sem ↓] hload_Graphics
set_option maxHeartbeats 4000000 in
theorem mark_Page (w : World) (N : Nat) {A : Array Value} {ds : List Dt} {fp : List Nat} (hb : bulkL ds ≤ 1048576) (h0 : 0 < N) (hN : N + cnt0L ds ≤ 1000000000) (h : OwnL w LPage A.toList ds fp) (hd : fp.Nodup) :
    Calls Tryz.prog 12 #[.agg A, .int .i64 (N : Int)] w fun e w' => e = .returned (.int .i64 ((N + cnt0L ds : Nat) : Int)) ∧ OwnL w' LPage A.toList (mk0L ds N) fp ∧ Turns w w' (fun b => b ∈ fp) := by
  obtain ⟨xG0, xa11, xc11, xa12, xc12, xD0, xs11, xs12, xF0, xF11, xF12, hA, rfl, rfl, ox0, ox11, ox12⟩ := inv_Page h
  have nxG0 : xG0.length = 11 := ox0.len
  obtain ⟨nd0, r0, x0⟩ := nodup_parts hd
  obtain ⟨nd1, r1, x1⟩ := nodup_parts r0
  obtain ⟨nd2, r2, x2⟩ := nodup_parts r1
  have d0_1 : ∀ b ∈ xF0, b ∉ xF11 := fun b ha hb => x0 b ha (List.mem_append_left _ hb)
  have d1_0 : ∀ b ∈ xF11, b ∉ xF0 := fun b ha hb => d0_1 b hb ha
  have d0_2 : ∀ b ∈ xF0, b ∉ xF12 := fun b ha hb => x0 b ha (List.mem_append_right _ (List.mem_append_left _ hb))
  have d2_0 : ∀ b ∈ xF12, b ∉ xF0 := fun b ha hb => d0_2 b hb ha
  have d1_2 : ∀ b ∈ xF11, b ∉ xF12 := fun b ha hb => x1 b ha (List.mem_append_left _ hb)
  have d2_1 : ∀ b ∈ xF12, b ∉ xF11 := fun b ha hb => d1_2 b hb ha
  have hc : N + cnt0L (xD0 ++ (.sl xs11 :: (.sl xs12 :: ([])))) = (((N + cnt0L xD0) + cntL xs11) + cntL xs12) := by simp only [cnt0L_app, cnt0L, Dt.cnt0]; omega
  have hm : mk0L (xD0 ++ (.sl xs11 :: (.sl xs12 :: ([])))) N = mk0L xD0 N ++ (.sl (mkL xs11 (N + cnt0L xD0)) :: (.sl (mkL xs12 ((N + cnt0L xD0) + cntL xs11)) :: ([]))) := by simp only [mk0L_app, mk0L, Dt.mk0, cnt0L_app, cnt0L, Dt.cnt0, Nat.add_zero, Nat.add_assoc]
  obtain ⟨M1, hM1⟩ : ∃ M, N + cnt0L xD0 = M := ⟨_, rfl⟩
  simp only [hM1] at hc hm
  obtain ⟨M2, hM2⟩ : ∃ M, M1 + cntL xs11 = M := ⟨_, rfl⟩
  simp only [hM2] at hc hm
  obtain ⟨M3, hM3⟩ : ∃ M, M2 + cntL xs12 = M := ⟨_, rfl⟩
  simp only [hM3] at hc hm
  rw [hc] at hN ⊢
  rw [hm]
  clear hc hm
  simp only [bulkL_app, bulkL, Dt.bulk] at hb
  have BA : Blk (w.alloc (.cells A 46)) w.heap.size A.toList := Blk.new w A 46 rfl
  have hT : Turns w (w.alloc (.cells A 46)) (fun b => b ∈ xF0 ++ (xF11 ++ (xF12 ++ ([])))) := Turns.of_below (by go_grown)
  rw [hA] at BA ⊢
  have lt0 := ox0.lt
  have ne0 : ¬ (w.heap.size ∈ xF0) := fun hb => by have := lt0 _ hb; omega
  have p0 := ox0.under (w' := w.alloc (.cells A 46)) (by go_grown)
  have lt1 := ox11.lt
  have ne1 : ¬ (w.heap.size ∈ xF11) := fun hb => by have := lt1 _ hb; omega
  have p1 := ox11.under (w' := w.alloc (.cells A 46)) (by go_grown)
  have lt2 := ox12.lt
  have ne2 : ¬ (w.heap.size ∈ xF12) := fun hb => by have := lt2 _ hb; omega
  have p2 := ox12.under (w' := w.alloc (.cells A 46)) (by go_grown)
  have HO0 := Lib.hid (And.intro p0 (And.intro p1 p2))
  have HA0 := Lib.hid BA
  have HT0 := Lib.hid hT
  have ra := hload_run (P := Tryz.prog) (t := 42) Tryz.isAgg42 Tryz.sizeOf42 (w := w.alloc (.cells A 46)) (b := w.heap.size) (o := 0) (us := xG0) (Blk.part (P := []) HA0.out rfl) nxG0
  clear ox0 ox11 ox12 hA BA hT h hd p0 lt0 p1 lt1 p2 lt2
  go_enter Tryz.func12, Tryz.ntmps12
  go_wp2_with fail
  ((with_reducible refine (mark_Graphics _ N (ds := xD0) (by omega) (by omega) (by omega) (by simpa using HO0.out.1) nd0).mono ?_); rintro e w1 ⟨rfl, o1, b1⟩)
  rw [hM1]
  simp only [List.toList_toArray] at o1
  have HO1 := Lib.hid (And.intro o1 (And.intro ((HO0.out.2.1).turned b1 d1_0) ((HO0.out.2.2).turned b1 d2_0)))
  have HA1 := Lib.hid (HA0.out.turned b1 ne0)
  have HT1 := Lib.hid (HT0.out.trans (b1.mono (fun _ hk => List.mem_append_left _ hk)))
  clear o1 b1  ra
  have ca11 := HA1.out.1 11 (.slice xa11 xs11.length xc11) (by simp [nxG0])
  go_wp2_with fail
  ((with_reducible refine (mark_GraphicsS _ M1 (by omega) (by omega) (by omega) (HO1.out.2.1) nd1).mono ?_); rintro e w2 ⟨rfl, o2, b2⟩)
  rw [hM2]
  have HO2 := Lib.hid (And.intro ((HO1.out.1).turned b2 d0_1) (And.intro o2 ((HO1.out.2.2).turned b2 d2_1)))
  have HA2 := Lib.hid (HA1.out.turned b2 ne1)
  have HT2 := Lib.hid (HT1.out.trans (b2.mono (fun _ hk => List.mem_append_right _ (List.mem_append_left _ hk))))
  clear o2 b2 ca11
  have ca12 := HA2.out.1 12 (.slice xa12 xs12.length xc12) (by simp [nxG0])
  go_wp2_with fail
  ((with_reducible refine (mark_ObjectS _ M2 (by omega) (by omega) (by omega) (HO2.out.2.2) nd2).mono ?_); rintro e w3 ⟨rfl, o3, b3⟩)
  rw [hM3]
  have HO3 := Lib.hid (And.intro ((HO2.out.1).turned b3 d0_2) (And.intro ((HO2.out.2.1).turned b3 d1_2) o3))
  have HA3 := Lib.hid (HA2.out.turned b3 ne2)
  have HT3 := Lib.hid (HT2.out.trans (b3.mono (fun _ hk => List.mem_append_right _ (List.mem_append_right _ (List.mem_append_left _ hk)))))
  clear o3 b3 ca12
  go_wp2
  go_ret
  exact ⟨rfl, OwnL.app (.cons (cs := [.slice xa11 xs11.length xc11]) (fp := xF11) (HO3.out.2.1) (.cons (cs := [.slice xa12 xs12.length xc12]) (fp := xF12) (HO3.out.2.2) (.nil))) (HO3.out.1), HT3.out⟩
set_option maxHeartbeats 4000000 in
theorem held_Page (w : World) (N : Nat) {A : Array Value} {ds : List Dt} {cs0 : List Value} {fp fq : List Nat} {w0 : World} (hb : bulkL ds ≤ 1048576) (h0 : 0 < N) (hN : N + cnt0L ds ≤ 1000000000) (hs : OwnL w0 LPage cs0 ds fq) (h : OwnL w LPage A.toList (mk0L ds N) fp) :
    Calls Tryz.prog 13 #[.agg A, .int .i64 (N : Int)] w fun e w' => e = .returned (.int .i64 ((N + cnt0L ds : Nat) : Int)) ∧ Below w.heap.size w w' := by
  obtain ⟨xG0, xa11, xc11, xa12, xc12, xD0, xs11, xs12, xF0, xF11, xF12, _, rfl, _, ox0, ox11, ox12⟩ := inv_Page hs
  have lxD0 := ox0.dlen
  have hc : N + cnt0L (xD0 ++ (.sl xs11 :: (.sl xs12 :: ([])))) = (((N + cnt0L xD0) + cntL xs11) + cntL xs12) := by simp only [cnt0L_app, cnt0L, Dt.cnt0]; omega
  have hm : mk0L (xD0 ++ (.sl xs11 :: (.sl xs12 :: ([])))) N = mk0L xD0 N ++ (.sl (mkL xs11 (N + cnt0L xD0)) :: (.sl (mkL xs12 ((N + cnt0L xD0) + cntL xs11)) :: ([]))) := by simp only [mk0L_app, mk0L, Dt.mk0, cnt0L_app, cnt0L, Dt.cnt0, Nat.add_zero, Nat.add_assoc]
  obtain ⟨M1, hM1⟩ : ∃ M, N + cnt0L xD0 = M := ⟨_, rfl⟩
  simp only [hM1] at hc hm
  obtain ⟨M2, hM2⟩ : ∃ M, M1 + cntL xs11 = M := ⟨_, rfl⟩
  simp only [hM2] at hc hm
  obtain ⟨M3, hM3⟩ : ∃ M, M2 + cntL xs12 = M := ⟨_, rfl⟩
  simp only [hM3] at hc hm
  rw [hc] at hN ⊢
  rw [hm] at h
  clear hc hm
  simp only [bulkL_app, bulkL, Dt.bulk] at hb
  obtain ⟨yG0, ya11, yc11, ya12, yc12, yF0, yF11, yF12, hA, rfl, oy0, oy11, oy12⟩ := inv_Page_ (by rw [mk0L_length, lxD0]) h
  simp only [mkL_length] at hA oy11 oy12
  have nyG0 : yG0.length = 11 := oy0.len
  have BA : Blk (w.alloc (.cells A 46)) w.heap.size A.toList := Blk.new w A 46 rfl
  have hW : Below w.heap.size w (w.alloc (.cells A 46)) := by go_grown
  rw [hA] at BA
  have HS := Lib.hid (And.intro ox0 (And.intro ox11 ox12))
  have HO := Lib.hid (And.intro oy0 (And.intro oy11 oy12))
  have HA0 := Lib.hid BA
  have HW0 := Lib.hid hW
  have ra := hload_run (P := Tryz.prog) (t := 42) Tryz.isAgg42 Tryz.sizeOf42 (w := w.alloc (.cells A 46)) (b := w.heap.size) (o := 0) (us := yG0) (Blk.part (P := []) HA0.out rfl) nyG0
  clear ox0 ox11 ox12 oy0 oy11 oy12 hA BA hW h hs
  go_enter Tryz.func13, Tryz.ntmps13
  go_wp2_with fail
  ((with_reducible refine (held_Graphics _ N (ds := xD0) (by omega) (by omega) (by omega) (HS.out.1) (by simpa using (HO.out.1).under HW0.out)).mono ?_); rintro e w1 ⟨rfl, b1⟩)
  rw [hM1]
  have HW1 := Lib.hid (on_of HW0.out b1)
  have HA1 := Lib.hid (HA0.out.keep b1)
  have g1 : ¬ (((M1 : Nat) : Int) < 0) := by omega
  clear b1  ra
  have ca11 := HA1.out.1 11 (.slice ya11 xs11.length yc11) (by simp [nyG0])
  go_wp2_with fail
  ((with_reducible refine (held_GraphicsS _ M1 (by omega) (by omega) (by omega) (HS.out.2.1) ((HO.out.2.1).under HW1.out)).mono ?_); rintro e w2 ⟨rfl, b2⟩)
  rw [hM2]
  have HW2 := Lib.hid (on_of HW1.out b2)
  have HA2 := Lib.hid (HA1.out.keep b2)
  have g2 : ¬ (((M2 : Nat) : Int) < 0) := by omega
  clear b2 ca11
  have ca12 := HA2.out.1 12 (.slice ya12 xs12.length yc12) (by simp [nyG0])
  go_wp2_with fail
  ((with_reducible refine (held_ObjectS _ M2 (by omega) (by omega) (by omega) (HS.out.2.2) ((HO.out.2.2).under HW2.out)).mono ?_); rintro e w3 ⟨rfl, b3⟩)
  rw [hM3]
  have HW3 := Lib.hid (on_of HW2.out b3)
  have HA3 := Lib.hid (HA2.out.keep b3)
  have g3 : ¬ (((M3 : Nat) : Int) < 0) := by omega
  clear b3 ca12
  go_wp2
  go_ret
  exact ⟨rfl, HW3.out⟩
end Go.Proofs.YtnkookegoicfnaaGreat.Own

namespace Go.Proofs.YtnkookegoicfnaaGreat.Own
open Go.ChangeShapes Go.WideShapes Go.ChangeAt Go.RowKit
open Kit Slabs Ints Stack Point Turn
set_option linter.unusedVariables false
set_option linter.unusedSimpArgs false
set_option linter.unnecessarySimpa false
set_option maxRecDepth 100000
attribute [local go_sem ↓] hload_Graphics hload_Object hstore_Graphics hstore_Object hload_Page hstore_Page
set_option maxHeartbeats 8000000 in
theorem clone_Page (w : World) {A : Array Value} {p : Pg} {fp : List Nat} (hb : bulkL p.dt ≤ 1048576) (h : OwnL w LPage A.toList p.dt fp) :
    Calls Tryz.prog 38 #[.agg A] w (PgNew p w) := by
  obtain ⟨G, a11, c11, a12, c12, f0, f11, f12, hA, hf, o0, o11, o12⟩ := inv_Page_ (by rfl) h
  simp only [Pg.dt, bulkL_app, bulkL, Dt.bulk, len_dG, len_dO] at hb
  simp only [len_dG, len_dO] at hA o11 o12
  obtain ⟨C, hC⟩ : ∃ C, G.toArray = C := ⟨_, rfl⟩
  have tC : C.toList = G := by rw [← hC]
  have nG : C.toList.length = 11 := by rw [tC]; exact o0.len
  rw [← tC] at o0 hA
  obtain ⟨P11, q11, L11, l11, O11, _, e11, _, _⟩ := own_lies o11
  obtain ⟨P12, q12, L12, l12, O12, _, e12, _, _⟩ := own_lies o12
  have l11' : P11.length = p.saved.length * 11 := by simpa [Kd.sz, szL] using l11
  have l12' : P12.length = p.objs.length * 6 := by simpa [Kd.sz, szL] using l12
  have hw2 : ((w.alloc (.cells A 46)).alloc (.cells #[.slice none 0 0, .int .i64 0, .int .i64 0, .int .i64 0, .int .i64 0, .slice none 0 0, .int .i64 0, .int .i64 0, .int .i64 0, .int .i64 0, .int .i64 0, .slice none 0 0, .slice none 0 0] 46)).heap.size = w.heap.size + 2 := by simp
  have BA : Blk ((w.alloc (.cells A 46)).alloc (.cells #[.slice none 0 0, .int .i64 0, .int .i64 0, .int .i64 0, .int .i64 0, .slice none 0 0, .int .i64 0, .int .i64 0, .int .i64 0, .int .i64 0, .int .i64 0, .slice none 0 0, .slice none 0 0] 46)) w.heap.size A.toList := (Blk.new w A 46 rfl).alloc _
  have BR : Blk ((w.alloc (.cells A 46)).alloc (.cells #[.slice none 0 0, .int .i64 0, .int .i64 0, .int .i64 0, .int .i64 0, .slice none 0 0, .int .i64 0, .int .i64 0, .int .i64 0, .int .i64 0, .int .i64 0, .slice none 0 0, .slice none 0 0] 46)) (w.heap.size + 1) (#[.slice none 0 0, .int .i64 0, .int .i64 0, .int .i64 0, .int .i64 0, .slice none 0 0, .int .i64 0, .int .i64 0, .int .i64 0, .int .i64 0, .int .i64 0, .slice none 0 0, .slice none 0 0] : Array Value).toList := Blk.new _ _ 46 (by simp)
  rw [hA] at BA
  have hW : Below w.heap.size w ((w.alloc (.cells A 46)).alloc (.cells #[.slice none 0 0, .int .i64 0, .int .i64 0, .int .i64 0, .int .i64 0, .slice none 0 0, .int .i64 0, .int .i64 0, .int .i64 0, .int .i64 0, .int .i64 0, .slice none 0 0, .slice none 0 0] 46)) := by go_grown
  have HS := Lib.hid (And.intro BA (And.intro BR (And.intro hW hw2)))
  have HO := Lib.hid (And.intro o0 (And.intro O11 (And.intro O12 nG)))
  have HL := Lib.hid (And.intro L11 (And.intro L12 (And.intro l11' l12')))
  have HE := Lib.hid (And.intro e11 e12)
  clear BA BR hW hw2 L11 L12 l11 l12 l11' l12' e11 e12 hA h hf o0 o11 o12 O11 O12 hC tC nG
  go_enter Tryz.func38, Tryz.ntmps38
  go_upto_region 1 with (fail)
  obtain ⟨W, hWe⟩ : ∃ W, W = ((w.alloc (.cells A 46)).alloc (.cells #[.slice none 0 0, .int .i64 0, .int .i64 0, .int .i64 0, .int .i64 0, .slice none 0 0, .int .i64 0, .int .i64 0, .int .i64 0, .int .i64 0, .int .i64 0, .slice none 0 0, .slice none 0 0] 46)) := ⟨_, rfl⟩
  rw [← hWe] at HS ⊢
  clear hWe
  obtain ⟨GA, hGA⟩ : ∃ x, w.heap.size = x := ⟨_, rfl⟩
  obtain ⟨GR, hGR⟩ : ∃ x, w.heap.size + 1 = x := ⟨_, rfl⟩
  have HS2 : Hid (Blk W GA (C.toList ++ [.slice a11 p.saved.length c11, .slice a12 p.objs.length c12]) ∧ Blk W GR (#[.slice none 0 0, .int .i64 0, .int .i64 0, .int .i64 0, .int .i64 0, .slice none 0 0, .int .i64 0, .int .i64 0, .int .i64 0, .int .i64 0, .int .i64 0, .slice none 0 0, .slice none 0 0] : Array Value).toList) := Lib.hid ⟨hGA ▸ HS.out.1, hGR ▸ HS.out.2.1⟩
  rw [hGR]
  have hWw := Lib.hid HS.out.2.2
  have gA : w.heap.size ≤ GA := by omega
  have gAR : GA < GR := by omega
  have gAW : GA < W.heap.size := by have := hWw.out.2; omega
  have gR : GR < W.heap.size := by have := hWw.out.2; omega
  rw [hGA]
  clear HS hGR hGA
  have HC : Hid (∀ (w' : World) (X : List Value) (a a' : Option Addr) (c c' : Nat), X.length = 11 → Blk w' GA (X ++ [.slice a p.saved.length c, .slice a' p.objs.length c']) → w'.cell? ⟨GA, 11, none⟩ = some (.slice a p.saved.length c) ∧ w'.cell? ⟨GA, 12, none⟩ = some (.slice a' p.objs.length c')) := Lib.hid fun w' X a a' c c' hX B => ⟨B.1 11 _ (by rw [List.getElem?_append_right (by omega)]; simp [hX]), B.1 12 _ (by rw [List.getElem?_append_right (by omega)]; simp [hX])⟩
  have ra := hload_run (P := Tryz.prog) (t := 42) Tryz.isAgg42 Tryz.sizeOf42 (w := W.drew) (b := GA) (o := 0) (us := C.toList) (Blk.part (P := []) HS2.out.1.drew rfl) HO.out.2.2.2
  rw [Array.toArray_toList] at ra
  obtain ⟨k11, k12⟩ := HC.out W _ _ _ _ _ HO.out.2.2.2 HS2.out.1
  have hWd := Lib.hid (show Below w.heap.size w W.drew from by have := hWw.out.1; go_grown)
  go_cut [] (fun wx => Mid1 p W.heap.size GA GR P11 P12 w wx)
  case first =>
    go_region_law (first
      | (go_simp; go_at_call 81; (with_reducible refine (clone_Graphics W.drew (by omega) (HO.out.1.under hWd.out)).mono ?_); rintro e w1 ⟨R1, F1, rfl, g1, b1⟩; have b1 := on_of (W := W) (by go_grown) b1; have g1 : GrRows w1 W.heap.size R1.toList p.now F1 := g1; have hz := b1.size; have j1 := HC.out w1 _ _ _ _ _ HO.out.2.2.2 (HS2.out.1.keep b1); obtain ⟨j11, j12⟩ := j1; have H1 := Lib.hid (And.intro g1 b1); clear g1 b1)
      | (go_simp; go_at_call 82; (with_reducible refine (cop_grs _ a11 p.saved.length c11 P11 (by omega) HL.out.2.2.1 HE.out.1 (HL.out.1.on (on_of hWw.out.1 H1.out.2))).mono ?_); rintro e w2 ⟨m11, d11, rfl, r11, b2⟩; have hz2 := b2.size; have j2 := HC.out w2 _ _ _ _ _ HO.out.2.2.2 (HS2.out.1.keep (on_of H1.out.2 b2)); obtain ⟨i11, i12⟩ := j2; have H2 := Lib.hid (And.intro r11 b2); clear r11 b2)
      | (go_simp; go_at_call 83; (with_reducible refine (cop_obs _ a12 p.objs.length c12 P12 (by omega) HL.out.2.2.2 HE.out.2 (HL.out.2.1.on (on_of hWw.out.1 (on_of H1.out.2 H2.out.2)))).mono ?_); rintro e w3 ⟨m12, d12, rfl, r12, b3⟩; have hz3 := b3.size; have B3 := HS2.out.1.keep (on_of (on_of H1.out.2 H2.out.2) b3); have st := hstore_run (P := Tryz.prog) (t := 42) Tryz.sizeOf42 (w := w3) (b := GA) (o := 0) (A := []) (us := C.toList) (R := [.slice a11 p.saved.length c11, .slice a12 p.objs.length c12]) (vs := R1.toList) B3 rfl (by rw [H1.out.1.len, HO.out.2.2.2]) H1.out.1.len (one_of H1.out.1); have eR : R1.toList.toArray = R1 := (by simp); rw [eR] at st; have BV := Blk.sets (P := []) (us := C.toList) (vs := R1.toList) (R := [.slice a11 p.saved.length c11, .slice a12 p.objs.length c12]) (w := w3) (b := GA) (o := 0) B3 rfl (by rw [H1.out.1.len, HO.out.2.2.2]); have tV := turns_sets (S := fun b => b = GA) GA rfl R1.toList 0 w3; generalize w3.setCells GA 0 R1.toList = V at st BV tV; have jV := HC.out V R1.toList _ _ _ _ H1.out.1.len BV; obtain ⟨v11, v12⟩ := jV; have vf := BV.2.1; have H3 := Lib.hid (And.intro r12 (And.intro b3 (And.intro BV tV))); clear r12 b3 B3 BV tV eR))
    all_goals
      have HM : Hid (Mid1 p W.heap.size GA GR P11 P12 w ((V.setCell ⟨GA, 11, none⟩ (.slice m11 p.saved.length d11)).setCell ⟨GA, 12, none⟩ (.slice m12 p.objs.length d12))) := Lib.hid (mid_of hWw.out.1 gA gAR gAW gR HS2.out.2 H1.out.1 H1.out.2 H2.out.1 H2.out.2 H3.out.1 H3.out.2.1 H3.out.2.2.1 H3.out.2.2.2)
      clear ra k11 k12 j11 j12 i11 i12 st v11 v12 vf
      go_wp2_with fail
      go_meet
      exact HM.out
  case rest =>
    have hsW := hWw.out.1.size
    obtain ⟨b11, d11, b12, d12, R1, F1, hL0, hlR⟩ := Lp.start hcut (by omega)
    have HlR := Lib.hid hlR
    obtain ⟨n, hN⟩ : ∃ n, p.saved.length = n := ⟨_, rfl⟩
    obtain ⟨m, hM⟩ : ∃ m, p.objs.length = m := ⟨_, rfl⟩
    have HNn := Lib.hid hN
    have HNm := Lib.hid hM
    have c0 := (hL0.cells hlR).1
    rw [hN] at c0
    have HLP := Lib.hid hL0
    rw [hN, hM] at hb
    clear hL0 hlR hN hM hcut ra k11 k12
    go_wp2_with fail
    clear c0
    go_loopw [22] (fun v wr => ∃ k : Nat, k ≤ n ∧ v = .int .i64 (k : Int) ∧ Lp p W.heap.size GA GR b11 d11 b12 d12 P11 P12 R1 F1 w k 0 wr) (fun v _ => n - (intOf v).toNat)
    case atStart => exact ⟨0, Nat.zero_le _, rfl, HLP.out⟩
    case round =>
      obtain ⟨k, hk, rfl, hL⟩ := hrel
      have HLk := Lib.hid hL
      clear hL
      by_cases hlt : k < n
      · have hkl : k < p.saved.length := by rw [HNn.out]; exact hlt
        obtain ⟨g, C, f, hbg, hgB, hgl, oC, hld, hput⟩ := HLk.out.one HO.out.2.1 hkl (by omega) (by omega) (by omega)
        have L1 := hld
        have HP := Lib.hid hput
        have HBg := Lib.hid hbg
        have i0 : (0 : Int) ≤ (k : Int) := by omega
        have i1 : (k : Int) < (n : Int) := by omega
        have hbk : bulkL p.saved[k].dt ≤ 1048576 := by
          have h1 := bulk_elt (es := dG p.saved) (i := k) (by rw [len_dG]; exact hkl)
          have e3 : (dG p.saved)[k]'(by rw [len_dG]; exact hkl) = .st p.saved[k].dt := by simp [dG]
          rw [e3] at h1
          simp only [Dt.bulk] at h1
          omega
        obtain ⟨E, st, BX, cx, zx⟩ := var_new (P := Tryz.prog) (T := 42) Tryz.sizeOf42 wr #[.slice none 0 0, .int .i64 0, .int .i64 0, .int .i64 0, .int .i64 0, .slice none 0 0, .int .i64 0, .int .i64 0, .int .i64 0, .int .i64 0, .int .i64 0] rfl oC rfl
        have LE := HLk.out.on cx
        have HE0 := Lib.hid (And.intro LE (And.intro BX cx))
        have HD := Lib.hid (And.intro (oC.under (on_of HLk.out.below cx)) oC)
        have kk := (LE.cells HlR.out).1
        rw [HNn.out, hbg] at kk
        clear hld hput LE BX cx oC
        rw [hbg]
        go_upto_region 5 with (fail)
        clear L1 st kk
        have hz := HE0.out.2.2.size
        have HK : Hid (∀ w', Below E.heap.size E w' → w'.cell? ⟨GA, 11, none⟩ = some (.slice (some ⟨g, 0, none⟩) n d11) ∧ (hload 42 ⟨wr.heap.size, 0, none⟩).run Tryz.prog w' = .ok (.agg C) w') := Lib.hid fun w' hb' => ⟨by have := ((HE0.out.1.on hb').cells HlR.out).1; rw [HNn.out, HBg.out] at this; exact this, var_load Tryz.isAgg42 Tryz.sizeOf42 (HE0.out.2.1.keep hb') HD.out.2 rfl⟩
        go_region_held3 (fun w' => w'.cell? ⟨GA, 11, none⟩ = some (.slice (some ⟨g, 0, none⟩) n d11) ∧ (hload 42 ⟨wr.heap.size, 0, none⟩).run Tryz.prog w' = .ok (.agg C) w') (first | exact HS9.out | exact HK.out _ hB | exact HK.out _ (by go_grown))
          ((go_at_call 81; (with_reducible refine (clone_Graphics _ hbk (HD.out.1.under (by first | exact hB | exact Below.refl _ _ | go_grown))).mono ?_); rintro e w5 ⟨R, F0, rfl, gR, bb⟩; obtain ⟨F, oR, nR, sR⟩ := gR.own; have gF := fun b hb => gR.ge b (sR b hb); clear gR sR; have hB := on_of (W := E) (by go_grown) bb; have gF' : ∀ b ∈ F, E.heap.size ≤ b := gF; obtain ⟨V, st, tV, LV⟩ := HP.out w5 R F (HE0.out.2.2.trans (hB.mono hz)) oR nR (fun b hb => by have := gF' b hb; omega); have HV := Lib.hid (And.intro LV (And.intro tV.size hB)); have HS9 : Hid (V.cell? ⟨GA, 11, none⟩ = some (.slice (some ⟨g, 0, none⟩) n d11) ∧ (hload 42 ⟨wr.heap.size, 0, none⟩).run Tryz.prog V = .ok (.agg C) V) := Lib.hid ⟨(by have := (LV.cells HlR.out).1; rw [HNn.out, HBg.out] at this; exact this), var_load Tryz.isAgg42 Tryz.sizeOf42 ((HE0.out.2.1.keep hB).turned tV (fun e => by have e' : wr.heap.size = g := e; omega)) HD.out.2 rfl⟩; clear LV tV oR nR gF gF'))
        go_wp2
        go_roundw
        case rel => exact ⟨k + 1, by omega, by go_num, by have := HV.out.1; rw [HBg.out] at this; exact this⟩
        case measure => simp [intOf]; omega
      · obtain rfl : k = n := by omega
        have c0 := (HLk.out.cells HlR.out).2
        rw [HNm.out] at c0
        have HLQ : Hid (Lp p W.heap.size GA GR b11 d11 b12 d12 P11 P12 R1 F1 w p.saved.length 0 wr) := Lib.hid (by rw [HNn.out]; exact HLk.out)
        go_wp2_with fail
        clear c0
        go_loopw [37] (fun v wr => ∃ k : Nat, k ≤ m ∧ v = .int .i64 (k : Int) ∧ Lp p W.heap.size GA GR b11 d11 b12 d12 P11 P12 R1 F1 w p.saved.length k wr) (fun v _ => m - (intOf v).toNat)
        case atStart => exact ⟨0, Nat.zero_le _, rfl, HLQ.out⟩
        case round =>
          obtain ⟨k, hk, rfl, hL⟩ := hrel
          have HLk := Lib.hid hL
          clear hL
          by_cases hlt : k < m
          · have hkl : k < p.objs.length := by rw [HNm.out]; exact hlt
            obtain ⟨g, C, f, hbg, hgB, hgl, oC, hld, hput⟩ := HLk.out.two HO.out.2.2.1 hkl (by omega) (by omega) (by omega)
            have L1 := hld
            have HP := Lib.hid hput
            have HBg := Lib.hid hbg
            have i0 : (0 : Int) ≤ (k : Int) := by omega
            have i1 : (k : Int) < (m : Int) := by omega
            have hbk : bulkL p.objs[k].dt ≤ 1048576 := by
              have h1 := bulk_elt (es := dO p.objs) (i := k) (by rw [len_dO]; exact hkl)
              have e3 : (dO p.objs)[k]'(by rw [len_dO]; exact hkl) = .st p.objs[k].dt := by simp [dO]
              rw [e3] at h1
              simp only [Dt.bulk] at h1
              omega
            obtain ⟨E, st, BX, cx, zx⟩ := var_new (P := Tryz.prog) (T := 101) Tryz.sizeOf101 wr #[.slice none 0 0, .int .i64 0, .int .i64 0, .int .i64 0, .int .i64 0, .int .i64 0] rfl oC rfl
            have LE := HLk.out.on cx
            have HE0 := Lib.hid (And.intro LE (And.intro BX cx))
            have HD := Lib.hid (And.intro (oC.under (on_of HLk.out.below cx)) oC)
            have kk := (LE.cells HlR.out).2
            rw [HNm.out, hbg] at kk
            clear hld hput LE BX cx oC
            rw [hbg]
            go_upto_region 10 with (fail)
            clear L1 st kk
            have hz := HE0.out.2.2.size
            have HK : Hid (∀ w', Below E.heap.size E w' → w'.cell? ⟨GA, 12, none⟩ = some (.slice (some ⟨g, 0, none⟩) m d12) ∧ (hload 101 ⟨wr.heap.size, 0, none⟩).run Tryz.prog w' = .ok (.agg C) w') := Lib.hid fun w' hb' => ⟨by have := ((HE0.out.1.on hb').cells HlR.out).2; rw [HNm.out, HBg.out] at this; exact this, var_load Tryz.isAgg101 Tryz.sizeOf101 (HE0.out.2.1.keep hb') HD.out.2 rfl⟩
            go_region_held3 (fun w' => w'.cell? ⟨GA, 12, none⟩ = some (.slice (some ⟨g, 0, none⟩) m d12) ∧ (hload 101 ⟨wr.heap.size, 0, none⟩).run Tryz.prog w' = .ok (.agg C) w') (first | exact HS9.out | exact HK.out _ hB | exact HK.out _ (by go_grown))
              ((go_at_call 84; (with_reducible refine (clone_Object _ hbk (HD.out.1.under (by first | exact hB | exact Below.refl _ _ | go_grown))).mono ?_); rintro e w5 ⟨R, F, rfl, oR, nR, gF, bb⟩; have hB := on_of (W := E) (by go_grown) bb; have gF' : ∀ b ∈ F, E.heap.size ≤ b := gF; obtain ⟨V, st, tV, LV⟩ := HP.out w5 R F (HE0.out.2.2.trans (hB.mono hz)) oR nR (fun b hb => by have := gF' b hb; omega); have HV := Lib.hid (And.intro LV (And.intro tV.size hB)); have HS9 : Hid (V.cell? ⟨GA, 12, none⟩ = some (.slice (some ⟨g, 0, none⟩) m d12) ∧ (hload 101 ⟨wr.heap.size, 0, none⟩).run Tryz.prog V = .ok (.agg C) V) := Lib.hid ⟨(by have := (LV.cells HlR.out).2; rw [HNm.out, HBg.out] at this; exact this), var_load Tryz.isAgg101 Tryz.sizeOf101 ((HE0.out.2.1.keep hB).turned tV (fun e => by have e' : wr.heap.size = g := e; omega)) HD.out.2 rfl⟩; clear LV tV oR nR gF gF'))
            go_wp2
            go_roundw
            case rel => exact ⟨k + 1, by omega, by go_num, by have := HV.out.1; rw [HBg.out] at this; exact this⟩
            case measure => simp [intOf]; omega
          · obtain rfl : k = m := by omega
            obtain ⟨F, PR, BGA, BGR⟩ := Lp.done (by rw [HNm.out]; exact HLk.out) HL.out.2.2.1 HL.out.2.2.2
            obtain ⟨fV, oV, _, _⟩ := PR.own
            have bV := HLk.out.below
            have hgF := PR.ge
            have sV := bV.size
            obtain ⟨R, E, s1, s2, s3, e4, tE, bE⟩ := hand_over (P := Tryz.prog) (T := 46) Tryz.isAgg46 Tryz.sizeOf46 BGA BGR rfl oV rfl bV (by omega) (by omega)
            have PE := (PR.stays tE.size (fun b hb => tE.block b (PR.lt b hb) (fun e => by have := hgF b hb; have e' : b = GR := e; omega))).base hsW
            rw [← e4] at PE
            have c1 := (HLk.out.cells HlR.out).2
            rw [HNm.out] at c1
            have HX := Lib.hid (And.intro PE (And.intro bE s3))
            clear PR BGA BGR oV bV hgF e4 tE PE bE s3
            go_wp2
            refine bodyPost_ret (v := .agg R) ?_ rfl ⟨R, _, rfl, HX.out.1, HX.out.2.1⟩
            exact results_h Tryz.results38 (by rfl) HX.out.2.2
end Go.Proofs.YtnkookegoicfnaaGreat.Own

namespace Go.Proofs.YtnkookegoicfnaaGreat.Own
open Go.ChangeShapes Go.WideShapes Go.ChangeAt Go.RowKit
open Kit Slabs Ints Stack Point Turn Join Pts Box Push Take Opn SOp
set_option linter.unusedVariables false
set_option linter.unusedSimpArgs false
set_option linter.unnecessarySimpa false
set_option maxRecDepth 100000
attribute [local go_sem ↓] hload_Graphics hload_Object hstore_Graphics hstore_Object hload_Page hstore_Page
theorem PgFl.clipG {w w' : World} {B X : Nat} {p : Pg} {a0 : Option Addr} {c0 : Nat} {f0 : List Nat} {a5 : Option Addr} {c5 : Nat} {P5 : List Value} {a11 : Option Addr} {c11 : Nat} {P11 : List Value} {f11 : List Nat} {a12 : Option Addr} {c12 : Nat} {P12 : List Value} {f12 : List Nat}
    (h : PgFl w B X p a0 c0 f0 a5 c5 P5 a11 c11 P11 f11 a12 c12 P12 f12) (hb : Below w.heap.size w w') (hB : B ≤ w.heap.size) (hX : B ≤ X) (x0 y0 x1 y1 : Int) (v5 : Option Addr) (k5 : Nat) :
    OpRes B X (some { p with now := { p.now with path := [], x0 := x0, y0 := y0, x1 := x1, y1 := y1 } }) w (.returned (.bool true)) ((w'.setCells X 7 [.int .i64 x0, .int .i64 y0, .int .i64 x1, .int .i64 y1]).setCell ⟨X, 5, none⟩ (.slice v5 0 k5)) := by
  have hXl := h.blk.2.2
  obtain ⟨nX, nX5, _⟩ := h.apart
  have BX := Blk.put (o := 5) (P := [_, _, _, _, _]) (Blk.sets (P := [_, _, _, _, _, _, _]) (us := [_, _, _, _]) (vs := [.int .i64 x0, .int .i64 y0, .int .i64 x1, .int .i64 y1]) (h.blk.keep hb) rfl rfl) rfl (.slice v5 0 k5)
  have tt : Turns w' ((w'.setCells X 7 [.int .i64 x0, .int .i64 y0, .int .i64 x1, .int .i64 y1]).setCell ⟨X, 5, none⟩ (.slice v5 0 k5)) (fun b => b = X) := turns_set (S := fun b => b = X) (turns_sets (S := fun b => b = X) X rfl _ _ _) rfl _ _
  generalize (w'.setCells X 7 [.int .i64 x0, .int .i64 y0, .int .i64 x1, .int .i64 y1]).setCell ⟨X, 5, none⟩ (.slice v5 0 k5) = V at *
  have zb := hb.size
  refine ⟨rfl, (hb.mono hB).trans (tt.below (by omega) (fun k e => e ▸ hX)), fun P' hP => ?_⟩
  injection hP with hP
  subst hP
  refine h.close (by have := tt.size; omega) (fun b hb' => ?_) (g := { p.now with path := [], x0 := x0, y0 := y0, x1 := x1, y1 := y1 }) rfl (a5' := v5) (c5' := k5) BX (.nil v5 k5) List.nodup_nil hXl hB (fun b hb => absurd hb List.not_mem_nil)
  have lb := h.lt b hb'
  rw [tt.block b (by omega) (fun (e : b = X) => nX (e ▸ hb'))]
  exact hb.block b lb
set_option maxHeartbeats 4000000 in
theorem sp_clip {w : World} {B X : Nat} {P : Pg} (h : PgAt w B X P) (hB : B ≤ w.heap.size) (hX : B ≤ X) (hl : P.now.path.length ≤ 8) (s : ByteArray) (hk : opN s = some 6) (u : Value) :
    Calls Tryz.prog 31 #[.pointer (some ⟨X, 0, none⟩), .string s, u] w (OpRes B X (if P.now.path.length = 0 then none else some (cliM P)) w) := by
  obtain ⟨a0, c0, f0, a5, c5, P5, a11, c11, P11, f11, a12, c12, P12, f12, h⟩ := h.flat
  obtain ⟨q0, q1, q2, q3, q4, q5, q6, q7, q8, q9, q10, q11⟩ := nm12 hk
  have hXl := h.blk.2.2
  obtain ⟨n, hN⟩ : ∃ n, P.now.path.length = n := ⟨_, rfl⟩
  have k5 := h.blk.1 5 _ rfl
  rw [hN] at k5 hl ⊢
  by_cases h0 : n = 0
  · subst h0
    have HN : Hid (OpRes B X none w (.returned (.bool false)) w) := Lib.hid ⟨rfl, (Below.refl _ _).mono hB, fun P' hP => by cases hP⟩
    clear h hk hN
    go_enter Tryz.func31, Tryz.ntmps31
    go_wp2
    go_ret
    exact HN.out
  · rw [if_neg h0]
    obtain ⟨_, hp⟩ := path_of (row_own2 h.r5 (h.o5 w))
    have hp : ∃ g, a5 = some ⟨g, 0, none⟩ ∧ g < w.heap.size ∧ PtsAt w g n (pX P.now.path) (pY P.now.path) := by
      rcases hp with hp | ⟨g, e, hg, hp⟩
      · exact absurd (by rw [← hN, hp]; rfl) h0
      · exact ⟨g, e, hg, fun i hi => hp i (by rw [hN]; exact hi)⟩
    obtain ⟨g, rfl, hg, hp⟩ := hp
    obtain ⟨m0, hm0⟩ : ∃ x, sel (clB P.now) (mx P.now.x0 (bx0 P.now.path)) = x := ⟨_, rfl⟩
    obtain ⟨m1, hm1⟩ : ∃ x, sel (clB P.now) (mx P.now.y0 (bx1 P.now.path)) = x := ⟨_, rfl⟩
    obtain ⟨m2, hm2⟩ : ∃ x, sel (clB P.now) (mn P.now.x1 (bx2 P.now.path)) = x := ⟨_, rfl⟩
    obtain ⟨m3, hm3⟩ : ∃ x, sel (clB P.now) (mn P.now.y1 (bx3 P.now.path)) = x := ⟨_, rfl⟩
    have hM : ∀ w : World, Calls Tryz.prog 67 #[.agg #[.int .i64 P.now.x0, .int .i64 P.now.y0, .int .i64 P.now.x1, .int .i64 P.now.y1], .agg #[.int .i64 (bx0 P.now.path), .int .i64 (bx1 P.now.path), .int .i64 (bx2 P.now.path), .int .i64 (bx3 P.now.path)]] w fun e w' => e = .returned (.agg #[.int .i64 m0, .int .i64 m1, .int .i64 m2, .int .i64 m3]) ∧ Below w.heap.size w w' := fun w => by
      subst hm0 hm1 hm2 hm3
      exact meet_spec P.now.x0 P.now.y0 P.now.x1 P.now.y1 (bx0 P.now.path) (bx1 P.now.path) (bx2 P.now.path) (bx3 P.now.path) w
    have HF := Lib.hid (fun (W : World) (hb : Below w.heap.size w W) => (show OpRes B X (some (cliM P)) w (.returned (.bool true)) ((W.setCells X 7 [.int .i64 m0, .int .i64 m1, .int .i64 m2, .int .i64 m3]).setCell ⟨X, 5, none⟩ (.slice (some ⟨W.heap.size, 0, none⟩) 0 0)) from by
      have := h.clipG hb hB hX m0 m1 m2 m3 (some ⟨W.heap.size, 0, none⟩) 0
      subst hm0 hm1 hm2 hm3
      exact this))
    have hBx : Calls Tryz.prog 68 #[.slice (some ⟨g, 0, none⟩) n c5] w.drew fun e w' => e = .returned (.agg #[.int .i64 (bx0 P.now.path), .int .i64 (bx1 P.now.path), .int .i64 (bx2 P.now.path), .int .i64 (bx3 P.now.path)]) ∧ Below w.heap.size w w' := by
      refine (boxof_spec g n c5 (pX P.now.path) (pY P.now.path) w.drew (by omega) (by simpa using hg) hp).mono ?_
      rintro e w' ⟨rfl, hb⟩
      refine ⟨?_, on_of (show Below w.heap.size w w.drew from by go_grown) hb⟩
      simp only [boxofV, bx0, bx1, bx2, bx3, bxB, hN]
    obtain ⟨b0, hb0⟩ : ∃ x, bx0 P.now.path = x := ⟨_, rfl⟩
    obtain ⟨b1, hb1⟩ : ∃ x, bx1 P.now.path = x := ⟨_, rfl⟩
    obtain ⟨b2, hb2⟩ : ∃ x, bx2 P.now.path = x := ⟨_, rfl⟩
    obtain ⟨b3, hb3⟩ : ∃ x, bx3 P.now.path = x := ⟨_, rfl⟩
    rw [hb0, hb1, hb2, hb3] at hBx
    simp only [hb0, hb1, hb2, hb3] at hM
    have HM := Lib.hid hM
    have HBx := Lib.hid hBx
    have n0 : ((n : Int) == 0) = false := by simp; omega
    have HK := Lib.hid (fun (W : World) (hb : Below w.heap.size w W) => (show (W.cell? ⟨X, 7, none⟩ = some (.int .i64 P.now.x0) ∧ W.cell? ⟨X, 8, none⟩ = some (.int .i64 P.now.y0) ∧ W.cell? ⟨X, 9, none⟩ = some (.int .i64 P.now.x1) ∧ W.cell? ⟨X, 10, none⟩ = some (.int .i64 P.now.y1)) ∧ W.cell? ⟨X, 5, none⟩ = some (.slice (some ⟨g, 0, none⟩) n c5) ∧ (∀ o, W.frozen? ⟨X, o, none⟩ = false) from by
      have k := h.blk.keep hb
      rw [← hN]
      exact ⟨⟨k.1 7 _ rfl, k.1 8 _ rfl, k.1 9 _ rfl, k.1 10 _ rfl⟩, k.1 5 _ rfl, k.2.1⟩))
    obtain ⟨⟨k7, k8, k9, k10⟩, _, fz⟩ := HK.out w (Below.refl _ _)
    clear h hk hN h0 hp hM hBx hm0 hm1 hm2 hm3 hb0 hb1 hb2 hb3
    go_enter Tryz.func31, Tryz.ntmps31
    go_upto_region 28 with (fail)
    go_region_law (first
      | (go_simp; go_at_call 68; (with_reducible refine (HBx.out).mono ?_); rintro e w5 ⟨rfl, b5⟩; have H5 := Lib.hid b5; obtain ⟨⟨j7, j8, j9, j10⟩, j5, fj⟩ := HK.out w5 b5; clear b5)
      | (go_simp; go_at_call 67; (with_reducible refine (HM.out _).mono ?_); rintro e w6 ⟨rfl, b6⟩; have b6 := on_of H5.out b6; have H6 := Lib.hid b6; obtain ⟨⟨i7, i8, i9, i10⟩, i5, fi⟩ := HK.out w6 b6; have lX := (show X < w6.heap.size from by have := b6.size; omega); clear b6))
    all_goals
      go_wp2
      go_ret
      exact (HF.out _ H6.out).alloc (by have := H6.out.size; have e := (turns_sets (S := fun b => b = X) X rfl [.int .i64 m0, .int .i64 m1, .int .i64 m2, .int .i64 m3] 7 w6).size; simp; omega) _
end Go.Proofs.YtnkookegoicfnaaGreat.Own

