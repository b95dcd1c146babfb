/-
  Texts of this seat, laid together: SpM
-/
import Derived.Test.YtjmfgbbngocodaaGreatV46
namespace Go.Proofs.YtjmfgbbngocodaaGreat.Own
open Go.ChangeShapes Go.WideShapes Go.ChangeAt Go.RowKit
open Kit Slabs Ints Stack Point Turn Push Take Opn SOp Scan
set_option linter.unusedVariables false
set_option linter.unusedSimpArgs false
set_option linter.unnecessarySimpa false
set_option maxRecDepth 100000
attribute [local go_sem ↓] hload_Graphics hload_Object hstore_Graphics hstore_Object hload_Page hstore_Page
set_option maxHeartbeats 8000000 in
theorem exec_push (w : World) {A : Array Value} {p : Pg} {fp : List Nat} (hb : bulkL p.dt ≤ 1048576) (h : OwnL w LPage A.toList p.dt fp) (s : ByteArray) (m : Int) (hz : s.size ≤ 1048576) (hv : pgB p = true) (hk : tkB s m = true) (hs : s.toList.isEmpty = true) :
    Calls Tryz.prog 7 #[.agg A, .agg #[.string s, .int .i64 m]] w (ExNew p s m w) := by
  obtain ⟨W, hW⟩ : ∃ W, (((w.alloc (.cells A 46)).alloc (.cells #[.string s, .int .i64 m] 50)).alloc (.cells #[.slice none 0 0, .int .i64 0, .int .i64 0, .int .i64 0, .int .i64 0, .slice none 0 0, .int .i64 0, .int .i64 0, .int .i64 0, .int .i64 0, .int .i64 0, .slice none 0 0, .slice none 0 0] 46)) = W := ⟨_, rfl⟩
  have BA : Blk W w.heap.size A.toList := by rw [← hW]; exact ((Blk.new w A 46 rfl).alloc _).alloc _
  have BT : Blk W (w.heap.size + 1) [.string s, .int .i64 m] := by rw [← hW]; exact (Blk.new (w.alloc (.cells A 46)) #[.string s, .int .i64 m] 50 (by simp)).alloc _
  have BR : Blk W (w.heap.size + 2) zeroP.toList := by rw [← hW]; exact Blk.new ((w.alloc (.cells A 46)).alloc (.cells #[.string s, .int .i64 m] 50)) zeroP 46 (by simp)
  have bW : Below w.heap.size w W := by rw [← hW]; go_grown
  obtain ⟨GP, hGP⟩ : ∃ x, w.heap.size = x := ⟨_, rfl⟩
  obtain ⟨GT, hGT⟩ : ∃ x, GP + 1 = x := ⟨_, rfl⟩
  obtain ⟨GR, hGR⟩ : ∃ x, GT + 1 = x := ⟨_, rfl⟩
  have HG := Lib.hid (fun (V : World) (hV : Below W.heap.size W V) => (show (Blk V GP A.toList ∧ Blk V GT [.string s, .int .i64 m] ∧ Blk V GR zeroP.toList) ∧ Below w.heap.size w V from by
    rw [← hGR, ← hGT, ← hGP]
    exact ⟨⟨BA.keep hV, BT.keep hV, BR.keep hV⟩, on_of bW hV⟩))
  have HA := Lib.hid (fun (V : World) (hV : Below w.heap.size w V) => h.under hV)
  have HL := Lib.hid (fun (V : World) (hV : Blk V GP A.toList) => var_load (P := Tryz.prog) (T := 46) Tryz.isAgg46 Tryz.sizeOf46 hV h rfl)
  have gGR : w.heap.size ≤ GR := by omega
  have HF := Lib.hid (fun (V w1 : World) (hV : Below W.heap.size W V) (b1 : Below V.heap.size V w1) (R : Array Value) (F : List Nat) (pr : PgRows w1 V.heap.size R.toList p F) (hr : exR p s m = none) => (show ∃ E, (hstore 46 ⟨GR, 0, none⟩ (.agg R)).run Tryz.prog w1 = .ok () E ∧ (hload 46 ⟨GR, 0, none⟩).run Tryz.prog E = .ok (.agg R) E ∧ ExNew p s m w (.returned (.tuple #[.agg R, .bool false])) E from by
    obtain ⟨f, o, n, sb⟩ := pr.own
    obtain ⟨E, st, ld, oE, nE, gE, bE⟩ := store_res (HG.out V hV).2 b1 (HG.out V hV).1.2.2 gGR o n (fun b hb => pr.ge b (sb b hb))
    obtain ⟨e1, e2⟩ := ex_same hr
    exact ⟨E, st, ld, R, f, by rw [e1], by rw [e2]; exact oE, nE, gE, bE⟩))
  obtain ⟨sa, sc, sf, hA0, so⟩ := st_of h
  obtain ⟨n, hN⟩ : ∃ n, p.now.st.length = n := ⟨_, rfl⟩
  obtain ⟨Y, hY⟩ : ∃ Y, xI p.now.st = Y := ⟨_, rfl⟩
  have HSt := Lib.hid (fun (V : World) (hV : Below W.heap.size W V) => (show V.cell? ⟨GP, 0, none⟩ = some (.slice sa n sc) ∧ Rd V (.slice sa n sc) n Y from by
    rw [← hN, ← hY]
    exact ⟨(HG.out V hV).1.1.1 0 _ hA0, rd_of (so.under (HG.out V hV).2)⟩))
  have HNY := Lib.hid (And.intro hN hY)
  clear hA0 so hN hY
  have HB := Lib.hid hb
  have HGT := Lib.hid hGT
  have HGR := Lib.hid hGR
  clear BA BT BR hb hGT hGR
  go_enter Tryz.func7, Tryz.ntmps7
  go_upto_region 1 with (fail)
  have zW : w.heap.size ≤ W.heap.size := bW.size
  have gPW : GP < W.heap.size := (HG.out W (Below.refl _ _)).1.1.2.2
  have HbW := Lib.hid bW
  rw [HGT.out, HGR.out]
  clear hW hGP HGT HGR bW h
  have ra := HL.out W (HG.out W (Below.refl _ _)).1.1
  have HP := Lib.hid (fun (V : World) (hV : Below W.heap.size W V) => pg_spec V HB.out (HA.out V (HG.out V hV).2))
  have HCl := Lib.hid (fun (V : World) (hV : Below W.heap.size W V) => copy_Page V HB.out (HA.out V (HG.out V hV).2))
  · rw [hv] at HP
    have HT := Lib.hid (fun (V : World) => tok_spec s m V (by omega))
    · rw [hk] at HT
      go_wp2_with fail
      ((with_reducible refine (HP.out W (Below.refl _ _)).mono ?_); rintro e w1 ⟨rfl, b1⟩)
      have t0 := (HG.out w1 b1).1.2.1.1 0 _ rfl
      have t1 := (HG.out w1 b1).1.2.1.1 1 _ rfl
      have HB1 := Lib.hid b1
      clear ra b1
      go_wp2_with fail
      ((with_reducible refine (HT.out w1).mono ?_); rintro e w2 ⟨rfl, b2⟩)
      have b2 := on_of HB1.out b2
      have r2 := HL.out w2 (HG.out w2 b2).1.1
      have HB2 := Lib.hid b2
      clear t0 t1 b2
      go_wp2_with fail
      ((with_reducible refine (HCl.out w2 HB2.out).mono ?_); rintro e w3 ⟨R1, F1, rfl, p1, b3⟩)
      obtain ⟨f1, o1, _, _⟩ := p1.own
      obtain ⟨E, st, BX, cx, zx⟩ := var_new (P := Tryz.prog) (T := 46) Tryz.sizeOf46 w3 zeroP rfl (R := R1) o1 rfl
      have z3 := b3.size
      have z2 := HB2.out.size
      obtain ⟨O, hO⟩ : ∃ O, w3.heap.size = O := ⟨_, rfl⟩
      rw [hO] at st BX
      have PA : PgAt E w2.heap.size O p := at_of_rows (p1.under cx) BX (fun hx => by have := p1.lt O hx; omega)
      have bE := on_of b3 cx
      have t0 := (HG.out E (on_of HB2.out bE)).1.2.1.1 0 _ rfl
      have t1 := (HG.out E (on_of HB2.out bE)).1.2.1.1 1 _ rfl
      obtain ⟨p0, d0, r0, p5, d5, Q5, p11, d11, Q11, r11, p12, d12, Q12, r12, hFl⟩ := PA.flat
      have ko := hFl.blk.1 0 _ rfl
      have HFl := Lib.hid hFl
      have HEW := Lib.hid (on_of HB2.out bE)
      obtain ⟨hStc, hStr⟩ := HSt.out E HEW.out
      have HRd := Lib.hid hStr
      have HOB := Lib.hid (fun (V : World) (hb : Below E.heap.size E V) => (show V.cell? ⟨O, 0, none⟩ = some (.slice p0 p.now.st.length d0) ∧ ∀ o, V.frozen? ⟨O, o, none⟩ = false from ⟨(hFl.blk.keep hb).1 0 _ rfl, (hFl.blk.keep hb).2.1⟩))
      have hBE : w2.heap.size ≤ E.heap.size := bE.size
      have hBO : w2.heap.size ≤ O := by omega
      have hOE : O < E.heap.size := BX.2.2
      obtain ⟨hfit, hst⟩ := fit_of hv
      rw [HNY.out.1, HNY.out.2] at hst
      have hn12 : n ≤ 12 := by simp only [stB, Bool.and_eq_true, decide_eq_true_eq] at hst; exact hst.1
      obtain ⟨r, hr0⟩ : ∃ r, exS p s m = r := ⟨_, rfl⟩
      have HRr := Lib.hid hr0
      have HTk := Lib.hid (tk_spec s E)
      have HE := Lib.hid (And.intro bE (on_of HB2.out bE))
      have zO : w2.heap.size ≤ O := by omega
      unfold exS at hr0
      rw [HNY.out.1, HNY.out.2] at hr0
      clear r2 p1 o1 b3 cx PA BX bE hFl hStr ko
      rw [if_pos hs] at hr0
      obtain ⟨v, hvv⟩ : ∃ v, puB Y n m = v := ⟨_, rfl⟩
      rw [hvv] at hr0
      have HC := Lib.hid (show Calls Tryz.prog 27 #[.slice sa n sc, .int .i64 m] E (fun e w' => ∃ a' k' c', e = .returned (.tuple #[.slice a' k' c', .bool v]) ∧ Below E.heap.size E w' ∧ OpRes w2.heap.size O r E (.returned (.bool v)) (w'.setCell ⟨O, 0, none⟩ (.slice a' k' c'))) from by
        refine (push_spec E _ n Y m (by omega) HRd.out).mono ?_
        rintro e w' ⟨u, rfl, hs, bb⟩
        obtain ⟨a', c', e'⟩ := slab_sl hs
        subst e'
        refine ⟨_, _, _, by rw [hvv], bb, HFl.out.stackR bb hBE hBO hs hr0 (fun e => by rw [puN, hvv, if_pos e])⟩)
      clear hr0 hvv
      go_wp2_with fail
      clear st
      ((with_reducible refine (HTk.out).mono ?_); rintro e w4 ⟨rfl, rfl⟩)
      go_wp2_with fail
      ((with_reducible refine (HC.out).mono ?_); rintro e w4 ⟨a', k', c', rfl, b5, hr⟩)
      obtain ⟨j0, fj⟩ := HOB.out w4 b5
      obtain ⟨e4, b4, p4⟩ := hr
      injection e4 with e4
      injection e4 with e4
      clear b5 hStc t0 t1
      go_upto_region 23 with (fail)
      generalize w4.setCell ⟨O, 0, none⟩ (.slice a' k' c') = w4 at b4 p4 ⊢
      try rw [e4]
      clear e4 j0 fj hO hOE
      have b24 : Below w2.heap.size w2 w4 := HE.out.1.trans b4
      have bW4 := on_of HB2.out b24
      cases r with
      | none =>
        have hr : exR p s m = none := by simp [exR_S, hv, hk, HRr.out]
        have r4 := HL.out w4 (HG.out w4 bW4).1.1
        have HB4 := Lib.hid bW4
        clear b4 p4 b24 bW4
        simp only [Option.isSome_none]
        go_wp2_with fail
        ((with_reducible refine (HCl.out w4 HB4.out).mono ?_); rintro e w5 ⟨R, F, rfl, pr, b5⟩)
        obtain ⟨E2, st, ld, hE⟩ := HF.out w4 w5 HB4.out b5 R F pr hr
        have HEE := Lib.hid hE
        clear r4 pr b5 hE
        go_wp2
        refine bodyPost_ret (results_h2 Tryz.results10 (by rfl) (by rfl) ld) rfl ?_
        exact HEE.out
      | some P' =>
        obtain ⟨R', f', BO, oO, nO, nXO, gO⟩ := p4 P' rfl
        have r4 := var_load (P := Tryz.prog) (T := 46) Tryz.isAgg46 Tryz.sizeOf46 BO oO rfl
        have HPP := Lib.hid (pg_spec w4 ((exP_len hv (exS_of HRr.out)).bulk (by omega) (by omega) (by omega) (by omega)) oO)
        have H4 := Lib.hid (And.intro BO (And.intro oO (And.intro nO (And.intro gO (And.intro b24 bW4)))))
        clear b4 p4 b24 bW4 BO oO nO nXO gO
        simp only [Option.isSome_some]
        cases hv' : pgB P'
        · have hr : exR p s m = none := by simp [exR_S, hv, hk, HRr.out, Option.filter, hv']
          rw [hv'] at HPP
          go_wp2_with fail
          ((with_reducible refine (HPP.out).mono ?_); rintro e w5 ⟨rfl, b5⟩)
          have b5W := on_of H4.out.2.2.2.2.2 b5
          have r5 := HL.out w5 (HG.out w5 b5W).1.1
          have HB5 := Lib.hid b5W
          clear r4 b5 b5W
          go_wp2_with fail
          ((with_reducible refine (HCl.out w5 HB5.out).mono ?_); rintro e w6 ⟨R, F, rfl, pr, b6⟩)
          obtain ⟨E2, st, ld, hE⟩ := HF.out w5 w6 HB5.out b6 R F pr hr
          have HEE := Lib.hid hE
          clear r5 pr b6 hE
          go_wp2
          refine bodyPost_ret (results_h2 Tryz.results10 (by rfl) (by rfl) ld) rfl ?_
          exact HEE.out
        · have hr : exR p s m = some P' := by simp [exR_S, hv, hk, HRr.out, Option.filter, hv']
          obtain ⟨e1, e2⟩ := ex_some hr
          rw [hv'] at HPP
          go_wp2_with fail
          ((with_reducible refine (HPP.out).mono ?_); rintro e w5 ⟨rfl, b5⟩)
          have BO5 := H4.out.1.keep b5
          have oO5 := H4.out.2.1.under b5
          have r5 := var_load (P := Tryz.prog) (T := 46) Tryz.isAgg46 Tryz.sizeOf46 BO5 oO5 rfl
          obtain ⟨E2, st, ld, oE, nE, gE, bE⟩ := store_res (HG.out w2 HB2.out).2 (on_of H4.out.2.2.2.2.1 b5) (HG.out w2 HB2.out).1.2.2 gGR oO5 H4.out.2.2.1 H4.out.2.2.2.1
          have HEE := Lib.hid (show ExNew p s m w (.returned (.tuple #[.agg R', .bool true])) E2 from ⟨R', f', by rw [e1], by rw [e2]; exact oE, nE, gE, bE⟩)
          clear r4 b5 BO5 oO5 oE nE gE bE
          go_wp2
          refine bodyPost_ret (results_h2 Tryz.results10 (by rfl) (by rfl) ld) rfl ?_
          exact HEE.out
set_option maxHeartbeats 8000000 in
theorem exec_so (w : World) {A : Array Value} {p : Pg} {fp : List Nat} (hb : bulkL p.dt ≤ 1048576) (h : OwnL w LPage A.toList p.dt fp) (s : ByteArray) (m : Int) (hz : s.size ≤ 1048576) (hv : pgB p = true) (hk : tkB s m = true) (hs : s.toList.isEmpty = false) (ho : opB s = true) :
    Calls Tryz.prog 7 #[.agg A, .agg #[.string s, .int .i64 m]] w (ExNew p s m w) := by
  obtain ⟨W, hW⟩ : ∃ W, (((w.alloc (.cells A 46)).alloc (.cells #[.string s, .int .i64 m] 50)).alloc (.cells #[.slice none 0 0, .int .i64 0, .int .i64 0, .int .i64 0, .int .i64 0, .slice none 0 0, .int .i64 0, .int .i64 0, .int .i64 0, .int .i64 0, .int .i64 0, .slice none 0 0, .slice none 0 0] 46)) = W := ⟨_, rfl⟩
  have BA : Blk W w.heap.size A.toList := by rw [← hW]; exact ((Blk.new w A 46 rfl).alloc _).alloc _
  have BT : Blk W (w.heap.size + 1) [.string s, .int .i64 m] := by rw [← hW]; exact (Blk.new (w.alloc (.cells A 46)) #[.string s, .int .i64 m] 50 (by simp)).alloc _
  have BR : Blk W (w.heap.size + 2) zeroP.toList := by rw [← hW]; exact Blk.new ((w.alloc (.cells A 46)).alloc (.cells #[.string s, .int .i64 m] 50)) zeroP 46 (by simp)
  have bW : Below w.heap.size w W := by rw [← hW]; go_grown
  obtain ⟨GP, hGP⟩ : ∃ x, w.heap.size = x := ⟨_, rfl⟩
  obtain ⟨GT, hGT⟩ : ∃ x, GP + 1 = x := ⟨_, rfl⟩
  obtain ⟨GR, hGR⟩ : ∃ x, GT + 1 = x := ⟨_, rfl⟩
  have HG := Lib.hid (fun (V : World) (hV : Below W.heap.size W V) => (show (Blk V GP A.toList ∧ Blk V GT [.string s, .int .i64 m] ∧ Blk V GR zeroP.toList) ∧ Below w.heap.size w V from by
    rw [← hGR, ← hGT, ← hGP]
    exact ⟨⟨BA.keep hV, BT.keep hV, BR.keep hV⟩, on_of bW hV⟩))
  have HA := Lib.hid (fun (V : World) (hV : Below w.heap.size w V) => h.under hV)
  have HL := Lib.hid (fun (V : World) (hV : Blk V GP A.toList) => var_load (P := Tryz.prog) (T := 46) Tryz.isAgg46 Tryz.sizeOf46 hV h rfl)
  have gGR : w.heap.size ≤ GR := by omega
  have HF := Lib.hid (fun (V w1 : World) (hV : Below W.heap.size W V) (b1 : Below V.heap.size V w1) (R : Array Value) (F : List Nat) (pr : PgRows w1 V.heap.size R.toList p F) (hr : exR p s m = none) => (show ∃ E, (hstore 46 ⟨GR, 0, none⟩ (.agg R)).run Tryz.prog w1 = .ok () E ∧ (hload 46 ⟨GR, 0, none⟩).run Tryz.prog E = .ok (.agg R) E ∧ ExNew p s m w (.returned (.tuple #[.agg R, .bool false])) E from by
    obtain ⟨f, o, n, sb⟩ := pr.own
    obtain ⟨E, st, ld, oE, nE, gE, bE⟩ := store_res (HG.out V hV).2 b1 (HG.out V hV).1.2.2 gGR o n (fun b hb => pr.ge b (sb b hb))
    obtain ⟨e1, e2⟩ := ex_same hr
    exact ⟨E, st, ld, R, f, by rw [e1], by rw [e2]; exact oE, nE, gE, bE⟩))
  obtain ⟨sa, sc, sf, hA0, so⟩ := st_of h
  obtain ⟨n, hN⟩ : ∃ n, p.now.st.length = n := ⟨_, rfl⟩
  obtain ⟨Y, hY⟩ : ∃ Y, xI p.now.st = Y := ⟨_, rfl⟩
  have HSt := Lib.hid (fun (V : World) (hV : Below W.heap.size W V) => (show V.cell? ⟨GP, 0, none⟩ = some (.slice sa n sc) ∧ Rd V (.slice sa n sc) n Y from by
    rw [← hN, ← hY]
    exact ⟨(HG.out V hV).1.1.1 0 _ hA0, rd_of (so.under (HG.out V hV).2)⟩))
  have HNY := Lib.hid (And.intro hN hY)
  clear hA0 so hN hY
  have HB := Lib.hid hb
  have HGT := Lib.hid hGT
  have HGR := Lib.hid hGR
  clear BA BT BR hb hGT hGR
  go_enter Tryz.func7, Tryz.ntmps7
  go_upto_region 1 with (fail)
  have zW : w.heap.size ≤ W.heap.size := bW.size
  have gPW : GP < W.heap.size := (HG.out W (Below.refl _ _)).1.1.2.2
  have HbW := Lib.hid bW
  rw [HGT.out, HGR.out]
  clear hW hGP HGT HGR bW h
  have ra := HL.out W (HG.out W (Below.refl _ _)).1.1
  have HP := Lib.hid (fun (V : World) (hV : Below W.heap.size W V) => pg_spec V HB.out (HA.out V (HG.out V hV).2))
  have HCl := Lib.hid (fun (V : World) (hV : Below W.heap.size W V) => copy_Page V HB.out (HA.out V (HG.out V hV).2))
  · rw [hv] at HP
    have HT := Lib.hid (fun (V : World) => tok_spec s m V (by omega))
    · rw [hk] at HT
      go_wp2_with fail
      ((with_reducible refine (HP.out W (Below.refl _ _)).mono ?_); rintro e w1 ⟨rfl, b1⟩)
      have t0 := (HG.out w1 b1).1.2.1.1 0 _ rfl
      have t1 := (HG.out w1 b1).1.2.1.1 1 _ rfl
      have HB1 := Lib.hid b1
      clear ra b1
      go_wp2_with fail
      ((with_reducible refine (HT.out w1).mono ?_); rintro e w2 ⟨rfl, b2⟩)
      have b2 := on_of HB1.out b2
      have r2 := HL.out w2 (HG.out w2 b2).1.1
      have HB2 := Lib.hid b2
      clear t0 t1 b2
      go_wp2_with fail
      ((with_reducible refine (HCl.out w2 HB2.out).mono ?_); rintro e w3 ⟨R1, F1, rfl, p1, b3⟩)
      obtain ⟨f1, o1, _, _⟩ := p1.own
      obtain ⟨E, st, BX, cx, zx⟩ := var_new (P := Tryz.prog) (T := 46) Tryz.sizeOf46 w3 zeroP rfl (R := R1) o1 rfl
      have z3 := b3.size
      have z2 := HB2.out.size
      obtain ⟨O, hO⟩ : ∃ O, w3.heap.size = O := ⟨_, rfl⟩
      rw [hO] at st BX
      have PA : PgAt E w2.heap.size O p := at_of_rows (p1.under cx) BX (fun hx => by have := p1.lt O hx; omega)
      have bE := on_of b3 cx
      have t0 := (HG.out E (on_of HB2.out bE)).1.2.1.1 0 _ rfl
      have t1 := (HG.out E (on_of HB2.out bE)).1.2.1.1 1 _ rfl
      obtain ⟨p0, d0, r0, p5, d5, Q5, p11, d11, Q11, r11, p12, d12, Q12, r12, hFl⟩ := PA.flat
      have ko := hFl.blk.1 0 _ rfl
      have HFl := Lib.hid hFl
      have HEW := Lib.hid (on_of HB2.out bE)
      obtain ⟨hStc, hStr⟩ := HSt.out E HEW.out
      have HRd := Lib.hid hStr
      have HOB := Lib.hid (fun (V : World) (hb : Below E.heap.size E V) => (show V.cell? ⟨O, 0, none⟩ = some (.slice p0 p.now.st.length d0) ∧ ∀ o, V.frozen? ⟨O, o, none⟩ = false from ⟨(hFl.blk.keep hb).1 0 _ rfl, (hFl.blk.keep hb).2.1⟩))
      have hBE : w2.heap.size ≤ E.heap.size := bE.size
      have hBO : w2.heap.size ≤ O := by omega
      have hOE : O < E.heap.size := BX.2.2
      obtain ⟨hfit, hst⟩ := fit_of hv
      rw [HNY.out.1, HNY.out.2] at hst
      have hn12 : n ≤ 12 := by simp only [stB, Bool.and_eq_true, decide_eq_true_eq] at hst; exact hst.1
      obtain ⟨r, hr0⟩ : ∃ r, exS p s m = r := ⟨_, rfl⟩
      have HRr := Lib.hid hr0
      have HTk := Lib.hid (tk_spec s E)
      have HE := Lib.hid (And.intro bE (on_of HB2.out bE))
      have zO : w2.heap.size ≤ O := by omega
      unfold exS at hr0
      rw [HNY.out.1, HNY.out.2] at hr0
      clear r2 p1 o1 b3 cx PA BX bE hFl hStr ko
      rw [if_neg (by rw [hs]; decide)] at hr0
      rw [if_pos ho] at hr0
      obtain ⟨v, hvv⟩ : ∃ v, soB Y n s = v := ⟨_, rfl⟩
      rw [hvv] at hr0
      have HC := Lib.hid (show Calls Tryz.prog 29 #[.slice sa n sc, .string s] E (fun e w' => ∃ a' k' c', e = .returned (.tuple #[.slice a' k' c', .bool v]) ∧ Below E.heap.size E w' ∧ OpRes w2.heap.size O r E (.returned (.bool v)) (w'.setCell ⟨O, 0, none⟩ (.slice a' k' c'))) from by
        refine (so_spec E _ n Y s (by omega) HRd.out).mono ?_
        rintro e w' ⟨u, rfl, hs, bb⟩
        have hs := Slab.of_owns hs (ic_len _)
        obtain ⟨a', c', e'⟩ := slab_sl hs
        subst e'
        refine ⟨_, _, _, by rw [hvv], bb, HFl.out.stackR bb hBE hBO hs hr0 (fun e => rfl)⟩)
      have HIs := Lib.hid (isop_spec E s)
      rw [ho] at HIs
      clear hr0 hvv ho
      go_wp2_with fail
      clear st
      ((with_reducible refine (HTk.out).mono ?_); rintro e w4 ⟨rfl, rfl⟩)
      go_wp2_with fail
      ((with_reducible refine (HIs.out).mono ?_); rintro e w4 ⟨rfl, rfl⟩)
      go_wp2_with fail
      ((with_reducible refine (HC.out).mono ?_); rintro e w4 ⟨a', k', c', rfl, b5, hr⟩)
      obtain ⟨j0, fj⟩ := HOB.out w4 b5
      obtain ⟨e4, b4, p4⟩ := hr
      injection e4 with e4
      injection e4 with e4
      clear b5 hStc t0 t1
      go_upto_region 23 with (fail)
      generalize w4.setCell ⟨O, 0, none⟩ (.slice a' k' c') = w4 at b4 p4 ⊢
      try rw [e4]
      clear e4 j0 fj hO hOE
      have b24 : Below w2.heap.size w2 w4 := HE.out.1.trans b4
      have bW4 := on_of HB2.out b24
      cases r with
      | none =>
        have hr : exR p s m = none := by simp [exR_S, hv, hk, HRr.out]
        have r4 := HL.out w4 (HG.out w4 bW4).1.1
        have HB4 := Lib.hid bW4
        clear b4 p4 b24 bW4
        simp only [Option.isSome_none]
        go_wp2_with fail
        ((with_reducible refine (HCl.out w4 HB4.out).mono ?_); rintro e w5 ⟨R, F, rfl, pr, b5⟩)
        obtain ⟨E2, st, ld, hE⟩ := HF.out w4 w5 HB4.out b5 R F pr hr
        have HEE := Lib.hid hE
        clear r4 pr b5 hE
        go_wp2
        refine bodyPost_ret (results_h2 Tryz.results10 (by rfl) (by rfl) ld) rfl ?_
        exact HEE.out
      | some P' =>
        obtain ⟨R', f', BO, oO, nO, nXO, gO⟩ := p4 P' rfl
        have r4 := var_load (P := Tryz.prog) (T := 46) Tryz.isAgg46 Tryz.sizeOf46 BO oO rfl
        have HPP := Lib.hid (pg_spec w4 ((exP_len hv (exS_of HRr.out)).bulk (by omega) (by omega) (by omega) (by omega)) oO)
        have H4 := Lib.hid (And.intro BO (And.intro oO (And.intro nO (And.intro gO (And.intro b24 bW4)))))
        clear b4 p4 b24 bW4 BO oO nO nXO gO
        simp only [Option.isSome_some]
        cases hv' : pgB P'
        · have hr : exR p s m = none := by simp [exR_S, hv, hk, HRr.out, Option.filter, hv']
          rw [hv'] at HPP
          go_wp2_with fail
          ((with_reducible refine (HPP.out).mono ?_); rintro e w5 ⟨rfl, b5⟩)
          have b5W := on_of H4.out.2.2.2.2.2 b5
          have r5 := HL.out w5 (HG.out w5 b5W).1.1
          have HB5 := Lib.hid b5W
          clear r4 b5 b5W
          go_wp2_with fail
          ((with_reducible refine (HCl.out w5 HB5.out).mono ?_); rintro e w6 ⟨R, F, rfl, pr, b6⟩)
          obtain ⟨E2, st, ld, hE⟩ := HF.out w5 w6 HB5.out b6 R F pr hr
          have HEE := Lib.hid hE
          clear r5 pr b6 hE
          go_wp2
          refine bodyPost_ret (results_h2 Tryz.results10 (by rfl) (by rfl) ld) rfl ?_
          exact HEE.out
        · have hr : exR p s m = some P' := by simp [exR_S, hv, hk, HRr.out, Option.filter, hv']
          obtain ⟨e1, e2⟩ := ex_some hr
          rw [hv'] at HPP
          go_wp2_with fail
          ((with_reducible refine (HPP.out).mono ?_); rintro e w5 ⟨rfl, b5⟩)
          have BO5 := H4.out.1.keep b5
          have oO5 := H4.out.2.1.under b5
          have r5 := var_load (P := Tryz.prog) (T := 46) Tryz.isAgg46 Tryz.sizeOf46 BO5 oO5 rfl
          obtain ⟨E2, st, ld, oE, nE, gE, bE⟩ := store_res (HG.out w2 HB2.out).2 (on_of H4.out.2.2.2.2.1 b5) (HG.out w2 HB2.out).1.2.2 gGR oO5 H4.out.2.2.1 H4.out.2.2.2.1
          have HEE := Lib.hid (show ExNew p s m w (.returned (.tuple #[.agg R', .bool true])) E2 from ⟨R', f', by rw [e1], by rw [e2]; exact oE, nE, gE, bE⟩)
          clear r4 b5 BO5 oO5 oE nE gE bE
          go_wp2
          refine bodyPost_ret (results_h2 Tryz.results10 (by rfl) (by rfl) ld) rfl ?_
          exact HEE.out
set_option maxHeartbeats 8000000 in
theorem exec_none (w : World) {A : Array Value} {p : Pg} {fp : List Nat} (hb : bulkL p.dt ≤ 1048576) (h : OwnL w LPage A.toList p.dt fp) (s : ByteArray) (m : Int) (hz : s.size ≤ 1048576) (hv : pgB p = true) (hk : tkB s m = true) (hs : s.toList.isEmpty = false) (ho : opB s = false) (hkk : opN s = none) :
    Calls Tryz.prog 7 #[.agg A, .agg #[.string s, .int .i64 m]] w (ExNew p s m w) := by
  obtain ⟨W, hW⟩ : ∃ W, (((w.alloc (.cells A 46)).alloc (.cells #[.string s, .int .i64 m] 50)).alloc (.cells #[.slice none 0 0, .int .i64 0, .int .i64 0, .int .i64 0, .int .i64 0, .slice none 0 0, .int .i64 0, .int .i64 0, .int .i64 0, .int .i64 0, .int .i64 0, .slice none 0 0, .slice none 0 0] 46)) = W := ⟨_, rfl⟩
  have BA : Blk W w.heap.size A.toList := by rw [← hW]; exact ((Blk.new w A 46 rfl).alloc _).alloc _
  have BT : Blk W (w.heap.size + 1) [.string s, .int .i64 m] := by rw [← hW]; exact (Blk.new (w.alloc (.cells A 46)) #[.string s, .int .i64 m] 50 (by simp)).alloc _
  have BR : Blk W (w.heap.size + 2) zeroP.toList := by rw [← hW]; exact Blk.new ((w.alloc (.cells A 46)).alloc (.cells #[.string s, .int .i64 m] 50)) zeroP 46 (by simp)
  have bW : Below w.heap.size w W := by rw [← hW]; go_grown
  obtain ⟨GP, hGP⟩ : ∃ x, w.heap.size = x := ⟨_, rfl⟩
  obtain ⟨GT, hGT⟩ : ∃ x, GP + 1 = x := ⟨_, rfl⟩
  obtain ⟨GR, hGR⟩ : ∃ x, GT + 1 = x := ⟨_, rfl⟩
  have HG := Lib.hid (fun (V : World) (hV : Below W.heap.size W V) => (show (Blk V GP A.toList ∧ Blk V GT [.string s, .int .i64 m] ∧ Blk V GR zeroP.toList) ∧ Below w.heap.size w V from by
    rw [← hGR, ← hGT, ← hGP]
    exact ⟨⟨BA.keep hV, BT.keep hV, BR.keep hV⟩, on_of bW hV⟩))
  have HA := Lib.hid (fun (V : World) (hV : Below w.heap.size w V) => h.under hV)
  have HL := Lib.hid (fun (V : World) (hV : Blk V GP A.toList) => var_load (P := Tryz.prog) (T := 46) Tryz.isAgg46 Tryz.sizeOf46 hV h rfl)
  have gGR : w.heap.size ≤ GR := by omega
  have HF := Lib.hid (fun (V w1 : World) (hV : Below W.heap.size W V) (b1 : Below V.heap.size V w1) (R : Array Value) (F : List Nat) (pr : PgRows w1 V.heap.size R.toList p F) (hr : exR p s m = none) => (show ∃ E, (hstore 46 ⟨GR, 0, none⟩ (.agg R)).run Tryz.prog w1 = .ok () E ∧ (hload 46 ⟨GR, 0, none⟩).run Tryz.prog E = .ok (.agg R) E ∧ ExNew p s m w (.returned (.tuple #[.agg R, .bool false])) E from by
    obtain ⟨f, o, n, sb⟩ := pr.own
    obtain ⟨E, st, ld, oE, nE, gE, bE⟩ := store_res (HG.out V hV).2 b1 (HG.out V hV).1.2.2 gGR o n (fun b hb => pr.ge b (sb b hb))
    obtain ⟨e1, e2⟩ := ex_same hr
    exact ⟨E, st, ld, R, f, by rw [e1], by rw [e2]; exact oE, nE, gE, bE⟩))
  obtain ⟨sa, sc, sf, hA0, so⟩ := st_of h
  obtain ⟨n, hN⟩ : ∃ n, p.now.st.length = n := ⟨_, rfl⟩
  obtain ⟨Y, hY⟩ : ∃ Y, xI p.now.st = Y := ⟨_, rfl⟩
  have HSt := Lib.hid (fun (V : World) (hV : Below W.heap.size W V) => (show V.cell? ⟨GP, 0, none⟩ = some (.slice sa n sc) ∧ Rd V (.slice sa n sc) n Y from by
    rw [← hN, ← hY]
    exact ⟨(HG.out V hV).1.1.1 0 _ hA0, rd_of (so.under (HG.out V hV).2)⟩))
  have HNY := Lib.hid (And.intro hN hY)
  clear hA0 so hN hY
  have HB := Lib.hid hb
  have HGT := Lib.hid hGT
  have HGR := Lib.hid hGR
  clear BA BT BR hb hGT hGR
  go_enter Tryz.func7, Tryz.ntmps7
  go_upto_region 1 with (fail)
  have zW : w.heap.size ≤ W.heap.size := bW.size
  have gPW : GP < W.heap.size := (HG.out W (Below.refl _ _)).1.1.2.2
  have HbW := Lib.hid bW
  rw [HGT.out, HGR.out]
  clear hW hGP HGT HGR bW h
  have ra := HL.out W (HG.out W (Below.refl _ _)).1.1
  have HP := Lib.hid (fun (V : World) (hV : Below W.heap.size W V) => pg_spec V HB.out (HA.out V (HG.out V hV).2))
  have HCl := Lib.hid (fun (V : World) (hV : Below W.heap.size W V) => copy_Page V HB.out (HA.out V (HG.out V hV).2))
  · rw [hv] at HP
    have HT := Lib.hid (fun (V : World) => tok_spec s m V (by omega))
    · rw [hk] at HT
      go_wp2_with fail
      ((with_reducible refine (HP.out W (Below.refl _ _)).mono ?_); rintro e w1 ⟨rfl, b1⟩)
      have t0 := (HG.out w1 b1).1.2.1.1 0 _ rfl
      have t1 := (HG.out w1 b1).1.2.1.1 1 _ rfl
      have HB1 := Lib.hid b1
      clear ra b1
      go_wp2_with fail
      ((with_reducible refine (HT.out w1).mono ?_); rintro e w2 ⟨rfl, b2⟩)
      have b2 := on_of HB1.out b2
      have r2 := HL.out w2 (HG.out w2 b2).1.1
      have HB2 := Lib.hid b2
      clear t0 t1 b2
      go_wp2_with fail
      ((with_reducible refine (HCl.out w2 HB2.out).mono ?_); rintro e w3 ⟨R1, F1, rfl, p1, b3⟩)
      obtain ⟨f1, o1, _, _⟩ := p1.own
      obtain ⟨E, st, BX, cx, zx⟩ := var_new (P := Tryz.prog) (T := 46) Tryz.sizeOf46 w3 zeroP rfl (R := R1) o1 rfl
      have z3 := b3.size
      have z2 := HB2.out.size
      obtain ⟨O, hO⟩ : ∃ O, w3.heap.size = O := ⟨_, rfl⟩
      rw [hO] at st BX
      have PA : PgAt E w2.heap.size O p := at_of_rows (p1.under cx) BX (fun hx => by have := p1.lt O hx; omega)
      have bE := on_of b3 cx
      have t0 := (HG.out E (on_of HB2.out bE)).1.2.1.1 0 _ rfl
      have t1 := (HG.out E (on_of HB2.out bE)).1.2.1.1 1 _ rfl
      obtain ⟨p0, d0, r0, p5, d5, Q5, p11, d11, Q11, r11, p12, d12, Q12, r12, hFl⟩ := PA.flat
      have ko := hFl.blk.1 0 _ rfl
      have HFl := Lib.hid hFl
      have HEW := Lib.hid (on_of HB2.out bE)
      obtain ⟨hStc, hStr⟩ := HSt.out E HEW.out
      have HRd := Lib.hid hStr
      have HOB := Lib.hid (fun (V : World) (hb : Below E.heap.size E V) => (show V.cell? ⟨O, 0, none⟩ = some (.slice p0 p.now.st.length d0) ∧ ∀ o, V.frozen? ⟨O, o, none⟩ = false from ⟨(hFl.blk.keep hb).1 0 _ rfl, (hFl.blk.keep hb).2.1⟩))
      have hBE : w2.heap.size ≤ E.heap.size := bE.size
      have hBO : w2.heap.size ≤ O := by omega
      have hOE : O < E.heap.size := BX.2.2
      obtain ⟨hfit, hst⟩ := fit_of hv
      rw [HNY.out.1, HNY.out.2] at hst
      have hn12 : n ≤ 12 := by simp only [stB, Bool.and_eq_true, decide_eq_true_eq] at hst; exact hst.1
      obtain ⟨r, hr0⟩ : ∃ r, exS p s m = r := ⟨_, rfl⟩
      have HRr := Lib.hid hr0
      have HTk := Lib.hid (tk_spec s E)
      have HE := Lib.hid (And.intro bE (on_of HB2.out bE))
      have zO : w2.heap.size ≤ O := by omega
      unfold exS at hr0
      rw [HNY.out.1, HNY.out.2] at hr0
      clear r2 p1 o1 b3 cx PA BX bE hFl hStr ko
      rw [if_neg (by rw [hs]; decide)] at hr0
      rw [if_neg (by rw [ho]; decide)] at hr0
      have HIs := Lib.hid (isop_spec E s)
      rw [ho] at HIs
      rw [hkk] at hr0
      have hr1 : r = none := hr0.symm
      subst hr1
      have htk : tkN s = -1 := by simp [tkN, hkk]
      rw [htk] at HTk
      clear hr0 ho hkk htk
      go_wp2_with fail
      clear st
      ((with_reducible refine (HTk.out).mono ?_); rintro e w4 ⟨rfl, rfl⟩)
      go_wp2_with fail
      ((with_reducible refine (HIs.out).mono ?_); rintro e w4 ⟨rfl, rfl⟩)
      go_upto_region 23 with (fail)
      have b4 := Below.refl w2.heap.size E
      have p4 : ∀ P', (none : Option Pg) = some P' → PgOwn E w2.heap.size O P' := fun P' hP => by cases hP
      clear hStc t0 t1 hO hOE
      have b24 : Below w2.heap.size w2 E := HE.out.1.trans b4
      have bW4 := on_of HB2.out b24
      have hr : exR p s m = none := by simp [exR_S, hv, hk, HRr.out]
      have r4 := HL.out E (HG.out E bW4).1.1
      have HB4 := Lib.hid bW4
      clear b4 p4 b24 bW4
      go_wp2_with fail
      ((with_reducible refine (HCl.out E HB4.out).mono ?_); rintro e w5 ⟨R, F, rfl, pr, b5⟩)
      obtain ⟨E2, st, ld, hE⟩ := HF.out E w5 HB4.out b5 R F pr hr
      have HEE := Lib.hid hE
      clear r4 pr b5 hE
      go_wp2
      refine bodyPost_ret (results_h2 Tryz.results10 (by rfl) (by rfl) ld) rfl ?_
      exact HEE.out
end Go.Proofs.YtjmfgbbngocodaaGreat.Own

