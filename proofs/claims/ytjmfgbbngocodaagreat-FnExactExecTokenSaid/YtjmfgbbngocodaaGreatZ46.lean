/-
  Texts of this seat, laid together: ExQ
-/
import Derived.Test.YtjmfgbbngocodaaGreatZ41
import Derived.Test.YtjmfgbbngocodaaGreatZ35
import Derived.Test.YtjmfgbbngocodaaGreatZ29
import Derived.Test.YtjmfgbbngocodaaGreatZ22
import Derived.Test.YtjmfgbbngocodaaGreatZ20
namespace Go.Proofs.YtjmfgbbngocodaaGreat.Own
open Go.ChangeShapes Go.WideShapes Go.ChangeAt Go.RowKit
open Kit Slabs Ints Stack Point Turn Scan
set_option linter.unusedVariables false
set_option linter.unusedSimpArgs false
set_option linter.unnecessarySimpa false
set_option maxRecDepth 100000
attribute [local go_sem ↓] hload_Graphics hload_Object hstore_Graphics hstore_Object hload_Page hstore_Page
def ExNew (p : Pg) (s : ByteArray) (m : Int) (w : World) (e : Ending) (w' : World) : Prop := ∃ (R : Array Value) (f : List Nat), e = .returned (.tuple #[.agg R, .bool (exB p s m)]) ∧ OwnL w' LPage R.toList (exD p s m).dt f ∧ f.Nodup ∧ (∀ b ∈ f, w.heap.size ≤ b) ∧ Below w.heap.size w w'
theorem results_h2 {P : Program} {fn : Func} {p q : Tmp} {ty : TypeId} (h : fn.results = #[.cell p ty, .tmp q]) {tmps : Array Value} {w : World} {b o : Nat} (hp : tmps.getD p undef = .pointer (some ⟨b, o, none⟩)) {v u : Value} (hq : tmps.getD q undef = u) (hv : (hload ty ⟨b, o, none⟩).run P w = .ok v w) : (results fn tmps).run P w = .ok (.tuple #[v, u]) w := by
  rw [← hload_of] at hv
  have hp2 : tmps[p]?.getD undef = .pointer (some ⟨b, o, none⟩) := by simpa [Array.getD_eq_getD_getElem?] using hp
  have hq2 : tmps[q]?.getD undef = u := by simpa [Array.getD_eq_getD_getElem?] using hq
  simp [results, h, hp2, hq2, asAddr, hv, Result.andThen]
abbrev zeroP : Array Value := #[.slice none 0 0, .int .i64 0, .int .i64 0, .int .i64 0, .int .i64 0, .slice none 0 0, .int .i64 0, .int .i64 0, .int .i64 0, .int .i64 0, .int .i64 0, .slice none 0 0, .slice none 0 0]
theorem store_res {w V w1 : World} {GR : Nat} {R : Array Value} {p : Pg} {f : List Nat} (bV : Below w.heap.size w V) (b1 : Below V.heap.size V w1) (BR : Blk V GR zeroP.toList) (gGR : w.heap.size ≤ GR) (o : OwnL w1 LPage R.toList p.dt f) (n : f.Nodup) (g : ∀ b ∈ f, V.heap.size ≤ b) :
    ∃ E, (hstore 46 ⟨GR, 0, none⟩ (.agg R)).run Tryz.prog w1 = .ok () E ∧ (hload 46 ⟨GR, 0, none⟩).run Tryz.prog E = .ok (.agg R) E ∧ OwnL E LPage R.toList p.dt f ∧ f.Nodup ∧ (∀ b ∈ f, w.heap.size ≤ b) ∧ Below w.heap.size w E := by
  obtain ⟨E, st, BX, tt⟩ := var_put (P := Tryz.prog) (T := 46) Tryz.sizeOf46 (BR.keep b1) rfl o rfl
  have h := put_all (on_of bV b1) o n g gGR BR.2.2 BX tt
  exact ⟨E, st, var_load (P := Tryz.prog) (T := 46) Tryz.isAgg46 Tryz.sizeOf46 BX o rfl, h.1, h.2.1, h.2.2.1, h.2.2.2.2.2.2.2⟩
theorem at_of_rows {w : World} {B X : Nat} {R : List Value} {p : Pg} {F : List Nat} (h : PgRows w B R p F) (bx : Blk w X R) (nx : X ∉ F) : PgAt w B X p := by
  obtain ⟨G, F0, a11, c11, P11, f11, a12, c12, P12, f12, rfl, g0, r11, o11, r12, o12, rfl, hn, hB⟩ := h
  exact ⟨G, F0, a11, c11, P11, f11, a12, c12, P12, f12, bx, g0, r11, o11, r12, o12, List.nodup_cons.2 ⟨nx, hn⟩, fun b hb => hB b (by simp only [List.mem_append] at hb ⊢; rcases hb with hb | hb <;> simp [hb])⟩
theorem PgRows.under {w w' : World} {B : Nat} {R : List Value} {p : Pg} {F : List Nat} (h : PgRows w B R p F) (hb : Below w.heap.size w w') : PgRows w' B R p F := h.stays hb.size (fun b hm => hb.block b (h.lt b hm))
theorem ex_same {p : Pg} {s : ByteArray} {m : Int} (h : exR p s m = none) : exB p s m = false ∧ exD p s m = p := by simp [exB, exD, h]
theorem ex_some {p q : Pg} {s : ByteArray} {m : Int} (h : exR p s m = some q) : exB p s m = true ∧ exD p s m = q := by simp [exB, exD, h]
set_option maxHeartbeats 8000000 in
theorem exec_impl (w : World) {A : Array Value} {p : Pg} {fp : List Nat} (hb : bulkL p.dt ≤ 1048576) (h : OwnL w LPage A.toList p.dt fp) (s : ByteArray) (m : Int) (hz : s.size ≤ 1048576) :
    Calls Tryz.prog 10 #[.agg A, .agg #[.string s, .int .i64 m]] w (ExNew p s m w) := by
  obtain ⟨W, hW⟩ : ∃ W, (((w.alloc (.cells A 46)).alloc (.cells #[.string s, .int .i64 m] 50)).alloc (.cells #[.slice none 0 0, .int .i64 0, .int .i64 0, .int .i64 0, .int .i64 0, .slice none 0 0, .int .i64 0, .int .i64 0, .int .i64 0, .int .i64 0, .int .i64 0, .slice none 0 0, .slice none 0 0] 46)) = W := ⟨_, rfl⟩
  have BA : Blk W w.heap.size A.toList := by rw [← hW]; exact ((Blk.new w A 46 rfl).alloc _).alloc _
  have BT : Blk W (w.heap.size + 1) [.string s, .int .i64 m] := by rw [← hW]; exact (Blk.new (w.alloc (.cells A 46)) #[.string s, .int .i64 m] 50 (by simp)).alloc _
  have BR : Blk W (w.heap.size + 2) zeroP.toList := by rw [← hW]; exact Blk.new ((w.alloc (.cells A 46)).alloc (.cells #[.string s, .int .i64 m] 50)) zeroP 46 (by simp)
  have bW : Below w.heap.size w W := by rw [← hW]; go_grown
  obtain ⟨GP, hGP⟩ : ∃ x, w.heap.size = x := ⟨_, rfl⟩
  obtain ⟨GT, hGT⟩ : ∃ x, GP + 1 = x := ⟨_, rfl⟩
  obtain ⟨GR, hGR⟩ : ∃ x, GT + 1 = x := ⟨_, rfl⟩
  have HG := Lib.hid (fun (V : World) (hV : Below W.heap.size W V) => (show (Blk V GP A.toList ∧ Blk V GT [.string s, .int .i64 m] ∧ Blk V GR zeroP.toList) ∧ Below w.heap.size w V from by
    rw [← hGR, ← hGT, ← hGP]
    exact ⟨⟨BA.keep hV, BT.keep hV, BR.keep hV⟩, on_of bW hV⟩))
  have HA := Lib.hid (fun (V : World) (hV : Below w.heap.size w V) => h.under hV)
  have HL := Lib.hid (fun (V : World) (hV : Blk V GP A.toList) => var_load (P := Tryz.prog) (T := 46) Tryz.isAgg46 Tryz.sizeOf46 hV h rfl)
  have gGR : w.heap.size ≤ GR := by omega
  have HF := Lib.hid (fun (V w1 : World) (hV : Below W.heap.size W V) (b1 : Below V.heap.size V w1) (R : Array Value) (F : List Nat) (pr : PgRows w1 V.heap.size R.toList p F) (hr : exR p s m = none) => (show ∃ E, (hstore 46 ⟨GR, 0, none⟩ (.agg R)).run Tryz.prog w1 = .ok () E ∧ (hload 46 ⟨GR, 0, none⟩).run Tryz.prog E = .ok (.agg R) E ∧ ExNew p s m w (.returned (.tuple #[.agg R, .bool false])) E from by
    obtain ⟨f, o, n, sb⟩ := pr.own
    obtain ⟨E, st, ld, oE, nE, gE, bE⟩ := store_res (HG.out V hV).2 b1 (HG.out V hV).1.2.2 gGR o n (fun b hb => pr.ge b (sb b hb))
    obtain ⟨e1, e2⟩ := ex_same hr
    exact ⟨E, st, ld, R, f, by rw [e1], by rw [e2]; exact oE, nE, gE, bE⟩))
  have HB := Lib.hid hb
  have HGT := Lib.hid hGT
  have HGR := Lib.hid hGR
  clear BA BT BR hb hGT hGR
  go_enter Tryz.func10, Tryz.ntmps10
  go_upto_region 1 with (fail)
  have zW : w.heap.size ≤ W.heap.size := bW.size
  have gPW : GP < W.heap.size := (HG.out W (Below.refl _ _)).1.1.2.2
  have HbW := Lib.hid bW
  rw [HGT.out, HGR.out]
  clear hW hGP HGT HGR bW h
  have ra := HL.out W (HG.out W (Below.refl _ _)).1.1
  have HP := Lib.hid (fun (V : World) (hV : Below W.heap.size W V) => pg_impl V HB.out (HA.out V (HG.out V hV).2))
  have HCl := Lib.hid (fun (V : World) (hV : Below W.heap.size W V) => clone_Page V HB.out (HA.out V (HG.out V hV).2))
  cases hv : pgB p
  · have hr : exR p s m = none := by simp [exR, hv]
    rw [hv] at HP
    go_wp2_with fail
    ((with_reducible refine (HP.out W (Below.refl _ _)).mono ?_); rintro e w1 ⟨rfl, b1⟩)
    have r1 := HL.out w1 (HG.out w1 b1).1.1
    have HB1 := Lib.hid b1
    clear ra b1
    go_wp2_with fail
    ((with_reducible refine (HCl.out w1 HB1.out).mono ?_); rintro e w2 ⟨R, F, rfl, pr, b2⟩)
    obtain ⟨E, st, ld, hE⟩ := HF.out w1 w2 HB1.out b2 R F pr hr
    have HE := Lib.hid hE
    clear r1 pr b2 hE
    go_wp2
    refine bodyPost_ret (results_h2 Tryz.results10 (by rfl) (by rfl) ld) rfl ?_
    exact HE.out
  · rw [hv] at HP
    have HT := Lib.hid (fun (V : World) => NameImpl.tok_impl s m V (by omega))
    cases hk : tkB s m
    · have hr : exR p s m = none := by simp [exR, hk]
      rw [hk] at HT
      go_wp2_with fail
      ((with_reducible refine (HP.out W (Below.refl _ _)).mono ?_); rintro e w1 ⟨rfl, b1⟩)
      have t0 := (HG.out w1 b1).1.2.1.1 0 _ rfl
      have t1 := (HG.out w1 b1).1.2.1.1 1 _ rfl
      have HB1 := Lib.hid b1
      clear ra b1
      go_wp2_with fail
      ((with_reducible refine (HT.out w1).mono ?_); rintro e w2 ⟨rfl, b2⟩)
      have b2 := on_of HB1.out b2
      have r2 := HL.out w2 (HG.out w2 b2).1.1
      have HB2 := Lib.hid b2
      clear t0 t1 b2
      go_wp2_with fail
      ((with_reducible refine (HCl.out w2 HB2.out).mono ?_); rintro e w3 ⟨R, F, rfl, pr, b3⟩)
      obtain ⟨E, st, ld, hE⟩ := HF.out w2 w3 HB2.out b3 R F pr hr
      have HE := Lib.hid hE
      clear r2 pr b3 hE
      go_wp2
      refine bodyPost_ret (results_h2 Tryz.results10 (by rfl) (by rfl) ld) rfl ?_
      exact HE.out
    · rw [hk] at HT
      go_wp2_with fail
      ((with_reducible refine (HP.out W (Below.refl _ _)).mono ?_); rintro e w1 ⟨rfl, b1⟩)
      have t0 := (HG.out w1 b1).1.2.1.1 0 _ rfl
      have t1 := (HG.out w1 b1).1.2.1.1 1 _ rfl
      have HB1 := Lib.hid b1
      clear ra b1
      go_wp2_with fail
      ((with_reducible refine (HT.out w1).mono ?_); rintro e w2 ⟨rfl, b2⟩)
      have b2 := on_of HB1.out b2
      have r2 := HL.out w2 (HG.out w2 b2).1.1
      have HB2 := Lib.hid b2
      clear t0 t1 b2
      go_wp2_with fail
      ((with_reducible refine (HCl.out w2 HB2.out).mono ?_); rintro e w3 ⟨R1, F1, rfl, p1, b3⟩)
      obtain ⟨f1, o1, _, _⟩ := p1.own
      obtain ⟨E, st, BX, cx, zx⟩ := var_new (P := Tryz.prog) (T := 46) Tryz.sizeOf46 w3 zeroP rfl (R := R1) o1 rfl
      have z3 := b3.size
      have z2 := HB2.out.size
      obtain ⟨O, hO⟩ : ∃ O, w3.heap.size = O := ⟨_, rfl⟩
      rw [hO] at st BX
      have PA : PgAt E w2.heap.size O p := at_of_rows (p1.under cx) BX (fun hx => by have := p1.lt O hx; omega)
      have bE := on_of b3 cx
      have t0 := (HG.out E (on_of HB2.out bE)).1.2.1.1 0 _ rfl
      have t1 := (HG.out E (on_of HB2.out bE)).1.2.1.1 1 _ rfl
      have HX := Lib.hid (ex_impl PA (by have := cx.size; omega) (by omega) hv s m hz)
      have HE := Lib.hid (And.intro bE (on_of HB2.out bE))
      have zO : w2.heap.size ≤ O := by omega
      clear r2 p1 o1 b3 cx PA BX bE
      go_wp2_with fail
      clear st
      ((with_reducible refine (HX.out).mono ?_); rintro e w4 ⟨rfl, b4, p4⟩)
      have b24 : Below w2.heap.size w2 w4 := HE.out.1.trans b4
      have bW4 := on_of HB2.out b24
      cases hx : exP p s m with
      | none =>
        have hr : exR p s m = none := by simp [exR, hv, hk, hx]
        have r4 := HL.out w4 (HG.out w4 bW4).1.1
        have HB4 := Lib.hid bW4
        clear b4 p4 b24 bW4 t0 t1 hO
        simp only [Option.isSome_none]
        go_wp2_with fail
        ((with_reducible refine (HCl.out w4 HB4.out).mono ?_); rintro e w5 ⟨R, F, rfl, pr, b5⟩)
        obtain ⟨E2, st, ld, hE⟩ := HF.out w4 w5 HB4.out b5 R F pr hr
        have HEE := Lib.hid hE
        clear r4 pr b5 hE
        go_wp2
        refine bodyPost_ret (results_h2 Tryz.results10 (by rfl) (by rfl) ld) rfl ?_
        exact HEE.out
      | some P' =>
        obtain ⟨R', f', BO, oO, nO, nXO, gO⟩ := p4 P' hx
        have r4 := var_load (P := Tryz.prog) (T := 46) Tryz.isAgg46 Tryz.sizeOf46 BO oO rfl
        have HPP := Lib.hid (pg_impl w4 ((exP_len hv hx).bulk (by omega) (by omega) (by omega) (by omega)) oO)
        have H4 := Lib.hid (And.intro BO (And.intro oO (And.intro nO (And.intro gO (And.intro b24 bW4)))))
        clear b4 p4 b24 bW4 BO oO nO nXO gO t0 t1 hO
        simp only [Option.isSome_some]
        cases hv' : pgB P'
        · have hr : exR p s m = none := by simp [exR, hv, hk, hx, Option.filter, hv']
          rw [hv'] at HPP
          go_wp2_with fail
          ((with_reducible refine (HPP.out).mono ?_); rintro e w5 ⟨rfl, b5⟩)
          have b5W := on_of H4.out.2.2.2.2.2 b5
          have r5 := HL.out w5 (HG.out w5 b5W).1.1
          have HB5 := Lib.hid b5W
          clear r4 b5 b5W
          go_wp2_with fail
          ((with_reducible refine (HCl.out w5 HB5.out).mono ?_); rintro e w6 ⟨R, F, rfl, pr, b6⟩)
          obtain ⟨E2, st, ld, hE⟩ := HF.out w5 w6 HB5.out b6 R F pr hr
          have HEE := Lib.hid hE
          clear r5 pr b6 hE
          go_wp2
          refine bodyPost_ret (results_h2 Tryz.results10 (by rfl) (by rfl) ld) rfl ?_
          exact HEE.out
        · have hr : exR p s m = some P' := by simp [exR, hv, hk, hx, Option.filter, hv']
          obtain ⟨e1, e2⟩ := ex_some hr
          rw [hv'] at HPP
          go_wp2_with fail
          ((with_reducible refine (HPP.out).mono ?_); rintro e w5 ⟨rfl, b5⟩)
          have BO5 := H4.out.1.keep b5
          have oO5 := H4.out.2.1.under b5
          have r5 := var_load (P := Tryz.prog) (T := 46) Tryz.isAgg46 Tryz.sizeOf46 BO5 oO5 rfl
          obtain ⟨E2, st, ld, oE, nE, gE, bE⟩ := store_res (HG.out w2 HB2.out).2 (on_of H4.out.2.2.2.2.1 b5) (HG.out w2 HB2.out).1.2.2 gGR oO5 H4.out.2.2.1 H4.out.2.2.2.1
          have HEE := Lib.hid (show ExNew p s m w (.returned (.tuple #[.agg R', .bool true])) E2 from ⟨R', f', by rw [e1], by rw [e2]; exact oE, nE, gE, bE⟩)
          clear r4 b5 BO5 oO5 oE nE gE bE
          go_wp2
          refine bodyPost_ret (results_h2 Tryz.results10 (by rfl) (by rfl) ld) rfl ?_
          exact HEE.out
end Go.Proofs.YtjmfgbbngocodaaGreat.Own

