/-
  Texts of this seat, laid together: OkD, Cop
-/
import Derived.WalkKit
import Derived.Handy
import Derived.Laws.EntriesVeiled
import Derived.Lib.Hide
import Derived.Laws.OwnMore
import Derived.Test.YtjmfgbbngocodaaGreatV21
import Derived.Test.YtjmfgbbngocodaaGreatV15
import Derived.Test.YtjmfgbbngocodaaGreatV17
namespace Go.Proofs.YtjmfgbbngocodaaGreat.Own
open Go.ChangeShapes Go.WideShapes Go.ChangeAt Go.RowKit
open Kit Slabs Ints Stack Point Turn
set_option linter.unusedVariables false
set_option linter.unusedSimpArgs false
set_option linter.unnecessarySimpa false
set_option maxRecDepth 100000
attribute [local go_sem ↓] hload_Graphics hload_Object hstore_Graphics hstore_Object hload_Page hstore_Page
set_option maxHeartbeats 2000000 in
theorem pg_impl (w : World) {A : Array Value} {p : Pg} {fp : List Nat} (hb : bulkL p.dt ≤ 1048576) (h : OwnL w LPage A.toList p.dt fp) :
    Calls Tryz.prog 36 #[.agg A] w fun e w' => e = .returned (.bool (pgB p)) ∧ Below w.heap.size w w' := by
  obtain ⟨G, a11, c11, a12, c12, f0, f11, f12, hA, hf, o0, o11, o12⟩ := inv_Page_ (by rfl) h
  simp only [Pg.dt, bulkL_app, bulkL, Dt.bulk, len_dG, len_dO] at hb
  simp only [len_dG, len_dO] at hA o11 o12
  obtain ⟨C, hC⟩ : ∃ C, G.toArray = C := ⟨_, rfl⟩
  have tC : C.toList = G := by rw [← hC]
  have nG : C.toList.length = 11 := by rw [tC]; exact o0.len
  rw [← tC] at o0 hA
  have HO := Lib.hid (And.intro o0 (And.intro o11 (And.intro o12 nG)))
  have BA : Blk (w.alloc (.cells A 46)) w.heap.size A.toList := Blk.new w A 46 rfl
  rw [hA] at BA
  have HB0 := Lib.hid BA
  have HW0 : Hid (Below w.heap.size w (w.alloc (.cells A 46))) := Lib.hid (by go_grown)
  have ca11 : A[11]? = some (.slice a11 p.saved.length c11) := by rw [← Array.getElem?_toList, hA, List.getElem?_append_right (by omega)]; simp [nG]
  have ca12 : A[12]? = some (.slice a12 p.objs.length c12) := by rw [← Array.getElem?_toList, hA, List.getElem?_append_right (by omega)]; simp [nG]
  clear o0 o11 o12 hA hC tC BA h nG
  by_cases h4 : p.saved.length ≤ 4
  · by_cases h12 : p.objs.length ≤ 12
    · have i4 : ¬ (4 : Int) < (p.saved.length : Int) := by omega
      have i12 : ¬ (12 : Int) < (p.objs.length : Int) := by omega
      have ra := hload_run (P := Tryz.prog) (t := 42) Tryz.isAgg42 Tryz.sizeOf42 (w := _) (b := w.heap.size) (o := 0) (us := C.toList) (Blk.part (P := []) HB0.out rfl) HO.out.2.2.2
      rw [Array.toArray_toList] at ra
      have HN := Lib.hid (And.intro h4 h12)
      clear h4 h12
      go_enter Tryz.func36, Tryz.ntmps36
      go_wp2_with fail
      clear ra ca11 ca12
      ((with_reducible refine (gr_impl _ (by omega) (HO.out.1.under HW0.out)).mono ?_); rintro e w1 ⟨rfl, bb⟩)
      have HB1 := Lib.hid (HB0.out.keep bb)
      have HW1 := Lib.hid (on_of HW0.out bb)
      clear bb
      cases h1 : grB p.now
      · have HS : Hid (pgB p = false) := Lib.hid (by simp [pgB, h1])
        clear h1
        go_wp2
        go_ret
        exact ⟨ret_bool HS.out.symm, HW1.out⟩
      · have HT1 := Lib.hid h1
        clear h1
        have c1 := HB1.out.1 11 (.slice a11 p.saved.length c11) (by rw [List.getElem?_append_right (by have := HO.out.2.2.2; omega)]; have := HO.out.2.2.2; simp [this])
        go_wp2_with fail
        clear c1
        ((with_reducible refine (all_Graphics _ _ _ _ (by omega) (HO.out.2.1.under HW1.out)).mono ?_); rintro e w2 ⟨rfl, bb⟩)
        have HB2 := Lib.hid (HB1.out.keep bb)
        have HW2 := Lib.hid (on_of HW1.out bb)
        clear bb
        cases h2 : p.saved.all grB
        · have HS : Hid (pgB p = false) := Lib.hid (by simp only [pgB, h2, Bool.and_false, Bool.false_and])
          clear h2
          go_wp2
          go_ret
          exact ⟨ret_bool HS.out.symm, HW2.out⟩
        · have HT2 := Lib.hid h2
          clear h2
          have c2 := HB2.out.1 12 (.slice a12 p.objs.length c12) (by rw [List.getElem?_append_right (by have := HO.out.2.2.2; omega)]; have := HO.out.2.2.2; simp [this])
          go_wp2_with fail
          clear c2
          ((with_reducible refine (all_Object _ _ _ _ (by omega) (HO.out.2.2.1.under HW2.out)).mono ?_); rintro e w3 ⟨rfl, bb⟩)
          have HW3 := Lib.hid (on_of HW2.out bb)
          clear bb
          go_wp2
          go_ret
          exact ⟨ret_bool (by simp only [pgB, HT1.out, HT2.out, HN.out.1, HN.out.2, decide_true, Bool.true_and]), HW3.out⟩
    · have i4 : ¬ (4 : Int) < (p.saved.length : Int) := by omega
      have i12 : (12 : Int) < (p.objs.length : Int) := by omega
      have HN := Lib.hid h12
      clear h4 h12
      go_enter Tryz.func36, Tryz.ntmps36
      go_wp2
      go_ret
      exact ⟨ret_bool (by simp [pgB, HN.out]), HW0.out⟩
  · have i4 : (4 : Int) < (p.saved.length : Int) := by omega
    have HN := Lib.hid h4
    clear h4
    go_enter Tryz.func36, Tryz.ntmps36
    go_wp2
    go_ret
    exact ⟨ret_bool (by simp [pgB, HN.out]), HW0.out⟩
set_option maxHeartbeats 4000000 in
theorem pg_spec (w : World) {A : Array Value} {p : Pg} {fp : List Nat} (hb : bulkL p.dt ≤ 1048576) (h : OwnL w LPage A.toList p.dt fp) :
    Calls Tryz.prog 23 #[.agg A] w fun e w' => e = .returned (.bool (pgB p)) ∧ Below w.heap.size w w' := by
  obtain ⟨G, a11, c11, a12, c12, f0, f11, f12, hA, hf, o0, o11, o12⟩ := inv_Page_ (by rfl) h
  simp only [Pg.dt, bulkL_app, bulkL, Dt.bulk, len_dG, len_dO] at hb
  simp only [len_dG, len_dO] at hA o11 o12
  obtain ⟨C, hC⟩ : ∃ C, G.toArray = C := ⟨_, rfl⟩
  have tC : C.toList = G := by rw [← hC]
  have nG : C.toList.length = 11 := by rw [tC]; exact o0.len
  rw [← tC] at o0 hA
  have HO := Lib.hid (And.intro o0 (And.intro o11 (And.intro o12 nG)))
  have BA : Blk (w.alloc (.cells A 46)) w.heap.size A.toList := Blk.new w A 46 rfl
  rw [hA] at BA
  have HB0 := Lib.hid BA
  have HW0 : Hid (Below w.heap.size w (w.alloc (.cells A 46))) := Lib.hid (by go_grown)
  clear o0 o11 o12 hA hC tC BA h nG
  obtain ⟨n, hN⟩ : ∃ n, p.saved.length = n := ⟨_, rfl⟩
  obtain ⟨m, hM⟩ : ∃ m, p.objs.length = m := ⟨_, rfl⟩
  have HNn := Lib.hid hN
  have HNm := Lib.hid hM
  have ra := hload_run (P := Tryz.prog) (t := 42) Tryz.isAgg42 Tryz.sizeOf42 (w := _) (b := w.heap.size) (o := 0) (us := C.toList) (Blk.part (P := []) HB0.out rfl) HO.out.2.2.2
  rw [Array.toArray_toList] at ra
  have hb1 : bulkL p.now.dt ≤ 1048576 := by omega
  clear hN hM
  go_enter Tryz.func23, Tryz.ntmps23
  go_wp2_with fail
  clear ra
  ((with_reducible refine (gr_spec _ hb1 (HO.out.1.under HW0.out)).mono ?_); rintro e w1 ⟨rfl, bb⟩)
  have HB1 := Lib.hid (HB0.out.keep bb)
  have HW1 := Lib.hid (on_of HW0.out bb)
  clear bb
  have c1 := HB1.out.1 11 (.slice a11 p.saved.length c11) (by rw [List.getElem?_append_right (by have := HO.out.2.2.2; omega)]; have := HO.out.2.2.2; simp [this])
  have c2 := HB1.out.1 12 (.slice a12 p.objs.length c12) (by rw [List.getElem?_append_right (by have := HO.out.2.2.2; omega)]; have := HO.out.2.2.2; simp [this])
  cases h1 : grB p.now
  · have HS : Hid (pgB p = false) := Lib.hid (by simp [pgB, h1])
    clear h1
    go_wp2
    go_ret
    exact ⟨ret_bool HS.out.symm, HW1.out⟩
  · have HT1 := Lib.hid h1
    clear h1
    by_cases h4 : n ≤ 4
    · have i4 : ¬ (4 : Int) < (p.saved.length : Int) := by have := HNn.out; omega
      by_cases h12 : m ≤ 12
      · have i12 : ¬ (12 : Int) < (p.objs.length : Int) := by have := HNm.out; omega
        have HN4 := Lib.hid (show p.saved.length ≤ 4 ∧ p.objs.length ≤ 12 from ⟨by have := HNn.out; omega, by have := HNm.out; omega⟩)
        have j4 := i4
        go_wp2_with fail
        clear c1 c2
        rw [HNn.out] at i4
        rw [HNm.out] at i12
        go_loopw [3] (fun v wr => ∃ k : Nat, k ≤ n ∧ v = .int .i64 (k : Int) ∧ Hid (∀ i (hi : i < p.saved.length), i < k → grB p.saved[i] = true) ∧ Below w1.heap.size w1 wr) (fun v _ => n - (intOf v).toNat)
        case atStart => exact ⟨0, Nat.zero_le _, rfl, Lib.hid (fun i hi h => absurd h (Nat.not_lt_zero i)), Below.refl _ _⟩
        case round =>
          obtain ⟨k, hk, rfl, hg, hB⟩ := hrel
          have HBk := Lib.hid (HB1.out.keep hB)
          have HWk := Lib.hid (on_of HW1.out hB)
          have c1 := HBk.out.1 11 (.slice a11 p.saved.length c11) (by rw [List.getElem?_append_right (by have := HO.out.2.2.2; omega)]; have := HO.out.2.2.2; simp [this])
          rw [HNn.out] at c1
          have HRr : Hid (∀ {W : World}, Below wr.heap.size wr W → Below w1.heap.size w1 W) := Lib.hid (fun h => on_of hB h)
          clear hB
          by_cases hlt : k < n
          · have hkl : k < p.saved.length := by rw [HNn.out]; exact hlt
            obtain ⟨g, D, fq, ha, hgl, oD, _, hbk, hld⟩ := elt_Graphics (HO.out.2.1) hkl
            have L1 := hld wr HWk.out
            rw [ha] at c1
            have i0 : (0 : Int) ≤ (k : Int) := by omega
            have i1 : (k : Int) < (n : Int) := by omega
            have hbb : bulkL p.saved[k].dt ≤ 1048576 := by omega
            have HK := Lib.hid (And.intro oD hbb)
            have HA := Lib.hid ha
            clear oD hbk hbb hld ha
            go_wp2_with fail
            clear L1 c1
            ((with_reducible refine (gr_spec _ HK.out.2 (HK.out.1.under HWk.out)).mono ?_); rintro e wz ⟨rfl, bb⟩)
            have HBz := Lib.hid (show Below wr.heap.size wr wz from bb)
            clear bb
            cases hp : grB (p.saved[k]'hkl)
            · have HS : Hid (pgB p = false) := Lib.hid (by simp only [pgB, all_bad hkl hp, Bool.and_false, Bool.false_and])
              clear hp
              go_wp2
              go_ret
              exact ⟨ret_bool HS.out.symm, on_of HWk.out HBz.out⟩
            · have hyes : ∀ i (hi : i < p.saved.length), i < k + 1 → grB p.saved[i] = true := fun i hi h => by
                by_cases e : i = k
                · subst e; exact hp
                · exact hg.out i hi (by omega)
              have HS := Lib.hid hyes
              clear hyes hp
              go_wp2
              go_roundw
              case rel => exact ⟨k + 1, by omega, by go_num, HS, HRr.out HBz.out⟩
              case measure => simp [intOf]; omega
          · obtain rfl : k = n := by omega
            have HL := Lib.hid (all_good (f := grB) (fun i hi => hg.out i hi (by rw [← HNn.out]; exact hi)))
            have HG := Lib.hid (show p.saved.all grB = true from HL.out)
            clear HL hg
            obtain ⟨wq, hwq⟩ : ∃ wq, wq = wr := ⟨_, rfl⟩
            subst hwq
            have HBq := HBk
            have HWq := HWk
            clear HBk HWk HRr
            have cq := HBq.out.1 12 (.slice a12 p.objs.length c12) (by rw [List.getElem?_append_right (by have := HO.out.2.2.2; omega)]; have := HO.out.2.2.2; simp [this])
            rw [HNm.out] at cq
            go_wp2_with fail
            clear cq c1
            go_loopw [4] (fun v wr => ∃ k : Nat, k ≤ m ∧ v = .int .i64 (k : Int) ∧ Hid (∀ i (hi : i < p.objs.length), i < k → obB p.objs[i] = true) ∧ Below wq.heap.size wq wr) (fun v _ => m - (intOf v).toNat)
            case atStart => exact ⟨0, Nat.zero_le _, rfl, Lib.hid (fun i hi h => absurd h (Nat.not_lt_zero i)), Below.refl _ _⟩
            case round =>
              obtain ⟨k, hk, rfl, hg, hB⟩ := hrel
              have HBk := Lib.hid (HBq.out.keep hB)
              have HWk := Lib.hid (on_of HWq.out hB)
              have c1 := HBk.out.1 12 (.slice a12 p.objs.length c12) (by rw [List.getElem?_append_right (by have := HO.out.2.2.2; omega)]; have := HO.out.2.2.2; simp [this])
              rw [HNm.out] at c1
              have HRr : Hid (∀ {W : World}, Below wr.heap.size wr W → Below wq.heap.size wq W) := Lib.hid (fun h => on_of hB h)
              clear hB
              by_cases hlt : k < m
              · have hkl : k < p.objs.length := by rw [HNm.out]; exact hlt
                obtain ⟨g, D, fq, ha, hgl, oD, _, hbk, hld⟩ := elt_Object (HO.out.2.2.1) hkl
                have L1 := hld wr HWk.out
                rw [ha] at c1
                have i0 : (0 : Int) ≤ (k : Int) := by omega
                have i1 : (k : Int) < (m : Int) := by omega
                have hbb : bulkL p.objs[k].dt ≤ 1048576 := by omega
                have HK := Lib.hid (And.intro oD hbb)
                have HA := Lib.hid ha
                clear oD hbk hbb hld ha
                go_wp2_with fail
                clear L1 c1
                ((with_reducible refine (ob_spec _ HK.out.2 (HK.out.1.under HWk.out)).mono ?_); rintro e wz ⟨rfl, bb⟩)
                have HBz := Lib.hid (show Below wr.heap.size wr wz from bb)
                clear bb
                cases hp : obB (p.objs[k]'hkl)
                · have HS : Hid (pgB p = false) := Lib.hid (by simp only [pgB, all_bad hkl hp, Bool.and_false, Bool.false_and])
                  clear hp
                  go_wp2
                  go_ret
                  exact ⟨ret_bool HS.out.symm, on_of HWk.out HBz.out⟩
                · have hyes : ∀ i (hi : i < p.objs.length), i < k + 1 → obB p.objs[i] = true := fun i hi h => by
                    by_cases e : i = k
                    · subst e; exact hp
                    · exact hg.out i hi (by omega)
                  have HS := Lib.hid hyes
                  clear hyes hp
                  go_wp2
                  go_roundw
                  case rel => exact ⟨k + 1, by omega, by go_num, HS, HRr.out HBz.out⟩
                  case measure => simp [intOf]; omega
              · obtain rfl : k = m := by omega
                have HL := Lib.hid (all_good (f := obB) (fun i hi => hg.out i hi (by rw [← HNm.out]; exact hi)))
                go_wp2
                go_ret
                exact ⟨ret_bool (by simp only [pgB, HT1.out, HG.out, HL.out, HN4.out.1, HN4.out.2, decide_true, Bool.true_and]), HWk.out⟩
      · have i12 : (12 : Int) < (p.objs.length : Int) := by have := HNm.out; omega
        have HS : Hid (pgB p = false) := Lib.hid (by simp [pgB, HNm.out, h12])
        go_wp2
        go_ret
        exact ⟨ret_bool HS.out.symm, HW1.out⟩
    · have i4 : (4 : Int) < (p.saved.length : Int) := by have := HNn.out; omega
      have HS : Hid (pgB p = false) := Lib.hid (by simp [pgB, HNn.out, h4])
      go_wp2
      go_ret
      exact ⟨ret_bool HS.out.symm, HW1.out⟩
end Go.Proofs.YtjmfgbbngocodaaGreat.Own

namespace Go.Proofs.YtjmfgbbngocodaaGreat.Own
open Go.ChangeShapes Go.WideShapes Go.ChangeAt Go.RowKit
open Kit Slabs Ints Stack Point Turn
set_option linter.unusedVariables false
set_option linter.unusedSimpArgs false
set_option linter.unnecessarySimpa false
set_option maxRecDepth 100000
def Cop (T : TypeId) (k n : Nat) (cs : List Value) (w : World) (e : Ending) (w' : World) : Prop := ∃ a c, e = .returned (.slice a n c) ∧ w'.ownsRow w.heap.size T k (.slice a n c) n cs ∧ Below w.heap.size w w'
theorem cop_of {T : TypeId} {k n : Nat} {cs : List Value} {w w' : World} {u : Value} (h : w'.ownsRow w.heap.size T k u n cs) (b : Below w.heap.size w w') : Cop T k n cs w (.returned u) w' := by
  have h2 := h
  rcases h.2 with ⟨rfl, rfl⟩ | ⟨g, cap, cur, rfl, _⟩
  · exact ⟨_, _, rfl, h2, b⟩
  · exact ⟨_, _, rfl, h2, b⟩
theorem inf_int : (Tryz.prog.info? 3).map (fun i => (i.zero, i.size, i.bytes)) = some (some (.int .i64 0), 1, 8) := by kernel_rfl
theorem et_int : ElemT Tryz.prog 22 3 1 8 := by
  obtain ⟨i0, hi0, hz0, hz1, hz2⟩ := info_parts inf_int
  exact ⟨i0, _, Tryz.underlying22, hi0, hz0, hz1, hz2, rfl, by decide⟩
set_option maxHeartbeats 1000000 in
theorem cop_int (w : World) (a : Option Addr) (n cap : Nat) (cs : List Value) (hn : n ≤ 1048576) (hl : cs.length = n * 1) (h1 : ∀ u ∈ cs, u.oneCell' = true) (h : Lies w a cs) :
    Calls Tryz.prog 117 #[.slice a n cap] w (Cop 3 1 n cs w) := by
  have ho := World.ownsRow_made w #[] (e := 3) (size := 1) 0 (Nat.le_refl _) (by decide) (by simp)
  have HO := Lib.hid (And.intro ho (And.intro hl (And.intro h1 (h.on (show Below w.heap.size w (w.alloc (.cells #[] 3)) from by go_grown)))))
  clear ho hl h1 h
  go_enter Tryz.func117, Tryz.ntmps117
  go_wp2_with (at_builtin; refine wpList_append_sl _ et_int rfl _ _ rfl w.heap.size _ 0 _ [] rfl HO.out.1 a n cap cs rfl HO.out.2.1 HO.out.2.2.2 HO.out.2.2.1 ?c3 ?c4 ?c5 ?_)
  case c3 => unfold maxLen; omega
  case c4 => omega
  case c5 => simp
  intro a2 c2 w2 hown hgrow _
  have hB := ((Below.refl w.heap.size w).alloc (Nat.le_refl _) (.cells #[] 3)).grown hgrow (by simp) (fun q hq => by have := (HO.out.1.lt q hq).1; omega)
  have HX := Lib.hid (And.intro hown hB)
  clear hown hB hgrow
  go_wp2
  go_ret
  exact cop_of (by simpa using HX.out.1) HX.out.2
set_option maxHeartbeats 1000000 in
theorem cop_l05 (w : World) (a : Option Addr) (n cap : Nat) (cs : List Value) (hn : n ≤ 1048576) (hl : cs.length = n * 1) (h1 : ∀ u ∈ cs, u.oneCell' = true) (h : Lies w a cs) :
    Calls Tryz.prog 64 #[.slice a n cap] w (Cop 3 1 n cs w) := by
  have ho := World.ownsRow_made w #[] (e := 3) (size := 1) 0 (Nat.le_refl _) (by decide) (by simp)
  have HO := Lib.hid (And.intro ho (And.intro hl (And.intro h1 (h.on (show Below w.heap.size w (w.alloc (.cells #[] 3)) from by go_grown)))))
  clear ho hl h1 h
  go_enter Tryz.func64, Tryz.ntmps64
  go_wp2_with (at_builtin; refine wpList_append_sl _ et_int rfl _ _ rfl w.heap.size _ 0 _ [] rfl HO.out.1 a n cap cs rfl HO.out.2.1 HO.out.2.2.2 HO.out.2.2.1 ?c3 ?c4 ?c5 ?_)
  case c3 => unfold maxLen; omega
  case c4 => omega
  case c5 => simp
  intro a2 c2 w2 hown hgrow _
  have hB := ((Below.refl w.heap.size w).alloc (Nat.le_refl _) (.cells #[] 3)).grown hgrow (by simp) (fun q hq => by have := (HO.out.1.lt q hq).1; omega)
  have HX := Lib.hid (And.intro hown hB)
  clear hown hB hgrow
  go_wp2
  go_ret
  exact cop_of (by simpa using HX.out.1) HX.out.2
theorem inf_pts : (Tryz.prog.info? 109).map (fun i => (i.zero, i.size, i.bytes)) = some (some (.agg #[.int .i64 0, .int .i64 0]), 2, 16) := by kernel_rfl
theorem et_pts : ElemT Tryz.prog 39 109 2 16 := by
  obtain ⟨i0, hi0, hz0, hz1, hz2⟩ := info_parts inf_pts
  exact ⟨i0, _, Tryz.underlying39, hi0, hz0, hz1, hz2, rfl, by decide⟩
set_option maxHeartbeats 1000000 in
theorem cop_pts (w : World) (a : Option Addr) (n cap : Nat) (cs : List Value) (hn : n ≤ 1048576) (hl : cs.length = n * 2) (h1 : ∀ u ∈ cs, u.oneCell' = true) (h : Lies w a cs) :
    Calls Tryz.prog 118 #[.slice a n cap] w (Cop 109 2 n cs w) := by
  have ho := World.ownsRow_made w #[] (e := 109) (size := 2) 0 (Nat.le_refl _) (by decide) (by simp)
  have HO := Lib.hid (And.intro ho (And.intro hl (And.intro h1 (h.on (show Below w.heap.size w (w.alloc (.cells #[] 109)) from by go_grown)))))
  clear ho hl h1 h
  go_enter Tryz.func118, Tryz.ntmps118
  go_wp2_with (at_builtin; refine wpList_append_sl _ et_pts rfl _ _ rfl w.heap.size _ 0 _ [] rfl HO.out.1 a n cap cs rfl HO.out.2.1 HO.out.2.2.2 HO.out.2.2.1 ?c3 ?c4 ?c5 ?_)
  case c3 => unfold maxLen; omega
  case c4 => omega
  case c5 => simp
  intro a2 c2 w2 hown hgrow _
  have hB := ((Below.refl w.heap.size w).alloc (Nat.le_refl _) (.cells #[] 109)).grown hgrow (by simp) (fun q hq => by have := (HO.out.1.lt q hq).1; omega)
  have HX := Lib.hid (And.intro hown hB)
  clear hown hB hgrow
  go_wp2
  go_ret
  exact cop_of (by simpa using HX.out.1) HX.out.2
theorem inf_grs : (Tryz.prog.info? 42).map (fun i => (i.zero, i.size, i.bytes)) = some (some (.agg #[.slice none 0 0, .int .i64 0, .int .i64 0, .int .i64 0, .int .i64 0, .slice none 0 0, .int .i64 0, .int .i64 0, .int .i64 0, .int .i64 0, .int .i64 0]), 11, 120) := by kernel_rfl
theorem et_grs : ElemT Tryz.prog 43 42 11 120 := by
  obtain ⟨i0, hi0, hz0, hz1, hz2⟩ := info_parts inf_grs
  exact ⟨i0, _, Tryz.underlying43, hi0, hz0, hz1, hz2, rfl, by decide⟩
set_option maxHeartbeats 1000000 in
theorem cop_grs (w : World) (a : Option Addr) (n cap : Nat) (cs : List Value) (hn : n ≤ 1048576) (hl : cs.length = n * 11) (h1 : ∀ u ∈ cs, u.oneCell' = true) (h : Lies w a cs) :
    Calls Tryz.prog 82 #[.slice a n cap] w (Cop 42 11 n cs w) := by
  have ho := World.ownsRow_made w #[] (e := 42) (size := 11) 0 (Nat.le_refl _) (by decide) (by simp)
  have HO := Lib.hid (And.intro ho (And.intro hl (And.intro h1 (h.on (show Below w.heap.size w (w.alloc (.cells #[] 42)) from by go_grown)))))
  clear ho hl h1 h
  go_enter Tryz.func82, Tryz.ntmps82
  go_wp2_with (at_builtin; refine wpList_append_sl _ et_grs rfl _ _ rfl w.heap.size _ 0 _ [] rfl HO.out.1 a n cap cs rfl HO.out.2.1 HO.out.2.2.2 HO.out.2.2.1 ?c3 ?c4 ?c5 ?_)
  case c3 => unfold maxLen; omega
  case c4 => omega
  case c5 => simp
  intro a2 c2 w2 hown hgrow _
  have hB := ((Below.refl w.heap.size w).alloc (Nat.le_refl _) (.cells #[] 42)).grown hgrow (by simp) (fun q hq => by have := (HO.out.1.lt q hq).1; omega)
  have HX := Lib.hid (And.intro hown hB)
  clear hown hB hgrow
  go_wp2
  go_ret
  exact cop_of (by simpa using HX.out.1) HX.out.2
theorem inf_obs : (Tryz.prog.info? 101).map (fun i => (i.zero, i.size, i.bytes)) = some (some (.agg #[.slice none 0 0, .int .i64 0, .int .i64 0, .int .i64 0, .int .i64 0, .int .i64 0]), 6, 64) := by kernel_rfl
theorem et_obs : ElemT Tryz.prog 44 101 6 64 := by
  obtain ⟨i0, hi0, hz0, hz1, hz2⟩ := info_parts inf_obs
  exact ⟨i0, _, Tryz.underlying44, hi0, hz0, hz1, hz2, rfl, by decide⟩
set_option maxHeartbeats 1000000 in
theorem cop_obs (w : World) (a : Option Addr) (n cap : Nat) (cs : List Value) (hn : n ≤ 1048576) (hl : cs.length = n * 6) (h1 : ∀ u ∈ cs, u.oneCell' = true) (h : Lies w a cs) :
    Calls Tryz.prog 119 #[.slice a n cap] w (Cop 101 6 n cs w) := by
  have ho := World.ownsRow_made w #[] (e := 101) (size := 6) 0 (Nat.le_refl _) (by decide) (by simp)
  have HO := Lib.hid (And.intro ho (And.intro hl (And.intro h1 (h.on (show Below w.heap.size w (w.alloc (.cells #[] 101)) from by go_grown)))))
  clear ho hl h1 h
  go_enter Tryz.func119, Tryz.ntmps119
  go_wp2_with (at_builtin; refine wpList_append_sl _ et_obs rfl _ _ rfl w.heap.size _ 0 _ [] rfl HO.out.1 a n cap cs rfl HO.out.2.1 HO.out.2.2.2 HO.out.2.2.1 ?c3 ?c4 ?c5 ?_)
  case c3 => unfold maxLen; omega
  case c4 => omega
  case c5 => simp
  intro a2 c2 w2 hown hgrow _
  have hB := ((Below.refl w.heap.size w).alloc (Nat.le_refl _) (.cells #[] 101)).grown hgrow (by simp) (fun q hq => by have := (HO.out.1.lt q hq).1; omega)
  have HX := Lib.hid (And.intro hown hB)
  clear hown hB hgrow
  go_wp2
  go_ret
  exact cop_of (by simpa using HX.out.1) HX.out.2
end Go.Proofs.YtjmfgbbngocodaaGreat.Own

