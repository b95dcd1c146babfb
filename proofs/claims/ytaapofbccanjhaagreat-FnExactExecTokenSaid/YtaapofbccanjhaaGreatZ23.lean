/-
  Texts of this seat, laid together: OkB, OkC, OkD, Cop
-/
import Derived.WalkKit
import Derived.Handy
import Derived.Lib.Hide
import Derived.Laws.EntriesVeiled
import Derived.Laws.OwnMore
import Derived.Test.YtaapofbccanjhaaGreatZ20
import Derived.Test.YtaapofbccanjhaaGreatZ22
import Derived.Test.YtaapofbccanjhaaGreatZ17
import Derived.Test.YtaapofbccanjhaaGreatZ04
namespace Go.Proofs.YtaapofbccanjhaaGreat.Own
open Go.ChangeShapes Go.WideShapes Go.ChangeAt Go.RowKit
open Kit Slabs Ints Stack Point Turn
set_option linter.unusedVariables false
set_option linter.unusedSimpArgs false
set_option linter.unnecessarySimpa false
set_option maxRecDepth 100000
theorem gray_in (n : Int) (w : World) : Calls Tryz.prog 60 #[.int .i64 n, .int .i64 0, .int .i64 255] w fun e w' => e = .returned (.bool (grayB n)) ∧ Below w.heap.size w w' :=
  (in_any n 0 255 w).mono fun e w' h => ⟨h.1, h.2 ▸ Below.refl _ _⟩
theorem gray_any (n : Int) (w : World) : Calls Tryz.prog 116 #[.int .i64 n] w fun e w' => e = .returned (.bool (grayB n)) ∧ Below w.heap.size w w' :=
  (gray_impl n w).mono fun e w' h => ⟨h.1, h.2 ▸ Below.refl _ _⟩
theorem stok_b (w : World) (v : Value) (n : Nat) (X : Nat → Int) (hn : n ≤ 2000000) (h : Rd w v n X) : Calls Tryz.prog 65 #[v] w fun e w' => e = .returned (.bool (stB X n)) ∧ Below w.heap.size w w' :=
  (stok_spec w v n X hn h).mono fun e w' h => ⟨h.1, h.2 ▸ Below.refl _ _⟩
set_option maxHeartbeats 2000000 in
theorem gr_spec (w : World) {A : Array Value} {g : Gr} {fp : List Nat} (hb : bulkL g.dt ≤ 1048576) (h : OwnL w LGraphics A.toList g.dt fp) :
    Calls Tryz.prog 58 #[.agg A] w fun e w' => e = .returned (.bool (grB g)) ∧ Below w.heap.size w w' := by
  obtain ⟨a0, c0, a5, c5, f0, f5, hA, hf, o0, o5⟩ := inv_Graphics_ h
  simp only [Gr.dt, bulkL, Dt.bulk, len_dI, len_dP, bulk_dI, bulk_dP] at hb
  simp only [len_dI, len_dP] at hA o0 o5
  have HO := Lib.hid (And.intro o0 o5)
  have BA : Blk (w.alloc (.cells A 42)) w.heap.size A.toList := Blk.new w A 42 rfl
  rw [hA] at BA
  have HB0 := Lib.hid BA
  have HW0 : Hid (Below w.heap.size w (w.alloc (.cells A 42))) := Lib.hid (by go_grown)
  have ca0 : A[0]? = some (.slice a0 g.st.length c0) := by rw [← Array.getElem?_toList, hA]; rfl
  clear o0 o5 hA BA h
  go_enter Tryz.func58, Tryz.ntmps58
  go_wp2_with fail
  clear ca0
  ((with_reducible refine (stok_b _ _ _ _ (by omega) (rd_of (HO.out.1.under HW0.out))).mono ?_); rintro e w1 ⟨rfl, bb⟩)
  have HB1 := Lib.hid (HB0.out.keep bb)
  have HW1 := Lib.hid (on_of HW0.out bb)
  clear bb
  cases h1 : stB (xI g.st) g.st.length
  · have HS : Hid (grB g = false) := Lib.hid (by simp [grB, h1])
    clear h1
    go_wp2
    go_ret
    exact ⟨ret_bool HS.out.symm, HW1.out⟩
  · have HT1 := Lib.hid h1
    clear h1
    have cc1 := HB1.out.1 1 (.int .i64 g.q) rfl
    have cc2 := HB1.out.1 2 (.int .i64 g.s) rfl
    have cc3 := HB1.out.1 3 (.int .i64 g.dx) rfl
    have cc4 := HB1.out.1 4 (.int .i64 g.dy) rfl
    go_wp2_with fail
    clear cc1 cc2 cc3 cc4
    ((with_reducible refine (turn_spec _ _ _ _ _).mono ?_); rintro e w2 ⟨rfl, bb⟩)
    have HB2 := Lib.hid (HB1.out.keep bb)
    have HW2 := Lib.hid (on_of HW1.out bb)
    clear bb
    cases h2 : tokB g.q g.s g.dx g.dy
    · have HS : Hid (grB g = false) := Lib.hid (by simp [grB, HT1.out, h2])
      clear h2
      go_wp2
      go_ret
      exact ⟨ret_bool HS.out.symm, HW2.out⟩
    · have HT2 := Lib.hid h2
      clear h2
      have cc7 := HB2.out.1 7 (.int .i64 g.x0) rfl
      have cc8 := HB2.out.1 8 (.int .i64 g.y0) rfl
      have cc9 := HB2.out.1 9 (.int .i64 g.x1) rfl
      have cc10 := HB2.out.1 10 (.int .i64 g.y1) rfl
      go_wp2_with fail
      clear cc7 cc8 cc9 cc10
      ((with_reducible refine (bok_spec _ _ _ _ _).mono ?_); rintro e w3 ⟨rfl, bb⟩)
      have HB3 := Lib.hid (HB2.out.keep bb)
      have HW3 := Lib.hid (on_of HW2.out bb)
      clear bb
      cases h3 : bokB g.x0 g.y0 g.x1 g.y1
      · have HS : Hid (grB g = false) := Lib.hid (by simp [grB, HT1.out, HT2.out, h3])
        clear h3
        go_wp2
        go_ret
        exact ⟨ret_bool HS.out.symm, HW3.out⟩
      · have HT3 := Lib.hid h3
        clear h3
        have cc5 := HB3.out.1 5 (.slice a5 g.path.length c5) rfl
        go_wp2_with fail
        clear cc5
        ((with_reducible refine (pts_spec _ _ _ _ (by omega) (path_of (HO.out.2.under HW3.out)).2).mono ?_); rintro e w4 ⟨rfl, bb⟩)
        have HB4 := Lib.hid (HB3.out.keep bb)
        have HW4 := Lib.hid (on_of HW3.out bb)
        clear bb
        cases h4 : pathB g.path
        · have HS : Hid (grB g = false) := Lib.hid (by simp [grB, HT1.out, HT2.out, HT3.out, h4])
          clear h4
          go_wp2
          go_ret
          exact ⟨ret_bool HS.out.symm, HW4.out⟩
        · have HT4 := Lib.hid h4
          clear h4
          have cc6 := HB4.out.1 6 (.int .i64 g.gray) rfl
          go_wp2_with fail
          clear cc6
          ((with_reducible refine (gray_in _ _).mono ?_); rintro e w5 ⟨rfl, bb⟩)
          have HB5 := Lib.hid (HB4.out.keep bb)
          have HW5 := Lib.hid (on_of HW4.out bb)
          clear bb
          cases h5 : grayB g.gray
          · have HS : Hid (grB g = false) := Lib.hid (by simp [grB, HT1.out, HT2.out, HT3.out, HT4.out, h5])
            clear h5
            go_wp2
            go_ret
            exact ⟨ret_bool HS.out.symm, HW5.out⟩
          · have HT5 := Lib.hid h5
            clear h5
            go_wp2
            go_ret
            exact ⟨ret_bool (by simp [grB, HT1.out, HT2.out, HT3.out, HT4.out, HT5.out]), HW5.out⟩
set_option maxHeartbeats 2000000 in
theorem gr_impl (w : World) {A : Array Value} {g : Gr} {fp : List Nat} (hb : bulkL g.dt ≤ 1048576) (h : OwnL w LGraphics A.toList g.dt fp) :
    Calls Tryz.prog 76 #[.agg A] w fun e w' => e = .returned (.bool (grB g)) ∧ Below w.heap.size w w' := by
  obtain ⟨a0, c0, a5, c5, f0, f5, hA, hf, o0, o5⟩ := inv_Graphics_ h
  simp only [Gr.dt, bulkL, Dt.bulk, len_dI, len_dP, bulk_dI, bulk_dP] at hb
  simp only [len_dI, len_dP] at hA o0 o5
  have HO := Lib.hid (And.intro o0 o5)
  have BA : Blk (w.alloc (.cells A 42)) w.heap.size A.toList := Blk.new w A 42 rfl
  rw [hA] at BA
  have HB0 := Lib.hid BA
  have HW0 : Hid (Below w.heap.size w (w.alloc (.cells A 42))) := Lib.hid (by go_grown)
  have ca0 : A[0]? = some (.slice a0 g.st.length c0) := by rw [← Array.getElem?_toList, hA]; rfl
  clear o0 o5 hA BA h
  go_enter Tryz.func76, Tryz.ntmps76
  go_wp2_with fail
  clear ca0
  ((with_reducible refine (Impl.stok_impl _ _ _ _ (by omega) (rd_of (HO.out.1.under HW0.out))).mono ?_); rintro e w1 ⟨rfl, bb⟩)
  have HB1 := Lib.hid (HB0.out.keep bb)
  have HW1 := Lib.hid (on_of HW0.out bb)
  clear bb
  cases h1 : stB (xI g.st) g.st.length
  · have HS : Hid (grB g = false) := Lib.hid (by simp [grB, h1])
    clear h1
    go_wp2
    go_ret
    exact ⟨ret_bool HS.out.symm, HW1.out⟩
  · have HT1 := Lib.hid h1
    clear h1
    have cc1 := HB1.out.1 1 (.int .i64 g.q) rfl
    have cc2 := HB1.out.1 2 (.int .i64 g.s) rfl
    have cc3 := HB1.out.1 3 (.int .i64 g.dx) rfl
    have cc4 := HB1.out.1 4 (.int .i64 g.dy) rfl
    go_wp2_with fail
    clear cc1 cc2 cc3 cc4
    ((with_reducible refine (turn_impl _ _ _ _ _).mono ?_); rintro e w2 ⟨rfl, bb⟩)
    have HB2 := Lib.hid (HB1.out.keep bb)
    have HW2 := Lib.hid (on_of HW1.out bb)
    clear bb
    cases h2 : tokB g.q g.s g.dx g.dy
    · have HS : Hid (grB g = false) := Lib.hid (by simp [grB, HT1.out, h2])
      clear h2
      go_wp2
      go_ret
      exact ⟨ret_bool HS.out.symm, HW2.out⟩
    · have HT2 := Lib.hid h2
      clear h2
      have cc7 := HB2.out.1 7 (.int .i64 g.x0) rfl
      have cc8 := HB2.out.1 8 (.int .i64 g.y0) rfl
      have cc9 := HB2.out.1 9 (.int .i64 g.x1) rfl
      have cc10 := HB2.out.1 10 (.int .i64 g.y1) rfl
      go_wp2_with fail
      clear cc7 cc8 cc9 cc10
      ((with_reducible refine (bok_impl _ _ _ _ _).mono ?_); rintro e w3 ⟨rfl, bb⟩)
      have HB3 := Lib.hid (HB2.out.keep bb)
      have HW3 := Lib.hid (on_of HW2.out bb)
      clear bb
      cases h3 : bokB g.x0 g.y0 g.x1 g.y1
      · have HS : Hid (grB g = false) := Lib.hid (by simp [grB, HT1.out, HT2.out, h3])
        clear h3
        go_wp2
        go_ret
        exact ⟨ret_bool HS.out.symm, HW3.out⟩
      · have HT3 := Lib.hid h3
        clear h3
        have cc5 := HB3.out.1 5 (.slice a5 g.path.length c5) rfl
        go_wp2_with fail
        clear cc5
        ((with_reducible refine (path_impl _ _ _ _ (by omega) (path_of (HO.out.2.under HW3.out)).2).mono ?_); rintro e w4 ⟨rfl, bb⟩)
        have HB4 := Lib.hid (HB3.out.keep bb)
        have HW4 := Lib.hid (on_of HW3.out bb)
        clear bb
        cases h4 : pathB g.path
        · have HS : Hid (grB g = false) := Lib.hid (by simp [grB, HT1.out, HT2.out, HT3.out, h4])
          clear h4
          go_wp2
          go_ret
          exact ⟨ret_bool HS.out.symm, HW4.out⟩
        · have HT4 := Lib.hid h4
          clear h4
          have cc6 := HB4.out.1 6 (.int .i64 g.gray) rfl
          go_wp2_with fail
          clear cc6
          ((with_reducible refine (gray_any _ _).mono ?_); rintro e w5 ⟨rfl, bb⟩)
          have HB5 := Lib.hid (HB4.out.keep bb)
          have HW5 := Lib.hid (on_of HW4.out bb)
          clear bb
          cases h5 : grayB g.gray
          · have HS : Hid (grB g = false) := Lib.hid (by simp [grB, HT1.out, HT2.out, HT3.out, HT4.out, h5])
            clear h5
            go_wp2
            go_ret
            exact ⟨ret_bool HS.out.symm, HW5.out⟩
          · have HT5 := Lib.hid h5
            clear h5
            go_wp2
            go_ret
            exact ⟨ret_bool (by simp [grB, HT1.out, HT2.out, HT3.out, HT4.out, HT5.out]), HW5.out⟩
end Go.Proofs.YtaapofbccanjhaaGreat.Own
namespace Go.Proofs.YtaapofbccanjhaaGreat.Own
open Go.ChangeShapes Go.WideShapes Go.ChangeAt Go.RowKit
open Kit Slabs Ints Stack Point Turn
set_option linter.unusedVariables false
set_option linter.unusedSimpArgs false
set_option linter.unnecessarySimpa false
set_option maxRecDepth 100000
attribute [local go_sem ↓] hload_Graphics hload_Object hstore_Graphics hstore_Object
set_option maxHeartbeats 2000000 in
theorem ob_yes_spec (w : World) {A : Array Value} {o : Ob} {fp : List Nat} (h3 : 3 ≤ o.path.length) (hb : bulkL o.dt ≤ 1048576) (h : OwnL w LObject A.toList o.dt fp) :
    Calls Tryz.prog 59 #[.agg A] w fun e w' => e = .returned (.bool (obB o)) ∧ Below w.heap.size w w' := by
  obtain ⟨a0, c0, f0, hA, hf, o0⟩ := inv_Object_ h
  simp only [Ob.dt, bulkL, Dt.bulk, len_dI, len_dP, bulk_dI, bulk_dP] at hb
  simp only [len_dI, len_dP] at hA o0
  have HO := Lib.hid (And.intro o0 trivial)
  have BA : Blk (w.alloc (.cells A 101)) w.heap.size A.toList := Blk.new w A 101 rfl
  rw [hA] at BA
  have HB0 := Lib.hid BA
  have HW0 : Hid (Below w.heap.size w (w.alloc (.cells A 101))) := Lib.hid (by go_grown)
  have ca0 : A[0]? = some (.slice a0 o.path.length c0) := by rw [← Array.getElem?_toList, hA]; rfl
  clear o0 hA BA h
  have h3i : (3 : Int) ≤ (o.path.length : Int) := by omega
  go_enter Tryz.func59, Tryz.ntmps59
  go_wp2_with fail
  clear ca0
  ((with_reducible refine (pts_spec _ _ _ _ (by omega) (path_of (HO.out.1.under HW0.out)).2).mono ?_); rintro e w1 ⟨rfl, bb⟩)
  have HB1 := Lib.hid (HB0.out.keep bb)
  have HW1 := Lib.hid (on_of HW0.out bb)
  clear bb
  cases h1 : pathB o.path
  · have HS : Hid (obB o = false) := Lib.hid (by simp [obB, h3, h1])
    clear h1
    go_wp2
    go_ret
    exact ⟨ret_bool HS.out.symm, HW1.out⟩
  · have HT1 := Lib.hid h1
    clear h1
    have cc1 := HB1.out.1 1 (.int .i64 o.gray) rfl
    go_wp2_with fail
    clear cc1
    ((with_reducible refine (gray_in _ _).mono ?_); rintro e w2 ⟨rfl, bb⟩)
    have HB2 := Lib.hid (HB1.out.keep bb)
    have HW2 := Lib.hid (on_of HW1.out bb)
    clear bb
    cases h2 : grayB o.gray
    · have HS : Hid (obB o = false) := Lib.hid (by simp [obB, h3, HT1.out, h2])
      clear h2
      go_wp2
      go_ret
      exact ⟨ret_bool HS.out.symm, HW2.out⟩
    · have HT2 := Lib.hid h2
      clear h2
      have cc2 := HB2.out.1 2 (.int .i64 o.x0) rfl
      have cc3 := HB2.out.1 3 (.int .i64 o.y0) rfl
      have cc4 := HB2.out.1 4 (.int .i64 o.x1) rfl
      have cc5 := HB2.out.1 5 (.int .i64 o.y1) rfl
      go_wp2_with fail
      clear cc2 cc3 cc4 cc5
      ((with_reducible refine (bok_spec _ _ _ _ _).mono ?_); rintro e w3 ⟨rfl, bb⟩)
      have HB3 := Lib.hid (HB2.out.keep bb)
      have HW3 := Lib.hid (on_of HW2.out bb)
      clear bb
      cases h3 : bokB o.x0 o.y0 o.x1 o.y1
      · have HS : Hid (obB o = false) := Lib.hid (by simp [obB, h3, HT1.out, HT2.out, h3])
        clear h3
        go_wp2
        go_ret
        exact ⟨ret_bool HS.out.symm, HW3.out⟩
      · have HT3 := Lib.hid h3
        clear h3
        go_wp2
        go_ret
        exact ⟨ret_bool (by simp [obB, h3, HT1.out, HT2.out, HT3.out]), HW3.out⟩
theorem ob_no_spec (w : World) {A : Array Value} {o : Ob} {fp : List Nat} (h3 : ¬ 3 ≤ o.path.length) (h : OwnL w LObject A.toList o.dt fp) :
    Calls Tryz.prog 59 #[.agg A] w fun e w' => e = .returned (.bool (obB o)) ∧ Below w.heap.size w w' := by
  obtain ⟨a0, c0, f0, hA, hf, o0⟩ := inv_Object_ h
  simp only [len_dP] at hA
  have ca0 : A[0]? = some (.slice a0 o.path.length c0) := by rw [← Array.getElem?_toList, hA]; rfl
  have h3i : ¬ (3 : Int) ≤ (o.path.length : Int) := by omega
  have H3 := Lib.hid h3
  clear o0 hA h h3
  go_enter Tryz.func59, Tryz.ntmps59
  go_wp2
  go_ret
  exact ⟨ret_bool (by simp [obB, H3.out]), by go_grown⟩
theorem ob_spec (w : World) {A : Array Value} {o : Ob} {fp : List Nat} (hb : bulkL o.dt ≤ 1048576) (h : OwnL w LObject A.toList o.dt fp) :
    Calls Tryz.prog 59 #[.agg A] w fun e w' => e = .returned (.bool (obB o)) ∧ Below w.heap.size w w' := by
  by_cases h3 : 3 ≤ o.path.length
  · exact ob_yes_spec w h3 hb h
  · exact ob_no_spec w h3 h
set_option maxHeartbeats 2000000 in
theorem ob_yes_impl (w : World) {A : Array Value} {o : Ob} {fp : List Nat} (h3 : 3 ≤ o.path.length) (hb : bulkL o.dt ≤ 1048576) (h : OwnL w LObject A.toList o.dt fp) :
    Calls Tryz.prog 79 #[.agg A] w fun e w' => e = .returned (.bool (obB o)) ∧ Below w.heap.size w w' := by
  obtain ⟨a0, c0, f0, hA, hf, o0⟩ := inv_Object_ h
  simp only [Ob.dt, bulkL, Dt.bulk, len_dI, len_dP, bulk_dI, bulk_dP] at hb
  simp only [len_dI, len_dP] at hA o0
  have HO := Lib.hid (And.intro o0 trivial)
  have BA : Blk (w.alloc (.cells A 101)) w.heap.size A.toList := Blk.new w A 101 rfl
  rw [hA] at BA
  have HB0 := Lib.hid BA
  have HW0 : Hid (Below w.heap.size w (w.alloc (.cells A 101))) := Lib.hid (by go_grown)
  have ca0 : A[0]? = some (.slice a0 o.path.length c0) := by rw [← Array.getElem?_toList, hA]; rfl
  clear o0 hA BA h
  have h3i : (3 : Int) ≤ (o.path.length : Int) := by omega
  go_enter Tryz.func79, Tryz.ntmps79
  go_wp2_with fail
  clear ca0
  ((with_reducible refine (path_impl _ _ _ _ (by omega) (path_of (HO.out.1.under HW0.out)).2).mono ?_); rintro e w1 ⟨rfl, bb⟩)
  have HB1 := Lib.hid (HB0.out.keep bb)
  have HW1 := Lib.hid (on_of HW0.out bb)
  clear bb
  cases h1 : pathB o.path
  · have HS : Hid (obB o = false) := Lib.hid (by simp [obB, h3, h1])
    clear h1
    go_wp2
    go_ret
    exact ⟨ret_bool HS.out.symm, HW1.out⟩
  · have HT1 := Lib.hid h1
    clear h1
    have cc1 := HB1.out.1 1 (.int .i64 o.gray) rfl
    go_wp2_with fail
    clear cc1
    ((with_reducible refine (gray_any _ _).mono ?_); rintro e w2 ⟨rfl, bb⟩)
    have HB2 := Lib.hid (HB1.out.keep bb)
    have HW2 := Lib.hid (on_of HW1.out bb)
    clear bb
    cases h2 : grayB o.gray
    · have HS : Hid (obB o = false) := Lib.hid (by simp [obB, h3, HT1.out, h2])
      clear h2
      go_wp2
      go_ret
      exact ⟨ret_bool HS.out.symm, HW2.out⟩
    · have HT2 := Lib.hid h2
      clear h2
      have cc2 := HB2.out.1 2 (.int .i64 o.x0) rfl
      have cc3 := HB2.out.1 3 (.int .i64 o.y0) rfl
      have cc4 := HB2.out.1 4 (.int .i64 o.x1) rfl
      have cc5 := HB2.out.1 5 (.int .i64 o.y1) rfl
      go_wp2_with fail
      clear cc2 cc3 cc4 cc5
      ((with_reducible refine (bok_impl _ _ _ _ _).mono ?_); rintro e w3 ⟨rfl, bb⟩)
      have HB3 := Lib.hid (HB2.out.keep bb)
      have HW3 := Lib.hid (on_of HW2.out bb)
      clear bb
      cases h3 : bokB o.x0 o.y0 o.x1 o.y1
      · have HS : Hid (obB o = false) := Lib.hid (by simp [obB, h3, HT1.out, HT2.out, h3])
        clear h3
        go_wp2
        go_ret
        exact ⟨ret_bool HS.out.symm, HW3.out⟩
      · have HT3 := Lib.hid h3
        clear h3
        go_wp2
        go_ret
        exact ⟨ret_bool (by simp [obB, h3, HT1.out, HT2.out, HT3.out]), HW3.out⟩
theorem ob_no_impl (w : World) {A : Array Value} {o : Ob} {fp : List Nat} (h3 : ¬ 3 ≤ o.path.length) (h : OwnL w LObject A.toList o.dt fp) :
    Calls Tryz.prog 79 #[.agg A] w fun e w' => e = .returned (.bool (obB o)) ∧ Below w.heap.size w w' := by
  obtain ⟨a0, c0, f0, hA, hf, o0⟩ := inv_Object_ h
  simp only [len_dP] at hA
  have ca0 : A[0]? = some (.slice a0 o.path.length c0) := by rw [← Array.getElem?_toList, hA]; rfl
  have h3i : ¬ (3 : Int) ≤ (o.path.length : Int) := by omega
  have H3 := Lib.hid h3
  clear o0 hA h h3
  go_enter Tryz.func79, Tryz.ntmps79
  go_wp2
  go_ret
  exact ⟨ret_bool (by simp [obB, H3.out]), by go_grown⟩
theorem ob_impl (w : World) {A : Array Value} {o : Ob} {fp : List Nat} (hb : bulkL o.dt ≤ 1048576) (h : OwnL w LObject A.toList o.dt fp) :
    Calls Tryz.prog 79 #[.agg A] w fun e w' => e = .returned (.bool (obB o)) ∧ Below w.heap.size w w' := by
  by_cases h3 : 3 ≤ o.path.length
  · exact ob_yes_impl w h3 hb h
  · exact ob_no_impl w h3 h
theorem elt_Graphics {w : World} {a : Option Addr} {n c : Nat} {l : List Gr} {fp : List Nat} (h : Own w (.sl KGraphics) [.slice a n c] (.sl (dG l)) fp) {k : Nat} (hk : k < l.length) :
    ∃ g C fq, a = some ⟨g, 0, none⟩ ∧ g < w.heap.size ∧ OwnL w LGraphics C.toList l[k].dt fq ∧ (∀ b ∈ fq, b ∈ fp) ∧ bulkL l[k].dt ≤ bulkL (dG l) ∧ ∀ W, Below w.heap.size w W → (hload 42 ⟨g, k * 11, none⟩).run Tryz.prog W = .ok (.agg C) W := by
  have hk' : k < (dG l).length := by rw [len_dG]; exact hk
  obtain ⟨hl, hr⟩ := h.row
  obtain ⟨g, rfl, _⟩ := hr (by omega)
  obtain ⟨hg, _, cs, ds, fq, e, o, hcl, hm, hc⟩ := h.elt hk'
  have e2 : (dG l)[k] = .st l[k].dt := by simp [dG]
  have hbk := bulk_elt hk'
  rw [e2] at e hbk
  injection e with e
  subst e
  refine ⟨g, cs.toArray, fq, rfl, hg, by simpa using o, hm, by simpa [Dt.bulk] using hbk, fun W hW => ?_⟩
  exact hload_run (P := Tryz.prog) (t := 42) Tryz.isAgg42 Tryz.sizeOf42 (w := W) (b := g) (o := k * 11) (us := cs) (fun j v hv => hc W hW j v hv) hcl
set_option maxHeartbeats 2000000 in
theorem all_Graphics (w : World) (a : Option Addr) (c : Nat) (l : List Gr) {fp : List Nat} (hb : l.length + bulkL (dG l) ≤ 1048576) (h : Own w (.sl KGraphics) [.slice a l.length c] (.sl (dG l)) fp) :
    Calls Tryz.prog 77 #[.slice a l.length c, .func (.func 76) #[] #[]] w fun e w' => e = .returned (.bool (l.all grB)) ∧ Below w.heap.size w w' := by
  obtain ⟨n, hN⟩ : ∃ n, l.length = n := ⟨_, rfl⟩
  have HN := Lib.hid (And.intro hN hb)
  have HP := Lib.hid h
  have hn : n ≤ 1048576 := by omega
  rw [hN]
  clear hN hb h
  go_enter Tryz.func77, Tryz.ntmps77
  go_wp2
  go_loopw [9] (fun v9 wr => ∃ k : Nat, k ≤ n ∧ v9 = .int .i64 (k : Int) ∧ Hid (∀ i (hi : i < l.length), i < k → grB l[i] = true) ∧ Below w.heap.size w wr) (fun v9 _ => n - (intOf v9).toNat)
  case atStart => exact ⟨0, Nat.zero_le _, rfl, Lib.hid (fun i hi h => absurd h (Nat.not_lt_zero i)), Below.refl _ _⟩
  case round =>
    obtain ⟨k, hk, rfl, hg, hB⟩ := hrel
    by_cases hlt : k < n
    · have hkl : k < l.length := by rw [HN.out.1]; exact hlt
      obtain ⟨g, C, fq, rfl, hgl, oC, _, hbk, hld⟩ := elt_Graphics HP.out hkl
      have L1 := hld wr hB
      have i0 : (0 : Int) ≤ (k : Int) := by omega
      have i1 : (k : Int) < (n : Int) := by omega
      obtain ⟨E, st, BX, cx, zx⟩ := var_new (P := Tryz.prog) (T := 42) Tryz.sizeOf42 wr #[.slice none 0 0, .int .i64 0, .int .i64 0, .int .i64 0, .int .i64 0, .slice none 0 0, .int .i64 0, .int .i64 0, .int .i64 0, .int .i64 0, .int .i64 0] rfl oC rfl
      have L2 := var_load (P := Tryz.prog) (T := 42) Tryz.isAgg42 Tryz.sizeOf42 BX oC rfl
      have hbb : bulkL l[k].dt ≤ 1048576 := by have := HN.out.2; omega
      have HK := Lib.hid (And.intro oC (And.intro (on_of hB cx) hbb))
      clear oC hbk hbb hld BX cx hB
      go_wp2_with fail
      clear L1 L2 st
      ((with_reducible refine (gr_impl _ HK.out.2.2 (HK.out.1.under HK.out.2.1)).mono ?_); rintro e w1 ⟨rfl, bb⟩)
      have HB1 := Lib.hid (on_of HK.out.2.1 bb)
      clear bb
      cases hp : grB (l[k]'hkl)
      · have HS := Lib.hid (all_bad hkl hp)
        clear hp
        go_wp2
        go_ret
        exact ⟨ret_bool HS.out.symm, HB1.out⟩
      · have hyes : ∀ i (hi : i < l.length), i < k + 1 → grB l[i] = true := fun i hi h => by
          by_cases e : i = k
          · subst e; exact hp
          · exact hg.out i hi (by omega)
        have HS := Lib.hid hyes
        clear hyes hp
        go_wp2
        go_roundw
        case rel => exact ⟨k + 1, by omega, by go_num, HS, HB1.out⟩
        case measure => simp [intOf]; omega
    · obtain rfl : k = n := by omega
      have HB := Lib.hid hB
      clear hB
      go_wp2
      go_ret
      exact ⟨ret_bool (all_good (fun i hi => hg.out i hi (by rw [← HN.out.1]; exact hi))).symm, HB.out⟩
theorem elt_Object {w : World} {a : Option Addr} {n c : Nat} {l : List Ob} {fp : List Nat} (h : Own w (.sl KObject) [.slice a n c] (.sl (dO l)) fp) {k : Nat} (hk : k < l.length) :
    ∃ g C fq, a = some ⟨g, 0, none⟩ ∧ g < w.heap.size ∧ OwnL w LObject C.toList l[k].dt fq ∧ (∀ b ∈ fq, b ∈ fp) ∧ bulkL l[k].dt ≤ bulkL (dO l) ∧ ∀ W, Below w.heap.size w W → (hload 101 ⟨g, k * 6, none⟩).run Tryz.prog W = .ok (.agg C) W := by
  have hk' : k < (dO l).length := by rw [len_dO]; exact hk
  obtain ⟨hl, hr⟩ := h.row
  obtain ⟨g, rfl, _⟩ := hr (by omega)
  obtain ⟨hg, _, cs, ds, fq, e, o, hcl, hm, hc⟩ := h.elt hk'
  have e2 : (dO l)[k] = .st l[k].dt := by simp [dO]
  have hbk := bulk_elt hk'
  rw [e2] at e hbk
  injection e with e
  subst e
  refine ⟨g, cs.toArray, fq, rfl, hg, by simpa using o, hm, by simpa [Dt.bulk] using hbk, fun W hW => ?_⟩
  exact hload_run (P := Tryz.prog) (t := 101) Tryz.isAgg101 Tryz.sizeOf101 (w := W) (b := g) (o := k * 6) (us := cs) (fun j v hv => hc W hW j v hv) hcl
set_option maxHeartbeats 2000000 in
theorem all_Object (w : World) (a : Option Addr) (c : Nat) (l : List Ob) {fp : List Nat} (hb : l.length + bulkL (dO l) ≤ 1048576) (h : Own w (.sl KObject) [.slice a l.length c] (.sl (dO l)) fp) :
    Calls Tryz.prog 78 #[.slice a l.length c, .func (.func 79) #[] #[]] w fun e w' => e = .returned (.bool (l.all obB)) ∧ Below w.heap.size w w' := by
  obtain ⟨n, hN⟩ : ∃ n, l.length = n := ⟨_, rfl⟩
  have HN := Lib.hid (And.intro hN hb)
  have HP := Lib.hid h
  have hn : n ≤ 1048576 := by omega
  rw [hN]
  clear hN hb h
  go_enter Tryz.func78, Tryz.ntmps78
  go_wp2
  go_loopw [9] (fun v9 wr => ∃ k : Nat, k ≤ n ∧ v9 = .int .i64 (k : Int) ∧ Hid (∀ i (hi : i < l.length), i < k → obB l[i] = true) ∧ Below w.heap.size w wr) (fun v9 _ => n - (intOf v9).toNat)
  case atStart => exact ⟨0, Nat.zero_le _, rfl, Lib.hid (fun i hi h => absurd h (Nat.not_lt_zero i)), Below.refl _ _⟩
  case round =>
    obtain ⟨k, hk, rfl, hg, hB⟩ := hrel
    by_cases hlt : k < n
    · have hkl : k < l.length := by rw [HN.out.1]; exact hlt
      obtain ⟨g, C, fq, rfl, hgl, oC, _, hbk, hld⟩ := elt_Object HP.out hkl
      have L1 := hld wr hB
      have i0 : (0 : Int) ≤ (k : Int) := by omega
      have i1 : (k : Int) < (n : Int) := by omega
      obtain ⟨E, st, BX, cx, zx⟩ := var_new (P := Tryz.prog) (T := 101) Tryz.sizeOf101 wr #[.slice none 0 0, .int .i64 0, .int .i64 0, .int .i64 0, .int .i64 0, .int .i64 0] rfl oC rfl
      have L2 := var_load (P := Tryz.prog) (T := 101) Tryz.isAgg101 Tryz.sizeOf101 BX oC rfl
      have hbb : bulkL l[k].dt ≤ 1048576 := by have := HN.out.2; omega
      have HK := Lib.hid (And.intro oC (And.intro (on_of hB cx) hbb))
      clear oC hbk hbb hld BX cx hB
      go_wp2_with fail
      clear L1 L2 st
      ((with_reducible refine (ob_impl _ HK.out.2.2 (HK.out.1.under HK.out.2.1)).mono ?_); rintro e w1 ⟨rfl, bb⟩)
      have HB1 := Lib.hid (on_of HK.out.2.1 bb)
      clear bb
      cases hp : obB (l[k]'hkl)
      · have HS := Lib.hid (all_bad hkl hp)
        clear hp
        go_wp2
        go_ret
        exact ⟨ret_bool HS.out.symm, HB1.out⟩
      · have hyes : ∀ i (hi : i < l.length), i < k + 1 → obB l[i] = true := fun i hi h => by
          by_cases e : i = k
          · subst e; exact hp
          · exact hg.out i hi (by omega)
        have HS := Lib.hid hyes
        clear hyes hp
        go_wp2
        go_roundw
        case rel => exact ⟨k + 1, by omega, by go_num, HS, HB1.out⟩
        case measure => simp [intOf]; omega
    · obtain rfl : k = n := by omega
      have HB := Lib.hid hB
      clear hB
      go_wp2
      go_ret
      exact ⟨ret_bool (all_good (fun i hi => hg.out i hi (by rw [← HN.out.1]; exact hi))).symm, HB.out⟩
end Go.Proofs.YtaapofbccanjhaaGreat.Own
namespace Go.Proofs.YtaapofbccanjhaaGreat.Own
open Go.ChangeShapes Go.WideShapes Go.ChangeAt Go.RowKit
open Kit Slabs Ints Stack Point Turn
set_option linter.unusedVariables false
set_option linter.unusedSimpArgs false
set_option linter.unnecessarySimpa false
set_option maxRecDepth 100000
attribute [local go_sem ↓] hload_Graphics hload_Object hstore_Graphics hstore_Object hload_Page hstore_Page
set_option maxHeartbeats 2000000 in
theorem pg_impl (w : World) {A : Array Value} {p : Pg} {fp : List Nat} (hb : bulkL p.dt ≤ 1048576) (h : OwnL w LPage A.toList p.dt fp) :
    Calls Tryz.prog 36 #[.agg A] w fun e w' => e = .returned (.bool (pgB p)) ∧ Below w.heap.size w w' := by
  obtain ⟨G, a11, c11, a12, c12, f0, f11, f12, hA, hf, o0, o11, o12⟩ := inv_Page_ (by rfl) h
  simp only [Pg.dt, bulkL_app, bulkL, Dt.bulk, len_dG, len_dO] at hb
  simp only [len_dG, len_dO] at hA o11 o12
  obtain ⟨C, hC⟩ : ∃ C, G.toArray = C := ⟨_, rfl⟩
  have tC : C.toList = G := by rw [← hC]
  have nG : C.toList.length = 11 := by rw [tC]; exact o0.len
  rw [← tC] at o0 hA
  have HO := Lib.hid (And.intro o0 (And.intro o11 (And.intro o12 nG)))
  have BA : Blk (w.alloc (.cells A 46)) w.heap.size A.toList := Blk.new w A 46 rfl
  rw [hA] at BA
  have HB0 := Lib.hid BA
  have HW0 : Hid (Below w.heap.size w (w.alloc (.cells A 46))) := Lib.hid (by go_grown)
  have ca11 : A[11]? = some (.slice a11 p.saved.length c11) := by rw [← Array.getElem?_toList, hA, List.getElem?_append_right (by omega)]; simp [nG]
  have ca12 : A[12]? = some (.slice a12 p.objs.length c12) := by rw [← Array.getElem?_toList, hA, List.getElem?_append_right (by omega)]; simp [nG]
  clear o0 o11 o12 hA hC tC BA h nG
  by_cases h4 : p.saved.length ≤ 4
  · by_cases h12 : p.objs.length ≤ 12
    · have i4 : ¬ (4 : Int) < (p.saved.length : Int) := by omega
      have i12 : ¬ (12 : Int) < (p.objs.length : Int) := by omega
      have ra := hload_run (P := Tryz.prog) (t := 42) Tryz.isAgg42 Tryz.sizeOf42 (w := _) (b := w.heap.size) (o := 0) (us := C.toList) (Blk.part (P := []) HB0.out rfl) HO.out.2.2.2
      rw [Array.toArray_toList] at ra
      have HN := Lib.hid (And.intro h4 h12)
      clear h4 h12
      go_enter Tryz.func36, Tryz.ntmps36
      go_wp2_with fail
      clear ra ca11 ca12
      ((with_reducible refine (gr_impl _ (by omega) (HO.out.1.under HW0.out)).mono ?_); rintro e w1 ⟨rfl, bb⟩)
      have HB1 := Lib.hid (HB0.out.keep bb)
      have HW1 := Lib.hid (on_of HW0.out bb)
      clear bb
      cases h1 : grB p.now
      · have HS : Hid (pgB p = false) := Lib.hid (by simp [pgB, h1])
        clear h1
        go_wp2
        go_ret
        exact ⟨ret_bool HS.out.symm, HW1.out⟩
      · have HT1 := Lib.hid h1
        clear h1
        have c1 := HB1.out.1 11 (.slice a11 p.saved.length c11) (by rw [List.getElem?_append_right (by have := HO.out.2.2.2; omega)]; have := HO.out.2.2.2; simp [this])
        go_wp2_with fail
        clear c1
        ((with_reducible refine (all_Graphics _ _ _ _ (by omega) (HO.out.2.1.under HW1.out)).mono ?_); rintro e w2 ⟨rfl, bb⟩)
        have HB2 := Lib.hid (HB1.out.keep bb)
        have HW2 := Lib.hid (on_of HW1.out bb)
        clear bb
        cases h2 : p.saved.all grB
        · have HS : Hid (pgB p = false) := Lib.hid (by simp only [pgB, h2, Bool.and_false, Bool.false_and])
          clear h2
          go_wp2
          go_ret
          exact ⟨ret_bool HS.out.symm, HW2.out⟩
        · have HT2 := Lib.hid h2
          clear h2
          have c2 := HB2.out.1 12 (.slice a12 p.objs.length c12) (by rw [List.getElem?_append_right (by have := HO.out.2.2.2; omega)]; have := HO.out.2.2.2; simp [this])
          go_wp2_with fail
          clear c2
          ((with_reducible refine (all_Object _ _ _ _ (by omega) (HO.out.2.2.1.under HW2.out)).mono ?_); rintro e w3 ⟨rfl, bb⟩)
          have HW3 := Lib.hid (on_of HW2.out bb)
          clear bb
          go_wp2
          go_ret
          exact ⟨ret_bool (by simp only [pgB, HT1.out, HT2.out, HN.out.1, HN.out.2, decide_true, Bool.true_and]), HW3.out⟩
    · have i4 : ¬ (4 : Int) < (p.saved.length : Int) := by omega
      have i12 : (12 : Int) < (p.objs.length : Int) := by omega
      have HN := Lib.hid h12
      clear h4 h12
      go_enter Tryz.func36, Tryz.ntmps36
      go_wp2
      go_ret
      exact ⟨ret_bool (by simp [pgB, HN.out]), HW0.out⟩
  · have i4 : (4 : Int) < (p.saved.length : Int) := by omega
    have HN := Lib.hid h4
    clear h4
    go_enter Tryz.func36, Tryz.ntmps36
    go_wp2
    go_ret
    exact ⟨ret_bool (by simp [pgB, HN.out]), HW0.out⟩
set_option maxHeartbeats 4000000 in
theorem pg_spec (w : World) {A : Array Value} {p : Pg} {fp : List Nat} (hb : bulkL p.dt ≤ 1048576) (h : OwnL w LPage A.toList p.dt fp) :
    Calls Tryz.prog 23 #[.agg A] w fun e w' => e = .returned (.bool (pgB p)) ∧ Below w.heap.size w w' := by
  obtain ⟨G, a11, c11, a12, c12, f0, f11, f12, hA, hf, o0, o11, o12⟩ := inv_Page_ (by rfl) h
  simp only [Pg.dt, bulkL_app, bulkL, Dt.bulk, len_dG, len_dO] at hb
  simp only [len_dG, len_dO] at hA o11 o12
  obtain ⟨C, hC⟩ : ∃ C, G.toArray = C := ⟨_, rfl⟩
  have tC : C.toList = G := by rw [← hC]
  have nG : C.toList.length = 11 := by rw [tC]; exact o0.len
  rw [← tC] at o0 hA
  have HO := Lib.hid (And.intro o0 (And.intro o11 (And.intro o12 nG)))
  have BA : Blk (w.alloc (.cells A 46)) w.heap.size A.toList := Blk.new w A 46 rfl
  rw [hA] at BA
  have HB0 := Lib.hid BA
  have HW0 : Hid (Below w.heap.size w (w.alloc (.cells A 46))) := Lib.hid (by go_grown)
  clear o0 o11 o12 hA hC tC BA h nG
  obtain ⟨n, hN⟩ : ∃ n, p.saved.length = n := ⟨_, rfl⟩
  obtain ⟨m, hM⟩ : ∃ m, p.objs.length = m := ⟨_, rfl⟩
  have HNn := Lib.hid hN
  have HNm := Lib.hid hM
  have ra := hload_run (P := Tryz.prog) (t := 42) Tryz.isAgg42 Tryz.sizeOf42 (w := _) (b := w.heap.size) (o := 0) (us := C.toList) (Blk.part (P := []) HB0.out rfl) HO.out.2.2.2
  rw [Array.toArray_toList] at ra
  have hb1 : bulkL p.now.dt ≤ 1048576 := by omega
  clear hN hM
  go_enter Tryz.func23, Tryz.ntmps23
  go_wp2_with fail
  clear ra
  ((with_reducible refine (gr_spec _ hb1 (HO.out.1.under HW0.out)).mono ?_); rintro e w1 ⟨rfl, bb⟩)
  have HB1 := Lib.hid (HB0.out.keep bb)
  have HW1 := Lib.hid (on_of HW0.out bb)
  clear bb
  have c1 := HB1.out.1 11 (.slice a11 p.saved.length c11) (by rw [List.getElem?_append_right (by have := HO.out.2.2.2; omega)]; have := HO.out.2.2.2; simp [this])
  have c2 := HB1.out.1 12 (.slice a12 p.objs.length c12) (by rw [List.getElem?_append_right (by have := HO.out.2.2.2; omega)]; have := HO.out.2.2.2; simp [this])
  cases h1 : grB p.now
  · have HS : Hid (pgB p = false) := Lib.hid (by simp [pgB, h1])
    clear h1
    go_wp2
    go_ret
    exact ⟨ret_bool HS.out.symm, HW1.out⟩
  · have HT1 := Lib.hid h1
    clear h1
    by_cases h4 : n ≤ 4
    · have i4 : ¬ (4 : Int) < (p.saved.length : Int) := by have := HNn.out; omega
      by_cases h12 : m ≤ 12
      · have i12 : ¬ (12 : Int) < (p.objs.length : Int) := by have := HNm.out; omega
        have HN4 := Lib.hid (show p.saved.length ≤ 4 ∧ p.objs.length ≤ 12 from ⟨by have := HNn.out; omega, by have := HNm.out; omega⟩)
        have j4 := i4
        go_wp2_with fail
        clear c1 c2
        rw [HNn.out] at i4
        rw [HNm.out] at i12
        go_loopw [3] (fun v wr => ∃ k : Nat, k ≤ n ∧ v = .int .i64 (k : Int) ∧ Hid (∀ i (hi : i < p.saved.length), i < k → grB p.saved[i] = true) ∧ Below w1.heap.size w1 wr) (fun v _ => n - (intOf v).toNat)
        case atStart => exact ⟨0, Nat.zero_le _, rfl, Lib.hid (fun i hi h => absurd h (Nat.not_lt_zero i)), Below.refl _ _⟩
        case round =>
          obtain ⟨k, hk, rfl, hg, hB⟩ := hrel
          have HBk := Lib.hid (HB1.out.keep hB)
          have HWk := Lib.hid (on_of HW1.out hB)
          have c1 := HBk.out.1 11 (.slice a11 p.saved.length c11) (by rw [List.getElem?_append_right (by have := HO.out.2.2.2; omega)]; have := HO.out.2.2.2; simp [this])
          rw [HNn.out] at c1
          have HRr : Hid (∀ {W : World}, Below wr.heap.size wr W → Below w1.heap.size w1 W) := Lib.hid (fun h => on_of hB h)
          clear hB
          by_cases hlt : k < n
          · have hkl : k < p.saved.length := by rw [HNn.out]; exact hlt
            obtain ⟨g, D, fq, ha, hgl, oD, _, hbk, hld⟩ := elt_Graphics (HO.out.2.1) hkl
            have L1 := hld wr HWk.out
            rw [ha] at c1
            have i0 : (0 : Int) ≤ (k : Int) := by omega
            have i1 : (k : Int) < (n : Int) := by omega
            have hbb : bulkL p.saved[k].dt ≤ 1048576 := by omega
            have HK := Lib.hid (And.intro oD hbb)
            have HA := Lib.hid ha
            clear oD hbk hbb hld ha
            go_wp2_with fail
            clear L1 c1
            ((with_reducible refine (gr_spec _ HK.out.2 (HK.out.1.under HWk.out)).mono ?_); rintro e wz ⟨rfl, bb⟩)
            have HBz := Lib.hid (show Below wr.heap.size wr wz from bb)
            clear bb
            cases hp : grB (p.saved[k]'hkl)
            · have HS : Hid (pgB p = false) := Lib.hid (by simp only [pgB, all_bad hkl hp, Bool.and_false, Bool.false_and])
              clear hp
              go_wp2
              go_ret
              exact ⟨ret_bool HS.out.symm, on_of HWk.out HBz.out⟩
            · have hyes : ∀ i (hi : i < p.saved.length), i < k + 1 → grB p.saved[i] = true := fun i hi h => by
                by_cases e : i = k
                · subst e; exact hp
                · exact hg.out i hi (by omega)
              have HS := Lib.hid hyes
              clear hyes hp
              go_wp2
              go_roundw
              case rel => exact ⟨k + 1, by omega, by go_num, HS, HRr.out HBz.out⟩
              case measure => simp [intOf]; omega
          · obtain rfl : k = n := by omega
            have HL := Lib.hid (all_good (f := grB) (fun i hi => hg.out i hi (by rw [← HNn.out]; exact hi)))
            have HG := Lib.hid (show p.saved.all grB = true from HL.out)
            clear HL hg
            obtain ⟨wq, hwq⟩ : ∃ wq, wq = wr := ⟨_, rfl⟩
            subst hwq
            have HBq := HBk
            have HWq := HWk
            clear HBk HWk HRr
            have cq := HBq.out.1 12 (.slice a12 p.objs.length c12) (by rw [List.getElem?_append_right (by have := HO.out.2.2.2; omega)]; have := HO.out.2.2.2; simp [this])
            rw [HNm.out] at cq
            go_wp2_with fail
            clear cq c1
            go_loopw [4] (fun v wr => ∃ k : Nat, k ≤ m ∧ v = .int .i64 (k : Int) ∧ Hid (∀ i (hi : i < p.objs.length), i < k → obB p.objs[i] = true) ∧ Below wq.heap.size wq wr) (fun v _ => m - (intOf v).toNat)
            case atStart => exact ⟨0, Nat.zero_le _, rfl, Lib.hid (fun i hi h => absurd h (Nat.not_lt_zero i)), Below.refl _ _⟩
            case round =>
              obtain ⟨k, hk, rfl, hg, hB⟩ := hrel
              have HBk := Lib.hid (HBq.out.keep hB)
              have HWk := Lib.hid (on_of HWq.out hB)
              have c1 := HBk.out.1 12 (.slice a12 p.objs.length c12) (by rw [List.getElem?_append_right (by have := HO.out.2.2.2; omega)]; have := HO.out.2.2.2; simp [this])
              rw [HNm.out] at c1
              have HRr : Hid (∀ {W : World}, Below wr.heap.size wr W → Below wq.heap.size wq W) := Lib.hid (fun h => on_of hB h)
              clear hB
              by_cases hlt : k < m
              · have hkl : k < p.objs.length := by rw [HNm.out]; exact hlt
                obtain ⟨g, D, fq, ha, hgl, oD, _, hbk, hld⟩ := elt_Object (HO.out.2.2.1) hkl
                have L1 := hld wr HWk.out
                rw [ha] at c1
                have i0 : (0 : Int) ≤ (k : Int) := by omega
                have i1 : (k : Int) < (m : Int) := by omega
                have hbb : bulkL p.objs[k].dt ≤ 1048576 := by omega
                have HK := Lib.hid (And.intro oD hbb)
                have HA := Lib.hid ha
                clear oD hbk hbb hld ha
                go_wp2_with fail
                clear L1 c1
                ((with_reducible refine (ob_spec _ HK.out.2 (HK.out.1.under HWk.out)).mono ?_); rintro e wz ⟨rfl, bb⟩)
                have HBz := Lib.hid (show Below wr.heap.size wr wz from bb)
                clear bb
                cases hp : obB (p.objs[k]'hkl)
                · have HS : Hid (pgB p = false) := Lib.hid (by simp only [pgB, all_bad hkl hp, Bool.and_false, Bool.false_and])
                  clear hp
                  go_wp2
                  go_ret
                  exact ⟨ret_bool HS.out.symm, on_of HWk.out HBz.out⟩
                · have hyes : ∀ i (hi : i < p.objs.length), i < k + 1 → obB p.objs[i] = true := fun i hi h => by
                    by_cases e : i = k
                    · subst e; exact hp
                    · exact hg.out i hi (by omega)
                  have HS := Lib.hid hyes
                  clear hyes hp
                  go_wp2
                  go_roundw
                  case rel => exact ⟨k + 1, by omega, by go_num, HS, HRr.out HBz.out⟩
                  case measure => simp [intOf]; omega
              · obtain rfl : k = m := by omega
                have HL := Lib.hid (all_good (f := obB) (fun i hi => hg.out i hi (by rw [← HNm.out]; exact hi)))
                go_wp2
                go_ret
                exact ⟨ret_bool (by simp only [pgB, HT1.out, HG.out, HL.out, HN4.out.1, HN4.out.2, decide_true, Bool.true_and]), HWk.out⟩
      · have i12 : (12 : Int) < (p.objs.length : Int) := by have := HNm.out; omega
        have HS : Hid (pgB p = false) := Lib.hid (by simp [pgB, HNm.out, h12])
        go_wp2
        go_ret
        exact ⟨ret_bool HS.out.symm, HW1.out⟩
    · have i4 : (4 : Int) < (p.saved.length : Int) := by have := HNn.out; omega
      have HS : Hid (pgB p = false) := Lib.hid (by simp [pgB, HNn.out, h4])
      go_wp2
      go_ret
      exact ⟨ret_bool HS.out.symm, HW1.out⟩
end Go.Proofs.YtaapofbccanjhaaGreat.Own
namespace Go.Proofs.YtaapofbccanjhaaGreat.Own
open Go.ChangeShapes Go.WideShapes Go.ChangeAt Go.RowKit
open Kit Slabs Ints Stack Point Turn
set_option linter.unusedVariables false
set_option linter.unusedSimpArgs false
set_option linter.unnecessarySimpa false
set_option maxRecDepth 100000
def Cop (T : TypeId) (k n : Nat) (cs : List Value) (w : World) (e : Ending) (w' : World) : Prop := ∃ a c, e = .returned (.slice a n c) ∧ w'.ownsRow w.heap.size T k (.slice a n c) n cs ∧ Below w.heap.size w w'
theorem cop_of {T : TypeId} {k n : Nat} {cs : List Value} {w w' : World} {u : Value} (h : w'.ownsRow w.heap.size T k u n cs) (b : Below w.heap.size w w') : Cop T k n cs w (.returned u) w' := by
  have h2 := h
  rcases h.2 with ⟨rfl, rfl⟩ | ⟨g, cap, cur, rfl, _⟩
  · exact ⟨_, _, rfl, h2, b⟩
  · exact ⟨_, _, rfl, h2, b⟩
theorem inf_int : (Tryz.prog.info? 3).map (fun i => (i.zero, i.size, i.bytes)) = some (some (.int .i64 0), 1, 8) := by kernel_rfl
theorem et_int : ElemT Tryz.prog 22 3 1 8 := by
  obtain ⟨i0, hi0, hz0, hz1, hz2⟩ := info_parts inf_int
  exact ⟨i0, _, Tryz.underlying22, hi0, hz0, hz1, hz2, rfl, by decide⟩
set_option maxHeartbeats 1000000 in
theorem cop_int (w : World) (a : Option Addr) (n cap : Nat) (cs : List Value) (hn : n ≤ 1048576) (hl : cs.length = n * 1) (h1 : ∀ u ∈ cs, u.oneCell' = true) (h : Lies w a cs) :
    Calls Tryz.prog 117 #[.slice a n cap] w (Cop 3 1 n cs w) := by
  have ho := World.ownsRow_made w #[] (e := 3) (size := 1) 0 (Nat.le_refl _) (by decide) (by simp)
  have HO := Lib.hid (And.intro ho (And.intro hl (And.intro h1 (h.on (show Below w.heap.size w (w.alloc (.cells #[] 3)) from by go_grown)))))
  clear ho hl h1 h
  go_enter Tryz.func117, Tryz.ntmps117
  go_wp2_with (at_builtin; refine wpList_append_sl _ et_int rfl _ _ rfl w.heap.size _ 0 _ [] rfl HO.out.1 a n cap cs rfl HO.out.2.1 HO.out.2.2.2 HO.out.2.2.1 ?c3 ?c4 ?c5 ?_)
  case c3 => unfold maxLen; omega
  case c4 => omega
  case c5 => simp
  intro a2 c2 w2 hown hgrow _
  have hB := ((Below.refl w.heap.size w).alloc (Nat.le_refl _) (.cells #[] 3)).grown hgrow (by simp) (fun q hq => by have := (HO.out.1.lt q hq).1; omega)
  have HX := Lib.hid (And.intro hown hB)
  clear hown hB hgrow
  go_wp2
  go_ret
  exact cop_of (by simpa using HX.out.1) HX.out.2
set_option maxHeartbeats 1000000 in
theorem cop_l05 (w : World) (a : Option Addr) (n cap : Nat) (cs : List Value) (hn : n ≤ 1048576) (hl : cs.length = n * 1) (h1 : ∀ u ∈ cs, u.oneCell' = true) (h : Lies w a cs) :
    Calls Tryz.prog 64 #[.slice a n cap] w (Cop 3 1 n cs w) := by
  have ho := World.ownsRow_made w #[] (e := 3) (size := 1) 0 (Nat.le_refl _) (by decide) (by simp)
  have HO := Lib.hid (And.intro ho (And.intro hl (And.intro h1 (h.on (show Below w.heap.size w (w.alloc (.cells #[] 3)) from by go_grown)))))
  clear ho hl h1 h
  go_enter Tryz.func64, Tryz.ntmps64
  go_wp2_with (at_builtin; refine wpList_append_sl _ et_int rfl _ _ rfl w.heap.size _ 0 _ [] rfl HO.out.1 a n cap cs rfl HO.out.2.1 HO.out.2.2.2 HO.out.2.2.1 ?c3 ?c4 ?c5 ?_)
  case c3 => unfold maxLen; omega
  case c4 => omega
  case c5 => simp
  intro a2 c2 w2 hown hgrow _
  have hB := ((Below.refl w.heap.size w).alloc (Nat.le_refl _) (.cells #[] 3)).grown hgrow (by simp) (fun q hq => by have := (HO.out.1.lt q hq).1; omega)
  have HX := Lib.hid (And.intro hown hB)
  clear hown hB hgrow
  go_wp2
  go_ret
  exact cop_of (by simpa using HX.out.1) HX.out.2
theorem inf_pts : (Tryz.prog.info? 109).map (fun i => (i.zero, i.size, i.bytes)) = some (some (.agg #[.int .i64 0, .int .i64 0]), 2, 16) := by kernel_rfl
theorem et_pts : ElemT Tryz.prog 39 109 2 16 := by
  obtain ⟨i0, hi0, hz0, hz1, hz2⟩ := info_parts inf_pts
  exact ⟨i0, _, Tryz.underlying39, hi0, hz0, hz1, hz2, rfl, by decide⟩
set_option maxHeartbeats 1000000 in
theorem cop_pts (w : World) (a : Option Addr) (n cap : Nat) (cs : List Value) (hn : n ≤ 1048576) (hl : cs.length = n * 2) (h1 : ∀ u ∈ cs, u.oneCell' = true) (h : Lies w a cs) :
    Calls Tryz.prog 118 #[.slice a n cap] w (Cop 109 2 n cs w) := by
  have ho := World.ownsRow_made w #[] (e := 109) (size := 2) 0 (Nat.le_refl _) (by decide) (by simp)
  have HO := Lib.hid (And.intro ho (And.intro hl (And.intro h1 (h.on (show Below w.heap.size w (w.alloc (.cells #[] 109)) from by go_grown)))))
  clear ho hl h1 h
  go_enter Tryz.func118, Tryz.ntmps118
  go_wp2_with (at_builtin; refine wpList_append_sl _ et_pts rfl _ _ rfl w.heap.size _ 0 _ [] rfl HO.out.1 a n cap cs rfl HO.out.2.1 HO.out.2.2.2 HO.out.2.2.1 ?c3 ?c4 ?c5 ?_)
  case c3 => unfold maxLen; omega
  case c4 => omega
  case c5 => simp
  intro a2 c2 w2 hown hgrow _
  have hB := ((Below.refl w.heap.size w).alloc (Nat.le_refl _) (.cells #[] 109)).grown hgrow (by simp) (fun q hq => by have := (HO.out.1.lt q hq).1; omega)
  have HX := Lib.hid (And.intro hown hB)
  clear hown hB hgrow
  go_wp2
  go_ret
  exact cop_of (by simpa using HX.out.1) HX.out.2
theorem inf_grs : (Tryz.prog.info? 42).map (fun i => (i.zero, i.size, i.bytes)) = some (some (.agg #[.slice none 0 0, .int .i64 0, .int .i64 0, .int .i64 0, .int .i64 0, .slice none 0 0, .int .i64 0, .int .i64 0, .int .i64 0, .int .i64 0, .int .i64 0]), 11, 120) := by kernel_rfl
theorem et_grs : ElemT Tryz.prog 43 42 11 120 := by
  obtain ⟨i0, hi0, hz0, hz1, hz2⟩ := info_parts inf_grs
  exact ⟨i0, _, Tryz.underlying43, hi0, hz0, hz1, hz2, rfl, by decide⟩
set_option maxHeartbeats 1000000 in
theorem cop_grs (w : World) (a : Option Addr) (n cap : Nat) (cs : List Value) (hn : n ≤ 1048576) (hl : cs.length = n * 11) (h1 : ∀ u ∈ cs, u.oneCell' = true) (h : Lies w a cs) :
    Calls Tryz.prog 82 #[.slice a n cap] w (Cop 42 11 n cs w) := by
  have ho := World.ownsRow_made w #[] (e := 42) (size := 11) 0 (Nat.le_refl _) (by decide) (by simp)
  have HO := Lib.hid (And.intro ho (And.intro hl (And.intro h1 (h.on (show Below w.heap.size w (w.alloc (.cells #[] 42)) from by go_grown)))))
  clear ho hl h1 h
  go_enter Tryz.func82, Tryz.ntmps82
  go_wp2_with (at_builtin; refine wpList_append_sl _ et_grs rfl _ _ rfl w.heap.size _ 0 _ [] rfl HO.out.1 a n cap cs rfl HO.out.2.1 HO.out.2.2.2 HO.out.2.2.1 ?c3 ?c4 ?c5 ?_)
  case c3 => unfold maxLen; omega
  case c4 => omega
  case c5 => simp
  intro a2 c2 w2 hown hgrow _
  have hB := ((Below.refl w.heap.size w).alloc (Nat.le_refl _) (.cells #[] 42)).grown hgrow (by simp) (fun q hq => by have := (HO.out.1.lt q hq).1; omega)
  have HX := Lib.hid (And.intro hown hB)
  clear hown hB hgrow
  go_wp2
  go_ret
  exact cop_of (by simpa using HX.out.1) HX.out.2
theorem inf_obs : (Tryz.prog.info? 101).map (fun i => (i.zero, i.size, i.bytes)) = some (some (.agg #[.slice none 0 0, .int .i64 0, .int .i64 0, .int .i64 0, .int .i64 0, .int .i64 0]), 6, 64) := by kernel_rfl
theorem et_obs : ElemT Tryz.prog 44 101 6 64 := by
  obtain ⟨i0, hi0, hz0, hz1, hz2⟩ := info_parts inf_obs
  exact ⟨i0, _, Tryz.underlying44, hi0, hz0, hz1, hz2, rfl, by decide⟩
set_option maxHeartbeats 1000000 in
theorem cop_obs (w : World) (a : Option Addr) (n cap : Nat) (cs : List Value) (hn : n ≤ 1048576) (hl : cs.length = n * 6) (h1 : ∀ u ∈ cs, u.oneCell' = true) (h : Lies w a cs) :
    Calls Tryz.prog 83 #[.slice a n cap] w (Cop 101 6 n cs w) := by
  have ho := World.ownsRow_made w #[] (e := 101) (size := 6) 0 (Nat.le_refl _) (by decide) (by simp)
  have HO := Lib.hid (And.intro ho (And.intro hl (And.intro h1 (h.on (show Below w.heap.size w (w.alloc (.cells #[] 101)) from by go_grown)))))
  clear ho hl h1 h
  go_enter Tryz.func83, Tryz.ntmps83
  go_wp2_with (at_builtin; refine wpList_append_sl _ et_obs rfl _ _ rfl w.heap.size _ 0 _ [] rfl HO.out.1 a n cap cs rfl HO.out.2.1 HO.out.2.2.2 HO.out.2.2.1 ?c3 ?c4 ?c5 ?_)
  case c3 => unfold maxLen; omega
  case c4 => omega
  case c5 => simp
  intro a2 c2 w2 hown hgrow _
  have hB := ((Below.refl w.heap.size w).alloc (Nat.le_refl _) (.cells #[] 101)).grown hgrow (by simp) (fun q hq => by have := (HO.out.1.lt q hq).1; omega)
  have HX := Lib.hid (And.intro hown hB)
  clear hown hB hgrow
  go_wp2
  go_ret
  exact cop_of (by simpa using HX.out.1) HX.out.2
end Go.Proofs.YtaapofbccanjhaaGreat.Own
