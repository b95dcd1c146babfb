/-
  Texts of this seat, laid together: OkB, OkC
-/
import Derived.WalkKit
import Derived.Handy
import Derived.Lib.Hide
import Derived.Laws.EntriesVeiled
import Derived.Test.YtjmfgbbngocodaaGreatV17
import Derived.Test.YtjmfgbbngocodaaGreatV20
import Derived.Test.YtjmfgbbngocodaaGreatV15
namespace Go.Proofs.YtjmfgbbngocodaaGreat.Own
open Go.ChangeShapes Go.WideShapes Go.ChangeAt Go.RowKit
open Kit Slabs Ints Stack Point Turn
set_option linter.unusedVariables false
set_option linter.unusedSimpArgs false
set_option linter.unnecessarySimpa false
set_option maxRecDepth 100000
theorem gray_in (n : Int) (w : World) : Calls Tryz.prog 60 #[.int .i64 n, .int .i64 0, .int .i64 255] w fun e w' => e = .returned (.bool (grayB n)) ∧ Below w.heap.size w w' :=
  (in_any n 0 255 w).mono fun e w' h => ⟨h.1, h.2 ▸ Below.refl _ _⟩
theorem gray_any (n : Int) (w : World) : Calls Tryz.prog 116 #[.int .i64 n] w fun e w' => e = .returned (.bool (grayB n)) ∧ Below w.heap.size w w' :=
  (gray_impl n w).mono fun e w' h => ⟨h.1, h.2 ▸ Below.refl _ _⟩
theorem stok_b (w : World) (v : Value) (n : Nat) (X : Nat → Int) (hn : n ≤ 2000000) (h : Rd w v n X) : Calls Tryz.prog 65 #[v] w fun e w' => e = .returned (.bool (stB X n)) ∧ Below w.heap.size w w' :=
  (stok_spec w v n X hn h).mono fun e w' h => ⟨h.1, h.2 ▸ Below.refl _ _⟩
set_option maxHeartbeats 2000000 in
theorem gr_spec (w : World) {A : Array Value} {g : Gr} {fp : List Nat} (hb : bulkL g.dt ≤ 1048576) (h : OwnL w LGraphics A.toList g.dt fp) :
    Calls Tryz.prog 58 #[.agg A] w fun e w' => e = .returned (.bool (grB g)) ∧ Below w.heap.size w w' := by
  obtain ⟨a0, c0, a5, c5, f0, f5, hA, hf, o0, o5⟩ := inv_Graphics_ h
  simp only [Gr.dt, bulkL, Dt.bulk, len_dI, len_dP, bulk_dI, bulk_dP] at hb
  simp only [len_dI, len_dP] at hA o0 o5
  have HO := Lib.hid (And.intro o0 o5)
  have BA : Blk (w.alloc (.cells A 42)) w.heap.size A.toList := Blk.new w A 42 rfl
  rw [hA] at BA
  have HB0 := Lib.hid BA
  have HW0 : Hid (Below w.heap.size w (w.alloc (.cells A 42))) := Lib.hid (by go_grown)
  have ca0 : A[0]? = some (.slice a0 g.st.length c0) := by rw [← Array.getElem?_toList, hA]; rfl
  clear o0 o5 hA BA h
  go_enter Tryz.func58, Tryz.ntmps58
  go_wp2_with fail
  clear ca0
  ((with_reducible refine (stok_b _ _ _ _ (by omega) (rd_of (HO.out.1.under HW0.out))).mono ?_); rintro e w1 ⟨rfl, bb⟩)
  have HB1 := Lib.hid (HB0.out.keep bb)
  have HW1 := Lib.hid (on_of HW0.out bb)
  clear bb
  cases h1 : stB (xI g.st) g.st.length
  · have HS : Hid (grB g = false) := Lib.hid (by simp [grB, h1])
    clear h1
    go_wp2
    go_ret
    exact ⟨ret_bool HS.out.symm, HW1.out⟩
  · have HT1 := Lib.hid h1
    clear h1
    have cc1 := HB1.out.1 1 (.int .i64 g.q) rfl
    have cc2 := HB1.out.1 2 (.int .i64 g.s) rfl
    have cc3 := HB1.out.1 3 (.int .i64 g.dx) rfl
    have cc4 := HB1.out.1 4 (.int .i64 g.dy) rfl
    go_wp2_with fail
    clear cc1 cc2 cc3 cc4
    ((with_reducible refine (turn_spec _ _ _ _ _).mono ?_); rintro e w2 ⟨rfl, bb⟩)
    have HB2 := Lib.hid (HB1.out.keep bb)
    have HW2 := Lib.hid (on_of HW1.out bb)
    clear bb
    cases h2 : tokB g.q g.s g.dx g.dy
    · have HS : Hid (grB g = false) := Lib.hid (by simp [grB, HT1.out, h2])
      clear h2
      go_wp2
      go_ret
      exact ⟨ret_bool HS.out.symm, HW2.out⟩
    · have HT2 := Lib.hid h2
      clear h2
      have cc7 := HB2.out.1 7 (.int .i64 g.x0) rfl
      have cc8 := HB2.out.1 8 (.int .i64 g.y0) rfl
      have cc9 := HB2.out.1 9 (.int .i64 g.x1) rfl
      have cc10 := HB2.out.1 10 (.int .i64 g.y1) rfl
      go_wp2_with fail
      clear cc7 cc8 cc9 cc10
      ((with_reducible refine (bok_spec _ _ _ _ _).mono ?_); rintro e w3 ⟨rfl, bb⟩)
      have HB3 := Lib.hid (HB2.out.keep bb)
      have HW3 := Lib.hid (on_of HW2.out bb)
      clear bb
      cases h3 : bokB g.x0 g.y0 g.x1 g.y1
      · have HS : Hid (grB g = false) := Lib.hid (by simp [grB, HT1.out, HT2.out, h3])
        clear h3
        go_wp2
        go_ret
        exact ⟨ret_bool HS.out.symm, HW3.out⟩
      · have HT3 := Lib.hid h3
        clear h3
        have cc5 := HB3.out.1 5 (.slice a5 g.path.length c5) rfl
        go_wp2_with fail
        clear cc5
        ((with_reducible refine (pts_spec _ _ _ _ (by omega) (path_of (HO.out.2.under HW3.out)).2).mono ?_); rintro e w4 ⟨rfl, bb⟩)
        have HB4 := Lib.hid (HB3.out.keep bb)
        have HW4 := Lib.hid (on_of HW3.out bb)
        clear bb
        cases h4 : pathB g.path
        · have HS : Hid (grB g = false) := Lib.hid (by simp [grB, HT1.out, HT2.out, HT3.out, h4])
          clear h4
          go_wp2
          go_ret
          exact ⟨ret_bool HS.out.symm, HW4.out⟩
        · have HT4 := Lib.hid h4
          clear h4
          have cc6 := HB4.out.1 6 (.int .i64 g.gray) rfl
          go_wp2_with fail
          clear cc6
          ((with_reducible refine (gray_in _ _).mono ?_); rintro e w5 ⟨rfl, bb⟩)
          have HB5 := Lib.hid (HB4.out.keep bb)
          have HW5 := Lib.hid (on_of HW4.out bb)
          clear bb
          cases h5 : grayB g.gray
          · have HS : Hid (grB g = false) := Lib.hid (by simp [grB, HT1.out, HT2.out, HT3.out, HT4.out, h5])
            clear h5
            go_wp2
            go_ret
            exact ⟨ret_bool HS.out.symm, HW5.out⟩
          · have HT5 := Lib.hid h5
            clear h5
            go_wp2
            go_ret
            exact ⟨ret_bool (by simp [grB, HT1.out, HT2.out, HT3.out, HT4.out, HT5.out]), HW5.out⟩
set_option maxHeartbeats 2000000 in
theorem gr_impl (w : World) {A : Array Value} {g : Gr} {fp : List Nat} (hb : bulkL g.dt ≤ 1048576) (h : OwnL w LGraphics A.toList g.dt fp) :
    Calls Tryz.prog 76 #[.agg A] w fun e w' => e = .returned (.bool (grB g)) ∧ Below w.heap.size w w' := by
  obtain ⟨a0, c0, a5, c5, f0, f5, hA, hf, o0, o5⟩ := inv_Graphics_ h
  simp only [Gr.dt, bulkL, Dt.bulk, len_dI, len_dP, bulk_dI, bulk_dP] at hb
  simp only [len_dI, len_dP] at hA o0 o5
  have HO := Lib.hid (And.intro o0 o5)
  have BA : Blk (w.alloc (.cells A 42)) w.heap.size A.toList := Blk.new w A 42 rfl
  rw [hA] at BA
  have HB0 := Lib.hid BA
  have HW0 : Hid (Below w.heap.size w (w.alloc (.cells A 42))) := Lib.hid (by go_grown)
  have ca0 : A[0]? = some (.slice a0 g.st.length c0) := by rw [← Array.getElem?_toList, hA]; rfl
  clear o0 o5 hA BA h
  go_enter Tryz.func76, Tryz.ntmps76
  go_wp2_with fail
  clear ca0
  ((with_reducible refine (Impl.stok_impl _ _ _ _ (by omega) (rd_of (HO.out.1.under HW0.out))).mono ?_); rintro e w1 ⟨rfl, bb⟩)
  have HB1 := Lib.hid (HB0.out.keep bb)
  have HW1 := Lib.hid (on_of HW0.out bb)
  clear bb
  cases h1 : stB (xI g.st) g.st.length
  · have HS : Hid (grB g = false) := Lib.hid (by simp [grB, h1])
    clear h1
    go_wp2
    go_ret
    exact ⟨ret_bool HS.out.symm, HW1.out⟩
  · have HT1 := Lib.hid h1
    clear h1
    have cc1 := HB1.out.1 1 (.int .i64 g.q) rfl
    have cc2 := HB1.out.1 2 (.int .i64 g.s) rfl
    have cc3 := HB1.out.1 3 (.int .i64 g.dx) rfl
    have cc4 := HB1.out.1 4 (.int .i64 g.dy) rfl
    go_wp2_with fail
    clear cc1 cc2 cc3 cc4
    ((with_reducible refine (turn_impl _ _ _ _ _).mono ?_); rintro e w2 ⟨rfl, bb⟩)
    have HB2 := Lib.hid (HB1.out.keep bb)
    have HW2 := Lib.hid (on_of HW1.out bb)
    clear bb
    cases h2 : tokB g.q g.s g.dx g.dy
    · have HS : Hid (grB g = false) := Lib.hid (by simp [grB, HT1.out, h2])
      clear h2
      go_wp2
      go_ret
      exact ⟨ret_bool HS.out.symm, HW2.out⟩
    · have HT2 := Lib.hid h2
      clear h2
      have cc7 := HB2.out.1 7 (.int .i64 g.x0) rfl
      have cc8 := HB2.out.1 8 (.int .i64 g.y0) rfl
      have cc9 := HB2.out.1 9 (.int .i64 g.x1) rfl
      have cc10 := HB2.out.1 10 (.int .i64 g.y1) rfl
      go_wp2_with fail
      clear cc7 cc8 cc9 cc10
      ((with_reducible refine (bok_impl _ _ _ _ _).mono ?_); rintro e w3 ⟨rfl, bb⟩)
      have HB3 := Lib.hid (HB2.out.keep bb)
      have HW3 := Lib.hid (on_of HW2.out bb)
      clear bb
      cases h3 : bokB g.x0 g.y0 g.x1 g.y1
      · have HS : Hid (grB g = false) := Lib.hid (by simp [grB, HT1.out, HT2.out, h3])
        clear h3
        go_wp2
        go_ret
        exact ⟨ret_bool HS.out.symm, HW3.out⟩
      · have HT3 := Lib.hid h3
        clear h3
        have cc5 := HB3.out.1 5 (.slice a5 g.path.length c5) rfl
        go_wp2_with fail
        clear cc5
        ((with_reducible refine (path_impl _ _ _ _ (by omega) (path_of (HO.out.2.under HW3.out)).2).mono ?_); rintro e w4 ⟨rfl, bb⟩)
        have HB4 := Lib.hid (HB3.out.keep bb)
        have HW4 := Lib.hid (on_of HW3.out bb)
        clear bb
        cases h4 : pathB g.path
        · have HS : Hid (grB g = false) := Lib.hid (by simp [grB, HT1.out, HT2.out, HT3.out, h4])
          clear h4
          go_wp2
          go_ret
          exact ⟨ret_bool HS.out.symm, HW4.out⟩
        · have HT4 := Lib.hid h4
          clear h4
          have cc6 := HB4.out.1 6 (.int .i64 g.gray) rfl
          go_wp2_with fail
          clear cc6
          ((with_reducible refine (gray_any _ _).mono ?_); rintro e w5 ⟨rfl, bb⟩)
          have HB5 := Lib.hid (HB4.out.keep bb)
          have HW5 := Lib.hid (on_of HW4.out bb)
          clear bb
          cases h5 : grayB g.gray
          · have HS : Hid (grB g = false) := Lib.hid (by simp [grB, HT1.out, HT2.out, HT3.out, HT4.out, h5])
            clear h5
            go_wp2
            go_ret
            exact ⟨ret_bool HS.out.symm, HW5.out⟩
          · have HT5 := Lib.hid h5
            clear h5
            go_wp2
            go_ret
            exact ⟨ret_bool (by simp [grB, HT1.out, HT2.out, HT3.out, HT4.out, HT5.out]), HW5.out⟩
end Go.Proofs.YtjmfgbbngocodaaGreat.Own

namespace Go.Proofs.YtjmfgbbngocodaaGreat.Own
open Go.ChangeShapes Go.WideShapes Go.ChangeAt Go.RowKit
open Kit Slabs Ints Stack Point Turn
set_option linter.unusedVariables false
set_option linter.unusedSimpArgs false
set_option linter.unnecessarySimpa false
set_option maxRecDepth 100000
attribute [local go_sem ↓] hload_Graphics hload_Object hstore_Graphics hstore_Object
set_option maxHeartbeats 2000000 in
theorem ob_yes_spec (w : World) {A : Array Value} {o : Ob} {fp : List Nat} (h3 : 3 ≤ o.path.length) (hb : bulkL o.dt ≤ 1048576) (h : OwnL w LObject A.toList o.dt fp) :
    Calls Tryz.prog 59 #[.agg A] w fun e w' => e = .returned (.bool (obB o)) ∧ Below w.heap.size w w' := by
  obtain ⟨a0, c0, f0, hA, hf, o0⟩ := inv_Object_ h
  simp only [Ob.dt, bulkL, Dt.bulk, len_dI, len_dP, bulk_dI, bulk_dP] at hb
  simp only [len_dI, len_dP] at hA o0
  have HO := Lib.hid (And.intro o0 trivial)
  have BA : Blk (w.alloc (.cells A 101)) w.heap.size A.toList := Blk.new w A 101 rfl
  rw [hA] at BA
  have HB0 := Lib.hid BA
  have HW0 : Hid (Below w.heap.size w (w.alloc (.cells A 101))) := Lib.hid (by go_grown)
  have ca0 : A[0]? = some (.slice a0 o.path.length c0) := by rw [← Array.getElem?_toList, hA]; rfl
  clear o0 hA BA h
  have h3i : (3 : Int) ≤ (o.path.length : Int) := by omega
  go_enter Tryz.func59, Tryz.ntmps59
  go_wp2_with fail
  clear ca0
  ((with_reducible refine (pts_spec _ _ _ _ (by omega) (path_of (HO.out.1.under HW0.out)).2).mono ?_); rintro e w1 ⟨rfl, bb⟩)
  have HB1 := Lib.hid (HB0.out.keep bb)
  have HW1 := Lib.hid (on_of HW0.out bb)
  clear bb
  cases h1 : pathB o.path
  · have HS : Hid (obB o = false) := Lib.hid (by simp [obB, h3, h1])
    clear h1
    go_wp2
    go_ret
    exact ⟨ret_bool HS.out.symm, HW1.out⟩
  · have HT1 := Lib.hid h1
    clear h1
    have cc1 := HB1.out.1 1 (.int .i64 o.gray) rfl
    go_wp2_with fail
    clear cc1
    ((with_reducible refine (gray_in _ _).mono ?_); rintro e w2 ⟨rfl, bb⟩)
    have HB2 := Lib.hid (HB1.out.keep bb)
    have HW2 := Lib.hid (on_of HW1.out bb)
    clear bb
    cases h2 : grayB o.gray
    · have HS : Hid (obB o = false) := Lib.hid (by simp [obB, h3, HT1.out, h2])
      clear h2
      go_wp2
      go_ret
      exact ⟨ret_bool HS.out.symm, HW2.out⟩
    · have HT2 := Lib.hid h2
      clear h2
      have cc2 := HB2.out.1 2 (.int .i64 o.x0) rfl
      have cc3 := HB2.out.1 3 (.int .i64 o.y0) rfl
      have cc4 := HB2.out.1 4 (.int .i64 o.x1) rfl
      have cc5 := HB2.out.1 5 (.int .i64 o.y1) rfl
      go_wp2_with fail
      clear cc2 cc3 cc4 cc5
      ((with_reducible refine (bok_spec _ _ _ _ _).mono ?_); rintro e w3 ⟨rfl, bb⟩)
      have HB3 := Lib.hid (HB2.out.keep bb)
      have HW3 := Lib.hid (on_of HW2.out bb)
      clear bb
      cases h3 : bokB o.x0 o.y0 o.x1 o.y1
      · have HS : Hid (obB o = false) := Lib.hid (by simp [obB, h3, HT1.out, HT2.out, h3])
        clear h3
        go_wp2
        go_ret
        exact ⟨ret_bool HS.out.symm, HW3.out⟩
      · have HT3 := Lib.hid h3
        clear h3
        go_wp2
        go_ret
        exact ⟨ret_bool (by simp [obB, h3, HT1.out, HT2.out, HT3.out]), HW3.out⟩
theorem ob_no_spec (w : World) {A : Array Value} {o : Ob} {fp : List Nat} (h3 : ¬ 3 ≤ o.path.length) (h : OwnL w LObject A.toList o.dt fp) :
    Calls Tryz.prog 59 #[.agg A] w fun e w' => e = .returned (.bool (obB o)) ∧ Below w.heap.size w w' := by
  obtain ⟨a0, c0, f0, hA, hf, o0⟩ := inv_Object_ h
  simp only [len_dP] at hA
  have ca0 : A[0]? = some (.slice a0 o.path.length c0) := by rw [← Array.getElem?_toList, hA]; rfl
  have h3i : ¬ (3 : Int) ≤ (o.path.length : Int) := by omega
  have H3 := Lib.hid h3
  clear o0 hA h h3
  go_enter Tryz.func59, Tryz.ntmps59
  go_wp2
  go_ret
  exact ⟨ret_bool (by simp [obB, H3.out]), by go_grown⟩
theorem ob_spec (w : World) {A : Array Value} {o : Ob} {fp : List Nat} (hb : bulkL o.dt ≤ 1048576) (h : OwnL w LObject A.toList o.dt fp) :
    Calls Tryz.prog 59 #[.agg A] w fun e w' => e = .returned (.bool (obB o)) ∧ Below w.heap.size w w' := by
  by_cases h3 : 3 ≤ o.path.length
  · exact ob_yes_spec w h3 hb h
  · exact ob_no_spec w h3 h
set_option maxHeartbeats 2000000 in
theorem ob_yes_impl (w : World) {A : Array Value} {o : Ob} {fp : List Nat} (h3 : 3 ≤ o.path.length) (hb : bulkL o.dt ≤ 1048576) (h : OwnL w LObject A.toList o.dt fp) :
    Calls Tryz.prog 79 #[.agg A] w fun e w' => e = .returned (.bool (obB o)) ∧ Below w.heap.size w w' := by
  obtain ⟨a0, c0, f0, hA, hf, o0⟩ := inv_Object_ h
  simp only [Ob.dt, bulkL, Dt.bulk, len_dI, len_dP, bulk_dI, bulk_dP] at hb
  simp only [len_dI, len_dP] at hA o0
  have HO := Lib.hid (And.intro o0 trivial)
  have BA : Blk (w.alloc (.cells A 101)) w.heap.size A.toList := Blk.new w A 101 rfl
  rw [hA] at BA
  have HB0 := Lib.hid BA
  have HW0 : Hid (Below w.heap.size w (w.alloc (.cells A 101))) := Lib.hid (by go_grown)
  have ca0 : A[0]? = some (.slice a0 o.path.length c0) := by rw [← Array.getElem?_toList, hA]; rfl
  clear o0 hA BA h
  have h3i : (3 : Int) ≤ (o.path.length : Int) := by omega
  go_enter Tryz.func79, Tryz.ntmps79
  go_wp2_with fail
  clear ca0
  ((with_reducible refine (path_impl _ _ _ _ (by omega) (path_of (HO.out.1.under HW0.out)).2).mono ?_); rintro e w1 ⟨rfl, bb⟩)
  have HB1 := Lib.hid (HB0.out.keep bb)
  have HW1 := Lib.hid (on_of HW0.out bb)
  clear bb
  cases h1 : pathB o.path
  · have HS : Hid (obB o = false) := Lib.hid (by simp [obB, h3, h1])
    clear h1
    go_wp2
    go_ret
    exact ⟨ret_bool HS.out.symm, HW1.out⟩
  · have HT1 := Lib.hid h1
    clear h1
    have cc1 := HB1.out.1 1 (.int .i64 o.gray) rfl
    go_wp2_with fail
    clear cc1
    ((with_reducible refine (gray_any _ _).mono ?_); rintro e w2 ⟨rfl, bb⟩)
    have HB2 := Lib.hid (HB1.out.keep bb)
    have HW2 := Lib.hid (on_of HW1.out bb)
    clear bb
    cases h2 : grayB o.gray
    · have HS : Hid (obB o = false) := Lib.hid (by simp [obB, h3, HT1.out, h2])
      clear h2
      go_wp2
      go_ret
      exact ⟨ret_bool HS.out.symm, HW2.out⟩
    · have HT2 := Lib.hid h2
      clear h2
      have cc2 := HB2.out.1 2 (.int .i64 o.x0) rfl
      have cc3 := HB2.out.1 3 (.int .i64 o.y0) rfl
      have cc4 := HB2.out.1 4 (.int .i64 o.x1) rfl
      have cc5 := HB2.out.1 5 (.int .i64 o.y1) rfl
      go_wp2_with fail
      clear cc2 cc3 cc4 cc5
      ((with_reducible refine (bok_impl _ _ _ _ _).mono ?_); rintro e w3 ⟨rfl, bb⟩)
      have HB3 := Lib.hid (HB2.out.keep bb)
      have HW3 := Lib.hid (on_of HW2.out bb)
      clear bb
      cases h3 : bokB o.x0 o.y0 o.x1 o.y1
      · have HS : Hid (obB o = false) := Lib.hid (by simp [obB, h3, HT1.out, HT2.out, h3])
        clear h3
        go_wp2
        go_ret
        exact ⟨ret_bool HS.out.symm, HW3.out⟩
      · have HT3 := Lib.hid h3
        clear h3
        go_wp2
        go_ret
        exact ⟨ret_bool (by simp [obB, h3, HT1.out, HT2.out, HT3.out]), HW3.out⟩
theorem ob_no_impl (w : World) {A : Array Value} {o : Ob} {fp : List Nat} (h3 : ¬ 3 ≤ o.path.length) (h : OwnL w LObject A.toList o.dt fp) :
    Calls Tryz.prog 79 #[.agg A] w fun e w' => e = .returned (.bool (obB o)) ∧ Below w.heap.size w w' := by
  obtain ⟨a0, c0, f0, hA, hf, o0⟩ := inv_Object_ h
  simp only [len_dP] at hA
  have ca0 : A[0]? = some (.slice a0 o.path.length c0) := by rw [← Array.getElem?_toList, hA]; rfl
  have h3i : ¬ (3 : Int) ≤ (o.path.length : Int) := by omega
  have H3 := Lib.hid h3
  clear o0 hA h h3
  go_enter Tryz.func79, Tryz.ntmps79
  go_wp2
  go_ret
  exact ⟨ret_bool (by simp [obB, H3.out]), by go_grown⟩
theorem ob_impl (w : World) {A : Array Value} {o : Ob} {fp : List Nat} (hb : bulkL o.dt ≤ 1048576) (h : OwnL w LObject A.toList o.dt fp) :
    Calls Tryz.prog 79 #[.agg A] w fun e w' => e = .returned (.bool (obB o)) ∧ Below w.heap.size w w' := by
  by_cases h3 : 3 ≤ o.path.length
  · exact ob_yes_impl w h3 hb h
  · exact ob_no_impl w h3 h
theorem elt_Graphics {w : World} {a : Option Addr} {n c : Nat} {l : List Gr} {fp : List Nat} (h : Own w (.sl KGraphics) [.slice a n c] (.sl (dG l)) fp) {k : Nat} (hk : k < l.length) :
    ∃ g C fq, a = some ⟨g, 0, none⟩ ∧ g < w.heap.size ∧ OwnL w LGraphics C.toList l[k].dt fq ∧ (∀ b ∈ fq, b ∈ fp) ∧ bulkL l[k].dt ≤ bulkL (dG l) ∧ ∀ W, Below w.heap.size w W → (hload 42 ⟨g, k * 11, none⟩).run Tryz.prog W = .ok (.agg C) W := by
  have hk' : k < (dG l).length := by rw [len_dG]; exact hk
  obtain ⟨hl, hr⟩ := h.row
  obtain ⟨g, rfl, _⟩ := hr (by omega)
  obtain ⟨hg, _, cs, ds, fq, e, o, hcl, hm, hc⟩ := h.elt hk'
  have e2 : (dG l)[k] = .st l[k].dt := by simp [dG]
  have hbk := bulk_elt hk'
  rw [e2] at e hbk
  injection e with e
  subst e
  refine ⟨g, cs.toArray, fq, rfl, hg, by simpa using o, hm, by simpa [Dt.bulk] using hbk, fun W hW => ?_⟩
  exact hload_run (P := Tryz.prog) (t := 42) Tryz.isAgg42 Tryz.sizeOf42 (w := W) (b := g) (o := k * 11) (us := cs) (fun j v hv => hc W hW j v hv) hcl
set_option maxHeartbeats 2000000 in
theorem all_Graphics (w : World) (a : Option Addr) (c : Nat) (l : List Gr) {fp : List Nat} (hb : l.length + bulkL (dG l) ≤ 1048576) (h : Own w (.sl KGraphics) [.slice a l.length c] (.sl (dG l)) fp) :
    Calls Tryz.prog 77 #[.slice a l.length c, .func (.func 76) #[] #[]] w fun e w' => e = .returned (.bool (l.all grB)) ∧ Below w.heap.size w w' := by
  obtain ⟨n, hN⟩ : ∃ n, l.length = n := ⟨_, rfl⟩
  have HN := Lib.hid (And.intro hN hb)
  have HP := Lib.hid h
  have hn : n ≤ 1048576 := by omega
  rw [hN]
  clear hN hb h
  go_enter Tryz.func77, Tryz.ntmps77
  go_wp2
  go_loopw [9] (fun v9 wr => ∃ k : Nat, k ≤ n ∧ v9 = .int .i64 (k : Int) ∧ Hid (∀ i (hi : i < l.length), i < k → grB l[i] = true) ∧ Below w.heap.size w wr) (fun v9 _ => n - (intOf v9).toNat)
  case atStart => exact ⟨0, Nat.zero_le _, rfl, Lib.hid (fun i hi h => absurd h (Nat.not_lt_zero i)), Below.refl _ _⟩
  case round =>
    obtain ⟨k, hk, rfl, hg, hB⟩ := hrel
    by_cases hlt : k < n
    · have hkl : k < l.length := by rw [HN.out.1]; exact hlt
      obtain ⟨g, C, fq, rfl, hgl, oC, _, hbk, hld⟩ := elt_Graphics HP.out hkl
      have L1 := hld wr hB
      have i0 : (0 : Int) ≤ (k : Int) := by omega
      have i1 : (k : Int) < (n : Int) := by omega
      obtain ⟨E, st, BX, cx, zx⟩ := var_new (P := Tryz.prog) (T := 42) Tryz.sizeOf42 wr #[.slice none 0 0, .int .i64 0, .int .i64 0, .int .i64 0, .int .i64 0, .slice none 0 0, .int .i64 0, .int .i64 0, .int .i64 0, .int .i64 0, .int .i64 0] rfl oC rfl
      have L2 := var_load (P := Tryz.prog) (T := 42) Tryz.isAgg42 Tryz.sizeOf42 BX oC rfl
      have hbb : bulkL l[k].dt ≤ 1048576 := by have := HN.out.2; omega
      have HK := Lib.hid (And.intro oC (And.intro (on_of hB cx) hbb))
      clear oC hbk hbb hld BX cx hB
      go_wp2_with fail
      clear L1 L2 st
      ((with_reducible refine (gr_impl _ HK.out.2.2 (HK.out.1.under HK.out.2.1)).mono ?_); rintro e w1 ⟨rfl, bb⟩)
      have HB1 := Lib.hid (on_of HK.out.2.1 bb)
      clear bb
      cases hp : grB (l[k]'hkl)
      · have HS := Lib.hid (all_bad hkl hp)
        clear hp
        go_wp2
        go_ret
        exact ⟨ret_bool HS.out.symm, HB1.out⟩
      · have hyes : ∀ i (hi : i < l.length), i < k + 1 → grB l[i] = true := fun i hi h => by
          by_cases e : i = k
          · subst e; exact hp
          · exact hg.out i hi (by omega)
        have HS := Lib.hid hyes
        clear hyes hp
        go_wp2
        go_roundw
        case rel => exact ⟨k + 1, by omega, by go_num, HS, HB1.out⟩
        case measure => simp [intOf]; omega
    · obtain rfl : k = n := by omega
      have HB := Lib.hid hB
      clear hB
      go_wp2
      go_ret
      exact ⟨ret_bool (all_good (fun i hi => hg.out i hi (by rw [← HN.out.1]; exact hi))).symm, HB.out⟩
theorem elt_Object {w : World} {a : Option Addr} {n c : Nat} {l : List Ob} {fp : List Nat} (h : Own w (.sl KObject) [.slice a n c] (.sl (dO l)) fp) {k : Nat} (hk : k < l.length) :
    ∃ g C fq, a = some ⟨g, 0, none⟩ ∧ g < w.heap.size ∧ OwnL w LObject C.toList l[k].dt fq ∧ (∀ b ∈ fq, b ∈ fp) ∧ bulkL l[k].dt ≤ bulkL (dO l) ∧ ∀ W, Below w.heap.size w W → (hload 101 ⟨g, k * 6, none⟩).run Tryz.prog W = .ok (.agg C) W := by
  have hk' : k < (dO l).length := by rw [len_dO]; exact hk
  obtain ⟨hl, hr⟩ := h.row
  obtain ⟨g, rfl, _⟩ := hr (by omega)
  obtain ⟨hg, _, cs, ds, fq, e, o, hcl, hm, hc⟩ := h.elt hk'
  have e2 : (dO l)[k] = .st l[k].dt := by simp [dO]
  have hbk := bulk_elt hk'
  rw [e2] at e hbk
  injection e with e
  subst e
  refine ⟨g, cs.toArray, fq, rfl, hg, by simpa using o, hm, by simpa [Dt.bulk] using hbk, fun W hW => ?_⟩
  exact hload_run (P := Tryz.prog) (t := 101) Tryz.isAgg101 Tryz.sizeOf101 (w := W) (b := g) (o := k * 6) (us := cs) (fun j v hv => hc W hW j v hv) hcl
set_option maxHeartbeats 2000000 in
theorem all_Object (w : World) (a : Option Addr) (c : Nat) (l : List Ob) {fp : List Nat} (hb : l.length + bulkL (dO l) ≤ 1048576) (h : Own w (.sl KObject) [.slice a l.length c] (.sl (dO l)) fp) :
    Calls Tryz.prog 78 #[.slice a l.length c, .func (.func 79) #[] #[]] w fun e w' => e = .returned (.bool (l.all obB)) ∧ Below w.heap.size w w' := by
  obtain ⟨n, hN⟩ : ∃ n, l.length = n := ⟨_, rfl⟩
  have HN := Lib.hid (And.intro hN hb)
  have HP := Lib.hid h
  have hn : n ≤ 1048576 := by omega
  rw [hN]
  clear hN hb h
  go_enter Tryz.func78, Tryz.ntmps78
  go_wp2
  go_loopw [9] (fun v9 wr => ∃ k : Nat, k ≤ n ∧ v9 = .int .i64 (k : Int) ∧ Hid (∀ i (hi : i < l.length), i < k → obB l[i] = true) ∧ Below w.heap.size w wr) (fun v9 _ => n - (intOf v9).toNat)
  case atStart => exact ⟨0, Nat.zero_le _, rfl, Lib.hid (fun i hi h => absurd h (Nat.not_lt_zero i)), Below.refl _ _⟩
  case round =>
    obtain ⟨k, hk, rfl, hg, hB⟩ := hrel
    by_cases hlt : k < n
    · have hkl : k < l.length := by rw [HN.out.1]; exact hlt
      obtain ⟨g, C, fq, rfl, hgl, oC, _, hbk, hld⟩ := elt_Object HP.out hkl
      have L1 := hld wr hB
      have i0 : (0 : Int) ≤ (k : Int) := by omega
      have i1 : (k : Int) < (n : Int) := by omega
      obtain ⟨E, st, BX, cx, zx⟩ := var_new (P := Tryz.prog) (T := 101) Tryz.sizeOf101 wr #[.slice none 0 0, .int .i64 0, .int .i64 0, .int .i64 0, .int .i64 0, .int .i64 0] rfl oC rfl
      have L2 := var_load (P := Tryz.prog) (T := 101) Tryz.isAgg101 Tryz.sizeOf101 BX oC rfl
      have hbb : bulkL l[k].dt ≤ 1048576 := by have := HN.out.2; omega
      have HK := Lib.hid (And.intro oC (And.intro (on_of hB cx) hbb))
      clear oC hbk hbb hld BX cx hB
      go_wp2_with fail
      clear L1 L2 st
      ((with_reducible refine (ob_impl _ HK.out.2.2 (HK.out.1.under HK.out.2.1)).mono ?_); rintro e w1 ⟨rfl, bb⟩)
      have HB1 := Lib.hid (on_of HK.out.2.1 bb)
      clear bb
      cases hp : obB (l[k]'hkl)
      · have HS := Lib.hid (all_bad hkl hp)
        clear hp
        go_wp2
        go_ret
        exact ⟨ret_bool HS.out.symm, HB1.out⟩
      · have hyes : ∀ i (hi : i < l.length), i < k + 1 → obB l[i] = true := fun i hi h => by
          by_cases e : i = k
          · subst e; exact hp
          · exact hg.out i hi (by omega)
        have HS := Lib.hid hyes
        clear hyes hp
        go_wp2
        go_roundw
        case rel => exact ⟨k + 1, by omega, by go_num, HS, HB1.out⟩
        case measure => simp [intOf]; omega
    · obtain rfl : k = n := by omega
      have HB := Lib.hid hB
      clear hB
      go_wp2
      go_ret
      exact ⟨ret_bool (all_good (fun i hi => hg.out i hi (by rw [← HN.out.1]; exact hi))).symm, HB.out⟩
end Go.Proofs.YtjmfgbbngocodaaGreat.Own

