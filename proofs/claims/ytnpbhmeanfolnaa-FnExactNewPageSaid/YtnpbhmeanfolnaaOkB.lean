/-
  Chapter 7: GraphicsOk, program and model.
-/
import Derived.Test.YtnpbhmeanfolnaaOkA
import Derived.Test.YtnpbhmeanfolnaaImpl5
import Derived.WalkKit
import Derived.Handy
import Derived.Lib.Hide
namespace Go.Proofs.Ytnpbhmeanfolnaa.Own
open Go.ChangeShapes Go.WideShapes Go.ChangeAt Go.RowKit
open Kit Slabs Ints Stack Point Turn
set_option linter.unusedVariables false
set_option linter.unusedSimpArgs false
set_option linter.unnecessarySimpa false
set_option maxRecDepth 100000

theorem gray_in (n : Int) (w : World) : Calls Try.prog 49 #[.int .i64 n, .int .i64 0, .int .i64 255] w fun e w' => e = .returned (.bool (grayB n)) ∧ Below w.heap.size w w' :=
  (in_any n 0 255 w).mono fun e w' h => ⟨h.1, h.2 ▸ Below.refl _ _⟩
theorem gray_any (n : Int) (w : World) : Calls Try.prog 73 #[.int .i64 n] w fun e w' => e = .returned (.bool (grayB n)) ∧ Below w.heap.size w w' :=
  (gray_impl n w).mono fun e w' h => ⟨h.1, h.2 ▸ Below.refl _ _⟩
theorem stok_b (w : World) (v : Value) (n : Nat) (X : Nat → Int) (hn : n ≤ 2000000) (h : Rd w v n X) : Calls Try.prog 21 #[v] w fun e w' => e = .returned (.bool (stB X n)) ∧ Below w.heap.size w w' :=
  (stok_spec w v n X hn h).mono fun e w' h => ⟨h.1, h.2 ▸ Below.refl _ _⟩
set_option maxHeartbeats 2000000 in
theorem gr_spec (w : World) {A : Array Value} {g : Gr} {fp : List Nat} (hb : bulkL g.dt ≤ 1048576) (h : OwnL w LGraphics A.toList g.dt fp) :
    Calls Try.prog 36 #[.agg A] w fun e w' => e = .returned (.bool (grB g)) ∧ Below w.heap.size w w' := by
  obtain ⟨a0, c0, a5, c5, f0, f5, hA, hf, o0, o5⟩ := inv_Graphics_ h
  simp only [Gr.dt, bulkL, Dt.bulk, len_dI, len_dP, bulk_dI, bulk_dP] at hb
  simp only [len_dI, len_dP] at hA o0 o5
  have HO := Lib.hid (And.intro o0 o5)
  have BA : Blk (w.alloc (.cells A 44)) w.heap.size A.toList := Blk.new w A 44 rfl
  rw [hA] at BA
  have HB0 := Lib.hid BA
  have HW0 : Hid (Below w.heap.size w (w.alloc (.cells A 44))) := Lib.hid (by go_grown)
  have ca0 : A[0]? = some (.slice a0 g.st.length c0) := by rw [← Array.getElem?_toList, hA]; rfl
  clear o0 o5 hA BA h
  go_enter Try.func36, Try.ntmps36
  go_wp2_with fail
  clear ca0
  ((with_reducible refine (stok_b _ _ _ _ (by omega) (rd_of (HO.out.1.under HW0.out))).mono ?_); rintro e w1 ⟨rfl, bb⟩)
  have HB1 := Lib.hid (HB0.out.keep bb)
  have HW1 := Lib.hid (on_of HW0.out bb)
  clear bb
  cases h1 : stB (xI g.st) g.st.length
  · have HS : Hid (grB g = false) := Lib.hid (by simp [grB, h1])
    clear h1
    go_wp2
    go_ret
    exact ⟨ret_bool HS.out.symm, HW1.out⟩
  · have HT1 := Lib.hid h1
    clear h1
    have cc1 := HB1.out.1 1 (.int .i64 g.q) rfl
    have cc2 := HB1.out.1 2 (.int .i64 g.s) rfl
    have cc3 := HB1.out.1 3 (.int .i64 g.dx) rfl
    have cc4 := HB1.out.1 4 (.int .i64 g.dy) rfl
    go_wp2_with fail
    clear cc1 cc2 cc3 cc4
    ((with_reducible refine (turn_spec _ _ _ _ _).mono ?_); rintro e w2 ⟨rfl, bb⟩)
    have HB2 := Lib.hid (HB1.out.keep bb)
    have HW2 := Lib.hid (on_of HW1.out bb)
    clear bb
    cases h2 : tokB g.q g.s g.dx g.dy
    · have HS : Hid (grB g = false) := Lib.hid (by simp [grB, HT1.out, h2])
      clear h2
      go_wp2
      go_ret
      exact ⟨ret_bool HS.out.symm, HW2.out⟩
    · have HT2 := Lib.hid h2
      clear h2
      have cc7 := HB2.out.1 7 (.int .i64 g.x0) rfl
      have cc8 := HB2.out.1 8 (.int .i64 g.y0) rfl
      have cc9 := HB2.out.1 9 (.int .i64 g.x1) rfl
      have cc10 := HB2.out.1 10 (.int .i64 g.y1) rfl
      go_wp2_with fail
      clear cc7 cc8 cc9 cc10
      ((with_reducible refine (bok_spec _ _ _ _ _).mono ?_); rintro e w3 ⟨rfl, bb⟩)
      have HB3 := Lib.hid (HB2.out.keep bb)
      have HW3 := Lib.hid (on_of HW2.out bb)
      clear bb
      cases h3 : bokB g.x0 g.y0 g.x1 g.y1
      · have HS : Hid (grB g = false) := Lib.hid (by simp [grB, HT1.out, HT2.out, h3])
        clear h3
        go_wp2
        go_ret
        exact ⟨ret_bool HS.out.symm, HW3.out⟩
      · have HT3 := Lib.hid h3
        clear h3
        have cc5 := HB3.out.1 5 (.slice a5 g.path.length c5) rfl
        go_wp2_with fail
        clear cc5
        ((with_reducible refine (pts_spec _ _ _ _ (by omega) (path_of (HO.out.2.under HW3.out)).2).mono ?_); rintro e w4 ⟨rfl, bb⟩)
        have HB4 := Lib.hid (HB3.out.keep bb)
        have HW4 := Lib.hid (on_of HW3.out bb)
        clear bb
        cases h4 : pathB g.path
        · have HS : Hid (grB g = false) := Lib.hid (by simp [grB, HT1.out, HT2.out, HT3.out, h4])
          clear h4
          go_wp2
          go_ret
          exact ⟨ret_bool HS.out.symm, HW4.out⟩
        · have HT4 := Lib.hid h4
          clear h4
          have cc6 := HB4.out.1 6 (.int .i64 g.gray) rfl
          go_wp2_with fail
          clear cc6
          ((with_reducible refine (gray_in _ _).mono ?_); rintro e w5 ⟨rfl, bb⟩)
          have HB5 := Lib.hid (HB4.out.keep bb)
          have HW5 := Lib.hid (on_of HW4.out bb)
          clear bb
          cases h5 : grayB g.gray
          · have HS : Hid (grB g = false) := Lib.hid (by simp [grB, HT1.out, HT2.out, HT3.out, HT4.out, h5])
            clear h5
            go_wp2
            go_ret
            exact ⟨ret_bool HS.out.symm, HW5.out⟩
          · have HT5 := Lib.hid h5
            clear h5
            go_wp2
            go_ret
            exact ⟨ret_bool (by simp [grB, HT1.out, HT2.out, HT3.out, HT4.out, HT5.out]), HW5.out⟩
set_option maxHeartbeats 2000000 in
theorem gr_impl (w : World) {A : Array Value} {g : Gr} {fp : List Nat} (hb : bulkL g.dt ≤ 1048576) (h : OwnL w LGraphics A.toList g.dt fp) :
    Calls Try.prog 38 #[.agg A] w fun e w' => e = .returned (.bool (grB g)) ∧ Below w.heap.size w w' := by
  obtain ⟨a0, c0, a5, c5, f0, f5, hA, hf, o0, o5⟩ := inv_Graphics_ h
  simp only [Gr.dt, bulkL, Dt.bulk, len_dI, len_dP, bulk_dI, bulk_dP] at hb
  simp only [len_dI, len_dP] at hA o0 o5
  have HO := Lib.hid (And.intro o0 o5)
  have BA : Blk (w.alloc (.cells A 44)) w.heap.size A.toList := Blk.new w A 44 rfl
  rw [hA] at BA
  have HB0 := Lib.hid BA
  have HW0 : Hid (Below w.heap.size w (w.alloc (.cells A 44))) := Lib.hid (by go_grown)
  have ca0 : A[0]? = some (.slice a0 g.st.length c0) := by rw [← Array.getElem?_toList, hA]; rfl
  clear o0 o5 hA BA h
  go_enter Try.func38, Try.ntmps38
  go_wp2_with fail
  clear ca0
  ((with_reducible refine (Impl.stok_impl _ _ _ _ (by omega) (rd_of (HO.out.1.under HW0.out))).mono ?_); rintro e w1 ⟨rfl, bb⟩)
  have HB1 := Lib.hid (HB0.out.keep bb)
  have HW1 := Lib.hid (on_of HW0.out bb)
  clear bb
  cases h1 : stB (xI g.st) g.st.length
  · have HS : Hid (grB g = false) := Lib.hid (by simp [grB, h1])
    clear h1
    go_wp2
    go_ret
    exact ⟨ret_bool HS.out.symm, HW1.out⟩
  · have HT1 := Lib.hid h1
    clear h1
    have cc1 := HB1.out.1 1 (.int .i64 g.q) rfl
    have cc2 := HB1.out.1 2 (.int .i64 g.s) rfl
    have cc3 := HB1.out.1 3 (.int .i64 g.dx) rfl
    have cc4 := HB1.out.1 4 (.int .i64 g.dy) rfl
    go_wp2_with fail
    clear cc1 cc2 cc3 cc4
    ((with_reducible refine (turn_impl _ _ _ _ _).mono ?_); rintro e w2 ⟨rfl, bb⟩)
    have HB2 := Lib.hid (HB1.out.keep bb)
    have HW2 := Lib.hid (on_of HW1.out bb)
    clear bb
    cases h2 : tokB g.q g.s g.dx g.dy
    · have HS : Hid (grB g = false) := Lib.hid (by simp [grB, HT1.out, h2])
      clear h2
      go_wp2
      go_ret
      exact ⟨ret_bool HS.out.symm, HW2.out⟩
    · have HT2 := Lib.hid h2
      clear h2
      have cc7 := HB2.out.1 7 (.int .i64 g.x0) rfl
      have cc8 := HB2.out.1 8 (.int .i64 g.y0) rfl
      have cc9 := HB2.out.1 9 (.int .i64 g.x1) rfl
      have cc10 := HB2.out.1 10 (.int .i64 g.y1) rfl
      go_wp2_with fail
      clear cc7 cc8 cc9 cc10
      ((with_reducible refine (bok_impl _ _ _ _ _).mono ?_); rintro e w3 ⟨rfl, bb⟩)
      have HB3 := Lib.hid (HB2.out.keep bb)
      have HW3 := Lib.hid (on_of HW2.out bb)
      clear bb
      cases h3 : bokB g.x0 g.y0 g.x1 g.y1
      · have HS : Hid (grB g = false) := Lib.hid (by simp [grB, HT1.out, HT2.out, h3])
        clear h3
        go_wp2
        go_ret
        exact ⟨ret_bool HS.out.symm, HW3.out⟩
      · have HT3 := Lib.hid h3
        clear h3
        have cc5 := HB3.out.1 5 (.slice a5 g.path.length c5) rfl
        go_wp2_with fail
        clear cc5
        ((with_reducible refine (path_impl _ _ _ _ (by omega) (path_of (HO.out.2.under HW3.out)).2).mono ?_); rintro e w4 ⟨rfl, bb⟩)
        have HB4 := Lib.hid (HB3.out.keep bb)
        have HW4 := Lib.hid (on_of HW3.out bb)
        clear bb
        cases h4 : pathB g.path
        · have HS : Hid (grB g = false) := Lib.hid (by simp [grB, HT1.out, HT2.out, HT3.out, h4])
          clear h4
          go_wp2
          go_ret
          exact ⟨ret_bool HS.out.symm, HW4.out⟩
        · have HT4 := Lib.hid h4
          clear h4
          have cc6 := HB4.out.1 6 (.int .i64 g.gray) rfl
          go_wp2_with fail
          clear cc6
          ((with_reducible refine (gray_any _ _).mono ?_); rintro e w5 ⟨rfl, bb⟩)
          have HB5 := Lib.hid (HB4.out.keep bb)
          have HW5 := Lib.hid (on_of HW4.out bb)
          clear bb
          cases h5 : grayB g.gray
          · have HS : Hid (grB g = false) := Lib.hid (by simp [grB, HT1.out, HT2.out, HT3.out, HT4.out, h5])
            clear h5
            go_wp2
            go_ret
            exact ⟨ret_bool HS.out.symm, HW5.out⟩
          · have HT5 := Lib.hid h5
            clear h5
            go_wp2
            go_ret
            exact ⟨ret_bool (by simp [grB, HT1.out, HT2.out, HT3.out, HT4.out, HT5.out]), HW5.out⟩

end Go.Proofs.Ytnpbhmeanfolnaa.Own
