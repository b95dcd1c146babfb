/-
  Texts of this seat, laid together: Fi10, Vb10, Ob10
-/
import Derived.Deep.RegionHeld3
import Derived.Deep.DeepCutAuto
import Derived.Test.YtbdjnfnphilklaaM20
import Derived.Test.YtbdjnfnphilklaaM04
import Derived.Test.YtbdjnfnphilklaaM15
import Derived.Test.YtbdjnfnphilklaaM13
import Derived.Test.YtbdjnfnphilklaaM05
namespace Go.Proofs.Ytbdjnfnphilklaa.Ins
open Go.ChangeShapes Go.WideShapes Go.ChangeAt Go.RowKit
open Kit Point
open Go.Proofs.Ytbdjnfnphilklaa.Own (Blk Ob grayB)
set_option linter.unusedVariables false
set_option linter.unusedSimpArgs false
set_option linter.unnecessarySimpa false
def obK (l : List Pt) (g x0 y0 x1 y1 : Int) : Bool := decide (3 ≤ l.length) && pathB l && grayB g && bokB x0 y0 x1 y1
theorem obK_is (o : Ob) : Own.obB o = obK o.path o.gray o.x0 o.y0 o.x1 o.y1 := rfl
theorem gray_impl (n : Int) (w : World) : Calls Try.prog 96 #[.int .i64 n] w fun e w' => e = .returned (.bool (grayB n)) ∧ Below w.heap.size w w' := by
  by_cases h1 : 0 ≤ n <;> by_cases h2 : n ≤ 255
  all_goals
    go_enter Try.func96, Try.ntmps96
    go_wp2
    go_ret
    exact ⟨ret_bool (by simp [grayB, h1, h2]), by go_grown⟩
theorem gray_spec (n : Int) (w : World) : Calls Try.prog 75 #[.int .i64 n, .int .i64 0, .int .i64 255] w fun e w' => e = .returned (.bool (grayB n)) ∧ Below w.heap.size w w' :=
  (in_any n 0 255 w).mono fun e w' h => ⟨h.1, h.2 ▸ Below.refl _ _⟩
set_option maxHeartbeats 2000000 in
theorem fill_yes_impl (w : World) (a : Option Addr) (c : Nat) (l : List Pt) (g x0 y0 x1 y1 : Int) (h3 : 3 ≤ l.length) (hn : l.length ≤ 1048576) (h : PathAt w a l) :
    Calls Try.prog 66 #[.agg #[.slice a l.length c, .int .i64 g, .int .i64 x0, .int .i64 y0, .int .i64 x1, .int .i64 y1]] w fun e w' => e = .returned (.bool (obK l g x0 y0 x1 y1)) ∧ Below w.heap.size w w' := by
  have HB0 := Lib.hid (Blk.new w #[.slice a l.length c, .int .i64 g, .int .i64 x0, .int .i64 y0, .int .i64 x1, .int .i64 y1] 40 rfl)
  have HW0 : Hid (Below w.heap.size w (w.alloc (.cells #[.slice a l.length c, .int .i64 g, .int .i64 x0, .int .i64 y0, .int .i64 x1, .int .i64 y1] 40))) := Lib.hid (by go_grown)
  have HP := Lib.hid (h.on HW0.out)
  have h3i : (3 : Int) ≤ (l.length : Int) := by omega
  have HN := Lib.hid (And.intro h3 hn)
  have HC : Hid (∀ W, PathAt W a l → Calls Try.prog 95 #[.slice a l.length c] W fun e w' => e = .returned (.bool (pathB l)) ∧ Below W.heap.size W w') := Lib.hid (fun W h => path_impl W a c l HN.out.2 h)
  clear h h3 hn
  go_enter Try.func66, Try.ntmps66
  go_wp2_with fail
  ((with_reducible refine (HC.out _ HP.out).mono ?_); rintro e w1 ⟨rfl, bb⟩)
  have HB1 := Lib.hid (HB0.out.keep bb)
  have HW1 := Lib.hid (on_of HW0.out bb)
  clear bb
  cases h1 : pathB l
  · have HS : Hid (obK l g x0 y0 x1 y1 = false) := Lib.hid (by simp [obK, h1])
    clear h1
    go_wp2
    go_ret
    exact ⟨ret_bool HS.out.symm, HW1.out⟩
  · have HT1 := Lib.hid h1
    clear h1
    have cc1 := HB1.out.1 1 (.int .i64 g) rfl
    go_wp2_with fail
    clear cc1
    ((with_reducible refine (gray_impl _ _).mono ?_); rintro e w2 ⟨rfl, bb⟩)
    have HB2 := Lib.hid (HB1.out.keep bb)
    have HW2 := Lib.hid (on_of HW1.out bb)
    clear bb
    cases h2 : grayB g
    · have HS : Hid (obK l g x0 y0 x1 y1 = false) := Lib.hid (by simp [obK, h2])
      clear h2
      go_wp2
      go_ret
      exact ⟨ret_bool HS.out.symm, HW2.out⟩
    · have HT2 := Lib.hid h2
      clear h2
      have cc2 := HB2.out.1 2 (.int .i64 x0) rfl
      have cc3 := HB2.out.1 3 (.int .i64 y0) rfl
      have cc4 := HB2.out.1 4 (.int .i64 x1) rfl
      have cc5 := HB2.out.1 5 (.int .i64 y1) rfl
      go_wp2_with fail
      clear cc2 cc3 cc4 cc5
      ((with_reducible refine (bok_impl _ _ _ _ _).mono ?_); rintro e w3 ⟨rfl, bb⟩)
      have HW3 := Lib.hid (on_of HW2.out bb)
      clear bb
      go_wp2
      go_ret
      exact ⟨ret_bool (by simp [obK, HN.out.1, HT1.out, HT2.out]), HW3.out⟩
theorem fill_impl (w : World) (a : Option Addr) (c : Nat) (l : List Pt) (g x0 y0 x1 y1 : Int) (hn : l.length ≤ 1048576) (h : PathAt w a l) :
    Calls Try.prog 66 #[.agg #[.slice a l.length c, .int .i64 g, .int .i64 x0, .int .i64 y0, .int .i64 x1, .int .i64 y1]] w fun e w' => e = .returned (.bool (obK l g x0 y0 x1 y1)) ∧ Below w.heap.size w w' := by
  by_cases h3 : 3 ≤ l.length
  · exact fill_yes_impl w a c l g x0 y0 x1 y1 h3 hn h
  · have h3i : ¬ (3 : Int) ≤ (l.length : Int) := by omega
    have H3 := Lib.hid h3
    clear h h3
    go_enter Try.func66, Try.ntmps66
    go_wp2
    go_ret
    exact ⟨ret_bool (by simp [obK, H3.out]), by go_grown⟩
theorem ok_impl (w : World) (a : Option Addr) (c : Nat) (l : List Pt) (g x0 y0 x1 y1 : Int) (hn : l.length ≤ 1048576) (h : PathAt w a l) :
    Calls Try.prog 35 #[.agg #[.slice a l.length c, .int .i64 g, .int .i64 x0, .int .i64 y0, .int .i64 x1, .int .i64 y1]] w fun e w' => e = .returned (.bool (obK l g x0 y0 x1 y1)) ∧ Below w.heap.size w w' := by
  have HW0 : Hid (Below w.heap.size w (w.alloc (.cells #[.slice a l.length c, .int .i64 g, .int .i64 x0, .int .i64 y0, .int .i64 x1, .int .i64 y1] 40))) := Lib.hid (by go_grown)
  have HP := Lib.hid (h.on HW0.out)
  have HC := Lib.hid (fun W h => fill_impl W a c l g x0 y0 x1 y1 hn h)
  clear h
  go_enter Try.func35, Try.ntmps35
  go_wp2_with fail
  ((with_reducible refine (HC.out _ HP.out).mono ?_); rintro e w1 ⟨rfl, bb⟩)
  have HW1 := Lib.hid (on_of HW0.out bb)
  clear bb
  go_wp2
  go_ret
  exact ⟨rfl, HW1.out⟩
set_option maxHeartbeats 2000000 in
theorem fill_yes_spec (w : World) (a : Option Addr) (c : Nat) (l : List Pt) (g x0 y0 x1 y1 : Int) (h3 : 3 ≤ l.length) (hn : l.length ≤ 1048576) (h : PathAt w a l) :
    Calls Try.prog 84 #[.agg #[.slice a l.length c, .int .i64 g, .int .i64 x0, .int .i64 y0, .int .i64 x1, .int .i64 y1]] w fun e w' => e = .returned (.bool (obK l g x0 y0 x1 y1)) ∧ Below w.heap.size w w' := by
  have HB0 := Lib.hid (Blk.new w #[.slice a l.length c, .int .i64 g, .int .i64 x0, .int .i64 y0, .int .i64 x1, .int .i64 y1] 40 rfl)
  have HW0 : Hid (Below w.heap.size w (w.alloc (.cells #[.slice a l.length c, .int .i64 g, .int .i64 x0, .int .i64 y0, .int .i64 x1, .int .i64 y1] 40))) := Lib.hid (by go_grown)
  have HP := Lib.hid (h.on HW0.out)
  have h3i : (3 : Int) ≤ (l.length : Int) := by omega
  have HN := Lib.hid (And.intro h3 hn)
  have HC : Hid (∀ W, PathAt W a l → Calls Try.prog 108 #[.slice a l.length c] W fun e w' => e = .returned (.bool (pathB l)) ∧ Below W.heap.size W w') := Lib.hid (fun W h => pts_spec W a c l HN.out.2 h)
  clear h h3 hn
  go_enter Try.func84, Try.ntmps84
  go_wp2_with fail
  ((with_reducible refine (HC.out _ HP.out).mono ?_); rintro e w1 ⟨rfl, bb⟩)
  have HB1 := Lib.hid (HB0.out.keep bb)
  have HW1 := Lib.hid (on_of HW0.out bb)
  clear bb
  cases h1 : pathB l
  · have HS : Hid (obK l g x0 y0 x1 y1 = false) := Lib.hid (by simp [obK, h1])
    clear h1
    go_wp2
    go_ret
    exact ⟨ret_bool HS.out.symm, HW1.out⟩
  · have HT1 := Lib.hid h1
    clear h1
    have cc1 := HB1.out.1 1 (.int .i64 g) rfl
    go_wp2_with fail
    clear cc1
    ((with_reducible refine (gray_spec _ _).mono ?_); rintro e w2 ⟨rfl, bb⟩)
    have HB2 := Lib.hid (HB1.out.keep bb)
    have HW2 := Lib.hid (on_of HW1.out bb)
    clear bb
    cases h2 : grayB g
    · have HS : Hid (obK l g x0 y0 x1 y1 = false) := Lib.hid (by simp [obK, h2])
      clear h2
      go_wp2
      go_ret
      exact ⟨ret_bool HS.out.symm, HW2.out⟩
    · have HT2 := Lib.hid h2
      clear h2
      have cc2 := HB2.out.1 2 (.int .i64 x0) rfl
      have cc3 := HB2.out.1 3 (.int .i64 y0) rfl
      have cc4 := HB2.out.1 4 (.int .i64 x1) rfl
      have cc5 := HB2.out.1 5 (.int .i64 y1) rfl
      go_wp2_with fail
      clear cc2 cc3 cc4 cc5
      ((with_reducible refine (bok_spec _ _ _ _ _).mono ?_); rintro e w3 ⟨rfl, bb⟩)
      have HW3 := Lib.hid (on_of HW2.out bb)
      clear bb
      go_wp2
      go_ret
      exact ⟨ret_bool (by simp [obK, HN.out.1, HT1.out, HT2.out]), HW3.out⟩
theorem fill_spec (w : World) (a : Option Addr) (c : Nat) (l : List Pt) (g x0 y0 x1 y1 : Int) (hn : l.length ≤ 1048576) (h : PathAt w a l) :
    Calls Try.prog 84 #[.agg #[.slice a l.length c, .int .i64 g, .int .i64 x0, .int .i64 y0, .int .i64 x1, .int .i64 y1]] w fun e w' => e = .returned (.bool (obK l g x0 y0 x1 y1)) ∧ Below w.heap.size w w' := by
  by_cases h3 : 3 ≤ l.length
  · exact fill_yes_spec w a c l g x0 y0 x1 y1 h3 hn h
  · have h3i : ¬ (3 : Int) ≤ (l.length : Int) := by omega
    have H3 := Lib.hid h3
    clear h h3
    go_enter Try.func84, Try.ntmps84
    go_wp2
    go_ret
    exact ⟨ret_bool (by simp [obK, H3.out]), by go_grown⟩
theorem ok_spec (w : World) (a : Option Addr) (c : Nat) (l : List Pt) (g x0 y0 x1 y1 : Int) (hn : l.length ≤ 1048576) (h : PathAt w a l) :
    Calls Try.prog 55 #[.agg #[.slice a l.length c, .int .i64 g, .int .i64 x0, .int .i64 y0, .int .i64 x1, .int .i64 y1]] w fun e w' => e = .returned (.bool (obK l g x0 y0 x1 y1)) ∧ Below w.heap.size w w' := by
  have HW0 : Hid (Below w.heap.size w (w.alloc (.cells #[.slice a l.length c, .int .i64 g, .int .i64 x0, .int .i64 y0, .int .i64 x1, .int .i64 y1] 40))) := Lib.hid (by go_grown)
  have HP := Lib.hid (h.on HW0.out)
  have HC := Lib.hid (fun W h => fill_spec W a c l g x0 y0 x1 y1 hn h)
  clear h
  go_enter Try.func55, Try.ntmps55
  go_wp2_with fail
  ((with_reducible refine (HC.out _ HP.out).mono ?_); rintro e w1 ⟨rfl, bb⟩)
  have HW1 := Lib.hid (on_of HW0.out bb)
  clear bb
  go_wp2
  go_ret
  exact ⟨rfl, HW1.out⟩
end Go.Proofs.Ytbdjnfnphilklaa.Ins
namespace Go.Proofs.Ytbdjnfnphilklaa.Ins
open Go.ChangeShapes Go.WideShapes Go.ChangeAt Go.RowKit
open Kit Point
open Go.Proofs.Ytbdjnfnphilklaa.Own (Blk Ob grayB)
set_option linter.unusedVariables false
set_option linter.unusedSimpArgs false
set_option linter.unnecessarySimpa false
def vis (l : List Pt) (x0 y0 x1 y1 : Int) : Bx := mtx (mtx (pbx l) ⟨x0, y0, x1, y1⟩) pgx
def obx (l : List Pt) (g x0 y0 x1 y1 : Int) : Bx := if obK l g x0 y0 x1 y1 then vis l x0 y0 x1 y1 else ⟨0, 0, 0, 0⟩
theorem blk_low {W V : World} {b B : Nat} {us : List Value} (h : Blk W b us) (hb : b < B) (k : Below B W V) : Blk V b us := h.turned (S := fun x => B ≤ x) ⟨k.os, k.tape, k.output, k.size, fun x hx hS => k.block x (by omega)⟩ (by omega)
set_option maxHeartbeats 4000000 in
theorem vis_impl (w : World) (a : Option Addr) (c : Nat) (l : List Pt) (g x0 y0 x1 y1 : Int) (h0 : 0 < l.length) (hn : l.length ≤ 1048576) (h : PathAt w a l) :
    Calls Try.prog 100 #[.agg #[.slice a l.length c, .int .i64 g, .int .i64 x0, .int .i64 y0, .int .i64 x1, .int .i64 y1]] w fun e w' => e = .returned (vis l x0 y0 x1 y1).v ∧ Below w.heap.size w w' := by
  have c1 : ∀ W, PathAt W a l → Calls Try.prog 116 #[.slice a l.length c] W fun e w' => e = .returned (pbx l).v ∧ Below W.heap.size W w' := fun W h => box_path W a c l h0 hn h
  have c2 := fun W => meetbox_impl (pbx l) ⟨x0, y0, x1, y1⟩ W
  have c3 := fun W => page_box W
  have c4 := fun W => meetbox_impl (mtx (pbx l) ⟨x0, y0, x1, y1⟩) pgx W
  unfold vis
  generalize mtx (mtx (pbx l) ⟨x0, y0, x1, y1⟩) pgx = m2 at *
  generalize mtx (pbx l) ⟨x0, y0, x1, y1⟩ = m1 at *
  generalize pbx l = m0 at *
  obtain ⟨p0, p1, p2, p3⟩ := m0
  obtain ⟨q0, q1, q2, q3⟩ := m1
  obtain ⟨r0, r1, r2, r3⟩ := m2
  simp only [Bx.v, pgx] at c1 c2 c3 c4 ⊢
  have HC := Lib.hid (And.intro c1 (And.intro c2 (And.intro c3 c4)))
  have HP := Lib.hid h
  clear c1 c2 c3 c4 h h0 hn
  go_enter Try.func100, Try.ntmps100
  go_upto_region 1 with fail
  refine gen_any9 (fun W => Blk W w.heap.size [.slice a l.length c, .int .i64 g, .int .i64 x0, .int .i64 y0, .int .i64 x1, .int .i64 y1] ∧ Blk W (w.heap.size + 1) [.int .i64 0, .int .i64 0, .int .i64 0, .int .i64 0] ∧ Below w.heap.size w W) ⟨(Blk.new w #[.slice a l.length c, .int .i64 g, .int .i64 x0, .int .i64 y0, .int .i64 x1, .int .i64 y1] 121 rfl).alloc _, Blk.new _ #[.int .i64 0, .int .i64 0, .int .i64 0, .int .i64 0] 38 (by simp), by go_grown⟩ ?_
  rintro W ⟨BA, BR, hW⟩
  have HS := Lib.hid (And.intro BA (And.intro BR hW))
  have HP := Lib.hid (HP.out.on hW)
  obtain ⟨GA, hGA⟩ : ∃ x, w.heap.size = x := ⟨_, rfl⟩
  obtain ⟨GR, hGR⟩ : ∃ x, w.heap.size + 1 = x := ⟨_, rfl⟩
  rw [hGA] at HS
  rw [show GA + 1 = GR by omega] at HS
  clear BA BR hW
  simp only [hGR]
  simp only [hGA]
  have gAW : GA < W.heap.size := HS.out.1.2.2
  have gRW : GR < W.heap.size := HS.out.2.1.2.2
  have gAR : GA < GR := by omega
  have hK : ∀ w', Below GR W w' → w'.cell? ⟨GA, 0, none⟩ = some (.slice a l.length c) ∧ w'.cell? ⟨GA, 2, none⟩ = some (.int .i64 x0) ∧ w'.cell? ⟨GA, 3, none⟩ = some (.int .i64 y0) ∧ w'.cell? ⟨GA, 4, none⟩ = some (.int .i64 x1) ∧ w'.cell? ⟨GA, 5, none⟩ = some (.int .i64 y1) ∧ Below GR W w' := fun w' hb =>
    have B := blk_low HS.out.1 gAR hb
    ⟨B.1 0 _ rfl, B.1 2 _ rfl, B.1 3 _ rfl, B.1 4 _ rfl, B.1 5 _ rfl, hb⟩
  have HK := Lib.hid hK
  clear hK
  go_region_held3 (fun w' => w'.cell? ⟨GA, 0, none⟩ = some (.slice a l.length c) ∧ w'.cell? ⟨GA, 2, none⟩ = some (.int .i64 x0) ∧ w'.cell? ⟨GA, 3, none⟩ = some (.int .i64 y0) ∧ w'.cell? ⟨GA, 4, none⟩ = some (.int .i64 x1) ∧ w'.cell? ⟨GA, 5, none⟩ = some (.int .i64 y1) ∧ Below GR W w') (first | exact HK.out _ (hB.mono (Nat.le_of_lt gRW)) | exact HK.out _ (by go_grown))
    (first
      | (go_at_call 116; (with_reducible refine (HC.out.1 _ (HP.out.on (by first | exact hB | go_grown))).mono ?_); rintro e wz ⟨rfl, bb⟩; have hB := on_of (W := W) (by first | exact hB | go_grown) bb; clear bb)
      | (go_at_call 67; (with_reducible refine (HC.out.2.1 _).mono ?_); rintro e wz ⟨rfl, bb⟩; have hB := on_of (W := W) (by first | exact hB | go_grown) bb; clear bb)
      | (go_at_call 117; (with_reducible refine (HC.out.2.2.1 _).mono ?_); rintro e wz ⟨rfl, bb⟩; have hB := on_of (W := W) (by first | exact hB | go_grown) bb; clear bb)
      | (go_at_call 67; (with_reducible refine (HC.out.2.2.2 _).mono ?_); rintro e wz ⟨rfl, bb⟩; have hB := on_of (W := W) (by first | exact hB | go_grown) bb; clear bb; have hf := (HS.out.2.1.keep hB).2.1; have hz := (HS.out.2.1.keep hB).2.2; have hB2 := hB.mono (Nat.le_of_lt gRW); have e0 := (HS.out.2.1.keep hB).1 0 _ rfl; have e1 := (HS.out.2.1.keep hB).1 1 _ rfl; have e2 := (HS.out.2.1.keep hB).1 2 _ rfl; have e3 := (HS.out.2.1.keep hB).1 3 _ rfl))
  all_goals
    go_wp2
    refine bodyPost_ret (by simp [results, Try.results100, go_sem, *]; try rfl) rfl ?_
    refine ⟨rfl, ?_⟩
    have := HS.out.2.2.trans (hB.mono (Nat.le_of_lt gAW))
    rw [hGA]
    go_grown
end Go.Proofs.Ytbdjnfnphilklaa.Ins
namespace Go.Proofs.Ytbdjnfnphilklaa.Ins
open Go.ChangeShapes Go.WideShapes Go.ChangeAt Go.RowKit
open Kit Point
open Go.Proofs.Ytbdjnfnphilklaa.Own (Blk Ob grayB)
set_option linter.unusedVariables false
set_option linter.unusedSimpArgs false
set_option linter.unnecessarySimpa false
theorem obx_no {l : List Pt} {g x0 y0 x1 y1 : Int} (h : obK l g x0 y0 x1 y1 = false) : obx l g x0 y0 x1 y1 = ⟨0, 0, 0, 0⟩ := by simp [obx, h]
theorem obx_yes {l : List Pt} {g x0 y0 x1 y1 : Int} (h : obK l g x0 y0 x1 y1 = true) : obx l g x0 y0 x1 y1 = vis l x0 y0 x1 y1 := by simp [obx, h]
theorem obK_pos {l : List Pt} {g x0 y0 x1 y1 : Int} (h : obK l g x0 y0 x1 y1 = true) : 0 < l.length := by
  simp only [obK, Bool.and_eq_true, decide_eq_true_eq] at h; omega
structure ObS (W : World) (w : World) (GA GR : Nat) (a : Option Addr) (n c : Nat) (g x0 y0 x1 y1 : Int) : Prop where
  A : Blk W GA [.slice a n c, .int .i64 g, .int .i64 x0, .int .i64 y0, .int .i64 x1, .int .i64 y1]
  R : Blk W GR [.int .i64 0, .int .i64 0, .int .i64 0, .int .i64 0]
  B : Below w.heap.size w W
  ga : w.heap.size = GA
  gr : GA + 1 = GR
theorem ObS.on {W w V : World} {GA GR : Nat} {a : Option Addr} {n c : Nat} {g x0 y0 x1 y1 : Int} (h : ObS W w GA GR a n c g x0 y0 x1 y1) (hb : Below W.heap.size W V) : ObS V w GA GR a n c g x0 y0 x1 y1 :=
  ⟨h.A.keep hb, h.R.keep hb, on_of h.B hb, h.ga, h.gr⟩
theorem ObS.cells {W w : World} {GA GR : Nat} {a : Option Addr} {n c : Nat} {g x0 y0 x1 y1 : Int} (h : ObS W w GA GR a n c g x0 y0 x1 y1) :
    W.cell? ⟨GA, 0, none⟩ = some (.slice a n c) ∧ W.cell? ⟨GA, 1, none⟩ = some (.int .i64 g) ∧ W.cell? ⟨GA, 2, none⟩ = some (.int .i64 x0) ∧ W.cell? ⟨GA, 3, none⟩ = some (.int .i64 y0) ∧ W.cell? ⟨GA, 4, none⟩ = some (.int .i64 x1) ∧ W.cell? ⟨GA, 5, none⟩ = some (.int .i64 y1) ∧ (∀ o, W.frozen? ⟨GR, o, none⟩ = false) ∧ GA < W.heap.size ∧ GR < W.heap.size :=
  ⟨h.A.1 0 _ rfl, h.A.1 1 _ rfl, h.A.1 2 _ rfl, h.A.1 3 _ rfl, h.A.1 4 _ rfl, h.A.1 5 _ rfl, h.R.2.1, h.A.2.2, h.R.2.2⟩
theorem ObS.new (w : World) (a : Option Addr) (n c : Nat) (g x0 y0 x1 y1 : Int) : ObS ((w.alloc (.cells #[.slice a n c, .int .i64 g, .int .i64 x0, .int .i64 y0, .int .i64 x1, .int .i64 y1] 40)).alloc (.cells #[.int .i64 0, .int .i64 0, .int .i64 0, .int .i64 0] 38)) w w.heap.size (w.heap.size + 1) a n c g x0 y0 x1 y1 :=
  ⟨(Blk.new w #[.slice a n c, .int .i64 g, .int .i64 x0, .int .i64 y0, .int .i64 x1, .int .i64 y1] 40 rfl).alloc _, Blk.new _ #[.int .i64 0, .int .i64 0, .int .i64 0, .int .i64 0] 38 (by simp), by go_grown, rfl, rfl⟩
set_option maxHeartbeats 4000000 in
theorem obox_impl (w : World) (a : Option Addr) (c : Nat) (l : List Pt) (g x0 y0 x1 y1 : Int) (hn : l.length ≤ 1048576) (h : PathAt w a l) :
    Calls Try.prog 68 #[.agg #[.slice a l.length c, .int .i64 g, .int .i64 x0, .int .i64 y0, .int .i64 x1, .int .i64 y1]] w fun e w' => e = .returned (obx l g x0 y0 x1 y1).v ∧ Below w.heap.size w w' := by
  have HP := Lib.hid h
  have HO := Lib.hid (fun W (h : PathAt W a l) => ok_impl W a c l g x0 y0 x1 y1 hn h)
  cases hk : obK l g x0 y0 x1 y1
  · rw [obx_no hk]
    simp only [Bx.v]
    rw [hk] at HO
    clear hk h hn
    go_enter Try.func68, Try.ntmps68
    go_upto_region 1 with fail
    refine gen_any9 (fun W => ObS W w w.heap.size (w.heap.size + 1) a l.length c g x0 y0 x1 y1) (ObS.new w a l.length c g x0 y0 x1 y1) ?_
    intro W hS
    obtain ⟨GR, hGR⟩ : ∃ x, w.heap.size + 1 = x := ⟨_, rfl⟩
    rw [hGR] at hS ⊢
    have HS := Lib.hid hS
    clear hS
    obtain ⟨k0, k1, k2, k3, k4, k5, hf, hzA, hzR⟩ := HS.out.cells
    go_wp2_with fail
    clear k0 k1 k2 k3 k4 k5 hf hzA hzR
    ((with_reducible refine (HO.out _ (HP.out.on HS.out.B)).mono ?_); rintro e w1 ⟨rfl, bb⟩)
    have HS := Lib.hid (HS.out.on bb)
    clear bb
    obtain ⟨k0, k1, k2, k3, k4, k5, hf, hzA, hzR⟩ := HS.out.cells
    have e0 := HS.out.R.1 0 _ rfl
    have e1 := HS.out.R.1 1 _ rfl
    have e2 := HS.out.R.1 2 _ rfl
    have e3 := HS.out.R.1 3 _ rfl
    go_wp2
    refine bodyPost_ret (by simp [results, Try.results68, go_sem, *]; try rfl) rfl ?_
    refine ⟨rfl, ?_⟩
    have hB := HS.out.B
    go_grown
  · have HV := Lib.hid (fun W (h : PathAt W a l) => vis_impl W a c l g x0 y0 x1 y1 (obK_pos hk) hn h)
    rw [obx_yes hk]
    rw [hk] at HO
    generalize vis l x0 y0 x1 y1 = m at *
    obtain ⟨r0, r1, r2, r3⟩ := m
    simp only [Bx.v] at HV ⊢
    clear hk h hn
    go_enter Try.func68, Try.ntmps68
    go_upto_region 1 with fail
    refine gen_any9 (fun W => ObS W w w.heap.size (w.heap.size + 1) a l.length c g x0 y0 x1 y1) (ObS.new w a l.length c g x0 y0 x1 y1) ?_
    intro W hS
    obtain ⟨GR, hGR⟩ : ∃ x, w.heap.size + 1 = x := ⟨_, rfl⟩
    rw [hGR] at hS ⊢
    have HS := Lib.hid hS
    clear hS
    obtain ⟨k0, k1, k2, k3, k4, k5, hf, hzA, hzR⟩ := HS.out.cells
    go_wp2_with fail
    clear k0 k1 k2 k3 k4 k5 hf hzA hzR
    ((with_reducible refine (HO.out _ (HP.out.on HS.out.B)).mono ?_); rintro e w1 ⟨rfl, bb⟩)
    have HS := Lib.hid (HS.out.on bb)
    clear bb
    obtain ⟨k0, k1, k2, k3, k4, k5, hf, hzA, hzR⟩ := HS.out.cells
    go_wp2_with fail
    clear k0 k1 k2 k3 k4 k5 hf hzA hzR
    ((with_reducible refine (fig_of _ _ _ _ _ _ _ _ _).mono ?_); rintro e w2 ⟨rfl, bb⟩)
    have HS := Lib.hid (HS.out.on bb)
    clear bb
    go_wp2_with fail
    ((with_reducible refine (HV.out _ (HP.out.on HS.out.B)).mono ?_); rintro e w3 ⟨rfl, bb⟩)
    have HS := Lib.hid (HS.out.on bb)
    clear bb
    obtain ⟨k0, k1, k2, k3, k4, k5, hf, hzA, hzR⟩ := HS.out.cells
    have e0 := HS.out.R.1 0 _ rfl
    have e1 := HS.out.R.1 1 _ rfl
    have e2 := HS.out.R.1 2 _ rfl
    have e3 := HS.out.R.1 3 _ rfl
    go_wp2
    refine bodyPost_ret (by simp [results, Try.results68, go_sem, *]; try rfl) rfl ?_
    refine ⟨rfl, ?_⟩
    have hB := HS.out.B
    go_grown
end Go.Proofs.Ytbdjnfnphilklaa.Ins
