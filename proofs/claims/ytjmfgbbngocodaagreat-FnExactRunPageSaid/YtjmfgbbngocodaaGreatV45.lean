/-
  Texts of this seat, laid together: SpJ
-/
import Derived.Laws.BitsLemmas
import Derived.Test.YtjmfgbbngocodaaGreatV40
namespace Go.Proofs.YtjmfgbbngocodaaGreat.Own
open Go.ChangeShapes Go.WideShapes Go.ChangeAt Go.RowKit
open Kit Slabs Ints Stack Point Turn Join Pts Box Push Take Opn SOp
set_option linter.unusedVariables false
set_option linter.unusedSimpArgs false
set_option linter.unnecessarySimpa false
set_option maxRecDepth 100000
attribute [local go_sem ↓] hload_Graphics hload_Object hstore_Graphics hstore_Object hload_Page hstore_Page
theorem lit_ptsJ (w : World) (cs : Array Value) {l : List (Int × Int)} {n : Nat} (hn : l.length = n) (hm : n ≤ 100) (hcs : cs.toList = cellsP l) : (w.alloc (.cells cs 109)).ownsRow w.heap.size 109 2 (.slice (some ⟨w.heap.size, 0, none⟩) n n) n (cellsP l) := by
  have hs : cs.size = n * 2 := by have := cellsP_len l; rw [← hcs, hn] at this; simpa using this
  have := World.ownsRow_lit (base := w.heap.size) (e := 109) (size := 2) w cs n (Nat.le_refl _) (by unfold maxLen; omega) hs
  rw [hcs] at this
  exact this
set_option maxHeartbeats 8000000 in
theorem sp_rect {w : World} {B X : Nat} {P : Pg} (h : PgAt w B X P) (hB : B ≤ w.heap.size) (hX : B ≤ X) (ht : tokB P.now.q P.now.s P.now.dx P.now.dy = true) (s : ByteArray) (hk : opN s = some 3) (g2 c2 : Nat) (x y u v : Int) (hg : g2 < w.heap.size) (hx : w.cell? ⟨g2, 0, none⟩ = some (.int .i64 x)) (hy : w.cell? ⟨g2, 1, none⟩ = some (.int .i64 y)) (hu : w.cell? ⟨g2, 2, none⟩ = some (.int .i64 u)) (hv : w.cell? ⟨g2, 3, none⟩ = some (.int .i64 v)) (bx : -9999 ≤ x ∧ x ≤ 9999) (bY : -9999 ≤ y ∧ y ≤ 9999) :
    Calls Tryz.prog 31 #[.pointer (some ⟨X, 0, none⟩), .string s, .slice (some ⟨g2, 0, none⟩) 4 c2] w (OpRes B X (if okR u v = true then some (recM P x y u v) else none) w) := by
  obtain ⟨a0, c0, f0, a5, c5, P5, a11, c11, P11, f11, a12, c12, P12, f12, h⟩ := h.flat
  obtain ⟨q0, q1, q2, q3, q4, q5, q6, q7, q8, q9, q10, q11⟩ := nm12 hk
  have hXl := h.blk.2.2
  have HH := Lib.hid h
  have HZ : Hid (OpRes B X none w (.returned (.bool false)) w) := Lib.hid ⟨rfl, (Below.refl _ _).mono hB, fun P' hP => by cases hP⟩
  have HC := Lib.hid (fun (W : World) (x y : Int) (hx : -20000 ≤ x ∧ x ≤ 20000) (hy : -20000 ≤ y ∧ y ≤ 20000) => image_spec_big P.now.q P.now.s P.now.dx P.now.dy x y W ht hx hy)
  have H1 := Lib.hid (fun (W : World) => in_any u 0 200 W)
  have H2 := Lib.hid (fun (W : World) => in_any v 0 200 W)
  have HS9 := Lib.hid (fun (W : World) (hb : Below w.heap.size w W) => (show (W.cell? ⟨g2, 0, none⟩ = some (.int .i64 x) ∧ W.cell? ⟨g2, 1, none⟩ = some (.int .i64 y)) ∧ W.cell? ⟨g2, 2, none⟩ = some (.int .i64 u) ∧ W.cell? ⟨g2, 3, none⟩ = some (.int .i64 v) from ⟨⟨(cell_on hb hg).trans hx, (cell_on hb hg).trans hy⟩, (cell_on hb hg).trans hu, (cell_on hb hg).trans hv⟩))
  have hok : okR u v = (decide (0 ≤ u ∧ u ≤ 200) && decide (0 ≤ v ∧ v ≤ 200)) := rfl
  cases hb1 : decide (0 ≤ u ∧ u ≤ 200)
  · rw [hok, hb1, Bool.false_and, if_neg (by decide)]
    rw [hb1] at H1
    clear h hk ht hok hb1
    go_enter Tryz.func31, Tryz.ntmps31
    go_wp2_with fail
    ((with_reducible refine (H1.out _).mono ?_); rintro e w1 ⟨rfl, rfl⟩)
    go_wp2
    go_ret
    exact HZ.out
  cases hb2 : decide (0 ≤ v ∧ v ≤ 200)
  · rw [hok, hb1, hb2, Bool.and_false, if_neg (by decide)]
    rw [hb1] at H1
    rw [hb2] at H2
    clear h hk ht hok hb1 hb2
    go_enter Tryz.func31, Tryz.ntmps31
    go_wp2_with fail
    ((with_reducible refine (H1.out _).mono ?_); rintro e w1 ⟨rfl, rfl⟩)
    go_wp2_with fail
    ((with_reducible refine (H2.out _).mono ?_); rintro e w1 ⟨rfl, rfl⟩)
    go_wp2
    go_ret
    exact HZ.out
  · rw [hok, hb1, hb2, Bool.and_true, if_pos rfl]
    rw [hb1] at H1
    rw [hb2] at H2
    have u0 := of_decide_eq_true hb1
    have v0 := of_decide_eq_true hb2
    have e1 : IntKind.i64.wrap (x + u) = x + u := by rw [IntKind.wrap_i64]; omega
    have e2 : IntKind.i64.wrap (y + v) = y + v := by rw [IntKind.wrap_i64]; omega
    clear h hk ht hok hb1 hb2
    go_enter Tryz.func31, Tryz.ntmps31
    go_wp2_with fail
    ((with_reducible refine (H1.out _).mono ?_); rintro e w1 ⟨rfl, rfl⟩)
    go_wp2_with fail
    ((with_reducible refine (H2.out _).mono ?_); rintro e w1 ⟨rfl, rfl⟩)
    go_upto_region 14 with (fail)
    clear hx hy hu hv
    refine wp_region_held_drew (S := fun W => (W.cell? ⟨g2, 0, none⟩ = some (.int .i64 x) ∧ W.cell? ⟨g2, 1, none⟩ = some (.int .i64 y)) ∧ W.cell? ⟨g2, 2, none⟩ = some (.int .i64 u) ∧ W.cell? ⟨g2, 3, none⟩ = some (.int .i64 v)) (by kernel_rfl) (HS9.out _ (by go_grown)) (fun hHeld => ?_)
    refine wpAnyH_take (i := 0) (oi := _) (v := ?_) rfl (by kernel_rfl) (by kernel_rfl) (by kernel_rfl) (fun _ _ _ h => h) (Or.inl ⟨by rfl, ?_⟩) (by assumption) ?_
    rotate_left
    · (intro w hSw; (try dsimp only at hSw); go_simp; try with_reducible rfl)
    try simp only [Act.put, List.setIfInBounds_toArray, List.set_cons_zero, List.set_cons_succ]
    refine wpAnyH_take (i := 1) (oi := _) (v := ?_) rfl (by kernel_rfl) (by kernel_rfl) (by kernel_rfl) (fun _ _ _ h => h) (Or.inl ⟨by rfl, ?_⟩) (by assumption) ?_
    rotate_left
    · (intro w hSw; (try dsimp only at hSw); go_simp; try with_reducible rfl)
    try simp only [Act.put, List.setIfInBounds_toArray, List.set_cons_zero, List.set_cons_succ]
    refine wpAnyH_take (i := 2) (oi := _) (v := ?_) rfl (by kernel_rfl) (by kernel_rfl) (by kernel_rfl) (fun _ _ _ h => h) (Or.inl ⟨by rfl, ?_⟩) (by assumption) ?_
    rotate_left
    · (intro w hSw; (try dsimp only at hSw); go_simp; try with_reducible rfl)
    try simp only [Act.put, List.setIfInBounds_toArray, List.set_cons_zero, List.set_cons_succ]
    refine wpAnyH_take (i := 3) (oi := _) (v := ?_) rfl (by kernel_rfl) (by kernel_rfl) (by kernel_rfl) (fun _ _ _ h => h) (Or.inl ⟨by rfl, ?_⟩) (by assumption) ?_
    rotate_left
    · (intro w hSw; (try dsimp only at hSw); go_simp; try with_reducible rfl)
    try simp only [Act.put, List.setIfInBounds_toArray, List.set_cons_zero, List.set_cons_succ]
    refine wpAnyH_take (i := 4) (oi := _) (v := ?_) rfl (by kernel_rfl) (by kernel_rfl) (by kernel_rfl) (fun _ _ _ h => h) (Or.inl ⟨by rfl, ?_⟩) (by assumption) ?_
    rotate_left
    · (intro w hSw; (try dsimp only at hSw); go_simp; try with_reducible rfl)
    try simp only [Act.put, List.setIfInBounds_toArray, List.set_cons_zero, List.set_cons_succ]
    refine wpAnyH_take (i := 5) (oi := _) (v := ?_) rfl (by kernel_rfl) (by kernel_rfl) (by kernel_rfl) (fun _ _ _ h => h) (Or.inl ⟨by rfl, ?_⟩) (by assumption) ?_
    rotate_left
    · (intro w hSw; (try dsimp only at hSw); go_simp; try with_reducible rfl)
    try simp only [Act.put, List.setIfInBounds_toArray, List.set_cons_zero, List.set_cons_succ]
    refine wpAnyH_take (i := 6) (oi := _) (v := ?_) rfl (by kernel_rfl) (by kernel_rfl) (by kernel_rfl) (fun _ _ _ h => h) (Or.inl ⟨by rfl, ?_⟩) (by assumption) ?_
    rotate_left
    · (intro w hSw; (try dsimp only at hSw); go_simp; try with_reducible rfl)
    try simp only [Act.put, List.setIfInBounds_toArray, List.set_cons_zero, List.set_cons_succ]
    refine wpAnyH_take (i := 7) (oi := _) (v := ?_) rfl (by kernel_rfl) (by kernel_rfl) (by kernel_rfl) (fun _ _ _ h => h) (Or.inl ⟨by rfl, ?_⟩) (by assumption) ?_
    rotate_left
    · (intro w hSw; (try dsimp only at hSw); go_simp; try with_reducible rfl)
    try simp only [Act.put, List.setIfInBounds_toArray, List.set_cons_zero, List.set_cons_succ]
    refine wpAnyH_take (i := 8) (oi := _) (v := ?_) rfl (by kernel_rfl) (by kernel_rfl) (by kernel_rfl) (fun _ _ _ h => h) (Or.inl ⟨by rfl, ?_⟩) (by assumption) ?_
    rotate_left
    · (intro w hSw; (try dsimp only at hSw); go_simp; try with_reducible rfl)
    try simp only [Act.put, List.setIfInBounds_toArray, List.set_cons_zero, List.set_cons_succ]
    refine wpAnyH_take (i := 9) (oi := _) (v := ?_) rfl (by kernel_rfl) (by kernel_rfl) (by kernel_rfl) (fun _ _ _ h => h) (Or.inl ⟨by rfl, ?_⟩) (by assumption) ?_
    rotate_left
    · (intro w hSw; (try dsimp only at hSw); go_simp; try with_reducible rfl)
    try simp only [Act.put, List.setIfInBounds_toArray, List.set_cons_zero, List.set_cons_succ]
    refine wpAnyH_take (i := 10) (oi := _) (v := ?_) rfl (by kernel_rfl) (by kernel_rfl) (by kernel_rfl) (fun _ _ _ h => h) (Or.inl ⟨by rfl, ?_⟩) (by assumption) ?_
    rotate_left
    · (intro w hSw; (try dsimp only at hSw); go_simp; try with_reducible rfl)
    try simp only [Act.put, List.setIfInBounds_toArray, List.set_cons_zero, List.set_cons_succ]
    refine wpAnyH_take (i := 11) (oi := _) (v := ?_) rfl (by kernel_rfl) (by kernel_rfl) (by kernel_rfl) (fun _ _ _ h => h) (Or.inl ⟨by rfl, ?_⟩) (by assumption) ?_
    rotate_left
    · (intro w hSw; (try dsimp only at hSw); go_simp; try with_reducible rfl)
    try simp only [Act.put, List.setIfInBounds_toArray, List.set_cons_zero, List.set_cons_succ]
    refine wpAnyH_take (i := 12) (oi := _) (v := ?_) rfl (by kernel_rfl) (by kernel_rfl) (by kernel_rfl) (fun _ _ _ h => h) (Or.inl ⟨by rfl, ?_⟩) (by assumption) ?_
    rotate_left
    · (intro w hSw; (try dsimp only at hSw); go_simp; try with_reducible rfl)
    try simp only [Act.put, List.setIfInBounds_toArray, List.set_cons_zero, List.set_cons_succ]
    refine wpAnyH_take (i := 13) (oi := _) (v := ?_) rfl (by kernel_rfl) (by kernel_rfl) (by kernel_rfl) (fun _ _ _ h => h) (Or.inl ⟨by rfl, ?_⟩) (by assumption) ?_
    rotate_left
    · (intro w hSw; (try dsimp only at hSw); go_simp; try with_reducible rfl)
    try simp only [Act.put, List.setIfInBounds_toArray, List.set_cons_zero, List.set_cons_succ]
    refine wpAnyH_take (i := 14) (oi := _) (v := ?_) rfl (by kernel_rfl) (by kernel_rfl) (by kernel_rfl) (fun _ _ _ h => h) (Or.inl ⟨by rfl, ?_⟩) (by assumption) ?_
    rotate_left
    · (intro w hSw; (try dsimp only at hSw); go_simp; try with_reducible rfl)
    try simp only [Act.put, List.setIfInBounds_toArray, List.set_cons_zero, List.set_cons_succ]
    refine wpAnyH_take (i := 15) (oi := _) (v := ?_) rfl (by kernel_rfl) (by kernel_rfl) (by kernel_rfl) (fun _ _ _ h => h) (Or.inl ⟨by rfl, ?_⟩) (by assumption) ?_
    rotate_left
    · (intro w hSw; (try dsimp only at hSw); go_simp; try with_reducible rfl)
    try simp only [Act.put, List.setIfInBounds_toArray, List.set_cons_zero, List.set_cons_succ]
    refine wpAnyH_take (i := 16) (oi := _) (v := ?_) rfl (by kernel_rfl) (by kernel_rfl) (by kernel_rfl) (fun _ _ _ h => h) (Or.inl ⟨by rfl, ?_⟩) (by assumption) ?_
    rotate_left
    · (intro w hSw; (try dsimp only at hSw); go_simp; try with_reducible rfl)
    try simp only [Act.put, List.setIfInBounds_toArray, List.set_cons_zero, List.set_cons_succ]
    refine wpAnyH_take (i := 17) (oi := _) (v := ?_) rfl (by kernel_rfl) (by kernel_rfl) (by kernel_rfl) (fun _ _ _ h => h) (Or.inl ⟨by rfl, ?_⟩) (by assumption) ?_
    rotate_left
    · (intro w hSw; (try dsimp only at hSw); go_simp; try with_reducible rfl)
    try simp only [Act.put, List.setIfInBounds_toArray, List.set_cons_zero, List.set_cons_succ]
    refine wpAnyH_take (i := 18) (oi := _) (v := ?_) rfl (by kernel_rfl) (by kernel_rfl) (by kernel_rfl) (fun _ _ _ h => h) (Or.inl ⟨by rfl, ?_⟩) (by assumption) ?_
    rotate_left
    · (intro w hSw; (try dsimp only at hSw); go_simp; try with_reducible rfl)
    try simp only [Act.put, List.setIfInBounds_toArray, List.set_cons_zero, List.set_cons_succ]
    refine wpAnyH_take (i := 19) (oi := _) (v := ?_) rfl (by kernel_rfl) (by kernel_rfl) (by kernel_rfl) (fun _ _ _ h => h) (Or.inl ⟨by rfl, ?_⟩) (by assumption) ?_
    rotate_left
    · (intro w hSw; (try dsimp only at hSw); go_simp; try with_reducible rfl)
    try simp only [Act.put, List.setIfInBounds_toArray, List.set_cons_zero, List.set_cons_succ]
    refine wpAnyH_take (i := 20) (oi := _) (v := ?_) rfl (by kernel_rfl) (by kernel_rfl) (by kernel_rfl) (fun _ _ _ h => h) (Or.inl ⟨by rfl, ?_⟩) (by assumption) ?_
    rotate_left
    · (intro w hSw; (try dsimp only at hSw); go_simp; try with_reducible rfl)
    try simp only [Act.put, List.setIfInBounds_toArray, List.set_cons_zero, List.set_cons_succ]
    refine wpAnyH_take (i := 21) (oi := _) (v := ?_) rfl (by kernel_rfl) (by kernel_rfl) (by kernel_rfl) (fun _ _ _ h => h) (Or.inl ⟨by rfl, ?_⟩) (by assumption) ?_
    rotate_left
    · (intro w hSw; (try dsimp only at hSw); go_simp; try with_reducible rfl)
    try simp only [Act.put, List.setIfInBounds_toArray, List.set_cons_zero, List.set_cons_succ]
    refine wpAnyH_take (i := 22) (oi := _) (v := ?_) rfl (by kernel_rfl) (by kernel_rfl) (by kernel_rfl) (fun _ _ _ h => h) (Or.inl ⟨by rfl, ?_⟩) (by assumption) ?_
    rotate_left
    · (intro w hSw; (try dsimp only at hSw); go_simp; try with_reducible rfl)
    try simp only [Act.put, List.setIfInBounds_toArray, List.set_cons_zero, List.set_cons_succ]
    refine wpAnyH_take (i := 23) (oi := _) (v := ?_) rfl (by kernel_rfl) (by kernel_rfl) (by kernel_rfl) (fun _ _ _ h => h) (Or.inl ⟨by rfl, ?_⟩) (by assumption) ?_
    rotate_left
    · (intro w hSw; (try dsimp only at hSw); go_simp; try with_reducible rfl)
    try simp only [Act.put, List.setIfInBounds_toArray, List.set_cons_zero, List.set_cons_succ]
    refine wpAnyH_take (i := 24) (oi := _) (v := ?_) rfl (by kernel_rfl) (by kernel_rfl) (by kernel_rfl) (fun _ _ _ h => h) (Or.inl ⟨by rfl, ?_⟩) (by assumption) ?_
    rotate_left
    · (intro w hSw; (try dsimp only at hSw); go_simp; try with_reducible rfl)
    try simp only [Act.put, List.setIfInBounds_toArray, List.set_cons_zero, List.set_cons_succ]
    refine wpAnyH_take (i := 25) (oi := _) (v := ?_) rfl (by kernel_rfl) (by kernel_rfl) (by kernel_rfl) (fun _ _ _ h => h) (Or.inl ⟨by rfl, ?_⟩) (by assumption) ?_
    rotate_left
    · (intro w hSw; (try dsimp only at hSw); go_simp; try with_reducible rfl)
    try simp only [Act.put, List.setIfInBounds_toArray, List.set_cons_zero, List.set_cons_succ]
    refine wpAnyH_take (i := 26) (oi := _) (v := ?_) rfl (by kernel_rfl) (by kernel_rfl) (by kernel_rfl) (fun _ _ _ h => h) (Or.inl ⟨by rfl, ?_⟩) (by assumption) ?_
    rotate_left
    · (intro w hSw; (try dsimp only at hSw); go_simp; try with_reducible rfl)
    try simp only [Act.put, List.setIfInBounds_toArray, List.set_cons_zero, List.set_cons_succ]
    refine wpAnyH_take (i := 27) (oi := _) (v := ?_) rfl (by kernel_rfl) (by kernel_rfl) (by kernel_rfl) (fun _ _ _ h => h) (Or.inl ⟨by rfl, ?_⟩) (by assumption) ?_
    rotate_left
    · (intro w hSw; (try dsimp only at hSw); go_simp; try with_reducible rfl)
    try simp only [Act.put, List.setIfInBounds_toArray, List.set_cons_zero, List.set_cons_succ]
    refine wpAnyH_take (i := 28) (oi := _) (v := ?_) rfl (by kernel_rfl) (by kernel_rfl) (by kernel_rfl) (fun _ _ _ h => h) (Or.inl ⟨by rfl, ?_⟩) (by assumption) ?_
    rotate_left
    · (intro w hSw; (try dsimp only at hSw); go_simp; try with_reducible rfl)
    try simp only [Act.put, List.setIfInBounds_toArray, List.set_cons_zero, List.set_cons_succ]
    refine wpAnyH_take (i := 29) (oi := _) (v := ?_) rfl (by kernel_rfl) (by kernel_rfl) (by kernel_rfl) (fun _ _ _ h => h) (Or.inl ⟨by rfl, ?_⟩) (by assumption) ?_
    rotate_left
    · (intro w hSw; (try dsimp only at hSw); go_simp; try with_reducible rfl)
    try simp only [Act.put, List.setIfInBounds_toArray, List.set_cons_zero, List.set_cons_succ]
    refine wpAnyH_take (i := 30) (oi := _) (v := ?_) rfl (by kernel_rfl) (by kernel_rfl) (by kernel_rfl) (fun _ _ _ h => h) (Or.inl ⟨by rfl, ?_⟩) (by assumption) ?_
    rotate_left
    · (intro w hSw; (try dsimp only at hSw); go_simp; try with_reducible rfl)
    try simp only [Act.put, List.setIfInBounds_toArray, List.set_cons_zero, List.set_cons_succ]
    refine wpAnyH_take (i := 31) (oi := _) (v := ?_) rfl (by kernel_rfl) (by kernel_rfl) (by kernel_rfl) (fun _ _ _ h => h) (Or.inl ⟨by rfl, ?_⟩) (by assumption) ?_
    rotate_left
    · (intro w hSw; (try dsimp only at hSw); go_simp; try with_reducible rfl)
    try simp only [Act.put, List.setIfInBounds_toArray, List.set_cons_zero, List.set_cons_succ]
    refine wpAnyH_take (i := 32) (oi := _) (v := ?_) rfl (by kernel_rfl) (by kernel_rfl) (by kernel_rfl) (fun _ _ _ h => h) (Or.inl ⟨by rfl, ?_⟩) (by assumption) ?_
    rotate_left
    · (intro w hSw; (try dsimp only at hSw); go_simp; try with_reducible rfl)
    try simp only [Act.put, List.setIfInBounds_toArray, List.set_cons_zero, List.set_cons_succ]
    refine wpAnyH_take (i := 33) (oi := _) (v := ?_) rfl (by kernel_rfl) (by kernel_rfl) (by kernel_rfl) (fun _ _ _ h => h) (Or.inl ⟨by rfl, ?_⟩) (by assumption) ?_
    rotate_left
    · (intro w hSw; (try dsimp only at hSw); go_simp; try with_reducible rfl)
    try simp only [Act.put, List.setIfInBounds_toArray, List.set_cons_zero, List.set_cons_succ]
    refine wpAnyH_take (i := 34) (oi := _) (v := ?_) rfl (by kernel_rfl) (by kernel_rfl) (by kernel_rfl) (fun _ _ _ h => h) (Or.inl ⟨by rfl, ?_⟩) (by assumption) ?_
    rotate_left
    · (intro w hSw; (try dsimp only at hSw); go_simp; try with_reducible rfl)
    try simp only [Act.put, List.setIfInBounds_toArray, List.set_cons_zero, List.set_cons_succ]
    refine wpAnyH_take (i := 35) (oi := _) (v := ?_) rfl (by kernel_rfl) (by kernel_rfl) (by kernel_rfl) (fun _ _ _ h => h) (Or.inl ⟨by rfl, ?_⟩) (by assumption) ?_
    rotate_left
    · (intro w hSw; (try dsimp only at hSw); go_simp; try with_reducible rfl)
    try simp only [Act.put, List.setIfInBounds_toArray, List.set_cons_zero, List.set_cons_succ]
    refine wpAnyH_take (i := 36) (oi := _) (v := ?_) rfl (by kernel_rfl) (by kernel_rfl) (by kernel_rfl) (fun _ _ _ h => h) (Or.inl ⟨by rfl, ?_⟩) (by assumption) ?_
    rotate_left
    · (intro w hSw; (try dsimp only at hSw); go_simp; try with_reducible rfl)
    try simp only [Act.put, List.setIfInBounds_toArray, List.set_cons_zero, List.set_cons_succ]
    refine wpAnyH_take (i := 37) (oi := _) (v := ?_) rfl (by kernel_rfl) (by kernel_rfl) (by kernel_rfl) (fun _ _ _ h => h) (Or.inl ⟨by rfl, ?_⟩) (by assumption) ?_
    rotate_left
    · (intro w hSw; (try dsimp only at hSw); go_simp; try with_reducible rfl)
    try simp only [Act.put, List.setIfInBounds_toArray, List.set_cons_zero, List.set_cons_succ]
    refine wpAnyH_take (i := 38) (oi := _) (v := ?_) rfl (by kernel_rfl) (by kernel_rfl) (by kernel_rfl) (fun _ _ _ h => h) (Or.inl ⟨by rfl, ?_⟩) (by assumption) ?_
    rotate_left
    · (intro w hSw; (try dsimp only at hSw); go_simp; try with_reducible rfl)
    try simp only [Act.put, List.setIfInBounds_toArray, List.set_cons_zero, List.set_cons_succ]
    refine wpAnyH_take (i := 39) (oi := _) (v := ?_) rfl (by kernel_rfl) (by kernel_rfl) (by kernel_rfl) (fun _ _ _ h => h) (Or.inl ⟨by rfl, ?_⟩) (by assumption) ?_
    rotate_left
    · (intro w hSw; (try dsimp only at hSw); go_simp; try with_reducible rfl)
    try simp only [Act.put, List.setIfInBounds_toArray, List.set_cons_zero, List.set_cons_succ]
    refine wpAnyH_take (i := 40) (oi := _) (v := ?_) rfl (by kernel_rfl) (by kernel_rfl) (by kernel_rfl) (fun _ _ _ h => h) (Or.inl ⟨by rfl, ?_⟩) (by assumption) ?_
    rotate_left
    · (intro w hSw; (try dsimp only at hSw); go_simp; try with_reducible rfl)
    try simp only [Act.put, List.setIfInBounds_toArray, List.set_cons_zero, List.set_cons_succ]
    refine wpAnyH_take (i := 41) (oi := _) (v := ?_) rfl (by kernel_rfl) (by kernel_rfl) (by kernel_rfl) (fun _ _ _ h => h) (Or.inl ⟨by rfl, ?_⟩) (by assumption) ?_
    rotate_left
    · (intro w hSw; (try dsimp only at hSw); go_simp; try with_reducible rfl)
    try simp only [Act.put, List.setIfInBounds_toArray, List.set_cons_zero, List.set_cons_succ]
    refine wpAnyH_take (i := 42) (oi := _) (v := ?_) rfl (by kernel_rfl) (by kernel_rfl) (by kernel_rfl) (fun _ _ _ h => h) (Or.inl ⟨by rfl, ?_⟩) (by assumption) ?_
    rotate_left
    · (intro w hSw; (try dsimp only at hSw); go_simp; try with_reducible rfl)
    try simp only [Act.put, List.setIfInBounds_toArray, List.set_cons_zero, List.set_cons_succ]
    refine wpAnyH_take (i := 43) (oi := _) (v := ?_) rfl (by kernel_rfl) (by kernel_rfl) (by kernel_rfl) (fun _ _ _ h => h) (Or.inl ⟨by rfl, ?_⟩) (by assumption) ?_
    rotate_left
    · (intro w hSw; (try dsimp only at hSw); go_simp; try with_reducible rfl)
    try simp only [Act.put, List.setIfInBounds_toArray, List.set_cons_zero, List.set_cons_succ]
    refine wpAnyH_ready (rs := [44]) (by kernel_rfl) (by simp) ?_
    refine AllReadyH.cons (o := _) rfl (fun KK hKK => ?_) AllReadyH.nil
    go_simp
    try go_wp2_with fail
    refine hKK.out _ _ ?_ (fun hHeld2 => ?_)
    · (try dsimp only); first | exact HS9.out _ (Below.refl _ _) | (refine HS9.out _ ?_; go_grown; done)
    refine wpAnyH_take (i := 45) (oi := _) (v := ?_) rfl (by kernel_rfl) (by kernel_rfl) (by kernel_rfl) (fun _ _ _ h => h) (Or.inl ⟨by rfl, ?_⟩) (by assumption) ?_
    rotate_left
    · (intro w hSw; (try dsimp only at hSw); go_simp; try with_reducible rfl)
    try simp only [Act.put, List.setIfInBounds_toArray, List.set_cons_zero, List.set_cons_succ]
    refine wpAnyH_done (by kernel_rfl) ?_ _
    go_upto_region 15 with (fail)
    obtain ⟨gl, hgl⟩ : ∃ x, w.heap.size = x := ⟨_, rfl⟩
    have HG := Lib.hid (four_cells w 109 x y (x + u) y (x + u) (y + v) x (y + v))
    have bG : Below w.heap.size w (w.alloc (.cells #[.int .i64 x, .int .i64 y, .int .i64 (x + u), .int .i64 y, .int .i64 (x + u), .int .i64 (y + v), .int .i64 x, .int .i64 (y + v)] 109)) := by go_grown
    have zG : (w.alloc (.cells #[.int .i64 x, .int .i64 y, .int .i64 (x + u), .int .i64 y, .int .i64 (x + u), .int .i64 (y + v), .int .i64 x, .int .i64 (y + v)] 109)).heap.size = w.heap.size + 1 := by simp
    rw [hgl] at HG ⊢
    generalize w.alloc (.cells #[.int .i64 x, .int .i64 y, .int .i64 (x + u), .int .i64 y, .int .i64 (x + u), .int .i64 (y + v), .int .i64 x, .int .i64 (y + v)] 109) = W at HG bG zG ⊢
    have glW : gl < W.heap.size := by omega
    have glX : gl ≠ X := by omega
    have lXW : X < W.heap.size := by omega
    have HXW := Lib.hid lXW
    have hW := HH.out.on bG
    have k5 := hW.blk.1 5 _ rfl
    have fz := hW.blk.2.1
    have HHW := Lib.hid hW
    have HBW := Lib.hid bG
    have hBW : B ≤ W.heap.size := Nat.le_trans hB bG.size
    have H00 := Lib.hid (show RcAt W X P a0 c0 a11 c11 a12 c12 [(x, y), (x + u, y), (x + u, y + v), (x, y + v)] 0 (some ⟨W.heap.size, 0, none⟩) 0 ((W.setCell ⟨X, 5, none⟩ (.slice (some ⟨W.heap.size, 0, none⟩) 0 0)).alloc (.cells #[] 109)) from by
      have hr := lit_ptsJ W #[] (l := []) (n := 0) rfl (by omega) rfl
      have e := World.setCell_alloc_past (.cells #[] 109) X 5 (.slice (some ⟨W.heap.size, 0, none⟩) 0 0) (show X < W.heap.size by omega)
      refine ⟨(Blk.put (o := 5) (P := [_, _, _, _, _]) hW.blk rfl (.slice (some ⟨W.heap.size, 0, none⟩) 0 0)).alloc _, (turns_set (S := fun b => b = X) (Turns.refl _ _) rfl _ _).trans (Turns.of_below (by go_grown)), ?_⟩
      rw [← e]
      exact row_set hr (fun hx => by have := List.mem_singleton.1 (show X ∈ [W.heap.size] from hx); omega) 5 _)
    clear hW bG zG hgl
    go_upto_region 16 with (fail)
    clear k5 fz
    generalize (W.setCell ⟨X, 5, none⟩ (.slice (some ⟨W.heap.size, 0, none⟩) 0 0)).alloc (.cells #[] 109) = W3 at H00 ⊢
    go_wp2_with fail
    go_loopw [9] (fun v9 wr => ∃ (k : Nat) (a' : Option Addr) (c' : Nat), k ≤ 4 ∧ v9 = .int .i64 (k : Int) ∧ RcAt W X P a0 c0 a11 c11 a12 c12 [(x, y), (x + u, y), (x + u, y + v), (x, y + v)] k a' c' wr) (fun v9 _ => 4 - (intOf v9).toNat)
    case atStart => exact ⟨0, _, _, by omega, rfl, H00.out.on (by go_grown)⟩
    case round =>
      obtain ⟨k, a', c', hk, rfl, hRc⟩ := hrel
      have HRc := Lib.hid hRc
      clear hRc
      by_cases hlt : k < 4
      · obtain ⟨xk, hxk⟩ : ∃ t, pX [(x, y), (x + u, y), (x + u, y + v), (x, y + v)] k = t := ⟨_, rfl⟩
        obtain ⟨yk, hyk⟩ : ∃ t, pY [(x, y), (x + u, y), (x + u, y + v), (x, y + v)] k = t := ⟨_, rfl⟩
        have HkL := Lib.hid (show k < [(x, y), (x + u, y), (x + u, y + v), (x, y + v)].length from hlt)
        have HPk := Lib.hid (And.intro hxk hyk)
        have HBk := Lib.hid (show (-20000 ≤ xk ∧ xk ≤ 20000) ∧ (-20000 ≤ yk ∧ yk ≤ 20000) from by
          have : k = 0 ∨ k = 1 ∨ k = 2 ∨ k = 3 := by omega
          rcases this with rfl | rfl | rfl | rfl <;> simp [pX, pY] at hxk hyk <;> omega)
        have HST := Lib.hid (fun (V : World) (bx : Blk V X [.slice a0 P.now.st.length c0, .int .i64 P.now.q, .int .i64 P.now.s, .int .i64 P.now.dx, .int .i64 P.now.dy, .slice a' k c', .int .i64 P.now.gray, .int .i64 P.now.x0, .int .i64 P.now.y0, .int .i64 P.now.x1, .int .i64 P.now.y1, .slice a11 P.saved.length c11, .slice a12 P.objs.length c12]) (T : Turns W V (fun b => b = X)) => (show (V.cell? ⟨X, 1, none⟩ = some (.int .i64 P.now.q) ∧ V.cell? ⟨X, 2, none⟩ = some (.int .i64 P.now.s) ∧ V.cell? ⟨X, 3, none⟩ = some (.int .i64 P.now.dx) ∧ V.cell? ⟨X, 4, none⟩ = some (.int .i64 P.now.dy)) ∧ V.cell? ⟨gl, k * 2, none⟩ = some (.int .i64 xk) ∧ V.cell? ⟨gl, k * 2 + 1, none⟩ = some (.int .i64 yk) from by
          obtain ⟨h1, h2⟩ := HG.out k hlt
          rw [hxk] at h1
          rw [hyk] at h2
          exact ⟨⟨bx.1 1 _ rfl, bx.1 2 _ rfl, bx.1 3 _ rfl, bx.1 4 _ rfl⟩, (T.cell glW glX _).trans h1, (T.cell glW glX _).trans h2⟩))
        have HST2 := Lib.hid (fun (a2 : Option Addr) (d2 : Nat) (V : World) (bx : Blk V X [.slice a0 P.now.st.length c0, .int .i64 P.now.q, .int .i64 P.now.s, .int .i64 P.now.dx, .int .i64 P.now.dy, .slice a2 (k + 1) d2, .int .i64 P.now.gray, .int .i64 P.now.x0, .int .i64 P.now.y0, .int .i64 P.now.x1, .int .i64 P.now.y1, .slice a11 P.saved.length c11, .slice a12 P.objs.length c12]) (T : Turns W V (fun b => b = X)) => (show (V.cell? ⟨X, 1, none⟩ = some (.int .i64 P.now.q) ∧ V.cell? ⟨X, 2, none⟩ = some (.int .i64 P.now.s) ∧ V.cell? ⟨X, 3, none⟩ = some (.int .i64 P.now.dx) ∧ V.cell? ⟨X, 4, none⟩ = some (.int .i64 P.now.dy)) ∧ V.cell? ⟨gl, k * 2, none⟩ = some (.int .i64 xk) ∧ V.cell? ⟨gl, k * 2 + 1, none⟩ = some (.int .i64 yk) from by
          obtain ⟨h1, h2⟩ := HG.out k hlt
          rw [hxk] at h1
          rw [hyk] at h2
          exact ⟨⟨bx.1 1 _ rfl, bx.1 2 _ rfl, bx.1 3 _ rfl, bx.1 4 _ rfl⟩, (T.cell glW glX _).trans h1, (T.cell glW glX _).trans h2⟩))
        have HS9 := Lib.hid (fun (V : World) (hb : Below wr.heap.size wr V) => HST.out V (HRc.out.1.keep hb) (HRc.out.2.1.trans (Turns.of_below hb)))
        have z9 := HRc.out.2.1.size
        have k5 := HRc.out.1.1 5 _ rfl
        have kd := (HRc.out.1.keep (show Below wr.heap.size wr wr.drew from by go_grown)).1 5 _ rfl
        have lXr := HRc.out.1.2.2
        have i0 : (0 : Int) ≤ (k : Int) := by omega
        have i1 : (k : Int) < 4 := by omega
        clear hxk hyk
        go_upto_region 19 with (fail)
        refine wp_region_held_drew (S := fun W => (W.cell? ⟨X, 1, none⟩ = some (.int .i64 P.now.q) ∧ W.cell? ⟨X, 2, none⟩ = some (.int .i64 P.now.s) ∧ W.cell? ⟨X, 3, none⟩ = some (.int .i64 P.now.dx) ∧ W.cell? ⟨X, 4, none⟩ = some (.int .i64 P.now.dy)) ∧ W.cell? ⟨gl, k * 2, none⟩ = some (.int .i64 xk) ∧ W.cell? ⟨gl, k * 2 + 1, none⟩ = some (.int .i64 yk)) (by kernel_rfl) (HS9.out _ (by go_grown)) (fun hHeld => ?_)
        refine wpAnyH_take (i := 0) (oi := _) (v := ?_) rfl (by kernel_rfl) (by kernel_rfl) (by kernel_rfl) (fun _ _ _ h => h) (Or.inl ⟨by rfl, ?_⟩) (by assumption) ?_
        rotate_left
        · (intro w hSw; (try dsimp only at hSw); go_simp; try with_reducible rfl)
        try simp only [Act.put, List.setIfInBounds_toArray, List.set_cons_zero, List.set_cons_succ]
        refine wpAnyH_take (i := 1) (oi := _) (v := ?_) rfl (by kernel_rfl) (by kernel_rfl) (by kernel_rfl) (fun _ _ _ h => h) (Or.inl ⟨by rfl, ?_⟩) (by assumption) ?_
        rotate_left
        · (intro w hSw; (try dsimp only at hSw); go_simp; try with_reducible rfl)
        try simp only [Act.put, List.setIfInBounds_toArray, List.set_cons_zero, List.set_cons_succ]
        refine wpAnyH_take (i := 2) (oi := _) (v := ?_) rfl (by kernel_rfl) (by kernel_rfl) (by kernel_rfl) (fun _ _ _ h => h) (Or.inl ⟨by rfl, ?_⟩) (by assumption) ?_
        rotate_left
        · (intro w hSw; (try dsimp only at hSw); go_simp; try with_reducible rfl)
        try simp only [Act.put, List.setIfInBounds_toArray, List.set_cons_zero, List.set_cons_succ]
        refine wpAnyH_take (i := 3) (oi := _) (v := ?_) rfl (by kernel_rfl) (by kernel_rfl) (by kernel_rfl) (fun _ _ _ h => h) (Or.inl ⟨by rfl, ?_⟩) (by assumption) ?_
        rotate_left
        · (intro w hSw; (try dsimp only at hSw); go_simp; try with_reducible rfl)
        try simp only [Act.put, List.setIfInBounds_toArray, List.set_cons_zero, List.set_cons_succ]
        refine wpAnyH_take (i := 5) (oi := _) (v := ?_) rfl (by kernel_rfl) (by kernel_rfl) (by kernel_rfl) (fun _ _ _ h => h) (Or.inl ⟨by rfl, ?_⟩) (by assumption) ?_
        rotate_left
        · (intro w hSw; (try dsimp only at hSw); go_simp; try with_reducible rfl)
        try simp only [Act.put, List.setIfInBounds_toArray, List.set_cons_zero, List.set_cons_succ]
        refine wpAnyH_take (i := 6) (oi := _) (v := ?_) rfl (by kernel_rfl) (by kernel_rfl) (by kernel_rfl) (fun _ _ _ h => h) (Or.inl ⟨by rfl, ?_⟩) (by assumption) ?_
        rotate_left
        · (intro w hSw; (try dsimp only at hSw); go_simp; try with_reducible rfl)
        try simp only [Act.put, List.setIfInBounds_toArray, List.set_cons_zero, List.set_cons_succ]
        refine wpAnyH_take (i := 7) (oi := _) (v := ?_) rfl (by kernel_rfl) (by kernel_rfl) (by kernel_rfl) (fun _ _ _ h => h) (Or.inl ⟨by rfl, ?_⟩) (by assumption) ?_
        rotate_left
        · (intro w hSw; (try dsimp only at hSw); go_simp; try with_reducible rfl)
        try simp only [Act.put, List.setIfInBounds_toArray, List.set_cons_zero, List.set_cons_succ]
        refine wpAnyH_take (i := 8) (oi := _) (v := ?_) rfl (by kernel_rfl) (by kernel_rfl) (by kernel_rfl) (fun _ _ _ h => h) (Or.inl ⟨by rfl, ?_⟩) (by assumption) ?_
        rotate_left
        · (intro w hSw; (try dsimp only at hSw); go_simp; try with_reducible rfl)
        try simp only [Act.put, List.setIfInBounds_toArray, List.set_cons_zero, List.set_cons_succ]
        refine wpAnyH_take (i := 9) (oi := _) (v := ?_) rfl (by kernel_rfl) (by kernel_rfl) (by kernel_rfl) (fun _ _ _ h => h) (Or.inl ⟨by rfl, ?_⟩) (by assumption) ?_
        rotate_left
        · (intro w hSw; (try dsimp only at hSw); go_simp; try with_reducible rfl)
        try simp only [Act.put, List.setIfInBounds_toArray, List.set_cons_zero, List.set_cons_succ]
        refine wpAnyH_take (i := 10) (oi := _) (v := ?_) rfl (by kernel_rfl) (by kernel_rfl) (by kernel_rfl) (fun _ _ _ h => h) (Or.inl ⟨by rfl, ?_⟩) (by assumption) ?_
        rotate_left
        · (intro w hSw; (try dsimp only at hSw); go_simp; try with_reducible rfl)
        try simp only [Act.put, List.setIfInBounds_toArray, List.set_cons_zero, List.set_cons_succ]
        refine wpAnyH_take (i := 11) (oi := _) (v := ?_) rfl (by kernel_rfl) (by kernel_rfl) (by kernel_rfl) (fun _ _ _ h => h) (Or.inl ⟨by rfl, ?_⟩) (by assumption) ?_
        rotate_left
        · (intro w hSw; (try dsimp only at hSw); go_simp; try with_reducible rfl)
        try simp only [Act.put, List.setIfInBounds_toArray, List.set_cons_zero, List.set_cons_succ]
        refine wpAnyH_take (i := 12) (oi := _) (v := ?_) rfl (by kernel_rfl) (by kernel_rfl) (by kernel_rfl) (fun _ _ _ h => h) (Or.inl ⟨by rfl, ?_⟩) (by assumption) ?_
        rotate_left
        · (intro w hSw; (try dsimp only at hSw); go_simp; try with_reducible rfl)
        try simp only [Act.put, List.setIfInBounds_toArray, List.set_cons_zero, List.set_cons_succ]
        refine wpAnyH_ready (rs := [4, 13]) (by kernel_rfl) (by simp) ?_
        refine AllReadyH.cons (o := _) rfl (fun KK hKK => ?_) ?_
        · go_simp
          try go_wp2_with fail
          refine hKK.out _ _ ?_ (fun hHeld2 => ?_)
          · (try dsimp only); first | exact HS7b.out | exact HS7.out | exact HS9.out _ H5.out | exact HS9.out _ (H5.out.alloc H5.out.size _) | (refine HS9.out _ ?_; go_grown; done)
          refine wpAnyH_ready (rs := [13]) (by kernel_rfl) (by simp) ?_
          refine AllReadyH.cons (o := _) rfl (fun KK hKK => ?_) AllReadyH.nil
          (go_simp; go_at_call 66; (with_reducible refine (HC.out _ xk yk HBk.out.1 HBk.out.2).mono ?_); rintro e w5 ⟨rfl, b5⟩; have b5 := on_of (show Below wr.heap.size wr _ from by go_grown) b5; have j5 := (HRc.out.1.keep b5).1 5 _ rfl; have fj := (HRc.out.1.keep b5).2.1; have lX := (HRc.out.1.keep b5).2.2; have z5 := b5.size; have H5 := Lib.hid b5; clear b5)
          try go_wp2_with fail
          refine hKK.out _ _ ?_ (fun hHeld2 => ?_)
          · (try dsimp only); first | exact HS7b.out | exact HS7.out | exact HS9.out _ H5.out | exact HS9.out _ (H5.out.alloc H5.out.size _) | (refine HS9.out _ ?_; go_grown; done)
          refine wpAnyH_ready (rs := [14]) (by kernel_rfl) (by simp) ?_
          refine AllReadyH.cons (o := _) rfl (fun KK hKK => ?_) AllReadyH.nil
          go_simp
          try go_wp2_with fail
          refine hKK.out _ _ ?_ (fun hHeld2 => ?_)
          · (try dsimp only); first | exact HS7b.out | exact HS7.out | exact HS9.out _ H5.out | exact HS9.out _ (H5.out.alloc H5.out.size _) | (refine HS9.out _ ?_; go_grown; done)
          refine wpAnyH_ready (rs := [15]) (by kernel_rfl) (by simp) ?_
          refine AllReadyH.cons (o := _) rfl (fun KK hKK => ?_) AllReadyH.nil
          (refine step_append_sl et_pts rfl _ _ rfl W.heap.size a' k c' (cellsP (([(x, y), (x + u, y), (x + u, y + v), (x, y + v)].take k).map fun q => imP P.now q.1 q.2)) (by rfl) (row_on HRc.out.2.2 (H5.out.alloc H5.out.size _)) (some ⟨w5.heap.size, 0, none⟩) 1 1 [.int .i64 (imX P.now.q P.now.s P.now.dx xk yk), .int .i64 (imY P.now.q P.now.s P.now.dy xk yk)] (by rfl) (by rfl) (Lies.new w5 _ _ rfl) (by simp [Value.oneCell']) (by unfold maxLen; omega) (by omega) (by simp; omega) ?_; intro a2 d2 w7 r7 gr7 sub7; have hh := HRc.out.next HXW.out (H5.out.alloc H5.out.size _) HkL.out HPk.out.1 HPk.out.2 r7 gr7; have HS7 := Lib.hid (HST.out w7 hh.1 hh.2.1); have HS7b := Lib.hid (HST2.out a2 d2 _ hh.2.2.1 hh.2.2.2.1); have k7 := hh.1.1 5 _ rfl; have f7 := hh.1.2.1; have HR := Lib.hid hh.2.2; clear hh r7 gr7 sub7)
          try go_wp2_with fail
          refine hKK.out _ _ ?_ (fun hHeld2 => ?_)
          · (try dsimp only); first | exact HS7b.out | exact HS7.out | exact HS9.out _ H5.out | exact HS9.out _ (H5.out.alloc H5.out.size _) | (refine HS9.out _ ?_; go_grown; done)
          refine wpAnyH_take (i := 16) (oi := _) (v := ?_) rfl (by kernel_rfl) (by kernel_rfl) (by kernel_rfl) (fun _ _ _ h => h) (Or.inl ⟨by rfl, ?_⟩) (by assumption) ?_
          rotate_left
          · (intro w hSw; (try dsimp only at hSw); go_simp; try with_reducible rfl)
          try simp only [Act.put, List.setIfInBounds_toArray, List.set_cons_zero, List.set_cons_succ]
          refine wpAnyH_take (i := 17) (oi := _) (v := ?_) rfl (by kernel_rfl) (by kernel_rfl) (by kernel_rfl) (fun _ _ _ h => h) (Or.inl ⟨by rfl, ?_⟩) (by assumption) ?_
          rotate_left
          · (intro w hSw; (try dsimp only at hSw); go_simp; try with_reducible rfl)
          try simp only [Act.put, List.setIfInBounds_toArray, List.set_cons_zero, List.set_cons_succ]
          refine wpAnyH_ready (rs := [18]) (by kernel_rfl) (by simp) ?_
          refine AllReadyH.cons (o := _) rfl (fun KK hKK => ?_) AllReadyH.nil
          go_simp
          try go_wp2_with fail
          refine hKK.out _ _ ?_ (fun hHeld2 => ?_)
          · (try dsimp only); first | exact HS7b.out | exact HS7.out | exact HS9.out _ H5.out | exact HS9.out _ (H5.out.alloc H5.out.size _) | (refine HS9.out _ ?_; go_grown; done)
          refine wpAnyH_done (by kernel_rfl) ?_ _
          go_wp2_with fail
          go_wp2
          go_roundw
          case rel => exact ⟨k + 1, a2, d2, by omega, by go_num, HR.out⟩
          case measure => simp [intOf]; omega
        refine AllReadyH.cons (o := _) rfl (fun KK hKK => ?_) AllReadyH.nil
        (go_simp; go_at_call 66; (with_reducible refine (HC.out _ xk yk HBk.out.1 HBk.out.2).mono ?_); rintro e w5 ⟨rfl, b5⟩; have b5 := on_of (show Below wr.heap.size wr _ from by go_grown) b5; have j5 := (HRc.out.1.keep b5).1 5 _ rfl; have fj := (HRc.out.1.keep b5).2.1; have lX := (HRc.out.1.keep b5).2.2; have z5 := b5.size; have H5 := Lib.hid b5; clear b5)
        try go_wp2_with fail
        refine hKK.out _ _ ?_ (fun hHeld2 => ?_)
        · (try dsimp only); first | exact HS7b.out | exact HS7.out | exact HS9.out _ H5.out | exact HS9.out _ (H5.out.alloc H5.out.size _) | (refine HS9.out _ ?_; go_grown; done)
        refine wpAnyH_ready (rs := [4, 14]) (by kernel_rfl) (by simp) ?_
        refine AllReadyH.cons (o := _) rfl (fun KK hKK => ?_) ?_
        · go_simp
          try go_wp2_with fail
          refine hKK.out _ _ ?_ (fun hHeld2 => ?_)
          · (try dsimp only); first | exact HS7b.out | exact HS7.out | exact HS9.out _ H5.out | exact HS9.out _ (H5.out.alloc H5.out.size _) | (refine HS9.out _ ?_; go_grown; done)
          refine wpAnyH_ready (rs := [14]) (by kernel_rfl) (by simp) ?_
          refine AllReadyH.cons (o := _) rfl (fun KK hKK => ?_) AllReadyH.nil
          go_simp
          try go_wp2_with fail
          refine hKK.out _ _ ?_ (fun hHeld2 => ?_)
          · (try dsimp only); first | exact HS7b.out | exact HS7.out | exact HS9.out _ H5.out | exact HS9.out _ (H5.out.alloc H5.out.size _) | (refine HS9.out _ ?_; go_grown; done)
          refine wpAnyH_ready (rs := [15]) (by kernel_rfl) (by simp) ?_
          refine AllReadyH.cons (o := _) rfl (fun KK hKK => ?_) AllReadyH.nil
          (refine step_append_sl et_pts rfl _ _ rfl W.heap.size a' k c' (cellsP (([(x, y), (x + u, y), (x + u, y + v), (x, y + v)].take k).map fun q => imP P.now q.1 q.2)) (by rfl) (row_on HRc.out.2.2 (H5.out.alloc H5.out.size _)) (some ⟨w5.heap.size, 0, none⟩) 1 1 [.int .i64 (imX P.now.q P.now.s P.now.dx xk yk), .int .i64 (imY P.now.q P.now.s P.now.dy xk yk)] (by rfl) (by rfl) (Lies.new w5 _ _ rfl) (by simp [Value.oneCell']) (by unfold maxLen; omega) (by omega) (by simp; omega) ?_; intro a2 d2 w7 r7 gr7 sub7; have hh := HRc.out.next HXW.out (H5.out.alloc H5.out.size _) HkL.out HPk.out.1 HPk.out.2 r7 gr7; have HS7 := Lib.hid (HST.out w7 hh.1 hh.2.1); have HS7b := Lib.hid (HST2.out a2 d2 _ hh.2.2.1 hh.2.2.2.1); have k7 := hh.1.1 5 _ rfl; have f7 := hh.1.2.1; have HR := Lib.hid hh.2.2; clear hh r7 gr7 sub7)
          try go_wp2_with fail
          refine hKK.out _ _ ?_ (fun hHeld2 => ?_)
          · (try dsimp only); first | exact HS7b.out | exact HS7.out | exact HS9.out _ H5.out | exact HS9.out _ (H5.out.alloc H5.out.size _) | (refine HS9.out _ ?_; go_grown; done)
          refine wpAnyH_take (i := 16) (oi := _) (v := ?_) rfl (by kernel_rfl) (by kernel_rfl) (by kernel_rfl) (fun _ _ _ h => h) (Or.inl ⟨by rfl, ?_⟩) (by assumption) ?_
          rotate_left
          · (intro w hSw; (try dsimp only at hSw); go_simp; try with_reducible rfl)
          try simp only [Act.put, List.setIfInBounds_toArray, List.set_cons_zero, List.set_cons_succ]
          refine wpAnyH_take (i := 17) (oi := _) (v := ?_) rfl (by kernel_rfl) (by kernel_rfl) (by kernel_rfl) (fun _ _ _ h => h) (Or.inl ⟨by rfl, ?_⟩) (by assumption) ?_
          rotate_left
          · (intro w hSw; (try dsimp only at hSw); go_simp; try with_reducible rfl)
          try simp only [Act.put, List.setIfInBounds_toArray, List.set_cons_zero, List.set_cons_succ]
          refine wpAnyH_ready (rs := [18]) (by kernel_rfl) (by simp) ?_
          refine AllReadyH.cons (o := _) rfl (fun KK hKK => ?_) AllReadyH.nil
          go_simp
          try go_wp2_with fail
          refine hKK.out _ _ ?_ (fun hHeld2 => ?_)
          · (try dsimp only); first | exact HS7b.out | exact HS7.out | exact HS9.out _ H5.out | exact HS9.out _ (H5.out.alloc H5.out.size _) | (refine HS9.out _ ?_; go_grown; done)
          refine wpAnyH_done (by kernel_rfl) ?_ _
          go_wp2_with fail
          go_wp2
          go_roundw
          case rel => exact ⟨k + 1, a2, d2, by omega, by go_num, HR.out⟩
          case measure => simp [intOf]; omega
        refine AllReadyH.cons (o := _) rfl (fun KK hKK => ?_) AllReadyH.nil
        go_simp
        try go_wp2_with fail
        refine hKK.out _ _ ?_ (fun hHeld2 => ?_)
        · (try dsimp only); first | exact HS7b.out | exact HS7.out | exact HS9.out _ H5.out | exact HS9.out _ (H5.out.alloc H5.out.size _) | (refine HS9.out _ ?_; go_grown; done)
        refine wpAnyH_ready (rs := [4]) (by kernel_rfl) (by simp) ?_
        refine AllReadyH.cons (o := _) rfl (fun KK hKK => ?_) AllReadyH.nil
        go_simp
        try go_wp2_with fail
        refine hKK.out _ _ ?_ (fun hHeld2 => ?_)
        · (try dsimp only); first | exact HS7b.out | exact HS7.out | exact HS9.out _ H5.out | exact HS9.out _ (H5.out.alloc H5.out.size _) | (refine HS9.out _ ?_; go_grown; done)
        refine wpAnyH_ready (rs := [15]) (by kernel_rfl) (by simp) ?_
        refine AllReadyH.cons (o := _) rfl (fun KK hKK => ?_) AllReadyH.nil
        (refine step_append_sl et_pts rfl _ _ rfl W.heap.size a' k c' (cellsP (([(x, y), (x + u, y), (x + u, y + v), (x, y + v)].take k).map fun q => imP P.now q.1 q.2)) (by rfl) (row_on HRc.out.2.2 (H5.out.alloc H5.out.size _)) (some ⟨w5.heap.size, 0, none⟩) 1 1 [.int .i64 (imX P.now.q P.now.s P.now.dx xk yk), .int .i64 (imY P.now.q P.now.s P.now.dy xk yk)] (by rfl) (by rfl) (Lies.new w5 _ _ rfl) (by simp [Value.oneCell']) (by unfold maxLen; omega) (by omega) (by simp; omega) ?_; intro a2 d2 w7 r7 gr7 sub7; have hh := HRc.out.next HXW.out (H5.out.alloc H5.out.size _) HkL.out HPk.out.1 HPk.out.2 r7 gr7; have HS7 := Lib.hid (HST.out w7 hh.1 hh.2.1); have HS7b := Lib.hid (HST2.out a2 d2 _ hh.2.2.1 hh.2.2.2.1); have k7 := hh.1.1 5 _ rfl; have f7 := hh.1.2.1; have HR := Lib.hid hh.2.2; clear hh r7 gr7 sub7)
        try go_wp2_with fail
        refine hKK.out _ _ ?_ (fun hHeld2 => ?_)
        · (try dsimp only); first | exact HS7b.out | exact HS7.out | exact HS9.out _ H5.out | exact HS9.out _ (H5.out.alloc H5.out.size _) | (refine HS9.out _ ?_; go_grown; done)
        refine wpAnyH_take (i := 16) (oi := _) (v := ?_) rfl (by kernel_rfl) (by kernel_rfl) (by kernel_rfl) (fun _ _ _ h => h) (Or.inl ⟨by rfl, ?_⟩) (by assumption) ?_
        rotate_left
        · (intro w hSw; (try dsimp only at hSw); go_simp; try with_reducible rfl)
        try simp only [Act.put, List.setIfInBounds_toArray, List.set_cons_zero, List.set_cons_succ]
        refine wpAnyH_take (i := 17) (oi := _) (v := ?_) rfl (by kernel_rfl) (by kernel_rfl) (by kernel_rfl) (fun _ _ _ h => h) (Or.inl ⟨by rfl, ?_⟩) (by assumption) ?_
        rotate_left
        · (intro w hSw; (try dsimp only at hSw); go_simp; try with_reducible rfl)
        try simp only [Act.put, List.setIfInBounds_toArray, List.set_cons_zero, List.set_cons_succ]
        refine wpAnyH_ready (rs := [18]) (by kernel_rfl) (by simp) ?_
        refine AllReadyH.cons (o := _) rfl (fun KK hKK => ?_) AllReadyH.nil
        go_simp
        try go_wp2_with fail
        refine hKK.out _ _ ?_ (fun hHeld2 => ?_)
        · (try dsimp only); first | exact HS7b.out | exact HS7.out | exact HS9.out _ H5.out | exact HS9.out _ (H5.out.alloc H5.out.size _) | (refine HS9.out _ ?_; go_grown; done)
        refine wpAnyH_done (by kernel_rfl) ?_ _
        go_wp2_with fail
        go_wp2
        go_roundw
        case rel => exact ⟨k + 1, a2, d2, by omega, by go_num, HR.out⟩
        case measure => simp [intOf]; omega
      · obtain rfl : k = 4 := by omega
        have HR := Lib.hid ((HHW.out.closeR hBW hX HRc.out.2.1 (l := [(x, y), (x + u, y), (x + u, y + v), (x, y + v)].map fun q : Int × Int => imP P.now q.1 q.2) HRc.out.1 HRc.out.2.2).from (HBW.out.mono hB))
        go_wp2
        go_ret
        exact HR.out
end Go.Proofs.YtjmfgbbngocodaaGreat.Own

