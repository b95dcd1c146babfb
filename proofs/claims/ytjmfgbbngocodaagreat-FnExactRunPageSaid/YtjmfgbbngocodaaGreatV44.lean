/-
  Texts of this seat, laid together: SpD
-/
import Derived.Test.YtjmfgbbngocodaaGreatV40
namespace Go.Proofs.YtjmfgbbngocodaaGreat.Own
open Go.ChangeShapes Go.WideShapes Go.ChangeAt Go.RowKit
open Kit Slabs Ints Stack Point Turn Join Pts Box Push Take Opn SOp
set_option linter.unusedVariables false
set_option linter.unusedSimpArgs false
set_option linter.unnecessarySimpa false
set_option maxRecDepth 100000
attribute [local go_sem ↓] hload_Graphics hload_Object hstore_Graphics hstore_Object hload_Page hstore_Page
theorem far_off {w : World} {X o p : Nat} {v : Value} (h : o ≠ p) : (w.setCell ⟨X, p, none⟩ v).cell? ⟨X, o, none⟩ = w.cell? ⟨X, o, none⟩ := by
  apply World.cell?_setCell_other
  intro e
  apply h
  injection e with _ e _
  exact e.symm
set_option maxHeartbeats 4000000 in
theorem sp_line {w : World} {B X : Nat} {P : Pg} (h : PgAt w B X P) (hB : B ≤ w.heap.size) (hX : B ≤ X) (hl : P.now.path.length ≤ 8) (ht : tokB P.now.q P.now.s P.now.dx P.now.dy = true) (s : ByteArray) (hk : opN s = some 2) (g2 c2 : Nat) (x y : Int) (hg : g2 < w.heap.size) (hgX : g2 ≠ X) (hap : ∀ v, w.cell? ⟨X, 5, none⟩ = some v → g2 ∉ rowL v) (hx : w.cell? ⟨g2, 0, none⟩ = some (.int .i64 x)) (hy : w.cell? ⟨g2, 1, none⟩ = some (.int .i64 y)) (bx : -9999 ≤ x ∧ x ≤ 9999) (bY : -9999 ≤ y ∧ y ≤ 9999) :
    Calls Tryz.prog 31 #[.pointer (some ⟨X, 0, none⟩), .string s, .slice (some ⟨g2, 0, none⟩) 2 c2] w (OpRes B X (if P.now.path.length = 0 then none else some (linM P x y)) w) := by
  obtain ⟨a0, c0, f0, a5, c5, P5, a11, c11, P11, f11, a12, c12, P12, f12, h⟩ := h.flat
  obtain ⟨q0, q1, q2, q3, q4, q5, q6, q7, q8, q9, q10, q11⟩ := nm12 hk
  have hXl := h.blk.2.2
  obtain ⟨n, hN⟩ : ∃ n, P.now.path.length = n := ⟨_, rfl⟩
  rw [hN] at hl ⊢
  have HK := Lib.hid (fun (W : World) (hb : Below w.heap.size w W) => (show (W.cell? ⟨X, 1, none⟩ = some (.int .i64 P.now.q) ∧ W.cell? ⟨X, 2, none⟩ = some (.int .i64 P.now.s) ∧ W.cell? ⟨X, 3, none⟩ = some (.int .i64 P.now.dx) ∧ W.cell? ⟨X, 4, none⟩ = some (.int .i64 P.now.dy)) ∧ W.cell? ⟨X, 5, none⟩ = some (.slice a5 n c5) ∧ ∀ o, W.frozen? ⟨X, o, none⟩ = false from by
    have k := h.blk.keep hb
    rw [← hN]
    exact ⟨⟨k.1 1 _ rfl, k.1 2 _ rfl, k.1 3 _ rfl, k.1 4 _ rfl⟩, k.1 5 _ rfl, k.2.1⟩))
  obtain ⟨⟨t1, t2, t3, t4⟩, k5, fz⟩ := HK.out w (Below.refl _ _)
  by_cases h0 : n = 0
  · subst h0
    have HN : Hid (OpRes B X none w (.returned (.bool false)) w) := Lib.hid ⟨rfl, (Below.refl _ _).mono hB, fun P' hP => by cases hP⟩
    clear h hk ht hN
    go_enter Tryz.func31, Tryz.ntmps31
    go_wp2
    go_ret
    exact HN.out
  · rw [if_neg h0]
    have n0 : ((n : Int) == 0) = false := by simp; omega
    have HR5 := Lib.hid (fun (W : World) (hb : Below w.heap.size w W) => (show W.ownsRow B 109 2 (.slice a5 n c5) n P5 from by rw [← hN]; exact row_on h.r5 hb))
    have HF := Lib.hid (fun (w5 w7 : World) (b5 : Below w.heap.size w w5) (a2 : Option Addr) (d2 : Nat) (r7 : w7.ownsRow B 109 2 (.slice a2 (n + 1) d2) (n + 1) (P5 ++ [.int .i64 (imX P.now.q P.now.s P.now.dx x y), .int .i64 (imY P.now.q P.now.s P.now.dy x y)])) (gr : w5.grownBy w7 (Value.ownBlock (.slice a5 n c5))) (sub : ∀ b ∈ rowL (.slice a2 (n + 1) d2), b ∈ rowL (.slice a5 n c5) ∨ w5.heap.size ≤ b) => h.line hB hX b5 (imP P.now x y) hN r7 gr sub)
    have HC := Lib.hid (fun (W : World) => image_spec_big P.now.q P.now.s P.now.dx P.now.dy x y W ht (by omega) (by omega))
    have hg5 := hap _ k5
    have HS9 := Lib.hid (fun (W : World) (hb : Below w.heap.size w W) => (show (W.cell? ⟨X, 1, none⟩ = some (.int .i64 P.now.q) ∧ W.cell? ⟨X, 2, none⟩ = some (.int .i64 P.now.s) ∧ W.cell? ⟨X, 3, none⟩ = some (.int .i64 P.now.dx) ∧ W.cell? ⟨X, 4, none⟩ = some (.int .i64 P.now.dy)) ∧ W.cell? ⟨g2, 0, none⟩ = some (.int .i64 x) ∧ W.cell? ⟨g2, 1, none⟩ = some (.int .i64 y) from ⟨(HK.out W hb).1, (cell_on hb hg).trans hx, (cell_on hb hg).trans hy⟩))
    have H7 := Lib.hid (fun (w5 w7 : World) (b5 : Below w.heap.size w w5) (gr : w5.grownBy w7 (Value.ownBlock (.slice a5 n c5))) => (show ((w7.cell? ⟨X, 1, none⟩ = some (.int .i64 P.now.q) ∧ w7.cell? ⟨X, 2, none⟩ = some (.int .i64 P.now.s) ∧ w7.cell? ⟨X, 3, none⟩ = some (.int .i64 P.now.dx) ∧ w7.cell? ⟨X, 4, none⟩ = some (.int .i64 P.now.dy)) ∧ w7.cell? ⟨g2, 0, none⟩ = some (.int .i64 x) ∧ w7.cell? ⟨g2, 1, none⟩ = some (.int .i64 y)) from by
      have b := HS9.out w5 b5
      have hl5 : g2 < w5.heap.size := by have := b5.size; omega
      have hn : Value.ownBlock (.slice a5 n c5) ≠ some g2 := fun e => hg5 (by simp [rowL, e])
      have hm : Value.ownBlock (.slice a5 n c5) ≠ some X := fun e => (h.apart.2.1) (by rw [hN]; simp [rowL, e])
      exact ⟨⟨gr.cell b.1.1 (fun e => hm e.symm), gr.cell b.1.2.1 (fun e => hm e.symm), gr.cell b.1.2.2.1 (fun e => hm e.symm), gr.cell b.1.2.2.2 (fun e => hm e.symm)⟩, gr.cell b.2.1 (fun e => hn e.symm), gr.cell b.2.2 (fun e => hn e.symm)⟩))
    clear h hk ht hN h0 hap hg5 hx hy
    go_enter Tryz.func31, Tryz.ntmps31
    go_upto_region 10 with (fail)
    refine wp_region_held_drew (S := fun W => (W.cell? ⟨X, 1, none⟩ = some (.int .i64 P.now.q) ∧ W.cell? ⟨X, 2, none⟩ = some (.int .i64 P.now.s) ∧ W.cell? ⟨X, 3, none⟩ = some (.int .i64 P.now.dx) ∧ W.cell? ⟨X, 4, none⟩ = some (.int .i64 P.now.dy)) ∧ W.cell? ⟨g2, 0, none⟩ = some (.int .i64 x) ∧ W.cell? ⟨g2, 1, none⟩ = some (.int .i64 y)) (by kernel_rfl) (HS9.out _ (by go_grown)) (fun hHeld => ?_)
    refine wpAnyH_take (i := 0) (oi := _) (v := ?_) rfl (by kernel_rfl) (by kernel_rfl) (by kernel_rfl) (fun _ _ _ h => h) (Or.inl ⟨by rfl, ?_⟩) (by assumption) ?_
    rotate_left
    · (intro w hSw; (try dsimp only at hSw); go_simp; try with_reducible rfl)
    try simp only [Act.put, List.setIfInBounds_toArray, List.set_cons_zero, List.set_cons_succ]
    refine wpAnyH_take (i := 1) (oi := _) (v := ?_) rfl (by kernel_rfl) (by kernel_rfl) (by kernel_rfl) (fun _ _ _ h => h) (Or.inl ⟨by rfl, ?_⟩) (by assumption) ?_
    rotate_left
    · (intro w hSw; (try dsimp only at hSw); go_simp; try with_reducible rfl)
    try simp only [Act.put, List.setIfInBounds_toArray, List.set_cons_zero, List.set_cons_succ]
    refine wpAnyH_take (i := 2) (oi := _) (v := ?_) rfl (by kernel_rfl) (by kernel_rfl) (by kernel_rfl) (fun _ _ _ h => h) (Or.inl ⟨by rfl, ?_⟩) (by assumption) ?_
    rotate_left
    · (intro w hSw; (try dsimp only at hSw); go_simp; try with_reducible rfl)
    try simp only [Act.put, List.setIfInBounds_toArray, List.set_cons_zero, List.set_cons_succ]
    refine wpAnyH_take (i := 3) (oi := _) (v := ?_) rfl (by kernel_rfl) (by kernel_rfl) (by kernel_rfl) (fun _ _ _ h => h) (Or.inl ⟨by rfl, ?_⟩) (by assumption) ?_
    rotate_left
    · (intro w hSw; (try dsimp only at hSw); go_simp; try with_reducible rfl)
    try simp only [Act.put, List.setIfInBounds_toArray, List.set_cons_zero, List.set_cons_succ]
    refine wpAnyH_take (i := 5) (oi := _) (v := ?_) rfl (by kernel_rfl) (by kernel_rfl) (by kernel_rfl) (fun _ _ _ h => h) (Or.inl ⟨by rfl, ?_⟩) (by assumption) ?_
    rotate_left
    · (intro w hSw; (try dsimp only at hSw); go_simp; try with_reducible rfl)
    try simp only [Act.put, List.setIfInBounds_toArray, List.set_cons_zero, List.set_cons_succ]
    refine wpAnyH_take (i := 6) (oi := _) (v := ?_) rfl (by kernel_rfl) (by kernel_rfl) (by kernel_rfl) (fun _ _ _ h => h) (Or.inl ⟨by rfl, ?_⟩) (by assumption) ?_
    rotate_left
    · (intro w hSw; (try dsimp only at hSw); go_simp; try with_reducible rfl)
    try simp only [Act.put, List.setIfInBounds_toArray, List.set_cons_zero, List.set_cons_succ]
    refine wpAnyH_take (i := 7) (oi := _) (v := ?_) rfl (by kernel_rfl) (by kernel_rfl) (by kernel_rfl) (fun _ _ _ h => h) (Or.inl ⟨by rfl, ?_⟩) (by assumption) ?_
    rotate_left
    · (intro w hSw; (try dsimp only at hSw); go_simp; try with_reducible rfl)
    try simp only [Act.put, List.setIfInBounds_toArray, List.set_cons_zero, List.set_cons_succ]
    refine wpAnyH_take (i := 8) (oi := _) (v := ?_) rfl (by kernel_rfl) (by kernel_rfl) (by kernel_rfl) (fun _ _ _ h => h) (Or.inl ⟨by rfl, ?_⟩) (by assumption) ?_
    rotate_left
    · (intro w hSw; (try dsimp only at hSw); go_simp; try with_reducible rfl)
    try simp only [Act.put, List.setIfInBounds_toArray, List.set_cons_zero, List.set_cons_succ]
    refine wpAnyH_take (i := 9) (oi := _) (v := ?_) rfl (by kernel_rfl) (by kernel_rfl) (by kernel_rfl) (fun _ _ _ h => h) (Or.inl ⟨by rfl, ?_⟩) (by assumption) ?_
    rotate_left
    · (intro w hSw; (try dsimp only at hSw); go_simp; try with_reducible rfl)
    try simp only [Act.put, List.setIfInBounds_toArray, List.set_cons_zero, List.set_cons_succ]
    refine wpAnyH_take (i := 10) (oi := _) (v := ?_) rfl (by kernel_rfl) (by kernel_rfl) (by kernel_rfl) (fun _ _ _ h => h) (Or.inl ⟨by rfl, ?_⟩) (by assumption) ?_
    rotate_left
    · (intro w hSw; (try dsimp only at hSw); go_simp; try with_reducible rfl)
    try simp only [Act.put, List.setIfInBounds_toArray, List.set_cons_zero, List.set_cons_succ]
    refine wpAnyH_take (i := 11) (oi := _) (v := ?_) rfl (by kernel_rfl) (by kernel_rfl) (by kernel_rfl) (fun _ _ _ h => h) (Or.inl ⟨by rfl, ?_⟩) (by assumption) ?_
    rotate_left
    · (intro w hSw; (try dsimp only at hSw); go_simp; try with_reducible rfl)
    try simp only [Act.put, List.setIfInBounds_toArray, List.set_cons_zero, List.set_cons_succ]
    refine wpAnyH_take (i := 12) (oi := _) (v := ?_) rfl (by kernel_rfl) (by kernel_rfl) (by kernel_rfl) (fun _ _ _ h => h) (Or.inl ⟨by rfl, ?_⟩) (by assumption) ?_
    rotate_left
    · (intro w hSw; (try dsimp only at hSw); go_simp; try with_reducible rfl)
    try simp only [Act.put, List.setIfInBounds_toArray, List.set_cons_zero, List.set_cons_succ]
    refine wpAnyH_take (i := 13) (oi := _) (v := ?_) rfl (by kernel_rfl) (by kernel_rfl) (by kernel_rfl) (fun _ _ _ h => h) (Or.inl ⟨by rfl, ?_⟩) (by assumption) ?_
    rotate_left
    · (intro w hSw; (try dsimp only at hSw); go_simp; try with_reducible rfl)
    try simp only [Act.put, List.setIfInBounds_toArray, List.set_cons_zero, List.set_cons_succ]
    refine wpAnyH_take (i := 14) (oi := _) (v := ?_) rfl (by kernel_rfl) (by kernel_rfl) (by kernel_rfl) (fun _ _ _ h => h) (Or.inl ⟨by rfl, ?_⟩) (by assumption) ?_
    rotate_left
    · (intro w hSw; (try dsimp only at hSw); go_simp; try with_reducible rfl)
    try simp only [Act.put, List.setIfInBounds_toArray, List.set_cons_zero, List.set_cons_succ]
    refine wpAnyH_take (i := 15) (oi := _) (v := ?_) rfl (by kernel_rfl) (by kernel_rfl) (by kernel_rfl) (fun _ _ _ h => h) (Or.inl ⟨by rfl, ?_⟩) (by assumption) ?_
    rotate_left
    · (intro w hSw; (try dsimp only at hSw); go_simp; try with_reducible rfl)
    try simp only [Act.put, List.setIfInBounds_toArray, List.set_cons_zero, List.set_cons_succ]
    refine wpAnyH_ready (rs := [4, 16]) (by kernel_rfl) (by simp) ?_
    refine AllReadyH.cons (o := _) rfl (fun KK hKK => ?_) ?_
    · go_simp
      try go_wp2_with fail
      refine hKK.out _ _ ?_ (fun hHeld2 => ?_)
      · (try dsimp only); first | exact HS7b.out | exact HS7.out | exact HS9.out _ H5.out | exact HS9.out _ (H5.out.alloc H5.out.size _) | (refine HS9.out _ ?_; go_grown; done)
      refine wpAnyH_ready (rs := [16]) (by kernel_rfl) (by simp) ?_
      refine AllReadyH.cons (o := _) rfl (fun KK hKK => ?_) AllReadyH.nil
      (go_simp; go_at_call 66; (with_reducible refine (HC.out _).mono ?_); rintro e w5 ⟨rfl, b5⟩; have b5 := on_of (show Below w.heap.size w _ from by go_grown) b5; obtain ⟨_, j5, fj⟩ := HK.out w5 b5; have lX := (show X < w5.heap.size from by have := b5.size; omega); have z5 := b5.size; have H5 := Lib.hid b5; clear b5)
      try go_wp2_with fail
      refine hKK.out _ _ ?_ (fun hHeld2 => ?_)
      · (try dsimp only); first | exact HS7b.out | exact HS7.out | exact HS9.out _ H5.out | exact HS9.out _ (H5.out.alloc H5.out.size _) | (refine HS9.out _ ?_; go_grown; done)
      refine wpAnyH_ready (rs := [17]) (by kernel_rfl) (by simp) ?_
      refine AllReadyH.cons (o := _) rfl (fun KK hKK => ?_) AllReadyH.nil
      go_simp
      try go_wp2_with fail
      refine hKK.out _ _ ?_ (fun hHeld2 => ?_)
      · (try dsimp only); first | exact HS7b.out | exact HS7.out | exact HS9.out _ H5.out | exact HS9.out _ (H5.out.alloc H5.out.size _) | (refine HS9.out _ ?_; go_grown; done)
      refine wpAnyH_ready (rs := [18]) (by kernel_rfl) (by simp) ?_
      refine AllReadyH.cons (o := _) rfl (fun KK hKK => ?_) AllReadyH.nil
      (refine step_append_sl et_pts rfl _ _ rfl B a5 n c5 P5 (by rfl) (HR5.out _ (H5.out.alloc H5.out.size _)) (some ⟨w5.heap.size, 0, none⟩) 1 1 [.int .i64 (imX P.now.q P.now.s P.now.dx x y), .int .i64 (imY P.now.q P.now.s P.now.dy x y)] (by rfl) (by rfl) (Lies.new w5 _ _ rfl) (by simp [Value.oneCell']) (by unfold maxLen; omega) (by omega) (by simp; omega) ?_; intro a2 d2 w7 r7 gr7 sub7; have hh := HF.out _ w7 (H5.out.alloc H5.out.size _) a2 d2 r7 gr7 sub7; obtain ⟨⟨k7, f7⟩, hr⟩ := hh; have HR := Lib.hid hr; have HS7 := Lib.hid (H7.out _ w7 (H5.out.alloc H5.out.size _) gr7); have HS7b := Lib.hid (And.intro (show _ ∧ _ ∧ _ ∧ _ from ⟨(far_off (o := 1) (p := 5) (v := .slice a2 (n + 1) d2) (by decide)).trans HS7.out.1.1, (far_off (o := 2) (p := 5) (v := .slice a2 (n + 1) d2) (by decide)).trans HS7.out.1.2.1, (far_off (o := 3) (p := 5) (v := .slice a2 (n + 1) d2) (by decide)).trans HS7.out.1.2.2.1, (far_off (o := 4) (p := 5) (v := .slice a2 (n + 1) d2) (by decide)).trans HS7.out.1.2.2.2⟩) (And.intro ((set_ne2 (v := .slice a2 (n + 1) d2) (o := 5) hgX).trans HS7.out.2.1) ((set_ne2 (v := .slice a2 (n + 1) d2) (o := 5) hgX).trans HS7.out.2.2))); clear hr r7 gr7 sub7)
      try go_wp2_with fail
      refine hKK.out _ _ ?_ (fun hHeld2 => ?_)
      · (try dsimp only); first | exact HS7b.out | exact HS7.out | exact HS9.out _ H5.out | exact HS9.out _ (H5.out.alloc H5.out.size _) | (refine HS9.out _ ?_; go_grown; done)
      refine wpAnyH_take (i := 19) (oi := _) (v := ?_) rfl (by kernel_rfl) (by kernel_rfl) (by kernel_rfl) (fun _ _ _ h => h) (Or.inl ⟨by rfl, ?_⟩) (by assumption) ?_
      rotate_left
      · (intro w hSw; (try dsimp only at hSw); go_simp; try with_reducible rfl)
      try simp only [Act.put, List.setIfInBounds_toArray, List.set_cons_zero, List.set_cons_succ]
      refine wpAnyH_take (i := 20) (oi := _) (v := ?_) rfl (by kernel_rfl) (by kernel_rfl) (by kernel_rfl) (fun _ _ _ h => h) (Or.inl ⟨by rfl, ?_⟩) (by assumption) ?_
      rotate_left
      · (intro w hSw; (try dsimp only at hSw); go_simp; try with_reducible rfl)
      try simp only [Act.put, List.setIfInBounds_toArray, List.set_cons_zero, List.set_cons_succ]
      refine wpAnyH_ready (rs := [21]) (by kernel_rfl) (by simp) ?_
      refine AllReadyH.cons (o := _) rfl (fun KK hKK => ?_) AllReadyH.nil
      go_simp
      try go_wp2_with fail
      refine hKK.out _ _ ?_ (fun hHeld2 => ?_)
      · (try dsimp only); first | exact HS7b.out | exact HS7.out | exact HS9.out _ H5.out | exact HS9.out _ (H5.out.alloc H5.out.size _) | (refine HS9.out _ ?_; go_grown; done)
      refine wpAnyH_done (by kernel_rfl) ?_ _
      go_wp2_with fail
      go_wp2
      go_ret
      exact HR.out
    refine AllReadyH.cons (o := _) rfl (fun KK hKK => ?_) AllReadyH.nil
    (go_simp; go_at_call 66; (with_reducible refine (HC.out _).mono ?_); rintro e w5 ⟨rfl, b5⟩; have b5 := on_of (show Below w.heap.size w _ from by go_grown) b5; obtain ⟨_, j5, fj⟩ := HK.out w5 b5; have lX := (show X < w5.heap.size from by have := b5.size; omega); have z5 := b5.size; have H5 := Lib.hid b5; clear b5)
    try go_wp2_with fail
    refine hKK.out _ _ ?_ (fun hHeld2 => ?_)
    · (try dsimp only); first | exact HS7b.out | exact HS7.out | exact HS9.out _ H5.out | exact HS9.out _ (H5.out.alloc H5.out.size _) | (refine HS9.out _ ?_; go_grown; done)
    refine wpAnyH_ready (rs := [4, 17]) (by kernel_rfl) (by simp) ?_
    refine AllReadyH.cons (o := _) rfl (fun KK hKK => ?_) ?_
    · go_simp
      try go_wp2_with fail
      refine hKK.out _ _ ?_ (fun hHeld2 => ?_)
      · (try dsimp only); first | exact HS7b.out | exact HS7.out | exact HS9.out _ H5.out | exact HS9.out _ (H5.out.alloc H5.out.size _) | (refine HS9.out _ ?_; go_grown; done)
      refine wpAnyH_ready (rs := [17]) (by kernel_rfl) (by simp) ?_
      refine AllReadyH.cons (o := _) rfl (fun KK hKK => ?_) AllReadyH.nil
      go_simp
      try go_wp2_with fail
      refine hKK.out _ _ ?_ (fun hHeld2 => ?_)
      · (try dsimp only); first | exact HS7b.out | exact HS7.out | exact HS9.out _ H5.out | exact HS9.out _ (H5.out.alloc H5.out.size _) | (refine HS9.out _ ?_; go_grown; done)
      refine wpAnyH_ready (rs := [18]) (by kernel_rfl) (by simp) ?_
      refine AllReadyH.cons (o := _) rfl (fun KK hKK => ?_) AllReadyH.nil
      (refine step_append_sl et_pts rfl _ _ rfl B a5 n c5 P5 (by rfl) (HR5.out _ (H5.out.alloc H5.out.size _)) (some ⟨w5.heap.size, 0, none⟩) 1 1 [.int .i64 (imX P.now.q P.now.s P.now.dx x y), .int .i64 (imY P.now.q P.now.s P.now.dy x y)] (by rfl) (by rfl) (Lies.new w5 _ _ rfl) (by simp [Value.oneCell']) (by unfold maxLen; omega) (by omega) (by simp; omega) ?_; intro a2 d2 w7 r7 gr7 sub7; have hh := HF.out _ w7 (H5.out.alloc H5.out.size _) a2 d2 r7 gr7 sub7; obtain ⟨⟨k7, f7⟩, hr⟩ := hh; have HR := Lib.hid hr; have HS7 := Lib.hid (H7.out _ w7 (H5.out.alloc H5.out.size _) gr7); have HS7b := Lib.hid (And.intro (show _ ∧ _ ∧ _ ∧ _ from ⟨(far_off (o := 1) (p := 5) (v := .slice a2 (n + 1) d2) (by decide)).trans HS7.out.1.1, (far_off (o := 2) (p := 5) (v := .slice a2 (n + 1) d2) (by decide)).trans HS7.out.1.2.1, (far_off (o := 3) (p := 5) (v := .slice a2 (n + 1) d2) (by decide)).trans HS7.out.1.2.2.1, (far_off (o := 4) (p := 5) (v := .slice a2 (n + 1) d2) (by decide)).trans HS7.out.1.2.2.2⟩) (And.intro ((set_ne2 (v := .slice a2 (n + 1) d2) (o := 5) hgX).trans HS7.out.2.1) ((set_ne2 (v := .slice a2 (n + 1) d2) (o := 5) hgX).trans HS7.out.2.2))); clear hr r7 gr7 sub7)
      try go_wp2_with fail
      refine hKK.out _ _ ?_ (fun hHeld2 => ?_)
      · (try dsimp only); first | exact HS7b.out | exact HS7.out | exact HS9.out _ H5.out | exact HS9.out _ (H5.out.alloc H5.out.size _) | (refine HS9.out _ ?_; go_grown; done)
      refine wpAnyH_take (i := 19) (oi := _) (v := ?_) rfl (by kernel_rfl) (by kernel_rfl) (by kernel_rfl) (fun _ _ _ h => h) (Or.inl ⟨by rfl, ?_⟩) (by assumption) ?_
      rotate_left
      · (intro w hSw; (try dsimp only at hSw); go_simp; try with_reducible rfl)
      try simp only [Act.put, List.setIfInBounds_toArray, List.set_cons_zero, List.set_cons_succ]
      refine wpAnyH_take (i := 20) (oi := _) (v := ?_) rfl (by kernel_rfl) (by kernel_rfl) (by kernel_rfl) (fun _ _ _ h => h) (Or.inl ⟨by rfl, ?_⟩) (by assumption) ?_
      rotate_left
      · (intro w hSw; (try dsimp only at hSw); go_simp; try with_reducible rfl)
      try simp only [Act.put, List.setIfInBounds_toArray, List.set_cons_zero, List.set_cons_succ]
      refine wpAnyH_ready (rs := [21]) (by kernel_rfl) (by simp) ?_
      refine AllReadyH.cons (o := _) rfl (fun KK hKK => ?_) AllReadyH.nil
      go_simp
      try go_wp2_with fail
      refine hKK.out _ _ ?_ (fun hHeld2 => ?_)
      · (try dsimp only); first | exact HS7b.out | exact HS7.out | exact HS9.out _ H5.out | exact HS9.out _ (H5.out.alloc H5.out.size _) | (refine HS9.out _ ?_; go_grown; done)
      refine wpAnyH_done (by kernel_rfl) ?_ _
      go_wp2_with fail
      go_wp2
      go_ret
      exact HR.out
    refine AllReadyH.cons (o := _) rfl (fun KK hKK => ?_) AllReadyH.nil
    go_simp
    try go_wp2_with fail
    refine hKK.out _ _ ?_ (fun hHeld2 => ?_)
    · (try dsimp only); first | exact HS7b.out | exact HS7.out | exact HS9.out _ H5.out | exact HS9.out _ (H5.out.alloc H5.out.size _) | (refine HS9.out _ ?_; go_grown; done)
    refine wpAnyH_ready (rs := [4]) (by kernel_rfl) (by simp) ?_
    refine AllReadyH.cons (o := _) rfl (fun KK hKK => ?_) AllReadyH.nil
    go_simp
    try go_wp2_with fail
    refine hKK.out _ _ ?_ (fun hHeld2 => ?_)
    · (try dsimp only); first | exact HS7b.out | exact HS7.out | exact HS9.out _ H5.out | exact HS9.out _ (H5.out.alloc H5.out.size _) | (refine HS9.out _ ?_; go_grown; done)
    refine wpAnyH_ready (rs := [18]) (by kernel_rfl) (by simp) ?_
    refine AllReadyH.cons (o := _) rfl (fun KK hKK => ?_) AllReadyH.nil
    (refine step_append_sl et_pts rfl _ _ rfl B a5 n c5 P5 (by rfl) (HR5.out _ (H5.out.alloc H5.out.size _)) (some ⟨w5.heap.size, 0, none⟩) 1 1 [.int .i64 (imX P.now.q P.now.s P.now.dx x y), .int .i64 (imY P.now.q P.now.s P.now.dy x y)] (by rfl) (by rfl) (Lies.new w5 _ _ rfl) (by simp [Value.oneCell']) (by unfold maxLen; omega) (by omega) (by simp; omega) ?_; intro a2 d2 w7 r7 gr7 sub7; have hh := HF.out _ w7 (H5.out.alloc H5.out.size _) a2 d2 r7 gr7 sub7; obtain ⟨⟨k7, f7⟩, hr⟩ := hh; have HR := Lib.hid hr; have HS7 := Lib.hid (H7.out _ w7 (H5.out.alloc H5.out.size _) gr7); have HS7b := Lib.hid (And.intro (show _ ∧ _ ∧ _ ∧ _ from ⟨(far_off (o := 1) (p := 5) (v := .slice a2 (n + 1) d2) (by decide)).trans HS7.out.1.1, (far_off (o := 2) (p := 5) (v := .slice a2 (n + 1) d2) (by decide)).trans HS7.out.1.2.1, (far_off (o := 3) (p := 5) (v := .slice a2 (n + 1) d2) (by decide)).trans HS7.out.1.2.2.1, (far_off (o := 4) (p := 5) (v := .slice a2 (n + 1) d2) (by decide)).trans HS7.out.1.2.2.2⟩) (And.intro ((set_ne2 (v := .slice a2 (n + 1) d2) (o := 5) hgX).trans HS7.out.2.1) ((set_ne2 (v := .slice a2 (n + 1) d2) (o := 5) hgX).trans HS7.out.2.2))); clear hr r7 gr7 sub7)
    try go_wp2_with fail
    refine hKK.out _ _ ?_ (fun hHeld2 => ?_)
    · (try dsimp only); first | exact HS7b.out | exact HS7.out | exact HS9.out _ H5.out | exact HS9.out _ (H5.out.alloc H5.out.size _) | (refine HS9.out _ ?_; go_grown; done)
    refine wpAnyH_take (i := 19) (oi := _) (v := ?_) rfl (by kernel_rfl) (by kernel_rfl) (by kernel_rfl) (fun _ _ _ h => h) (Or.inl ⟨by rfl, ?_⟩) (by assumption) ?_
    rotate_left
    · (intro w hSw; (try dsimp only at hSw); go_simp; try with_reducible rfl)
    try simp only [Act.put, List.setIfInBounds_toArray, List.set_cons_zero, List.set_cons_succ]
    refine wpAnyH_take (i := 20) (oi := _) (v := ?_) rfl (by kernel_rfl) (by kernel_rfl) (by kernel_rfl) (fun _ _ _ h => h) (Or.inl ⟨by rfl, ?_⟩) (by assumption) ?_
    rotate_left
    · (intro w hSw; (try dsimp only at hSw); go_simp; try with_reducible rfl)
    try simp only [Act.put, List.setIfInBounds_toArray, List.set_cons_zero, List.set_cons_succ]
    refine wpAnyH_ready (rs := [21]) (by kernel_rfl) (by simp) ?_
    refine AllReadyH.cons (o := _) rfl (fun KK hKK => ?_) AllReadyH.nil
    go_simp
    try go_wp2_with fail
    refine hKK.out _ _ ?_ (fun hHeld2 => ?_)
    · (try dsimp only); first | exact HS7b.out | exact HS7.out | exact HS9.out _ H5.out | exact HS9.out _ (H5.out.alloc H5.out.size _) | (refine HS9.out _ ?_; go_grown; done)
    refine wpAnyH_done (by kernel_rfl) ?_ _
    go_wp2_with fail
    go_wp2
    go_ret
    exact HR.out
end Go.Proofs.YtjmfgbbngocodaaGreat.Own

