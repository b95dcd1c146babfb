/-
  Texts of this seat, laid together: OpK
-/
import Derived.Test.YtjmfgbbngocodaaGreatV27
namespace Go.Proofs.YtjmfgbbngocodaaGreat.Own
open Go.ChangeShapes Go.WideShapes Go.ChangeAt Go.RowKit
open Kit Slabs Ints Stack Point Turn Join Pts Box
set_option linter.unusedVariables false
set_option linter.unusedSimpArgs false
set_option linter.unnecessarySimpa false
set_option maxRecDepth 100000
attribute [local go_sem ↓] hload_Graphics hload_Object hstore_Graphics hstore_Object hload_Page hstore_Page
theorem row_lies {w : World} {B : Nat} {T : TypeId} {k n : Nat} {a : Option Addr} {c : Nat} {P : List Value} (h : w.ownsRow B T k (.slice a n c) n P) (h0 : n ≠ 0) : Lies w a P := by
  obtain ⟨g, rfl, _, hb, _⟩ := row_cap h h0
  exact .inr ⟨g, 0, rfl, hb.2.2, fun j u hu => by rw [Nat.zero_add]; exact hb.1 j u hu⟩
theorem set_ne2 {w : World} {g X o j : Nat} {v : Value} (h : g ≠ X) : (w.setCell ⟨X, o, none⟩ v).cell? ⟨g, j, none⟩ = w.cell? ⟨g, j, none⟩ := World.cell?_setCell_far _ _ _ _ (fun e => h e.symm)
theorem PgFl.line {w : World} {B X : Nat} {p : Pg} {a0 : Option Addr} {c0 : Nat} {f0 : List Nat} {a5 : Option Addr} {c5 : Nat} {P5 : List Value} {a11 : Option Addr} {c11 : Nat} {P11 : List Value} {f11 : List Nat} {a12 : Option Addr} {c12 : Nat} {P12 : List Value} {f12 : List Nat}
    (h : PgFl w B X p a0 c0 f0 a5 c5 P5 a11 c11 P11 f11 a12 c12 P12 f12) (hB : B ≤ w.heap.size) (hX : B ≤ X) {w5 w7 : World} (b5 : Below w.heap.size w w5) (q : Int × Int) {a' : Option Addr} {c' n : Nat} (hn : p.now.path.length = n)
    (r7 : w7.ownsRow B 109 2 (.slice a' (n + 1) c') (n + 1) (P5 ++ [.int .i64 q.1, .int .i64 q.2])) (gr : w5.grownBy w7 (Value.ownBlock (.slice a5 n c5))) (sub : ∀ b ∈ rowL (.slice a' (n + 1) c'), b ∈ rowL (.slice a5 n c5) ∨ w5.heap.size ≤ b) :
    (w7.cell? ⟨X, 5, none⟩ = some (.slice a5 n c5) ∧ ∀ o, w7.frozen? ⟨X, o, none⟩ = false) ∧ OpRes B X (some (setPath p (p.now.path ++ [q]))) w (.returned (.bool true)) (w7.setCell ⟨X, 5, none⟩ (.slice a' (n + 1) c')) := by
  subst hn
  have h5 := h.on b5
  obtain ⟨nX, nX5, _, d5⟩ := h.apart
  have tt : Turns w5 w7 (fun k => k ∈ rowL (.slice a5 p.now.path.length c5)) := (Turns.of_grown gr).mono (fun k hk => by simpa [rowL] using hk)
  have B7 := h5.blk.turned tt nX5
  have z5 := b5.size
  have z7 := tt.size
  have hXl := h.blk.2.2
  refine ⟨⟨B7.1 5 _ rfl, B7.2.1⟩, rfl, ((b5.mono hB).trans (tt.below (by omega) (fun k hk => (rowL_ge h.r5 k hk).1))).setCell (p := ⟨X, 5, none⟩) hX _, fun P' hP => ?_⟩
  injection hP with hP
  subst hP
  have eL : (p.now.path ++ [q]).length = p.now.path.length + 1 := by simp
  have nX' : X ∉ rowL (.slice a' (p.now.path.length + 1) c') := fun hx => by
    rcases sub X hx with k | k
    · exact nX5 k
    · omega
  have O7 : OwnL (w7.setCell ⟨X, 5, none⟩ (.slice a' (p.now.path.length + 1) c')) (List.replicate (p.now.path.length + 1) KPt) (P5 ++ [.int .i64 q.1, .int .i64 q.2]) (dP (p.now.path ++ [q])) [] := by
    have := (h.o5 (w7.setCell ⟨X, 5, none⟩ (.slice a' (p.now.path.length + 1) c'))).snoc (own_pt _ q.1 q.2)
    rw [← List.replicate_succ'] at this
    simpa [dP, dPt] using this
  have own5 := row_own2 (row_set r7 nX' 5 (.slice a' (p.now.path.length + 1) c')) O7
  have own5' : Own (w7.setCell ⟨X, 5, none⟩ (.slice a' (p.now.path.length + 1) c')) (.sl KPt) [.slice a' (p.now.path ++ [q]).length c'] (.sl (dP (p.now.path ++ [q]))) (if p.now.path.length + 1 = 0 then [] else rowL (.slice a' (p.now.path.length + 1) c') ++ []) := by rw [eL]; exact own5
  refine h.close (g := { p.now with path := p.now.path ++ [q] }) (by simp; omega) (fun b hb => ?_) rfl (a5' := a') (c5' := c') ?_ own5' (rowF_nodup List.nodup_nil (fun b _ hh => absurd hh List.not_mem_nil)) hXl hB (fun b hb => ?_)
  · rw [heap_set_ne (fun (e : b = X) => nX (e ▸ hb)), tt.block b (by have := h.lt b hb; omega) (fun hk => d5 b hk hb)]
    exact b5.block b (h.lt b hb)
  · have := Blk.put (o := 5) (P := [.slice a0 p.now.st.length c0, .int .i64 p.now.q, .int .i64 p.now.s, .int .i64 p.now.dx, .int .i64 p.now.dy]) B7 rfl (.slice a' (p.now.path.length + 1) c')
    have e9 : pgCells { p with now := { p.now with path := p.now.path ++ [q] } } a0 c0 a' c' a11 c11 a12 c12 = [.slice a0 p.now.st.length c0, .int .i64 p.now.q, .int .i64 p.now.s, .int .i64 p.now.dx, .int .i64 p.now.dy, .slice a' (p.now.path.length + 1) c', .int .i64 p.now.gray, .int .i64 p.now.x0, .int .i64 p.now.y0, .int .i64 p.now.x1, .int .i64 p.now.y1, .slice a11 p.saved.length c11, .slice a12 p.objs.length c12] := by simp [pgCells]
    rw [e9]
    exact this
  · rcases rowF_sub b hb with k | k
    · rcases sub b k with k | k
      · exact .inl k
      · right; omega
    · cases k
set_option maxHeartbeats 4000000 in
theorem op_line {w : World} {B X : Nat} {P : Pg} (h : PgAt w B X P) (hB : B ≤ w.heap.size) (hX : B ≤ X) (hl : P.now.path.length ≤ 8) (ht : tokB P.now.q P.now.s P.now.dx P.now.dy = true) (g2 c2 : Nat) (x y : Int) (hg : g2 < w.heap.size) (hgX : g2 ≠ X) (hap : ∀ v, w.cell? ⟨X, 5, none⟩ = some v → g2 ∉ rowL v) (hx : w.cell? ⟨g2, 0, none⟩ = some (.int .i64 x)) (hy : w.cell? ⟨g2, 1, none⟩ = some (.int .i64 y)) (bx : -9999 ≤ x ∧ x ≤ 9999) (bY : -9999 ≤ y ∧ y ≤ 9999) :
    Calls Tryz.prog 124 #[.pointer (some ⟨X, 0, none⟩), .slice (some ⟨g2, 0, none⟩) 2 c2] w (OpRes B X (if P.now.path.length = 0 then none else some (linM P x y)) w) := by
  obtain ⟨a0, c0, f0, a5, c5, P5, a11, c11, P11, f11, a12, c12, P12, f12, h⟩ := h.flat
  obtain ⟨n, hN⟩ : ∃ n, P.now.path.length = n := ⟨_, rfl⟩
  have k5 := h.blk.1 5 _ rfl
  rw [hN] at k5 hl ⊢
  by_cases h0 : n = 0
  · subst h0
    have HN : Hid (OpRes B X none w (.returned (.bool false)) w) := Lib.hid ⟨rfl, (Below.refl _ _).mono hB, fun P' hP => by cases hP⟩
    clear h hN
    go_enter Tryz.func124, Tryz.ntmps124
    go_wp2
    go_ret
    exact HN.out
  · rw [if_neg h0]
    obtain ⟨A, fA, oA, hL⟩ := h.load
    have bA : Below w.heap.size w (w.alloc (.cells #[.int .i64 x, .int .i64 y] 109)).drew := by go_grown
    have ra := hL w.drew (by go_grown)
    have rb := hL _ bA
    have HA := Lib.hid (oA.under bA)
    have HB := Lib.hid bA
    have hXl := h.blk.2.2
    have n0 : ((n : Int) == 0) = false := by simp; omega
    have HC := Lib.hid (placed_n _ ht HA.out w.heap.size 1 [(x, y)] 1 rfl (by simp) (by simp) (ptcells w 109 x y) (fun i hi => by
      obtain rfl : i = 0 := by simpa using hi
      exact ⟨by simp [pX]; omega, by simp [pY]; omega⟩))
    have hg5 := hap _ k5
    have HS9 := Lib.hid (fun (W : World) (hb : Below w.heap.size w W) => And.intro (((bcell hb).1 g2 0 hg).trans hx) (((bcell hb).1 g2 1 hg).trans hy))
    have HH := Lib.hid h
    have HNn := Lib.hid hN
    have HK := Lib.hid (fun (W : World) (hb : Below w.heap.size w W) => (show W.cell? ⟨X, 5, none⟩ = some (.slice a5 n c5) from by rw [← hN]; exact (h.blk.keep hb).1 5 _ rfl))
    have HR5 := Lib.hid (fun (W : World) (hb : Below w.heap.size w W) => (show W.ownsRow B 109 2 (.slice a5 n c5) n P5 from by rw [← hN]; exact row_on h.r5 hb))
    have H7 := Lib.hid (fun (w5 w7 : World) (b5 : Below w.heap.size w w5) (gr : w5.grownBy w7 (Value.ownBlock (.slice a5 n c5))) => (show (w7.cell? ⟨g2, 0, none⟩ = some (.int .i64 x) ∧ w7.cell? ⟨g2, 1, none⟩ = some (.int .i64 y)) from by
      have b := HS9.out w5 b5
      have hl5 : g2 < w5.heap.size := by have := b5.size; omega
      have hn : Value.ownBlock (.slice a5 n c5) ≠ some g2 := fun e => hg5 (by simp [rowL, e])
      exact ⟨gr.cell b.1 (fun e => hn e.symm), gr.cell b.2 (fun e => hn e.symm)⟩))
    have HF := Lib.hid (fun (w5 w7 : World) (b5 : Below w.heap.size w w5) (a2 : Option Addr) (d2 : Nat) (r7 : w7.ownsRow B 109 2 (.slice a2 (n + 1) d2) (n + 1) (P5 ++ cellsP [imP P.now x y])) (gr : w5.grownBy w7 (Value.ownBlock (.slice a5 n c5))) (sub : ∀ b ∈ rowL (.slice a2 (n + 1) d2), b ∈ rowL (.slice a5 n c5) ∨ w5.heap.size ≤ b) => h.line hB hX b5 (imP P.now x y) hN r7 gr sub)
    clear h oA hL bA ht hN h0 hap hg5 HH
    go_enter Tryz.func124, Tryz.ntmps124
    go_upto_region 3 with (fail)
    refine wp_region_held_drew (S := fun w' => w'.cell? ⟨g2, 0, none⟩ = some (.int .i64 x) ∧ w'.cell? ⟨g2, 1, none⟩ = some (.int .i64 y)) (by kernel_rfl) (HS9.out _ (by go_grown)) (fun hHeld => ?_)
    refine wpAnyH_take (i := 0) (oi := _) (v := ?_) rfl (by kernel_rfl) (by kernel_rfl) (by kernel_rfl) (fun _ _ _ h => h) (Or.inl ⟨by rfl, ?_⟩) (by assumption) ?_
    rotate_left
    · (intro w hSw; (try dsimp only at hSw); go_simp; try with_reducible rfl)
    try simp only [Act.put, List.setIfInBounds_toArray, List.set_cons_zero, List.set_cons_succ]
    refine wpAnyH_take (i := 1) (oi := _) (v := ?_) rfl (by kernel_rfl) (by kernel_rfl) (by kernel_rfl) (fun _ _ _ h => h) (Or.inl ⟨by rfl, ?_⟩) (by assumption) ?_
    rotate_left
    · (intro w hSw; (try dsimp only at hSw); go_simp; try with_reducible rfl)
    try simp only [Act.put, List.setIfInBounds_toArray, List.set_cons_zero, List.set_cons_succ]
    refine wpAnyH_take (i := 2) (oi := _) (v := ?_) rfl (by kernel_rfl) (by kernel_rfl) (by kernel_rfl) (fun _ _ _ h => h) (Or.inl ⟨by rfl, ?_⟩) (by assumption) ?_
    rotate_left
    · (intro w hSw; (try dsimp only at hSw); go_simp; try with_reducible rfl)
    try simp only [Act.put, List.setIfInBounds_toArray, List.set_cons_zero, List.set_cons_succ]
    refine wpAnyH_take (i := 3) (oi := _) (v := ?_) rfl (by kernel_rfl) (by kernel_rfl) (by kernel_rfl) (fun _ _ _ h => h) (Or.inl ⟨by rfl, ?_⟩) (by assumption) ?_
    rotate_left
    · (intro w hSw; (try dsimp only at hSw); go_simp; try with_reducible rfl)
    try simp only [Act.put, List.setIfInBounds_toArray, List.set_cons_zero, List.set_cons_succ]
    refine wpAnyH_take (i := 4) (oi := _) (v := ?_) rfl (by kernel_rfl) (by kernel_rfl) (by kernel_rfl) (fun _ _ _ h => h) (Or.inl ⟨by rfl, ?_⟩) (by assumption) ?_
    rotate_left
    · (intro w hSw; (try dsimp only at hSw); go_simp; try with_reducible rfl)
    try simp only [Act.put, List.setIfInBounds_toArray, List.set_cons_zero, List.set_cons_succ]
    refine wpAnyH_take (i := 6) (oi := _) (v := ?_) rfl (by kernel_rfl) (by kernel_rfl) (by kernel_rfl) (fun _ _ _ h => h) (Or.inl ⟨by rfl, ?_⟩) (by assumption) ?_
    rotate_left
    · (intro w hSw; (try dsimp only at hSw); go_simp; try with_reducible rfl)
    try simp only [Act.put, List.setIfInBounds_toArray, List.set_cons_zero, List.set_cons_succ]
    refine wpAnyH_take (i := 7) (oi := _) (v := ?_) rfl (by kernel_rfl) (by kernel_rfl) (by kernel_rfl) (fun _ _ _ h => h) (Or.inl ⟨by rfl, ?_⟩) (by assumption) ?_
    rotate_left
    · (intro w hSw; (try dsimp only at hSw); go_simp; try with_reducible rfl)
    try simp only [Act.put, List.setIfInBounds_toArray, List.set_cons_zero, List.set_cons_succ]
    refine wpAnyH_take (i := 8) (oi := _) (v := ?_) rfl (by kernel_rfl) (by kernel_rfl) (by kernel_rfl) (fun _ _ _ h => h) (Or.inl ⟨by rfl, ?_⟩) (by assumption) ?_
    rotate_left
    · (intro w hSw; (try dsimp only at hSw); go_simp; try with_reducible rfl)
    try simp only [Act.put, List.setIfInBounds_toArray, List.set_cons_zero, List.set_cons_succ]
    refine wpAnyH_take (i := 10) (oi := _) (v := ?_) rfl (by kernel_rfl) (by kernel_rfl) (by kernel_rfl) (fun _ _ _ h => h) (Or.inl ⟨by rfl, ?_⟩) (by assumption) ?_
    rotate_left
    · (intro w hSw; (try dsimp only at hSw); go_simp; try with_reducible rfl)
    try simp only [Act.put, List.setIfInBounds_toArray, List.set_cons_zero, List.set_cons_succ]
    refine wpAnyH_take (i := 11) (oi := _) (v := ?_) rfl (by kernel_rfl) (by kernel_rfl) (by kernel_rfl) (fun _ _ _ h => h) (Or.inl ⟨by rfl, ?_⟩) (by assumption) ?_
    rotate_left
    · (intro w hSw; (try dsimp only at hSw); go_simp; try with_reducible rfl)
    try simp only [Act.put, List.setIfInBounds_toArray, List.set_cons_zero, List.set_cons_succ]
    refine wpAnyH_take (i := 12) (oi := _) (v := ?_) rfl (by kernel_rfl) (by kernel_rfl) (by kernel_rfl) (fun _ _ _ h => h) (Or.inl ⟨by rfl, ?_⟩) (by assumption) ?_
    rotate_left
    · (intro w hSw; (try dsimp only at hSw); go_simp; try with_reducible rfl)
    try simp only [Act.put, List.setIfInBounds_toArray, List.set_cons_zero, List.set_cons_succ]
    refine wpAnyH_take (i := 13) (oi := _) (v := ?_) rfl (by kernel_rfl) (by kernel_rfl) (by kernel_rfl) (fun _ _ _ h => h) (Or.inl ⟨by rfl, ?_⟩) (by assumption) ?_
    rotate_left
    · (intro w hSw; (try dsimp only at hSw); go_simp; try with_reducible rfl)
    try simp only [Act.put, List.setIfInBounds_toArray, List.set_cons_zero, List.set_cons_succ]
    refine wpAnyH_take (i := 14) (oi := _) (v := ?_) rfl (by kernel_rfl) (by kernel_rfl) (by kernel_rfl) (fun _ _ _ h => h) (Or.inl ⟨by rfl, ?_⟩) (by assumption) ?_
    rotate_left
    · (intro w hSw; (try dsimp only at hSw); go_simp; try with_reducible rfl)
    try simp only [Act.put, List.setIfInBounds_toArray, List.set_cons_zero, List.set_cons_succ]
    refine wpAnyH_take (i := 15) (oi := _) (v := ?_) rfl (by kernel_rfl) (by kernel_rfl) (by kernel_rfl) (fun _ _ _ h => h) (Or.inl ⟨by rfl, ?_⟩) (by assumption) ?_
    rotate_left
    · (intro w hSw; (try dsimp only at hSw); go_simp; try with_reducible rfl)
    try simp only [Act.put, List.setIfInBounds_toArray, List.set_cons_zero, List.set_cons_succ]
    refine wpAnyH_take (i := 16) (oi := _) (v := ?_) rfl (by kernel_rfl) (by kernel_rfl) (by kernel_rfl) (fun _ _ _ h => h) (Or.inl ⟨by rfl, ?_⟩) (by assumption) ?_
    rotate_left
    · (intro w hSw; (try dsimp only at hSw); go_simp; try with_reducible rfl)
    try simp only [Act.put, List.setIfInBounds_toArray, List.set_cons_zero, List.set_cons_succ]
    refine wpAnyH_ready (rs := [5, 9, 17]) (by kernel_rfl) (by simp) ?_
    refine AllReadyH.cons (o := _) rfl (fun KK hKK => ?_) ?_
    · go_simp
      try go_wp2_with fail
      refine hKK.out _ _ ?_ (fun hHeld2 => ?_)
      · (try dsimp only); first | exact HS7b.out | exact HS7.out | exact HS9.out _ H5.out.2 | exact HS9.out _ HB.out | exact HS9.out _ (by go_grown)
      refine wpAnyH_ready (rs := [9, 17]) (by kernel_rfl) (by simp) ?_
      refine AllReadyH.cons (o := _) rfl (fun KK hKK => ?_) ?_
      · go_simp
        try go_wp2_with fail
        refine hKK.out _ _ ?_ (fun hHeld2 => ?_)
        · (try dsimp only); first | exact HS7b.out | exact HS7.out | exact HS9.out _ H5.out.2 | exact HS9.out _ HB.out | exact HS9.out _ (by go_grown)
        refine wpAnyH_ready (rs := [17]) (by kernel_rfl) (by simp) ?_
        refine AllReadyH.cons (o := _) rfl (fun KK hKK => ?_) AllReadyH.nil
        go_simp
        try go_wp2_with fail
        refine hKK.out _ _ ?_ (fun hHeld2 => ?_)
        · (try dsimp only); first | exact HS7b.out | exact HS7.out | exact HS9.out _ H5.out.2 | exact HS9.out _ HB.out | exact HS9.out _ (by go_grown)
        refine wpAnyH_ready (rs := [18]) (by kernel_rfl) (by simp) ?_
        refine AllReadyH.cons (o := _) rfl (fun KK hKK => ?_) AllReadyH.nil
        (go_simp; go_at_call 152; (with_reducible refine (HC.out).mono ?_); rintro e w5 ⟨a', c', rfl, r5, b5⟩; have b05 := on_of HB.out b5; have j5 := HK.out w5 b05; have z5 := b05.size; have H5 := Lib.hid (And.intro r5 b05); clear r5 b5 b05)
        try go_wp2_with fail
        refine hKK.out _ _ ?_ (fun hHeld2 => ?_)
        · (try dsimp only); first | exact HS7b.out | exact HS7.out | exact HS9.out _ H5.out.2 | exact HS9.out _ HB.out | exact HS9.out _ (by go_grown)
        refine wpAnyH_ready (rs := [19]) (by kernel_rfl) (by simp) ?_
        refine AllReadyH.cons (o := _) rfl (fun KK hKK => ?_) AllReadyH.nil
        (refine step_append_sl et_pts rfl _ _ rfl B a5 n c5 P5 (by rfl) (HR5.out w5 H5.out.2) a' 1 c' (cellsP [imP P.now x y]) (by rfl) (by rfl) (row_lies H5.out.1 (by simp)) (cellsP_one _) (by unfold maxLen; omega) (by omega) (by omega) ?_; intro a2 d2 w7 r7 gr7 sub7; have hh := HF.out w5 w7 H5.out.2 a2 d2 r7 gr7 sub7; obtain ⟨⟨k7, f7⟩, hr⟩ := hh; have HR := Lib.hid hr; have HS7 := Lib.hid (H7.out w5 w7 H5.out.2 gr7); have HS7b := Lib.hid (And.intro ((set_ne2 (v := .slice a2 (n + 1) d2) (o := 5) hgX).trans HS7.out.1) ((set_ne2 (v := .slice a2 (n + 1) d2) (o := 5) hgX).trans HS7.out.2)); clear hr r7 gr7 sub7)
        try go_wp2_with fail
        refine hKK.out _ _ ?_ (fun hHeld2 => ?_)
        · (try dsimp only); first | exact HS7b.out | exact HS7.out | exact HS9.out _ H5.out.2 | exact HS9.out _ HB.out | exact HS9.out _ (by go_grown)
        refine wpAnyH_take (i := 20) (oi := _) (v := ?_) rfl (by kernel_rfl) (by kernel_rfl) (by kernel_rfl) (fun _ _ _ h => h) (Or.inl ⟨by rfl, ?_⟩) (by assumption) ?_
        rotate_left
        · (intro w hSw; (try dsimp only at hSw); go_simp; try with_reducible rfl)
        try simp only [Act.put, List.setIfInBounds_toArray, List.set_cons_zero, List.set_cons_succ]
        refine wpAnyH_take (i := 21) (oi := _) (v := ?_) rfl (by kernel_rfl) (by kernel_rfl) (by kernel_rfl) (fun _ _ _ h => h) (Or.inl ⟨by rfl, ?_⟩) (by assumption) ?_
        rotate_left
        · (intro w hSw; (try dsimp only at hSw); go_simp; try with_reducible rfl)
        try simp only [Act.put, List.setIfInBounds_toArray, List.set_cons_zero, List.set_cons_succ]
        refine wpAnyH_take (i := 22) (oi := _) (v := ?_) rfl (by kernel_rfl) (by kernel_rfl) (by kernel_rfl) (fun _ _ _ h => h) (Or.inl ⟨by rfl, ?_⟩) (by assumption) ?_
        rotate_left
        · (intro w hSw; (try dsimp only at hSw); go_simp; try with_reducible rfl)
        try simp only [Act.put, List.setIfInBounds_toArray, List.set_cons_zero, List.set_cons_succ]
        refine wpAnyH_ready (rs := [23]) (by kernel_rfl) (by simp) ?_
        refine AllReadyH.cons (o := _) rfl (fun KK hKK => ?_) AllReadyH.nil
        go_simp
        try go_wp2_with fail
        refine hKK.out _ _ ?_ (fun hHeld2 => ?_)
        · (try dsimp only); first | exact HS7b.out | exact HS7.out | exact HS9.out _ H5.out.2 | exact HS9.out _ HB.out | exact HS9.out _ (by go_grown)
        refine wpAnyH_done (by kernel_rfl) ?_ _
        go_wp2_with fail
        go_wp2
        go_ret
        exact HR.out
      refine AllReadyH.cons (o := _) rfl (fun KK hKK => ?_) AllReadyH.nil
      go_simp
      try go_wp2_with fail
      refine hKK.out _ _ ?_ (fun hHeld2 => ?_)
      · (try dsimp only); first | exact HS7b.out | exact HS7.out | exact HS9.out _ H5.out.2 | exact HS9.out _ HB.out | exact HS9.out _ (by go_grown)
      refine wpAnyH_ready (rs := [9]) (by kernel_rfl) (by simp) ?_
      refine AllReadyH.cons (o := _) rfl (fun KK hKK => ?_) AllReadyH.nil
      go_simp
      try go_wp2_with fail
      refine hKK.out _ _ ?_ (fun hHeld2 => ?_)
      · (try dsimp only); first | exact HS7b.out | exact HS7.out | exact HS9.out _ H5.out.2 | exact HS9.out _ HB.out | exact HS9.out _ (by go_grown)
      refine wpAnyH_ready (rs := [18]) (by kernel_rfl) (by simp) ?_
      refine AllReadyH.cons (o := _) rfl (fun KK hKK => ?_) AllReadyH.nil
      (go_simp; go_at_call 152; (with_reducible refine (HC.out).mono ?_); rintro e w5 ⟨a', c', rfl, r5, b5⟩; have b05 := on_of HB.out b5; have j5 := HK.out w5 b05; have z5 := b05.size; have H5 := Lib.hid (And.intro r5 b05); clear r5 b5 b05)
      try go_wp2_with fail
      refine hKK.out _ _ ?_ (fun hHeld2 => ?_)
      · (try dsimp only); first | exact HS7b.out | exact HS7.out | exact HS9.out _ H5.out.2 | exact HS9.out _ HB.out | exact HS9.out _ (by go_grown)
      refine wpAnyH_ready (rs := [19]) (by kernel_rfl) (by simp) ?_
      refine AllReadyH.cons (o := _) rfl (fun KK hKK => ?_) AllReadyH.nil
      (refine step_append_sl et_pts rfl _ _ rfl B a5 n c5 P5 (by rfl) (HR5.out w5 H5.out.2) a' 1 c' (cellsP [imP P.now x y]) (by rfl) (by rfl) (row_lies H5.out.1 (by simp)) (cellsP_one _) (by unfold maxLen; omega) (by omega) (by omega) ?_; intro a2 d2 w7 r7 gr7 sub7; have hh := HF.out w5 w7 H5.out.2 a2 d2 r7 gr7 sub7; obtain ⟨⟨k7, f7⟩, hr⟩ := hh; have HR := Lib.hid hr; have HS7 := Lib.hid (H7.out w5 w7 H5.out.2 gr7); have HS7b := Lib.hid (And.intro ((set_ne2 (v := .slice a2 (n + 1) d2) (o := 5) hgX).trans HS7.out.1) ((set_ne2 (v := .slice a2 (n + 1) d2) (o := 5) hgX).trans HS7.out.2)); clear hr r7 gr7 sub7)
      try go_wp2_with fail
      refine hKK.out _ _ ?_ (fun hHeld2 => ?_)
      · (try dsimp only); first | exact HS7b.out | exact HS7.out | exact HS9.out _ H5.out.2 | exact HS9.out _ HB.out | exact HS9.out _ (by go_grown)
      refine wpAnyH_take (i := 20) (oi := _) (v := ?_) rfl (by kernel_rfl) (by kernel_rfl) (by kernel_rfl) (fun _ _ _ h => h) (Or.inl ⟨by rfl, ?_⟩) (by assumption) ?_
      rotate_left
      · (intro w hSw; (try dsimp only at hSw); go_simp; try with_reducible rfl)
      try simp only [Act.put, List.setIfInBounds_toArray, List.set_cons_zero, List.set_cons_succ]
      refine wpAnyH_take (i := 21) (oi := _) (v := ?_) rfl (by kernel_rfl) (by kernel_rfl) (by kernel_rfl) (fun _ _ _ h => h) (Or.inl ⟨by rfl, ?_⟩) (by assumption) ?_
      rotate_left
      · (intro w hSw; (try dsimp only at hSw); go_simp; try with_reducible rfl)
      try simp only [Act.put, List.setIfInBounds_toArray, List.set_cons_zero, List.set_cons_succ]
      refine wpAnyH_take (i := 22) (oi := _) (v := ?_) rfl (by kernel_rfl) (by kernel_rfl) (by kernel_rfl) (fun _ _ _ h => h) (Or.inl ⟨by rfl, ?_⟩) (by assumption) ?_
      rotate_left
      · (intro w hSw; (try dsimp only at hSw); go_simp; try with_reducible rfl)
      try simp only [Act.put, List.setIfInBounds_toArray, List.set_cons_zero, List.set_cons_succ]
      refine wpAnyH_ready (rs := [23]) (by kernel_rfl) (by simp) ?_
      refine AllReadyH.cons (o := _) rfl (fun KK hKK => ?_) AllReadyH.nil
      go_simp
      try go_wp2_with fail
      refine hKK.out _ _ ?_ (fun hHeld2 => ?_)
      · (try dsimp only); first | exact HS7b.out | exact HS7.out | exact HS9.out _ H5.out.2 | exact HS9.out _ HB.out | exact HS9.out _ (by go_grown)
      refine wpAnyH_done (by kernel_rfl) ?_ _
      go_wp2_with fail
      go_wp2
      go_ret
      exact HR.out
    refine AllReadyH.cons (o := _) rfl (fun KK hKK => ?_) ?_
    · go_simp
      try go_wp2_with fail
      refine hKK.out _ _ ?_ (fun hHeld2 => ?_)
      · (try dsimp only); first | exact HS7b.out | exact HS7.out | exact HS9.out _ H5.out.2 | exact HS9.out _ HB.out | exact HS9.out _ (by go_grown)
      refine wpAnyH_ready (rs := [5, 17]) (by kernel_rfl) (by simp) ?_
      refine AllReadyH.cons (o := _) rfl (fun KK hKK => ?_) ?_
      · go_simp
        try go_wp2_with fail
        refine hKK.out _ _ ?_ (fun hHeld2 => ?_)
        · (try dsimp only); first | exact HS7b.out | exact HS7.out | exact HS9.out _ H5.out.2 | exact HS9.out _ HB.out | exact HS9.out _ (by go_grown)
        refine wpAnyH_ready (rs := [17]) (by kernel_rfl) (by simp) ?_
        refine AllReadyH.cons (o := _) rfl (fun KK hKK => ?_) AllReadyH.nil
        go_simp
        try go_wp2_with fail
        refine hKK.out _ _ ?_ (fun hHeld2 => ?_)
        · (try dsimp only); first | exact HS7b.out | exact HS7.out | exact HS9.out _ H5.out.2 | exact HS9.out _ HB.out | exact HS9.out _ (by go_grown)
        refine wpAnyH_ready (rs := [18]) (by kernel_rfl) (by simp) ?_
        refine AllReadyH.cons (o := _) rfl (fun KK hKK => ?_) AllReadyH.nil
        (go_simp; go_at_call 152; (with_reducible refine (HC.out).mono ?_); rintro e w5 ⟨a', c', rfl, r5, b5⟩; have b05 := on_of HB.out b5; have j5 := HK.out w5 b05; have z5 := b05.size; have H5 := Lib.hid (And.intro r5 b05); clear r5 b5 b05)
        try go_wp2_with fail
        refine hKK.out _ _ ?_ (fun hHeld2 => ?_)
        · (try dsimp only); first | exact HS7b.out | exact HS7.out | exact HS9.out _ H5.out.2 | exact HS9.out _ HB.out | exact HS9.out _ (by go_grown)
        refine wpAnyH_ready (rs := [19]) (by kernel_rfl) (by simp) ?_
        refine AllReadyH.cons (o := _) rfl (fun KK hKK => ?_) AllReadyH.nil
        (refine step_append_sl et_pts rfl _ _ rfl B a5 n c5 P5 (by rfl) (HR5.out w5 H5.out.2) a' 1 c' (cellsP [imP P.now x y]) (by rfl) (by rfl) (row_lies H5.out.1 (by simp)) (cellsP_one _) (by unfold maxLen; omega) (by omega) (by omega) ?_; intro a2 d2 w7 r7 gr7 sub7; have hh := HF.out w5 w7 H5.out.2 a2 d2 r7 gr7 sub7; obtain ⟨⟨k7, f7⟩, hr⟩ := hh; have HR := Lib.hid hr; have HS7 := Lib.hid (H7.out w5 w7 H5.out.2 gr7); have HS7b := Lib.hid (And.intro ((set_ne2 (v := .slice a2 (n + 1) d2) (o := 5) hgX).trans HS7.out.1) ((set_ne2 (v := .slice a2 (n + 1) d2) (o := 5) hgX).trans HS7.out.2)); clear hr r7 gr7 sub7)
        try go_wp2_with fail
        refine hKK.out _ _ ?_ (fun hHeld2 => ?_)
        · (try dsimp only); first | exact HS7b.out | exact HS7.out | exact HS9.out _ H5.out.2 | exact HS9.out _ HB.out | exact HS9.out _ (by go_grown)
        refine wpAnyH_take (i := 20) (oi := _) (v := ?_) rfl (by kernel_rfl) (by kernel_rfl) (by kernel_rfl) (fun _ _ _ h => h) (Or.inl ⟨by rfl, ?_⟩) (by assumption) ?_
        rotate_left
        · (intro w hSw; (try dsimp only at hSw); go_simp; try with_reducible rfl)
        try simp only [Act.put, List.setIfInBounds_toArray, List.set_cons_zero, List.set_cons_succ]
        refine wpAnyH_take (i := 21) (oi := _) (v := ?_) rfl (by kernel_rfl) (by kernel_rfl) (by kernel_rfl) (fun _ _ _ h => h) (Or.inl ⟨by rfl, ?_⟩) (by assumption) ?_
        rotate_left
        · (intro w hSw; (try dsimp only at hSw); go_simp; try with_reducible rfl)
        try simp only [Act.put, List.setIfInBounds_toArray, List.set_cons_zero, List.set_cons_succ]
        refine wpAnyH_take (i := 22) (oi := _) (v := ?_) rfl (by kernel_rfl) (by kernel_rfl) (by kernel_rfl) (fun _ _ _ h => h) (Or.inl ⟨by rfl, ?_⟩) (by assumption) ?_
        rotate_left
        · (intro w hSw; (try dsimp only at hSw); go_simp; try with_reducible rfl)
        try simp only [Act.put, List.setIfInBounds_toArray, List.set_cons_zero, List.set_cons_succ]
        refine wpAnyH_ready (rs := [23]) (by kernel_rfl) (by simp) ?_
        refine AllReadyH.cons (o := _) rfl (fun KK hKK => ?_) AllReadyH.nil
        go_simp
        try go_wp2_with fail
        refine hKK.out _ _ ?_ (fun hHeld2 => ?_)
        · (try dsimp only); first | exact HS7b.out | exact HS7.out | exact HS9.out _ H5.out.2 | exact HS9.out _ HB.out | exact HS9.out _ (by go_grown)
        refine wpAnyH_done (by kernel_rfl) ?_ _
        go_wp2_with fail
        go_wp2
        go_ret
        exact HR.out
      refine AllReadyH.cons (o := _) rfl (fun KK hKK => ?_) AllReadyH.nil
      go_simp
      try go_wp2_with fail
      refine hKK.out _ _ ?_ (fun hHeld2 => ?_)
      · (try dsimp only); first | exact HS7b.out | exact HS7.out | exact HS9.out _ H5.out.2 | exact HS9.out _ HB.out | exact HS9.out _ (by go_grown)
      refine wpAnyH_ready (rs := [5, 18]) (by kernel_rfl) (by simp) ?_
      refine AllReadyH.cons (o := _) rfl (fun KK hKK => ?_) ?_
      · go_simp
        try go_wp2_with fail
        refine hKK.out _ _ ?_ (fun hHeld2 => ?_)
        · (try dsimp only); first | exact HS7b.out | exact HS7.out | exact HS9.out _ H5.out.2 | exact HS9.out _ HB.out | exact HS9.out _ (by go_grown)
        refine wpAnyH_ready (rs := [18]) (by kernel_rfl) (by simp) ?_
        refine AllReadyH.cons (o := _) rfl (fun KK hKK => ?_) AllReadyH.nil
        (go_simp; go_at_call 152; (with_reducible refine (HC.out).mono ?_); rintro e w5 ⟨a', c', rfl, r5, b5⟩; have b05 := on_of HB.out b5; have j5 := HK.out w5 b05; have z5 := b05.size; have H5 := Lib.hid (And.intro r5 b05); clear r5 b5 b05)
        try go_wp2_with fail
        refine hKK.out _ _ ?_ (fun hHeld2 => ?_)
        · (try dsimp only); first | exact HS7b.out | exact HS7.out | exact HS9.out _ H5.out.2 | exact HS9.out _ HB.out | exact HS9.out _ (by go_grown)
        refine wpAnyH_ready (rs := [19]) (by kernel_rfl) (by simp) ?_
        refine AllReadyH.cons (o := _) rfl (fun KK hKK => ?_) AllReadyH.nil
        (refine step_append_sl et_pts rfl _ _ rfl B a5 n c5 P5 (by rfl) (HR5.out w5 H5.out.2) a' 1 c' (cellsP [imP P.now x y]) (by rfl) (by rfl) (row_lies H5.out.1 (by simp)) (cellsP_one _) (by unfold maxLen; omega) (by omega) (by omega) ?_; intro a2 d2 w7 r7 gr7 sub7; have hh := HF.out w5 w7 H5.out.2 a2 d2 r7 gr7 sub7; obtain ⟨⟨k7, f7⟩, hr⟩ := hh; have HR := Lib.hid hr; have HS7 := Lib.hid (H7.out w5 w7 H5.out.2 gr7); have HS7b := Lib.hid (And.intro ((set_ne2 (v := .slice a2 (n + 1) d2) (o := 5) hgX).trans HS7.out.1) ((set_ne2 (v := .slice a2 (n + 1) d2) (o := 5) hgX).trans HS7.out.2)); clear hr r7 gr7 sub7)
        try go_wp2_with fail
        refine hKK.out _ _ ?_ (fun hHeld2 => ?_)
        · (try dsimp only); first | exact HS7b.out | exact HS7.out | exact HS9.out _ H5.out.2 | exact HS9.out _ HB.out | exact HS9.out _ (by go_grown)
        refine wpAnyH_take (i := 20) (oi := _) (v := ?_) rfl (by kernel_rfl) (by kernel_rfl) (by kernel_rfl) (fun _ _ _ h => h) (Or.inl ⟨by rfl, ?_⟩) (by assumption) ?_
        rotate_left
        · (intro w hSw; (try dsimp only at hSw); go_simp; try with_reducible rfl)
        try simp only [Act.put, List.setIfInBounds_toArray, List.set_cons_zero, List.set_cons_succ]
        refine wpAnyH_take (i := 21) (oi := _) (v := ?_) rfl (by kernel_rfl) (by kernel_rfl) (by kernel_rfl) (fun _ _ _ h => h) (Or.inl ⟨by rfl, ?_⟩) (by assumption) ?_
        rotate_left
        · (intro w hSw; (try dsimp only at hSw); go_simp; try with_reducible rfl)
        try simp only [Act.put, List.setIfInBounds_toArray, List.set_cons_zero, List.set_cons_succ]
        refine wpAnyH_take (i := 22) (oi := _) (v := ?_) rfl (by kernel_rfl) (by kernel_rfl) (by kernel_rfl) (fun _ _ _ h => h) (Or.inl ⟨by rfl, ?_⟩) (by assumption) ?_
        rotate_left
        · (intro w hSw; (try dsimp only at hSw); go_simp; try with_reducible rfl)
        try simp only [Act.put, List.setIfInBounds_toArray, List.set_cons_zero, List.set_cons_succ]
        refine wpAnyH_ready (rs := [23]) (by kernel_rfl) (by simp) ?_
        refine AllReadyH.cons (o := _) rfl (fun KK hKK => ?_) AllReadyH.nil
        go_simp
        try go_wp2_with fail
        refine hKK.out _ _ ?_ (fun hHeld2 => ?_)
        · (try dsimp only); first | exact HS7b.out | exact HS7.out | exact HS9.out _ H5.out.2 | exact HS9.out _ HB.out | exact HS9.out _ (by go_grown)
        refine wpAnyH_done (by kernel_rfl) ?_ _
        go_wp2_with fail
        go_wp2
        go_ret
        exact HR.out
      refine AllReadyH.cons (o := _) rfl (fun KK hKK => ?_) AllReadyH.nil
      (go_simp; go_at_call 152; (with_reducible refine (HC.out).mono ?_); rintro e w5 ⟨a', c', rfl, r5, b5⟩; have b05 := on_of HB.out b5; have j5 := HK.out w5 b05; have z5 := b05.size; have H5 := Lib.hid (And.intro r5 b05); clear r5 b5 b05)
      try go_wp2_with fail
      refine hKK.out _ _ ?_ (fun hHeld2 => ?_)
      · (try dsimp only); first | exact HS7b.out | exact HS7.out | exact HS9.out _ H5.out.2 | exact HS9.out _ HB.out | exact HS9.out _ (by go_grown)
      refine wpAnyH_ready (rs := [5]) (by kernel_rfl) (by simp) ?_
      refine AllReadyH.cons (o := _) rfl (fun KK hKK => ?_) AllReadyH.nil
      go_simp
      try go_wp2_with fail
      refine hKK.out _ _ ?_ (fun hHeld2 => ?_)
      · (try dsimp only); first | exact HS7b.out | exact HS7.out | exact HS9.out _ H5.out.2 | exact HS9.out _ HB.out | exact HS9.out _ (by go_grown)
      refine wpAnyH_ready (rs := [19]) (by kernel_rfl) (by simp) ?_
      refine AllReadyH.cons (o := _) rfl (fun KK hKK => ?_) AllReadyH.nil
      (refine step_append_sl et_pts rfl _ _ rfl B a5 n c5 P5 (by rfl) (HR5.out w5 H5.out.2) a' 1 c' (cellsP [imP P.now x y]) (by rfl) (by rfl) (row_lies H5.out.1 (by simp)) (cellsP_one _) (by unfold maxLen; omega) (by omega) (by omega) ?_; intro a2 d2 w7 r7 gr7 sub7; have hh := HF.out w5 w7 H5.out.2 a2 d2 r7 gr7 sub7; obtain ⟨⟨k7, f7⟩, hr⟩ := hh; have HR := Lib.hid hr; have HS7 := Lib.hid (H7.out w5 w7 H5.out.2 gr7); have HS7b := Lib.hid (And.intro ((set_ne2 (v := .slice a2 (n + 1) d2) (o := 5) hgX).trans HS7.out.1) ((set_ne2 (v := .slice a2 (n + 1) d2) (o := 5) hgX).trans HS7.out.2)); clear hr r7 gr7 sub7)
      try go_wp2_with fail
      refine hKK.out _ _ ?_ (fun hHeld2 => ?_)
      · (try dsimp only); first | exact HS7b.out | exact HS7.out | exact HS9.out _ H5.out.2 | exact HS9.out _ HB.out | exact HS9.out _ (by go_grown)
      refine wpAnyH_take (i := 20) (oi := _) (v := ?_) rfl (by kernel_rfl) (by kernel_rfl) (by kernel_rfl) (fun _ _ _ h => h) (Or.inl ⟨by rfl, ?_⟩) (by assumption) ?_
      rotate_left
      · (intro w hSw; (try dsimp only at hSw); go_simp; try with_reducible rfl)
      try simp only [Act.put, List.setIfInBounds_toArray, List.set_cons_zero, List.set_cons_succ]
      refine wpAnyH_take (i := 21) (oi := _) (v := ?_) rfl (by kernel_rfl) (by kernel_rfl) (by kernel_rfl) (fun _ _ _ h => h) (Or.inl ⟨by rfl, ?_⟩) (by assumption) ?_
      rotate_left
      · (intro w hSw; (try dsimp only at hSw); go_simp; try with_reducible rfl)
      try simp only [Act.put, List.setIfInBounds_toArray, List.set_cons_zero, List.set_cons_succ]
      refine wpAnyH_take (i := 22) (oi := _) (v := ?_) rfl (by kernel_rfl) (by kernel_rfl) (by kernel_rfl) (fun _ _ _ h => h) (Or.inl ⟨by rfl, ?_⟩) (by assumption) ?_
      rotate_left
      · (intro w hSw; (try dsimp only at hSw); go_simp; try with_reducible rfl)
      try simp only [Act.put, List.setIfInBounds_toArray, List.set_cons_zero, List.set_cons_succ]
      refine wpAnyH_ready (rs := [23]) (by kernel_rfl) (by simp) ?_
      refine AllReadyH.cons (o := _) rfl (fun KK hKK => ?_) AllReadyH.nil
      go_simp
      try go_wp2_with fail
      refine hKK.out _ _ ?_ (fun hHeld2 => ?_)
      · (try dsimp only); first | exact HS7b.out | exact HS7.out | exact HS9.out _ H5.out.2 | exact HS9.out _ HB.out | exact HS9.out _ (by go_grown)
      refine wpAnyH_done (by kernel_rfl) ?_ _
      go_wp2_with fail
      go_wp2
      go_ret
      exact HR.out
    refine AllReadyH.cons (o := _) rfl (fun KK hKK => ?_) AllReadyH.nil
    go_simp
    try go_wp2_with fail
    refine hKK.out _ _ ?_ (fun hHeld2 => ?_)
    · (try dsimp only); first | exact HS7b.out | exact HS7.out | exact HS9.out _ H5.out.2 | exact HS9.out _ HB.out | exact HS9.out _ (by go_grown)
    refine wpAnyH_ready (rs := [5, 9]) (by kernel_rfl) (by simp) ?_
    refine AllReadyH.cons (o := _) rfl (fun KK hKK => ?_) ?_
    · go_simp
      try go_wp2_with fail
      refine hKK.out _ _ ?_ (fun hHeld2 => ?_)
      · (try dsimp only); first | exact HS7b.out | exact HS7.out | exact HS9.out _ H5.out.2 | exact HS9.out _ HB.out | exact HS9.out _ (by go_grown)
      refine wpAnyH_ready (rs := [9]) (by kernel_rfl) (by simp) ?_
      refine AllReadyH.cons (o := _) rfl (fun KK hKK => ?_) AllReadyH.nil
      go_simp
      try go_wp2_with fail
      refine hKK.out _ _ ?_ (fun hHeld2 => ?_)
      · (try dsimp only); first | exact HS7b.out | exact HS7.out | exact HS9.out _ H5.out.2 | exact HS9.out _ HB.out | exact HS9.out _ (by go_grown)
      refine wpAnyH_ready (rs := [18]) (by kernel_rfl) (by simp) ?_
      refine AllReadyH.cons (o := _) rfl (fun KK hKK => ?_) AllReadyH.nil
      (go_simp; go_at_call 152; (with_reducible refine (HC.out).mono ?_); rintro e w5 ⟨a', c', rfl, r5, b5⟩; have b05 := on_of HB.out b5; have j5 := HK.out w5 b05; have z5 := b05.size; have H5 := Lib.hid (And.intro r5 b05); clear r5 b5 b05)
      try go_wp2_with fail
      refine hKK.out _ _ ?_ (fun hHeld2 => ?_)
      · (try dsimp only); first | exact HS7b.out | exact HS7.out | exact HS9.out _ H5.out.2 | exact HS9.out _ HB.out | exact HS9.out _ (by go_grown)
      refine wpAnyH_ready (rs := [19]) (by kernel_rfl) (by simp) ?_
      refine AllReadyH.cons (o := _) rfl (fun KK hKK => ?_) AllReadyH.nil
      (refine step_append_sl et_pts rfl _ _ rfl B a5 n c5 P5 (by rfl) (HR5.out w5 H5.out.2) a' 1 c' (cellsP [imP P.now x y]) (by rfl) (by rfl) (row_lies H5.out.1 (by simp)) (cellsP_one _) (by unfold maxLen; omega) (by omega) (by omega) ?_; intro a2 d2 w7 r7 gr7 sub7; have hh := HF.out w5 w7 H5.out.2 a2 d2 r7 gr7 sub7; obtain ⟨⟨k7, f7⟩, hr⟩ := hh; have HR := Lib.hid hr; have HS7 := Lib.hid (H7.out w5 w7 H5.out.2 gr7); have HS7b := Lib.hid (And.intro ((set_ne2 (v := .slice a2 (n + 1) d2) (o := 5) hgX).trans HS7.out.1) ((set_ne2 (v := .slice a2 (n + 1) d2) (o := 5) hgX).trans HS7.out.2)); clear hr r7 gr7 sub7)
      try go_wp2_with fail
      refine hKK.out _ _ ?_ (fun hHeld2 => ?_)
      · (try dsimp only); first | exact HS7b.out | exact HS7.out | exact HS9.out _ H5.out.2 | exact HS9.out _ HB.out | exact HS9.out _ (by go_grown)
      refine wpAnyH_take (i := 20) (oi := _) (v := ?_) rfl (by kernel_rfl) (by kernel_rfl) (by kernel_rfl) (fun _ _ _ h => h) (Or.inl ⟨by rfl, ?_⟩) (by assumption) ?_
      rotate_left
      · (intro w hSw; (try dsimp only at hSw); go_simp; try with_reducible rfl)
      try simp only [Act.put, List.setIfInBounds_toArray, List.set_cons_zero, List.set_cons_succ]
      refine wpAnyH_take (i := 21) (oi := _) (v := ?_) rfl (by kernel_rfl) (by kernel_rfl) (by kernel_rfl) (fun _ _ _ h => h) (Or.inl ⟨by rfl, ?_⟩) (by assumption) ?_
      rotate_left
      · (intro w hSw; (try dsimp only at hSw); go_simp; try with_reducible rfl)
      try simp only [Act.put, List.setIfInBounds_toArray, List.set_cons_zero, List.set_cons_succ]
      refine wpAnyH_take (i := 22) (oi := _) (v := ?_) rfl (by kernel_rfl) (by kernel_rfl) (by kernel_rfl) (fun _ _ _ h => h) (Or.inl ⟨by rfl, ?_⟩) (by assumption) ?_
      rotate_left
      · (intro w hSw; (try dsimp only at hSw); go_simp; try with_reducible rfl)
      try simp only [Act.put, List.setIfInBounds_toArray, List.set_cons_zero, List.set_cons_succ]
      refine wpAnyH_ready (rs := [23]) (by kernel_rfl) (by simp) ?_
      refine AllReadyH.cons (o := _) rfl (fun KK hKK => ?_) AllReadyH.nil
      go_simp
      try go_wp2_with fail
      refine hKK.out _ _ ?_ (fun hHeld2 => ?_)
      · (try dsimp only); first | exact HS7b.out | exact HS7.out | exact HS9.out _ H5.out.2 | exact HS9.out _ HB.out | exact HS9.out _ (by go_grown)
      refine wpAnyH_done (by kernel_rfl) ?_ _
      go_wp2_with fail
      go_wp2
      go_ret
      exact HR.out
    refine AllReadyH.cons (o := _) rfl (fun KK hKK => ?_) AllReadyH.nil
    go_simp
    try go_wp2_with fail
    refine hKK.out _ _ ?_ (fun hHeld2 => ?_)
    · (try dsimp only); first | exact HS7b.out | exact HS7.out | exact HS9.out _ H5.out.2 | exact HS9.out _ HB.out | exact HS9.out _ (by go_grown)
    refine wpAnyH_ready (rs := [5, 18]) (by kernel_rfl) (by simp) ?_
    refine AllReadyH.cons (o := _) rfl (fun KK hKK => ?_) ?_
    · go_simp
      try go_wp2_with fail
      refine hKK.out _ _ ?_ (fun hHeld2 => ?_)
      · (try dsimp only); first | exact HS7b.out | exact HS7.out | exact HS9.out _ H5.out.2 | exact HS9.out _ HB.out | exact HS9.out _ (by go_grown)
      refine wpAnyH_ready (rs := [18]) (by kernel_rfl) (by simp) ?_
      refine AllReadyH.cons (o := _) rfl (fun KK hKK => ?_) AllReadyH.nil
      (go_simp; go_at_call 152; (with_reducible refine (HC.out).mono ?_); rintro e w5 ⟨a', c', rfl, r5, b5⟩; have b05 := on_of HB.out b5; have j5 := HK.out w5 b05; have z5 := b05.size; have H5 := Lib.hid (And.intro r5 b05); clear r5 b5 b05)
      try go_wp2_with fail
      refine hKK.out _ _ ?_ (fun hHeld2 => ?_)
      · (try dsimp only); first | exact HS7b.out | exact HS7.out | exact HS9.out _ H5.out.2 | exact HS9.out _ HB.out | exact HS9.out _ (by go_grown)
      refine wpAnyH_ready (rs := [19]) (by kernel_rfl) (by simp) ?_
      refine AllReadyH.cons (o := _) rfl (fun KK hKK => ?_) AllReadyH.nil
      (refine step_append_sl et_pts rfl _ _ rfl B a5 n c5 P5 (by rfl) (HR5.out w5 H5.out.2) a' 1 c' (cellsP [imP P.now x y]) (by rfl) (by rfl) (row_lies H5.out.1 (by simp)) (cellsP_one _) (by unfold maxLen; omega) (by omega) (by omega) ?_; intro a2 d2 w7 r7 gr7 sub7; have hh := HF.out w5 w7 H5.out.2 a2 d2 r7 gr7 sub7; obtain ⟨⟨k7, f7⟩, hr⟩ := hh; have HR := Lib.hid hr; have HS7 := Lib.hid (H7.out w5 w7 H5.out.2 gr7); have HS7b := Lib.hid (And.intro ((set_ne2 (v := .slice a2 (n + 1) d2) (o := 5) hgX).trans HS7.out.1) ((set_ne2 (v := .slice a2 (n + 1) d2) (o := 5) hgX).trans HS7.out.2)); clear hr r7 gr7 sub7)
      try go_wp2_with fail
      refine hKK.out _ _ ?_ (fun hHeld2 => ?_)
      · (try dsimp only); first | exact HS7b.out | exact HS7.out | exact HS9.out _ H5.out.2 | exact HS9.out _ HB.out | exact HS9.out _ (by go_grown)
      refine wpAnyH_take (i := 20) (oi := _) (v := ?_) rfl (by kernel_rfl) (by kernel_rfl) (by kernel_rfl) (fun _ _ _ h => h) (Or.inl ⟨by rfl, ?_⟩) (by assumption) ?_
      rotate_left
      · (intro w hSw; (try dsimp only at hSw); go_simp; try with_reducible rfl)
      try simp only [Act.put, List.setIfInBounds_toArray, List.set_cons_zero, List.set_cons_succ]
      refine wpAnyH_take (i := 21) (oi := _) (v := ?_) rfl (by kernel_rfl) (by kernel_rfl) (by kernel_rfl) (fun _ _ _ h => h) (Or.inl ⟨by rfl, ?_⟩) (by assumption) ?_
      rotate_left
      · (intro w hSw; (try dsimp only at hSw); go_simp; try with_reducible rfl)
      try simp only [Act.put, List.setIfInBounds_toArray, List.set_cons_zero, List.set_cons_succ]
      refine wpAnyH_take (i := 22) (oi := _) (v := ?_) rfl (by kernel_rfl) (by kernel_rfl) (by kernel_rfl) (fun _ _ _ h => h) (Or.inl ⟨by rfl, ?_⟩) (by assumption) ?_
      rotate_left
      · (intro w hSw; (try dsimp only at hSw); go_simp; try with_reducible rfl)
      try simp only [Act.put, List.setIfInBounds_toArray, List.set_cons_zero, List.set_cons_succ]
      refine wpAnyH_ready (rs := [23]) (by kernel_rfl) (by simp) ?_
      refine AllReadyH.cons (o := _) rfl (fun KK hKK => ?_) AllReadyH.nil
      go_simp
      try go_wp2_with fail
      refine hKK.out _ _ ?_ (fun hHeld2 => ?_)
      · (try dsimp only); first | exact HS7b.out | exact HS7.out | exact HS9.out _ H5.out.2 | exact HS9.out _ HB.out | exact HS9.out _ (by go_grown)
      refine wpAnyH_done (by kernel_rfl) ?_ _
      go_wp2_with fail
      go_wp2
      go_ret
      exact HR.out
    refine AllReadyH.cons (o := _) rfl (fun KK hKK => ?_) AllReadyH.nil
    (go_simp; go_at_call 152; (with_reducible refine (HC.out).mono ?_); rintro e w5 ⟨a', c', rfl, r5, b5⟩; have b05 := on_of HB.out b5; have j5 := HK.out w5 b05; have z5 := b05.size; have H5 := Lib.hid (And.intro r5 b05); clear r5 b5 b05)
    try go_wp2_with fail
    refine hKK.out _ _ ?_ (fun hHeld2 => ?_)
    · (try dsimp only); first | exact HS7b.out | exact HS7.out | exact HS9.out _ H5.out.2 | exact HS9.out _ HB.out | exact HS9.out _ (by go_grown)
    refine wpAnyH_ready (rs := [5]) (by kernel_rfl) (by simp) ?_
    refine AllReadyH.cons (o := _) rfl (fun KK hKK => ?_) AllReadyH.nil
    go_simp
    try go_wp2_with fail
    refine hKK.out _ _ ?_ (fun hHeld2 => ?_)
    · (try dsimp only); first | exact HS7b.out | exact HS7.out | exact HS9.out _ H5.out.2 | exact HS9.out _ HB.out | exact HS9.out _ (by go_grown)
    refine wpAnyH_ready (rs := [19]) (by kernel_rfl) (by simp) ?_
    refine AllReadyH.cons (o := _) rfl (fun KK hKK => ?_) AllReadyH.nil
    (refine step_append_sl et_pts rfl _ _ rfl B a5 n c5 P5 (by rfl) (HR5.out w5 H5.out.2) a' 1 c' (cellsP [imP P.now x y]) (by rfl) (by rfl) (row_lies H5.out.1 (by simp)) (cellsP_one _) (by unfold maxLen; omega) (by omega) (by omega) ?_; intro a2 d2 w7 r7 gr7 sub7; have hh := HF.out w5 w7 H5.out.2 a2 d2 r7 gr7 sub7; obtain ⟨⟨k7, f7⟩, hr⟩ := hh; have HR := Lib.hid hr; have HS7 := Lib.hid (H7.out w5 w7 H5.out.2 gr7); have HS7b := Lib.hid (And.intro ((set_ne2 (v := .slice a2 (n + 1) d2) (o := 5) hgX).trans HS7.out.1) ((set_ne2 (v := .slice a2 (n + 1) d2) (o := 5) hgX).trans HS7.out.2)); clear hr r7 gr7 sub7)
    try go_wp2_with fail
    refine hKK.out _ _ ?_ (fun hHeld2 => ?_)
    · (try dsimp only); first | exact HS7b.out | exact HS7.out | exact HS9.out _ H5.out.2 | exact HS9.out _ HB.out | exact HS9.out _ (by go_grown)
    refine wpAnyH_take (i := 20) (oi := _) (v := ?_) rfl (by kernel_rfl) (by kernel_rfl) (by kernel_rfl) (fun _ _ _ h => h) (Or.inl ⟨by rfl, ?_⟩) (by assumption) ?_
    rotate_left
    · (intro w hSw; (try dsimp only at hSw); go_simp; try with_reducible rfl)
    try simp only [Act.put, List.setIfInBounds_toArray, List.set_cons_zero, List.set_cons_succ]
    refine wpAnyH_take (i := 21) (oi := _) (v := ?_) rfl (by kernel_rfl) (by kernel_rfl) (by kernel_rfl) (fun _ _ _ h => h) (Or.inl ⟨by rfl, ?_⟩) (by assumption) ?_
    rotate_left
    · (intro w hSw; (try dsimp only at hSw); go_simp; try with_reducible rfl)
    try simp only [Act.put, List.setIfInBounds_toArray, List.set_cons_zero, List.set_cons_succ]
    refine wpAnyH_take (i := 22) (oi := _) (v := ?_) rfl (by kernel_rfl) (by kernel_rfl) (by kernel_rfl) (fun _ _ _ h => h) (Or.inl ⟨by rfl, ?_⟩) (by assumption) ?_
    rotate_left
    · (intro w hSw; (try dsimp only at hSw); go_simp; try with_reducible rfl)
    try simp only [Act.put, List.setIfInBounds_toArray, List.set_cons_zero, List.set_cons_succ]
    refine wpAnyH_ready (rs := [23]) (by kernel_rfl) (by simp) ?_
    refine AllReadyH.cons (o := _) rfl (fun KK hKK => ?_) AllReadyH.nil
    go_simp
    try go_wp2_with fail
    refine hKK.out _ _ ?_ (fun hHeld2 => ?_)
    · (try dsimp only); first | exact HS7b.out | exact HS7.out | exact HS9.out _ H5.out.2 | exact HS9.out _ HB.out | exact HS9.out _ (by go_grown)
    refine wpAnyH_done (by kernel_rfl) ?_ _
    go_wp2_with fail
    go_wp2
    go_ret
    exact HR.out
end Go.Proofs.YtjmfgbbngocodaaGreat.Own

