/-
  Texts of this seat, laid together: SpB
-/
import Derived.Test.YtjmfgbbngocodaaGreatV40
namespace Go.Proofs.YtjmfgbbngocodaaGreat.Own
open Go.ChangeShapes Go.WideShapes Go.ChangeAt Go.RowKit
open Kit Slabs Ints Stack Point Turn Join Pts Box Push Take Opn SOp
set_option linter.unusedVariables false
set_option linter.unusedSimpArgs false
set_option linter.unnecessarySimpa false
set_option maxRecDepth 100000
attribute [local go_sem ↓] hload_Graphics hload_Object hstore_Graphics hstore_Object hload_Page hstore_Page
theorem joinS_at (q s dx dy r t ex ey : Int) (w : World) {a b c d : Int} {v : Bool} (hv : jnB q s dx dy r t ex ey = v) (ha : sel v (jq q r) = a) (hb : sel v (s * t) = b) (hc : sel v (imX r t ex dx dy) = c) (hd : sel v (imY r t ey dx dy) = d) :
    Calls Tryz.prog 70 #[.agg #[.int .i64 q, .int .i64 s, .int .i64 dx, .int .i64 dy], .agg #[.int .i64 r, .int .i64 t, .int .i64 ex, .int .i64 ey]] w fun e w' => e = .returned (.tuple #[.agg #[.int .i64 a, .int .i64 b, .int .i64 c, .int .i64 d], .bool v]) ∧ Below w.heap.size w w' := by
  subst hv ha hb hc hd
  exact join_spec q s dx dy r t ex ey w
set_option maxHeartbeats 8000000 in
theorem sp_shift {w : World} {B X : Nat} {P : Pg} (h : PgAt w B X P) (hB : B ≤ w.heap.size) (hX : B ≤ X) (str : ByteArray) (hk : opN str = some 9) (g2 c2 : Nat) (x y : Int) (q s dx dy : Int) (hq : 0 = q) (hs : 1 = s) (hdx : x = dx) (hdy : y = dy) (hg : g2 < w.heap.size) (hx : w.cell? ⟨g2, 0, none⟩ = some (.int .i64 x)) (hy : w.cell? ⟨g2, 1, none⟩ = some (.int .i64 y)) :
    Calls Tryz.prog 32 #[.pointer (some ⟨X, 0, none⟩), .string str, .slice (some ⟨g2, 0, none⟩) 2 c2] w (OpRes B X (if tuB P.now q s dx dy = true then some (turM P q s dx dy) else none) w) := by
  obtain ⟨a0, c0, f0, a5, c5, P5, a11, c11, P11, f11, a12, c12, P12, f12, h⟩ := h.flat
  obtain ⟨n0, n1, n2, n3, n4, n5, n6, n7, n8, n9, n10, n11⟩ := nm12 hk
  have hXl := h.blk.2.2
  obtain ⟨v, hv⟩ : ∃ v, jnB q s dx dy P.now.q P.now.s P.now.dx P.now.dy = v := ⟨_, rfl⟩
  obtain ⟨a, ha⟩ : ∃ a, sel v (jq q P.now.q) = a := ⟨_, rfl⟩
  obtain ⟨b, hb⟩ : ∃ b, sel v (s * P.now.s) = b := ⟨_, rfl⟩
  obtain ⟨c, hc⟩ : ∃ c, sel v (imX P.now.q P.now.s P.now.dx dx dy) = c := ⟨_, rfl⟩
  obtain ⟨d, hd⟩ : ∃ d, sel v (imY P.now.q P.now.s P.now.dy dx dy) = d := ⟨_, rfl⟩
  have HR : Hid (∀ W', Below w.heap.size w W' → OpRes B X (if tuB P.now q s dx dy = true then some (turM P q s dx dy) else none) w (.returned (.bool v)) (W'.setCells X 1 [.int .i64 a, .int .i64 b, .int .i64 c, .int .i64 d])) := Lib.hid fun W' hW => by
    have hN := h.nums hW hB hX a b c d P.now.gray P.now.x0 P.now.y0 P.now.x1 P.now.y1 (o := 1) (vs := [.int .i64 a, .int .i64 b, .int .i64 c, .int .i64 d]) (Blk.sets (P := [_]) (us := [_, _, _, _]) (h.blk.keep hW) rfl rfl)
    have e : tuB P.now q s dx dy = v := hv
    rw [e]
    cases v
    · exact ⟨rfl, hN.1, fun P' hP => by cases hP⟩
    · refine ⟨rfl, hN.1, fun P' hP => ?_⟩
      injection hP with hP
      subst hP
      have e2 : turM P q s dx dy = { P with now := ⟨P.now.st, a, b, c, d, P.now.path, P.now.gray, P.now.x0, P.now.y0, P.now.x1, P.now.y1⟩ } := by simp only [turM, e, ha, hb, hc, hd]
      rw [e2]
      exact hN.2
  obtain ⟨r, hr⟩ : ∃ r, (if tuB P.now q s dx dy = true then some (turM P q s dx dy) else none) = r := ⟨_, rfl⟩
  rw [hr] at HR ⊢
  clear hr
  have HJ := Lib.hid (fun w : World => joinS_at q s dx dy P.now.q P.now.s P.now.dx P.now.dy w hv ha hb hc hd)
  have HC := Lib.hid h.blk
  have HXS := Lib.hid (fun (W : World) (hb : Below w.heap.size w W) => (show W.cell? ⟨g2, 0, none⟩ = some (.int .i64 x) ∧ W.cell? ⟨g2, 1, none⟩ = some (.int .i64 y) from ⟨(cell_on hb hg).trans hx, (cell_on hb hg).trans hy⟩))
  have HE := Lib.hid (And.intro hq (And.intro hs (And.intro hdx hdy)))
  clear h hv ha hb hc hd hk hq hs hdx hdy hx hy
  go_enter Tryz.func32, Tryz.ntmps32
  go_wp2_with fail
  ((with_reducible refine (ident_spec _).mono ?_); rintro e w1 ⟨rfl, b1⟩)
  have bA : Below w.heap.size w (w1.alloc (.cells #[.int .i64 0, .int .i64 1, .int .i64 0, .int .i64 0] 38)) := b1.alloc b1.size _
  go_upto_region 2 with (fail)
  obtain ⟨g3, hg3⟩ : ∃ x, w1.heap.size = x := ⟨_, rfl⟩
  have F7 := Four.newAt w1 38 0 1 0 0 hg3
  have gw : w.heap.size ≤ g3 := by rw [← hg3]; exact b1.size
  rw [hg3]
  generalize w1.alloc (.cells #[.int .i64 0, .int .i64 1, .int .i64 0, .int .i64 0] 38) = V at bA F7 ⊢
  obtain ⟨x0, x1⟩ := HXS.out V bA
  obtain ⟨d0, d1, d2, d3, df⟩ := Four.lay F7
  clear hg3 b1
  have H7 := Lib.hid (And.intro bA F7)
  clear bA F7
  go_upto_region 25 with (fail)
  refine gen_any (fun W => Four W g3 q s dx dy ∧ Below w.heap.size w W) ⟨by
    obtain ⟨h1, h2, h3, h4⟩ := HE.out
    rw [← h1, ← h2, ← h3, ← h4]
    refine ⟨?_, ?_, ?_, ?_, ?_⟩ <;> simp [go_sem, d0, d1, d2, d3, df], by have := H7.out.1; exact (Below.setCell (p := ⟨g3, 3, none⟩) (Below.setCell (p := ⟨g3, 2, none⟩) this gw _) gw _)⟩ ?_
  rintro W0 ⟨G4, bW⟩
  clear d0 d1 d2 d3 df x0 x1
  have HK := Lib.hid (fun (W : World) (hb : Below W0.heap.size W0 W) => (show W.cell? ⟨X, 1, none⟩ = some (.int .i64 P.now.q) ∧ W.cell? ⟨X, 2, none⟩ = some (.int .i64 P.now.s) ∧ W.cell? ⟨X, 3, none⟩ = some (.int .i64 P.now.dx) ∧ W.cell? ⟨X, 4, none⟩ = some (.int .i64 P.now.dy) ∧ (∀ o, W.frozen? ⟨X, o, none⟩ = false) ∧ X < W.heap.size from by
    have k := (HC.out.keep bW).keep hb
    exact ⟨k.1 1 _ rfl, k.1 2 _ rfl, k.1 3 _ rfl, k.1 4 _ rfl, k.2.1, k.2.2⟩))
  have HS := Lib.hid (fun (W : World) (hb : Below W0.heap.size W0 W) => (show (W.cell? ⟨g3, 0, none⟩ = some (.int .i64 q) ∧ W.cell? ⟨g3, 1, none⟩ = some (.int .i64 s) ∧ W.cell? ⟨g3, 2, none⟩ = some (.int .i64 dx) ∧ W.cell? ⟨g3, 3, none⟩ = some (.int .i64 dy)) ∧ (W.cell? ⟨X, 1, none⟩ = some (.int .i64 P.now.q) ∧ W.cell? ⟨X, 2, none⟩ = some (.int .i64 P.now.s) ∧ W.cell? ⟨X, 3, none⟩ = some (.int .i64 P.now.dx) ∧ W.cell? ⟨X, 4, none⟩ = some (.int .i64 P.now.dy)) from by
    have k := HK.out W hb
    obtain ⟨c0, c1, c2, c3, _⟩ := Four.lay (G4.keep hb G4.lt)
    exact ⟨⟨c0, c1, c2, c3⟩, k.1, k.2.1, k.2.2.1, k.2.2.2.1⟩))
  have HB := Lib.hid bW
  have g3W : g3 < W0.heap.size := G4.lt
  have XW : X < W0.heap.size := by have := bW.size; omega
  clear G4 bW
  refine wp_region_held_drew (S := fun W => (W.cell? ⟨g3, 0, none⟩ = some (.int .i64 q) ∧ W.cell? ⟨g3, 1, none⟩ = some (.int .i64 s) ∧ W.cell? ⟨g3, 2, none⟩ = some (.int .i64 dx) ∧ W.cell? ⟨g3, 3, none⟩ = some (.int .i64 dy)) ∧ (W.cell? ⟨X, 1, none⟩ = some (.int .i64 P.now.q) ∧ W.cell? ⟨X, 2, none⟩ = some (.int .i64 P.now.s) ∧ W.cell? ⟨X, 3, none⟩ = some (.int .i64 P.now.dx) ∧ W.cell? ⟨X, 4, none⟩ = some (.int .i64 P.now.dy))) (by kernel_rfl) (HS.out _ (by go_grown)) (fun hHeld => ?_)
  refine wpAnyH_take (i := 0) (oi := _) (v := ?_) rfl (by kernel_rfl) (by kernel_rfl) (by kernel_rfl) (fun _ _ _ h => h) (Or.inl ⟨by rfl, ?_⟩) (by assumption) ?_
  rotate_left
  · (intro w hSw; (try dsimp only at hSw); go_simp; try with_reducible rfl)
  try simp only [Act.put, List.setIfInBounds_toArray, List.set_cons_zero, List.set_cons_succ]
  refine wpAnyH_take (i := 1) (oi := _) (v := ?_) rfl (by kernel_rfl) (by kernel_rfl) (by kernel_rfl) (fun _ _ _ h => h) (Or.inl ⟨by rfl, ?_⟩) (by assumption) ?_
  rotate_left
  · (intro w hSw; (try dsimp only at hSw); go_simp; try with_reducible rfl)
  try simp only [Act.put, List.setIfInBounds_toArray, List.set_cons_zero, List.set_cons_succ]
  refine wpAnyH_take (i := 2) (oi := _) (v := ?_) rfl (by kernel_rfl) (by kernel_rfl) (by kernel_rfl) (fun _ _ _ h => h) (Or.inl ⟨by rfl, ?_⟩) (by assumption) ?_
  rotate_left
  · (intro w hSw; (try dsimp only at hSw); go_simp; try with_reducible rfl)
  try simp only [Act.put, List.setIfInBounds_toArray, List.set_cons_zero, List.set_cons_succ]
  refine wpAnyH_take (i := 3) (oi := _) (v := ?_) rfl (by kernel_rfl) (by kernel_rfl) (by kernel_rfl) (fun _ _ _ h => h) (Or.inl ⟨by rfl, ?_⟩) (by assumption) ?_
  rotate_left
  · (intro w hSw; (try dsimp only at hSw); go_simp; try with_reducible rfl)
  try simp only [Act.put, List.setIfInBounds_toArray, List.set_cons_zero, List.set_cons_succ]
  refine wpAnyH_take (i := 4) (oi := _) (v := ?_) rfl (by kernel_rfl) (by kernel_rfl) (by kernel_rfl) (fun _ _ _ h => h) (Or.inl ⟨by rfl, ?_⟩) (by assumption) ?_
  rotate_left
  · (intro w hSw; (try dsimp only at hSw); go_simp; try with_reducible rfl)
  try simp only [Act.put, List.setIfInBounds_toArray, List.set_cons_zero, List.set_cons_succ]
  refine wpAnyH_take (i := 5) (oi := _) (v := ?_) rfl (by kernel_rfl) (by kernel_rfl) (by kernel_rfl) (fun _ _ _ h => h) (Or.inl ⟨by rfl, ?_⟩) (by assumption) ?_
  rotate_left
  · (intro w hSw; (try dsimp only at hSw); go_simp; try with_reducible rfl)
  try simp only [Act.put, List.setIfInBounds_toArray, List.set_cons_zero, List.set_cons_succ]
  refine wpAnyH_ready (rs := [6, 10]) (by kernel_rfl) (by simp) ?_
  refine AllReadyH.cons (o := _) rfl (fun KK hKK => ?_) ?_
  · (go_simp; go_at_call 70; (with_reducible refine (HJ.out _).mono ?_); rintro e w5 ⟨rfl, bb⟩; (try (have zF := Four.lay (Four.keep (four_drew (Four.new W0 38 0 0 0 0)) bb (by simp)); obtain ⟨z0, z1, z2, z3, zf⟩ := zF)); have b0 := on_of (show Below W0.heap.size W0 _ from by go_grown) bb; have z5 := b0.size; have H5 := Lib.hid b0; obtain ⟨k1, k2, k3, k4, fz, lX⟩ := HK.out w5 b0)
    try go_wp2_with fail
    refine hKK.out _ _ ?_ (fun hHeld2 => ?_)
    · (try dsimp only); first | exact HS.out _ H5.out | exact HS.out _ (H5.out.alloc H5.out.size _) | exact HS.out _ ((((H5.out.setCell (p := ⟨W0.heap.size, 0, none⟩) (Nat.le_refl _) _).setCell (p := ⟨W0.heap.size, 1, none⟩) (Nat.le_refl _) _).setCell (p := ⟨W0.heap.size, 2, none⟩) (Nat.le_refl _) _).setCell (p := ⟨W0.heap.size, 3, none⟩) (Nat.le_refl _) _) | (refine HS.out _ ?_; go_grown; done)
    refine wpAnyH_take (i := 7) (oi := _) (v := ?_) rfl (by kernel_rfl) (by kernel_rfl) (by kernel_rfl) (fun _ _ _ h => h) (Or.inl ⟨by rfl, ?_⟩) (by assumption) ?_
    rotate_left
    · (intro w hSw; (try dsimp only at hSw); go_simp; try with_reducible rfl)
    try simp only [Act.put, List.setIfInBounds_toArray, List.set_cons_zero, List.set_cons_succ]
    refine wpAnyH_take (i := 8) (oi := _) (v := ?_) rfl (by kernel_rfl) (by kernel_rfl) (by kernel_rfl) (fun _ _ _ h => h) (Or.inl ⟨by rfl, ?_⟩) (by assumption) ?_
    rotate_left
    · (intro w hSw; (try dsimp only at hSw); go_simp; try with_reducible rfl)
    try simp only [Act.put, List.setIfInBounds_toArray, List.set_cons_zero, List.set_cons_succ]
    refine wpAnyH_take (i := 9) (oi := _) (v := ?_) rfl (by kernel_rfl) (by kernel_rfl) (by kernel_rfl) (fun _ _ _ h => h) (Or.inl ⟨by rfl, ?_⟩) (by assumption) ?_
    rotate_left
    · (intro w hSw; (try dsimp only at hSw); go_simp; try with_reducible rfl)
    try simp only [Act.put, List.setIfInBounds_toArray, List.set_cons_zero, List.set_cons_succ]
    refine wpAnyH_ready (rs := [10]) (by kernel_rfl) (by simp) ?_
    refine AllReadyH.cons (o := _) rfl (fun KK hKK => ?_) AllReadyH.nil
    go_simp
    try go_wp2_with fail
    refine hKK.out _ _ ?_ (fun hHeld2 => ?_)
    · (try dsimp only); first | exact HS.out _ H5.out | exact HS.out _ (H5.out.alloc H5.out.size _) | exact HS.out _ ((((H5.out.setCell (p := ⟨W0.heap.size, 0, none⟩) (Nat.le_refl _) _).setCell (p := ⟨W0.heap.size, 1, none⟩) (Nat.le_refl _) _).setCell (p := ⟨W0.heap.size, 2, none⟩) (Nat.le_refl _) _).setCell (p := ⟨W0.heap.size, 3, none⟩) (Nat.le_refl _) _) | (refine HS.out _ ?_; go_grown; done)
    refine wpAnyH_ready (rs := [11]) (by kernel_rfl) (by simp) ?_
    refine AllReadyH.cons (o := _) rfl (fun KK hKK => ?_) AllReadyH.nil
    go_simp
    try go_wp2_with fail
    refine hKK.out _ _ ?_ (fun hHeld2 => ?_)
    · (try dsimp only); first | exact HS.out _ H5.out | exact HS.out _ (H5.out.alloc H5.out.size _) | exact HS.out _ ((((H5.out.setCell (p := ⟨W0.heap.size, 0, none⟩) (Nat.le_refl _) _).setCell (p := ⟨W0.heap.size, 1, none⟩) (Nat.le_refl _) _).setCell (p := ⟨W0.heap.size, 2, none⟩) (Nat.le_refl _) _).setCell (p := ⟨W0.heap.size, 3, none⟩) (Nat.le_refl _) _) | (refine HS.out _ ?_; go_grown; done)
    refine wpAnyH_take (i := 12) (oi := _) (v := ?_) rfl (by kernel_rfl) (by kernel_rfl) (by kernel_rfl) (fun _ _ _ h => h) (Or.inl ⟨by rfl, ?_⟩) (by assumption) ?_
    rotate_left
    · (intro w hSw; (try dsimp only at hSw); go_simp; try with_reducible rfl)
    try simp only [Act.put, List.setIfInBounds_toArray, List.set_cons_zero, List.set_cons_succ]
    refine wpAnyH_done (by kernel_rfl) ?_ _
    first
      | (refine gen_any (fun W => Four W w5.heap.size a b c d ∧ Below W0.heap.size W0 W) ⟨Four.new w5 _ a b c d, H5.out.alloc (by omega) _⟩ ?_)
      | (refine gen_any (fun W => Four W W0.heap.size a b c d ∧ Below W0.heap.size W0 W) ⟨Four.set ⟨z0, z1, z2, z3, zf⟩ a b c d, (((H5.out.setCell (p := ⟨W0.heap.size, 0, none⟩) (Nat.le_refl _) _).setCell (p := ⟨W0.heap.size, 1, none⟩) (Nat.le_refl _) _).setCell (p := ⟨W0.heap.size, 2, none⟩) (Nat.le_refl _) _).setCell (p := ⟨W0.heap.size, 3, none⟩) (Nat.le_refl _) _⟩ ?_)
    rintro W9 ⟨F9, B9⟩
    obtain ⟨d0, d1, d2, d3, _⟩ := Four.lay F9
    obtain ⟨k1, k2, k3, k4, fz, lX⟩ := HK.out W9 B9
    have H9 := Lib.hid (on_of HB.out B9)
    clear F9 B9
    go_wp2
    go_ret
    exact HR.out _ H9.out
  refine AllReadyH.cons (o := _) rfl (fun KK hKK => ?_) AllReadyH.nil
  go_simp
  try go_wp2_with fail
  refine hKK.out _ _ ?_ (fun hHeld2 => ?_)
  · (try dsimp only); first | exact HS.out _ H5.out | exact HS.out _ (H5.out.alloc H5.out.size _) | exact HS.out _ ((((H5.out.setCell (p := ⟨W0.heap.size, 0, none⟩) (Nat.le_refl _) _).setCell (p := ⟨W0.heap.size, 1, none⟩) (Nat.le_refl _) _).setCell (p := ⟨W0.heap.size, 2, none⟩) (Nat.le_refl _) _).setCell (p := ⟨W0.heap.size, 3, none⟩) (Nat.le_refl _) _) | (refine HS.out _ ?_; go_grown; done)
  refine wpAnyH_ready (rs := [6]) (by kernel_rfl) (by simp) ?_
  refine AllReadyH.cons (o := _) rfl (fun KK hKK => ?_) AllReadyH.nil
  (go_simp; go_at_call 70; (with_reducible refine (HJ.out _).mono ?_); rintro e w5 ⟨rfl, bb⟩; (try (have zF := Four.lay (Four.keep (four_drew (Four.new W0 38 0 0 0 0)) bb (by simp)); obtain ⟨z0, z1, z2, z3, zf⟩ := zF)); have b0 := on_of (show Below W0.heap.size W0 _ from by go_grown) bb; have z5 := b0.size; have H5 := Lib.hid b0; obtain ⟨k1, k2, k3, k4, fz, lX⟩ := HK.out w5 b0)
  try go_wp2_with fail
  refine hKK.out _ _ ?_ (fun hHeld2 => ?_)
  · (try dsimp only); first | exact HS.out _ H5.out | exact HS.out _ (H5.out.alloc H5.out.size _) | exact HS.out _ ((((H5.out.setCell (p := ⟨W0.heap.size, 0, none⟩) (Nat.le_refl _) _).setCell (p := ⟨W0.heap.size, 1, none⟩) (Nat.le_refl _) _).setCell (p := ⟨W0.heap.size, 2, none⟩) (Nat.le_refl _) _).setCell (p := ⟨W0.heap.size, 3, none⟩) (Nat.le_refl _) _) | (refine HS.out _ ?_; go_grown; done)
  refine wpAnyH_take (i := 7) (oi := _) (v := ?_) rfl (by kernel_rfl) (by kernel_rfl) (by kernel_rfl) (fun _ _ _ h => h) (Or.inl ⟨by rfl, ?_⟩) (by assumption) ?_
  rotate_left
  · (intro w hSw; (try dsimp only at hSw); go_simp; try with_reducible rfl)
  try simp only [Act.put, List.setIfInBounds_toArray, List.set_cons_zero, List.set_cons_succ]
  refine wpAnyH_take (i := 8) (oi := _) (v := ?_) rfl (by kernel_rfl) (by kernel_rfl) (by kernel_rfl) (fun _ _ _ h => h) (Or.inl ⟨by rfl, ?_⟩) (by assumption) ?_
  rotate_left
  · (intro w hSw; (try dsimp only at hSw); go_simp; try with_reducible rfl)
  try simp only [Act.put, List.setIfInBounds_toArray, List.set_cons_zero, List.set_cons_succ]
  refine wpAnyH_take (i := 9) (oi := _) (v := ?_) rfl (by kernel_rfl) (by kernel_rfl) (by kernel_rfl) (fun _ _ _ h => h) (Or.inl ⟨by rfl, ?_⟩) (by assumption) ?_
  rotate_left
  · (intro w hSw; (try dsimp only at hSw); go_simp; try with_reducible rfl)
  try simp only [Act.put, List.setIfInBounds_toArray, List.set_cons_zero, List.set_cons_succ]
  refine wpAnyH_ready (rs := [11]) (by kernel_rfl) (by simp) ?_
  refine AllReadyH.cons (o := _) rfl (fun KK hKK => ?_) AllReadyH.nil
  go_simp
  try go_wp2_with fail
  refine hKK.out _ _ ?_ (fun hHeld2 => ?_)
  · (try dsimp only); first | exact HS.out _ H5.out | exact HS.out _ (H5.out.alloc H5.out.size _) | exact HS.out _ ((((H5.out.setCell (p := ⟨W0.heap.size, 0, none⟩) (Nat.le_refl _) _).setCell (p := ⟨W0.heap.size, 1, none⟩) (Nat.le_refl _) _).setCell (p := ⟨W0.heap.size, 2, none⟩) (Nat.le_refl _) _).setCell (p := ⟨W0.heap.size, 3, none⟩) (Nat.le_refl _) _) | (refine HS.out _ ?_; go_grown; done)
  refine wpAnyH_take (i := 12) (oi := _) (v := ?_) rfl (by kernel_rfl) (by kernel_rfl) (by kernel_rfl) (fun _ _ _ h => h) (Or.inl ⟨by rfl, ?_⟩) (by assumption) ?_
  rotate_left
  · (intro w hSw; (try dsimp only at hSw); go_simp; try with_reducible rfl)
  try simp only [Act.put, List.setIfInBounds_toArray, List.set_cons_zero, List.set_cons_succ]
  refine wpAnyH_done (by kernel_rfl) ?_ _
  first
    | (refine gen_any (fun W => Four W w5.heap.size a b c d ∧ Below W0.heap.size W0 W) ⟨Four.new w5 _ a b c d, H5.out.alloc (by omega) _⟩ ?_)
    | (refine gen_any (fun W => Four W W0.heap.size a b c d ∧ Below W0.heap.size W0 W) ⟨Four.set ⟨z0, z1, z2, z3, zf⟩ a b c d, (((H5.out.setCell (p := ⟨W0.heap.size, 0, none⟩) (Nat.le_refl _) _).setCell (p := ⟨W0.heap.size, 1, none⟩) (Nat.le_refl _) _).setCell (p := ⟨W0.heap.size, 2, none⟩) (Nat.le_refl _) _).setCell (p := ⟨W0.heap.size, 3, none⟩) (Nat.le_refl _) _⟩ ?_)
  rintro W9 ⟨F9, B9⟩
  obtain ⟨d0, d1, d2, d3, _⟩ := Four.lay F9
  obtain ⟨k1, k2, k3, k4, fz, lX⟩ := HK.out W9 B9
  have H9 := Lib.hid (on_of HB.out B9)
  clear F9 B9
  go_wp2
  go_ret
  exact HR.out _ H9.out
set_option maxHeartbeats 8000000 in
theorem sp_turn {w : World} {B X : Nat} {P : Pg} (h : PgAt w B X P) (hB : B ≤ w.heap.size) (hX : B ≤ X) (str : ByteArray) (hk : opN str = some 10) (g2 c2 : Nat) (x : Int) (q s dx dy : Int) (hq : x = q) (hs : 1 = s) (hdx : 0 = dx) (hdy : 0 = dy) (hg : g2 < w.heap.size) (hx : w.cell? ⟨g2, 0, none⟩ = some (.int .i64 x)) :
    Calls Tryz.prog 32 #[.pointer (some ⟨X, 0, none⟩), .string str, .slice (some ⟨g2, 0, none⟩) 1 c2] w (OpRes B X (if tuB P.now q s dx dy = true then some (turM P q s dx dy) else none) w) := by
  obtain ⟨a0, c0, f0, a5, c5, P5, a11, c11, P11, f11, a12, c12, P12, f12, h⟩ := h.flat
  obtain ⟨n0, n1, n2, n3, n4, n5, n6, n7, n8, n9, n10, n11⟩ := nm12 hk
  have hXl := h.blk.2.2
  obtain ⟨v, hv⟩ : ∃ v, jnB q s dx dy P.now.q P.now.s P.now.dx P.now.dy = v := ⟨_, rfl⟩
  obtain ⟨a, ha⟩ : ∃ a, sel v (jq q P.now.q) = a := ⟨_, rfl⟩
  obtain ⟨b, hb⟩ : ∃ b, sel v (s * P.now.s) = b := ⟨_, rfl⟩
  obtain ⟨c, hc⟩ : ∃ c, sel v (imX P.now.q P.now.s P.now.dx dx dy) = c := ⟨_, rfl⟩
  obtain ⟨d, hd⟩ : ∃ d, sel v (imY P.now.q P.now.s P.now.dy dx dy) = d := ⟨_, rfl⟩
  have HR : Hid (∀ W', Below w.heap.size w W' → OpRes B X (if tuB P.now q s dx dy = true then some (turM P q s dx dy) else none) w (.returned (.bool v)) (W'.setCells X 1 [.int .i64 a, .int .i64 b, .int .i64 c, .int .i64 d])) := Lib.hid fun W' hW => by
    have hN := h.nums hW hB hX a b c d P.now.gray P.now.x0 P.now.y0 P.now.x1 P.now.y1 (o := 1) (vs := [.int .i64 a, .int .i64 b, .int .i64 c, .int .i64 d]) (Blk.sets (P := [_]) (us := [_, _, _, _]) (h.blk.keep hW) rfl rfl)
    have e : tuB P.now q s dx dy = v := hv
    rw [e]
    cases v
    · exact ⟨rfl, hN.1, fun P' hP => by cases hP⟩
    · refine ⟨rfl, hN.1, fun P' hP => ?_⟩
      injection hP with hP
      subst hP
      have e2 : turM P q s dx dy = { P with now := ⟨P.now.st, a, b, c, d, P.now.path, P.now.gray, P.now.x0, P.now.y0, P.now.x1, P.now.y1⟩ } := by simp only [turM, e, ha, hb, hc, hd]
      rw [e2]
      exact hN.2
  obtain ⟨r, hr⟩ : ∃ r, (if tuB P.now q s dx dy = true then some (turM P q s dx dy) else none) = r := ⟨_, rfl⟩
  rw [hr] at HR ⊢
  clear hr
  have HJ := Lib.hid (fun w : World => joinS_at q s dx dy P.now.q P.now.s P.now.dx P.now.dy w hv ha hb hc hd)
  have HC := Lib.hid h.blk
  have Hx := Lib.hid (fun (W : World) (hb : Below w.heap.size w W) => (show W.cell? ⟨g2, 0, none⟩ = some (.int .i64 x) from (cell_on hb hg).trans hx))
  have HE := Lib.hid (And.intro hq (And.intro hs (And.intro hdx hdy)))
  clear h hv ha hb hc hd hk hq hs hdx hdy hx
  go_enter Tryz.func32, Tryz.ntmps32
  go_wp2_with fail
  ((with_reducible refine (ident_spec _).mono ?_); rintro e w1 ⟨rfl, b1⟩)
  have bA : Below w.heap.size w (w1.alloc (.cells #[.int .i64 0, .int .i64 1, .int .i64 0, .int .i64 0] 38)) := b1.alloc b1.size _
  go_upto_region 2 with (fail)
  obtain ⟨g3, hg3⟩ : ∃ x, w1.heap.size = x := ⟨_, rfl⟩
  have F7 := Four.newAt w1 38 0 1 0 0 hg3
  have gw : w.heap.size ≤ g3 := by rw [← hg3]; exact b1.size
  rw [hg3]
  generalize w1.alloc (.cells #[.int .i64 0, .int .i64 1, .int .i64 0, .int .i64 0] 38) = V at bA F7 ⊢
  have x0 := Hx.out V bA
  obtain ⟨d0, d1, d2, d3, df⟩ := Four.lay F7
  clear hg3 b1
  have H7 := Lib.hid (And.intro bA F7)
  clear bA F7
  go_upto_region 25 with (fail)
  refine gen_any (fun W => Four W g3 q s dx dy ∧ Below w.heap.size w W) ⟨by
    obtain ⟨h1, h2, h3, h4⟩ := HE.out
    rw [← h1, ← h2, ← h3, ← h4]
    refine ⟨?_, ?_, ?_, ?_, ?_⟩ <;> simp [go_sem, d0, d1, d2, d3, df], by have := H7.out.1; exact (Below.setCell (p := ⟨g3, 0, none⟩) this gw _)⟩ ?_
  rintro W0 ⟨G4, bW⟩
  clear d0 d1 d2 d3 df x0
  have HK := Lib.hid (fun (W : World) (hb : Below W0.heap.size W0 W) => (show W.cell? ⟨X, 1, none⟩ = some (.int .i64 P.now.q) ∧ W.cell? ⟨X, 2, none⟩ = some (.int .i64 P.now.s) ∧ W.cell? ⟨X, 3, none⟩ = some (.int .i64 P.now.dx) ∧ W.cell? ⟨X, 4, none⟩ = some (.int .i64 P.now.dy) ∧ (∀ o, W.frozen? ⟨X, o, none⟩ = false) ∧ X < W.heap.size from by
    have k := (HC.out.keep bW).keep hb
    exact ⟨k.1 1 _ rfl, k.1 2 _ rfl, k.1 3 _ rfl, k.1 4 _ rfl, k.2.1, k.2.2⟩))
  have HS := Lib.hid (fun (W : World) (hb : Below W0.heap.size W0 W) => (show (W.cell? ⟨g3, 0, none⟩ = some (.int .i64 q) ∧ W.cell? ⟨g3, 1, none⟩ = some (.int .i64 s) ∧ W.cell? ⟨g3, 2, none⟩ = some (.int .i64 dx) ∧ W.cell? ⟨g3, 3, none⟩ = some (.int .i64 dy)) ∧ (W.cell? ⟨X, 1, none⟩ = some (.int .i64 P.now.q) ∧ W.cell? ⟨X, 2, none⟩ = some (.int .i64 P.now.s) ∧ W.cell? ⟨X, 3, none⟩ = some (.int .i64 P.now.dx) ∧ W.cell? ⟨X, 4, none⟩ = some (.int .i64 P.now.dy)) from by
    have k := HK.out W hb
    obtain ⟨c0, c1, c2, c3, _⟩ := Four.lay (G4.keep hb G4.lt)
    exact ⟨⟨c0, c1, c2, c3⟩, k.1, k.2.1, k.2.2.1, k.2.2.2.1⟩))
  have HB := Lib.hid bW
  have g3W : g3 < W0.heap.size := G4.lt
  have XW : X < W0.heap.size := by have := bW.size; omega
  clear G4 bW
  refine wp_region_held_drew (S := fun W => (W.cell? ⟨g3, 0, none⟩ = some (.int .i64 q) ∧ W.cell? ⟨g3, 1, none⟩ = some (.int .i64 s) ∧ W.cell? ⟨g3, 2, none⟩ = some (.int .i64 dx) ∧ W.cell? ⟨g3, 3, none⟩ = some (.int .i64 dy)) ∧ (W.cell? ⟨X, 1, none⟩ = some (.int .i64 P.now.q) ∧ W.cell? ⟨X, 2, none⟩ = some (.int .i64 P.now.s) ∧ W.cell? ⟨X, 3, none⟩ = some (.int .i64 P.now.dx) ∧ W.cell? ⟨X, 4, none⟩ = some (.int .i64 P.now.dy))) (by kernel_rfl) (HS.out _ (by go_grown)) (fun hHeld => ?_)
  refine wpAnyH_take (i := 0) (oi := _) (v := ?_) rfl (by kernel_rfl) (by kernel_rfl) (by kernel_rfl) (fun _ _ _ h => h) (Or.inl ⟨by rfl, ?_⟩) (by assumption) ?_
  rotate_left
  · (intro w hSw; (try dsimp only at hSw); go_simp; try with_reducible rfl)
  try simp only [Act.put, List.setIfInBounds_toArray, List.set_cons_zero, List.set_cons_succ]
  refine wpAnyH_take (i := 1) (oi := _) (v := ?_) rfl (by kernel_rfl) (by kernel_rfl) (by kernel_rfl) (fun _ _ _ h => h) (Or.inl ⟨by rfl, ?_⟩) (by assumption) ?_
  rotate_left
  · (intro w hSw; (try dsimp only at hSw); go_simp; try with_reducible rfl)
  try simp only [Act.put, List.setIfInBounds_toArray, List.set_cons_zero, List.set_cons_succ]
  refine wpAnyH_take (i := 2) (oi := _) (v := ?_) rfl (by kernel_rfl) (by kernel_rfl) (by kernel_rfl) (fun _ _ _ h => h) (Or.inl ⟨by rfl, ?_⟩) (by assumption) ?_
  rotate_left
  · (intro w hSw; (try dsimp only at hSw); go_simp; try with_reducible rfl)
  try simp only [Act.put, List.setIfInBounds_toArray, List.set_cons_zero, List.set_cons_succ]
  refine wpAnyH_take (i := 3) (oi := _) (v := ?_) rfl (by kernel_rfl) (by kernel_rfl) (by kernel_rfl) (fun _ _ _ h => h) (Or.inl ⟨by rfl, ?_⟩) (by assumption) ?_
  rotate_left
  · (intro w hSw; (try dsimp only at hSw); go_simp; try with_reducible rfl)
  try simp only [Act.put, List.setIfInBounds_toArray, List.set_cons_zero, List.set_cons_succ]
  refine wpAnyH_take (i := 4) (oi := _) (v := ?_) rfl (by kernel_rfl) (by kernel_rfl) (by kernel_rfl) (fun _ _ _ h => h) (Or.inl ⟨by rfl, ?_⟩) (by assumption) ?_
  rotate_left
  · (intro w hSw; (try dsimp only at hSw); go_simp; try with_reducible rfl)
  try simp only [Act.put, List.setIfInBounds_toArray, List.set_cons_zero, List.set_cons_succ]
  refine wpAnyH_take (i := 5) (oi := _) (v := ?_) rfl (by kernel_rfl) (by kernel_rfl) (by kernel_rfl) (fun _ _ _ h => h) (Or.inl ⟨by rfl, ?_⟩) (by assumption) ?_
  rotate_left
  · (intro w hSw; (try dsimp only at hSw); go_simp; try with_reducible rfl)
  try simp only [Act.put, List.setIfInBounds_toArray, List.set_cons_zero, List.set_cons_succ]
  refine wpAnyH_ready (rs := [6, 10]) (by kernel_rfl) (by simp) ?_
  refine AllReadyH.cons (o := _) rfl (fun KK hKK => ?_) ?_
  · (go_simp; go_at_call 70; (with_reducible refine (HJ.out _).mono ?_); rintro e w5 ⟨rfl, bb⟩; (try (have zF := Four.lay (Four.keep (four_drew (Four.new W0 38 0 0 0 0)) bb (by simp)); obtain ⟨z0, z1, z2, z3, zf⟩ := zF)); have b0 := on_of (show Below W0.heap.size W0 _ from by go_grown) bb; have z5 := b0.size; have H5 := Lib.hid b0; obtain ⟨k1, k2, k3, k4, fz, lX⟩ := HK.out w5 b0)
    try go_wp2_with fail
    refine hKK.out _ _ ?_ (fun hHeld2 => ?_)
    · (try dsimp only); first | exact HS.out _ H5.out | exact HS.out _ (H5.out.alloc H5.out.size _) | exact HS.out _ ((((H5.out.setCell (p := ⟨W0.heap.size, 0, none⟩) (Nat.le_refl _) _).setCell (p := ⟨W0.heap.size, 1, none⟩) (Nat.le_refl _) _).setCell (p := ⟨W0.heap.size, 2, none⟩) (Nat.le_refl _) _).setCell (p := ⟨W0.heap.size, 3, none⟩) (Nat.le_refl _) _) | (refine HS.out _ ?_; go_grown; done)
    refine wpAnyH_take (i := 7) (oi := _) (v := ?_) rfl (by kernel_rfl) (by kernel_rfl) (by kernel_rfl) (fun _ _ _ h => h) (Or.inl ⟨by rfl, ?_⟩) (by assumption) ?_
    rotate_left
    · (intro w hSw; (try dsimp only at hSw); go_simp; try with_reducible rfl)
    try simp only [Act.put, List.setIfInBounds_toArray, List.set_cons_zero, List.set_cons_succ]
    refine wpAnyH_take (i := 8) (oi := _) (v := ?_) rfl (by kernel_rfl) (by kernel_rfl) (by kernel_rfl) (fun _ _ _ h => h) (Or.inl ⟨by rfl, ?_⟩) (by assumption) ?_
    rotate_left
    · (intro w hSw; (try dsimp only at hSw); go_simp; try with_reducible rfl)
    try simp only [Act.put, List.setIfInBounds_toArray, List.set_cons_zero, List.set_cons_succ]
    refine wpAnyH_take (i := 9) (oi := _) (v := ?_) rfl (by kernel_rfl) (by kernel_rfl) (by kernel_rfl) (fun _ _ _ h => h) (Or.inl ⟨by rfl, ?_⟩) (by assumption) ?_
    rotate_left
    · (intro w hSw; (try dsimp only at hSw); go_simp; try with_reducible rfl)
    try simp only [Act.put, List.setIfInBounds_toArray, List.set_cons_zero, List.set_cons_succ]
    refine wpAnyH_ready (rs := [10]) (by kernel_rfl) (by simp) ?_
    refine AllReadyH.cons (o := _) rfl (fun KK hKK => ?_) AllReadyH.nil
    go_simp
    try go_wp2_with fail
    refine hKK.out _ _ ?_ (fun hHeld2 => ?_)
    · (try dsimp only); first | exact HS.out _ H5.out | exact HS.out _ (H5.out.alloc H5.out.size _) | exact HS.out _ ((((H5.out.setCell (p := ⟨W0.heap.size, 0, none⟩) (Nat.le_refl _) _).setCell (p := ⟨W0.heap.size, 1, none⟩) (Nat.le_refl _) _).setCell (p := ⟨W0.heap.size, 2, none⟩) (Nat.le_refl _) _).setCell (p := ⟨W0.heap.size, 3, none⟩) (Nat.le_refl _) _) | (refine HS.out _ ?_; go_grown; done)
    refine wpAnyH_ready (rs := [11]) (by kernel_rfl) (by simp) ?_
    refine AllReadyH.cons (o := _) rfl (fun KK hKK => ?_) AllReadyH.nil
    go_simp
    try go_wp2_with fail
    refine hKK.out _ _ ?_ (fun hHeld2 => ?_)
    · (try dsimp only); first | exact HS.out _ H5.out | exact HS.out _ (H5.out.alloc H5.out.size _) | exact HS.out _ ((((H5.out.setCell (p := ⟨W0.heap.size, 0, none⟩) (Nat.le_refl _) _).setCell (p := ⟨W0.heap.size, 1, none⟩) (Nat.le_refl _) _).setCell (p := ⟨W0.heap.size, 2, none⟩) (Nat.le_refl _) _).setCell (p := ⟨W0.heap.size, 3, none⟩) (Nat.le_refl _) _) | (refine HS.out _ ?_; go_grown; done)
    refine wpAnyH_take (i := 12) (oi := _) (v := ?_) rfl (by kernel_rfl) (by kernel_rfl) (by kernel_rfl) (fun _ _ _ h => h) (Or.inl ⟨by rfl, ?_⟩) (by assumption) ?_
    rotate_left
    · (intro w hSw; (try dsimp only at hSw); go_simp; try with_reducible rfl)
    try simp only [Act.put, List.setIfInBounds_toArray, List.set_cons_zero, List.set_cons_succ]
    refine wpAnyH_done (by kernel_rfl) ?_ _
    first
      | (refine gen_any (fun W => Four W w5.heap.size a b c d ∧ Below W0.heap.size W0 W) ⟨Four.new w5 _ a b c d, H5.out.alloc (by omega) _⟩ ?_)
      | (refine gen_any (fun W => Four W W0.heap.size a b c d ∧ Below W0.heap.size W0 W) ⟨Four.set ⟨z0, z1, z2, z3, zf⟩ a b c d, (((H5.out.setCell (p := ⟨W0.heap.size, 0, none⟩) (Nat.le_refl _) _).setCell (p := ⟨W0.heap.size, 1, none⟩) (Nat.le_refl _) _).setCell (p := ⟨W0.heap.size, 2, none⟩) (Nat.le_refl _) _).setCell (p := ⟨W0.heap.size, 3, none⟩) (Nat.le_refl _) _⟩ ?_)
    rintro W9 ⟨F9, B9⟩
    obtain ⟨d0, d1, d2, d3, _⟩ := Four.lay F9
    obtain ⟨k1, k2, k3, k4, fz, lX⟩ := HK.out W9 B9
    have H9 := Lib.hid (on_of HB.out B9)
    clear F9 B9
    go_wp2
    go_ret
    exact HR.out _ H9.out
  refine AllReadyH.cons (o := _) rfl (fun KK hKK => ?_) AllReadyH.nil
  go_simp
  try go_wp2_with fail
  refine hKK.out _ _ ?_ (fun hHeld2 => ?_)
  · (try dsimp only); first | exact HS.out _ H5.out | exact HS.out _ (H5.out.alloc H5.out.size _) | exact HS.out _ ((((H5.out.setCell (p := ⟨W0.heap.size, 0, none⟩) (Nat.le_refl _) _).setCell (p := ⟨W0.heap.size, 1, none⟩) (Nat.le_refl _) _).setCell (p := ⟨W0.heap.size, 2, none⟩) (Nat.le_refl _) _).setCell (p := ⟨W0.heap.size, 3, none⟩) (Nat.le_refl _) _) | (refine HS.out _ ?_; go_grown; done)
  refine wpAnyH_ready (rs := [6]) (by kernel_rfl) (by simp) ?_
  refine AllReadyH.cons (o := _) rfl (fun KK hKK => ?_) AllReadyH.nil
  (go_simp; go_at_call 70; (with_reducible refine (HJ.out _).mono ?_); rintro e w5 ⟨rfl, bb⟩; (try (have zF := Four.lay (Four.keep (four_drew (Four.new W0 38 0 0 0 0)) bb (by simp)); obtain ⟨z0, z1, z2, z3, zf⟩ := zF)); have b0 := on_of (show Below W0.heap.size W0 _ from by go_grown) bb; have z5 := b0.size; have H5 := Lib.hid b0; obtain ⟨k1, k2, k3, k4, fz, lX⟩ := HK.out w5 b0)
  try go_wp2_with fail
  refine hKK.out _ _ ?_ (fun hHeld2 => ?_)
  · (try dsimp only); first | exact HS.out _ H5.out | exact HS.out _ (H5.out.alloc H5.out.size _) | exact HS.out _ ((((H5.out.setCell (p := ⟨W0.heap.size, 0, none⟩) (Nat.le_refl _) _).setCell (p := ⟨W0.heap.size, 1, none⟩) (Nat.le_refl _) _).setCell (p := ⟨W0.heap.size, 2, none⟩) (Nat.le_refl _) _).setCell (p := ⟨W0.heap.size, 3, none⟩) (Nat.le_refl _) _) | (refine HS.out _ ?_; go_grown; done)
  refine wpAnyH_take (i := 7) (oi := _) (v := ?_) rfl (by kernel_rfl) (by kernel_rfl) (by kernel_rfl) (fun _ _ _ h => h) (Or.inl ⟨by rfl, ?_⟩) (by assumption) ?_
  rotate_left
  · (intro w hSw; (try dsimp only at hSw); go_simp; try with_reducible rfl)
  try simp only [Act.put, List.setIfInBounds_toArray, List.set_cons_zero, List.set_cons_succ]
  refine wpAnyH_take (i := 8) (oi := _) (v := ?_) rfl (by kernel_rfl) (by kernel_rfl) (by kernel_rfl) (fun _ _ _ h => h) (Or.inl ⟨by rfl, ?_⟩) (by assumption) ?_
  rotate_left
  · (intro w hSw; (try dsimp only at hSw); go_simp; try with_reducible rfl)
  try simp only [Act.put, List.setIfInBounds_toArray, List.set_cons_zero, List.set_cons_succ]
  refine wpAnyH_take (i := 9) (oi := _) (v := ?_) rfl (by kernel_rfl) (by kernel_rfl) (by kernel_rfl) (fun _ _ _ h => h) (Or.inl ⟨by rfl, ?_⟩) (by assumption) ?_
  rotate_left
  · (intro w hSw; (try dsimp only at hSw); go_simp; try with_reducible rfl)
  try simp only [Act.put, List.setIfInBounds_toArray, List.set_cons_zero, List.set_cons_succ]
  refine wpAnyH_ready (rs := [11]) (by kernel_rfl) (by simp) ?_
  refine AllReadyH.cons (o := _) rfl (fun KK hKK => ?_) AllReadyH.nil
  go_simp
  try go_wp2_with fail
  refine hKK.out _ _ ?_ (fun hHeld2 => ?_)
  · (try dsimp only); first | exact HS.out _ H5.out | exact HS.out _ (H5.out.alloc H5.out.size _) | exact HS.out _ ((((H5.out.setCell (p := ⟨W0.heap.size, 0, none⟩) (Nat.le_refl _) _).setCell (p := ⟨W0.heap.size, 1, none⟩) (Nat.le_refl _) _).setCell (p := ⟨W0.heap.size, 2, none⟩) (Nat.le_refl _) _).setCell (p := ⟨W0.heap.size, 3, none⟩) (Nat.le_refl _) _) | (refine HS.out _ ?_; go_grown; done)
  refine wpAnyH_take (i := 12) (oi := _) (v := ?_) rfl (by kernel_rfl) (by kernel_rfl) (by kernel_rfl) (fun _ _ _ h => h) (Or.inl ⟨by rfl, ?_⟩) (by assumption) ?_
  rotate_left
  · (intro w hSw; (try dsimp only at hSw); go_simp; try with_reducible rfl)
  try simp only [Act.put, List.setIfInBounds_toArray, List.set_cons_zero, List.set_cons_succ]
  refine wpAnyH_done (by kernel_rfl) ?_ _
  first
    | (refine gen_any (fun W => Four W w5.heap.size a b c d ∧ Below W0.heap.size W0 W) ⟨Four.new w5 _ a b c d, H5.out.alloc (by omega) _⟩ ?_)
    | (refine gen_any (fun W => Four W W0.heap.size a b c d ∧ Below W0.heap.size W0 W) ⟨Four.set ⟨z0, z1, z2, z3, zf⟩ a b c d, (((H5.out.setCell (p := ⟨W0.heap.size, 0, none⟩) (Nat.le_refl _) _).setCell (p := ⟨W0.heap.size, 1, none⟩) (Nat.le_refl _) _).setCell (p := ⟨W0.heap.size, 2, none⟩) (Nat.le_refl _) _).setCell (p := ⟨W0.heap.size, 3, none⟩) (Nat.le_refl _) _⟩ ?_)
  rintro W9 ⟨F9, B9⟩
  obtain ⟨d0, d1, d2, d3, _⟩ := Four.lay F9
  obtain ⟨k1, k2, k3, k4, fz, lX⟩ := HK.out W9 B9
  have H9 := Lib.hid (on_of HB.out B9)
  clear F9 B9
  go_wp2
  go_ret
  exact HR.out _ H9.out
set_option maxHeartbeats 8000000 in
theorem sp_scale {w : World} {B X : Nat} {P : Pg} (h : PgAt w B X P) (hB : B ≤ w.heap.size) (hX : B ≤ X) (str : ByteArray) (hk : opN str = some 11) (g2 c2 : Nat) (x : Int) (q s dx dy : Int) (hq : 0 = q) (hs : x = s) (hdx : 0 = dx) (hdy : 0 = dy) (hg : g2 < w.heap.size) (hx : w.cell? ⟨g2, 0, none⟩ = some (.int .i64 x)) :
    Calls Tryz.prog 32 #[.pointer (some ⟨X, 0, none⟩), .string str, .slice (some ⟨g2, 0, none⟩) 1 c2] w (OpRes B X (if tuB P.now q s dx dy = true then some (turM P q s dx dy) else none) w) := by
  obtain ⟨a0, c0, f0, a5, c5, P5, a11, c11, P11, f11, a12, c12, P12, f12, h⟩ := h.flat
  obtain ⟨n0, n1, n2, n3, n4, n5, n6, n7, n8, n9, n10, n11⟩ := nm12 hk
  have hXl := h.blk.2.2
  obtain ⟨v, hv⟩ : ∃ v, jnB q s dx dy P.now.q P.now.s P.now.dx P.now.dy = v := ⟨_, rfl⟩
  obtain ⟨a, ha⟩ : ∃ a, sel v (jq q P.now.q) = a := ⟨_, rfl⟩
  obtain ⟨b, hb⟩ : ∃ b, sel v (s * P.now.s) = b := ⟨_, rfl⟩
  obtain ⟨c, hc⟩ : ∃ c, sel v (imX P.now.q P.now.s P.now.dx dx dy) = c := ⟨_, rfl⟩
  obtain ⟨d, hd⟩ : ∃ d, sel v (imY P.now.q P.now.s P.now.dy dx dy) = d := ⟨_, rfl⟩
  have HR : Hid (∀ W', Below w.heap.size w W' → OpRes B X (if tuB P.now q s dx dy = true then some (turM P q s dx dy) else none) w (.returned (.bool v)) (W'.setCells X 1 [.int .i64 a, .int .i64 b, .int .i64 c, .int .i64 d])) := Lib.hid fun W' hW => by
    have hN := h.nums hW hB hX a b c d P.now.gray P.now.x0 P.now.y0 P.now.x1 P.now.y1 (o := 1) (vs := [.int .i64 a, .int .i64 b, .int .i64 c, .int .i64 d]) (Blk.sets (P := [_]) (us := [_, _, _, _]) (h.blk.keep hW) rfl rfl)
    have e : tuB P.now q s dx dy = v := hv
    rw [e]
    cases v
    · exact ⟨rfl, hN.1, fun P' hP => by cases hP⟩
    · refine ⟨rfl, hN.1, fun P' hP => ?_⟩
      injection hP with hP
      subst hP
      have e2 : turM P q s dx dy = { P with now := ⟨P.now.st, a, b, c, d, P.now.path, P.now.gray, P.now.x0, P.now.y0, P.now.x1, P.now.y1⟩ } := by simp only [turM, e, ha, hb, hc, hd]
      rw [e2]
      exact hN.2
  obtain ⟨r, hr⟩ : ∃ r, (if tuB P.now q s dx dy = true then some (turM P q s dx dy) else none) = r := ⟨_, rfl⟩
  rw [hr] at HR ⊢
  clear hr
  have HJ := Lib.hid (fun w : World => joinS_at q s dx dy P.now.q P.now.s P.now.dx P.now.dy w hv ha hb hc hd)
  have HC := Lib.hid h.blk
  have Hx := Lib.hid (fun (W : World) (hb : Below w.heap.size w W) => (show W.cell? ⟨g2, 0, none⟩ = some (.int .i64 x) from (cell_on hb hg).trans hx))
  have HE := Lib.hid (And.intro hq (And.intro hs (And.intro hdx hdy)))
  clear h hv ha hb hc hd hk hq hs hdx hdy hx
  go_enter Tryz.func32, Tryz.ntmps32
  go_wp2_with fail
  ((with_reducible refine (ident_spec _).mono ?_); rintro e w1 ⟨rfl, b1⟩)
  have bA : Below w.heap.size w (w1.alloc (.cells #[.int .i64 0, .int .i64 1, .int .i64 0, .int .i64 0] 38)) := b1.alloc b1.size _
  go_upto_region 2 with (fail)
  obtain ⟨g3, hg3⟩ : ∃ x, w1.heap.size = x := ⟨_, rfl⟩
  have F7 := Four.newAt w1 38 0 1 0 0 hg3
  have gw : w.heap.size ≤ g3 := by rw [← hg3]; exact b1.size
  rw [hg3]
  generalize w1.alloc (.cells #[.int .i64 0, .int .i64 1, .int .i64 0, .int .i64 0] 38) = V at bA F7 ⊢
  have x0 := Hx.out V bA
  obtain ⟨d0, d1, d2, d3, df⟩ := Four.lay F7
  clear hg3 b1
  have H7 := Lib.hid (And.intro bA F7)
  clear bA F7
  go_upto_region 25 with (fail)
  refine gen_any (fun W => Four W g3 q s dx dy ∧ Below w.heap.size w W) ⟨by
    obtain ⟨h1, h2, h3, h4⟩ := HE.out
    rw [← h1, ← h2, ← h3, ← h4]
    refine ⟨?_, ?_, ?_, ?_, ?_⟩ <;> simp [go_sem, d0, d1, d2, d3, df], by have := H7.out.1; exact (Below.setCell (p := ⟨g3, 1, none⟩) this gw _)⟩ ?_
  rintro W0 ⟨G4, bW⟩
  clear d0 d1 d2 d3 df x0
  have HK := Lib.hid (fun (W : World) (hb : Below W0.heap.size W0 W) => (show W.cell? ⟨X, 1, none⟩ = some (.int .i64 P.now.q) ∧ W.cell? ⟨X, 2, none⟩ = some (.int .i64 P.now.s) ∧ W.cell? ⟨X, 3, none⟩ = some (.int .i64 P.now.dx) ∧ W.cell? ⟨X, 4, none⟩ = some (.int .i64 P.now.dy) ∧ (∀ o, W.frozen? ⟨X, o, none⟩ = false) ∧ X < W.heap.size from by
    have k := (HC.out.keep bW).keep hb
    exact ⟨k.1 1 _ rfl, k.1 2 _ rfl, k.1 3 _ rfl, k.1 4 _ rfl, k.2.1, k.2.2⟩))
  have HS := Lib.hid (fun (W : World) (hb : Below W0.heap.size W0 W) => (show (W.cell? ⟨g3, 0, none⟩ = some (.int .i64 q) ∧ W.cell? ⟨g3, 1, none⟩ = some (.int .i64 s) ∧ W.cell? ⟨g3, 2, none⟩ = some (.int .i64 dx) ∧ W.cell? ⟨g3, 3, none⟩ = some (.int .i64 dy)) ∧ (W.cell? ⟨X, 1, none⟩ = some (.int .i64 P.now.q) ∧ W.cell? ⟨X, 2, none⟩ = some (.int .i64 P.now.s) ∧ W.cell? ⟨X, 3, none⟩ = some (.int .i64 P.now.dx) ∧ W.cell? ⟨X, 4, none⟩ = some (.int .i64 P.now.dy)) from by
    have k := HK.out W hb
    obtain ⟨c0, c1, c2, c3, _⟩ := Four.lay (G4.keep hb G4.lt)
    exact ⟨⟨c0, c1, c2, c3⟩, k.1, k.2.1, k.2.2.1, k.2.2.2.1⟩))
  have HB := Lib.hid bW
  have g3W : g3 < W0.heap.size := G4.lt
  have XW : X < W0.heap.size := by have := bW.size; omega
  clear G4 bW
  refine wp_region_held_drew (S := fun W => (W.cell? ⟨g3, 0, none⟩ = some (.int .i64 q) ∧ W.cell? ⟨g3, 1, none⟩ = some (.int .i64 s) ∧ W.cell? ⟨g3, 2, none⟩ = some (.int .i64 dx) ∧ W.cell? ⟨g3, 3, none⟩ = some (.int .i64 dy)) ∧ (W.cell? ⟨X, 1, none⟩ = some (.int .i64 P.now.q) ∧ W.cell? ⟨X, 2, none⟩ = some (.int .i64 P.now.s) ∧ W.cell? ⟨X, 3, none⟩ = some (.int .i64 P.now.dx) ∧ W.cell? ⟨X, 4, none⟩ = some (.int .i64 P.now.dy))) (by kernel_rfl) (HS.out _ (by go_grown)) (fun hHeld => ?_)
  refine wpAnyH_take (i := 0) (oi := _) (v := ?_) rfl (by kernel_rfl) (by kernel_rfl) (by kernel_rfl) (fun _ _ _ h => h) (Or.inl ⟨by rfl, ?_⟩) (by assumption) ?_
  rotate_left
  · (intro w hSw; (try dsimp only at hSw); go_simp; try with_reducible rfl)
  try simp only [Act.put, List.setIfInBounds_toArray, List.set_cons_zero, List.set_cons_succ]
  refine wpAnyH_take (i := 1) (oi := _) (v := ?_) rfl (by kernel_rfl) (by kernel_rfl) (by kernel_rfl) (fun _ _ _ h => h) (Or.inl ⟨by rfl, ?_⟩) (by assumption) ?_
  rotate_left
  · (intro w hSw; (try dsimp only at hSw); go_simp; try with_reducible rfl)
  try simp only [Act.put, List.setIfInBounds_toArray, List.set_cons_zero, List.set_cons_succ]
  refine wpAnyH_take (i := 2) (oi := _) (v := ?_) rfl (by kernel_rfl) (by kernel_rfl) (by kernel_rfl) (fun _ _ _ h => h) (Or.inl ⟨by rfl, ?_⟩) (by assumption) ?_
  rotate_left
  · (intro w hSw; (try dsimp only at hSw); go_simp; try with_reducible rfl)
  try simp only [Act.put, List.setIfInBounds_toArray, List.set_cons_zero, List.set_cons_succ]
  refine wpAnyH_take (i := 3) (oi := _) (v := ?_) rfl (by kernel_rfl) (by kernel_rfl) (by kernel_rfl) (fun _ _ _ h => h) (Or.inl ⟨by rfl, ?_⟩) (by assumption) ?_
  rotate_left
  · (intro w hSw; (try dsimp only at hSw); go_simp; try with_reducible rfl)
  try simp only [Act.put, List.setIfInBounds_toArray, List.set_cons_zero, List.set_cons_succ]
  refine wpAnyH_take (i := 4) (oi := _) (v := ?_) rfl (by kernel_rfl) (by kernel_rfl) (by kernel_rfl) (fun _ _ _ h => h) (Or.inl ⟨by rfl, ?_⟩) (by assumption) ?_
  rotate_left
  · (intro w hSw; (try dsimp only at hSw); go_simp; try with_reducible rfl)
  try simp only [Act.put, List.setIfInBounds_toArray, List.set_cons_zero, List.set_cons_succ]
  refine wpAnyH_take (i := 5) (oi := _) (v := ?_) rfl (by kernel_rfl) (by kernel_rfl) (by kernel_rfl) (fun _ _ _ h => h) (Or.inl ⟨by rfl, ?_⟩) (by assumption) ?_
  rotate_left
  · (intro w hSw; (try dsimp only at hSw); go_simp; try with_reducible rfl)
  try simp only [Act.put, List.setIfInBounds_toArray, List.set_cons_zero, List.set_cons_succ]
  refine wpAnyH_ready (rs := [6, 10]) (by kernel_rfl) (by simp) ?_
  refine AllReadyH.cons (o := _) rfl (fun KK hKK => ?_) ?_
  · (go_simp; go_at_call 70; (with_reducible refine (HJ.out _).mono ?_); rintro e w5 ⟨rfl, bb⟩; (try (have zF := Four.lay (Four.keep (four_drew (Four.new W0 38 0 0 0 0)) bb (by simp)); obtain ⟨z0, z1, z2, z3, zf⟩ := zF)); have b0 := on_of (show Below W0.heap.size W0 _ from by go_grown) bb; have z5 := b0.size; have H5 := Lib.hid b0; obtain ⟨k1, k2, k3, k4, fz, lX⟩ := HK.out w5 b0)
    try go_wp2_with fail
    refine hKK.out _ _ ?_ (fun hHeld2 => ?_)
    · (try dsimp only); first | exact HS.out _ H5.out | exact HS.out _ (H5.out.alloc H5.out.size _) | exact HS.out _ ((((H5.out.setCell (p := ⟨W0.heap.size, 0, none⟩) (Nat.le_refl _) _).setCell (p := ⟨W0.heap.size, 1, none⟩) (Nat.le_refl _) _).setCell (p := ⟨W0.heap.size, 2, none⟩) (Nat.le_refl _) _).setCell (p := ⟨W0.heap.size, 3, none⟩) (Nat.le_refl _) _) | (refine HS.out _ ?_; go_grown; done)
    refine wpAnyH_take (i := 7) (oi := _) (v := ?_) rfl (by kernel_rfl) (by kernel_rfl) (by kernel_rfl) (fun _ _ _ h => h) (Or.inl ⟨by rfl, ?_⟩) (by assumption) ?_
    rotate_left
    · (intro w hSw; (try dsimp only at hSw); go_simp; try with_reducible rfl)
    try simp only [Act.put, List.setIfInBounds_toArray, List.set_cons_zero, List.set_cons_succ]
    refine wpAnyH_take (i := 8) (oi := _) (v := ?_) rfl (by kernel_rfl) (by kernel_rfl) (by kernel_rfl) (fun _ _ _ h => h) (Or.inl ⟨by rfl, ?_⟩) (by assumption) ?_
    rotate_left
    · (intro w hSw; (try dsimp only at hSw); go_simp; try with_reducible rfl)
    try simp only [Act.put, List.setIfInBounds_toArray, List.set_cons_zero, List.set_cons_succ]
    refine wpAnyH_take (i := 9) (oi := _) (v := ?_) rfl (by kernel_rfl) (by kernel_rfl) (by kernel_rfl) (fun _ _ _ h => h) (Or.inl ⟨by rfl, ?_⟩) (by assumption) ?_
    rotate_left
    · (intro w hSw; (try dsimp only at hSw); go_simp; try with_reducible rfl)
    try simp only [Act.put, List.setIfInBounds_toArray, List.set_cons_zero, List.set_cons_succ]
    refine wpAnyH_ready (rs := [10]) (by kernel_rfl) (by simp) ?_
    refine AllReadyH.cons (o := _) rfl (fun KK hKK => ?_) AllReadyH.nil
    go_simp
    try go_wp2_with fail
    refine hKK.out _ _ ?_ (fun hHeld2 => ?_)
    · (try dsimp only); first | exact HS.out _ H5.out | exact HS.out _ (H5.out.alloc H5.out.size _) | exact HS.out _ ((((H5.out.setCell (p := ⟨W0.heap.size, 0, none⟩) (Nat.le_refl _) _).setCell (p := ⟨W0.heap.size, 1, none⟩) (Nat.le_refl _) _).setCell (p := ⟨W0.heap.size, 2, none⟩) (Nat.le_refl _) _).setCell (p := ⟨W0.heap.size, 3, none⟩) (Nat.le_refl _) _) | (refine HS.out _ ?_; go_grown; done)
    refine wpAnyH_ready (rs := [11]) (by kernel_rfl) (by simp) ?_
    refine AllReadyH.cons (o := _) rfl (fun KK hKK => ?_) AllReadyH.nil
    go_simp
    try go_wp2_with fail
    refine hKK.out _ _ ?_ (fun hHeld2 => ?_)
    · (try dsimp only); first | exact HS.out _ H5.out | exact HS.out _ (H5.out.alloc H5.out.size _) | exact HS.out _ ((((H5.out.setCell (p := ⟨W0.heap.size, 0, none⟩) (Nat.le_refl _) _).setCell (p := ⟨W0.heap.size, 1, none⟩) (Nat.le_refl _) _).setCell (p := ⟨W0.heap.size, 2, none⟩) (Nat.le_refl _) _).setCell (p := ⟨W0.heap.size, 3, none⟩) (Nat.le_refl _) _) | (refine HS.out _ ?_; go_grown; done)
    refine wpAnyH_take (i := 12) (oi := _) (v := ?_) rfl (by kernel_rfl) (by kernel_rfl) (by kernel_rfl) (fun _ _ _ h => h) (Or.inl ⟨by rfl, ?_⟩) (by assumption) ?_
    rotate_left
    · (intro w hSw; (try dsimp only at hSw); go_simp; try with_reducible rfl)
    try simp only [Act.put, List.setIfInBounds_toArray, List.set_cons_zero, List.set_cons_succ]
    refine wpAnyH_done (by kernel_rfl) ?_ _
    first
      | (refine gen_any (fun W => Four W w5.heap.size a b c d ∧ Below W0.heap.size W0 W) ⟨Four.new w5 _ a b c d, H5.out.alloc (by omega) _⟩ ?_)
      | (refine gen_any (fun W => Four W W0.heap.size a b c d ∧ Below W0.heap.size W0 W) ⟨Four.set ⟨z0, z1, z2, z3, zf⟩ a b c d, (((H5.out.setCell (p := ⟨W0.heap.size, 0, none⟩) (Nat.le_refl _) _).setCell (p := ⟨W0.heap.size, 1, none⟩) (Nat.le_refl _) _).setCell (p := ⟨W0.heap.size, 2, none⟩) (Nat.le_refl _) _).setCell (p := ⟨W0.heap.size, 3, none⟩) (Nat.le_refl _) _⟩ ?_)
    rintro W9 ⟨F9, B9⟩
    obtain ⟨d0, d1, d2, d3, _⟩ := Four.lay F9
    obtain ⟨k1, k2, k3, k4, fz, lX⟩ := HK.out W9 B9
    have H9 := Lib.hid (on_of HB.out B9)
    clear F9 B9
    go_wp2
    go_ret
    exact HR.out _ H9.out
  refine AllReadyH.cons (o := _) rfl (fun KK hKK => ?_) AllReadyH.nil
  go_simp
  try go_wp2_with fail
  refine hKK.out _ _ ?_ (fun hHeld2 => ?_)
  · (try dsimp only); first | exact HS.out _ H5.out | exact HS.out _ (H5.out.alloc H5.out.size _) | exact HS.out _ ((((H5.out.setCell (p := ⟨W0.heap.size, 0, none⟩) (Nat.le_refl _) _).setCell (p := ⟨W0.heap.size, 1, none⟩) (Nat.le_refl _) _).setCell (p := ⟨W0.heap.size, 2, none⟩) (Nat.le_refl _) _).setCell (p := ⟨W0.heap.size, 3, none⟩) (Nat.le_refl _) _) | (refine HS.out _ ?_; go_grown; done)
  refine wpAnyH_ready (rs := [6]) (by kernel_rfl) (by simp) ?_
  refine AllReadyH.cons (o := _) rfl (fun KK hKK => ?_) AllReadyH.nil
  (go_simp; go_at_call 70; (with_reducible refine (HJ.out _).mono ?_); rintro e w5 ⟨rfl, bb⟩; (try (have zF := Four.lay (Four.keep (four_drew (Four.new W0 38 0 0 0 0)) bb (by simp)); obtain ⟨z0, z1, z2, z3, zf⟩ := zF)); have b0 := on_of (show Below W0.heap.size W0 _ from by go_grown) bb; have z5 := b0.size; have H5 := Lib.hid b0; obtain ⟨k1, k2, k3, k4, fz, lX⟩ := HK.out w5 b0)
  try go_wp2_with fail
  refine hKK.out _ _ ?_ (fun hHeld2 => ?_)
  · (try dsimp only); first | exact HS.out _ H5.out | exact HS.out _ (H5.out.alloc H5.out.size _) | exact HS.out _ ((((H5.out.setCell (p := ⟨W0.heap.size, 0, none⟩) (Nat.le_refl _) _).setCell (p := ⟨W0.heap.size, 1, none⟩) (Nat.le_refl _) _).setCell (p := ⟨W0.heap.size, 2, none⟩) (Nat.le_refl _) _).setCell (p := ⟨W0.heap.size, 3, none⟩) (Nat.le_refl _) _) | (refine HS.out _ ?_; go_grown; done)
  refine wpAnyH_take (i := 7) (oi := _) (v := ?_) rfl (by kernel_rfl) (by kernel_rfl) (by kernel_rfl) (fun _ _ _ h => h) (Or.inl ⟨by rfl, ?_⟩) (by assumption) ?_
  rotate_left
  · (intro w hSw; (try dsimp only at hSw); go_simp; try with_reducible rfl)
  try simp only [Act.put, List.setIfInBounds_toArray, List.set_cons_zero, List.set_cons_succ]
  refine wpAnyH_take (i := 8) (oi := _) (v := ?_) rfl (by kernel_rfl) (by kernel_rfl) (by kernel_rfl) (fun _ _ _ h => h) (Or.inl ⟨by rfl, ?_⟩) (by assumption) ?_
  rotate_left
  · (intro w hSw; (try dsimp only at hSw); go_simp; try with_reducible rfl)
  try simp only [Act.put, List.setIfInBounds_toArray, List.set_cons_zero, List.set_cons_succ]
  refine wpAnyH_take (i := 9) (oi := _) (v := ?_) rfl (by kernel_rfl) (by kernel_rfl) (by kernel_rfl) (fun _ _ _ h => h) (Or.inl ⟨by rfl, ?_⟩) (by assumption) ?_
  rotate_left
  · (intro w hSw; (try dsimp only at hSw); go_simp; try with_reducible rfl)
  try simp only [Act.put, List.setIfInBounds_toArray, List.set_cons_zero, List.set_cons_succ]
  refine wpAnyH_ready (rs := [11]) (by kernel_rfl) (by simp) ?_
  refine AllReadyH.cons (o := _) rfl (fun KK hKK => ?_) AllReadyH.nil
  go_simp
  try go_wp2_with fail
  refine hKK.out _ _ ?_ (fun hHeld2 => ?_)
  · (try dsimp only); first | exact HS.out _ H5.out | exact HS.out _ (H5.out.alloc H5.out.size _) | exact HS.out _ ((((H5.out.setCell (p := ⟨W0.heap.size, 0, none⟩) (Nat.le_refl _) _).setCell (p := ⟨W0.heap.size, 1, none⟩) (Nat.le_refl _) _).setCell (p := ⟨W0.heap.size, 2, none⟩) (Nat.le_refl _) _).setCell (p := ⟨W0.heap.size, 3, none⟩) (Nat.le_refl _) _) | (refine HS.out _ ?_; go_grown; done)
  refine wpAnyH_take (i := 12) (oi := _) (v := ?_) rfl (by kernel_rfl) (by kernel_rfl) (by kernel_rfl) (fun _ _ _ h => h) (Or.inl ⟨by rfl, ?_⟩) (by assumption) ?_
  rotate_left
  · (intro w hSw; (try dsimp only at hSw); go_simp; try with_reducible rfl)
  try simp only [Act.put, List.setIfInBounds_toArray, List.set_cons_zero, List.set_cons_succ]
  refine wpAnyH_done (by kernel_rfl) ?_ _
  first
    | (refine gen_any (fun W => Four W w5.heap.size a b c d ∧ Below W0.heap.size W0 W) ⟨Four.new w5 _ a b c d, H5.out.alloc (by omega) _⟩ ?_)
    | (refine gen_any (fun W => Four W W0.heap.size a b c d ∧ Below W0.heap.size W0 W) ⟨Four.set ⟨z0, z1, z2, z3, zf⟩ a b c d, (((H5.out.setCell (p := ⟨W0.heap.size, 0, none⟩) (Nat.le_refl _) _).setCell (p := ⟨W0.heap.size, 1, none⟩) (Nat.le_refl _) _).setCell (p := ⟨W0.heap.size, 2, none⟩) (Nat.le_refl _) _).setCell (p := ⟨W0.heap.size, 3, none⟩) (Nat.le_refl _) _⟩ ?_)
  rintro W9 ⟨F9, B9⟩
  obtain ⟨d0, d1, d2, d3, _⟩ := Four.lay F9
  obtain ⟨k1, k2, k3, k4, fz, lX⟩ := HK.out W9 B9
  have H9 := Lib.hid (on_of HB.out B9)
  clear F9 B9
  go_wp2
  go_ret
  exact HR.out _ H9.out
end Go.Proofs.YtjmfgbbngocodaaGreat.Own

