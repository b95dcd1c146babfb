/-
  Texts of this seat, laid together: OpT
-/
import Derived.Test.YtjmfgbbngocodaaGreatV27
namespace Go.Proofs.YtjmfgbbngocodaaGreat.Own
open Go.ChangeShapes Go.WideShapes Go.ChangeAt Go.RowKit
open Kit Slabs Ints Stack Point Turn Join Pts Box
set_option linter.unusedVariables false
set_option linter.unusedSimpArgs false
set_option linter.unnecessarySimpa false
set_option maxRecDepth 100000
attribute [local go_sem ↓] hload_Graphics hload_Object hstore_Graphics hstore_Object hload_Page hstore_Page
theorem PgFl.nums {w w' : World} {B X : Nat} {p : Pg} {a0 : Option Addr} {c0 : Nat} {f0 : List Nat} {a5 : Option Addr} {c5 : Nat} {P5 : List Value} {a11 : Option Addr} {c11 : Nat} {P11 : List Value} {f11 : List Nat} {a12 : Option Addr} {c12 : Nat} {P12 : List Value} {f12 : List Nat}
    (h : PgFl w B X p a0 c0 f0 a5 c5 P5 a11 c11 P11 f11 a12 c12 P12 f12) (hb : Below w.heap.size w w') (hB : B ≤ w.heap.size) (hX : B ≤ X) (q s dx dy gray x0 y0 x1 y1 : Int) {o : Nat} {vs : List Value}
    (BX : Blk (w'.setCells X o vs) X (pgCells { p with now := ⟨p.now.st, q, s, dx, dy, p.now.path, gray, x0, y0, x1, y1⟩ } a0 c0 a5 c5 a11 c11 a12 c12)) :
    Below B w (w'.setCells X o vs) ∧ PgOwn (w'.setCells X o vs) B X { p with now := ⟨p.now.st, q, s, dx, dy, p.now.path, gray, x0, y0, x1, y1⟩ } := by
  have hXl := h.blk.2.2
  obtain ⟨nX, nX5, _⟩ := h.apart
  have tt : Turns w' (w'.setCells X o vs) (fun b => b = X) := turns_sets (S := fun b => b = X) X rfl _ _ _
  have zb := hb.size
  refine ⟨(hb.mono hB).trans (tt.below (by omega) (fun k e => e ▸ hX)), ?_⟩
  refine h.close (by have := tt.size; omega) (fun b hb' => ?_) rfl BX (row_own2 (row_turned (row_on h.r5 hb) tt (fun b hb e => nX5 (e ▸ hb))) (h.o5 _)) (rowF_nodup List.nodup_nil (fun b _ hh => absurd hh List.not_mem_nil)) hXl hB (fun b hb => (rowF_sub b hb).elim .inl (fun hh => absurd hh List.not_mem_nil))
  have lb := h.lt b hb'
  rw [tt.block b (by omega) (fun (e : b = X) => nX (e ▸ hb'))]
  exact hb.block b lb
theorem four_drew {w : World} {b : Nat} {x0 y0 x1 y1 : Int} (h : Four w b x0 y0 x1 y1) : Four w.drew b x0 y0 x1 y1 := ⟨h.c0, h.c1, h.c2, h.c3, h.fr⟩
theorem gen_any {p : World → Prop} {w : World} (F : World → Prop) (hF : F w) (h : ∀ W, F W → p W) : p w := h w hF
theorem join_at (q s dx dy r t ex ey : Int) (w : World) {a b c d : Int} {v : Bool} (hv : jnB q s dx dy r t ex ey = v) (ha : sel v (jq q r) = a) (hb : sel v (s * t) = b) (hc : sel v (imX r t ex dx dy) = c) (hd : sel v (imY r t ey dx dy) = d) :
    Calls Tryz.prog 156 #[.agg #[.int .i64 q, .int .i64 s, .int .i64 dx, .int .i64 dy], .agg #[.int .i64 r, .int .i64 t, .int .i64 ex, .int .i64 ey]] w fun e w' => e = .returned (.tuple #[.agg #[.int .i64 a, .int .i64 b, .int .i64 c, .int .i64 d], .bool v]) ∧ Below w.heap.size w w' := by
  subst hv ha hb hc hd
  exact join_impl q s dx dy r t ex ey w
set_option maxHeartbeats 4000000 in
theorem op_first {w : World} {B X : Nat} {P : Pg} (h : PgAt w B X P) (hB : B ≤ w.heap.size) (hX : B ≤ X) (q s dx dy : Int) :
    Calls Tryz.prog 132 #[.pointer (some ⟨X, 0, none⟩), .agg #[.int .i64 q, .int .i64 s, .int .i64 dx, .int .i64 dy]] w (OpRes B X (if tuB P.now q s dx dy = true then some (turM P q s dx dy) else none) w) := by
  obtain ⟨a0, c0, f0, a5, c5, P5, a11, c11, P11, f11, a12, c12, P12, f12, h⟩ := h.flat
  have hXl := h.blk.2.2
  obtain ⟨v, hv⟩ : ∃ v, jnB q s dx dy P.now.q P.now.s P.now.dx P.now.dy = v := ⟨_, rfl⟩
  obtain ⟨a, ha⟩ : ∃ a, sel v (jq q P.now.q) = a := ⟨_, rfl⟩
  obtain ⟨b, hb⟩ : ∃ b, sel v (s * P.now.s) = b := ⟨_, rfl⟩
  obtain ⟨c, hc⟩ : ∃ c, sel v (imX P.now.q P.now.s P.now.dx dx dy) = c := ⟨_, rfl⟩
  obtain ⟨d, hd⟩ : ∃ d, sel v (imY P.now.q P.now.s P.now.dy dx dy) = d := ⟨_, rfl⟩
  have HR : Hid (∀ W', Below w.heap.size w W' → OpRes B X (if tuB P.now q s dx dy = true then some (turM P q s dx dy) else none) w (.returned (.bool v)) (W'.setCells X 1 [.int .i64 a, .int .i64 b, .int .i64 c, .int .i64 d])) := Lib.hid fun W' hW => by
    have hN := h.nums hW hB hX a b c d P.now.gray P.now.x0 P.now.y0 P.now.x1 P.now.y1 (o := 1) (vs := [.int .i64 a, .int .i64 b, .int .i64 c, .int .i64 d]) (Blk.sets (P := [_]) (us := [_, _, _, _]) (h.blk.keep hW) rfl rfl)
    have e : tuB P.now q s dx dy = v := hv
    rw [e]
    cases v
    · exact ⟨rfl, hN.1, fun P' hP => by cases hP⟩
    · refine ⟨rfl, hN.1, fun P' hP => ?_⟩
      injection hP with hP
      subst hP
      have e2 : turM P q s dx dy = { P with now := ⟨P.now.st, a, b, c, d, P.now.path, P.now.gray, P.now.x0, P.now.y0, P.now.x1, P.now.y1⟩ } := by simp only [turM, e, ha, hb, hc, hd]
      rw [e2]
      exact hN.2
  obtain ⟨r, hr⟩ : ∃ r, (if tuB P.now q s dx dy = true then some (turM P q s dx dy) else none) = r := ⟨_, rfl⟩
  rw [hr] at HR ⊢
  clear hr
  have HJ := Lib.hid (fun w : World => join_at q s dx dy P.now.q P.now.s P.now.dx P.now.dy w hv ha hb hc hd)
  have HC := Lib.hid h.blk
  clear h hv ha hb hc hd
  go_enter Tryz.func132, Tryz.ntmps132
  go_upto_region 1 with (fail)
  generalize hW0 : w.alloc (.cells #[.int .i64 q, .int .i64 s, .int .i64 dx, .int .i64 dy] 38) = W0
  have bW : Below w.heap.size w W0 := by rw [← hW0]; go_grown
  have G4 : Four W0 w.heap.size q s dx dy := by rw [← hW0]; exact Four.new w _ q s dx dy
  obtain ⟨g3, hg3⟩ : ∃ x, w.heap.size = x := ⟨_, rfl⟩
  rw [hg3] at G4 ⊢
  have HK := Lib.hid (fun (W : World) (hb : Below W0.heap.size W0 W) => (show W.cell? ⟨X, 1, none⟩ = some (.int .i64 P.now.q) ∧ W.cell? ⟨X, 2, none⟩ = some (.int .i64 P.now.s) ∧ W.cell? ⟨X, 3, none⟩ = some (.int .i64 P.now.dx) ∧ W.cell? ⟨X, 4, none⟩ = some (.int .i64 P.now.dy) ∧ (∀ o, W.frozen? ⟨X, o, none⟩ = false) ∧ X < W.heap.size from by
    have k := (HC.out.keep bW).keep hb
    exact ⟨k.1 1 _ rfl, k.1 2 _ rfl, k.1 3 _ rfl, k.1 4 _ rfl, k.2.1, k.2.2⟩))
  have HS := Lib.hid (fun (W : World) (hb : Below W0.heap.size W0 W) => (show (W.cell? ⟨g3, 0, none⟩ = some (.int .i64 q) ∧ W.cell? ⟨g3, 1, none⟩ = some (.int .i64 s) ∧ W.cell? ⟨g3, 2, none⟩ = some (.int .i64 dx) ∧ W.cell? ⟨g3, 3, none⟩ = some (.int .i64 dy)) ∧ (W.cell? ⟨X, 1, none⟩ = some (.int .i64 P.now.q) ∧ W.cell? ⟨X, 2, none⟩ = some (.int .i64 P.now.s) ∧ W.cell? ⟨X, 3, none⟩ = some (.int .i64 P.now.dx) ∧ W.cell? ⟨X, 4, none⟩ = some (.int .i64 P.now.dy)) from by
    have k := HK.out W hb
    obtain ⟨c0, c1, c2, c3, _⟩ := Four.lay (G4.keep hb G4.lt)
    exact ⟨⟨c0, c1, c2, c3⟩, k.1, k.2.1, k.2.2.1, k.2.2.2.1⟩))
  have HB := Lib.hid bW
  have g3W : g3 < W0.heap.size := G4.lt
  have XW : X < W0.heap.size := by have := bW.size; omega
  clear G4 bW hW0 hg3
  refine wp_region_held_drew (S := fun W => (W.cell? ⟨g3, 0, none⟩ = some (.int .i64 q) ∧ W.cell? ⟨g3, 1, none⟩ = some (.int .i64 s) ∧ W.cell? ⟨g3, 2, none⟩ = some (.int .i64 dx) ∧ W.cell? ⟨g3, 3, none⟩ = some (.int .i64 dy)) ∧ (W.cell? ⟨X, 1, none⟩ = some (.int .i64 P.now.q) ∧ W.cell? ⟨X, 2, none⟩ = some (.int .i64 P.now.s) ∧ W.cell? ⟨X, 3, none⟩ = some (.int .i64 P.now.dx) ∧ W.cell? ⟨X, 4, none⟩ = some (.int .i64 P.now.dy))) (by kernel_rfl) (HS.out _ (by go_grown)) (fun hHeld => ?_)
  refine wpAnyH_take (i := 0) (oi := _) (v := ?_) rfl (by kernel_rfl) (by kernel_rfl) (by kernel_rfl) (fun _ _ _ h => h) (Or.inl ⟨by rfl, ?_⟩) (by assumption) ?_
  rotate_left
  · (intro w hSw; (try dsimp only at hSw); go_simp; try with_reducible rfl)
  try simp only [Act.put, List.setIfInBounds_toArray, List.set_cons_zero, List.set_cons_succ]
  refine wpAnyH_take (i := 1) (oi := _) (v := ?_) rfl (by kernel_rfl) (by kernel_rfl) (by kernel_rfl) (fun _ _ _ h => h) (Or.inl ⟨by rfl, ?_⟩) (by assumption) ?_
  rotate_left
  · (intro w hSw; (try dsimp only at hSw); go_simp; try with_reducible rfl)
  try simp only [Act.put, List.setIfInBounds_toArray, List.set_cons_zero, List.set_cons_succ]
  refine wpAnyH_take (i := 2) (oi := _) (v := ?_) rfl (by kernel_rfl) (by kernel_rfl) (by kernel_rfl) (fun _ _ _ h => h) (Or.inl ⟨by rfl, ?_⟩) (by assumption) ?_
  rotate_left
  · (intro w hSw; (try dsimp only at hSw); go_simp; try with_reducible rfl)
  try simp only [Act.put, List.setIfInBounds_toArray, List.set_cons_zero, List.set_cons_succ]
  refine wpAnyH_take (i := 3) (oi := _) (v := ?_) rfl (by kernel_rfl) (by kernel_rfl) (by kernel_rfl) (fun _ _ _ h => h) (Or.inl ⟨by rfl, ?_⟩) (by assumption) ?_
  rotate_left
  · (intro w hSw; (try dsimp only at hSw); go_simp; try with_reducible rfl)
  try simp only [Act.put, List.setIfInBounds_toArray, List.set_cons_zero, List.set_cons_succ]
  refine wpAnyH_take (i := 4) (oi := _) (v := ?_) rfl (by kernel_rfl) (by kernel_rfl) (by kernel_rfl) (fun _ _ _ h => h) (Or.inl ⟨by rfl, ?_⟩) (by assumption) ?_
  rotate_left
  · (intro w hSw; (try dsimp only at hSw); go_simp; try with_reducible rfl)
  try simp only [Act.put, List.setIfInBounds_toArray, List.set_cons_zero, List.set_cons_succ]
  refine wpAnyH_ready (rs := [5, 9]) (by kernel_rfl) (by simp) ?_
  refine AllReadyH.cons (o := _) rfl (fun KK hKK => ?_) ?_
  · (go_simp; go_at_call 156; (with_reducible refine (HJ.out _).mono ?_); rintro e w5 ⟨rfl, bb⟩; (try (have zF := Four.lay (Four.keep (four_drew (Four.new W0 38 0 0 0 0)) bb (by simp)); obtain ⟨z0, z1, z2, z3, zf⟩ := zF)); have b0 := on_of (show Below W0.heap.size W0 _ from by go_grown) bb; have z5 := b0.size; have H5 := Lib.hid b0; obtain ⟨k1, k2, k3, k4, fz, lX⟩ := HK.out w5 b0)
    try go_wp2_with fail
    refine hKK.out _ _ ?_ (fun hHeld2 => ?_)
    · (try dsimp only); first | exact HS.out _ (Below.refl _ _) | exact HS.out _ H5.out | exact HS.out _ (H5.out.alloc (Nat.le_refl _) _) | (exact HS.out _ (by have := H5.out; go_grown)) | exact HS.out _ (by go_grown)
    refine wpAnyH_take (i := 6) (oi := _) (v := ?_) rfl (by kernel_rfl) (by kernel_rfl) (by kernel_rfl) (fun _ _ _ h => h) (Or.inl ⟨by rfl, ?_⟩) (by assumption) ?_
    rotate_left
    · (intro w hSw; (try dsimp only at hSw); go_simp; try with_reducible rfl)
    try simp only [Act.put, List.setIfInBounds_toArray, List.set_cons_zero, List.set_cons_succ]
    refine wpAnyH_take (i := 7) (oi := _) (v := ?_) rfl (by kernel_rfl) (by kernel_rfl) (by kernel_rfl) (fun _ _ _ h => h) (Or.inl ⟨by rfl, ?_⟩) (by assumption) ?_
    rotate_left
    · (intro w hSw; (try dsimp only at hSw); go_simp; try with_reducible rfl)
    try simp only [Act.put, List.setIfInBounds_toArray, List.set_cons_zero, List.set_cons_succ]
    refine wpAnyH_take (i := 8) (oi := _) (v := ?_) rfl (by kernel_rfl) (by kernel_rfl) (by kernel_rfl) (fun _ _ _ h => h) (Or.inl ⟨by rfl, ?_⟩) (by assumption) ?_
    rotate_left
    · (intro w hSw; (try dsimp only at hSw); go_simp; try with_reducible rfl)
    try simp only [Act.put, List.setIfInBounds_toArray, List.set_cons_zero, List.set_cons_succ]
    refine wpAnyH_ready (rs := [9]) (by kernel_rfl) (by simp) ?_
    refine AllReadyH.cons (o := _) rfl (fun KK hKK => ?_) AllReadyH.nil
    go_simp
    try go_wp2_with fail
    refine hKK.out _ _ ?_ (fun hHeld2 => ?_)
    · (try dsimp only); first | exact HS.out _ (Below.refl _ _) | exact HS.out _ H5.out | exact HS.out _ (H5.out.alloc (Nat.le_refl _) _) | (exact HS.out _ (by have := H5.out; go_grown)) | exact HS.out _ (by go_grown)
    refine wpAnyH_ready (rs := [10]) (by kernel_rfl) (by simp) ?_
    refine AllReadyH.cons (o := _) rfl (fun KK hKK => ?_) AllReadyH.nil
    go_simp
    try go_wp2_with fail
    refine hKK.out _ _ ?_ (fun hHeld2 => ?_)
    · (try dsimp only); first | exact HS.out _ (Below.refl _ _) | exact HS.out _ H5.out | exact HS.out _ (H5.out.alloc (Nat.le_refl _) _) | (exact HS.out _ (by have := H5.out; go_grown)) | exact HS.out _ (by go_grown)
    refine wpAnyH_take (i := 11) (oi := _) (v := ?_) rfl (by kernel_rfl) (by kernel_rfl) (by kernel_rfl) (fun _ _ _ h => h) (Or.inl ⟨by rfl, ?_⟩) (by assumption) ?_
    rotate_left
    · (intro w hSw; (try dsimp only at hSw); go_simp; try with_reducible rfl)
    try simp only [Act.put, List.setIfInBounds_toArray, List.set_cons_zero, List.set_cons_succ]
    refine wpAnyH_done (by kernel_rfl) ?_ _
    first
      | (refine gen_any (fun W => Four W w5.heap.size a b c d ∧ Below W0.heap.size W0 W) ⟨Four.new w5 _ a b c d, H5.out.alloc (by omega) _⟩ ?_)
      | (refine gen_any (fun W => Four W W0.heap.size a b c d ∧ Below W0.heap.size W0 W) ⟨Four.set ⟨z0, z1, z2, z3, zf⟩ a b c d, (((H5.out.setCell (p := ⟨W0.heap.size, 0, none⟩) (Nat.le_refl _) _).setCell (p := ⟨W0.heap.size, 1, none⟩) (Nat.le_refl _) _).setCell (p := ⟨W0.heap.size, 2, none⟩) (Nat.le_refl _) _).setCell (p := ⟨W0.heap.size, 3, none⟩) (Nat.le_refl _) _⟩ ?_)
    rintro W9 ⟨F9, B9⟩
    obtain ⟨d0, d1, d2, d3, _⟩ := Four.lay F9
    obtain ⟨k1, k2, k3, k4, fz, lX⟩ := HK.out W9 B9
    have H9 := Lib.hid (on_of HB.out B9)
    clear F9 B9
    go_wp2
    go_ret
    exact HR.out _ H9.out
  refine AllReadyH.cons (o := _) rfl (fun KK hKK => ?_) AllReadyH.nil
  go_simp
  try go_wp2_with fail
  refine hKK.out _ _ ?_ (fun hHeld2 => ?_)
  · (try dsimp only); first | exact HS.out _ (Below.refl _ _) | exact HS.out _ H5.out | exact HS.out _ (H5.out.alloc (Nat.le_refl _) _) | (exact HS.out _ (by have := H5.out; go_grown)) | exact HS.out _ (by go_grown)
  refine wpAnyH_ready (rs := [5]) (by kernel_rfl) (by simp) ?_
  refine AllReadyH.cons (o := _) rfl (fun KK hKK => ?_) AllReadyH.nil
  (go_simp; go_at_call 156; (with_reducible refine (HJ.out _).mono ?_); rintro e w5 ⟨rfl, bb⟩; (try (have zF := Four.lay (Four.keep (four_drew (Four.new W0 38 0 0 0 0)) bb (by simp)); obtain ⟨z0, z1, z2, z3, zf⟩ := zF)); have b0 := on_of (show Below W0.heap.size W0 _ from by go_grown) bb; have z5 := b0.size; have H5 := Lib.hid b0; obtain ⟨k1, k2, k3, k4, fz, lX⟩ := HK.out w5 b0)
  try go_wp2_with fail
  refine hKK.out _ _ ?_ (fun hHeld2 => ?_)
  · (try dsimp only); first | exact HS.out _ (Below.refl _ _) | exact HS.out _ H5.out | exact HS.out _ (H5.out.alloc (Nat.le_refl _) _) | (exact HS.out _ (by have := H5.out; go_grown)) | exact HS.out _ (by go_grown)
  refine wpAnyH_take (i := 6) (oi := _) (v := ?_) rfl (by kernel_rfl) (by kernel_rfl) (by kernel_rfl) (fun _ _ _ h => h) (Or.inl ⟨by rfl, ?_⟩) (by assumption) ?_
  rotate_left
  · (intro w hSw; (try dsimp only at hSw); go_simp; try with_reducible rfl)
  try simp only [Act.put, List.setIfInBounds_toArray, List.set_cons_zero, List.set_cons_succ]
  refine wpAnyH_take (i := 7) (oi := _) (v := ?_) rfl (by kernel_rfl) (by kernel_rfl) (by kernel_rfl) (fun _ _ _ h => h) (Or.inl ⟨by rfl, ?_⟩) (by assumption) ?_
  rotate_left
  · (intro w hSw; (try dsimp only at hSw); go_simp; try with_reducible rfl)
  try simp only [Act.put, List.setIfInBounds_toArray, List.set_cons_zero, List.set_cons_succ]
  refine wpAnyH_take (i := 8) (oi := _) (v := ?_) rfl (by kernel_rfl) (by kernel_rfl) (by kernel_rfl) (fun _ _ _ h => h) (Or.inl ⟨by rfl, ?_⟩) (by assumption) ?_
  rotate_left
  · (intro w hSw; (try dsimp only at hSw); go_simp; try with_reducible rfl)
  try simp only [Act.put, List.setIfInBounds_toArray, List.set_cons_zero, List.set_cons_succ]
  refine wpAnyH_ready (rs := [10]) (by kernel_rfl) (by simp) ?_
  refine AllReadyH.cons (o := _) rfl (fun KK hKK => ?_) AllReadyH.nil
  go_simp
  try go_wp2_with fail
  refine hKK.out _ _ ?_ (fun hHeld2 => ?_)
  · (try dsimp only); first | exact HS.out _ (Below.refl _ _) | exact HS.out _ H5.out | exact HS.out _ (H5.out.alloc (Nat.le_refl _) _) | (exact HS.out _ (by have := H5.out; go_grown)) | exact HS.out _ (by go_grown)
  refine wpAnyH_take (i := 11) (oi := _) (v := ?_) rfl (by kernel_rfl) (by kernel_rfl) (by kernel_rfl) (fun _ _ _ h => h) (Or.inl ⟨by rfl, ?_⟩) (by assumption) ?_
  rotate_left
  · (intro w hSw; (try dsimp only at hSw); go_simp; try with_reducible rfl)
  try simp only [Act.put, List.setIfInBounds_toArray, List.set_cons_zero, List.set_cons_succ]
  refine wpAnyH_done (by kernel_rfl) ?_ _
  first
    | (refine gen_any (fun W => Four W w5.heap.size a b c d ∧ Below W0.heap.size W0 W) ⟨Four.new w5 _ a b c d, H5.out.alloc (by omega) _⟩ ?_)
    | (refine gen_any (fun W => Four W W0.heap.size a b c d ∧ Below W0.heap.size W0 W) ⟨Four.set ⟨z0, z1, z2, z3, zf⟩ a b c d, (((H5.out.setCell (p := ⟨W0.heap.size, 0, none⟩) (Nat.le_refl _) _).setCell (p := ⟨W0.heap.size, 1, none⟩) (Nat.le_refl _) _).setCell (p := ⟨W0.heap.size, 2, none⟩) (Nat.le_refl _) _).setCell (p := ⟨W0.heap.size, 3, none⟩) (Nat.le_refl _) _⟩ ?_)
  rintro W9 ⟨F9, B9⟩
  obtain ⟨d0, d1, d2, d3, _⟩ := Four.lay F9
  obtain ⟨k1, k2, k3, k4, fz, lX⟩ := HK.out W9 B9
  have H9 := Lib.hid (on_of HB.out B9)
  clear F9 B9
  go_wp2
  go_ret
  exact HR.out _ H9.out
theorem PgAt.on {w w' : World} {B X : Nat} {P : Pg} (h : PgAt w B X P) (hb : Below w.heap.size w w') : PgAt w' B X P := by
  obtain ⟨a0, c0, f0, a5, c5, P5, a11, c11, P11, f11, a12, c12, P12, f12, h⟩ := h.flat
  exact (h.on hb).at_
theorem OpRes.from {w w0 w' : World} {B X : Nat} {r : Option Pg} {e : Ending} (h : OpRes B X r w e w') (hb : Below B w0 w) : OpRes B X r w0 e w' := ⟨h.1, hb.trans h.2.1, h.2.2⟩
set_option maxHeartbeats 2000000 in
theorem op_shift {w : World} {B X : Nat} {P : Pg} (h : PgAt w B X P) (hB : B ≤ w.heap.size) (hX : B ≤ X) (g2 c2 : Nat) (x y : Int) (hx : w.cell? ⟨g2, 0, none⟩ = some (.int .i64 x)) (hy : w.cell? ⟨g2, 1, none⟩ = some (.int .i64 y)) :
    Calls Tryz.prog 131 #[.pointer (some ⟨X, 0, none⟩), .slice (some ⟨g2, 0, none⟩) 2 c2] w (OpRes B X (if tuB P.now 0 1 x y = true then some (turM P 0 1 x y) else none) w) := by
  have HC := Lib.hid (op_first (w := w.drew) (h.on (show Below w.heap.size w w.drew from by go_grown)) hB hX 0 1 x y)
  obtain ⟨r, hr⟩ : ∃ r, (if tuB P.now 0 1 x y = true then some (turM P 0 1 x y) else none) = r := ⟨_, rfl⟩
  rw [hr] at HC ⊢
  clear h hr
  go_enter Tryz.func131, Tryz.ntmps131
  go_upto_region 1 with (fail)
  go_region_law (go_simp; go_at_call 132; (with_reducible refine (HC.out).mono ?_); rintro e w5 ⟨rfl, bb, pp⟩; have HR := Lib.hid (OpRes.from (e := .returned (.bool r.isSome)) ⟨rfl, bb, pp⟩ (show Below B w w.drew from (show Below w.heap.size w w.drew from by go_grown).mono hB)); clear bb pp)
  all_goals
    go_wp2
    go_ret
    exact HR.out
set_option maxHeartbeats 2000000 in
theorem op_turn {w : World} {B X : Nat} {P : Pg} (h : PgAt w B X P) (hB : B ≤ w.heap.size) (hX : B ≤ X) (g2 c2 : Nat) (x : Int) (hx : w.cell? ⟨g2, 0, none⟩ = some (.int .i64 x)) :
    Calls Tryz.prog 133 #[.pointer (some ⟨X, 0, none⟩), .slice (some ⟨g2, 0, none⟩) 1 c2] w (OpRes B X (if tuB P.now x 1 0 0 = true then some (turM P x 1 0 0) else none) w) := by
  have HC := Lib.hid (op_first (w := w.drew) (h.on (show Below w.heap.size w w.drew from by go_grown)) hB hX x 1 0 0)
  obtain ⟨r, hr⟩ : ∃ r, (if tuB P.now x 1 0 0 = true then some (turM P x 1 0 0) else none) = r := ⟨_, rfl⟩
  rw [hr] at HC ⊢
  clear h hr
  go_enter Tryz.func133, Tryz.ntmps133
  go_upto_region 1 with (fail)
  go_region_law (go_simp; go_at_call 132; (with_reducible refine (HC.out).mono ?_); rintro e w5 ⟨rfl, bb, pp⟩; have HR := Lib.hid (OpRes.from (e := .returned (.bool r.isSome)) ⟨rfl, bb, pp⟩ (show Below B w w.drew from (show Below w.heap.size w w.drew from by go_grown).mono hB)); clear bb pp)
  all_goals
    go_wp2
    go_ret
    exact HR.out
set_option maxHeartbeats 2000000 in
theorem op_scale {w : World} {B X : Nat} {P : Pg} (h : PgAt w B X P) (hB : B ≤ w.heap.size) (hX : B ≤ X) (g2 c2 : Nat) (x : Int) (hx : w.cell? ⟨g2, 0, none⟩ = some (.int .i64 x)) :
    Calls Tryz.prog 134 #[.pointer (some ⟨X, 0, none⟩), .slice (some ⟨g2, 0, none⟩) 1 c2] w (OpRes B X (if tuB P.now 0 x 0 0 = true then some (turM P 0 x 0 0) else none) w) := by
  have HC := Lib.hid (op_first (w := w.drew) (h.on (show Below w.heap.size w w.drew from by go_grown)) hB hX 0 x 0 0)
  obtain ⟨r, hr⟩ : ∃ r, (if tuB P.now 0 x 0 0 = true then some (turM P 0 x 0 0) else none) = r := ⟨_, rfl⟩
  rw [hr] at HC ⊢
  clear h hr
  go_enter Tryz.func134, Tryz.ntmps134
  go_upto_region 1 with (fail)
  go_region_law (go_simp; go_at_call 132; (with_reducible refine (HC.out).mono ?_); rintro e w5 ⟨rfl, bb, pp⟩; have HR := Lib.hid (OpRes.from (e := .returned (.bool r.isSome)) ⟨rfl, bb, pp⟩ (show Below B w w.drew from (show Below w.heap.size w w.drew from by go_grown).mono hB)); clear bb pp)
  all_goals
    go_wp2
    go_ret
    exact HR.out
end Go.Proofs.YtjmfgbbngocodaaGreat.Own

