/-
  Texts of this seat, laid together: OpF
-/
import Derived.Test.YtjmfgbbngocodaaGreatV27
namespace Go.Proofs.YtjmfgbbngocodaaGreat.Own
open Go.ChangeShapes Go.WideShapes Go.ChangeAt Go.RowKit
open Kit Slabs Ints Stack Point Turn Join Pts Box
set_option linter.unusedVariables false
set_option linter.unusedSimpArgs false
set_option linter.unnecessarySimpa false
set_option maxRecDepth 100000
attribute [local go_sem ↓] hload_Graphics hload_Object hstore_Graphics hstore_Object hload_Page hstore_Page
theorem pg_mk {w : World} {B X : Nat} {p : Pg} {a0 : Option Addr} {c0 : Nat} {f0 : List Nat} {a5 : Option Addr} {c5 : Nat} {f5 : List Nat} {a11 : Option Addr} {c11 : Nat} {f11 : List Nat} {a12 : Option Addr} {c12 : Nat} {f12 : List Nat}
    (BX : Blk w X (pgCells p a0 c0 a5 c5 a11 c11 a12 c12)) (o0 : Own w (.sl .int) [.slice a0 p.now.st.length c0] (.sl (dI p.now.st)) f0) (o5 : Own w (.sl KPt) [.slice a5 p.now.path.length c5] (.sl (dP p.now.path)) f5) (o11 : Own w (.sl KGraphics) [.slice a11 p.saved.length c11] (.sl (dG p.saved)) f11) (o12 : Own w (.sl KObject) [.slice a12 p.objs.length c12] (.sl (dO p.objs)) f12)
    (nd : ((f0 ++ f5) ++ (f11 ++ f12)).Nodup) (nX : X ∉ (f0 ++ f5) ++ (f11 ++ f12)) (ge : ∀ b ∈ (f0 ++ f5) ++ (f11 ++ f12), B ≤ b) : PgOwn w B X p := by
  have oG := mk_gr p.now.q p.now.s p.now.dx p.now.dy p.now.gray p.now.x0 p.now.y0 p.now.x1 p.now.y1 (v0 := .slice a0 p.now.st.length c0) o0 o5
  have oP := mk_pg (p := p) oG o11 o12
  exact ⟨(pgCells p a0 c0 a5 c5 a11 c11 a12 c12).toArray, _, by simpa using BX, by simpa using oP, nd, nX, ge⟩
theorem PgFl.parts {w : World} {B X : Nat} {p : Pg} {a0 : Option Addr} {c0 : Nat} {f0 : List Nat} {a5 : Option Addr} {c5 : Nat} {P5 : List Value} {a11 : Option Addr} {c11 : Nat} {P11 : List Value} {f11 : List Nat} {a12 : Option Addr} {c12 : Nat} {P12 : List Value} {f12 : List Nat}
    (h : PgFl w B X p a0 c0 f0 a5 c5 P5 a11 c11 P11 f11 a12 c12 P12 f12) : ∀ b ∈ (f0 ++ (rowL (.slice a5 p.now.path.length c5) ++ (rowL (.slice a11 p.saved.length c11) ++ (f11 ++ (rowL (.slice a12 p.objs.length c12) ++ f12))))), B ≤ b ∧ b < w.heap.size :=
  mem2 (p := fun b => B ≤ b ∧ b < w.heap.size) (fun b hb => ⟨h.ge b (List.mem_append_left _ hb), h.o0.lt b hb⟩) (mem2 (p := fun b => B ≤ b ∧ b < w.heap.size) (rowL_ge h.r5) (mem2 (p := fun b => B ≤ b ∧ b < w.heap.size) (rowL_ge h.r11) (mem2 (p := fun b => B ≤ b ∧ b < w.heap.size) (fun b hb => ⟨h.ge b (List.mem_append_right _ (List.mem_append_left _ hb)), h.o11.lt b hb⟩) (mem2 (p := fun b => B ≤ b ∧ b < w.heap.size) (rowL_ge h.r12) (fun b hb => ⟨h.ge b (List.mem_append_right _ (List.mem_append_right _ hb)), h.o12.lt b hb⟩)))))
theorem nd_fill {X m : Nat} {f0 r5 r11 f11 r12 f12 r12' F11 F5 : List Nat} (h : (X :: (f0 ++ (r5 ++ (r11 ++ (f11 ++ (r12 ++ f12)))))).Nodup) (lt : ∀ b ∈ X :: (f0 ++ (r5 ++ (r11 ++ (f11 ++ (r12 ++ f12))))), b < m) (n12 : r12'.Nodup) (nF11 : F11.Nodup) (nF5 : F5.Nodup) (s12 : ∀ b ∈ r12', b ∈ r12 ∨ m ≤ b) (s11 : ∀ b ∈ F11, b ∈ r11 ∨ b ∈ f11) (s5 : ∀ b ∈ F5, b ∈ r5) :
    ((f0 ++ []) ++ (F11 ++ (r12' ++ (f12 ++ F5)))).Nodup ∧ X ∉ (f0 ++ []) ++ (F11 ++ (r12' ++ (f12 ++ F5))) := by
  simp only [List.nodup_cons, List.nodup_append, List.mem_append, List.mem_cons, List.append_nil] at *
  grind
theorem ge_fill {B m : Nat} {f0 r5 r11 f11 r12 f12 r12' F11 F5 : List Nat} (lt : ∀ b ∈ f0 ++ (r5 ++ (r11 ++ (f11 ++ (r12 ++ f12)))), B ≤ b) (hm : B ≤ m) (s12 : ∀ b ∈ r12', b ∈ r12 ∨ m ≤ b) (s11 : ∀ b ∈ F11, b ∈ r11 ∨ b ∈ f11) (s5 : ∀ b ∈ F5, b ∈ r5) :
    ∀ b ∈ (f0 ++ []) ++ (F11 ++ (r12' ++ (f12 ++ F5))), B ≤ b := by
  simp only [List.mem_append, List.append_nil] at *
  grind
theorem PgFl.fill {w : World} {B X : Nat} {p : Pg} {a0 : Option Addr} {c0 : Nat} {f0 : List Nat} {a5 : Option Addr} {c5 : Nat} {P5 : List Value} {a11 : Option Addr} {c11 : Nat} {P11 : List Value} {f11 : List Nat} {a12 : Option Addr} {c12 : Nat} {P12 : List Value} {f12 : List Nat}
    (h : PgFl w B X p a0 c0 f0 a5 c5 P5 a11 c11 P11 f11 a12 c12 P12 f12) (hB : B ≤ w.heap.size) (hX : B ≤ X) {w5 w7 : World} (b5 : Below w.heap.size w w5) {a' : Option Addr} {c' n : Nat} (hn : p.objs.length = n)
    (r7 : w7.ownsRow B 101 6 (.slice a' (n + 1) c') (n + 1) (P12 ++ [.slice a5 p.now.path.length c5, .int .i64 p.now.gray, .int .i64 p.now.x0, .int .i64 p.now.y0, .int .i64 p.now.x1, .int .i64 p.now.y1])) (gr : w5.grownBy w7 (Value.ownBlock (.slice a12 n c12))) (sub : ∀ b ∈ rowL (.slice a' (n + 1) c'), b ∈ rowL (.slice a12 n c12) ∨ w5.heap.size ≤ b) :
    Blk w7 X (pgCells p a0 c0 a5 c5 a11 c11 a12 c12) ∧ OpRes B X (some (filM p)) w (.returned (.bool true)) ((w7.setCell ⟨X, 12, none⟩ (.slice a' (n + 1) c')).setCell ⟨X, 5, none⟩ (.slice none 0 0)) := by
  subst hn
  have h5 := h.on b5
  have tt : Turns w5 w7 (fun k => k ∈ rowL (.slice a12 p.objs.length c12)) := (Turns.of_grown gr).mono (fun k hk => by simpa [rowL] using hk)
  have lt := h.parts
  have hXl := h.blk.2.2
  have z5 := b5.size
  have z7 := tt.size
  have ltX : ∀ b ∈ X :: (f0 ++ (rowL (.slice a5 p.now.path.length c5) ++ (rowL (.slice a11 p.saved.length c11) ++ (f11 ++ (rowL (.slice a12 p.objs.length c12) ++ f12))))), b < w5.heap.size := by
    intro b hb
    rcases List.mem_cons.1 hb with rfl | hb
    · omega
    · have := (lt b hb).2; omega
  have s11 : ∀ b ∈ (if p.saved.length = 0 then [] else rowL (.slice a11 p.saved.length c11) ++ f11), b ∈ rowL (.slice a11 p.saved.length c11) ∨ b ∈ f11 := rowF_sub
  have s5 : ∀ b ∈ (if p.now.path.length = 0 then [] else rowL (.slice a5 p.now.path.length c5) ++ []), b ∈ rowL (.slice a5 p.now.path.length c5) := fun b hb => (rowF_sub b hb).elim id (fun hh => absurd hh List.not_mem_nil)
  have nd := h.nd
  have q11 : (if p.saved.length = 0 then [] else rowL (.slice a11 p.saved.length c11) ++ f11).Nodup := rowF_nodup (by simp only [List.nodup_cons, List.nodup_append] at nd; exact nd.2.2.1.2.1.2.1.1) (fun b hb hc => by simp only [List.nodup_cons, List.nodup_append, List.mem_append] at nd; grind)
  have q5 : (if p.now.path.length = 0 then [] else rowL (.slice a5 p.now.path.length c5) ++ []).Nodup := rowF_nodup List.nodup_nil (fun b _ hh => absurd hh List.not_mem_nil)
  obtain ⟨nd9, nX9⟩ := nd_fill nd ltX (rowL_nodup _) q11 q5 sub s11 s5
  have B7 : Blk w7 X (pgCells p a0 c0 a5 c5 a11 c11 a12 c12) := h5.blk.turned tt (fun hx => by simp only [List.nodup_cons, List.mem_append] at nd; exact nd.1 (by simp [hx]))
  refine ⟨B7, rfl, ?_, fun P' hP => ?_⟩
  · exact (((b5.mono hB).trans (tt.below (by omega) (fun k hk => (rowL_ge h.r12 k hk).1))).setCell (p := ⟨X, 12, none⟩) hX _).setCell (p := ⟨X, 5, none⟩) hX _
  injection hP with hP
  subst hP
  have d0 : ∀ b ∈ f0, ¬ (b ∈ rowL (.slice a12 p.objs.length c12) ∨ b = X) := fun b hb hc => by simp only [List.nodup_cons, List.nodup_append, List.mem_append] at nd; grind
  have d5 : ∀ b ∈ rowL (.slice a5 p.now.path.length c5), ¬ (b ∈ rowL (.slice a12 p.objs.length c12) ∨ b = X) := fun b hb hc => by simp only [List.nodup_cons, List.nodup_append, List.mem_append] at nd; grind
  have d11 : ∀ b ∈ rowL (.slice a11 p.saved.length c11), ¬ (b ∈ rowL (.slice a12 p.objs.length c12) ∨ b = X) := fun b hb hc => by simp only [List.nodup_cons, List.nodup_append, List.mem_append] at nd; grind
  have e11 : ∀ b ∈ f11, ¬ (b ∈ rowL (.slice a12 p.objs.length c12) ∨ b = X) := fun b hb hc => by simp only [List.nodup_cons, List.nodup_append, List.mem_append] at nd; grind
  have e12 : ∀ b ∈ f12, ¬ (b ∈ rowL (.slice a12 p.objs.length c12) ∨ b = X) := fun b hb hc => by simp only [List.nodup_cons, List.nodup_append, List.mem_append] at nd; grind
  have nX12 : X ∉ rowL (.slice a' (p.objs.length + 1) c') := fun hx => by
    rcases sub X hx with k | k
    · simp only [List.nodup_cons, List.mem_append] at nd; exact nd.1 (by simp [k])
    · omega
  have tX : Turns w7 ((w7.setCell ⟨X, 12, none⟩ (.slice a' (p.objs.length + 1) c')).setCell ⟨X, 5, none⟩ (.slice none 0 0)) (fun b => b = X) := turns_set (S := fun b => b = X) (turns_set (S := fun b => b = X) (Turns.refl _ _) rfl _ _) rfl _ _
  have T := (tt.mono (T := fun b => b ∈ rowL (.slice a12 p.objs.length c12) ∨ b = X) (fun k hk => .inl hk)).trans (tX.mono (fun k hk => .inr hk))
  have B9 := Blk.put (o := 5) (P := [_, _, _, _, _]) (Blk.put (o := 12) (P := [_, _, _, _, _, _, _, _, _, _, _, _]) (R := []) B7 rfl (.slice a' (p.objs.length + 1) c')) rfl (.slice none 0 0)
  generalize (w7.setCell ⟨X, 12, none⟩ (.slice a' (p.objs.length + 1) c')).setCell ⟨X, 5, none⟩ (.slice none 0 0) = W9 at *
  have own5 := row_own2 (row_turned h5.r5 T d5) (h.o5 W9)
  have own12 := row_own2 (row_turned r7 tX (fun b hb e => nX12 (e ▸ hb))) (fq := f12 ++ (if p.now.path.length = 0 then [] else rowL (.slice a5 p.now.path.length c5) ++ [])) (es := dO (p.objs ++ [obM p.now])) (by
    have h8 := (h5.o12.turned T e12).snoc (.st (mk_ob p.now.gray p.now.x0 p.now.y0 p.now.x1 p.now.y1 own5))
    rw [← List.replicate_succ'] at h8
    simpa [dO, obM, Ob.dt] using h8)
  rw [if_neg (by omega)] at own12
  have e9 : (p.objs ++ [obM p.now]).length = p.objs.length + 1 := by simp
  refine pg_mk (p := filM p) (a5 := none) (c5 := 0) (a12 := a') (c12 := c') (by simp only [pgCells, filM, e9]; exact B9) (h5.o0.turned T d0) (.nil none 0) (row_own2 (row_turned h5.r11 T d11) (h5.o11.turned T e11)) (by simp only [filM, e9]; exact own12) nd9 nX9 (ge_fill (fun b hb => (lt b hb).1) (show B ≤ w5.heap.size by omega) sub s11 s5)
theorem s6 {W : World} {X : Nat} {v0 v1 v2 v3 v4 v5 v6 v7 v8 v9 v10 : Value} {R : List Value} (h : Blk W X (v0 :: v1 :: v2 :: v3 :: v4 :: v5 :: v6 :: v7 :: v8 :: v9 :: v10 :: R)) :
    W.cell? ⟨X, 5, none⟩ = some v5 ∧ W.cell? ⟨X, 6, none⟩ = some v6 ∧ W.cell? ⟨X, 7, none⟩ = some v7 ∧ W.cell? ⟨X, 8, none⟩ = some v8 ∧ W.cell? ⟨X, 9, none⟩ = some v9 ∧ W.cell? ⟨X, 10, none⟩ = some v10 :=
  ⟨h.1 5 _ rfl, h.1 6 _ rfl, h.1 7 _ rfl, h.1 8 _ rfl, h.1 9 _ rfl, h.1 10 _ rfl⟩
set_option maxHeartbeats 4000000 in
theorem op_fill {w : World} {B X : Nat} {P : Pg} (h : PgAt w B X P) (hB : B ≤ w.heap.size) (hX : B ≤ X) (hl : P.objs.length ≤ 12) (u : Value) :
    Calls Tryz.prog 126 #[.pointer (some ⟨X, 0, none⟩), u] w (OpRes B X (some (filM P)) w) := by
  obtain ⟨a0, c0, f0, a5, c5, P5, a11, c11, P11, f11, a12, c12, P12, f12, h⟩ := h.flat
  obtain ⟨n, hN⟩ : ∃ n, P.objs.length = n := ⟨_, rfl⟩
  obtain ⟨l, hL⟩ : ∃ l, P.now.path.length = l := ⟨_, rfl⟩
  have HN := Lib.hid hN
  have HL := Lib.hid hL
  have HH := Lib.hid h
  have HK := Lib.hid (fun (W : World) (hb : Below w.heap.size w W) => (show W.cell? ⟨X, 12, none⟩ = some (.slice a12 n c12) from by rw [← hN]; exact (h.blk.keep hb).1 12 _ rfl))
  have HS9 := Lib.hid (fun (W : World) (hb : Below w.heap.size w W) => (show W.cell? ⟨X, 5, none⟩ = some (.slice a5 l c5) ∧ W.cell? ⟨X, 6, none⟩ = some (.int .i64 P.now.gray) ∧ W.cell? ⟨X, 7, none⟩ = some (.int .i64 P.now.x0) ∧ W.cell? ⟨X, 8, none⟩ = some (.int .i64 P.now.y0) ∧ W.cell? ⟨X, 9, none⟩ = some (.int .i64 P.now.x1) ∧ W.cell? ⟨X, 10, none⟩ = some (.int .i64 P.now.y1) from by rw [← hL]; exact s6 (h.blk.keep hb)))
  have HR12 := Lib.hid (fun (W : World) (hb : Below w.heap.size w W) => (show W.ownsRow B 101 6 (.slice a12 n c12) n P12 from by rw [← hN]; exact row_on h.r12 hb))
  have hXl := h.blk.2.2
  rw [hN] at hl
  have kO := HK.out w.drew (by go_grown)
  have kO2 := HK.out (w.drew.alloc (.cells #[.slice a5 l c5, .int .i64 P.now.gray, .int .i64 P.now.x0, .int .i64 P.now.y0, .int .i64 P.now.x1, .int .i64 P.now.y1] 101)) (by go_grown)
  have kO3 := HK.out (w.alloc (.cells #[.slice a5 l c5, .int .i64 P.now.gray, .int .i64 P.now.x0, .int .i64 P.now.y0, .int .i64 P.now.x1, .int .i64 P.now.y1] 101)).drew (by go_grown)
  clear h hN hL
  go_enter Tryz.func126, Tryz.ntmps126
  go_upto_region 1 with (fail)
  refine wp_region_held_drew (S := fun W => W.cell? ⟨X, 5, none⟩ = some (.slice a5 l c5) ∧ W.cell? ⟨X, 6, none⟩ = some (.int .i64 P.now.gray) ∧ W.cell? ⟨X, 7, none⟩ = some (.int .i64 P.now.x0) ∧ W.cell? ⟨X, 8, none⟩ = some (.int .i64 P.now.y0) ∧ W.cell? ⟨X, 9, none⟩ = some (.int .i64 P.now.x1) ∧ W.cell? ⟨X, 10, none⟩ = some (.int .i64 P.now.y1)) (by kernel_rfl) (HS9.out _ (by go_grown)) (fun hHeld => ?_)
  refine wpAnyH_take (i := 0) (oi := _) (v := ?_) rfl (by kernel_rfl) (by kernel_rfl) (by kernel_rfl) (fun _ _ _ h => h) (Or.inl ⟨by rfl, ?_⟩) (by assumption) ?_
  rotate_left
  · (intro w hSw; (try dsimp only at hSw); go_simp; try with_reducible rfl)
  try simp only [Act.put, List.setIfInBounds_toArray, List.set_cons_zero, List.set_cons_succ]
  refine wpAnyH_take (i := 1) (oi := _) (v := ?_) rfl (by kernel_rfl) (by kernel_rfl) (by kernel_rfl) (fun _ _ _ h => h) (Or.inl ⟨by rfl, ?_⟩) (by assumption) ?_
  rotate_left
  · (intro w hSw; (try dsimp only at hSw); go_simp; try with_reducible rfl)
  try simp only [Act.put, List.setIfInBounds_toArray, List.set_cons_zero, List.set_cons_succ]
  refine wpAnyH_take (i := 2) (oi := _) (v := ?_) rfl (by kernel_rfl) (by kernel_rfl) (by kernel_rfl) (fun _ _ _ h => h) (Or.inl ⟨by rfl, ?_⟩) (by assumption) ?_
  rotate_left
  · (intro w hSw; (try dsimp only at hSw); go_simp; try with_reducible rfl)
  try simp only [Act.put, List.setIfInBounds_toArray, List.set_cons_zero, List.set_cons_succ]
  refine wpAnyH_take (i := 3) (oi := _) (v := ?_) rfl (by kernel_rfl) (by kernel_rfl) (by kernel_rfl) (fun _ _ _ h => h) (Or.inl ⟨by rfl, ?_⟩) (by assumption) ?_
  rotate_left
  · (intro w hSw; (try dsimp only at hSw); go_simp; try with_reducible rfl)
  try simp only [Act.put, List.setIfInBounds_toArray, List.set_cons_zero, List.set_cons_succ]
  refine wpAnyH_take (i := 5) (oi := _) (v := ?_) rfl (by kernel_rfl) (by kernel_rfl) (by kernel_rfl) (fun _ _ _ h => h) (Or.inl ⟨by rfl, ?_⟩) (by assumption) ?_
  rotate_left
  · (intro w hSw; (try dsimp only at hSw); go_simp; try with_reducible rfl)
  try simp only [Act.put, List.setIfInBounds_toArray, List.set_cons_zero, List.set_cons_succ]
  refine wpAnyH_take (i := 6) (oi := _) (v := ?_) rfl (by kernel_rfl) (by kernel_rfl) (by kernel_rfl) (fun _ _ _ h => h) (Or.inl ⟨by rfl, ?_⟩) (by assumption) ?_
  rotate_left
  · (intro w hSw; (try dsimp only at hSw); go_simp; try with_reducible rfl)
  try simp only [Act.put, List.setIfInBounds_toArray, List.set_cons_zero, List.set_cons_succ]
  refine wpAnyH_take (i := 7) (oi := _) (v := ?_) rfl (by kernel_rfl) (by kernel_rfl) (by kernel_rfl) (fun _ _ _ h => h) (Or.inl ⟨by rfl, ?_⟩) (by assumption) ?_
  rotate_left
  · (intro w hSw; (try dsimp only at hSw); go_simp; try with_reducible rfl)
  try simp only [Act.put, List.setIfInBounds_toArray, List.set_cons_zero, List.set_cons_succ]
  refine wpAnyH_take (i := 8) (oi := _) (v := ?_) rfl (by kernel_rfl) (by kernel_rfl) (by kernel_rfl) (fun _ _ _ h => h) (Or.inl ⟨by rfl, ?_⟩) (by assumption) ?_
  rotate_left
  · (intro w hSw; (try dsimp only at hSw); go_simp; try with_reducible rfl)
  try simp only [Act.put, List.setIfInBounds_toArray, List.set_cons_zero, List.set_cons_succ]
  refine wpAnyH_take (i := 9) (oi := _) (v := ?_) rfl (by kernel_rfl) (by kernel_rfl) (by kernel_rfl) (fun _ _ _ h => h) (Or.inl ⟨by rfl, ?_⟩) (by assumption) ?_
  rotate_left
  · (intro w hSw; (try dsimp only at hSw); go_simp; try with_reducible rfl)
  try simp only [Act.put, List.setIfInBounds_toArray, List.set_cons_zero, List.set_cons_succ]
  refine wpAnyH_take (i := 10) (oi := _) (v := ?_) rfl (by kernel_rfl) (by kernel_rfl) (by kernel_rfl) (fun _ _ _ h => h) (Or.inl ⟨by rfl, ?_⟩) (by assumption) ?_
  rotate_left
  · (intro w hSw; (try dsimp only at hSw); go_simp; try with_reducible rfl)
  try simp only [Act.put, List.setIfInBounds_toArray, List.set_cons_zero, List.set_cons_succ]
  refine wpAnyH_take (i := 11) (oi := _) (v := ?_) rfl (by kernel_rfl) (by kernel_rfl) (by kernel_rfl) (fun _ _ _ h => h) (Or.inl ⟨by rfl, ?_⟩) (by assumption) ?_
  rotate_left
  · (intro w hSw; (try dsimp only at hSw); go_simp; try with_reducible rfl)
  try simp only [Act.put, List.setIfInBounds_toArray, List.set_cons_zero, List.set_cons_succ]
  refine wpAnyH_take (i := 12) (oi := _) (v := ?_) rfl (by kernel_rfl) (by kernel_rfl) (by kernel_rfl) (fun _ _ _ h => h) (Or.inl ⟨by rfl, ?_⟩) (by assumption) ?_
  rotate_left
  · (intro w hSw; (try dsimp only at hSw); go_simp; try with_reducible rfl)
  try simp only [Act.put, List.setIfInBounds_toArray, List.set_cons_zero, List.set_cons_succ]
  refine wpAnyH_take (i := 13) (oi := _) (v := ?_) rfl (by kernel_rfl) (by kernel_rfl) (by kernel_rfl) (fun _ _ _ h => h) (Or.inl ⟨by rfl, ?_⟩) (by assumption) ?_
  rotate_left
  · (intro w hSw; (try dsimp only at hSw); go_simp; try with_reducible rfl)
  try simp only [Act.put, List.setIfInBounds_toArray, List.set_cons_zero, List.set_cons_succ]
  refine wpAnyH_take (i := 14) (oi := _) (v := ?_) rfl (by kernel_rfl) (by kernel_rfl) (by kernel_rfl) (fun _ _ _ h => h) (Or.inl ⟨by rfl, ?_⟩) (by assumption) ?_
  rotate_left
  · (intro w hSw; (try dsimp only at hSw); go_simp; try with_reducible rfl)
  try simp only [Act.put, List.setIfInBounds_toArray, List.set_cons_zero, List.set_cons_succ]
  refine wpAnyH_take (i := 15) (oi := _) (v := ?_) rfl (by kernel_rfl) (by kernel_rfl) (by kernel_rfl) (fun _ _ _ h => h) (Or.inl ⟨by rfl, ?_⟩) (by assumption) ?_
  rotate_left
  · (intro w hSw; (try dsimp only at hSw); go_simp; try with_reducible rfl)
  try simp only [Act.put, List.setIfInBounds_toArray, List.set_cons_zero, List.set_cons_succ]
  refine wpAnyH_take (i := 16) (oi := _) (v := ?_) rfl (by kernel_rfl) (by kernel_rfl) (by kernel_rfl) (fun _ _ _ h => h) (Or.inl ⟨by rfl, ?_⟩) (by assumption) ?_
  rotate_left
  · (intro w hSw; (try dsimp only at hSw); go_simp; try with_reducible rfl)
  try simp only [Act.put, List.setIfInBounds_toArray, List.set_cons_zero, List.set_cons_succ]
  refine wpAnyH_take (i := 17) (oi := _) (v := ?_) rfl (by kernel_rfl) (by kernel_rfl) (by kernel_rfl) (fun _ _ _ h => h) (Or.inl ⟨by rfl, ?_⟩) (by assumption) ?_
  rotate_left
  · (intro w hSw; (try dsimp only at hSw); go_simp; try with_reducible rfl)
  try simp only [Act.put, List.setIfInBounds_toArray, List.set_cons_zero, List.set_cons_succ]
  refine wpAnyH_take (i := 18) (oi := _) (v := ?_) rfl (by kernel_rfl) (by kernel_rfl) (by kernel_rfl) (fun _ _ _ h => h) (Or.inl ⟨by rfl, ?_⟩) (by assumption) ?_
  rotate_left
  · (intro w hSw; (try dsimp only at hSw); go_simp; try with_reducible rfl)
  try simp only [Act.put, List.setIfInBounds_toArray, List.set_cons_zero, List.set_cons_succ]
  refine wpAnyH_take (i := 19) (oi := _) (v := ?_) rfl (by kernel_rfl) (by kernel_rfl) (by kernel_rfl) (fun _ _ _ h => h) (Or.inl ⟨by rfl, ?_⟩) (by assumption) ?_
  rotate_left
  · (intro w hSw; (try dsimp only at hSw); go_simp; try with_reducible rfl)
  try simp only [Act.put, List.setIfInBounds_toArray, List.set_cons_zero, List.set_cons_succ]
  refine wpAnyH_take (i := 20) (oi := _) (v := ?_) rfl (by kernel_rfl) (by kernel_rfl) (by kernel_rfl) (fun _ _ _ h => h) (Or.inl ⟨by rfl, ?_⟩) (by assumption) ?_
  rotate_left
  · (intro w hSw; (try dsimp only at hSw); go_simp; try with_reducible rfl)
  try simp only [Act.put, List.setIfInBounds_toArray, List.set_cons_zero, List.set_cons_succ]
  refine wpAnyH_ready (rs := [4, 21]) (by kernel_rfl) (by simp) ?_
  refine AllReadyH.cons (o := _) rfl (fun KK hKK => ?_) ?_
  · go_simp
    try go_wp2_with fail
    refine hKK.out _ _ ?_ (fun hHeld2 => ?_)
    · (try dsimp only); first | exact HS7b.out | exact HS7.out | exact HS9.out _ (by go_grown)
    refine wpAnyH_ready (rs := [21]) (by kernel_rfl) (by simp) ?_
    refine AllReadyH.cons (o := _) rfl (fun KK hKK => ?_) AllReadyH.nil
    go_simp
    try go_wp2_with fail
    refine hKK.out _ _ ?_ (fun hHeld2 => ?_)
    · (try dsimp only); first | exact HS7b.out | exact HS7.out | exact HS9.out _ (by go_grown)
    refine wpAnyH_ready (rs := [22]) (by kernel_rfl) (by simp) ?_
    refine AllReadyH.cons (o := _) rfl (fun KK hKK => ?_) AllReadyH.nil
    (refine step_append_sl et_obs rfl _ _ rfl B a12 n c12 P12 (by rfl) (HR12.out _ (by go_grown)) (some ⟨w.heap.size, 0, none⟩) 1 1 [.slice a5 l c5, .int .i64 P.now.gray, .int .i64 P.now.x0, .int .i64 P.now.y0, .int .i64 P.now.x1, .int .i64 P.now.y1] (by rfl) (by rfl) (by first | exact Lies.new w.drew _ _ rfl | exact (Lies.new w _ _ rfl).drew) (by simp [Value.oneCell']) (by unfold maxLen; omega) (by omega) (by simp; omega) ?_; intro a' c' w7 r7 gr7 sub7; rw [← HL.out] at r7; have hh := HH.out.fill hB hX (by go_grown) HN.out r7 gr7 sub7; have k7 := hh.1.1 12 _ rfl; have f7 := hh.1.2.1; have k5 := hh.1.1 5 _ rfl; rw [HN.out] at k7; rw [HL.out] at k5; have HR := Lib.hid hh.2; have HS7 := Lib.hid (s6 hh.1); have HS7b := Lib.hid (s6 (Blk.put (o := 12) (P := [_, _, _, _, _, _, _, _, _, _, _, _]) (R := []) hh.1 rfl (.slice a' (n + 1) c'))); rw [HL.out] at HS7 HS7b; clear hh r7 gr7 sub7)
    try go_wp2_with fail
    refine hKK.out _ _ ?_ (fun hHeld2 => ?_)
    · (try dsimp only); first | exact HS7b.out | exact HS7.out | exact HS9.out _ (by go_grown)
    refine wpAnyH_take (i := 23) (oi := _) (v := ?_) rfl (by kernel_rfl) (by kernel_rfl) (by kernel_rfl) (fun _ _ _ h => h) (Or.inl ⟨by rfl, ?_⟩) (by assumption) ?_
    rotate_left
    · (intro w hSw; (try dsimp only at hSw); go_simp; try with_reducible rfl)
    try simp only [Act.put, List.setIfInBounds_toArray, List.set_cons_zero, List.set_cons_succ]
    refine wpAnyH_take (i := 24) (oi := _) (v := ?_) rfl (by kernel_rfl) (by kernel_rfl) (by kernel_rfl) (fun _ _ _ h => h) (Or.inl ⟨by rfl, ?_⟩) (by assumption) ?_
    rotate_left
    · (intro w hSw; (try dsimp only at hSw); go_simp; try with_reducible rfl)
    try simp only [Act.put, List.setIfInBounds_toArray, List.set_cons_zero, List.set_cons_succ]
    refine wpAnyH_ready (rs := [25]) (by kernel_rfl) (by simp) ?_
    refine AllReadyH.cons (o := _) rfl (fun KK hKK => ?_) AllReadyH.nil
    go_simp
    try go_wp2_with fail
    refine hKK.out _ _ ?_ (fun hHeld2 => ?_)
    · (try dsimp only); first | exact HS7b.out | exact HS7.out | exact HS9.out _ (by go_grown)
    refine wpAnyH_done (by kernel_rfl) ?_ _
    go_wp2_with fail
    go_wp2
    go_ret
    exact HR.out
  refine AllReadyH.cons (o := _) rfl (fun KK hKK => ?_) AllReadyH.nil
  go_simp
  try go_wp2_with fail
  refine hKK.out _ _ ?_ (fun hHeld2 => ?_)
  · (try dsimp only); first | exact HS7b.out | exact HS7.out | exact HS9.out _ (by go_grown)
  refine wpAnyH_ready (rs := [4]) (by kernel_rfl) (by simp) ?_
  refine AllReadyH.cons (o := _) rfl (fun KK hKK => ?_) AllReadyH.nil
  go_simp
  try go_wp2_with fail
  refine hKK.out _ _ ?_ (fun hHeld2 => ?_)
  · (try dsimp only); first | exact HS7b.out | exact HS7.out | exact HS9.out _ (by go_grown)
  refine wpAnyH_ready (rs := [22]) (by kernel_rfl) (by simp) ?_
  refine AllReadyH.cons (o := _) rfl (fun KK hKK => ?_) AllReadyH.nil
  (refine step_append_sl et_obs rfl _ _ rfl B a12 n c12 P12 (by rfl) (HR12.out _ (by go_grown)) (some ⟨w.heap.size, 0, none⟩) 1 1 [.slice a5 l c5, .int .i64 P.now.gray, .int .i64 P.now.x0, .int .i64 P.now.y0, .int .i64 P.now.x1, .int .i64 P.now.y1] (by rfl) (by rfl) (by first | exact Lies.new w.drew _ _ rfl | exact (Lies.new w _ _ rfl).drew) (by simp [Value.oneCell']) (by unfold maxLen; omega) (by omega) (by simp; omega) ?_; intro a' c' w7 r7 gr7 sub7; rw [← HL.out] at r7; have hh := HH.out.fill hB hX (by go_grown) HN.out r7 gr7 sub7; have k7 := hh.1.1 12 _ rfl; have f7 := hh.1.2.1; have k5 := hh.1.1 5 _ rfl; rw [HN.out] at k7; rw [HL.out] at k5; have HR := Lib.hid hh.2; have HS7 := Lib.hid (s6 hh.1); have HS7b := Lib.hid (s6 (Blk.put (o := 12) (P := [_, _, _, _, _, _, _, _, _, _, _, _]) (R := []) hh.1 rfl (.slice a' (n + 1) c'))); rw [HL.out] at HS7 HS7b; clear hh r7 gr7 sub7)
  try go_wp2_with fail
  refine hKK.out _ _ ?_ (fun hHeld2 => ?_)
  · (try dsimp only); first | exact HS7b.out | exact HS7.out | exact HS9.out _ (by go_grown)
  refine wpAnyH_take (i := 23) (oi := _) (v := ?_) rfl (by kernel_rfl) (by kernel_rfl) (by kernel_rfl) (fun _ _ _ h => h) (Or.inl ⟨by rfl, ?_⟩) (by assumption) ?_
  rotate_left
  · (intro w hSw; (try dsimp only at hSw); go_simp; try with_reducible rfl)
  try simp only [Act.put, List.setIfInBounds_toArray, List.set_cons_zero, List.set_cons_succ]
  refine wpAnyH_take (i := 24) (oi := _) (v := ?_) rfl (by kernel_rfl) (by kernel_rfl) (by kernel_rfl) (fun _ _ _ h => h) (Or.inl ⟨by rfl, ?_⟩) (by assumption) ?_
  rotate_left
  · (intro w hSw; (try dsimp only at hSw); go_simp; try with_reducible rfl)
  try simp only [Act.put, List.setIfInBounds_toArray, List.set_cons_zero, List.set_cons_succ]
  refine wpAnyH_ready (rs := [25]) (by kernel_rfl) (by simp) ?_
  refine AllReadyH.cons (o := _) rfl (fun KK hKK => ?_) AllReadyH.nil
  go_simp
  try go_wp2_with fail
  refine hKK.out _ _ ?_ (fun hHeld2 => ?_)
  · (try dsimp only); first | exact HS7b.out | exact HS7.out | exact HS9.out _ (by go_grown)
  refine wpAnyH_done (by kernel_rfl) ?_ _
  go_wp2_with fail
  go_wp2
  go_ret
  exact HR.out
end Go.Proofs.YtjmfgbbngocodaaGreat.Own

