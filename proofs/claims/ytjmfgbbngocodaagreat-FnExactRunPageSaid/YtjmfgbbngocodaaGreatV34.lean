/-
  Texts of this seat, laid together: OpL
-/
import Derived.Test.YtjmfgbbngocodaaGreatV32
import Derived.Test.YtjmfgbbngocodaaGreatV33
namespace Go.Proofs.YtjmfgbbngocodaaGreat.Own
open Go.ChangeShapes Go.WideShapes Go.ChangeAt Go.RowKit
open Kit Slabs Ints Stack Point Turn Join Pts Box
set_option linter.unusedVariables false
set_option linter.unusedSimpArgs false
set_option linter.unnecessarySimpa false
set_option maxRecDepth 100000
attribute [local go_sem ↓] hload_Graphics hload_Object hstore_Graphics hstore_Object hload_Page hstore_Page
abbrev nowCells (p : Pg) (a0 : Option Addr) (c0 : Nat) (a5 : Option Addr) (c5 : Nat) : List Value := [.slice a0 p.now.st.length c0, .int .i64 p.now.q, .int .i64 p.now.s, .int .i64 p.now.dx, .int .i64 p.now.dy, .slice a5 p.now.path.length c5, .int .i64 p.now.gray, .int .i64 p.now.x0, .int .i64 p.now.y0, .int .i64 p.now.x1, .int .i64 p.now.y1]
section
variable {w : World} {B X : Nat} {p : Pg} {a0 : Option Addr} {c0 : Nat} {f0 : List Nat} {a5 : Option Addr} {c5 : Nat} {P5 : List Value} {a11 : Option Addr} {c11 : Nat} {P11 : List Value} {f11 : List Nat} {a12 : Option Addr} {c12 : Nat} {P12 : List Value} {f12 : List Nat}
theorem PgFl.opn (h : PgFl w B X p a0 c0 f0 a5 c5 P5 a11 c11 P11 f11 a12 c12 P12 f12) : PgOpen w B X p (nowCells p a0 c0 a5 c5) (f0 ++ rowL (.slice a5 p.now.path.length c5)) a11 c11 P11 f11 a12 c12 P12 f12 := by
  obtain ⟨nX, nd⟩ := List.nodup_cons.1 h.nd
  have nd2 : ((f0 ++ rowL (.slice a5 p.now.path.length c5)) ++ (rowL (.slice a11 p.saved.length c11) ++ (f11 ++ (rowL (.slice a12 p.objs.length c12) ++ f12)))).Nodup := by simpa [List.append_assoc] using nd
  obtain ⟨n0, _, _⟩ := nodup_parts nd2
  refine ⟨h.blk, ⟨a0, c0, f0, a5, c5, P5, rfl, h.o0, h.r5, h.o5, rfl, n0, ?_⟩, h.r11, h.o11, h.r12, h.o12, by simpa [List.append_assoc] using h.nd, fun b hb => h.ge b (List.mem_append_right _ hb)⟩
  exact mem2 (p := fun b => B ≤ b) (fun b hb => h.ge b (List.mem_append_left _ hb)) (fun b hb => (rowL_ge h.r5 b hb).1)
end
theorem load_blk {W : World} {X : Nat} {G S : List Value} (hB : Blk W X (G ++ S)) (hl : G.length = 11) : (hload 42 ⟨X, 0, none⟩).run Tryz.prog W = .ok (.agg G.toArray) W :=
  hload_run (P := Tryz.prog) (t := 42) Tryz.isAgg42 Tryz.sizeOf42 (w := W) (b := X) (o := 0) (us := G) (Blk.part (P := []) hB rfl) hl
theorem PgOpen.save {w : World} {B X : Nat} {p : Pg} {G : List Value} {F0 : List Nat} {a11 : Option Addr} {c11 : Nat} {P11 : List Value} {f11 : List Nat} {a12 : Option Addr} {c12 : Nat} {P12 : List Value} {f12 : List Nat} (h : PgOpen w B X p G F0 a11 c11 P11 f11 a12 c12 P12 f12) (hB : B ≤ w.heap.size) (hX : B ≤ X) {n : Nat} (hn : p.saved.length = n)
    {g : Gr} {w5 w7 : World} {R : List Value} {F : List Nat} (b5 : Below w.heap.size w w5) (oR : OwnL w5 LGraphics R g.dt F) (nR : F.Nodup) (gR : ∀ b ∈ F, w.heap.size ≤ b) {a' : Option Addr} {c' : Nat} (ob : Obj)
    (r7 : w7.ownsRow B 42 11 (.slice a' (n + 1) c') (n + 1) (P11 ++ R)) (gr : (w5.alloc ob).grownBy w7 (Value.ownBlock (.slice a11 n c11))) (sub : ∀ b ∈ rowL (.slice a' (n + 1) c'), b ∈ rowL (.slice a11 n c11) ∨ (w5.alloc ob).heap.size ≤ b) :
    Blk w7 X (G ++ [.slice a11 n c11, .slice a12 p.objs.length c12]) ∧ Blk (w7.setCell ⟨X, 11, none⟩ (.slice a' (n + 1) c')) X (G ++ [.slice a' (n + 1) c', .slice a12 p.objs.length c12]) ∧ OpRes B X (some { p with saved := p.saved ++ [g] }) w (.returned (.bool true)) (w7.setCell ⟨X, 11, none⟩ (.slice a' (n + 1) c')) := by
  subst hn
  have b6 : Below w5.heap.size w5 (w5.alloc ob) := by go_grown
  have h6 := h.on (on_of b5 b6)
  obtain ⟨tt, hXr, B7⟩ := h6.store_saved gr
  have PN := h.push_saved b5 oR nR gR b6 hB r7 gr sub
  have z5 := b5.size
  refine ⟨B7, by have := PN.blk; simpa using this, rfl, (((on_of b5 b6).mono hB).trans (tt.below (by have := b6.size; omega) (fun k hk => (rowL_ge h.r11 k hk).1))).setCell (p := ⟨X, 11, none⟩) hX _, fun P' hP => ?_⟩
  injection hP with hP
  subst hP
  exact PN.own
set_option maxHeartbeats 4000000 in
theorem op_save {w : World} {B X : Nat} {P : Pg} (h : PgAt w B X P) (hB : B ≤ w.heap.size) (hX : B ≤ X) (hb : bulkL P.now.dt ≤ 1048576) (hl : P.saved.length ≤ 4) (u : Value) :
    Calls Tryz.prog 129 #[.pointer (some ⟨X, 0, none⟩), u] w (OpRes B X (some (savM P)) w) := by
  obtain ⟨a0, c0, f0, a5, c5, P5, a11, c11, P11, f11, a12, c12, P12, f12, h⟩ := h.flat
  obtain ⟨fA, oA⟩ := h.now
  have h := h.opn
  obtain ⟨XG, hXG⟩ : ∃ XG, nowCells P a0 c0 a5 c5 = XG := ⟨_, rfl⟩
  obtain ⟨n, hN⟩ : ∃ n, P.saved.length = n := ⟨_, rfl⟩
  have oA' : OwnL w LGraphics XG.toArray.toList P.now.dt fA := by rw [← hXG]; simpa using oA
  rw [hXG] at h
  have HLen := Lib.hid h.len
  have HA := Lib.hid oA'
  have HN := Lib.hid hN
  have HK := Lib.hid (fun (W : World) (hb : Below w.heap.size w W) => (show W.cell? ⟨X, 11, none⟩ = some (.slice a11 n c11) from by rw [← hN]; exact (h.on hb).cell11))
  have HS9 := Lib.hid (fun (W : World) (hb : Below w.heap.size w W) => load_blk ((h.on hb).blk) h.len)
  have HR11 := Lib.hid (fun (W : World) (hb : Below w.heap.size w W) => (show W.ownsRow B 42 11 (.slice a11 n c11) n P11 from by rw [← hN]; exact row_on h.r11 hb))
  have HH := Lib.hid h
  have hXl := h.blk.2.2
  have kO := HK.out w (Below.refl _ _)
  rw [hN] at hl
  obtain ⟨A, hA⟩ : ∃ A, XG.toArray = A := ⟨_, rfl⟩
  rw [hA] at HA HS9
  clear h oA oA' hXG hN
  go_enter Tryz.func129, Tryz.ntmps129
  go_upto_region 1 with (fail)
  refine wp_region_held_drew (S := fun w' => (hload 42 ⟨X, 0, none⟩).run Tryz.prog w' = .ok (.agg A) w') (by kernel_rfl) (HS9.out _ (by go_grown)) (fun hHeld => ?_)
  refine wpAnyH_take (i := 0) (oi := _) (v := ?_) rfl (by kernel_rfl) (by kernel_rfl) (by kernel_rfl) (fun _ _ _ h => h) (Or.inl ⟨by rfl, ?_⟩) (by assumption) ?_
  rotate_left
  · (intro w hSw; (try dsimp only at hSw); go_simp; try with_reducible rfl)
  try simp only [Act.put, List.setIfInBounds_toArray, List.set_cons_zero, List.set_cons_succ]
  refine wpAnyH_take (i := 1) (oi := _) (v := ?_) rfl (by kernel_rfl) (by kernel_rfl) (by kernel_rfl) (fun _ _ _ h => h) (Or.inl ⟨by rfl, ?_⟩) (by assumption) ?_
  rotate_left
  · (intro w hSw; (try dsimp only at hSw); go_simp; try with_reducible rfl)
  try simp only [Act.put, List.setIfInBounds_toArray, List.set_cons_zero, List.set_cons_succ]
  refine wpAnyH_take (i := 2) (oi := _) (v := ?_) rfl (by kernel_rfl) (by kernel_rfl) (by kernel_rfl) (fun _ _ _ h => h) (Or.inl ⟨by rfl, ?_⟩) (by assumption) ?_
  rotate_left
  · (intro w hSw; (try dsimp only at hSw); go_simp; try with_reducible rfl)
  try simp only [Act.put, List.setIfInBounds_toArray, List.set_cons_zero, List.set_cons_succ]
  refine wpAnyH_take (i := 3) (oi := _) (v := ?_) rfl (by kernel_rfl) (by kernel_rfl) (by kernel_rfl) (fun _ _ _ h => h) (Or.inl ⟨by rfl, ?_⟩) (by assumption) ?_
  rotate_left
  · (intro w hSw; (try dsimp only at hSw); go_simp; try with_reducible rfl)
  try simp only [Act.put, List.setIfInBounds_toArray, List.set_cons_zero, List.set_cons_succ]
  refine wpAnyH_take (i := 5) (oi := _) (v := ?_) rfl (by kernel_rfl) (by kernel_rfl) (by kernel_rfl) (fun _ _ _ h => h) (Or.inl ⟨by rfl, ?_⟩) (by assumption) ?_
  rotate_left
  · (intro w hSw; (try dsimp only at hSw); go_simp; try with_reducible rfl)
  try simp only [Act.put, List.setIfInBounds_toArray, List.set_cons_zero, List.set_cons_succ]
  refine wpAnyH_take (i := 6) (oi := _) (v := ?_) rfl (by kernel_rfl) (by kernel_rfl) (by kernel_rfl) (fun _ _ _ h => h) (Or.inl ⟨by rfl, ?_⟩) (by assumption) ?_
  rotate_left
  · (intro w hSw; (try dsimp only at hSw); go_simp; try with_reducible rfl)
  try simp only [Act.put, List.setIfInBounds_toArray, List.set_cons_zero, List.set_cons_succ]
  refine wpAnyH_take (i := 7) (oi := _) (v := ?_) rfl (by kernel_rfl) (by kernel_rfl) (by kernel_rfl) (fun _ _ _ h => h) (Or.inl ⟨by rfl, ?_⟩) (by assumption) ?_
  rotate_left
  · (intro w hSw; (try dsimp only at hSw); go_simp; try with_reducible rfl)
  try simp only [Act.put, List.setIfInBounds_toArray, List.set_cons_zero, List.set_cons_succ]
  refine wpAnyH_take (i := 8) (oi := _) (v := ?_) rfl (by kernel_rfl) (by kernel_rfl) (by kernel_rfl) (fun _ _ _ h => h) (Or.inl ⟨by rfl, ?_⟩) (by assumption) ?_
  rotate_left
  · (intro w hSw; (try dsimp only at hSw); go_simp; try with_reducible rfl)
  try simp only [Act.put, List.setIfInBounds_toArray, List.set_cons_zero, List.set_cons_succ]
  refine wpAnyH_ready (rs := [4, 9]) (by kernel_rfl) (by simp) ?_
  refine AllReadyH.cons (o := _) rfl (fun KK hKK => ?_) ?_
  · go_simp
    try go_wp2_with fail
    refine hKK.out _ _ ?_ (fun hHeld2 => ?_)
    · (try dsimp only); first | exact HS7b.out | exact HS7.out | exact HS9.out _ H5.out.2.2.2.1 | exact HS9.out _ ((H5.out.2.2.2.1).alloc (by omega) _) | exact HS9.out _ (by go_grown)
    refine wpAnyH_ready (rs := [9]) (by kernel_rfl) (by simp) ?_
    refine AllReadyH.cons (o := _) rfl (fun KK hKK => ?_) AllReadyH.nil
    (go_simp; go_at_call 81; (with_reducible refine (clone_Graphics w.drew hb (HA.out.under (show Below w.heap.size w w.drew from by go_grown))).mono ?_); rintro e w5 ⟨R, F0', rfl, gR, bb⟩; obtain ⟨r0, s0, r5, s5, eR⟩ := gR.cells; obtain ⟨F, oR, nR, sR⟩ := gR.own; have gF := (fun b hb => gR.ge b (sR b hb)); have bb := on_of (W := w) (by go_grown) bb; have gF' : ∀ b ∈ F, w.heap.size ≤ b := gF; clear gR sR; obtain rfl := arr_of eR; clear eR; have j11 := HK.out w5 bb; have z5 := bb.size; have lX5 : X < w5.heap.size := (by omega); have r5' := HR11.out w5 bb; have H5 := Lib.hid (And.intro oR (And.intro nR (And.intro gF' (And.intro bb r5')))); clear oR nR gF gF' bb r5')
    try go_wp2_with fail
    refine hKK.out _ _ ?_ (fun hHeld2 => ?_)
    · (try dsimp only); first | exact HS7b.out | exact HS7.out | exact HS9.out _ H5.out.2.2.2.1 | exact HS9.out _ ((H5.out.2.2.2.1).alloc (by omega) _) | exact HS9.out _ (by go_grown)
    refine wpAnyH_ready (rs := [10]) (by kernel_rfl) (by simp) ?_
    refine AllReadyH.cons (o := _) rfl (fun KK hKK => ?_) AllReadyH.nil
    go_simp
    try go_wp2_with fail
    refine hKK.out _ _ ?_ (fun hHeld2 => ?_)
    · (try dsimp only); first | exact HS7b.out | exact HS7.out | exact HS9.out _ H5.out.2.2.2.1 | exact HS9.out _ ((H5.out.2.2.2.1).alloc (by omega) _) | exact HS9.out _ (by go_grown)
    refine wpAnyH_ready (rs := [11]) (by kernel_rfl) (by simp) ?_
    refine AllReadyH.cons (o := _) rfl (fun KK hKK => ?_) AllReadyH.nil
    (refine step_append_sl et_grs rfl _ _ rfl B a11 n c11 P11 (by rfl) (H5.out.2.2.2.2.alloc _) (some ⟨w5.heap.size, 0, none⟩) 1 1 [.slice r0 P.now.st.length s0, .int .i64 P.now.q, .int .i64 P.now.s, .int .i64 P.now.dx, .int .i64 P.now.dy, .slice r5 P.now.path.length s5, .int .i64 P.now.gray, .int .i64 P.now.x0, .int .i64 P.now.y0, .int .i64 P.now.x1, .int .i64 P.now.y1] (by rfl) (by rfl) (Lies.new w5 _ _ rfl) (fun u hu => H5.out.1.one u hu) (by unfold maxLen; omega) (by omega) (by simp; omega) ?_; intro a' c' w7 r7 gr7 sub7; have hh := HH.out.save hB hX HN.out H5.out.2.2.2.1 H5.out.1 H5.out.2.1 H5.out.2.2.1 _ r7 gr7 sub7; have k7 := hh.1.1 11 (.slice a11 n c11) (by rw [List.getElem?_append_right (by have := HLen.out; omega)]; simp [HLen.out]); have f7 := hh.1.2.1; have HR := Lib.hid hh.2.2; have HS7 := Lib.hid (load_blk hh.1 HLen.out); have HS7b := Lib.hid (load_blk hh.2.1 HLen.out); rw [hA] at HS7 HS7b; clear hh r7 gr7 sub7)
    try go_wp2_with fail
    refine hKK.out _ _ ?_ (fun hHeld2 => ?_)
    · (try dsimp only); first | exact HS7b.out | exact HS7.out | exact HS9.out _ H5.out.2.2.2.1 | exact HS9.out _ ((H5.out.2.2.2.1).alloc (by omega) _) | exact HS9.out _ (by go_grown)
    refine wpAnyH_take (i := 12) (oi := _) (v := ?_) rfl (by kernel_rfl) (by kernel_rfl) (by kernel_rfl) (fun _ _ _ h => h) (Or.inl ⟨by rfl, ?_⟩) (by assumption) ?_
    rotate_left
    · (intro w hSw; (try dsimp only at hSw); go_simp; try with_reducible rfl)
    try simp only [Act.put, List.setIfInBounds_toArray, List.set_cons_zero, List.set_cons_succ]
    refine wpAnyH_take (i := 13) (oi := _) (v := ?_) rfl (by kernel_rfl) (by kernel_rfl) (by kernel_rfl) (fun _ _ _ h => h) (Or.inl ⟨by rfl, ?_⟩) (by assumption) ?_
    rotate_left
    · (intro w hSw; (try dsimp only at hSw); go_simp; try with_reducible rfl)
    try simp only [Act.put, List.setIfInBounds_toArray, List.set_cons_zero, List.set_cons_succ]
    refine wpAnyH_ready (rs := [14]) (by kernel_rfl) (by simp) ?_
    refine AllReadyH.cons (o := _) rfl (fun KK hKK => ?_) AllReadyH.nil
    go_simp
    try go_wp2_with fail
    refine hKK.out _ _ ?_ (fun hHeld2 => ?_)
    · (try dsimp only); first | exact HS7b.out | exact HS7.out | exact HS9.out _ H5.out.2.2.2.1 | exact HS9.out _ ((H5.out.2.2.2.1).alloc (by omega) _) | exact HS9.out _ (by go_grown)
    refine wpAnyH_done (by kernel_rfl) ?_ _
    go_wp2_with fail
    go_wp2
    go_ret
    exact HR.out
  refine AllReadyH.cons (o := _) rfl (fun KK hKK => ?_) AllReadyH.nil
  (go_simp; go_at_call 81; (with_reducible refine (clone_Graphics w.drew hb (HA.out.under (show Below w.heap.size w w.drew from by go_grown))).mono ?_); rintro e w5 ⟨R, F0', rfl, gR, bb⟩; obtain ⟨r0, s0, r5, s5, eR⟩ := gR.cells; obtain ⟨F, oR, nR, sR⟩ := gR.own; have gF := (fun b hb => gR.ge b (sR b hb)); have bb := on_of (W := w) (by go_grown) bb; have gF' : ∀ b ∈ F, w.heap.size ≤ b := gF; clear gR sR; obtain rfl := arr_of eR; clear eR; have j11 := HK.out w5 bb; have z5 := bb.size; have lX5 : X < w5.heap.size := (by omega); have r5' := HR11.out w5 bb; have H5 := Lib.hid (And.intro oR (And.intro nR (And.intro gF' (And.intro bb r5')))); clear oR nR gF gF' bb r5')
  try go_wp2_with fail
  refine hKK.out _ _ ?_ (fun hHeld2 => ?_)
  · (try dsimp only); first | exact HS7b.out | exact HS7.out | exact HS9.out _ H5.out.2.2.2.1 | exact HS9.out _ ((H5.out.2.2.2.1).alloc (by omega) _) | exact HS9.out _ (by go_grown)
  refine wpAnyH_ready (rs := [4, 10]) (by kernel_rfl) (by simp) ?_
  refine AllReadyH.cons (o := _) rfl (fun KK hKK => ?_) ?_
  · go_simp
    try go_wp2_with fail
    refine hKK.out _ _ ?_ (fun hHeld2 => ?_)
    · (try dsimp only); first | exact HS7b.out | exact HS7.out | exact HS9.out _ H5.out.2.2.2.1 | exact HS9.out _ ((H5.out.2.2.2.1).alloc (by omega) _) | exact HS9.out _ (by go_grown)
    refine wpAnyH_ready (rs := [10]) (by kernel_rfl) (by simp) ?_
    refine AllReadyH.cons (o := _) rfl (fun KK hKK => ?_) AllReadyH.nil
    go_simp
    try go_wp2_with fail
    refine hKK.out _ _ ?_ (fun hHeld2 => ?_)
    · (try dsimp only); first | exact HS7b.out | exact HS7.out | exact HS9.out _ H5.out.2.2.2.1 | exact HS9.out _ ((H5.out.2.2.2.1).alloc (by omega) _) | exact HS9.out _ (by go_grown)
    refine wpAnyH_ready (rs := [11]) (by kernel_rfl) (by simp) ?_
    refine AllReadyH.cons (o := _) rfl (fun KK hKK => ?_) AllReadyH.nil
    (refine step_append_sl et_grs rfl _ _ rfl B a11 n c11 P11 (by rfl) (H5.out.2.2.2.2.alloc _) (some ⟨w5.heap.size, 0, none⟩) 1 1 [.slice r0 P.now.st.length s0, .int .i64 P.now.q, .int .i64 P.now.s, .int .i64 P.now.dx, .int .i64 P.now.dy, .slice r5 P.now.path.length s5, .int .i64 P.now.gray, .int .i64 P.now.x0, .int .i64 P.now.y0, .int .i64 P.now.x1, .int .i64 P.now.y1] (by rfl) (by rfl) (Lies.new w5 _ _ rfl) (fun u hu => H5.out.1.one u hu) (by unfold maxLen; omega) (by omega) (by simp; omega) ?_; intro a' c' w7 r7 gr7 sub7; have hh := HH.out.save hB hX HN.out H5.out.2.2.2.1 H5.out.1 H5.out.2.1 H5.out.2.2.1 _ r7 gr7 sub7; have k7 := hh.1.1 11 (.slice a11 n c11) (by rw [List.getElem?_append_right (by have := HLen.out; omega)]; simp [HLen.out]); have f7 := hh.1.2.1; have HR := Lib.hid hh.2.2; have HS7 := Lib.hid (load_blk hh.1 HLen.out); have HS7b := Lib.hid (load_blk hh.2.1 HLen.out); rw [hA] at HS7 HS7b; clear hh r7 gr7 sub7)
    try go_wp2_with fail
    refine hKK.out _ _ ?_ (fun hHeld2 => ?_)
    · (try dsimp only); first | exact HS7b.out | exact HS7.out | exact HS9.out _ H5.out.2.2.2.1 | exact HS9.out _ ((H5.out.2.2.2.1).alloc (by omega) _) | exact HS9.out _ (by go_grown)
    refine wpAnyH_take (i := 12) (oi := _) (v := ?_) rfl (by kernel_rfl) (by kernel_rfl) (by kernel_rfl) (fun _ _ _ h => h) (Or.inl ⟨by rfl, ?_⟩) (by assumption) ?_
    rotate_left
    · (intro w hSw; (try dsimp only at hSw); go_simp; try with_reducible rfl)
    try simp only [Act.put, List.setIfInBounds_toArray, List.set_cons_zero, List.set_cons_succ]
    refine wpAnyH_take (i := 13) (oi := _) (v := ?_) rfl (by kernel_rfl) (by kernel_rfl) (by kernel_rfl) (fun _ _ _ h => h) (Or.inl ⟨by rfl, ?_⟩) (by assumption) ?_
    rotate_left
    · (intro w hSw; (try dsimp only at hSw); go_simp; try with_reducible rfl)
    try simp only [Act.put, List.setIfInBounds_toArray, List.set_cons_zero, List.set_cons_succ]
    refine wpAnyH_ready (rs := [14]) (by kernel_rfl) (by simp) ?_
    refine AllReadyH.cons (o := _) rfl (fun KK hKK => ?_) AllReadyH.nil
    go_simp
    try go_wp2_with fail
    refine hKK.out _ _ ?_ (fun hHeld2 => ?_)
    · (try dsimp only); first | exact HS7b.out | exact HS7.out | exact HS9.out _ H5.out.2.2.2.1 | exact HS9.out _ ((H5.out.2.2.2.1).alloc (by omega) _) | exact HS9.out _ (by go_grown)
    refine wpAnyH_done (by kernel_rfl) ?_ _
    go_wp2_with fail
    go_wp2
    go_ret
    exact HR.out
  refine AllReadyH.cons (o := _) rfl (fun KK hKK => ?_) AllReadyH.nil
  go_simp
  try go_wp2_with fail
  refine hKK.out _ _ ?_ (fun hHeld2 => ?_)
  · (try dsimp only); first | exact HS7b.out | exact HS7.out | exact HS9.out _ H5.out.2.2.2.1 | exact HS9.out _ ((H5.out.2.2.2.1).alloc (by omega) _) | exact HS9.out _ (by go_grown)
  refine wpAnyH_ready (rs := [4]) (by kernel_rfl) (by simp) ?_
  refine AllReadyH.cons (o := _) rfl (fun KK hKK => ?_) AllReadyH.nil
  go_simp
  try go_wp2_with fail
  refine hKK.out _ _ ?_ (fun hHeld2 => ?_)
  · (try dsimp only); first | exact HS7b.out | exact HS7.out | exact HS9.out _ H5.out.2.2.2.1 | exact HS9.out _ ((H5.out.2.2.2.1).alloc (by omega) _) | exact HS9.out _ (by go_grown)
  refine wpAnyH_ready (rs := [11]) (by kernel_rfl) (by simp) ?_
  refine AllReadyH.cons (o := _) rfl (fun KK hKK => ?_) AllReadyH.nil
  (refine step_append_sl et_grs rfl _ _ rfl B a11 n c11 P11 (by rfl) (H5.out.2.2.2.2.alloc _) (some ⟨w5.heap.size, 0, none⟩) 1 1 [.slice r0 P.now.st.length s0, .int .i64 P.now.q, .int .i64 P.now.s, .int .i64 P.now.dx, .int .i64 P.now.dy, .slice r5 P.now.path.length s5, .int .i64 P.now.gray, .int .i64 P.now.x0, .int .i64 P.now.y0, .int .i64 P.now.x1, .int .i64 P.now.y1] (by rfl) (by rfl) (Lies.new w5 _ _ rfl) (fun u hu => H5.out.1.one u hu) (by unfold maxLen; omega) (by omega) (by simp; omega) ?_; intro a' c' w7 r7 gr7 sub7; have hh := HH.out.save hB hX HN.out H5.out.2.2.2.1 H5.out.1 H5.out.2.1 H5.out.2.2.1 _ r7 gr7 sub7; have k7 := hh.1.1 11 (.slice a11 n c11) (by rw [List.getElem?_append_right (by have := HLen.out; omega)]; simp [HLen.out]); have f7 := hh.1.2.1; have HR := Lib.hid hh.2.2; have HS7 := Lib.hid (load_blk hh.1 HLen.out); have HS7b := Lib.hid (load_blk hh.2.1 HLen.out); rw [hA] at HS7 HS7b; clear hh r7 gr7 sub7)
  try go_wp2_with fail
  refine hKK.out _ _ ?_ (fun hHeld2 => ?_)
  · (try dsimp only); first | exact HS7b.out | exact HS7.out | exact HS9.out _ H5.out.2.2.2.1 | exact HS9.out _ ((H5.out.2.2.2.1).alloc (by omega) _) | exact HS9.out _ (by go_grown)
  refine wpAnyH_take (i := 12) (oi := _) (v := ?_) rfl (by kernel_rfl) (by kernel_rfl) (by kernel_rfl) (fun _ _ _ h => h) (Or.inl ⟨by rfl, ?_⟩) (by assumption) ?_
  rotate_left
  · (intro w hSw; (try dsimp only at hSw); go_simp; try with_reducible rfl)
  try simp only [Act.put, List.setIfInBounds_toArray, List.set_cons_zero, List.set_cons_succ]
  refine wpAnyH_take (i := 13) (oi := _) (v := ?_) rfl (by kernel_rfl) (by kernel_rfl) (by kernel_rfl) (fun _ _ _ h => h) (Or.inl ⟨by rfl, ?_⟩) (by assumption) ?_
  rotate_left
  · (intro w hSw; (try dsimp only at hSw); go_simp; try with_reducible rfl)
  try simp only [Act.put, List.setIfInBounds_toArray, List.set_cons_zero, List.set_cons_succ]
  refine wpAnyH_ready (rs := [14]) (by kernel_rfl) (by simp) ?_
  refine AllReadyH.cons (o := _) rfl (fun KK hKK => ?_) AllReadyH.nil
  go_simp
  try go_wp2_with fail
  refine hKK.out _ _ ?_ (fun hHeld2 => ?_)
  · (try dsimp only); first | exact HS7b.out | exact HS7.out | exact HS9.out _ H5.out.2.2.2.1 | exact HS9.out _ ((H5.out.2.2.2.1).alloc (by omega) _) | exact HS9.out _ (by go_grown)
  refine wpAnyH_done (by kernel_rfl) ?_ _
  go_wp2_with fail
  go_wp2
  go_ret
  exact HR.out
end Go.Proofs.YtjmfgbbngocodaaGreat.Own

