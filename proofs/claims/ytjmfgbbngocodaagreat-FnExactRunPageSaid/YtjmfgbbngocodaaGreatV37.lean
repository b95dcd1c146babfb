/-
  Texts of this seat, laid together: ExL, ExP, ExQ
-/
import Derived.Test.YtjmfgbbngocodaaGreatV36
import Derived.Test.YtjmfgbbngocodaaGreatV04
import Derived.Test.YtjmfgbbngocodaaGreatV30
import Derived.Test.YtjmfgbbngocodaaGreatV22
import Derived.Test.YtjmfgbbngocodaaGreatV09
import Derived.Test.YtjmfgbbngocodaaGreatV15
namespace Go.Proofs.YtjmfgbbngocodaaGreat.Own
open Go.ChangeShapes Go.WideShapes Go.ChangeAt Go.RowKit
open Kit Slabs Ints Stack Point Turn Join Pts Box Push Take Opn SOp Impl
set_option linter.unusedVariables false
set_option linter.unusedSimpArgs false
set_option linter.unnecessarySimpa false
set_option maxRecDepth 100000
attribute [local go_sem ↓] hload_Graphics hload_Object hstore_Graphics hstore_Object hload_Page hstore_Page
theorem nums_of {Y : Nat → Int} {n : Nat} (h : stB Y n = true) : ∀ i, i < n → -9999 ≤ Y i ∧ Y i ≤ 9999 := by
  simp only [stB, Bool.and_eq_true] at h
  replace h := h.2
  induction n with
  | zero => intro i hi; omega
  | succ m ih =>
    rw [numsB_succ, Bool.and_eq_true, decide_eq_true_eq] at h
    intro i hi
    by_cases e : i = m
    · subst e; exact h.2
    · exact ih h.1 i (by omega)
theorem cell_onX {w w' : World} (h : Below w.heap.size w w') {g o : Nat} (hg : g < w.heap.size) : w'.cell? ⟨g, o, none⟩ = w.cell? ⟨g, o, none⟩ := (bcell h).1 g o hg
theorem blk_lt {w : World} {a : Addr} {v : Value} (h : w.cell? a = some v) : a.block < w.heap.size := World.block_lt_of_cell? w _ h
def TkQ (B X : Nat) (P : Pg) (w : World) (Y : Nat → Int) (n kk : Nat) (v : Bool) (w' : World) (u1 u2 : Value) : Prop :=
  Below B w (w'.setCell ⟨X, 0, none⟩ u1) ∧ (v = true → PgAt (w'.setCell ⟨X, 0, none⟩ u1) B X (stkM P (lst Y (n - kk))) ∧ (w'.setCell ⟨X, 0, none⟩ u1).ownsRow w.heap.size 3 1 u2 kk (flat (ic fun i => Y (n - kk + i)) kk) ∧ (∀ b ∈ rowL u2, b ≠ X ∧ ∀ v, (w'.setCell ⟨X, 0, none⟩ u1).cell? ⟨X, 5, none⟩ = some v → b ∉ rowL v))
theorem PgFl.take {w W w' : World} {B X : Nat} {p : Pg} {a0 : Option Addr} {c0 : Nat} {f0 : List Nat} {a5 : Option Addr} {c5 : Nat} {P5 : List Value} {a11 : Option Addr} {c11 : Nat} {P11 : List Value} {f11 : List Nat} {a12 : Option Addr} {c12 : Nat} {P12 : List Value} {f12 : List Nat}
    (h : PgFl w B X p a0 c0 f0 a5 c5 P5 a11 c11 P11 f11 a12 c12 P12 f12) (hB : B ≤ w.heap.size) (hX : B ≤ X) (hb : Below w.heap.size w W) (bb : Below W.heap.size W w') {Y : Nat → Int} {n kk : Nat} {v : Bool} (hv : taB Y n (kk : Int) = v) {u1 u2 : Value} (r1 : w'.ownsRow W.heap.size 3 1 u1 (ta1 Y n kk) (flat (ic Y) (ta1 Y n kk))) (r2 : w'.ownsRow W.heap.size 3 1 u2 (ta2 Y n kk) (flat (ic fun i => Y (n - (kk : Int).toNat + i)) (ta2 Y n kk))) :
    TkQ B X p w Y n kk v w' u1 u2 := by
  have b2 := on_of hb bb
  have hs := (Slab.of_owns r1 (ic_len _)).weaken hb.size
  obtain ⟨h1, a, c, f, rfl, h2⟩ := h.stack2 b2 hB hX hs
  refine ⟨h1, fun e => ?_⟩
  subst e
  have e1 : ta1 Y n kk = n - kk := by simp [ta1, hv]
  have e2 : ta2 Y n kk = kk := by simp [ta2, hv]
  have e3 : ((kk : Int)).toNat = kk := by simp
  rw [e1] at h2
  rw [e2, e3] at r2
  have hXl := h.blk.2.2
  have zb := hb.size
  have ltu : ∀ b ∈ rowL u2, w.heap.size ≤ b := fun b hb => by have := (rowL_ge r2 b hb).1; omega
  refine ⟨by rw [e1]; exact h2.at_, row_set (row_base r2 zb) (fun hx => by have := ltu X hx; omega) _ _, fun b hb' => ⟨fun e => by have := ltu b hb'; omega, fun v hv' hbv => ?_⟩⟩
  have c5' : (w'.setCell ⟨X, 0, none⟩ (.slice a (ta1 Y n kk) c)).cell? ⟨X, 5, none⟩ = some (.slice a5 p.now.path.length c5) := by
    rw [e1]
    exact h2.blk.1 5 _ rfl
  rw [c5'] at hv'
  injection hv' with hv'
  subst hv'
  have := (rowL_ge h.r5 b hbv).2
  have := ltu b hb'
  omega
set_option maxHeartbeats 8000000 in
theorem ex_op {w : World} {B X : Nat} {P : Pg} (h : PgAt w B X P) (hB : B ≤ w.heap.size) (hX : B ≤ X) (hst : stB (xI P.now.st) P.now.st.length = true) (hf : PgFit P) (s : ByteArray) (m : Int) (hs : s.toList.isEmpty = false) (hz : s.size ≤ 1048576) (ho : opB s = false) (k : Nat) (hk : opN s = some k) (v : Bool) (hv : taB (xI P.now.st) P.now.st.length (opK k : Nat) = v) :
    Calls Tryz.prog 39 #[.pointer (some ⟨X, 0, none⟩), .agg #[.string s, .int .i64 m]] w (OpRes B X (if v = true then opM k (stkM P (lst (xI P.now.st) (P.now.st.length - opK k))) (fun i => xI P.now.st (P.now.st.length - opK k + i)) else none) w) := by
  obtain ⟨a0, c0, f0, a5, c5, P5, a11, c11, P11, f11, a12, c12, P12, f12, h⟩ := h.flat
  obtain ⟨n, hN⟩ : ∃ n, P.now.st.length = n := ⟨_, rfl⟩
  obtain ⟨Y, hY⟩ : ∃ Y, xI P.now.st = Y := ⟨_, rfl⟩
  have hXl := h.blk.2.2
  have HK := Lib.hid (fun (W : World) (hb : Below w.heap.size w W) => (show W.cell? ⟨X, 0, none⟩ = some (.slice a0 n c0) ∧ (∀ o, W.frozen? ⟨X, o, none⟩ = false) from by rw [← hN]; exact ⟨(h.blk.keep hb).1 0 _ rfl, (h.blk.keep hb).2.1⟩))
  have HD := Lib.hid (fun (W : World) (hb : Below w.heap.size w W) => (show Rd W (.slice a0 n c0) n Y from by rw [← hN, ← hY]; exact rd_of (h.o0.under hb)))
  have HH := Lib.hid h
  rw [hN, hY] at hst
  have hn12 : n ≤ 12 := by simp only [stB, Bool.and_eq_true, decide_eq_true_eq] at hst; exact hst.1
  rw [hN, hY] at hv
  rw [hN, hY]
  have hk11 := opN_le hk
  have hx : ∀ i, i < n → -9999 ≤ Y i ∧ Y i ≤ 9999 := nums_of hst
  have hcall := opF_call k hk11
  have hl0 := olook_yes hk
  have hC := fun (W : World) (B' : Nat) (h' : PgAt W B X (stkM P (lst Y (n - opK k)))) (hB' : B ≤ W.heap.size) (u : Value) (x : Nat → Int) (Bt : Nat) (hu : W.ownsRow Bt 3 1 u (opK k) (flat (ic x) (opK k))) => opn_all h' hB' hX (hf.stk (l := lst Y (n - opK k)) (by rw [lst_len]; omega)) k hk11 hu
  have hT := fun (W : World) (hb : Below w.heap.size w W) => (show Calls Tryz.prog 88 #[.slice a0 n c0, .int .i64 (opK k : Nat)] W (fun e w' => ∃ a1 k1 c1 a2 k2 c2, e = .returned (.tuple #[.slice a1 k1 c1, .slice a2 k2 c2, .bool v]) ∧ Below W.heap.size W w' ∧ Below w.heap.size w w' ∧ TkQ B X P w Y n (opK k) v w' (.slice a1 k1 c1) (.slice a2 k2 c2)) from by
    refine (take_impl W _ n Y (opK k : Nat) (by omega) (HD.out W hb)).mono ?_
    rintro e w' ⟨u1, u2, rfl, r1, r2, _, bb⟩
    obtain ⟨a1, c1, e1⟩ := slab_sl (Slab.of_owns r1 (ic_len _))
    obtain ⟨a2, c2, e2⟩ := slab_sl (Slab.of_owns r2 (ic_len _))
    subst e1 e2
    exact ⟨_, _, _, _, _, _, by rw [hv], bb, on_of hb bb, HH.out.take hB hX hb bb hv r1 r2⟩)
  have hkn : v = true → opK k ≤ n := fun e => by
    subst e
    simp only [taB, Bool.and_eq_true, decide_eq_true_eq] at hv
    omega
  obtain ⟨kk, hkk⟩ : ∃ x, opK k = x := ⟨_, rfl⟩
  obtain ⟨fid, hfid⟩ : ∃ x, opF k = x := ⟨_, rfl⟩
  simp only [hkk, hfid] at hl0 hcall hT hC hkn ⊢
  obtain ⟨r, hr⟩ : ∃ r, (if v = true then opM k (stkM P (lst Y (n - kk))) (fun i => Y (n - kk + i)) else none) = r := ⟨_, rfl⟩
  rw [hr]
  have HT := Lib.hid hT
  have HC := Lib.hid hC
  have HX := Lib.hid hx
  have HRr := Lib.hid hr
  have HKN := Lib.hid hkn
  have hl := fun (W : World) (b : Nat) (hb : W.heap[b]? = some (.map otab 12)) => Tab.run_look_yes Tryz.underlying130 Tryz.underlying9 hb hl0
  clear hv hx hC hT hkk hfid hr hkn hf
  have HO := Lib.hid (fun (W : World) => isop_impl W s hz)
  rw [ho] at HO
  clear h hN hY ho
  go_enter Tryz.func39, Tryz.ntmps39
  go_upto_region 5 with (fail)
  generalize hW0 : w.alloc (.cells #[.string s, .int .i64 m] 50) = W0
  have bW : Below w.heap.size w W0 := by rw [← hW0]; go_grown
  have t0 : W0.cell? ⟨w.heap.size, 0, none⟩ = some (.string s) := by rw [← hW0]; simp [go_sem]
  have gT : w.heap.size < W0.heap.size := by rw [← hW0]; simp
  obtain ⟨g, hg⟩ : ∃ g, w.heap.size = g := ⟨_, rfl⟩
  have HB := Lib.hid bW
  rw [hg] at t0 gT ⊢
  clear hW0 bW hg
  go_wp2_with fail
  ((with_reducible refine (HO.out _).mono ?_); rintro e w1 ⟨rfl, b1⟩)
  have t1 : w1.cell? ⟨g, 0, none⟩ = some (.string s) := ((bcell b1).1 g 0 gT).trans t0
  have gT1 : g < w1.heap.size := by have := b1.size; omega
  have b01 := on_of HB.out b1
  have HB1 := Lib.hid b01
  have HS := Lib.hid (fun (W : World) (hb : Below w1.heap.size w1 W) => (show W.cell? ⟨g, 0, none⟩ = some (.string s) from ((bcell hb).1 g 0 gT1).trans t1))
  clear t0 t1 b1 b01
  go_upto_region 8 with (fail)
  refine wp_region_held_drew (S := fun W => W.cell? ⟨g, 0, none⟩ = some (.string s)) (by kernel_rfl) (HS.out _ (by go_grown)) (fun hHeld => ?_)
  refine wpAnyH_take (i := 1) (oi := _) (v := ?_) rfl (by kernel_rfl) (by kernel_rfl) (by kernel_rfl) (fun _ _ _ h => h) (Or.inl ⟨by rfl, ?_⟩) (by assumption) ?_
  rotate_left
  · (intro w hSw; (try dsimp only at hSw); go_simp; try with_reducible rfl)
  try simp only [Act.put, List.setIfInBounds_toArray, List.set_cons_zero, List.set_cons_succ]
  refine wpAnyH_take (i := 2) (oi := _) (v := ?_) rfl (by kernel_rfl) (by kernel_rfl) (by kernel_rfl) (fun _ _ _ h => h) (Or.inl ⟨by rfl, ?_⟩) (by assumption) ?_
  rotate_left
  · (intro w hSw; (try dsimp only at hSw); go_simp; try with_reducible rfl)
  try simp only [Act.put, List.setIfInBounds_toArray, List.set_cons_zero, List.set_cons_succ]
  refine wpAnyH_ready (rs := [0, 7]) (by kernel_rfl) (by simp) ?_
  refine AllReadyH.cons (o := _) rfl (fun KK hKK => ?_) ?_
  · (go_simp; go_at_call 87; (with_reducible refine (otab_impl _).mono ?_); rintro e w5 ⟨rfl, h5⟩; have q5 := (show Below w1.heap.size w1 w5 from (by rw [h5]; go_grown)); (first | (have hm5 := (show w5.heap[w1.heap.size]? = some (Obj.map otab 12) from (by have := mapobj_at h5; simpa using this))) | (have hm5 := (show w5.heap[w1.heap.size + 1]? = some (Obj.map otab 12) from (by have := mapobj_at h5; simpa using this)))); (try (have zz := zero_at h5; obtain ⟨z0, z1, zf⟩ := zz)); have hl1 := hl _ _ hm5; have hl2 := hl _ _ (alloc_at hm5 (.cells #[.int .i64 0, .nilFunc] 128)); have H5 := Lib.hid q5; clear h5 q5 hm5)
    try go_wp2_with fail
    refine hKK.out _ _ ?_ (fun hHeld2 => ?_)
    · (try dsimp only); first | exact HS.out _ H5.out | exact HS.out _ (H5.out.alloc H5.out.size _) | exact HS.out _ ((H5.out.setCell (p := ⟨w1.heap.size, 0, none⟩) (Nat.le_refl _) _).setCell (p := ⟨w1.heap.size, 1, none⟩) (Nat.le_refl _) _) | (refine HS.out _ ?_; go_grown; done)
    refine wpAnyH_ready (rs := [3, 7]) (by kernel_rfl) (by simp) ?_
    refine AllReadyH.cons (o := _) rfl (fun KK hKK => ?_) ?_
    · go_simp
      try go_wp2_with fail
      refine hKK.out _ _ ?_ (fun hHeld2 => ?_)
      · (try dsimp only); first | exact HS.out _ H5.out | exact HS.out _ (H5.out.alloc H5.out.size _) | exact HS.out _ ((H5.out.setCell (p := ⟨w1.heap.size, 0, none⟩) (Nat.le_refl _) _).setCell (p := ⟨w1.heap.size, 1, none⟩) (Nat.le_refl _) _) | (refine HS.out _ ?_; go_grown; done)
      refine wpAnyH_take (i := 4) (oi := _) (v := ?_) rfl (by kernel_rfl) (by kernel_rfl) (by kernel_rfl) (fun _ _ _ h => h) (Or.inl ⟨by rfl, ?_⟩) (by assumption) ?_
      rotate_left
      · (intro w hSw; (try dsimp only at hSw); go_simp; try with_reducible rfl)
      try simp only [Act.put, List.setIfInBounds_toArray, List.set_cons_zero, List.set_cons_succ]
      refine wpAnyH_take (i := 5) (oi := _) (v := ?_) rfl (by kernel_rfl) (by kernel_rfl) (by kernel_rfl) (fun _ _ _ h => h) (Or.inl ⟨by rfl, ?_⟩) (by assumption) ?_
      rotate_left
      · (intro w hSw; (try dsimp only at hSw); go_simp; try with_reducible rfl)
      try simp only [Act.put, List.setIfInBounds_toArray, List.set_cons_zero, List.set_cons_succ]
      refine wpAnyH_take (i := 6) (oi := _) (v := ?_) rfl (by kernel_rfl) (by kernel_rfl) (by kernel_rfl) (fun _ _ _ h => h) (Or.inl ⟨by rfl, ?_⟩) (by assumption) ?_
      rotate_left
      · (intro w hSw; (try dsimp only at hSw); go_simp; try with_reducible rfl)
      try simp only [Act.put, List.setIfInBounds_toArray, List.set_cons_zero, List.set_cons_succ]
      refine wpAnyH_ready (rs := [7]) (by kernel_rfl) (by simp) ?_
      refine AllReadyH.cons (o := _) rfl (fun KK hKK => ?_) AllReadyH.nil
      go_simp
      try go_wp2_with fail
      refine hKK.out _ _ ?_ (fun hHeld2 => ?_)
      · (try dsimp only); first | exact HS.out _ H5.out | exact HS.out _ (H5.out.alloc H5.out.size _) | exact HS.out _ ((H5.out.setCell (p := ⟨w1.heap.size, 0, none⟩) (Nat.le_refl _) _).setCell (p := ⟨w1.heap.size, 1, none⟩) (Nat.le_refl _) _) | (refine HS.out _ ?_; go_grown; done)
      refine wpAnyH_ready (rs := [8]) (by kernel_rfl) (by simp) ?_
      refine AllReadyH.cons (o := _) rfl (fun KK hKK => ?_) AllReadyH.nil
      go_simp
      try go_wp2_with fail
      refine hKK.out _ _ ?_ (fun hHeld2 => ?_)
      · (try dsimp only); first | exact HS.out _ H5.out | exact HS.out _ (H5.out.alloc H5.out.size _) | exact HS.out _ ((H5.out.setCell (p := ⟨w1.heap.size, 0, none⟩) (Nat.le_refl _) _).setCell (p := ⟨w1.heap.size, 1, none⟩) (Nat.le_refl _) _) | (refine HS.out _ ?_; go_grown; done)
      refine wpAnyH_take (i := 9) (oi := _) (v := ?_) rfl (by kernel_rfl) (by kernel_rfl) (by kernel_rfl) (fun _ _ _ h => h) (Or.inl ⟨by rfl, ?_⟩) (by assumption) ?_
      rotate_left
      · (intro w hSw; (try dsimp only at hSw); go_simp; try with_reducible rfl)
      try simp only [Act.put, List.setIfInBounds_toArray, List.set_cons_zero, List.set_cons_succ]
      refine wpAnyH_done (by kernel_rfl) ?_ _
      first
        | (refine gen_any (fun W => Below w.heap.size w W ∧ w5.heap.size < W.heap.size ∧ w.heap.size ≤ w5.heap.size ∧ W.cell? ⟨w5.heap.size, 0, none⟩ = some (.int .i64 (kk : Nat)) ∧ W.cell? ⟨w5.heap.size, 1, none⟩ = some (.func (.func fid) #[] #[])) ⟨on_of HB1.out (H5.out.alloc H5.out.size _), by simp, (by have := HB1.out.size; have := H5.out.size; omega), by simp [go_sem], by simp [go_sem]⟩ ?_; obtain ⟨g6, hg6⟩ : ∃ x, w5.heap.size = x := ⟨_, rfl⟩; rw [hg6]; clear hg6)
        | (refine gen_any (fun W => Below w.heap.size w W ∧ w1.heap.size < W.heap.size ∧ w.heap.size ≤ w1.heap.size ∧ W.cell? ⟨w1.heap.size, 0, none⟩ = some (.int .i64 (kk : Nat)) ∧ W.cell? ⟨w1.heap.size, 1, none⟩ = some (.func (.func fid) #[] #[])) ⟨on_of HB1.out ((H5.out.setCell (p := ⟨w1.heap.size, 0, none⟩) (Nat.le_refl _) _).setCell (p := ⟨w1.heap.size, 1, none⟩) (Nat.le_refl _) _), (by have := blk_lt z0; simpa using this), HB1.out.size, by simp [go_sem, z0, z1, zf], by simp [go_sem, z0, z1, zf]⟩ ?_; obtain ⟨g6, hg6⟩ : ∃ x, w1.heap.size = x := ⟨_, rfl⟩; rw [hg6]; clear hg6)
      rintro W9 ⟨b9, g6lt, g6ge, c0, c1⟩
      have g6X : g6 ≠ X := by omega
      obtain ⟨k0, fz⟩ := HK.out W9 b9
      have HB9 := Lib.hid b9
      have HC1 := Lib.hid c1
      clear b9 c1
      go_upto_region 12 with (fail)
      go_region_law (go_simp; go_at_call 88; (with_reducible refine (HT.out _ (by have := HB9.out; go_grown)).mono ?_); rintro e w6 ⟨a1, k1, d1, a2, k2, d2, rfl, b69, b6, q6⟩; have HC6 := Lib.hid ((set_ne2 (v := .slice a1 k1 d1) (o := 0) g6X).trans ((cell_onX b69 g6lt).trans HC1.out)); clear b69; obtain ⟨j0, fj⟩ := HK.out w6 b6; have HQ := Lib.hid q6; have HB6 := Lib.hid b6; clear q6 b6)
      all_goals
        have q := HQ.out
        have c6 := HC6.out
        unfold TkQ at q
        simp only [Act.put]
        generalize (w6.setCell ⟨X, 0, none⟩ (.slice a1 k1 d1)) = V at q c6 ⊢
        clear HQ HC6 j0 fj k0 fz c0
        cases v
        · have HR := Lib.hid (show OpRes B X r w (.returned (.bool false)) V from ⟨by rw [← HRr.out]; rfl, q.1, fun P' hP => by rw [← HRr.out] at hP; cases hP⟩)
          clear q
          go_wp2
          go_ret
          exact HR.out
        · have q2 := q.2 rfl
          have hcc := HC.out V w.heap.size q2.1 (by have := q.1.size; omega) (.slice a2 k2 d2) _ w.heap.size q2.2.1 q2.2.2 (fun i hi => HX.out _ (by have := HKN.out rfl; omega))
          have hc2 := hcall V (.pointer (some ⟨X, 0, none⟩)) (.slice a2 k2 d2)
          rw [show opM k (stkM P (lst Y (n - kk))) (fun i => Y (n - kk + i)) = r from by rw [← HRr.out]; rfl] at hcc
          have HF := Lib.hid (And.intro hcc q.1)
          clear q q2 hcc hcall
          go_wp2_with fail
          ((with_reducible refine (HF.out.1).mono ?_); rintro e w7 ⟨rfl, bb, pp⟩)
          have HR := Lib.hid (OpRes.from (e := .returned (.bool r.isSome)) ⟨rfl, bb, pp⟩ HF.out.2)
          clear bb pp
          go_wp2
          go_ret
          exact HR.out
    refine AllReadyH.cons (o := _) rfl (fun KK hKK => ?_) AllReadyH.nil
    go_simp
    try go_wp2_with fail
    refine hKK.out _ _ ?_ (fun hHeld2 => ?_)
    · (try dsimp only); first | exact HS.out _ H5.out | exact HS.out _ (H5.out.alloc H5.out.size _) | exact HS.out _ ((H5.out.setCell (p := ⟨w1.heap.size, 0, none⟩) (Nat.le_refl _) _).setCell (p := ⟨w1.heap.size, 1, none⟩) (Nat.le_refl _) _) | (refine HS.out _ ?_; go_grown; done)
    refine wpAnyH_ready (rs := [3]) (by kernel_rfl) (by simp) ?_
    refine AllReadyH.cons (o := _) rfl (fun KK hKK => ?_) AllReadyH.nil
    go_simp
    try go_wp2_with fail
    refine hKK.out _ _ ?_ (fun hHeld2 => ?_)
    · (try dsimp only); first | exact HS.out _ H5.out | exact HS.out _ (H5.out.alloc H5.out.size _) | exact HS.out _ ((H5.out.setCell (p := ⟨w1.heap.size, 0, none⟩) (Nat.le_refl _) _).setCell (p := ⟨w1.heap.size, 1, none⟩) (Nat.le_refl _) _) | (refine HS.out _ ?_; go_grown; done)
    refine wpAnyH_take (i := 4) (oi := _) (v := ?_) rfl (by kernel_rfl) (by kernel_rfl) (by kernel_rfl) (fun _ _ _ h => h) (Or.inl ⟨by rfl, ?_⟩) (by assumption) ?_
    rotate_left
    · (intro w hSw; (try dsimp only at hSw); go_simp; try with_reducible rfl)
    try simp only [Act.put, List.setIfInBounds_toArray, List.set_cons_zero, List.set_cons_succ]
    refine wpAnyH_take (i := 5) (oi := _) (v := ?_) rfl (by kernel_rfl) (by kernel_rfl) (by kernel_rfl) (fun _ _ _ h => h) (Or.inl ⟨by rfl, ?_⟩) (by assumption) ?_
    rotate_left
    · (intro w hSw; (try dsimp only at hSw); go_simp; try with_reducible rfl)
    try simp only [Act.put, List.setIfInBounds_toArray, List.set_cons_zero, List.set_cons_succ]
    refine wpAnyH_take (i := 6) (oi := _) (v := ?_) rfl (by kernel_rfl) (by kernel_rfl) (by kernel_rfl) (fun _ _ _ h => h) (Or.inl ⟨by rfl, ?_⟩) (by assumption) ?_
    rotate_left
    · (intro w hSw; (try dsimp only at hSw); go_simp; try with_reducible rfl)
    try simp only [Act.put, List.setIfInBounds_toArray, List.set_cons_zero, List.set_cons_succ]
    refine wpAnyH_ready (rs := [8]) (by kernel_rfl) (by simp) ?_
    refine AllReadyH.cons (o := _) rfl (fun KK hKK => ?_) AllReadyH.nil
    go_simp
    try go_wp2_with fail
    refine hKK.out _ _ ?_ (fun hHeld2 => ?_)
    · (try dsimp only); first | exact HS.out _ H5.out | exact HS.out _ (H5.out.alloc H5.out.size _) | exact HS.out _ ((H5.out.setCell (p := ⟨w1.heap.size, 0, none⟩) (Nat.le_refl _) _).setCell (p := ⟨w1.heap.size, 1, none⟩) (Nat.le_refl _) _) | (refine HS.out _ ?_; go_grown; done)
    refine wpAnyH_take (i := 9) (oi := _) (v := ?_) rfl (by kernel_rfl) (by kernel_rfl) (by kernel_rfl) (fun _ _ _ h => h) (Or.inl ⟨by rfl, ?_⟩) (by assumption) ?_
    rotate_left
    · (intro w hSw; (try dsimp only at hSw); go_simp; try with_reducible rfl)
    try simp only [Act.put, List.setIfInBounds_toArray, List.set_cons_zero, List.set_cons_succ]
    refine wpAnyH_done (by kernel_rfl) ?_ _
    first
      | (refine gen_any (fun W => Below w.heap.size w W ∧ w5.heap.size < W.heap.size ∧ w.heap.size ≤ w5.heap.size ∧ W.cell? ⟨w5.heap.size, 0, none⟩ = some (.int .i64 (kk : Nat)) ∧ W.cell? ⟨w5.heap.size, 1, none⟩ = some (.func (.func fid) #[] #[])) ⟨on_of HB1.out (H5.out.alloc H5.out.size _), by simp, (by have := HB1.out.size; have := H5.out.size; omega), by simp [go_sem], by simp [go_sem]⟩ ?_; obtain ⟨g6, hg6⟩ : ∃ x, w5.heap.size = x := ⟨_, rfl⟩; rw [hg6]; clear hg6)
      | (refine gen_any (fun W => Below w.heap.size w W ∧ w1.heap.size < W.heap.size ∧ w.heap.size ≤ w1.heap.size ∧ W.cell? ⟨w1.heap.size, 0, none⟩ = some (.int .i64 (kk : Nat)) ∧ W.cell? ⟨w1.heap.size, 1, none⟩ = some (.func (.func fid) #[] #[])) ⟨on_of HB1.out ((H5.out.setCell (p := ⟨w1.heap.size, 0, none⟩) (Nat.le_refl _) _).setCell (p := ⟨w1.heap.size, 1, none⟩) (Nat.le_refl _) _), (by have := blk_lt z0; simpa using this), HB1.out.size, by simp [go_sem, z0, z1, zf], by simp [go_sem, z0, z1, zf]⟩ ?_; obtain ⟨g6, hg6⟩ : ∃ x, w1.heap.size = x := ⟨_, rfl⟩; rw [hg6]; clear hg6)
    rintro W9 ⟨b9, g6lt, g6ge, c0, c1⟩
    have g6X : g6 ≠ X := by omega
    obtain ⟨k0, fz⟩ := HK.out W9 b9
    have HB9 := Lib.hid b9
    have HC1 := Lib.hid c1
    clear b9 c1
    go_upto_region 12 with (fail)
    go_region_law (go_simp; go_at_call 88; (with_reducible refine (HT.out _ (by have := HB9.out; go_grown)).mono ?_); rintro e w6 ⟨a1, k1, d1, a2, k2, d2, rfl, b69, b6, q6⟩; have HC6 := Lib.hid ((set_ne2 (v := .slice a1 k1 d1) (o := 0) g6X).trans ((cell_onX b69 g6lt).trans HC1.out)); clear b69; obtain ⟨j0, fj⟩ := HK.out w6 b6; have HQ := Lib.hid q6; have HB6 := Lib.hid b6; clear q6 b6)
    all_goals
      have q := HQ.out
      have c6 := HC6.out
      unfold TkQ at q
      simp only [Act.put]
      generalize (w6.setCell ⟨X, 0, none⟩ (.slice a1 k1 d1)) = V at q c6 ⊢
      clear HQ HC6 j0 fj k0 fz c0
      cases v
      · have HR := Lib.hid (show OpRes B X r w (.returned (.bool false)) V from ⟨by rw [← HRr.out]; rfl, q.1, fun P' hP => by rw [← HRr.out] at hP; cases hP⟩)
        clear q
        go_wp2
        go_ret
        exact HR.out
      · have q2 := q.2 rfl
        have hcc := HC.out V w.heap.size q2.1 (by have := q.1.size; omega) (.slice a2 k2 d2) _ w.heap.size q2.2.1 q2.2.2 (fun i hi => HX.out _ (by have := HKN.out rfl; omega))
        have hc2 := hcall V (.pointer (some ⟨X, 0, none⟩)) (.slice a2 k2 d2)
        rw [show opM k (stkM P (lst Y (n - kk))) (fun i => Y (n - kk + i)) = r from by rw [← HRr.out]; rfl] at hcc
        have HF := Lib.hid (And.intro hcc q.1)
        clear q q2 hcc hcall
        go_wp2_with fail
        ((with_reducible refine (HF.out.1).mono ?_); rintro e w7 ⟨rfl, bb, pp⟩)
        have HR := Lib.hid (OpRes.from (e := .returned (.bool r.isSome)) ⟨rfl, bb, pp⟩ HF.out.2)
        clear bb pp
        go_wp2
        go_ret
        exact HR.out
  refine AllReadyH.cons (o := _) rfl (fun KK hKK => ?_) AllReadyH.nil
  go_simp
  try go_wp2_with fail
  refine hKK.out _ _ ?_ (fun hHeld2 => ?_)
  · (try dsimp only); first | exact HS.out _ H5.out | exact HS.out _ (H5.out.alloc H5.out.size _) | exact HS.out _ ((H5.out.setCell (p := ⟨w1.heap.size, 0, none⟩) (Nat.le_refl _) _).setCell (p := ⟨w1.heap.size, 1, none⟩) (Nat.le_refl _) _) | (refine HS.out _ ?_; go_grown; done)
  refine wpAnyH_ready (rs := [0]) (by kernel_rfl) (by simp) ?_
  refine AllReadyH.cons (o := _) rfl (fun KK hKK => ?_) AllReadyH.nil
  (go_simp; go_at_call 87; (with_reducible refine (otab_impl _).mono ?_); rintro e w5 ⟨rfl, h5⟩; have q5 := (show Below w1.heap.size w1 w5 from (by rw [h5]; go_grown)); (first | (have hm5 := (show w5.heap[w1.heap.size]? = some (Obj.map otab 12) from (by have := mapobj_at h5; simpa using this))) | (have hm5 := (show w5.heap[w1.heap.size + 1]? = some (Obj.map otab 12) from (by have := mapobj_at h5; simpa using this)))); (try (have zz := zero_at h5; obtain ⟨z0, z1, zf⟩ := zz)); have hl1 := hl _ _ hm5; have hl2 := hl _ _ (alloc_at hm5 (.cells #[.int .i64 0, .nilFunc] 128)); have H5 := Lib.hid q5; clear h5 q5 hm5)
  try go_wp2_with fail
  refine hKK.out _ _ ?_ (fun hHeld2 => ?_)
  · (try dsimp only); first | exact HS.out _ H5.out | exact HS.out _ (H5.out.alloc H5.out.size _) | exact HS.out _ ((H5.out.setCell (p := ⟨w1.heap.size, 0, none⟩) (Nat.le_refl _) _).setCell (p := ⟨w1.heap.size, 1, none⟩) (Nat.le_refl _) _) | (refine HS.out _ ?_; go_grown; done)
  refine wpAnyH_ready (rs := [3]) (by kernel_rfl) (by simp) ?_
  refine AllReadyH.cons (o := _) rfl (fun KK hKK => ?_) AllReadyH.nil
  go_simp
  try go_wp2_with fail
  refine hKK.out _ _ ?_ (fun hHeld2 => ?_)
  · (try dsimp only); first | exact HS.out _ H5.out | exact HS.out _ (H5.out.alloc H5.out.size _) | exact HS.out _ ((H5.out.setCell (p := ⟨w1.heap.size, 0, none⟩) (Nat.le_refl _) _).setCell (p := ⟨w1.heap.size, 1, none⟩) (Nat.le_refl _) _) | (refine HS.out _ ?_; go_grown; done)
  refine wpAnyH_take (i := 4) (oi := _) (v := ?_) rfl (by kernel_rfl) (by kernel_rfl) (by kernel_rfl) (fun _ _ _ h => h) (Or.inl ⟨by rfl, ?_⟩) (by assumption) ?_
  rotate_left
  · (intro w hSw; (try dsimp only at hSw); go_simp; try with_reducible rfl)
  try simp only [Act.put, List.setIfInBounds_toArray, List.set_cons_zero, List.set_cons_succ]
  refine wpAnyH_take (i := 5) (oi := _) (v := ?_) rfl (by kernel_rfl) (by kernel_rfl) (by kernel_rfl) (fun _ _ _ h => h) (Or.inl ⟨by rfl, ?_⟩) (by assumption) ?_
  rotate_left
  · (intro w hSw; (try dsimp only at hSw); go_simp; try with_reducible rfl)
  try simp only [Act.put, List.setIfInBounds_toArray, List.set_cons_zero, List.set_cons_succ]
  refine wpAnyH_take (i := 6) (oi := _) (v := ?_) rfl (by kernel_rfl) (by kernel_rfl) (by kernel_rfl) (fun _ _ _ h => h) (Or.inl ⟨by rfl, ?_⟩) (by assumption) ?_
  rotate_left
  · (intro w hSw; (try dsimp only at hSw); go_simp; try with_reducible rfl)
  try simp only [Act.put, List.setIfInBounds_toArray, List.set_cons_zero, List.set_cons_succ]
  refine wpAnyH_ready (rs := [8]) (by kernel_rfl) (by simp) ?_
  refine AllReadyH.cons (o := _) rfl (fun KK hKK => ?_) AllReadyH.nil
  go_simp
  try go_wp2_with fail
  refine hKK.out _ _ ?_ (fun hHeld2 => ?_)
  · (try dsimp only); first | exact HS.out _ H5.out | exact HS.out _ (H5.out.alloc H5.out.size _) | exact HS.out _ ((H5.out.setCell (p := ⟨w1.heap.size, 0, none⟩) (Nat.le_refl _) _).setCell (p := ⟨w1.heap.size, 1, none⟩) (Nat.le_refl _) _) | (refine HS.out _ ?_; go_grown; done)
  refine wpAnyH_take (i := 9) (oi := _) (v := ?_) rfl (by kernel_rfl) (by kernel_rfl) (by kernel_rfl) (fun _ _ _ h => h) (Or.inl ⟨by rfl, ?_⟩) (by assumption) ?_
  rotate_left
  · (intro w hSw; (try dsimp only at hSw); go_simp; try with_reducible rfl)
  try simp only [Act.put, List.setIfInBounds_toArray, List.set_cons_zero, List.set_cons_succ]
  refine wpAnyH_done (by kernel_rfl) ?_ _
  first
    | (refine gen_any (fun W => Below w.heap.size w W ∧ w5.heap.size < W.heap.size ∧ w.heap.size ≤ w5.heap.size ∧ W.cell? ⟨w5.heap.size, 0, none⟩ = some (.int .i64 (kk : Nat)) ∧ W.cell? ⟨w5.heap.size, 1, none⟩ = some (.func (.func fid) #[] #[])) ⟨on_of HB1.out (H5.out.alloc H5.out.size _), by simp, (by have := HB1.out.size; have := H5.out.size; omega), by simp [go_sem], by simp [go_sem]⟩ ?_; obtain ⟨g6, hg6⟩ : ∃ x, w5.heap.size = x := ⟨_, rfl⟩; rw [hg6]; clear hg6)
    | (refine gen_any (fun W => Below w.heap.size w W ∧ w1.heap.size < W.heap.size ∧ w.heap.size ≤ w1.heap.size ∧ W.cell? ⟨w1.heap.size, 0, none⟩ = some (.int .i64 (kk : Nat)) ∧ W.cell? ⟨w1.heap.size, 1, none⟩ = some (.func (.func fid) #[] #[])) ⟨on_of HB1.out ((H5.out.setCell (p := ⟨w1.heap.size, 0, none⟩) (Nat.le_refl _) _).setCell (p := ⟨w1.heap.size, 1, none⟩) (Nat.le_refl _) _), (by have := blk_lt z0; simpa using this), HB1.out.size, by simp [go_sem, z0, z1, zf], by simp [go_sem, z0, z1, zf]⟩ ?_; obtain ⟨g6, hg6⟩ : ∃ x, w1.heap.size = x := ⟨_, rfl⟩; rw [hg6]; clear hg6)
  rintro W9 ⟨b9, g6lt, g6ge, c0, c1⟩
  have g6X : g6 ≠ X := by omega
  obtain ⟨k0, fz⟩ := HK.out W9 b9
  have HB9 := Lib.hid b9
  have HC1 := Lib.hid c1
  clear b9 c1
  go_upto_region 12 with (fail)
  go_region_law (go_simp; go_at_call 88; (with_reducible refine (HT.out _ (by have := HB9.out; go_grown)).mono ?_); rintro e w6 ⟨a1, k1, d1, a2, k2, d2, rfl, b69, b6, q6⟩; have HC6 := Lib.hid ((set_ne2 (v := .slice a1 k1 d1) (o := 0) g6X).trans ((cell_onX b69 g6lt).trans HC1.out)); clear b69; obtain ⟨j0, fj⟩ := HK.out w6 b6; have HQ := Lib.hid q6; have HB6 := Lib.hid b6; clear q6 b6)
  all_goals
    have q := HQ.out
    have c6 := HC6.out
    unfold TkQ at q
    simp only [Act.put]
    generalize (w6.setCell ⟨X, 0, none⟩ (.slice a1 k1 d1)) = V at q c6 ⊢
    clear HQ HC6 j0 fj k0 fz c0
    cases v
    · have HR := Lib.hid (show OpRes B X r w (.returned (.bool false)) V from ⟨by rw [← HRr.out]; rfl, q.1, fun P' hP => by rw [← HRr.out] at hP; cases hP⟩)
      clear q
      go_wp2
      go_ret
      exact HR.out
    · have q2 := q.2 rfl
      have hcc := HC.out V w.heap.size q2.1 (by have := q.1.size; omega) (.slice a2 k2 d2) _ w.heap.size q2.2.1 q2.2.2 (fun i hi => HX.out _ (by have := HKN.out rfl; omega))
      have hc2 := hcall V (.pointer (some ⟨X, 0, none⟩)) (.slice a2 k2 d2)
      rw [show opM k (stkM P (lst Y (n - kk))) (fun i => Y (n - kk + i)) = r from by rw [← HRr.out]; rfl] at hcc
      have HF := Lib.hid (And.intro hcc q.1)
      clear q q2 hcc hcall
      go_wp2_with fail
      ((with_reducible refine (HF.out.1).mono ?_); rintro e w7 ⟨rfl, bb, pp⟩)
      have HR := Lib.hid (OpRes.from (e := .returned (.bool r.isSome)) ⟨rfl, bb, pp⟩ HF.out.2)
      clear bb pp
      go_wp2
      go_ret
      exact HR.out
end Go.Proofs.YtjmfgbbngocodaaGreat.Own

namespace Go.Proofs.YtjmfgbbngocodaaGreat.Own
open Go.ChangeShapes Go.WideShapes Go.ChangeAt Go.RowKit
open Kit Slabs Ints Stack Point Turn Join Pts Box Push Take Opn SOp Scan
set_option linter.unusedVariables false
set_option linter.unusedSimpArgs false
set_option linter.unnecessarySimpa false
set_option maxRecDepth 100000
def exP (P : Pg) (s : ByteArray) (m : Int) : Option Pg :=
  if s.toList.isEmpty = true then (if puB (xI P.now.st) P.now.st.length m = true then some (stkM P (lst (pt (xI P.now.st) P.now.st.length m) (P.now.st.length + 1))) else none)
  else if opB s = true then (if soB (xI P.now.st) P.now.st.length s = true then some (stkM P (lst (soY (xI P.now.st) P.now.st.length s) (soM (xI P.now.st) P.now.st.length s))) else none)
  else match opN s with
    | none => none
    | some k => if taB (xI P.now.st) P.now.st.length (opK k : Nat) = true then opM k (stkM P (lst (xI P.now.st) (P.now.st.length - opK k))) (fun i => xI P.now.st (P.now.st.length - opK k + i)) else none
theorem ex_impl {w : World} {B X : Nat} {P : Pg} (h : PgAt w B X P) (hB : B ≤ w.heap.size) (hX : B ≤ X) (hp : pgB P = true) (s : ByteArray) (m : Int) (hz : s.size ≤ 1048576) :
    Calls Tryz.prog 39 #[.pointer (some ⟨X, 0, none⟩), .agg #[.string s, .int .i64 m]] w (OpRes B X (exP P s m) w) := by
  obtain ⟨hf, hst⟩ := fit_of hp
  unfold exP
  cases hs : s.toList.isEmpty
  · cases ho : opB s
    · cases hk : opN s with
      | none => exact ex_none h hB hX hst s m hs hz ho hk
      | some k => exact ex_op h hB hX hst hf s m hs hz ho k hk _ rfl
    · exact ex_so h hB hX hst s m hs hz ho
  · exact ex_push h hB hX hst s m hs
structure PgLen (P : Pg) (a b c d : Nat) : Prop where
  st : P.now.st.length ≤ a
  path : P.now.path.length ≤ b
  saved : P.saved.length ≤ c
  sv : ∀ g ∈ P.saved, g.st.length ≤ a ∧ g.path.length ≤ b
  objs : P.objs.length ≤ d
  ob : ∀ o ∈ P.objs, o.path.length ≤ b
theorem bulk_gr (g : Gr) : bulkL g.dt = g.st.length + g.path.length := by
  simp only [Gr.dt, bulkL, Dt.bulk, bulk_dI, bulk_dP, len_dI, len_dP]; omega
theorem bulk_ob (o : Ob) : bulkL o.dt = o.path.length := by
  simp only [Ob.dt, bulkL, Dt.bulk, bulk_dP, len_dP]; omega
theorem bulk_grs {a b : Nat} : ∀ {l : List Gr}, (∀ g ∈ l, g.st.length ≤ a ∧ g.path.length ≤ b) → bulkL (dG l) ≤ l.length * (a + b)
  | [], _ => by simp [dG, dO, bulkL]
  | g :: r, h => by
    have := bulk_grs (l := r) (fun x hx => h x (List.mem_cons_of_mem _ hx))
    have h1 := h g List.mem_cons_self
    have e := bulk_gr g
    simp only [dG, List.map_cons, bulkL, Dt.bulk, List.length_cons, Nat.succ_mul] at *
    omega
theorem bulk_obs {b : Nat} : ∀ {l : List Ob}, (∀ g ∈ l, g.path.length ≤ b) → bulkL (dO l) ≤ l.length * b
  | [], _ => by simp [dG, dO, bulkL]
  | g :: r, h => by
    have := bulk_obs (l := r) (fun x hx => h x (List.mem_cons_of_mem _ hx))
    have h1 := h g List.mem_cons_self
    have e := bulk_ob g
    simp only [dO, List.map_cons, bulkL, Dt.bulk, List.length_cons, Nat.succ_mul] at *
    omega
theorem PgLen.bulk {P : Pg} {a b c d : Nat} (h : PgLen P a b c d) (ha : a ≤ 100) (hb : b ≤ 100) (hc : c ≤ 100) (hd : d ≤ 100) : bulkL P.dt ≤ 1048576 := by
  have h1 := bulk_grs h.sv
  have h2 := bulk_obs h.ob
  have h3 : P.saved.length * (a + b) ≤ 100 * 200 := Nat.mul_le_mul (by have := h.saved; omega) (by omega)
  have h4 : P.objs.length * b ≤ 100 * 100 := Nat.mul_le_mul (by have := h.objs; omega) (by omega)
  have h5 := bulk_gr P.now
  have := h.st; have := h.path; have := h.saved; have := h.objs
  simp only [Pg.dt, bulkL_app, bulkL, Dt.bulk, len_dG, len_dO]
  omega
theorem PgLen.up {P : Pg} {a b c d a' b' c' d' : Nat} (h : PgLen P a b c d) (ha : a ≤ a') (hb : b ≤ b') (hc : c ≤ c') (hd : d ≤ d') : PgLen P a' b' c' d' :=
  ⟨Nat.le_trans h.st ha, Nat.le_trans h.path hb, Nat.le_trans h.saved hc, fun g hg => ⟨Nat.le_trans (h.sv g hg).1 ha, Nat.le_trans (h.sv g hg).2 hb⟩, Nat.le_trans h.objs hd, fun o ho => Nat.le_trans (h.ob o ho) hb⟩
theorem gr_len {g : Gr} (h : grB g = true) : g.st.length ≤ 12 ∧ g.path.length ≤ 8 := by
  simp only [grB, pathB, stB, Bool.and_eq_true, decide_eq_true_eq] at h
  exact ⟨h.1.1.1.1.1, h.1.2.1⟩
theorem len_of {P : Pg} (h : pgB P = true) : PgLen P 12 8 4 12 := by
  simp only [pgB, Bool.and_eq_true, decide_eq_true_eq, List.all_eq_true] at h
  obtain ⟨⟨⟨⟨h1, h2⟩, h3⟩, h4⟩, h5⟩ := h
  refine ⟨(gr_len h1).1, (gr_len h1).2, h2, fun g hg => gr_len (h4 g hg), h3, fun o ho => ?_⟩
  have := h5 o ho
  simp only [obB, pathB, Bool.and_eq_true, decide_eq_true_eq] at this
  exact this.1.1.2.1
theorem len_stk {P : Pg} {a b c d : Nat} (h : PgLen P 12 b c d) {l : List Int} (hl : l.length ≤ a) (ha : 12 ≤ a) : PgLen (stkM P l) a b c d :=
  ⟨hl, h.path, h.saved, fun g hg => ⟨Nat.le_trans (h.sv g hg).1 ha, (h.sv g hg).2⟩, h.objs, h.ob⟩
theorem opM_len {P P' : Pg} (h : PgLen P 12 8 4 12) {k : Nat} {x : Nat → Int} (e : opM k P x = some P') : PgLen P' 13 9 5 13 := by
  have u := h.up (a' := 13) (b' := 9) (c' := 5) (d' := 13) (by omega) (by omega) (by omega) (by omega)
  have np : ∀ l : List (Int × Int), l.length ≤ 9 → PgLen (setPath P l) 13 9 5 13 := fun l hl => ⟨u.st, hl, u.saved, u.sv, u.objs, u.ob⟩
  unfold opM at e
  split at e
  · injection e with e; subst e; exact np _ (by simp)
  · injection e with e; subst e; exact np _ (by simp)
  · split at e
    · cases e
    · injection e with e; subst e; exact np _ (by have := h.path; simp; omega)
  · split at e
    · injection e with e; subst e; exact np _ (by simp [rctL])
    · cases e
  · injection e with e; subst e
    refine ⟨u.st, by simp [filM], u.saved, u.sv, by have := h.objs; simp [filM]; omega, fun o ho => ?_⟩
    simp only [filM, List.mem_append, List.mem_singleton] at ho
    rcases ho with ho | rfl
    · exact u.ob o ho
    · exact u.path
  · injection e with e; subst e; exact ⟨u.st, u.path, u.saved, u.sv, u.objs, u.ob⟩
  · split at e
    · cases e
    · injection e with e; subst e; exact ⟨u.st, by simp [cliM], u.saved, u.sv, u.objs, u.ob⟩
  · injection e with e; subst e
    refine ⟨u.st, u.path, by have := h.saved; simp [savM]; omega, fun g hg => ?_, u.objs, u.ob⟩
    simp only [savM, List.mem_append, List.mem_singleton] at hg
    rcases hg with hg | rfl
    · exact u.sv g hg
    · exact ⟨u.st, u.path⟩
  · unfold resO at e
    cases hg : P.saved.getLast? with
    | none => rw [hg] at e; cases e
    | some g =>
      rw [hg] at e
      injection e with e; subst e
      refine ⟨u.st, (u.sv g (List.mem_of_getLast? hg)).2, by have := u.saved; simp [resM]; omega, fun g hg => u.sv g (List.dropLast_subset _ hg), u.objs, u.ob⟩
  · split at e
    · injection e with e; subst e; exact ⟨u.st, u.path, u.saved, u.sv, u.objs, u.ob⟩
    · cases e
  · split at e
    · injection e with e; subst e; exact ⟨u.st, u.path, u.saved, u.sv, u.objs, u.ob⟩
    · cases e
  · split at e
    · injection e with e; subst e; exact ⟨u.st, u.path, u.saved, u.sv, u.objs, u.ob⟩
    · cases e
theorem exP_len {P P' : Pg} (h : pgB P = true) {s : ByteArray} {m : Int} (e : exP P s m = some P') : PgLen P' 13 9 5 13 := by
  have hl := len_of h
  have hst := hl.st
  have up : ∀ {P : Pg}, PgLen P 13 8 4 12 → PgLen P 13 9 5 13 := fun h => h.up (by omega) (by omega) (by omega) (by omega)
  unfold exP at e
  split at e
  · split at e
    · injection e with e; subst e; exact up (len_stk hl (by rw [lst_len]; omega) (by omega))
    · cases e
  · split at e
    · split at e
      · injection e with e; subst e; exact up (len_stk hl (by rw [lst_len]; have := soM_le (xI P.now.st) P.now.st.length s; omega) (by omega))
      · cases e
    · split at e
      · cases e
      · split at e
        · exact opM_len (len_stk hl (by rw [lst_len]; omega) (Nat.le_refl _)) e
        · cases e
def exR (P : Pg) (s : ByteArray) (m : Int) : Option Pg := if (pgB P && tkB s m) = true then (exP P s m).filter (fun p => pgB p) else none
def exB (P : Pg) (s : ByteArray) (m : Int) : Bool := (exR P s m).isSome
def exD (P : Pg) (s : ByteArray) (m : Int) : Pg := (exR P s m).getD P
theorem exD_le {P : Pg} (h : bulkL P.dt ≤ 1048576) (s : ByteArray) (m : Int) : bulkL (exD P s m).dt ≤ 1048576 := by
  unfold exD
  cases e : exR P s m with
  | none => exact h
  | some P' =>
    unfold exR at e
    split at e
    · rename_i hv
      rw [Bool.and_eq_true] at hv
      exact (exP_len hv.1 (Option.filter_eq_some_iff.1 e).1).bulk (by omega) (by omega) (by omega) (by omega)
    · cases e
end Go.Proofs.YtjmfgbbngocodaaGreat.Own

namespace Go.Proofs.YtjmfgbbngocodaaGreat.Own
open Go.ChangeShapes Go.WideShapes Go.ChangeAt Go.RowKit
open Kit Slabs Ints Stack Point Turn Scan
set_option linter.unusedVariables false
set_option linter.unusedSimpArgs false
set_option linter.unnecessarySimpa false
set_option maxRecDepth 100000
attribute [local go_sem ↓] hload_Graphics hload_Object hstore_Graphics hstore_Object hload_Page hstore_Page
def ExNew (p : Pg) (s : ByteArray) (m : Int) (w : World) (e : Ending) (w' : World) : Prop := ∃ (R : Array Value) (f : List Nat), e = .returned (.tuple #[.agg R, .bool (exB p s m)]) ∧ OwnL w' LPage R.toList (exD p s m).dt f ∧ f.Nodup ∧ (∀ b ∈ f, w.heap.size ≤ b) ∧ Below w.heap.size w w'
theorem results_h2 {P : Program} {fn : Func} {p q : Tmp} {ty : TypeId} (h : fn.results = #[.cell p ty, .tmp q]) {tmps : Array Value} {w : World} {b o : Nat} (hp : tmps.getD p undef = .pointer (some ⟨b, o, none⟩)) {v u : Value} (hq : tmps.getD q undef = u) (hv : (hload ty ⟨b, o, none⟩).run P w = .ok v w) : (results fn tmps).run P w = .ok (.tuple #[v, u]) w := by
  rw [← hload_of] at hv
  have hp2 : tmps[p]?.getD undef = .pointer (some ⟨b, o, none⟩) := by simpa [Array.getD_eq_getD_getElem?] using hp
  have hq2 : tmps[q]?.getD undef = u := by simpa [Array.getD_eq_getD_getElem?] using hq
  simp [results, h, hp2, hq2, asAddr, hv, Result.andThen]
abbrev zeroP : Array Value := #[.slice none 0 0, .int .i64 0, .int .i64 0, .int .i64 0, .int .i64 0, .slice none 0 0, .int .i64 0, .int .i64 0, .int .i64 0, .int .i64 0, .int .i64 0, .slice none 0 0, .slice none 0 0]
theorem store_res {w V w1 : World} {GR : Nat} {R : Array Value} {p : Pg} {f : List Nat} (bV : Below w.heap.size w V) (b1 : Below V.heap.size V w1) (BR : Blk V GR zeroP.toList) (gGR : w.heap.size ≤ GR) (o : OwnL w1 LPage R.toList p.dt f) (n : f.Nodup) (g : ∀ b ∈ f, V.heap.size ≤ b) :
    ∃ E, (hstore 46 ⟨GR, 0, none⟩ (.agg R)).run Tryz.prog w1 = .ok () E ∧ (hload 46 ⟨GR, 0, none⟩).run Tryz.prog E = .ok (.agg R) E ∧ OwnL E LPage R.toList p.dt f ∧ f.Nodup ∧ (∀ b ∈ f, w.heap.size ≤ b) ∧ Below w.heap.size w E := by
  obtain ⟨E, st, BX, tt⟩ := var_put (P := Tryz.prog) (T := 46) Tryz.sizeOf46 (BR.keep b1) rfl o rfl
  have h := put_all (on_of bV b1) o n g gGR BR.2.2 BX tt
  exact ⟨E, st, var_load (P := Tryz.prog) (T := 46) Tryz.isAgg46 Tryz.sizeOf46 BX o rfl, h.1, h.2.1, h.2.2.1, h.2.2.2.2.2.2.2⟩
theorem at_of_rows {w : World} {B X : Nat} {R : List Value} {p : Pg} {F : List Nat} (h : PgRows w B R p F) (bx : Blk w X R) (nx : X ∉ F) : PgAt w B X p := by
  obtain ⟨G, F0, a11, c11, P11, f11, a12, c12, P12, f12, rfl, g0, r11, o11, r12, o12, rfl, hn, hB⟩ := h
  exact ⟨G, F0, a11, c11, P11, f11, a12, c12, P12, f12, bx, g0, r11, o11, r12, o12, List.nodup_cons.2 ⟨nx, hn⟩, fun b hb => hB b (by simp only [List.mem_append] at hb ⊢; rcases hb with hb | hb <;> simp [hb])⟩
theorem PgRows.under {w w' : World} {B : Nat} {R : List Value} {p : Pg} {F : List Nat} (h : PgRows w B R p F) (hb : Below w.heap.size w w') : PgRows w' B R p F := h.stays hb.size (fun b hm => hb.block b (h.lt b hm))
theorem ex_same {p : Pg} {s : ByteArray} {m : Int} (h : exR p s m = none) : exB p s m = false ∧ exD p s m = p := by simp [exB, exD, h]
theorem ex_some {p q : Pg} {s : ByteArray} {m : Int} (h : exR p s m = some q) : exB p s m = true ∧ exD p s m = q := by simp [exB, exD, h]
set_option maxHeartbeats 8000000 in
theorem exec_impl (w : World) {A : Array Value} {p : Pg} {fp : List Nat} (hb : bulkL p.dt ≤ 1048576) (h : OwnL w LPage A.toList p.dt fp) (s : ByteArray) (m : Int) (hz : s.size ≤ 1048576) :
    Calls Tryz.prog 10 #[.agg A, .agg #[.string s, .int .i64 m]] w (ExNew p s m w) := by
  obtain ⟨W, hW⟩ : ∃ W, (((w.alloc (.cells A 46)).alloc (.cells #[.string s, .int .i64 m] 50)).alloc (.cells #[.slice none 0 0, .int .i64 0, .int .i64 0, .int .i64 0, .int .i64 0, .slice none 0 0, .int .i64 0, .int .i64 0, .int .i64 0, .int .i64 0, .int .i64 0, .slice none 0 0, .slice none 0 0] 46)) = W := ⟨_, rfl⟩
  have BA : Blk W w.heap.size A.toList := by rw [← hW]; exact ((Blk.new w A 46 rfl).alloc _).alloc _
  have BT : Blk W (w.heap.size + 1) [.string s, .int .i64 m] := by rw [← hW]; exact (Blk.new (w.alloc (.cells A 46)) #[.string s, .int .i64 m] 50 (by simp)).alloc _
  have BR : Blk W (w.heap.size + 2) zeroP.toList := by rw [← hW]; exact Blk.new ((w.alloc (.cells A 46)).alloc (.cells #[.string s, .int .i64 m] 50)) zeroP 46 (by simp)
  have bW : Below w.heap.size w W := by rw [← hW]; go_grown
  obtain ⟨GP, hGP⟩ : ∃ x, w.heap.size = x := ⟨_, rfl⟩
  obtain ⟨GT, hGT⟩ : ∃ x, GP + 1 = x := ⟨_, rfl⟩
  obtain ⟨GR, hGR⟩ : ∃ x, GT + 1 = x := ⟨_, rfl⟩
  have HG := Lib.hid (fun (V : World) (hV : Below W.heap.size W V) => (show (Blk V GP A.toList ∧ Blk V GT [.string s, .int .i64 m] ∧ Blk V GR zeroP.toList) ∧ Below w.heap.size w V from by
    rw [← hGR, ← hGT, ← hGP]
    exact ⟨⟨BA.keep hV, BT.keep hV, BR.keep hV⟩, on_of bW hV⟩))
  have HA := Lib.hid (fun (V : World) (hV : Below w.heap.size w V) => h.under hV)
  have HL := Lib.hid (fun (V : World) (hV : Blk V GP A.toList) => var_load (P := Tryz.prog) (T := 46) Tryz.isAgg46 Tryz.sizeOf46 hV h rfl)
  have gGR : w.heap.size ≤ GR := by omega
  have HF := Lib.hid (fun (V w1 : World) (hV : Below W.heap.size W V) (b1 : Below V.heap.size V w1) (R : Array Value) (F : List Nat) (pr : PgRows w1 V.heap.size R.toList p F) (hr : exR p s m = none) => (show ∃ E, (hstore 46 ⟨GR, 0, none⟩ (.agg R)).run Tryz.prog w1 = .ok () E ∧ (hload 46 ⟨GR, 0, none⟩).run Tryz.prog E = .ok (.agg R) E ∧ ExNew p s m w (.returned (.tuple #[.agg R, .bool false])) E from by
    obtain ⟨f, o, n, sb⟩ := pr.own
    obtain ⟨E, st, ld, oE, nE, gE, bE⟩ := store_res (HG.out V hV).2 b1 (HG.out V hV).1.2.2 gGR o n (fun b hb => pr.ge b (sb b hb))
    obtain ⟨e1, e2⟩ := ex_same hr
    exact ⟨E, st, ld, R, f, by rw [e1], by rw [e2]; exact oE, nE, gE, bE⟩))
  have HB := Lib.hid hb
  have HGT := Lib.hid hGT
  have HGR := Lib.hid hGR
  clear BA BT BR hb hGT hGR
  go_enter Tryz.func10, Tryz.ntmps10
  go_upto_region 1 with (fail)
  have zW : w.heap.size ≤ W.heap.size := bW.size
  have gPW : GP < W.heap.size := (HG.out W (Below.refl _ _)).1.1.2.2
  have HbW := Lib.hid bW
  rw [HGT.out, HGR.out]
  clear hW hGP HGT HGR bW h
  have ra := HL.out W (HG.out W (Below.refl _ _)).1.1
  have HP := Lib.hid (fun (V : World) (hV : Below W.heap.size W V) => pg_impl V HB.out (HA.out V (HG.out V hV).2))
  have HCl := Lib.hid (fun (V : World) (hV : Below W.heap.size W V) => clone_Page V HB.out (HA.out V (HG.out V hV).2))
  cases hv : pgB p
  · have hr : exR p s m = none := by simp [exR, hv]
    rw [hv] at HP
    go_wp2_with fail
    ((with_reducible refine (HP.out W (Below.refl _ _)).mono ?_); rintro e w1 ⟨rfl, b1⟩)
    have r1 := HL.out w1 (HG.out w1 b1).1.1
    have HB1 := Lib.hid b1
    clear ra b1
    go_wp2_with fail
    ((with_reducible refine (HCl.out w1 HB1.out).mono ?_); rintro e w2 ⟨R, F, rfl, pr, b2⟩)
    obtain ⟨E, st, ld, hE⟩ := HF.out w1 w2 HB1.out b2 R F pr hr
    have HE := Lib.hid hE
    clear r1 pr b2 hE
    go_wp2
    refine bodyPost_ret (results_h2 Tryz.results10 (by rfl) (by rfl) ld) rfl ?_
    exact HE.out
  · rw [hv] at HP
    have HT := Lib.hid (fun (V : World) => NameImpl.tok_impl s m V (by omega))
    cases hk : tkB s m
    · have hr : exR p s m = none := by simp [exR, hk]
      rw [hk] at HT
      go_wp2_with fail
      ((with_reducible refine (HP.out W (Below.refl _ _)).mono ?_); rintro e w1 ⟨rfl, b1⟩)
      have t0 := (HG.out w1 b1).1.2.1.1 0 _ rfl
      have t1 := (HG.out w1 b1).1.2.1.1 1 _ rfl
      have HB1 := Lib.hid b1
      clear ra b1
      go_wp2_with fail
      ((with_reducible refine (HT.out w1).mono ?_); rintro e w2 ⟨rfl, b2⟩)
      have b2 := on_of HB1.out b2
      have r2 := HL.out w2 (HG.out w2 b2).1.1
      have HB2 := Lib.hid b2
      clear t0 t1 b2
      go_wp2_with fail
      ((with_reducible refine (HCl.out w2 HB2.out).mono ?_); rintro e w3 ⟨R, F, rfl, pr, b3⟩)
      obtain ⟨E, st, ld, hE⟩ := HF.out w2 w3 HB2.out b3 R F pr hr
      have HE := Lib.hid hE
      clear r2 pr b3 hE
      go_wp2
      refine bodyPost_ret (results_h2 Tryz.results10 (by rfl) (by rfl) ld) rfl ?_
      exact HE.out
    · rw [hk] at HT
      go_wp2_with fail
      ((with_reducible refine (HP.out W (Below.refl _ _)).mono ?_); rintro e w1 ⟨rfl, b1⟩)
      have t0 := (HG.out w1 b1).1.2.1.1 0 _ rfl
      have t1 := (HG.out w1 b1).1.2.1.1 1 _ rfl
      have HB1 := Lib.hid b1
      clear ra b1
      go_wp2_with fail
      ((with_reducible refine (HT.out w1).mono ?_); rintro e w2 ⟨rfl, b2⟩)
      have b2 := on_of HB1.out b2
      have r2 := HL.out w2 (HG.out w2 b2).1.1
      have HB2 := Lib.hid b2
      clear t0 t1 b2
      go_wp2_with fail
      ((with_reducible refine (HCl.out w2 HB2.out).mono ?_); rintro e w3 ⟨R1, F1, rfl, p1, b3⟩)
      obtain ⟨f1, o1, _, _⟩ := p1.own
      obtain ⟨E, st, BX, cx, zx⟩ := var_new (P := Tryz.prog) (T := 46) Tryz.sizeOf46 w3 zeroP rfl (R := R1) o1 rfl
      have z3 := b3.size
      have z2 := HB2.out.size
      obtain ⟨O, hO⟩ : ∃ O, w3.heap.size = O := ⟨_, rfl⟩
      rw [hO] at st BX
      have PA : PgAt E w2.heap.size O p := at_of_rows (p1.under cx) BX (fun hx => by have := p1.lt O hx; omega)
      have bE := on_of b3 cx
      have t0 := (HG.out E (on_of HB2.out bE)).1.2.1.1 0 _ rfl
      have t1 := (HG.out E (on_of HB2.out bE)).1.2.1.1 1 _ rfl
      have HX := Lib.hid (ex_impl PA (by have := cx.size; omega) (by omega) hv s m hz)
      have HE := Lib.hid (And.intro bE (on_of HB2.out bE))
      have zO : w2.heap.size ≤ O := by omega
      clear r2 p1 o1 b3 cx PA BX bE
      go_wp2_with fail
      clear st
      ((with_reducible refine (HX.out).mono ?_); rintro e w4 ⟨rfl, b4, p4⟩)
      have b24 : Below w2.heap.size w2 w4 := HE.out.1.trans b4
      have bW4 := on_of HB2.out b24
      cases hx : exP p s m with
      | none =>
        have hr : exR p s m = none := by simp [exR, hv, hk, hx]
        have r4 := HL.out w4 (HG.out w4 bW4).1.1
        have HB4 := Lib.hid bW4
        clear b4 p4 b24 bW4 t0 t1 hO
        simp only [Option.isSome_none]
        go_wp2_with fail
        ((with_reducible refine (HCl.out w4 HB4.out).mono ?_); rintro e w5 ⟨R, F, rfl, pr, b5⟩)
        obtain ⟨E2, st, ld, hE⟩ := HF.out w4 w5 HB4.out b5 R F pr hr
        have HEE := Lib.hid hE
        clear r4 pr b5 hE
        go_wp2
        refine bodyPost_ret (results_h2 Tryz.results10 (by rfl) (by rfl) ld) rfl ?_
        exact HEE.out
      | some P' =>
        obtain ⟨R', f', BO, oO, nO, nXO, gO⟩ := p4 P' hx
        have r4 := var_load (P := Tryz.prog) (T := 46) Tryz.isAgg46 Tryz.sizeOf46 BO oO rfl
        have HPP := Lib.hid (pg_impl w4 ((exP_len hv hx).bulk (by omega) (by omega) (by omega) (by omega)) oO)
        have H4 := Lib.hid (And.intro BO (And.intro oO (And.intro nO (And.intro gO (And.intro b24 bW4)))))
        clear b4 p4 b24 bW4 BO oO nO nXO gO t0 t1 hO
        simp only [Option.isSome_some]
        cases hv' : pgB P'
        · have hr : exR p s m = none := by simp [exR, hv, hk, hx, Option.filter, hv']
          rw [hv'] at HPP
          go_wp2_with fail
          ((with_reducible refine (HPP.out).mono ?_); rintro e w5 ⟨rfl, b5⟩)
          have b5W := on_of H4.out.2.2.2.2.2 b5
          have r5 := HL.out w5 (HG.out w5 b5W).1.1
          have HB5 := Lib.hid b5W
          clear r4 b5 b5W
          go_wp2_with fail
          ((with_reducible refine (HCl.out w5 HB5.out).mono ?_); rintro e w6 ⟨R, F, rfl, pr, b6⟩)
          obtain ⟨E2, st, ld, hE⟩ := HF.out w5 w6 HB5.out b6 R F pr hr
          have HEE := Lib.hid hE
          clear r5 pr b6 hE
          go_wp2
          refine bodyPost_ret (results_h2 Tryz.results10 (by rfl) (by rfl) ld) rfl ?_
          exact HEE.out
        · have hr : exR p s m = some P' := by simp [exR, hv, hk, hx, Option.filter, hv']
          obtain ⟨e1, e2⟩ := ex_some hr
          rw [hv'] at HPP
          go_wp2_with fail
          ((with_reducible refine (HPP.out).mono ?_); rintro e w5 ⟨rfl, b5⟩)
          have BO5 := H4.out.1.keep b5
          have oO5 := H4.out.2.1.under b5
          have r5 := var_load (P := Tryz.prog) (T := 46) Tryz.isAgg46 Tryz.sizeOf46 BO5 oO5 rfl
          obtain ⟨E2, st, ld, oE, nE, gE, bE⟩ := store_res (HG.out w2 HB2.out).2 (on_of H4.out.2.2.2.2.1 b5) (HG.out w2 HB2.out).1.2.2 gGR oO5 H4.out.2.2.1 H4.out.2.2.2.1
          have HEE := Lib.hid (show ExNew p s m w (.returned (.tuple #[.agg R', .bool true])) E2 from ⟨R', f', by rw [e1], by rw [e2]; exact oE, nE, gE, bE⟩)
          clear r4 b5 BO5 oO5 oE nE gE bE
          go_wp2
          refine bodyPost_ret (results_h2 Tryz.results10 (by rfl) (by rfl) ld) rfl ?_
          exact HEE.out
end Go.Proofs.YtjmfgbbngocodaaGreat.Own

