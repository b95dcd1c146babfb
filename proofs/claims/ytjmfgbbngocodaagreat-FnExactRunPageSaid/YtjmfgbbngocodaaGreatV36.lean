/-
  Texts of this seat, laid together: ExI, ExJ
-/
import Derived.Test.YtjmfgbbngocodaaGreatV35
namespace Go.Proofs.YtjmfgbbngocodaaGreat.Own
open Go.ChangeShapes Go.WideShapes Go.ChangeAt Go.RowKit
open Kit Slabs Ints Stack Point Turn Join Pts Box Push Take Opn SOp Impl
set_option linter.unusedVariables false
set_option linter.unusedSimpArgs false
set_option linter.unnecessarySimpa false
set_option maxRecDepth 100000
attribute [local go_sem ↓] hload_Graphics hload_Object hstore_Graphics hstore_Object hload_Page hstore_Page
theorem fit_of {P : Pg} (hp : pgB P = true) : PgFit P ∧ stB (xI P.now.st) P.now.st.length = true := by
  simp only [pgB, grB, pathB, Bool.and_eq_true, decide_eq_true_eq] at hp
  obtain ⟨⟨⟨⟨⟨⟨⟨⟨hst, htok⟩, _⟩, hpath, _⟩, _⟩, hsv⟩, hob⟩, _⟩, _⟩ := hp
  refine ⟨⟨htok, hpath, hsv, hob, ?_⟩, hst⟩
  have hst' : P.now.st.length ≤ 12 := by simp only [stB, Bool.and_eq_true, decide_eq_true_eq] at hst; exact hst.1
  simp only [Gr.dt, bulkL, Dt.bulk, bulk_dI, bulk_dP, len_dI, len_dP]
  omega
theorem slab_sl {w : World} {B n : Nat} {u : Value} {F : Nat → List Value} (h : Slab w B u n 1 F) : ∃ a c, u = .slice a n c := by
  obtain ⟨a, c, e, _⟩ := h
  exact ⟨a, c, e⟩
theorem PgFl.stack2 {w w' : World} {B X : Nat} {p : Pg} {a0 : Option Addr} {c0 : Nat} {f0 : List Nat} {a5 : Option Addr} {c5 : Nat} {P5 : List Value} {a11 : Option Addr} {c11 : Nat} {P11 : List Value} {f11 : List Nat} {a12 : Option Addr} {c12 : Nat} {P12 : List Value} {f12 : List Nat}
    (h : PgFl w B X p a0 c0 f0 a5 c5 P5 a11 c11 P11 f11 a12 c12 P12 f12) (hb : Below w.heap.size w w') (hB : B ≤ w.heap.size) (hX : B ≤ X) {u : Value} {n : Nat} {Y : Nat → Int} (hs : Slab w' w.heap.size u n 1 (ic Y)) :
    Below B w (w'.setCell ⟨X, 0, none⟩ u) ∧ ∃ a c f, u = .slice a n c ∧ PgFl (w'.setCell ⟨X, 0, none⟩ u) B X (stkM p (lst Y n)) a c f a5 c5 P5 a11 c11 P11 f11 a12 c12 P12 f12 := by
  obtain ⟨a, c, f, rfl, o, nf, gf⟩ := stack_own hs
  have := h.stack hb hB hX o nf gf
  rw [lst_len] at this
  exact ⟨this.1, a, c, f, rfl, this.2⟩
theorem PgFl.toOwn {w : World} {B X : Nat} {p : Pg} {a0 : Option Addr} {c0 : Nat} {f0 : List Nat} {a5 : Option Addr} {c5 : Nat} {P5 : List Value} {a11 : Option Addr} {c11 : Nat} {P11 : List Value} {f11 : List Nat} {a12 : Option Addr} {c12 : Nat} {P12 : List Value} {f12 : List Nat}
    (h : PgFl w B X p a0 c0 f0 a5 c5 P5 a11 c11 P11 f11 a12 c12 P12 f12) : PgOwn w B X p := by
  obtain ⟨_, _, _, _, _, _, _, _, _, _, h⟩ := h.at_
  exact h.own
theorem PgFl.stackR {w w' : World} {B X : Nat} {p : Pg} {a0 : Option Addr} {c0 : Nat} {f0 : List Nat} {a5 : Option Addr} {c5 : Nat} {P5 : List Value} {a11 : Option Addr} {c11 : Nat} {P11 : List Value} {f11 : List Nat} {a12 : Option Addr} {c12 : Nat} {P12 : List Value} {f12 : List Nat}
    (h : PgFl w B X p a0 c0 f0 a5 c5 P5 a11 c11 P11 f11 a12 c12 P12 f12) (hb : Below w.heap.size w w') (hB : B ≤ w.heap.size) (hX : B ≤ X) {u : Value} {n m : Nat} {Y : Nat → Int} (hs : Slab w' w.heap.size u n 1 (ic Y)) {v : Bool} {r : Option Pg} (hr : (if v = true then some (stkM p (lst Y m)) else none) = r) (hn : v = true → n = m) :
    OpRes B X r w (.returned (.bool v)) (w'.setCell ⟨X, 0, none⟩ u) := by
  obtain ⟨h1, a, c, f, rfl, h2⟩ := h.stack2 hb hB hX hs
  subst hr
  cases v
  · exact ⟨rfl, h1, fun P' hP => by cases hP⟩
  · refine ⟨rfl, h1, fun P' hP => ?_⟩
    injection hP with hP
    subst hP
    rw [← hn rfl]
    exact h2.toOwn
set_option maxHeartbeats 4000000 in
theorem ex_push {w : World} {B X : Nat} {P : Pg} (h : PgAt w B X P) (hB : B ≤ w.heap.size) (hX : B ≤ X) (hst : stB (xI P.now.st) P.now.st.length = true) (s : ByteArray) (m : Int) (hs : s.toList.isEmpty = true) :
    Calls Tryz.prog 39 #[.pointer (some ⟨X, 0, none⟩), .agg #[.string s, .int .i64 m]] w (OpRes B X (if puB (xI P.now.st) P.now.st.length m = true then some (stkM P (lst (pt (xI P.now.st) P.now.st.length m) (P.now.st.length + 1))) else none) w) := by
  obtain ⟨a0, c0, f0, a5, c5, P5, a11, c11, P11, f11, a12, c12, P12, f12, h⟩ := h.flat
  obtain ⟨n, hN⟩ : ∃ n, P.now.st.length = n := ⟨_, rfl⟩
  obtain ⟨Y, hY⟩ : ∃ Y, xI P.now.st = Y := ⟨_, rfl⟩
  have hXl := h.blk.2.2
  have HK := Lib.hid (fun (W : World) (hb : Below w.heap.size w W) => (show W.cell? ⟨X, 0, none⟩ = some (.slice a0 n c0) ∧ (∀ o, W.frozen? ⟨X, o, none⟩ = false) from by rw [← hN]; exact ⟨(h.blk.keep hb).1 0 _ rfl, (h.blk.keep hb).2.1⟩))
  have HD := Lib.hid (fun (W : World) (hb : Below w.heap.size w W) => (show Rd W (.slice a0 n c0) n Y from by rw [← hN, ← hY]; exact rd_of (h.o0.under hb)))
  have HH := Lib.hid h
  rw [hN, hY] at hst
  have hn12 : n ≤ 12 := by simp only [stB, Bool.and_eq_true, decide_eq_true_eq] at hst; exact hst.1
  rw [hN, hY]
  obtain ⟨v, hv⟩ : ∃ v, puB Y n m = v := ⟨_, rfl⟩
  obtain ⟨r, hr⟩ : ∃ r, (if v = true then some (stkM P (lst (pt Y n m) (n + 1))) else none) = r := ⟨_, rfl⟩
  rw [hv, hr]
  have HC := Lib.hid (fun (W : World) (hb : Below w.heap.size w W) => (show Calls Tryz.prog 84 #[.slice a0 n c0, .int .i64 m] W (fun e w' => ∃ a' k' c', e = .returned (.tuple #[.slice a' k' c', .bool v]) ∧ Below w.heap.size w w' ∧ OpRes B X r w (.returned (.bool v)) (w'.setCell ⟨X, 0, none⟩ (.slice a' k' c'))) from by
    refine (push_impl W _ n Y m (by omega) (HD.out W hb)).mono ?_
    rintro e w' ⟨u, rfl, hs, bb⟩
    have b2 := on_of hb bb
    obtain ⟨a', c', e'⟩ := slab_sl hs
    subst e'
    refine ⟨_, _, _, by rw [hv], b2, HH.out.stackR b2 hB hX (hs.weaken hb.size) hr (fun e => by rw [puN, hv, if_pos e])⟩))
  clear h hN hY hv hr
  go_enter Tryz.func39, Tryz.ntmps39
  go_upto_region 3 with (fail)
  generalize hW0 : w.alloc (.cells #[.string s, .int .i64 m] 50) = W0
  have bW : Below w.heap.size w W0 := by rw [← hW0]; go_grown
  have t1 : W0.cell? ⟨w.heap.size, 1, none⟩ = some (.int .i64 m) := by rw [← hW0]; simp [go_sem]
  obtain ⟨k0, fz⟩ := HK.out W0 bW
  have HB := Lib.hid bW
  clear hW0 bW
  go_region_law (go_simp; go_at_call 84; (with_reducible refine (HC.out _ (by have := HB.out; go_grown)).mono ?_); rintro e w5 ⟨a', k', c', rfl, b5, hr⟩; obtain ⟨j0, fj⟩ := HK.out w5 b5; have HR := Lib.hid hr; clear hr b5)
  all_goals
    go_wp2
    go_ret
    exact HR.out
set_option maxHeartbeats 4000000 in
theorem ex_so {w : World} {B X : Nat} {P : Pg} (h : PgAt w B X P) (hB : B ≤ w.heap.size) (hX : B ≤ X) (hst : stB (xI P.now.st) P.now.st.length = true) (s : ByteArray) (m : Int) (hs : s.toList.isEmpty = false) (hz : s.size ≤ 1048576) (ho : opB s = true) :
    Calls Tryz.prog 39 #[.pointer (some ⟨X, 0, none⟩), .agg #[.string s, .int .i64 m]] w (OpRes B X (if soB (xI P.now.st) P.now.st.length s = true then some (stkM P (lst (soY (xI P.now.st) P.now.st.length s) (soM (xI P.now.st) P.now.st.length s))) else none) w) := by
  obtain ⟨a0, c0, f0, a5, c5, P5, a11, c11, P11, f11, a12, c12, P12, f12, h⟩ := h.flat
  obtain ⟨n, hN⟩ : ∃ n, P.now.st.length = n := ⟨_, rfl⟩
  obtain ⟨Y, hY⟩ : ∃ Y, xI P.now.st = Y := ⟨_, rfl⟩
  have hXl := h.blk.2.2
  have HK := Lib.hid (fun (W : World) (hb : Below w.heap.size w W) => (show W.cell? ⟨X, 0, none⟩ = some (.slice a0 n c0) ∧ (∀ o, W.frozen? ⟨X, o, none⟩ = false) from by rw [← hN]; exact ⟨(h.blk.keep hb).1 0 _ rfl, (h.blk.keep hb).2.1⟩))
  have HD := Lib.hid (fun (W : World) (hb : Below w.heap.size w W) => (show Rd W (.slice a0 n c0) n Y from by rw [← hN, ← hY]; exact rd_of (h.o0.under hb)))
  have HH := Lib.hid h
  rw [hN, hY] at hst
  have hn12 : n ≤ 12 := by simp only [stB, Bool.and_eq_true, decide_eq_true_eq] at hst; exact hst.1
  rw [hN, hY]
  obtain ⟨v, hv⟩ : ∃ v, soB Y n s = v := ⟨_, rfl⟩
  obtain ⟨r, hr⟩ : ∃ r, (if v = true then some (stkM P (lst (soY Y n s) (soM Y n s))) else none) = r := ⟨_, rfl⟩
  rw [hv, hr]
  have HC := Lib.hid (fun (W : World) (hb : Below w.heap.size w W) => (show Calls Tryz.prog 86 #[.slice a0 n c0, .string s] W (fun e w' => ∃ a' k' c', e = .returned (.tuple #[.slice a' k' c', .bool v]) ∧ Below w.heap.size w w' ∧ OpRes B X r w (.returned (.bool v)) (w'.setCell ⟨X, 0, none⟩ (.slice a' k' c'))) from by
    refine (so_impl W _ n Y s (by omega) hz (HD.out W hb)).mono ?_
    rintro e w' ⟨u, rfl, hs, bb⟩
    have b2 := on_of hb bb
    have hs := Slab.of_owns hs (ic_len _)
    obtain ⟨a', c', e'⟩ := slab_sl hs
    subst e'
    refine ⟨_, _, _, by rw [hv], b2, HH.out.stackR b2 hB hX (hs.weaken hb.size) hr (fun e => rfl)⟩))
  have HO := Lib.hid (fun (W : World) => isop_impl W s hz)
  rw [ho] at HO
  clear h hN hY hv hr ho
  go_enter Tryz.func39, Tryz.ntmps39
  go_upto_region 5 with (fail)
  generalize hW0 : w.alloc (.cells #[.string s, .int .i64 m] 50) = W0
  have bW : Below w.heap.size w W0 := by rw [← hW0]; go_grown
  have t0 : W0.cell? ⟨w.heap.size, 0, none⟩ = some (.string s) := by rw [← hW0]; simp [go_sem]
  have gT : w.heap.size < W0.heap.size := by rw [← hW0]; simp
  obtain ⟨g, hg⟩ : ∃ g, w.heap.size = g := ⟨_, rfl⟩
  have HB := Lib.hid bW
  rw [hg] at t0 gT ⊢
  clear hW0 bW hg
  go_wp2_with fail
  ((with_reducible refine (HO.out _).mono ?_); rintro e w1 ⟨rfl, b1⟩)
  have t1 : w1.cell? ⟨g, 0, none⟩ = some (.string s) := ((bcell b1).1 g 0 gT).trans t0
  have b01 := on_of HB.out b1
  obtain ⟨k0, fz⟩ := HK.out w1 b01
  have HB1 := Lib.hid b01
  clear t0 b1 b01
  go_upto_region 6 with (fail)
  go_region_law (go_simp; go_at_call 86; (with_reducible refine (HC.out _ (by have := HB1.out; go_grown)).mono ?_); rintro e w5 ⟨a', k', c', rfl, b5, hr⟩; obtain ⟨j0, fj⟩ := HK.out w5 b5; have HR := Lib.hid hr; clear hr b5)
  all_goals
    go_wp2
    go_ret
    exact HR.out
end Go.Proofs.YtjmfgbbngocodaaGreat.Own

namespace Go.Proofs.YtjmfgbbngocodaaGreat.Own
open Go.ChangeShapes Go.WideShapes Go.ChangeAt Go.RowKit
open Kit Slabs Ints Stack Point Turn Join Pts Box Push Take Opn SOp Impl
set_option linter.unusedVariables false
set_option linter.unusedSimpArgs false
set_option linter.unnecessarySimpa false
set_option maxRecDepth 100000
attribute [local go_sem ↓] hload_Graphics hload_Object hstore_Graphics hstore_Object hload_Page hstore_Page
theorem zero_at {w5 w1 : World} {T : TypeId} {o : Obj} (h : w5 = (w1.alloc (.cells #[.int .i64 0, .nilFunc] T)).drew.alloc o) : w5.cell? ⟨w1.heap.size, 0, none⟩ = some (.int .i64 0) ∧ w5.cell? ⟨w1.heap.size, 1, none⟩ = some .nilFunc ∧ ∀ o, w5.frozen? ⟨w1.heap.size, o, none⟩ = false := by
  subst h
  exact ⟨by simp [go_sem], by simp [go_sem], fun o => by simp [go_sem]⟩
theorem alloc_at {w : World} {b : Nat} {o : Obj} (h : w.heap[b]? = some o) (o2 : Obj) : (w.alloc o2).heap[b]? = some o := by
  have hb : b < w.heap.size := (Array.getElem?_eq_some_iff.1 h).1
  rw [← h]
  simp only [World.alloc, Array.getElem?_push, Nat.ne_of_lt hb, if_false]
theorem mapobj_at {w5 V : World} {o : Obj} (h : w5 = V.alloc o) : w5.heap[V.heap.size]? = some o := by subst h; exact heap_alloc_new _ _
theorem PgFit.stk {P : Pg} (h : PgFit P) {l : List Int} (hl : l.length ≤ 1000) : PgFit (stkM P l) := by
  refine ⟨h.tok, h.path, h.saved, h.objs, ?_⟩
  have hp := h.path
  simp only [stkM, Gr.dt, bulkL, Dt.bulk, bulk_dI, bulk_dP, len_dI, len_dP]
  omega
theorem opF_call (k : Nat) (hk : k ≤ 11) (W : World) (u v : Value) : (callFunc (opF k) #[u, v]).run Tryz.prog W = .ok (.enter (opF k) #[u, v]) W := by
  have hc : k = 0 ∨ k = 1 ∨ k = 2 ∨ k = 3 ∨ k = 4 ∨ k = 5 ∨ k = 6 ∨ k = 7 ∨ k = 8 ∨ k = 9 ∨ k = 10 ∨ k = 11 := by omega
  rcases hc with rfl | rfl | rfl | rfl | rfl | rfl | rfl | rfl | rfl | rfl | rfl | rfl
  · simp [opF, callFunc, go_sem, Tryz.func122]; rfl
  · simp [opF, callFunc, go_sem, Tryz.func123]; rfl
  · simp [opF, callFunc, go_sem, Tryz.func124]; rfl
  · simp [opF, callFunc, go_sem, Tryz.func125]; rfl
  · simp [opF, callFunc, go_sem, Tryz.func126]; rfl
  · simp [opF, callFunc, go_sem, Tryz.func127]; rfl
  · simp [opF, callFunc, go_sem, Tryz.func128]; rfl
  · simp [opF, callFunc, go_sem, Tryz.func129]; rfl
  · simp [opF, callFunc, go_sem, Tryz.func130]; rfl
  · simp [opF, callFunc, go_sem, Tryz.func131]; rfl
  · simp [opF, callFunc, go_sem, Tryz.func133]; rfl
  · simp [opF, callFunc, go_sem, Tryz.func134]; rfl
set_option maxHeartbeats 4000000 in
theorem ex_none {w : World} {B X : Nat} {P : Pg} (h : PgAt w B X P) (hB : B ≤ w.heap.size) (hX : B ≤ X) (hst : stB (xI P.now.st) P.now.st.length = true) (s : ByteArray) (m : Int) (hs : s.toList.isEmpty = false) (hz : s.size ≤ 1048576) (ho : opB s = false) (hk : opN s = none) :
    Calls Tryz.prog 39 #[.pointer (some ⟨X, 0, none⟩), .agg #[.string s, .int .i64 m]] w (OpRes B X none w) := by
  obtain ⟨a0, c0, f0, a5, c5, P5, a11, c11, P11, f11, a12, c12, P12, f12, h⟩ := h.flat
  obtain ⟨n, hN⟩ : ∃ n, P.now.st.length = n := ⟨_, rfl⟩
  obtain ⟨Y, hY⟩ : ∃ Y, xI P.now.st = Y := ⟨_, rfl⟩
  have hXl := h.blk.2.2
  have HK := Lib.hid (fun (W : World) (hb : Below w.heap.size w W) => (show W.cell? ⟨X, 0, none⟩ = some (.slice a0 n c0) ∧ (∀ o, W.frozen? ⟨X, o, none⟩ = false) from by rw [← hN]; exact ⟨(h.blk.keep hb).1 0 _ rfl, (h.blk.keep hb).2.1⟩))
  have HD := Lib.hid (fun (W : World) (hb : Below w.heap.size w W) => (show Rd W (.slice a0 n c0) n Y from by rw [← hN, ← hY]; exact rd_of (h.o0.under hb)))
  have HH := Lib.hid h
  rw [hN, hY] at hst
  have hn12 : n ≤ 12 := by simp only [stB, Bool.and_eq_true, decide_eq_true_eq] at hst; exact hst.1
  have hl := fun (W : World) (b : Nat) (hb : W.heap[b]? = some (.map otab 12)) => Tab.run_look_no Tryz.underlying130 Tryz.underlying9 hb (olook_none hk) (z := .agg #[.int .i64 0, .nilFunc]) (by kernel_rfl)
  have HO := Lib.hid (fun (W : World) => isop_impl W s hz)
  rw [ho] at HO
  clear h hN hY ho
  go_enter Tryz.func39, Tryz.ntmps39
  go_upto_region 5 with (fail)
  generalize hW0 : w.alloc (.cells #[.string s, .int .i64 m] 50) = W0
  have bW : Below w.heap.size w W0 := by rw [← hW0]; go_grown
  have t0 : W0.cell? ⟨w.heap.size, 0, none⟩ = some (.string s) := by rw [← hW0]; simp [go_sem]
  have gT : w.heap.size < W0.heap.size := by rw [← hW0]; simp
  obtain ⟨g, hg⟩ : ∃ g, w.heap.size = g := ⟨_, rfl⟩
  have HB := Lib.hid bW
  rw [hg] at t0 gT ⊢
  clear hW0 bW hg
  go_wp2_with fail
  ((with_reducible refine (HO.out _).mono ?_); rintro e w1 ⟨rfl, b1⟩)
  have t1 : w1.cell? ⟨g, 0, none⟩ = some (.string s) := ((bcell b1).1 g 0 gT).trans t0
  have gT1 : g < w1.heap.size := by have := b1.size; omega
  have b01 := on_of HB.out b1
  have HB1 := Lib.hid b01
  have HS := Lib.hid (fun (W : World) (hb : Below w1.heap.size w1 W) => (show W.cell? ⟨g, 0, none⟩ = some (.string s) from ((bcell hb).1 g 0 gT1).trans t1))
  clear t0 t1 b1 b01
  go_upto_region 8 with (fail)
  refine wp_region_held_drew (S := fun W => W.cell? ⟨g, 0, none⟩ = some (.string s)) (by kernel_rfl) (HS.out _ (by go_grown)) (fun hHeld => ?_)
  refine wpAnyH_take (i := 1) (oi := _) (v := ?_) rfl (by kernel_rfl) (by kernel_rfl) (by kernel_rfl) (fun _ _ _ h => h) (Or.inl ⟨by rfl, ?_⟩) (by assumption) ?_
  rotate_left
  · (intro w hSw; (try dsimp only at hSw); go_simp; try with_reducible rfl)
  try simp only [Act.put, List.setIfInBounds_toArray, List.set_cons_zero, List.set_cons_succ]
  refine wpAnyH_take (i := 2) (oi := _) (v := ?_) rfl (by kernel_rfl) (by kernel_rfl) (by kernel_rfl) (fun _ _ _ h => h) (Or.inl ⟨by rfl, ?_⟩) (by assumption) ?_
  rotate_left
  · (intro w hSw; (try dsimp only at hSw); go_simp; try with_reducible rfl)
  try simp only [Act.put, List.setIfInBounds_toArray, List.set_cons_zero, List.set_cons_succ]
  refine wpAnyH_ready (rs := [0, 7]) (by kernel_rfl) (by simp) ?_
  refine AllReadyH.cons (o := _) rfl (fun KK hKK => ?_) ?_
  · (go_simp; go_at_call 87; (with_reducible refine (otab_impl _).mono ?_); rintro e w5 ⟨rfl, h5⟩; have q5 := (show Below w1.heap.size w1 w5 from (by rw [h5]; go_grown)); (first | (have hm5 := (show w5.heap[w1.heap.size]? = some (Obj.map otab 12) from (by have := mapobj_at h5; simpa using this))) | (have hm5 := (show w5.heap[w1.heap.size + 1]? = some (Obj.map otab 12) from (by have := mapobj_at h5; simpa using this)))); (try (have zz := zero_at h5; obtain ⟨z0, z1, zf⟩ := zz)); have hl1 := hl _ _ hm5; have hl2 := hl _ _ (alloc_at hm5 (.cells #[.int .i64 0, .nilFunc] 128)); have H5 := Lib.hid q5; clear h5 q5 hm5)
    try go_wp2_with fail
    refine hKK.out _ _ ?_ (fun hHeld2 => ?_)
    · (try dsimp only); first | exact HS.out _ H5.out | exact HS.out _ (H5.out.alloc H5.out.size _) | exact HS.out _ ((H5.out.setCell (p := ⟨w1.heap.size, 0, none⟩) (Nat.le_refl _) _).setCell (p := ⟨w1.heap.size, 1, none⟩) (Nat.le_refl _) _) | (refine HS.out _ ?_; go_grown; done)
    refine wpAnyH_ready (rs := [3, 7]) (by kernel_rfl) (by simp) ?_
    refine AllReadyH.cons (o := _) rfl (fun KK hKK => ?_) ?_
    · go_simp
      try go_wp2_with fail
      refine hKK.out _ _ ?_ (fun hHeld2 => ?_)
      · (try dsimp only); first | exact HS.out _ H5.out | exact HS.out _ (H5.out.alloc H5.out.size _) | exact HS.out _ ((H5.out.setCell (p := ⟨w1.heap.size, 0, none⟩) (Nat.le_refl _) _).setCell (p := ⟨w1.heap.size, 1, none⟩) (Nat.le_refl _) _) | (refine HS.out _ ?_; go_grown; done)
      refine wpAnyH_take (i := 4) (oi := _) (v := ?_) rfl (by kernel_rfl) (by kernel_rfl) (by kernel_rfl) (fun _ _ _ h => h) (Or.inl ⟨by rfl, ?_⟩) (by assumption) ?_
      rotate_left
      · (intro w hSw; (try dsimp only at hSw); go_simp; try with_reducible rfl)
      try simp only [Act.put, List.setIfInBounds_toArray, List.set_cons_zero, List.set_cons_succ]
      refine wpAnyH_take (i := 5) (oi := _) (v := ?_) rfl (by kernel_rfl) (by kernel_rfl) (by kernel_rfl) (fun _ _ _ h => h) (Or.inl ⟨by rfl, ?_⟩) (by assumption) ?_
      rotate_left
      · (intro w hSw; (try dsimp only at hSw); go_simp; try with_reducible rfl)
      try simp only [Act.put, List.setIfInBounds_toArray, List.set_cons_zero, List.set_cons_succ]
      refine wpAnyH_take (i := 6) (oi := _) (v := ?_) rfl (by kernel_rfl) (by kernel_rfl) (by kernel_rfl) (fun _ _ _ h => h) (Or.inl ⟨by rfl, ?_⟩) (by assumption) ?_
      rotate_left
      · (intro w hSw; (try dsimp only at hSw); go_simp; try with_reducible rfl)
      try simp only [Act.put, List.setIfInBounds_toArray, List.set_cons_zero, List.set_cons_succ]
      refine wpAnyH_ready (rs := [7]) (by kernel_rfl) (by simp) ?_
      refine AllReadyH.cons (o := _) rfl (fun KK hKK => ?_) AllReadyH.nil
      go_simp
      try go_wp2_with fail
      refine hKK.out _ _ ?_ (fun hHeld2 => ?_)
      · (try dsimp only); first | exact HS.out _ H5.out | exact HS.out _ (H5.out.alloc H5.out.size _) | exact HS.out _ ((H5.out.setCell (p := ⟨w1.heap.size, 0, none⟩) (Nat.le_refl _) _).setCell (p := ⟨w1.heap.size, 1, none⟩) (Nat.le_refl _) _) | (refine HS.out _ ?_; go_grown; done)
      refine wpAnyH_ready (rs := [8]) (by kernel_rfl) (by simp) ?_
      refine AllReadyH.cons (o := _) rfl (fun KK hKK => ?_) AllReadyH.nil
      go_simp
      try go_wp2_with fail
      refine hKK.out _ _ ?_ (fun hHeld2 => ?_)
      · (try dsimp only); first | exact HS.out _ H5.out | exact HS.out _ (H5.out.alloc H5.out.size _) | exact HS.out _ ((H5.out.setCell (p := ⟨w1.heap.size, 0, none⟩) (Nat.le_refl _) _).setCell (p := ⟨w1.heap.size, 1, none⟩) (Nat.le_refl _) _) | (refine HS.out _ ?_; go_grown; done)
      refine wpAnyH_take (i := 9) (oi := _) (v := ?_) rfl (by kernel_rfl) (by kernel_rfl) (by kernel_rfl) (fun _ _ _ h => h) (Or.inl ⟨by rfl, ?_⟩) (by assumption) ?_
      rotate_left
      · (intro w hSw; (try dsimp only at hSw); go_simp; try with_reducible rfl)
      try simp only [Act.put, List.setIfInBounds_toArray, List.set_cons_zero, List.set_cons_succ]
      refine wpAnyH_done (by kernel_rfl) ?_ _
      first
        | (refine gen_any (fun W => Below w.heap.size w W) (on_of HB1.out (H5.out.alloc H5.out.size _)) ?_)
        | (refine gen_any (fun W => Below w.heap.size w W) (on_of HB1.out ((H5.out.setCell (p := ⟨w1.heap.size, 0, none⟩) (Nat.le_refl _) _).setCell (p := ⟨w1.heap.size, 1, none⟩) (Nat.le_refl _) _)) ?_)
      intro W9 b9
      have HR := Lib.hid (show OpRes B X none w (.returned (.bool false)) W9 from ⟨rfl, b9.mono hB, fun P' hP => by cases hP⟩)
      clear b9
      go_wp2
      go_ret
      exact HR.out
    refine AllReadyH.cons (o := _) rfl (fun KK hKK => ?_) AllReadyH.nil
    go_simp
    try go_wp2_with fail
    refine hKK.out _ _ ?_ (fun hHeld2 => ?_)
    · (try dsimp only); first | exact HS.out _ H5.out | exact HS.out _ (H5.out.alloc H5.out.size _) | exact HS.out _ ((H5.out.setCell (p := ⟨w1.heap.size, 0, none⟩) (Nat.le_refl _) _).setCell (p := ⟨w1.heap.size, 1, none⟩) (Nat.le_refl _) _) | (refine HS.out _ ?_; go_grown; done)
    refine wpAnyH_ready (rs := [3]) (by kernel_rfl) (by simp) ?_
    refine AllReadyH.cons (o := _) rfl (fun KK hKK => ?_) AllReadyH.nil
    go_simp
    try go_wp2_with fail
    refine hKK.out _ _ ?_ (fun hHeld2 => ?_)
    · (try dsimp only); first | exact HS.out _ H5.out | exact HS.out _ (H5.out.alloc H5.out.size _) | exact HS.out _ ((H5.out.setCell (p := ⟨w1.heap.size, 0, none⟩) (Nat.le_refl _) _).setCell (p := ⟨w1.heap.size, 1, none⟩) (Nat.le_refl _) _) | (refine HS.out _ ?_; go_grown; done)
    refine wpAnyH_take (i := 4) (oi := _) (v := ?_) rfl (by kernel_rfl) (by kernel_rfl) (by kernel_rfl) (fun _ _ _ h => h) (Or.inl ⟨by rfl, ?_⟩) (by assumption) ?_
    rotate_left
    · (intro w hSw; (try dsimp only at hSw); go_simp; try with_reducible rfl)
    try simp only [Act.put, List.setIfInBounds_toArray, List.set_cons_zero, List.set_cons_succ]
    refine wpAnyH_take (i := 5) (oi := _) (v := ?_) rfl (by kernel_rfl) (by kernel_rfl) (by kernel_rfl) (fun _ _ _ h => h) (Or.inl ⟨by rfl, ?_⟩) (by assumption) ?_
    rotate_left
    · (intro w hSw; (try dsimp only at hSw); go_simp; try with_reducible rfl)
    try simp only [Act.put, List.setIfInBounds_toArray, List.set_cons_zero, List.set_cons_succ]
    refine wpAnyH_take (i := 6) (oi := _) (v := ?_) rfl (by kernel_rfl) (by kernel_rfl) (by kernel_rfl) (fun _ _ _ h => h) (Or.inl ⟨by rfl, ?_⟩) (by assumption) ?_
    rotate_left
    · (intro w hSw; (try dsimp only at hSw); go_simp; try with_reducible rfl)
    try simp only [Act.put, List.setIfInBounds_toArray, List.set_cons_zero, List.set_cons_succ]
    refine wpAnyH_ready (rs := [8]) (by kernel_rfl) (by simp) ?_
    refine AllReadyH.cons (o := _) rfl (fun KK hKK => ?_) AllReadyH.nil
    go_simp
    try go_wp2_with fail
    refine hKK.out _ _ ?_ (fun hHeld2 => ?_)
    · (try dsimp only); first | exact HS.out _ H5.out | exact HS.out _ (H5.out.alloc H5.out.size _) | exact HS.out _ ((H5.out.setCell (p := ⟨w1.heap.size, 0, none⟩) (Nat.le_refl _) _).setCell (p := ⟨w1.heap.size, 1, none⟩) (Nat.le_refl _) _) | (refine HS.out _ ?_; go_grown; done)
    refine wpAnyH_take (i := 9) (oi := _) (v := ?_) rfl (by kernel_rfl) (by kernel_rfl) (by kernel_rfl) (fun _ _ _ h => h) (Or.inl ⟨by rfl, ?_⟩) (by assumption) ?_
    rotate_left
    · (intro w hSw; (try dsimp only at hSw); go_simp; try with_reducible rfl)
    try simp only [Act.put, List.setIfInBounds_toArray, List.set_cons_zero, List.set_cons_succ]
    refine wpAnyH_done (by kernel_rfl) ?_ _
    first
      | (refine gen_any (fun W => Below w.heap.size w W) (on_of HB1.out (H5.out.alloc H5.out.size _)) ?_)
      | (refine gen_any (fun W => Below w.heap.size w W) (on_of HB1.out ((H5.out.setCell (p := ⟨w1.heap.size, 0, none⟩) (Nat.le_refl _) _).setCell (p := ⟨w1.heap.size, 1, none⟩) (Nat.le_refl _) _)) ?_)
    intro W9 b9
    have HR := Lib.hid (show OpRes B X none w (.returned (.bool false)) W9 from ⟨rfl, b9.mono hB, fun P' hP => by cases hP⟩)
    clear b9
    go_wp2
    go_ret
    exact HR.out
  refine AllReadyH.cons (o := _) rfl (fun KK hKK => ?_) AllReadyH.nil
  go_simp
  try go_wp2_with fail
  refine hKK.out _ _ ?_ (fun hHeld2 => ?_)
  · (try dsimp only); first | exact HS.out _ H5.out | exact HS.out _ (H5.out.alloc H5.out.size _) | exact HS.out _ ((H5.out.setCell (p := ⟨w1.heap.size, 0, none⟩) (Nat.le_refl _) _).setCell (p := ⟨w1.heap.size, 1, none⟩) (Nat.le_refl _) _) | (refine HS.out _ ?_; go_grown; done)
  refine wpAnyH_ready (rs := [0]) (by kernel_rfl) (by simp) ?_
  refine AllReadyH.cons (o := _) rfl (fun KK hKK => ?_) AllReadyH.nil
  (go_simp; go_at_call 87; (with_reducible refine (otab_impl _).mono ?_); rintro e w5 ⟨rfl, h5⟩; have q5 := (show Below w1.heap.size w1 w5 from (by rw [h5]; go_grown)); (first | (have hm5 := (show w5.heap[w1.heap.size]? = some (Obj.map otab 12) from (by have := mapobj_at h5; simpa using this))) | (have hm5 := (show w5.heap[w1.heap.size + 1]? = some (Obj.map otab 12) from (by have := mapobj_at h5; simpa using this)))); (try (have zz := zero_at h5; obtain ⟨z0, z1, zf⟩ := zz)); have hl1 := hl _ _ hm5; have hl2 := hl _ _ (alloc_at hm5 (.cells #[.int .i64 0, .nilFunc] 128)); have H5 := Lib.hid q5; clear h5 q5 hm5)
  try go_wp2_with fail
  refine hKK.out _ _ ?_ (fun hHeld2 => ?_)
  · (try dsimp only); first | exact HS.out _ H5.out | exact HS.out _ (H5.out.alloc H5.out.size _) | exact HS.out _ ((H5.out.setCell (p := ⟨w1.heap.size, 0, none⟩) (Nat.le_refl _) _).setCell (p := ⟨w1.heap.size, 1, none⟩) (Nat.le_refl _) _) | (refine HS.out _ ?_; go_grown; done)
  refine wpAnyH_ready (rs := [3]) (by kernel_rfl) (by simp) ?_
  refine AllReadyH.cons (o := _) rfl (fun KK hKK => ?_) AllReadyH.nil
  go_simp
  try go_wp2_with fail
  refine hKK.out _ _ ?_ (fun hHeld2 => ?_)
  · (try dsimp only); first | exact HS.out _ H5.out | exact HS.out _ (H5.out.alloc H5.out.size _) | exact HS.out _ ((H5.out.setCell (p := ⟨w1.heap.size, 0, none⟩) (Nat.le_refl _) _).setCell (p := ⟨w1.heap.size, 1, none⟩) (Nat.le_refl _) _) | (refine HS.out _ ?_; go_grown; done)
  refine wpAnyH_take (i := 4) (oi := _) (v := ?_) rfl (by kernel_rfl) (by kernel_rfl) (by kernel_rfl) (fun _ _ _ h => h) (Or.inl ⟨by rfl, ?_⟩) (by assumption) ?_
  rotate_left
  · (intro w hSw; (try dsimp only at hSw); go_simp; try with_reducible rfl)
  try simp only [Act.put, List.setIfInBounds_toArray, List.set_cons_zero, List.set_cons_succ]
  refine wpAnyH_take (i := 5) (oi := _) (v := ?_) rfl (by kernel_rfl) (by kernel_rfl) (by kernel_rfl) (fun _ _ _ h => h) (Or.inl ⟨by rfl, ?_⟩) (by assumption) ?_
  rotate_left
  · (intro w hSw; (try dsimp only at hSw); go_simp; try with_reducible rfl)
  try simp only [Act.put, List.setIfInBounds_toArray, List.set_cons_zero, List.set_cons_succ]
  refine wpAnyH_take (i := 6) (oi := _) (v := ?_) rfl (by kernel_rfl) (by kernel_rfl) (by kernel_rfl) (fun _ _ _ h => h) (Or.inl ⟨by rfl, ?_⟩) (by assumption) ?_
  rotate_left
  · (intro w hSw; (try dsimp only at hSw); go_simp; try with_reducible rfl)
  try simp only [Act.put, List.setIfInBounds_toArray, List.set_cons_zero, List.set_cons_succ]
  refine wpAnyH_ready (rs := [8]) (by kernel_rfl) (by simp) ?_
  refine AllReadyH.cons (o := _) rfl (fun KK hKK => ?_) AllReadyH.nil
  go_simp
  try go_wp2_with fail
  refine hKK.out _ _ ?_ (fun hHeld2 => ?_)
  · (try dsimp only); first | exact HS.out _ H5.out | exact HS.out _ (H5.out.alloc H5.out.size _) | exact HS.out _ ((H5.out.setCell (p := ⟨w1.heap.size, 0, none⟩) (Nat.le_refl _) _).setCell (p := ⟨w1.heap.size, 1, none⟩) (Nat.le_refl _) _) | (refine HS.out _ ?_; go_grown; done)
  refine wpAnyH_take (i := 9) (oi := _) (v := ?_) rfl (by kernel_rfl) (by kernel_rfl) (by kernel_rfl) (fun _ _ _ h => h) (Or.inl ⟨by rfl, ?_⟩) (by assumption) ?_
  rotate_left
  · (intro w hSw; (try dsimp only at hSw); go_simp; try with_reducible rfl)
  try simp only [Act.put, List.setIfInBounds_toArray, List.set_cons_zero, List.set_cons_succ]
  refine wpAnyH_done (by kernel_rfl) ?_ _
  first
    | (refine gen_any (fun W => Below w.heap.size w W) (on_of HB1.out (H5.out.alloc H5.out.size _)) ?_)
    | (refine gen_any (fun W => Below w.heap.size w W) (on_of HB1.out ((H5.out.setCell (p := ⟨w1.heap.size, 0, none⟩) (Nat.le_refl _) _).setCell (p := ⟨w1.heap.size, 1, none⟩) (Nat.le_refl _) _)) ?_)
  intro W9 b9
  have HR := Lib.hid (show OpRes B X none w (.returned (.bool false)) W9 from ⟨rfl, b9.mono hB, fun P' hP => by cases hP⟩)
  clear b9
  go_wp2
  go_ret
  exact HR.out
end Go.Proofs.YtjmfgbbngocodaaGreat.Own

