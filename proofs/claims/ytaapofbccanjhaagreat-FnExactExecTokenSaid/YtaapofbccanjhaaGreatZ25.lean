/-
  Texts of this seat, laid together: ClC, ClD, ClE
-/
import Derived.Deep.RegionHeld3
import Derived.Test.YtaapofbccanjhaaGreatZ24
namespace Go.Proofs.YtaapofbccanjhaaGreat.Own
open Go.ChangeShapes Go.WideShapes Go.ChangeAt Go.RowKit
open Kit Slabs Ints Stack Point Turn
set_option linter.unusedVariables false
set_option linter.unusedSimpArgs false
set_option linter.unnecessarySimpa false
set_option maxRecDepth 100000
def NewSt (ks : List Kd) (ds : List Dt) (w : World) (e : Ending) (w' : World) : Prop := ∃ (R : Array Value) (f : List Nat), e = .returned (.agg R) ∧ OwnL w' ks R.toList ds f ∧ f.Nodup ∧ (∀ b ∈ f, w.heap.size ≤ b) ∧ Below w.heap.size w w'
attribute [local go_sem ↓] hload_Graphics hload_Object hstore_Graphics hstore_Object
set_option maxHeartbeats 4000000 in
theorem clone_Object (w : World) {A : Array Value} {o : Ob} {fp : List Nat} (hb : bulkL o.dt ≤ 1048576) (h : OwnL w LObject A.toList o.dt fp) :
    Calls Tryz.prog 84 #[.agg A] w fun e w' => ∃ (R : Array Value) (f : List Nat), e = .returned (.agg R) ∧ OwnL w' LObject R.toList o.dt f ∧ f.Nodup ∧ (∀ b ∈ f, w.heap.size ≤ b) ∧ Below w.heap.size w w' := by
  obtain ⟨a0, c0, f0, hA, hf, o0⟩ := inv_Object_ h
  simp only [Ob.dt, bulkL, Dt.bulk, len_dI, len_dP, bulk_dI, bulk_dP] at hb
  simp only [len_dI, len_dP] at hA o0
  obtain ⟨P0, q0, L0, l0, O0, _, e0, _, _⟩ := own_lies o0
  have F0 : q0 = [] ∧ ∀ W, OwnL W (List.replicate o.path.length KPt) P0 (dP o.path) [] := by
    obtain ⟨_, hq, hO⟩ := OwnL.flat (flat_rep rfl _) O0
    subst hq; exact ⟨rfl, hO⟩
  have HF := Lib.hid F0.2
  clear O0 F0 o0
  have hw2 : ((w.alloc (.cells A 101)).alloc (.cells #[.slice none 0 0, .int .i64 0, .int .i64 0, .int .i64 0, .int .i64 0, .int .i64 0] 101)).heap.size = w.heap.size + 2 := by simp
  have BA : Blk ((w.alloc (.cells A 101)).alloc (.cells #[.slice none 0 0, .int .i64 0, .int .i64 0, .int .i64 0, .int .i64 0, .int .i64 0] 101)) w.heap.size A.toList := (Blk.new w A 101 rfl).alloc _
  have BR : Blk ((w.alloc (.cells A 101)).alloc (.cells #[.slice none 0 0, .int .i64 0, .int .i64 0, .int .i64 0, .int .i64 0, .int .i64 0] 101)) (w.heap.size + 1) (#[.slice none 0 0, .int .i64 0, .int .i64 0, .int .i64 0, .int .i64 0, .int .i64 0] : Array Value).toList := Blk.new _ _ 101 (by simp)
  rw [hA] at BA
  have hW : Below w.heap.size w ((w.alloc (.cells A 101)).alloc (.cells #[.slice none 0 0, .int .i64 0, .int .i64 0, .int .i64 0, .int .i64 0, .int .i64 0] 101)) := by go_grown
  have HS := Lib.hid (And.intro BA (And.intro BR (And.intro hW hw2)))
  have l0' : P0.length = o.path.length * 2 := by simpa [Kd.sz, szL] using l0
  have HL := Lib.hid (And.intro L0 (And.intro l0' e0))
  clear BA BR hW hw2 L0 l0 l0' e0 hA h hf
  go_enter Tryz.func84, Tryz.ntmps84
  go_upto_region 1 with (fail)
  obtain ⟨W, hWe⟩ : ∃ W, W = ((w.alloc (.cells A 101)).alloc (.cells #[.slice none 0 0, .int .i64 0, .int .i64 0, .int .i64 0, .int .i64 0, .int .i64 0] 101)) := ⟨_, rfl⟩
  rw [← hWe] at HS ⊢
  clear hWe
  obtain ⟨GA, hGA⟩ : ∃ x, w.heap.size = x := ⟨_, rfl⟩
  obtain ⟨GR, hGR⟩ : ∃ x, w.heap.size + 1 = x := ⟨_, rfl⟩
  have HS2 : Hid (Blk W GA [.slice a0 o.path.length c0, .int .i64 o.gray, .int .i64 o.x0, .int .i64 o.y0, .int .i64 o.x1, .int .i64 o.y1] ∧ Blk W GR (#[.slice none 0 0, .int .i64 0, .int .i64 0, .int .i64 0, .int .i64 0, .int .i64 0] : Array Value).toList) := Lib.hid ⟨hGA ▸ HS.out.1, hGR ▸ HS.out.2.1⟩
  rw [hGR]
  have hWw := Lib.hid HS.out.2.2
  have gA : w.heap.size ≤ GA := by omega
  have gAR : GA < GR := by omega
  have gAW : GA < W.heap.size := by have := hWw.out.2; omega
  have gR : GR < W.heap.size := by have := hWw.out.2; omega
  rw [hGA]
  clear HS hGR hGA
  have k0 := HS2.out.1.1 0 _ rfl
  go_wp2_with fail
  clear k0
  ((with_reducible refine (cop_pts W a0 o.path.length c0 P0 (by omega) HL.out.2.1 HL.out.2.2 (HL.out.1.on hWw.out.1)).mono ?_); rintro e w1 ⟨m0, d0, rfl, r0, b1⟩)
  have B1 := HS2.out.1.keep b1
  have fz := B1.2.1
  have k0 := B1.1 0 _ rfl
  have z1 := b1.size
  have H1 := Lib.hid (And.intro B1 (And.intro r0 b1))
  clear B1 r0 b1
  go_upto_region 2 with (fail)
  clear k0 fz
  have o0 := row_own2 H1.out.2.1 (HF.out w1)
  have g0 := rowF_ge (n := o.path.length) (fq := []) (fun b hb => (rowL_ge H1.out.2.1 b hb).1) (fun b hb => absurd hb List.not_mem_nil)
  have n0 := rowF_nodup (n := o.path.length) (u := .slice m0 o.path.length d0) (fq := []) List.nodup_nil (fun b _ h => absurd h List.not_mem_nil)
  generalize (if o.path.length = 0 then [] else rowL (.slice m0 o.path.length d0) ++ []) = F0 at o0 g0 n0
  have o0 := own_setN o0 (b := GA) (fun h => by have := g0 _ h; omega) 0 (.slice m0 o.path.length d0)
  have BV := Blk.put (P := []) H1.out.1 rfl (.slice m0 o.path.length d0)
  have BR2 := (HS2.out.2.keep H1.out.2.2).other (b' := GA) (by omega) 0 (.slice m0 o.path.length d0)
  have bV := (on_of hWw.out.1 H1.out.2.2).setCell (p := ⟨GA, 0, none⟩) gA (.slice m0 o.path.length d0)
  have sV : (w1.setCell ⟨GA, 0, none⟩ (.slice m0 o.path.length d0)).heap.size = w1.heap.size := by simp [size_sets]
  generalize w1.setCell ⟨GA, 0, none⟩ (.slice m0 o.path.length d0) = V at o0 BV BR2 bV sV ⊢
  have oV := mk_ob o.gray o.x0 o.y0 o.x1 o.y1 o0
  obtain ⟨R, E, s1, s2, s3, e4, tE, bE⟩ := hand_over (P := Tryz.prog) (T := 101) Tryz.isAgg101 Tryz.sizeOf101 BV BR2 rfl oV rfl bV (by omega) (by omega)
  have oE := oV.turned tE (fun b hb e => by have := g0 b hb; have e' : b = GR := e; omega)
  have oE : OwnL E LObject R.toList o.dt F0 := by rw [e4]; exact oE
  have gw : w.heap.size ≤ W.heap.size := hWw.out.1.size
  have HX := Lib.hid (And.intro oE (And.intro bE (And.intro n0 (And.intro g0 s3))))
  clear o0 g0 n0 bV BV BR2 oV oE bE s3 sV e4 tE
  go_wp2
  refine bodyPost_ret (v := .agg R) ?_ rfl ⟨R, _, rfl, HX.out.1, HX.out.2.2.1, fun b hb => by have := HX.out.2.2.2.1 b hb; omega, HX.out.2.1⟩
  exact results_h Tryz.results84 (by rfl) HX.out.2.2.2.2
set_option maxHeartbeats 4000000 in
theorem copy_Object (w : World) {A : Array Value} {o : Ob} {fp : List Nat} (hb : bulkL o.dt ≤ 1048576) (h : OwnL w LObject A.toList o.dt fp) :
    Calls Tryz.prog 63 #[.agg A] w (NewSt LObject o.dt w) := by
  obtain ⟨a0, c0, f0, hA, hf, o0⟩ := inv_Object_ h
  simp only [Ob.dt, bulkL, Dt.bulk, len_dI, len_dP, bulk_dI, bulk_dP] at hb
  simp only [len_dI, len_dP] at hA o0
  obtain ⟨P0, q0, L0, l0, O0, _, e0, _, _⟩ := own_lies o0
  have F0 : q0 = [] ∧ ∀ W, OwnL W (List.replicate o.path.length KPt) P0 (dP o.path) [] := by
    obtain ⟨_, hq, hO⟩ := OwnL.flat (flat_rep rfl _) O0
    subst hq; exact ⟨rfl, hO⟩
  have HF := Lib.hid F0.2
  clear O0 F0 o0
  have hw2 : ((w.alloc (.cells A 101)).alloc (.cells #[.slice none 0 0, .int .i64 0, .int .i64 0, .int .i64 0, .int .i64 0, .int .i64 0] 101)).heap.size = w.heap.size + 2 := by simp
  have BA : Blk ((w.alloc (.cells A 101)).alloc (.cells #[.slice none 0 0, .int .i64 0, .int .i64 0, .int .i64 0, .int .i64 0, .int .i64 0] 101)) w.heap.size A.toList := (Blk.new w A 101 rfl).alloc _
  have BR : Blk ((w.alloc (.cells A 101)).alloc (.cells #[.slice none 0 0, .int .i64 0, .int .i64 0, .int .i64 0, .int .i64 0, .int .i64 0] 101)) (w.heap.size + 1) (#[.slice none 0 0, .int .i64 0, .int .i64 0, .int .i64 0, .int .i64 0, .int .i64 0] : Array Value).toList := Blk.new _ _ 101 (by simp)
  rw [hA] at BA
  have hW : Below w.heap.size w ((w.alloc (.cells A 101)).alloc (.cells #[.slice none 0 0, .int .i64 0, .int .i64 0, .int .i64 0, .int .i64 0, .int .i64 0] 101)) := by go_grown
  have HS := Lib.hid (And.intro BA (And.intro BR (And.intro hW hw2)))
  have l0' : P0.length = o.path.length * 2 := by simpa [Kd.sz, szL] using l0
  have HL := Lib.hid (And.intro L0 (And.intro l0' e0))
  clear BA BR hW hw2 L0 l0 l0' e0 hA h hf
  go_enter Tryz.func63, Tryz.ntmps63
  go_upto_region 1 with (fail)
  obtain ⟨W, hWe⟩ : ∃ W, W = ((w.alloc (.cells A 101)).alloc (.cells #[.slice none 0 0, .int .i64 0, .int .i64 0, .int .i64 0, .int .i64 0, .int .i64 0] 101)) := ⟨_, rfl⟩
  rw [← hWe] at HS ⊢
  clear hWe
  obtain ⟨GA, hGA⟩ : ∃ x, w.heap.size = x := ⟨_, rfl⟩
  obtain ⟨GR, hGR⟩ : ∃ x, w.heap.size + 1 = x := ⟨_, rfl⟩
  have HS2 : Hid (Blk W GA [.slice a0 o.path.length c0, .int .i64 o.gray, .int .i64 o.x0, .int .i64 o.y0, .int .i64 o.x1, .int .i64 o.y1] ∧ Blk W GR (#[.slice none 0 0, .int .i64 0, .int .i64 0, .int .i64 0, .int .i64 0, .int .i64 0] : Array Value).toList) := Lib.hid ⟨hGA ▸ HS.out.1, hGR ▸ HS.out.2.1⟩
  rw [hGR]
  have hWw := Lib.hid HS.out.2.2
  have gA : w.heap.size ≤ GA := by omega
  have gAR : GA < GR := by omega
  have gAW : GA < W.heap.size := by have := hWw.out.2; omega
  have gR : GR < W.heap.size := by have := hWw.out.2; omega
  rw [hGA]
  clear HS hGR hGA
  have hS : ∀ w', Blk w' GA [.slice a0 o.path.length c0, .int .i64 o.gray, .int .i64 o.x0, .int .i64 o.y0, .int .i64 o.x1, .int .i64 o.y1] → w'.cell? ⟨GA, 0, none⟩ = some (.slice a0 o.path.length c0) ∧ w'.cell? ⟨GA, 1, none⟩ = some (.int .i64 o.gray) ∧ w'.cell? ⟨GA, 2, none⟩ = some (.int .i64 o.x0) ∧ w'.cell? ⟨GA, 3, none⟩ = some (.int .i64 o.y0) ∧ w'.cell? ⟨GA, 4, none⟩ = some (.int .i64 o.x1) ∧ w'.cell? ⟨GA, 5, none⟩ = some (.int .i64 o.y1) := fun w' B => ⟨B.1 0 _ rfl, B.1 1 _ rfl, B.1 2 _ rfl, B.1 3 _ rfl, B.1 4 _ rfl, B.1 5 _ rfl⟩
  have HK := Lib.hid hS
  clear hS
  have HO := Lib.hid (show (W.alloc (.cells #[] 109)).drew.ownsRow W.heap.size 109 2 (.slice (some ⟨W.heap.size, 0, none⟩) 0 0) 0 [] from World.ownsRow_made W #[] (e := 109) (size := 2) 0 (Nat.le_refl _) (by decide) (by simp))
  have HL5 := Lib.hid ((HL.out.1.on hWw.out.1).on (show Below W.heap.size W (W.alloc (.cells #[] 109)).drew from by go_grown))
  go_region_held3 (fun w' => w'.cell? ⟨GA, 0, none⟩ = some (.slice a0 o.path.length c0) ∧ w'.cell? ⟨GA, 1, none⟩ = some (.int .i64 o.gray) ∧ w'.cell? ⟨GA, 2, none⟩ = some (.int .i64 o.x0) ∧ w'.cell? ⟨GA, 3, none⟩ = some (.int .i64 o.y0) ∧ w'.cell? ⟨GA, 4, none⟩ = some (.int .i64 o.x1) ∧ w'.cell? ⟨GA, 5, none⟩ = some (.int .i64 o.y1)) (first | exact HK.out _ HBE.out | exact HK.out _ (HS2.out.1.keep hB) | exact HK.out _ (HS2.out.1.keep (by go_grown)))
    ((refine step_append_sl et_pts rfl _ _ rfl W.heap.size _ 0 _ [] rfl HO.out a0 o.path.length c0 P0 rfl HL.out.2.1 HL5.out HL.out.2.2 (by unfold maxLen; omega) (by omega) (by simp) ?_; intro m0 d0 w2 r0 hgrow hsub; have hB : Below W.heap.size W w2 := (show Below W.heap.size W (W.alloc (.cells #[] 109)).drew from by go_grown).grown hgrow (by simp) (fun q hq => by have := (HO.out.lt q hq).1; exact this); have r0' : w2.ownsRow W.heap.size 109 2 (.slice m0 o.path.length d0) o.path.length P0 := (by simpa using r0); have H1 := Lib.hid (And.intro r0' hB); clear r0 r0'; have o0 := row_own2 H1.out.1 (HF.out w2); have g0 := rowF_ge (n := o.path.length) (fq := []) (fun b hb => (rowL_ge H1.out.1 b hb).1) (fun b hb => absurd hb List.not_mem_nil); have n0 := rowF_nodup (n := o.path.length) (u := .slice m0 o.path.length d0) (fq := []) List.nodup_nil (fun b _ h => absurd h List.not_mem_nil); generalize (if o.path.length = 0 then [] else rowL (.slice m0 o.path.length d0) ++ []) = F0 at o0 g0 n0; have oV := mk_ob o.gray o.x0 o.y0 o.x1 o.y1 o0; obtain ⟨E, st, BX, tt⟩ := var_put (P := Tryz.prog) (T := 101) (R := #[.slice m0 o.path.length d0, .int .i64 o.gray, .int .i64 o.x0, .int .i64 o.y0, .int .i64 o.x1, .int .i64 o.y1]) Tryz.sizeOf101 (HS2.out.2.keep hB) rfl oV rfl; have hz := hB.size; have HX := Lib.hid (And.intro (oV.turned tt (fun b hb e => by have := g0 b hb; omega)) (And.intro BX (And.intro g0 (And.intro n0 ((on_of hWw.out.1 hB).trans (tt.below (by have := hWw.out.2; omega) (fun k e => by have : k = GR := e; omega))))))); have HBE := Lib.hid ((HS2.out.1.keep hB).turned tt (fun e => by have : GA = GR := e; omega)); clear o0 g0 n0 oV BX tt))
  have lo := var_load (P := Tryz.prog) (T := 101) Tryz.isAgg101 Tryz.sizeOf101 HX.out.2.1 HX.out.1 rfl
  have HLo := Lib.hid lo
  have gw : w.heap.size ≤ W.heap.size := hWw.out.1.size
  clear lo
  go_wp2
  refine bodyPost_ret (v := .agg _) ?_ rfl ⟨_, _, rfl, HX.out.1, HX.out.2.2.2.1, fun b hb => by have := HX.out.2.2.1 b hb; omega, HX.out.2.2.2.2⟩
  exact results_h Tryz.results63 (by rfl) HLo.out
end Go.Proofs.YtaapofbccanjhaaGreat.Own
namespace Go.Proofs.YtaapofbccanjhaaGreat.Own
open Go.ChangeShapes Go.WideShapes Go.ChangeAt Go.RowKit
open Kit Slabs Ints Stack Point Turn
set_option linter.unusedVariables false
set_option linter.unusedSimpArgs false
set_option linter.unnecessarySimpa false
def Cap (w : World) (g : Nat) (T : TypeId) (m : Nat) : Prop := ∃ cur : Array Value, w.heap[g]? = some (.cells cur T (0, 0)) ∧ cur.size = m
theorem Cap.stays {w w' : World} {g : Nat} {T : TypeId} {m : Nat} (h : Cap w g T m) (e : w'.heap[g]? = w.heap[g]?) : Cap w' g T m := by
  obtain ⟨cur, h1, h2⟩ := h; exact ⟨cur, e.trans h1, h2⟩
theorem Cap.lt {w : World} {g : Nat} {T : TypeId} {m : Nat} (h : Cap w g T m) : g < w.heap.size := by
  obtain ⟨cur, h1, _⟩ := h; exact (Array.getElem?_eq_some_iff.1 h1).1
theorem Cap.keep {w w' : World} {g : Nat} {T : TypeId} {m : Nat} (h : Cap w g T m) (hb : Below w.heap.size w w') : Cap w' g T m := h.stays (hb.block g h.lt)
theorem Cap.turned {w w' : World} {g : Nat} {T : TypeId} {m : Nat} {S : Nat → Prop} (h : Cap w g T m) (ht : Turns w w' S) (hS : ¬ S g) : Cap w' g T m := h.stays (ht.block g h.lt hS)
theorem Cap.set {w : World} {g : Nat} {T : TypeId} {m : Nat} (h : Cap w g T m) (i : Nat) (v : Value) : Cap (w.setCell ⟨g, i, none⟩ v) g T m := by
  obtain ⟨cur, h1, h2⟩ := h
  exact ⟨_, heap_setCell_same w g i cur T v h1, by simpa using h2⟩
theorem Cap.sets {g : Nat} {T : TypeId} {m : Nat} : ∀ (vs : List Value) (o : Nat) {w : World}, Cap w g T m → Cap (w.setCells g o vs) g T m
  | [], _, _, h => h
  | v :: r, o, w, h => Cap.sets r (o + 1) (h.set o v)
theorem row_cap {w : World} {B : Nat} {T : TypeId} {k n : Nat} {a : Option Addr} {c : Nat} {P : List Value} (h : w.ownsRow B T k (.slice a n c) n P) (h0 : n ≠ 0) :
    ∃ g, a = some ⟨g, 0, none⟩ ∧ B ≤ g ∧ Blk w g P ∧ Cap w g T (c * k) ∧ n ≤ c ∧ c ≤ maxLen := by
  obtain ⟨a', c', he, _, hb⟩ := row_blk h
  injection he with h1 h2 h3
  subst h1; subst h3
  obtain ⟨g, rfl, hb2⟩ := hb h0
  rcases h.2 with ⟨_, h2⟩ | ⟨g', cap, cur, hv, hB, hg, hnc, hm, hs, _⟩
  · exact absurd h2 h0
  · injection hv with h1 h2 h3
    injection h1 with h1
    injection h1 with h1
    subst h1; subst h3
    exact ⟨_, rfl, hB, hb2, ⟨cur, hg, hs⟩, hnc, hm⟩
theorem cap_row {w : World} {B g : Nat} {T : TypeId} {k n c : Nat} {P : List Value} (hb : Blk w g P) (hc : Cap w g T (c * k)) (hl : P.length = n * k) (hn : n ≤ c) (hm : c ≤ maxLen) (hB : B ≤ g) :
    w.ownsRow B T k (.slice (some ⟨g, 0, none⟩) n c) n P := by
  obtain ⟨cur, h1, h2⟩ := hc
  refine ⟨hl, .inr ⟨g, c, cur, rfl, hB, h1, hn, hm, h2, ?_⟩⟩
  have hle : n * k ≤ cur.size := by rw [h2]; exact Nat.mul_le_mul_right _ hn
  apply List.ext_getElem
  · simp; omega
  · intro i i1 i2
    have hv := hb.1 i P[i] (List.getElem?_eq_getElem i2)
    rw [cell_of_row _ _ _ _ _ _ h1] at hv
    have i3 : i < cur.size := by omega
    rw [Array.getElem?_eq_getElem i3] at hv
    simpa using hv
def PgRows (w : World) (B : Nat) (R : List Value) (p : Pg) (F : List Nat) : Prop := ∃ (G : List Value) (F0 : List Nat) (a11 : Option Addr) (c11 : Nat) (P11 : List Value) (f11 : List Nat) (a12 : Option Addr) (c12 : Nat) (P12 : List Value) (f12 : List Nat),
  R = G ++ [.slice a11 p.saved.length c11, .slice a12 p.objs.length c12] ∧ GrRows w B G p.now F0 ∧
  w.ownsRow B 42 11 (.slice a11 p.saved.length c11) p.saved.length P11 ∧ OwnL w (List.replicate p.saved.length KGraphics) P11 (dG p.saved) f11 ∧
  w.ownsRow B 101 6 (.slice a12 p.objs.length c12) p.objs.length P12 ∧ OwnL w (List.replicate p.objs.length KObject) P12 (dO p.objs) f12 ∧
  F = F0 ++ (rowL (.slice a11 p.saved.length c11) ++ (f11 ++ (rowL (.slice a12 p.objs.length c12) ++ f12))) ∧ F.Nodup ∧ ∀ b ∈ F, B ≤ b
theorem GrRows.len {w : World} {B : Nat} {R : List Value} {g : Gr} {F : List Nat} (h : GrRows w B R g F) : R.length = 11 := by
  obtain ⟨a0, c0, f0, a5, c5, P5, rfl, _⟩ := h; rfl
theorem mk_pg {w : World} {G : List Value} {p : Pg} {a11 a12 : Option Addr} {c11 c12 : Nat} {f0 f11 f12 : List Nat} (o0 : OwnL w LGraphics G p.now.dt f0) (o11 : Own w (.sl KGraphics) [.slice a11 p.saved.length c11] (.sl (dG p.saved)) f11) (o12 : Own w (.sl KObject) [.slice a12 p.objs.length c12] (.sl (dO p.objs)) f12) :
    OwnL w LPage (G ++ [.slice a11 p.saved.length c11, .slice a12 p.objs.length c12]) p.dt (f0 ++ (f11 ++ f12)) := by
  have := OwnL.app (.cons o11 (.cons o12 .nil)) o0
  unfold Pg.dt
  simpa using this
theorem PgRows.own {w : World} {B : Nat} {R : List Value} {p : Pg} {F : List Nat} (h : PgRows w B R p F) : ∃ f, OwnL w LPage R p.dt f ∧ f.Nodup ∧ (∀ b ∈ f, b ∈ F) := by
  obtain ⟨G, F0, a11, c11, P11, f11, a12, c12, P12, f12, rfl, g0, r11, o11, r12, o12, rfl, hn, hB⟩ := h
  obtain ⟨f0, q0, m0, s0⟩ := g0.own
  obtain ⟨n0, n1, d0⟩ := nodup_parts hn
  obtain ⟨n11, n2, d11⟩ := nodup_parts n1
  obtain ⟨m11, n3, e11⟩ := nodup_parts n2
  obtain ⟨n12, m12, d12⟩ := nodup_parts n3
  have s11 : ∀ b ∈ (if p.saved.length = 0 then [] else rowL (.slice a11 p.saved.length c11) ++ f11), b ∈ rowL (.slice a11 p.saved.length c11) ∨ b ∈ f11 := rowF_sub
  have s12 : ∀ b ∈ (if p.objs.length = 0 then [] else rowL (.slice a12 p.objs.length c12) ++ f12), b ∈ rowL (.slice a12 p.objs.length c12) ∨ b ∈ f12 := rowF_sub
  refine ⟨_, mk_pg q0 (row_own2 r11 o11) (row_own2 r12 o12), app_nodup m0 (app_nodup (rowF_nodup m11 (fun b hb hc => d11 b hb (List.mem_append_left _ hc))) (rowF_nodup m12 (fun b hb hc => d12 b hb hc)) ?_) ?_, ?_⟩
  · intro x hx hy
    rcases s11 x hx with h | h <;> rcases s12 x hy with k | k
    · exact d11 x h (List.mem_append_right _ (List.mem_append_left _ k))
    · exact d11 x h (List.mem_append_right _ (List.mem_append_right _ k))
    · exact e11 x h (List.mem_append_left _ k)
    · exact e11 x h (List.mem_append_right _ k)
  · intro x hx hy
    have := d0 x (s0 x hx)
    apply this
    rcases List.mem_append.1 hy with h | h
    · rcases s11 x h with h | h
      · exact List.mem_append_left _ h
      · exact List.mem_append_right _ (List.mem_append_left _ h)
    · rcases s12 x h with h | h
      · exact List.mem_append_right _ (List.mem_append_right _ (List.mem_append_left _ h))
      · exact List.mem_append_right _ (List.mem_append_right _ (List.mem_append_right _ h))
  · intro x hy
    rcases List.mem_append.1 hy with h | h
    · exact List.mem_append_left _ (s0 x h)
    · apply List.mem_append_right
      rcases List.mem_append.1 h with h | h
      · rcases s11 x h with h | h
        · exact List.mem_append_left _ h
        · exact List.mem_append_right _ (List.mem_append_left _ h)
      · rcases s12 x h with h | h
        · exact List.mem_append_right _ (List.mem_append_right _ (List.mem_append_left _ h))
        · exact List.mem_append_right _ (List.mem_append_right _ (List.mem_append_right _ h))
theorem PgRows.stays {w w' : World} {B : Nat} {R : List Value} {p : Pg} {F : List Nat} (h : PgRows w B R p F) (hs : w.heap.size ≤ w'.heap.size) (hb : ∀ b ∈ F, w'.heap[b]? = w.heap[b]?) : PgRows w' B R p F := by
  obtain ⟨G, F0, a11, c11, P11, f11, a12, c12, P12, f12, rfl, g0, r11, o11, r12, o12, rfl, hn, hB⟩ := h
  refine ⟨G, F0, a11, c11, P11, f11, a12, c12, P12, f12, rfl, g0.stays hs ?_, row_stays r11 ?_, o11.stays hs ?_, row_stays r12 ?_, o12.stays hs ?_, rfl, hn, hB⟩ <;> intro b hm <;> apply hb b <;> simp [hm]
theorem PgRows.lt {w : World} {B : Nat} {R : List Value} {p : Pg} {F : List Nat} (h : PgRows w B R p F) : ∀ b ∈ F, b < w.heap.size := by
  obtain ⟨G, F0, a11, c11, P11, f11, a12, c12, P12, f12, rfl, g0, r11, o11, r12, o12, rfl, hn, hB⟩ := h
  exact mem2 (p := fun b => b < w.heap.size) g0.lt (mem2 (p := fun b => b < w.heap.size) (fun b hb => (rowL_ge r11 b hb).2) (mem2 (p := fun b => b < w.heap.size) o11.lt (mem2 (p := fun b => b < w.heap.size) (fun b hb => (rowL_ge r12 b hb).2) o12.lt)))
def PgNew (p : Pg) (w : World) (e : Ending) (w' : World) : Prop := ∃ (R : Array Value) (F : List Nat), e = .returned (.agg R) ∧ PgRows w' w.heap.size R.toList p F ∧ Below w.heap.size w w'
end Go.Proofs.YtaapofbccanjhaaGreat.Own
namespace Go.Proofs.YtaapofbccanjhaaGreat.Own
open Go.ChangeShapes Go.WideShapes Go.ChangeAt Go.RowKit
open Kit Slabs Ints Stack Point Turn
set_option linter.unusedVariables false
set_option linter.unusedSimpArgs false
set_option linter.unnecessarySimpa false
set_option maxRecDepth 100000
attribute [local go_sem ↓] hload_Graphics hload_Object hstore_Graphics hstore_Object hload_Page hstore_Page
def Mid1 (p : Pg) (B GA GR : Nat) (P11 P12 : List Value) (w wx : World) : Prop := ∃ (R1 : Array Value) (F1 : List Nat) (a : Option Addr) (c : Nat) (a' : Option Addr) (c' : Nat),
  Blk wx GA (R1.toList ++ [.slice a p.saved.length c, .slice a' p.objs.length c']) ∧ Blk wx GR (#[.slice none 0 0, .int .i64 0, .int .i64 0, .int .i64 0, .int .i64 0, .slice none 0 0, .int .i64 0, .int .i64 0, .int .i64 0, .int .i64 0, .int .i64 0, .slice none 0 0, .slice none 0 0] : Array Value).toList ∧ GrRows wx B R1.toList p.now F1 ∧ wx.ownsRow B 42 11 (.slice a p.saved.length c) p.saved.length P11 ∧ wx.ownsRow B 101 6 (.slice a' p.objs.length c') p.objs.length P12 ∧ (F1 ++ (rowL (.slice a p.saved.length c) ++ rowL (.slice a' p.objs.length c'))).Nodup ∧ Below w.heap.size w wx
theorem GrRows.ge {w : World} {B : Nat} {R : List Value} {g : Gr} {F : List Nat} (h : GrRows w B R g F) : ∀ b ∈ F, B ≤ b := by
  obtain ⟨a0, c0, f0, a5, c5, P5, rfl, o0, r5, O5, rfl, hn, hB⟩ := h; exact hB
theorem GrRows.nodup {w : World} {B : Nat} {R : List Value} {g : Gr} {F : List Nat} (h : GrRows w B R g F) : F.Nodup := by
  obtain ⟨a0, c0, f0, a5, c5, P5, rfl, o0, r5, O5, rfl, hn, hB⟩ := h; exact hn
theorem GrRows.under {w w' : World} {B : Nat} {R : List Value} {g : Gr} {F : List Nat} (h : GrRows w B R g F) (hb : Below w.heap.size w w') : GrRows w' B R g F := h.stays hb.size (fun b hm => hb.block b (h.lt b hm))
theorem GrRows.set {w : World} {B : Nat} {R : List Value} {g : Gr} {F : List Nat} {b : Nat} (h : GrRows w B R g F) (hn : b ∉ F) (o : Nat) (v : Value) : GrRows (w.setCell ⟨b, o, none⟩ v) B R g F := h.stays (by simp) (fun x hx => Below.heap_setCell _ _ _ _ (fun e => hn (by have e' : x = b := e; rw [← e']; exact hx)))
theorem one_of {w : World} {B : Nat} {R : List Value} {g : Gr} {F : List Nat} (h : GrRows w B R g F) : ∀ u ∈ R, u.oneCell' = true := by
  obtain ⟨f, o, _⟩ := h.own; exact o.one
theorem mid_of {p : Pg} {GA GR : Nat} {P11 P12 : List Value} {w W w1 w2 w3 V : World} {R1 : Array Value} {F1 : List Nat} {a11 a12 m11 m12 : Option Addr} {c11 c12 d11 d12 : Nat}
    (hW : Below w.heap.size w W) (gA : w.heap.size ≤ GA) (gAR : GA < GR) (gAW : GA < W.heap.size) (gR : GR < W.heap.size) (BR : Blk W GR (#[.slice none 0 0, .int .i64 0, .int .i64 0, .int .i64 0, .int .i64 0, .slice none 0 0, .int .i64 0, .int .i64 0, .int .i64 0, .int .i64 0, .int .i64 0, .slice none 0 0, .slice none 0 0] : Array Value).toList)
    (g1 : GrRows w1 W.heap.size R1.toList p.now F1) (b1 : Below W.heap.size W w1) (r11 : w2.ownsRow w1.heap.size 42 11 (.slice m11 p.saved.length d11) p.saved.length P11) (b2 : Below w1.heap.size w1 w2)
    (r12 : w3.ownsRow w2.heap.size 101 6 (.slice m12 p.objs.length d12) p.objs.length P12) (b3 : Below w2.heap.size w2 w3) (BV : Blk V GA (R1.toList ++ [.slice a11 p.saved.length c11, .slice a12 p.objs.length c12])) (tV : Turns w3 V (fun b => b = GA)) :
    Mid1 p W.heap.size GA GR P11 P12 w ((V.setCell ⟨GA, 11, none⟩ (.slice m11 p.saved.length d11)).setCell ⟨GA, 12, none⟩ (.slice m12 p.objs.length d12)) := by
  have z1 := b1.size
  have z2 := b2.size
  have z3 := b3.size
  have zV := tV.size
  have zW := hW.size
  have hge : ∀ b ∈ F1, W.heap.size ≤ b ∧ b < w1.heap.size := fun b hb => ⟨g1.ge b hb, g1.lt b hb⟩
  have r11' := row_on r11 b3
  have g11 := rowL_ge r11
  have g12 := rowL_ge r12
  have GV := (((g1.under b2).under b3).stays tV.size (fun b hb => tV.block b (by have := hge b hb; omega) (fun e => by have e' : b = GA := e; have := hge b hb; omega)))
  have R11 := row_turned r11' tV (fun b hb e => by have e' : b = GA := e; have := g11 b hb; omega)
  have R12 := row_turned r12 tV (fun b hb e => by have e' : b = GA := e; have := g12 b hb; omega)
  have BV1 := Blk.put (o := 11) (P := R1.toList) (R := [.slice a12 p.objs.length c12]) BV g1.len (.slice m11 p.saved.length d11)
  have BV2 := Blk.put (o := 12) (P := R1.toList ++ [.slice m11 p.saved.length d11]) (R := []) (by simpa using BV1) (by rw [List.length_append, g1.len]; rfl) (.slice m12 p.objs.length d12)
  have BR2 := (((BR.keep (on_of (on_of b1 b2) b3)).turned tV (fun e => by have e' : GR = GA := e; omega)).other (b' := GA) (by omega) 11 (.slice m11 p.saved.length d11)).other (b' := GA) (by omega) 12 (.slice m12 p.objs.length d12)
  have bV := (((on_of (on_of (on_of hW b1) b2) b3).trans (tV.below (by omega) (fun k e => by have e' : k = GA := e; omega))).setCell (p := ⟨GA, 11, none⟩) gA (.slice m11 p.saved.length d11)).setCell (p := ⟨GA, 12, none⟩) gA (.slice m12 p.objs.length d12)
  exact ⟨R1, F1, m11, d11, m12, d12, by simpa using BV2, BR2,
        (GV.set (fun h => by have := hge _ h; omega) 11 _).set (fun h => by have := hge _ h; omega) 12 _,
        row_base (row_set (row_set R11 (fun h => by have := g11 _ h; omega) 11 _) (fun h => by have := g11 _ h; omega) 12 _) (by omega),
        row_base (row_set (row_set R12 (fun h => by have := g12 _ h; omega) 11 _) (fun h => by have := g12 _ h; omega) 12 _) (by omega),
        app_nodup g1.nodup (app_nodup (rowL_nodup _) (rowL_nodup _) (fun x hx hy => by have := g11 x hx; have := g12 x hy; omega)) (fun x hx hy => by
          have h1 := hge x hx
          rcases List.mem_append.1 hy with h | h
          · have := g11 x h; omega
          · have := g12 x h; omega), bV⟩
theorem GrRows.base {w : World} {B C : Nat} {R : List Value} {g : Gr} {F : List Nat} (h : GrRows w B R g F) (hC : C ≤ B) : GrRows w C R g F := by
  obtain ⟨a0, c0, f0, a5, c5, P5, rfl, o0, r5, O5, rfl, hn, hB⟩ := h
  exact ⟨a0, c0, f0, a5, c5, P5, rfl, o0, row_base r5 hC, O5, rfl, hn, fun b hb => Nat.le_trans hC (hB b hb)⟩
theorem PgRows.base {w : World} {B C : Nat} {R : List Value} {p : Pg} {F : List Nat} (h : PgRows w B R p F) (hC : C ≤ B) : PgRows w C R p F := by
  obtain ⟨G, F0, a11, c11, P11, f11, a12, c12, P12, f12, rfl, g0, r11, o11, r12, o12, rfl, hn, hB⟩ := h
  exact ⟨G, F0, a11, c11, P11, f11, a12, c12, P12, f12, rfl, g0.base hC, row_base r11 hC, o11, row_base r12 hC, o12, rfl, hn, fun b hb => Nat.le_trans hC (hB b hb)⟩
theorem PgRows.ge {w : World} {B : Nat} {R : List Value} {p : Pg} {F : List Nat} (h : PgRows w B R p F) : ∀ b ∈ F, B ≤ b := by
  obtain ⟨G, F0, a11, c11, P11, f11, a12, c12, P12, f12, rfl, g0, r11, o11, r12, o12, rfl, hn, hB⟩ := h; exact hB
def Lp (p : Pg) (B GA GR : Nat) (b11 : Option Addr) (d11 : Nat) (b12 : Option Addr) (d12 : Nat) (P11 P12 : List Value) (R1 : List Value) (F1 : List Nat) (w : World) (k j : Nat) (wr : World) : Prop := ∃ (Q : List Value) (fq : List Nat) (U : List Value) (fu : List Nat),
  Q.length = k * 11 ∧ U.length = j * 6 ∧ Blk wr GA (R1 ++ [.slice b11 p.saved.length d11, .slice b12 p.objs.length d12]) ∧ Blk wr GR (#[.slice none 0 0, .int .i64 0, .int .i64 0, .int .i64 0, .int .i64 0, .slice none 0 0, .int .i64 0, .int .i64 0, .int .i64 0, .int .i64 0, .int .i64 0, .slice none 0 0, .slice none 0 0] : Array Value).toList ∧ GrRows wr B R1 p.now F1 ∧
  wr.ownsRow B 42 11 (.slice b11 p.saved.length d11) p.saved.length (Q ++ P11.drop (k * 11)) ∧ OwnL wr (List.replicate k KGraphics) Q ((dG p.saved).take k) fq ∧
  wr.ownsRow B 101 6 (.slice b12 p.objs.length d12) p.objs.length (U ++ P12.drop (j * 6)) ∧ OwnL wr (List.replicate j KObject) U ((dO p.objs).take j) fu ∧
  (F1 ++ (rowL (.slice b11 p.saved.length d11) ++ (fq ++ (rowL (.slice b12 p.objs.length d12) ++ fu)))).Nodup ∧ (∀ b ∈ fq ++ fu, B ≤ b) ∧ Below w.heap.size w wr
theorem pick_rep {w : World} {ks : List Kd} : ∀ {n i : Nat} {P : List Value} {es : List Dt} {f : List Nat}, OwnL w (List.replicate n (.st ks)) P es f → (hi : i < es.length) →
    ∃ A cs D ds f', P = A ++ (cs ++ D) ∧ A.length = i * szL ks ∧ cs.length = szL ks ∧ es[i] = .st ds ∧ OwnL w ks cs ds f' ∧ (∀ b ∈ f', b ∈ f)
  | 0, i, P, es, f, h, hi => by
    cases h; simp at hi
  | n + 1, 0, P, es, f, h, hi => by
    rw [List.replicate_succ] at h
    cases h with
    | cons h r =>
      cases h with
      | st h => exact ⟨[], _, _, _, _, rfl, by simp, h.len, rfl, h, fun b hb => List.mem_append_left _ hb⟩
  | n + 1, i + 1, P, es, f, h, hi => by
    rw [List.replicate_succ] at h
    cases h with
    | cons h r =>
      obtain ⟨A, cs, D, ds, f', rfl, e1, e2, e3, o, e4⟩ := pick_rep r (i := i) (by simpa using hi)
      exact ⟨_ ++ A, cs, D, ds, f', (List.append_assoc _ _ _).symm, by rw [List.length_append, h.len, e1, Kd.sz, Nat.succ_mul]; omega, e2, by simpa using e3, o, fun b hb => List.mem_append_right _ (e4 b hb)⟩
theorem Lp.start {p : Pg} {B GA GR : Nat} {P11 P12 : List Value} {w wx : World} (h : Mid1 p B GA GR P11 P12 w wx) (hB : w.heap.size ≤ B) : ∃ b11 d11 b12 d12 R1 F1, Lp p B GA GR b11 d11 b12 d12 P11 P12 R1 F1 w 0 0 wx ∧ R1.length = 11 := by
  obtain ⟨R1, F1, b11, d11, b12, d12, BG, BRc, g1, r11, r12, nd, bw⟩ := h
  exact ⟨b11, d11, b12, d12, R1.toList, F1, ⟨[], [], [], [], rfl, rfl, BG, BRc, g1, by simpa using r11, .nil, by simpa using r12, .nil, by simpa using nd, by simp, bw⟩, g1.len⟩
theorem Lp.on {p : Pg} {B GA GR : Nat} {b11 b12 : Option Addr} {d11 d12 : Nat} {P11 P12 R1 : List Value} {F1 : List Nat} {w : World} {k j : Nat} {wr w' : World} (h : Lp p B GA GR b11 d11 b12 d12 P11 P12 R1 F1 w k j wr) (hb : Below wr.heap.size wr w') : Lp p B GA GR b11 d11 b12 d12 P11 P12 R1 F1 w k j w' := by
  obtain ⟨Q, fq, U, fu, e1, e2, BG, BRc, g1, r11, o11, r12, o12, nd, hf, bw⟩ := h
  exact ⟨Q, fq, U, fu, e1, e2, BG.keep hb, BRc.keep hb, g1.under hb, row_on r11 hb, o11.under hb, row_on r12 hb, o12.under hb, nd, hf, on_of bw hb⟩
theorem Lp.cells {p : Pg} {B GA GR : Nat} {b11 b12 : Option Addr} {d11 d12 : Nat} {P11 P12 R1 : List Value} {F1 : List Nat} {w : World} {k j : Nat} {wr : World} (h : Lp p B GA GR b11 d11 b12 d12 P11 P12 R1 F1 w k j wr) (hl : R1.length = 11) : wr.cell? ⟨GA, 11, none⟩ = some (.slice b11 p.saved.length d11) ∧ wr.cell? ⟨GA, 12, none⟩ = some (.slice b12 p.objs.length d12) := by
  obtain ⟨Q, fq, U, fu, e1, e2, BG, _⟩ := h
  exact ⟨BG.1 11 _ (by rw [List.getElem?_append_right (by omega)]; simp [hl]), BG.1 12 _ (by rw [List.getElem?_append_right (by omega)]; simp [hl])⟩
theorem Lp.below {p : Pg} {B GA GR : Nat} {b11 b12 : Option Addr} {d11 d12 : Nat} {P11 P12 R1 : List Value} {F1 : List Nat} {w : World} {k j : Nat} {wr : World} (h : Lp p B GA GR b11 d11 b12 d12 P11 P12 R1 F1 w k j wr) : Below w.heap.size w wr := by
  obtain ⟨Q, fq, U, fu, e1, e2, BG, BRc, g1, r11, o11, r12, o12, nd, hf, bw⟩ := h; exact bw
theorem Lp.done {p : Pg} {B GA GR : Nat} {b11 b12 : Option Addr} {d11 d12 : Nat} {P11 P12 R1 : List Value} {F1 : List Nat} {w wr : World} (h : Lp p B GA GR b11 d11 b12 d12 P11 P12 R1 F1 w p.saved.length p.objs.length wr) (l11 : P11.length = p.saved.length * 11) (l12 : P12.length = p.objs.length * 6) :
    ∃ F, PgRows wr B (R1 ++ [.slice b11 p.saved.length d11, .slice b12 p.objs.length d12]) p F ∧ Blk wr GA (R1 ++ [.slice b11 p.saved.length d11, .slice b12 p.objs.length d12]) ∧ Blk wr GR (#[.slice none 0 0, .int .i64 0, .int .i64 0, .int .i64 0, .int .i64 0, .slice none 0 0, .int .i64 0, .int .i64 0, .int .i64 0, .int .i64 0, .int .i64 0, .slice none 0 0, .slice none 0 0] : Array Value).toList := by
  obtain ⟨Q, fq, U, fu, e1, e2, BG, BRc, g1, r11, o11, r12, o12, nd, hf, bw⟩ := h
  rw [← l11, List.drop_length, List.append_nil] at r11
  rw [← l12, List.drop_length, List.append_nil] at r12
  rw [← len_dG, List.take_length] at o11
  rw [← len_dO, List.take_length] at o12
  rw [len_dG] at o11
  rw [len_dO] at o12
  refine ⟨_, ⟨R1, F1, b11, d11, Q, fq, b12, d12, U, fu, rfl, g1, r11, o11, r12, o12, rfl, nd, ?_⟩, BG, BRc⟩
  refine mem2 (p := fun b => B ≤ b) g1.ge (mem2 (p := fun b => B ≤ b) (fun b hb => (rowL_ge r11 b hb).1) (mem2 (p := fun b => B ≤ b) (fun b hb => hf b (List.mem_append_left _ hb)) (mem2 (p := fun b => B ≤ b) (fun b hb => (rowL_ge r12 b hb).1) (fun b hb => hf b (List.mem_append_right _ hb)))))
theorem nd_out1 {F1 fq s fu : List Nat} {g : Nat} (h : (F1 ++ ([g] ++ (fq ++ (s ++ fu)))).Nodup) (hb : g ∈ F1 ++ (s ++ (fq ++ fu))) : False := by
  obtain ⟨_, h2, d⟩ := nodup_parts h
  obtain ⟨_, h3, d2⟩ := nodup_parts h2
  have e := d2 g (by simp)
  rcases List.mem_append.1 hb with h | h
  · exact d g h (by simp)
  · apply e
    simp only [List.mem_append] at h ⊢
    rcases h with h | h | h
    · exact .inr (.inl h)
    · exact .inl h
    · exact .inr (.inr h)
theorem nd_out2 {F1 r fq fu : List Nat} {g : Nat} (h : (F1 ++ (r ++ (fq ++ ([g] ++ fu)))).Nodup) (hb : g ∈ F1 ++ (r ++ (fq ++ fu))) : False := by
  obtain ⟨_, h2, d⟩ := nodup_parts h
  obtain ⟨_, h3, d2⟩ := nodup_parts h2
  obtain ⟨_, h4, d3⟩ := nodup_parts h3
  obtain ⟨_, _, d4⟩ := nodup_parts h4
  simp only [List.mem_append] at hb
  rcases hb with h | h | h | h
  · exact d g h (by simp)
  · exact d2 g h (by simp)
  · exact d3 g h (by simp)
  · exact d4 g (by simp) h
theorem nd_ins1 {F1 r s a b F : List Nat} (h : (F1 ++ (r ++ (a ++ (s ++ b)))).Nodup) (hF : F.Nodup) (d : ∀ x ∈ F1 ++ (r ++ (a ++ (s ++ b))), x ∉ F) : (F1 ++ (r ++ ((a ++ F) ++ (s ++ b)))).Nodup := by
  have h2 := app_nodup h hF d
  refine (List.Perm.nodup_iff ?_).1 h2
  simp only [List.append_assoc]
  refine List.Perm.append_left _ (List.Perm.append_left _ (List.Perm.append_left _ ?_))
  rw [← List.append_assoc, ← List.append_assoc F]
  have := List.perm_append_comm (l₁ := s ++ b) (l₂ := F)
  simpa using this
theorem nd_ins2 {F1 r s a b F : List Nat} (h : (F1 ++ (r ++ (a ++ (s ++ b)))).Nodup) (hF : F.Nodup) (d : ∀ x ∈ F1 ++ (r ++ (a ++ (s ++ b))), x ∉ F) : (F1 ++ (r ++ (a ++ (s ++ (b ++ F))))).Nodup := by
  have h2 := app_nodup h hF d
  simpa [List.append_assoc] using h2
theorem Lp.one {p : Pg} {B GA GR : Nat} {b11 b12 : Option Addr} {d11 d12 : Nat} {P11 P12 R1 : List Value} {F1 : List Nat} {w : World} {k j : Nat} {wr : World} (h : Lp p B GA GR b11 d11 b12 d12 P11 P12 R1 F1 w k j wr)
    {q : List Nat} (O : OwnL w (List.replicate p.saved.length KGraphics) P11 (dG p.saved) q) (hk : k < p.saved.length) (hG : GA < B) (hR : GR < B) (hw : w.heap.size ≤ B) :
    ∃ g C f, b11 = some ⟨g, 0, none⟩ ∧ B ≤ g ∧ g < wr.heap.size ∧ OwnL w LGraphics C.toList p.saved[k].dt f ∧ (hload 42 ⟨g, k * 11, none⟩).run Tryz.prog wr = .ok (.agg C) wr ∧
      ∀ (w5 : World) (R : Array Value) (F : List Nat), Below wr.heap.size wr w5 → OwnL w5 LGraphics R.toList p.saved[k].dt F → F.Nodup → (∀ b ∈ F, wr.heap.size ≤ b) →
        ∃ V, (hstore 42 ⟨g, k * 11, none⟩ (.agg R)).run Tryz.prog w5 = .ok () V ∧ Turns w5 V (fun b => b = g) ∧ Lp p B GA GR b11 d11 b12 d12 P11 P12 R1 F1 w (k + 1) j V := by
  obtain ⟨Q, fq, U, fu, e1, e2, BG, BRc, g1, r11, o11, r12, o12, nd, hf, bw⟩ := h
  have hke : k < (dG p.saved).length := by rw [len_dG]; exact hk
  obtain ⟨A, cs, D, ds, f', hP, lA, lc, he, oc, _⟩ := pick_rep O hke
  have e3 : (dG p.saved)[k] = .st p.saved[k].dt := by simp [dG]
  rw [e3] at he
  injection he with he
  subst he
  have lA' : A.length = k * 11 := lA
  have lc' : cs.length = 11 := lc
  have hd : P11.drop (k * 11) = cs ++ D := by rw [hP, ← lA', List.drop_left]
  have hd2 : P11.drop ((k + 1) * 11) = D := by
    rw [hP, ← List.append_assoc, show (k + 1) * 11 = (A ++ cs).length by rw [List.length_append, lA', lc', Nat.succ_mul], List.drop_left]
  rw [hd] at r11
  obtain ⟨g, rfl, hg, bg, cg, hnc, hcm⟩ := row_cap r11 (by omega)
  have hgr : rowL (.slice (some ⟨g, 0, none⟩) p.saved.length d11) = [g] := rfl
  have hgl := bg.2.2
  have ndg := nd
  rw [hgr] at ndg
  have gOther : ∀ b, b ∈ F1 ++ (rowL (.slice b12 p.objs.length d12) ++ (fq ++ fu)) → b ≠ g := fun b hb e => nd_out1 ndg (e ▸ hb)
  refine ⟨g, cs.toArray, f', rfl, hg, hgl, by simpa using oc, ?_, fun w5 R F hb oR nR gR => ?_⟩
  · exact hload_run (P := Tryz.prog) (t := 42) Tryz.isAgg42 Tryz.sizeOf42 (w := wr) (b := g) (o := k * 11) (us := cs) (Blk.part bg e1) lc
  · have b5 := bg.keep hb
    have lR : R.toList.length = 11 := oR.len
    have st := hstore_run (P := Tryz.prog) (t := 42) Tryz.sizeOf42 (w := w5) (b := g) (o := k * 11) (A := Q) (us := cs) (R := D) (vs := R.toList) b5 e1 (by rw [lR, lc']) lR (fun v hv => oR.one v hv)
    have est : R.toList.toArray = R := by simp
    rw [est] at st
    have BS := Blk.sets (P := Q) (us := cs) (vs := R.toList) (R := D) (w := w5) (b := g) (o := k * 11) b5 e1 (by rw [lR, lc'])
    have cS := (cg.keep hb).sets R.toList (k * 11)
    have tS := turns_sets (S := fun b => b = g) g rfl R.toList (k * 11) w5
    generalize w5.setCells g (k * 11) R.toList = V at st BS cS tS
    refine ⟨V, st, tS, Q ++ R.toList, fq ++ F, U, fu, by rw [List.length_append, e1, lR, Nat.succ_mul], e2, ((BG.keep hb).turned tS (fun e => by have e' : GA = g := e; omega)), ((BRc.keep hb).turned tS (fun e => by have e' : GR = g := e; omega)), ?_, (by rw [hd2]; exact (cap_row (by simpa using BS) cS (by have h2 := r11.1; simp only [List.length_append, e1, lc', lR] at h2 ⊢; omega) hnc hcm hg)), (by rw [List.take_succ_eq_append_getElem hke, e3, List.replicate_succ']; exact ((o11.under hb).turned tS (fun b hm e => gOther b (by simp [hm]) e)).snoc (.st (oR.turned tS (fun b hm e => by have e' : b = g := e; have := gR b hm; omega)))), (row_turned (row_on r12 hb) tS (fun b hm e => gOther b (by simp [hm]) e)), ((o12.under hb).turned tS (fun b hm e => gOther b (by simp [hm]) e)), ?_, ?_, ?_⟩
    · exact (g1.under hb).stays tS.size (fun b hm => tS.block b (by have := g1.lt b hm; have := hb.size; omega) (fun e => gOther b (by simp [hm]) e))
    · exact nd_ins1 nd nR (fun x hx hy => by
        have := gR x hy
        rcases List.mem_append.1 hx with h | h
        · have := g1.lt x h; omega
        rcases List.mem_append.1 h with h | h
        · have := (rowL_ge r11 x h).2; omega
        rcases List.mem_append.1 h with h | h
        · have := o11.lt x h; omega
        rcases List.mem_append.1 h with h | h
        · have := (rowL_ge r12 x h).2; omega
        · have := o12.lt x h; omega)
    · intro b hm
      have hBw : B ≤ wr.heap.size := by omega
      simp only [List.mem_append] at hm
      by_cases hq : b ∈ fq ++ fu
      · exact hf b hq
      · have : b ∈ F := by simp only [List.mem_append] at hq; rcases hm with h | h <;> simp_all
        have := gR b this; omega
    · exact (on_of bw hb).trans (tS.below (by have := bw.size; have := hb.size; omega) (fun x e => by have e' : x = g := e; omega))
theorem Lp.two {p : Pg} {B GA GR : Nat} {b11 b12 : Option Addr} {d11 d12 : Nat} {P11 P12 R1 : List Value} {F1 : List Nat} {w : World} {k j : Nat} {wr : World} (h : Lp p B GA GR b11 d11 b12 d12 P11 P12 R1 F1 w k j wr)
    {q : List Nat} (O : OwnL w (List.replicate p.objs.length KObject) P12 (dO p.objs) q) (hk : j < p.objs.length) (hG : GA < B) (hR : GR < B) (hw : w.heap.size ≤ B) :
    ∃ g C f, b12 = some ⟨g, 0, none⟩ ∧ B ≤ g ∧ g < wr.heap.size ∧ OwnL w LObject C.toList p.objs[j].dt f ∧ (hload 101 ⟨g, j * 6, none⟩).run Tryz.prog wr = .ok (.agg C) wr ∧
      ∀ (w5 : World) (R : Array Value) (F : List Nat), Below wr.heap.size wr w5 → OwnL w5 LObject R.toList p.objs[j].dt F → F.Nodup → (∀ b ∈ F, wr.heap.size ≤ b) →
        ∃ V, (hstore 101 ⟨g, j * 6, none⟩ (.agg R)).run Tryz.prog w5 = .ok () V ∧ Turns w5 V (fun b => b = g) ∧ Lp p B GA GR b11 d11 b12 d12 P11 P12 R1 F1 w k (j + 1) V := by
  obtain ⟨Q, fq, U, fu, e1, e2, BG, BRc, g1, r11, o11, r12, o12, nd, hf, bw⟩ := h
  have hke : j < (dO p.objs).length := by rw [len_dO]; exact hk
  obtain ⟨A, cs, D, ds, f', hP, lA, lc, he, oc, _⟩ := pick_rep O hke
  have e3 : (dO p.objs)[j] = .st p.objs[j].dt := by simp [dO]
  rw [e3] at he
  injection he with he
  subst he
  have lA' : A.length = j * 6 := lA
  have lc' : cs.length = 6 := lc
  have hd : P12.drop (j * 6) = cs ++ D := by rw [hP, ← lA', List.drop_left]
  have hd2 : P12.drop ((j + 1) * 6) = D := by
    rw [hP, ← List.append_assoc, show (j + 1) * 6 = (A ++ cs).length by rw [List.length_append, lA', lc', Nat.succ_mul], List.drop_left]
  rw [hd] at r12
  obtain ⟨g, rfl, hg, bg, cg, hnc, hcm⟩ := row_cap r12 (by omega)
  have hgr : rowL (.slice (some ⟨g, 0, none⟩) p.objs.length d12) = [g] := rfl
  have hgl := bg.2.2
  have ndg := nd
  rw [hgr] at ndg
  have gOther : ∀ b, b ∈ F1 ++ (rowL (.slice b11 p.saved.length d11) ++ (fq ++ fu)) → b ≠ g := fun b hb e => nd_out2 ndg (e ▸ hb)
  refine ⟨g, cs.toArray, f', rfl, hg, hgl, by simpa using oc, ?_, fun w5 R F hb oR nR gR => ?_⟩
  · exact hload_run (P := Tryz.prog) (t := 101) Tryz.isAgg101 Tryz.sizeOf101 (w := wr) (b := g) (o := j * 6) (us := cs) (Blk.part bg e2) lc
  · have b5 := bg.keep hb
    have lR : R.toList.length = 6 := oR.len
    have st := hstore_run (P := Tryz.prog) (t := 101) Tryz.sizeOf101 (w := w5) (b := g) (o := j * 6) (A := U) (us := cs) (R := D) (vs := R.toList) b5 e2 (by rw [lR, lc']) lR (fun v hv => oR.one v hv)
    have est : R.toList.toArray = R := by simp
    rw [est] at st
    have BS := Blk.sets (P := U) (us := cs) (vs := R.toList) (R := D) (w := w5) (b := g) (o := j * 6) b5 e2 (by rw [lR, lc'])
    have cS := (cg.keep hb).sets R.toList (j * 6)
    have tS := turns_sets (S := fun b => b = g) g rfl R.toList (j * 6) w5
    generalize w5.setCells g (j * 6) R.toList = V at st BS cS tS
    refine ⟨V, st, tS, Q, fq, U ++ R.toList, fu ++ F, e1, by rw [List.length_append, e2, lR, Nat.succ_mul], ((BG.keep hb).turned tS (fun e => by have e' : GA = g := e; omega)), ((BRc.keep hb).turned tS (fun e => by have e' : GR = g := e; omega)), ?_, (row_turned (row_on r11 hb) tS (fun b hm e => gOther b (by simp [hm]) e)), ((o11.under hb).turned tS (fun b hm e => gOther b (by simp [hm]) e)), (by rw [hd2]; exact (cap_row (by simpa using BS) cS (by have h2 := r12.1; simp only [List.length_append, e2, lc', lR] at h2 ⊢; omega) hnc hcm hg)), (by rw [List.take_succ_eq_append_getElem hke, e3, List.replicate_succ']; exact ((o12.under hb).turned tS (fun b hm e => gOther b (by simp [hm]) e)).snoc (.st (oR.turned tS (fun b hm e => by have e' : b = g := e; have := gR b hm; omega)))), ?_, ?_, ?_⟩
    · exact (g1.under hb).stays tS.size (fun b hm => tS.block b (by have := g1.lt b hm; have := hb.size; omega) (fun e => gOther b (by simp [hm]) e))
    · exact nd_ins2 nd nR (fun x hx hy => by
        have := gR x hy
        rcases List.mem_append.1 hx with h | h
        · have := g1.lt x h; omega
        rcases List.mem_append.1 h with h | h
        · have := (rowL_ge r11 x h).2; omega
        rcases List.mem_append.1 h with h | h
        · have := o11.lt x h; omega
        rcases List.mem_append.1 h with h | h
        · have := (rowL_ge r12 x h).2; omega
        · have := o12.lt x h; omega)
    · intro b hm
      have hBw : B ≤ wr.heap.size := by omega
      simp only [List.mem_append] at hm
      by_cases hq : b ∈ fq ++ fu
      · exact hf b hq
      · have : b ∈ F := by simp only [List.mem_append] at hq; rcases hm with h | h <;> simp_all
        have := gR b this; omega
    · exact (on_of bw hb).trans (tS.below (by have := bw.size; have := hb.size; omega) (fun x e => by have e' : x = g := e; omega))
end Go.Proofs.YtaapofbccanjhaaGreat.Own
