/-
  Texts of this seat, laid together: ClC, Cap, Obr
-/
import Derived.Deep.RegionHeld3
import Derived.Test.YtjmfgbbngocodaaGreatV23
namespace Go.Proofs.YtjmfgbbngocodaaGreat.Own
open Go.ChangeShapes Go.WideShapes Go.ChangeAt Go.RowKit
open Kit Slabs Ints Stack Point Turn
set_option linter.unusedVariables false
set_option linter.unusedSimpArgs false
set_option linter.unnecessarySimpa false
set_option maxRecDepth 100000
def NewSt (ks : List Kd) (ds : List Dt) (w : World) (e : Ending) (w' : World) : Prop := ∃ (R : Array Value) (f : List Nat), e = .returned (.agg R) ∧ OwnL w' ks R.toList ds f ∧ f.Nodup ∧ (∀ b ∈ f, w.heap.size ≤ b) ∧ Below w.heap.size w w'
attribute [local go_sem ↓] hload_Graphics hload_Object hstore_Graphics hstore_Object
set_option maxHeartbeats 4000000 in
theorem clone_Object (w : World) {A : Array Value} {o : Ob} {fp : List Nat} (hb : bulkL o.dt ≤ 1048576) (h : OwnL w LObject A.toList o.dt fp) :
    Calls Tryz.prog 120 #[.agg A] w fun e w' => ∃ (R : Array Value) (f : List Nat), e = .returned (.agg R) ∧ OwnL w' LObject R.toList o.dt f ∧ f.Nodup ∧ (∀ b ∈ f, w.heap.size ≤ b) ∧ Below w.heap.size w w' := by
  obtain ⟨a0, c0, f0, hA, hf, o0⟩ := inv_Object_ h
  simp only [Ob.dt, bulkL, Dt.bulk, len_dI, len_dP, bulk_dI, bulk_dP] at hb
  simp only [len_dI, len_dP] at hA o0
  obtain ⟨P0, q0, L0, l0, O0, _, e0, _, _⟩ := own_lies o0
  have F0 : q0 = [] ∧ ∀ W, OwnL W (List.replicate o.path.length KPt) P0 (dP o.path) [] := by
    obtain ⟨_, hq, hO⟩ := OwnL.flat (flat_rep rfl _) O0
    subst hq; exact ⟨rfl, hO⟩
  have HF := Lib.hid F0.2
  clear O0 F0 o0
  have hw2 : ((w.alloc (.cells A 101)).alloc (.cells #[.slice none 0 0, .int .i64 0, .int .i64 0, .int .i64 0, .int .i64 0, .int .i64 0] 101)).heap.size = w.heap.size + 2 := by simp
  have BA : Blk ((w.alloc (.cells A 101)).alloc (.cells #[.slice none 0 0, .int .i64 0, .int .i64 0, .int .i64 0, .int .i64 0, .int .i64 0] 101)) w.heap.size A.toList := (Blk.new w A 101 rfl).alloc _
  have BR : Blk ((w.alloc (.cells A 101)).alloc (.cells #[.slice none 0 0, .int .i64 0, .int .i64 0, .int .i64 0, .int .i64 0, .int .i64 0] 101)) (w.heap.size + 1) (#[.slice none 0 0, .int .i64 0, .int .i64 0, .int .i64 0, .int .i64 0, .int .i64 0] : Array Value).toList := Blk.new _ _ 101 (by simp)
  rw [hA] at BA
  have hW : Below w.heap.size w ((w.alloc (.cells A 101)).alloc (.cells #[.slice none 0 0, .int .i64 0, .int .i64 0, .int .i64 0, .int .i64 0, .int .i64 0] 101)) := by go_grown
  have HS := Lib.hid (And.intro BA (And.intro BR (And.intro hW hw2)))
  have l0' : P0.length = o.path.length * 2 := by simpa [Kd.sz, szL] using l0
  have HL := Lib.hid (And.intro L0 (And.intro l0' e0))
  clear BA BR hW hw2 L0 l0 l0' e0 hA h hf
  go_enter Tryz.func120, Tryz.ntmps120
  go_upto_region 1 with (fail)
  obtain ⟨W, hWe⟩ : ∃ W, W = ((w.alloc (.cells A 101)).alloc (.cells #[.slice none 0 0, .int .i64 0, .int .i64 0, .int .i64 0, .int .i64 0, .int .i64 0] 101)) := ⟨_, rfl⟩
  rw [← hWe] at HS ⊢
  clear hWe
  obtain ⟨GA, hGA⟩ : ∃ x, w.heap.size = x := ⟨_, rfl⟩
  obtain ⟨GR, hGR⟩ : ∃ x, w.heap.size + 1 = x := ⟨_, rfl⟩
  have HS2 : Hid (Blk W GA [.slice a0 o.path.length c0, .int .i64 o.gray, .int .i64 o.x0, .int .i64 o.y0, .int .i64 o.x1, .int .i64 o.y1] ∧ Blk W GR (#[.slice none 0 0, .int .i64 0, .int .i64 0, .int .i64 0, .int .i64 0, .int .i64 0] : Array Value).toList) := Lib.hid ⟨hGA ▸ HS.out.1, hGR ▸ HS.out.2.1⟩
  rw [hGR]
  have hWw := Lib.hid HS.out.2.2
  have gA : w.heap.size ≤ GA := by omega
  have gAR : GA < GR := by omega
  have gAW : GA < W.heap.size := by have := hWw.out.2; omega
  have gR : GR < W.heap.size := by have := hWw.out.2; omega
  rw [hGA]
  clear HS hGR hGA
  have k0 := HS2.out.1.1 0 _ rfl
  go_wp2_with fail
  clear k0
  ((with_reducible refine (cop_pts W a0 o.path.length c0 P0 (by omega) HL.out.2.1 HL.out.2.2 (HL.out.1.on hWw.out.1)).mono ?_); rintro e w1 ⟨m0, d0, rfl, r0, b1⟩)
  have B1 := HS2.out.1.keep b1
  have fz := B1.2.1
  have k0 := B1.1 0 _ rfl
  have z1 := b1.size
  have H1 := Lib.hid (And.intro B1 (And.intro r0 b1))
  clear B1 r0 b1
  go_upto_region 2 with (fail)
  clear k0 fz
  have o0 := row_own2 H1.out.2.1 (HF.out w1)
  have g0 := rowF_ge (n := o.path.length) (fq := []) (fun b hb => (rowL_ge H1.out.2.1 b hb).1) (fun b hb => absurd hb List.not_mem_nil)
  have n0 := rowF_nodup (n := o.path.length) (u := .slice m0 o.path.length d0) (fq := []) List.nodup_nil (fun b _ h => absurd h List.not_mem_nil)
  generalize (if o.path.length = 0 then [] else rowL (.slice m0 o.path.length d0) ++ []) = F0 at o0 g0 n0
  have o0 := own_setN o0 (b := GA) (fun h => by have := g0 _ h; omega) 0 (.slice m0 o.path.length d0)
  have BV := Blk.put (P := []) H1.out.1 rfl (.slice m0 o.path.length d0)
  have BR2 := (HS2.out.2.keep H1.out.2.2).other (b' := GA) (by omega) 0 (.slice m0 o.path.length d0)
  have bV := (on_of hWw.out.1 H1.out.2.2).setCell (p := ⟨GA, 0, none⟩) gA (.slice m0 o.path.length d0)
  have sV : (w1.setCell ⟨GA, 0, none⟩ (.slice m0 o.path.length d0)).heap.size = w1.heap.size := by simp [size_sets]
  generalize w1.setCell ⟨GA, 0, none⟩ (.slice m0 o.path.length d0) = V at o0 BV BR2 bV sV ⊢
  have oV := mk_ob o.gray o.x0 o.y0 o.x1 o.y1 o0
  obtain ⟨R, E, s1, s2, s3, e4, tE, bE⟩ := hand_over (P := Tryz.prog) (T := 101) Tryz.isAgg101 Tryz.sizeOf101 BV BR2 rfl oV rfl bV (by omega) (by omega)
  have oE := oV.turned tE (fun b hb e => by have := g0 b hb; have e' : b = GR := e; omega)
  have oE : OwnL E LObject R.toList o.dt F0 := by rw [e4]; exact oE
  have gw : w.heap.size ≤ W.heap.size := hWw.out.1.size
  have HX := Lib.hid (And.intro oE (And.intro bE (And.intro n0 (And.intro g0 s3))))
  clear o0 g0 n0 bV BV BR2 oV oE bE s3 sV e4 tE
  go_wp2
  refine bodyPost_ret (v := .agg R) ?_ rfl ⟨R, _, rfl, HX.out.1, HX.out.2.2.1, fun b hb => by have := HX.out.2.2.2.1 b hb; omega, HX.out.2.1⟩
  exact results_h Tryz.results120 (by rfl) HX.out.2.2.2.2
set_option maxHeartbeats 4000000 in
theorem copy_Object (w : World) {A : Array Value} {o : Ob} {fp : List Nat} (hb : bulkL o.dt ≤ 1048576) (h : OwnL w LObject A.toList o.dt fp) :
    Calls Tryz.prog 63 #[.agg A] w (NewSt LObject o.dt w) := by
  obtain ⟨a0, c0, f0, hA, hf, o0⟩ := inv_Object_ h
  simp only [Ob.dt, bulkL, Dt.bulk, len_dI, len_dP, bulk_dI, bulk_dP] at hb
  simp only [len_dI, len_dP] at hA o0
  obtain ⟨P0, q0, L0, l0, O0, _, e0, _, _⟩ := own_lies o0
  have F0 : q0 = [] ∧ ∀ W, OwnL W (List.replicate o.path.length KPt) P0 (dP o.path) [] := by
    obtain ⟨_, hq, hO⟩ := OwnL.flat (flat_rep rfl _) O0
    subst hq; exact ⟨rfl, hO⟩
  have HF := Lib.hid F0.2
  clear O0 F0 o0
  have hw2 : ((w.alloc (.cells A 101)).alloc (.cells #[.slice none 0 0, .int .i64 0, .int .i64 0, .int .i64 0, .int .i64 0, .int .i64 0] 101)).heap.size = w.heap.size + 2 := by simp
  have BA : Blk ((w.alloc (.cells A 101)).alloc (.cells #[.slice none 0 0, .int .i64 0, .int .i64 0, .int .i64 0, .int .i64 0, .int .i64 0] 101)) w.heap.size A.toList := (Blk.new w A 101 rfl).alloc _
  have BR : Blk ((w.alloc (.cells A 101)).alloc (.cells #[.slice none 0 0, .int .i64 0, .int .i64 0, .int .i64 0, .int .i64 0, .int .i64 0] 101)) (w.heap.size + 1) (#[.slice none 0 0, .int .i64 0, .int .i64 0, .int .i64 0, .int .i64 0, .int .i64 0] : Array Value).toList := Blk.new _ _ 101 (by simp)
  rw [hA] at BA
  have hW : Below w.heap.size w ((w.alloc (.cells A 101)).alloc (.cells #[.slice none 0 0, .int .i64 0, .int .i64 0, .int .i64 0, .int .i64 0, .int .i64 0] 101)) := by go_grown
  have HS := Lib.hid (And.intro BA (And.intro BR (And.intro hW hw2)))
  have l0' : P0.length = o.path.length * 2 := by simpa [Kd.sz, szL] using l0
  have HL := Lib.hid (And.intro L0 (And.intro l0' e0))
  clear BA BR hW hw2 L0 l0 l0' e0 hA h hf
  go_enter Tryz.func63, Tryz.ntmps63
  go_upto_region 1 with (fail)
  obtain ⟨W, hWe⟩ : ∃ W, W = ((w.alloc (.cells A 101)).alloc (.cells #[.slice none 0 0, .int .i64 0, .int .i64 0, .int .i64 0, .int .i64 0, .int .i64 0] 101)) := ⟨_, rfl⟩
  rw [← hWe] at HS ⊢
  clear hWe
  obtain ⟨GA, hGA⟩ : ∃ x, w.heap.size = x := ⟨_, rfl⟩
  obtain ⟨GR, hGR⟩ : ∃ x, w.heap.size + 1 = x := ⟨_, rfl⟩
  have HS2 : Hid (Blk W GA [.slice a0 o.path.length c0, .int .i64 o.gray, .int .i64 o.x0, .int .i64 o.y0, .int .i64 o.x1, .int .i64 o.y1] ∧ Blk W GR (#[.slice none 0 0, .int .i64 0, .int .i64 0, .int .i64 0, .int .i64 0, .int .i64 0] : Array Value).toList) := Lib.hid ⟨hGA ▸ HS.out.1, hGR ▸ HS.out.2.1⟩
  rw [hGR]
  have hWw := Lib.hid HS.out.2.2
  have gA : w.heap.size ≤ GA := by omega
  have gAR : GA < GR := by omega
  have gAW : GA < W.heap.size := by have := hWw.out.2; omega
  have gR : GR < W.heap.size := by have := hWw.out.2; omega
  rw [hGA]
  clear HS hGR hGA
  have hS : ∀ w', Blk w' GA [.slice a0 o.path.length c0, .int .i64 o.gray, .int .i64 o.x0, .int .i64 o.y0, .int .i64 o.x1, .int .i64 o.y1] → w'.cell? ⟨GA, 0, none⟩ = some (.slice a0 o.path.length c0) ∧ w'.cell? ⟨GA, 1, none⟩ = some (.int .i64 o.gray) ∧ w'.cell? ⟨GA, 2, none⟩ = some (.int .i64 o.x0) ∧ w'.cell? ⟨GA, 3, none⟩ = some (.int .i64 o.y0) ∧ w'.cell? ⟨GA, 4, none⟩ = some (.int .i64 o.x1) ∧ w'.cell? ⟨GA, 5, none⟩ = some (.int .i64 o.y1) := fun w' B => ⟨B.1 0 _ rfl, B.1 1 _ rfl, B.1 2 _ rfl, B.1 3 _ rfl, B.1 4 _ rfl, B.1 5 _ rfl⟩
  have HK := Lib.hid hS
  clear hS
  have HO := Lib.hid (show (W.alloc (.cells #[] 109)).drew.ownsRow W.heap.size 109 2 (.slice (some ⟨W.heap.size, 0, none⟩) 0 0) 0 [] from World.ownsRow_made W #[] (e := 109) (size := 2) 0 (Nat.le_refl _) (by decide) (by simp))
  have HL5 := Lib.hid ((HL.out.1.on hWw.out.1).on (show Below W.heap.size W (W.alloc (.cells #[] 109)).drew from by go_grown))
  go_region_held3 (fun w' => w'.cell? ⟨GA, 0, none⟩ = some (.slice a0 o.path.length c0) ∧ w'.cell? ⟨GA, 1, none⟩ = some (.int .i64 o.gray) ∧ w'.cell? ⟨GA, 2, none⟩ = some (.int .i64 o.x0) ∧ w'.cell? ⟨GA, 3, none⟩ = some (.int .i64 o.y0) ∧ w'.cell? ⟨GA, 4, none⟩ = some (.int .i64 o.x1) ∧ w'.cell? ⟨GA, 5, none⟩ = some (.int .i64 o.y1)) (first | exact HK.out _ HBE.out | exact HK.out _ (HS2.out.1.keep hB) | exact HK.out _ (HS2.out.1.keep (by go_grown)))
    ((refine step_append_sl et_pts rfl _ _ rfl W.heap.size _ 0 _ [] rfl HO.out a0 o.path.length c0 P0 rfl HL.out.2.1 HL5.out HL.out.2.2 (by unfold maxLen; omega) (by omega) (by simp) ?_; intro m0 d0 w2 r0 hgrow hsub; have hB : Below W.heap.size W w2 := (show Below W.heap.size W (W.alloc (.cells #[] 109)).drew from by go_grown).grown hgrow (by simp) (fun q hq => by have := (HO.out.lt q hq).1; exact this); have r0' : w2.ownsRow W.heap.size 109 2 (.slice m0 o.path.length d0) o.path.length P0 := (by simpa using r0); have H1 := Lib.hid (And.intro r0' hB); clear r0 r0'; have o0 := row_own2 H1.out.1 (HF.out w2); have g0 := rowF_ge (n := o.path.length) (fq := []) (fun b hb => (rowL_ge H1.out.1 b hb).1) (fun b hb => absurd hb List.not_mem_nil); have n0 := rowF_nodup (n := o.path.length) (u := .slice m0 o.path.length d0) (fq := []) List.nodup_nil (fun b _ h => absurd h List.not_mem_nil); generalize (if o.path.length = 0 then [] else rowL (.slice m0 o.path.length d0) ++ []) = F0 at o0 g0 n0; have oV := mk_ob o.gray o.x0 o.y0 o.x1 o.y1 o0; obtain ⟨E, st, BX, tt⟩ := var_put (P := Tryz.prog) (T := 101) (R := #[.slice m0 o.path.length d0, .int .i64 o.gray, .int .i64 o.x0, .int .i64 o.y0, .int .i64 o.x1, .int .i64 o.y1]) Tryz.sizeOf101 (HS2.out.2.keep hB) rfl oV rfl; have hz := hB.size; have HX := Lib.hid (And.intro (oV.turned tt (fun b hb e => by have := g0 b hb; omega)) (And.intro BX (And.intro g0 (And.intro n0 ((on_of hWw.out.1 hB).trans (tt.below (by have := hWw.out.2; omega) (fun k e => by have : k = GR := e; omega))))))); have HBE := Lib.hid ((HS2.out.1.keep hB).turned tt (fun e => by have : GA = GR := e; omega)); clear o0 g0 n0 oV BX tt))
  have lo := var_load (P := Tryz.prog) (T := 101) Tryz.isAgg101 Tryz.sizeOf101 HX.out.2.1 HX.out.1 rfl
  have HLo := Lib.hid lo
  have gw : w.heap.size ≤ W.heap.size := hWw.out.1.size
  clear lo
  go_wp2
  refine bodyPost_ret (v := .agg _) ?_ rfl ⟨_, _, rfl, HX.out.1, HX.out.2.2.2.1, fun b hb => by have := HX.out.2.2.1 b hb; omega, HX.out.2.2.2.2⟩
  exact results_h Tryz.results63 (by rfl) HLo.out
end Go.Proofs.YtjmfgbbngocodaaGreat.Own

namespace Go.Proofs.YtjmfgbbngocodaaGreat.Own
open Go.ChangeShapes Go.WideShapes Go.ChangeAt Go.RowKit
open Kit Slabs Ints Stack Point Turn
set_option linter.unusedVariables false
set_option linter.unusedSimpArgs false
set_option linter.unnecessarySimpa false
def Cap (w : World) (g : Nat) (T : TypeId) (m : Nat) : Prop := ∃ cur : Array Value, w.heap[g]? = some (.cells cur T (0, 0)) ∧ cur.size = m
theorem Cap.stays {w w' : World} {g : Nat} {T : TypeId} {m : Nat} (h : Cap w g T m) (e : w'.heap[g]? = w.heap[g]?) : Cap w' g T m := by
  obtain ⟨cur, h1, h2⟩ := h; exact ⟨cur, e.trans h1, h2⟩
theorem Cap.lt {w : World} {g : Nat} {T : TypeId} {m : Nat} (h : Cap w g T m) : g < w.heap.size := by
  obtain ⟨cur, h1, _⟩ := h; exact (Array.getElem?_eq_some_iff.1 h1).1
theorem Cap.keep {w w' : World} {g : Nat} {T : TypeId} {m : Nat} (h : Cap w g T m) (hb : Below w.heap.size w w') : Cap w' g T m := h.stays (hb.block g h.lt)
theorem Cap.turned {w w' : World} {g : Nat} {T : TypeId} {m : Nat} {S : Nat → Prop} (h : Cap w g T m) (ht : Turns w w' S) (hS : ¬ S g) : Cap w' g T m := h.stays (ht.block g h.lt hS)
theorem Cap.set {w : World} {g : Nat} {T : TypeId} {m : Nat} (h : Cap w g T m) (i : Nat) (v : Value) : Cap (w.setCell ⟨g, i, none⟩ v) g T m := by
  obtain ⟨cur, h1, h2⟩ := h
  exact ⟨_, heap_setCell_same w g i cur T v h1, by simpa using h2⟩
theorem Cap.sets {g : Nat} {T : TypeId} {m : Nat} : ∀ (vs : List Value) (o : Nat) {w : World}, Cap w g T m → Cap (w.setCells g o vs) g T m
  | [], _, _, h => h
  | v :: r, o, w, h => Cap.sets r (o + 1) (h.set o v)
theorem row_cap {w : World} {B : Nat} {T : TypeId} {k n : Nat} {a : Option Addr} {c : Nat} {P : List Value} (h : w.ownsRow B T k (.slice a n c) n P) (h0 : n ≠ 0) :
    ∃ g, a = some ⟨g, 0, none⟩ ∧ B ≤ g ∧ Blk w g P ∧ Cap w g T (c * k) ∧ n ≤ c ∧ c ≤ maxLen := by
  obtain ⟨a', c', he, _, hb⟩ := row_blk h
  injection he with h1 h2 h3
  subst h1; subst h3
  obtain ⟨g, rfl, hb2⟩ := hb h0
  rcases h.2 with ⟨_, h2⟩ | ⟨g', cap, cur, hv, hB, hg, hnc, hm, hs, _⟩
  · exact absurd h2 h0
  · injection hv with h1 h2 h3
    injection h1 with h1
    injection h1 with h1
    subst h1; subst h3
    exact ⟨_, rfl, hB, hb2, ⟨cur, hg, hs⟩, hnc, hm⟩
theorem cap_row {w : World} {B g : Nat} {T : TypeId} {k n c : Nat} {P : List Value} (hb : Blk w g P) (hc : Cap w g T (c * k)) (hl : P.length = n * k) (hn : n ≤ c) (hm : c ≤ maxLen) (hB : B ≤ g) :
    w.ownsRow B T k (.slice (some ⟨g, 0, none⟩) n c) n P := by
  obtain ⟨cur, h1, h2⟩ := hc
  refine ⟨hl, .inr ⟨g, c, cur, rfl, hB, h1, hn, hm, h2, ?_⟩⟩
  have hle : n * k ≤ cur.size := by rw [h2]; exact Nat.mul_le_mul_right _ hn
  apply List.ext_getElem
  · simp; omega
  · intro i i1 i2
    have hv := hb.1 i P[i] (List.getElem?_eq_getElem i2)
    rw [cell_of_row _ _ _ _ _ _ h1] at hv
    have i3 : i < cur.size := by omega
    rw [Array.getElem?_eq_getElem i3] at hv
    simpa using hv
theorem pick_rep {w : World} {ks : List Kd} : ∀ {n i : Nat} {P : List Value} {es : List Dt} {f : List Nat}, OwnL w (List.replicate n (.st ks)) P es f → (hi : i < es.length) →
    ∃ A cs D ds f', P = A ++ (cs ++ D) ∧ A.length = i * szL ks ∧ cs.length = szL ks ∧ es[i] = .st ds ∧ OwnL w ks cs ds f' ∧ (∀ b ∈ f', b ∈ f)
  | 0, i, P, es, f, h, hi => by
    cases h; simp at hi
  | n + 1, 0, P, es, f, h, hi => by
    rw [List.replicate_succ] at h
    cases h with
    | cons h r =>
      cases h with
      | st h => exact ⟨[], _, _, _, _, rfl, by simp, h.len, rfl, h, fun b hb => List.mem_append_left _ hb⟩
  | n + 1, i + 1, P, es, f, h, hi => by
    rw [List.replicate_succ] at h
    cases h with
    | cons h r =>
      obtain ⟨A, cs, D, ds, f', rfl, e1, e2, e3, o, e4⟩ := pick_rep r (i := i) (by simpa using hi)
      exact ⟨_ ++ A, cs, D, ds, f', (List.append_assoc _ _ _).symm, by rw [List.length_append, h.len, e1, Kd.sz, Nat.succ_mul]; omega, e2, by simpa using e3, o, fun b hb => List.mem_append_right _ (e4 b hb)⟩
end Go.Proofs.YtjmfgbbngocodaaGreat.Own

namespace Go.Proofs.YtjmfgbbngocodaaGreat.Own
open Go.ChangeShapes Go.WideShapes Go.ChangeAt Go.RowKit
open Kit Slabs Ints Point
set_option linter.unusedVariables false
set_option linter.unusedSimpArgs false
set_option linter.unnecessarySimpa false
def ObsRow (w : World) (B : Nat) (a : Option Addr) (c : Nat) (l : List Ob) (F : List Nat) : Prop := ∃ (P : List Value) (f : List Nat), w.ownsRow B 101 6 (.slice a l.length c) l.length P ∧ OwnL w (List.replicate l.length KObject) P (dO l) f ∧ F = rowL (.slice a l.length c) ++ f ∧ F.Nodup ∧ ∀ b ∈ F, B ≤ b
theorem ObsRow.nil (w : World) (B : Nat) : ObsRow w B none 0 [] [] := ⟨[], [], World.ownsRow_nil _ _ _ _, .nil, rfl, List.nodup_nil, fun b hb => absurd hb List.not_mem_nil⟩
theorem ObsRow.lt {w : World} {B : Nat} {a : Option Addr} {c : Nat} {l : List Ob} {F : List Nat} (h : ObsRow w B a c l F) : ∀ b ∈ F, b < w.heap.size := by
  obtain ⟨P, f, r, o, rfl, hn, hB⟩ := h
  exact mem2 (p := fun b => b < w.heap.size) (fun b hb => (rowL_ge r b hb).2) o.lt
theorem ObsRow.ge {w : World} {B : Nat} {a : Option Addr} {c : Nat} {l : List Ob} {F : List Nat} (h : ObsRow w B a c l F) : ∀ b ∈ F, B ≤ b := by
  obtain ⟨P, f, r, o, rfl, hn, hB⟩ := h; exact hB
theorem ObsRow.nodup {w : World} {B : Nat} {a : Option Addr} {c : Nat} {l : List Ob} {F : List Nat} (h : ObsRow w B a c l F) : F.Nodup := by
  obtain ⟨P, f, r, o, rfl, hn, hB⟩ := h; exact hn
theorem ObsRow.stays {w w' : World} {B : Nat} {a : Option Addr} {c : Nat} {l : List Ob} {F : List Nat} (h : ObsRow w B a c l F) (hs : w.heap.size ≤ w'.heap.size) (hb : ∀ b ∈ F, w'.heap[b]? = w.heap[b]?) : ObsRow w' B a c l F := by
  obtain ⟨P, f, r, o, rfl, hn, hB⟩ := h
  exact ⟨P, f, row_stays r (fun b hm => hb b (by simp [hm])), o.stays hs (fun b hm => hb b (by simp [hm])), rfl, hn, hB⟩
theorem ObsRow.under {w w' : World} {B : Nat} {a : Option Addr} {c : Nat} {l : List Ob} {F : List Nat} (h : ObsRow w B a c l F) (hb : Below w.heap.size w w') : ObsRow w' B a c l F := h.stays hb.size (fun b hm => hb.block b (h.lt b hm))
theorem ObsRow.turned {w w' : World} {B : Nat} {a : Option Addr} {c : Nat} {l : List Ob} {F : List Nat} {S : Nat → Prop} (h : ObsRow w B a c l F) (ht : Turns w w' S) (hS : ∀ b ∈ F, ¬ S b) : ObsRow w' B a c l F := h.stays ht.size (fun b hm => ht.block b (h.lt b hm) (hS b hm))
theorem ObsRow.base {w : World} {B C : Nat} {a : Option Addr} {c : Nat} {l : List Ob} {F : List Nat} (h : ObsRow w B a c l F) (hC : C ≤ B) : ObsRow w C a c l F := by
  obtain ⟨P, f, r, o, rfl, hn, hB⟩ := h
  exact ⟨P, f, row_base r hC, o, rfl, hn, fun b hb => Nat.le_trans hC (hB b hb)⟩
theorem ObsRow.own {w : World} {B : Nat} {a : Option Addr} {c : Nat} {l : List Ob} {F : List Nat} (h : ObsRow w B a c l F) : ∃ f, Own w (.sl KObject) [.slice a l.length c] (.sl (dO l)) f ∧ f.Nodup ∧ ∀ b ∈ f, b ∈ F := by
  obtain ⟨P, f, r, o, rfl, hn, hB⟩ := h
  obtain ⟨n1, n2, d⟩ := nodup_parts hn
  refine ⟨_, row_own2 r o, rowF_nodup n2 d, fun b hb => ?_⟩
  rcases rowF_sub b hb with h | h
  · exact List.mem_append_left _ h
  · exact List.mem_append_right _ h
theorem ObsRow.next {w : World} {B : Nat} {a : Option Addr} {c : Nat} {l : List Ob} {F : List Nat} (h : ObsRow w B a c l F) : ∃ P, w.ownsRow B 101 6 (.slice a l.length c) l.length P ∧ ∀ (w1 w' : World) (a' : Option Addr) (c' : Nat) (us : List Value) (o : Ob) (f : List Nat),
    Below w.heap.size w w1 → OwnL w1 LObject us o.dt f → f.Nodup → (∀ b ∈ f, w.heap.size ≤ b) → B ≤ w.heap.size → w'.ownsRow B 101 6 (.slice a' (l.length + 1) c') (l.length + 1) (P ++ us) → w1.grownBy w' (Value.ownBlock (.slice a l.length c)) → (∀ b ∈ rowL (.slice a' (l.length + 1) c'), b ∈ rowL (.slice a l.length c) ∨ w1.heap.size ≤ b) →
    ∃ F', ObsRow w' B a' c' (l ++ [o]) F' ∧ (∀ b ∈ F', b ∈ F ∨ w.heap.size ≤ b) ∧ Turns w w' (fun b => b ∈ F) := by
  obtain ⟨P, f0, r, o0, rfl, hn, hB⟩ := h
  obtain ⟨n1, n2, d⟩ := nodup_parts hn
  refine ⟨P, r, fun w1 w' a' c' us o f hb ho hf hge hBw hown hg hnew => ?_⟩
  have hlt := rowL_ge r
  have ht := Turns.of_grown hg
  have hl : (l ++ [o]).length = l.length + 1 := by simp
  have hOw : OwnL w' (List.replicate (l.length + 1) KObject) (P ++ us) (dO (l ++ [o])) (f0 ++ f) := by
    rw [List.replicate_succ', show dO (l ++ [o]) = dO l ++ [.st o.dt] by simp [dO]]
    refine OwnL.snoc ((o0.under hb).turned ht (fun b hb2 e => d b (by simp [rowL, e]) hb2)) (.st (ho.turned ht (fun b hb2 e => ?_)))
    have := hlt b (by simp [rowL, e])
    have := hge b hb2
    omega
  have dd : ∀ b ∈ rowL (.slice a' (l.length + 1) c'), b ∉ f0 ++ f := fun b hm hx => by
    rcases hnew b hm with h | h
    · rcases List.mem_append.1 hx with k | k
      · exact d b h k
      · have := hlt b h; have := hge b k; omega
    · rcases List.mem_append.1 hx with k | k
      · have := o0.lt b k; have := hb.size; omega
      · have := ho.lt b k; omega
  refine ⟨rowL (.slice a' (l.length + 1) c') ++ (f0 ++ f), ⟨P ++ us, f0 ++ f, by rw [hl]; exact hown, by rw [hl]; exact hOw, by rw [hl], app_nodup (rowL_nodup _) (app_nodup n2 hf (fun x hx hy => by have := hge x hy; have := o0.lt x hx; omega)) dd, ?_⟩, ?_, ?_⟩
  · intro b hm
    rcases List.mem_append.1 hm with h | h
    · exact (rowL_ge hown b h).1
    · rcases List.mem_append.1 h with h | h
      · exact hB b (List.mem_append_right _ h)
      · exact Nat.le_trans hBw (hge b h)
  · intro b hm
    rcases List.mem_append.1 hm with h | h
    · rcases hnew b h with h | h
      · exact .inl (List.mem_append_left _ h)
      · exact .inr (by have := hb.size; omega)
    · rcases List.mem_append.1 h with h | h
      · exact .inl (List.mem_append_right _ h)
      · exact .inr (hge b h)
  · exact (Turns.of_below hb).trans (ht.mono (fun k hk => List.mem_append_left _ (by simp [rowL, hk])))
def ObsNew (l : List Ob) (w : World) (e : Ending) (w' : World) : Prop := ∃ (a : Option Addr) (c : Nat) (F : List Nat), e = .returned (.slice a l.length c) ∧ ObsRow w' w.heap.size a c l F ∧ Below w.heap.size w w'
end Go.Proofs.YtjmfgbbngocodaaGreat.Own

