/-
  Texts of this seat, laid together: ClC, ClD
-/
import Derived.Deep.RegionHeld3
import Derived.Test.YtnkookegoicfnaaGreatW22
namespace Go.Proofs.YtnkookegoicfnaaGreat.Own
open Go.ChangeShapes Go.WideShapes Go.ChangeAt Go.RowKit
open Kit Slabs Ints Stack Point Turn
set_option linter.unusedVariables false
set_option linter.unusedSimpArgs false
set_option linter.unnecessarySimpa false
set_option maxRecDepth 100000
def NewSt (ks : List Kd) (ds : List Dt) (w : World) (e : Ending) (w' : World) : Prop := ∃ (R : Array Value) (f : List Nat), e = .returned (.agg R) ∧ OwnL w' ks R.toList ds f ∧ f.Nodup ∧ (∀ b ∈ f, w.heap.size ≤ b) ∧ Below w.heap.size w w'
attribute [local go_sem ↓] hload_Graphics hload_Object hstore_Graphics hstore_Object
set_option maxHeartbeats 4000000 in
theorem clone_Object (w : World) {A : Array Value} {o : Ob} {fp : List Nat} (hb : bulkL o.dt ≤ 1048576) (h : OwnL w LObject A.toList o.dt fp) :
    Calls Tryz.prog 84 #[.agg A] w fun e w' => ∃ (R : Array Value) (f : List Nat), e = .returned (.agg R) ∧ OwnL w' LObject R.toList o.dt f ∧ f.Nodup ∧ (∀ b ∈ f, w.heap.size ≤ b) ∧ Below w.heap.size w w' := by
  obtain ⟨a0, c0, f0, hA, hf, o0⟩ := inv_Object_ h
  simp only [Ob.dt, bulkL, Dt.bulk, len_dI, len_dP, bulk_dI, bulk_dP] at hb
  simp only [len_dI, len_dP] at hA o0
  obtain ⟨P0, q0, L0, l0, O0, _, e0, _, _⟩ := own_lies o0
  have F0 : q0 = [] ∧ ∀ W, OwnL W (List.replicate o.path.length KPt) P0 (dP o.path) [] := by
    obtain ⟨_, hq, hO⟩ := OwnL.flat (flat_rep rfl _) O0
    subst hq; exact ⟨rfl, hO⟩
  have HF := Lib.hid F0.2
  clear O0 F0 o0
  have hw2 : ((w.alloc (.cells A 101)).alloc (.cells #[.slice none 0 0, .int .i64 0, .int .i64 0, .int .i64 0, .int .i64 0, .int .i64 0] 101)).heap.size = w.heap.size + 2 := by simp
  have BA : Blk ((w.alloc (.cells A 101)).alloc (.cells #[.slice none 0 0, .int .i64 0, .int .i64 0, .int .i64 0, .int .i64 0, .int .i64 0] 101)) w.heap.size A.toList := (Blk.new w A 101 rfl).alloc _
  have BR : Blk ((w.alloc (.cells A 101)).alloc (.cells #[.slice none 0 0, .int .i64 0, .int .i64 0, .int .i64 0, .int .i64 0, .int .i64 0] 101)) (w.heap.size + 1) (#[.slice none 0 0, .int .i64 0, .int .i64 0, .int .i64 0, .int .i64 0, .int .i64 0] : Array Value).toList := Blk.new _ _ 101 (by simp)
  rw [hA] at BA
  have hW : Below w.heap.size w ((w.alloc (.cells A 101)).alloc (.cells #[.slice none 0 0, .int .i64 0, .int .i64 0, .int .i64 0, .int .i64 0, .int .i64 0] 101)) := by go_grown
  have HS := Lib.hid (And.intro BA (And.intro BR (And.intro hW hw2)))
  have l0' : P0.length = o.path.length * 2 := by simpa [Kd.sz, szL] using l0
  have HL := Lib.hid (And.intro L0 (And.intro l0' e0))
  clear BA BR hW hw2 L0 l0 l0' e0 hA h hf
  go_enter Tryz.func84, Tryz.ntmps84
  go_upto_region 1 with (fail)
  obtain ⟨W, hWe⟩ : ∃ W, W = ((w.alloc (.cells A 101)).alloc (.cells #[.slice none 0 0, .int .i64 0, .int .i64 0, .int .i64 0, .int .i64 0, .int .i64 0] 101)) := ⟨_, rfl⟩
  rw [← hWe] at HS ⊢
  clear hWe
  obtain ⟨GA, hGA⟩ : ∃ x, w.heap.size = x := ⟨_, rfl⟩
  obtain ⟨GR, hGR⟩ : ∃ x, w.heap.size + 1 = x := ⟨_, rfl⟩
  have HS2 : Hid (Blk W GA [.slice a0 o.path.length c0, .int .i64 o.gray, .int .i64 o.x0, .int .i64 o.y0, .int .i64 o.x1, .int .i64 o.y1] ∧ Blk W GR (#[.slice none 0 0, .int .i64 0, .int .i64 0, .int .i64 0, .int .i64 0, .int .i64 0] : Array Value).toList) := Lib.hid ⟨hGA ▸ HS.out.1, hGR ▸ HS.out.2.1⟩
  rw [hGR]
  have hWw := Lib.hid HS.out.2.2
  have gA : w.heap.size ≤ GA := by omega
  have gAR : GA < GR := by omega
  have gAW : GA < W.heap.size := by have := hWw.out.2; omega
  have gR : GR < W.heap.size := by have := hWw.out.2; omega
  rw [hGA]
  clear HS hGR hGA
  have k0 := HS2.out.1.1 0 _ rfl
  go_wp2_with fail
  clear k0
  ((with_reducible refine (cop_pts W a0 o.path.length c0 P0 (by omega) HL.out.2.1 HL.out.2.2 (HL.out.1.on hWw.out.1)).mono ?_); rintro e w1 ⟨m0, d0, rfl, r0, b1⟩)
  have B1 := HS2.out.1.keep b1
  have fz := B1.2.1
  have k0 := B1.1 0 _ rfl
  have z1 := b1.size
  have H1 := Lib.hid (And.intro B1 (And.intro r0 b1))
  clear B1 r0 b1
  go_upto_region 2 with (fail)
  clear k0 fz
  have o0 := row_own2 H1.out.2.1 (HF.out w1)
  have g0 := rowF_ge (n := o.path.length) (fq := []) (fun b hb => (rowL_ge H1.out.2.1 b hb).1) (fun b hb => absurd hb List.not_mem_nil)
  have n0 := rowF_nodup (n := o.path.length) (u := .slice m0 o.path.length d0) (fq := []) List.nodup_nil (fun b _ h => absurd h List.not_mem_nil)
  generalize (if o.path.length = 0 then [] else rowL (.slice m0 o.path.length d0) ++ []) = F0 at o0 g0 n0
  have o0 := own_setN o0 (b := GA) (fun h => by have := g0 _ h; omega) 0 (.slice m0 o.path.length d0)
  have BV := Blk.put (P := []) H1.out.1 rfl (.slice m0 o.path.length d0)
  have BR2 := (HS2.out.2.keep H1.out.2.2).other (b' := GA) (by omega) 0 (.slice m0 o.path.length d0)
  have bV := (on_of hWw.out.1 H1.out.2.2).setCell (p := ⟨GA, 0, none⟩) gA (.slice m0 o.path.length d0)
  have sV : (w1.setCell ⟨GA, 0, none⟩ (.slice m0 o.path.length d0)).heap.size = w1.heap.size := by simp [size_sets]
  generalize w1.setCell ⟨GA, 0, none⟩ (.slice m0 o.path.length d0) = V at o0 BV BR2 bV sV ⊢
  have oV := mk_ob o.gray o.x0 o.y0 o.x1 o.y1 o0
  obtain ⟨R, E, s1, s2, s3, e4, tE, bE⟩ := hand_over (P := Tryz.prog) (T := 101) Tryz.isAgg101 Tryz.sizeOf101 BV BR2 rfl oV rfl bV (by omega) (by omega)
  have oE := oV.turned tE (fun b hb e => by have := g0 b hb; have e' : b = GR := e; omega)
  have oE : OwnL E LObject R.toList o.dt F0 := by rw [e4]; exact oE
  have gw : w.heap.size ≤ W.heap.size := hWw.out.1.size
  have HX := Lib.hid (And.intro oE (And.intro bE (And.intro n0 (And.intro g0 s3))))
  clear o0 g0 n0 bV BV BR2 oV oE bE s3 sV e4 tE
  go_wp2
  refine bodyPost_ret (v := .agg R) ?_ rfl ⟨R, _, rfl, HX.out.1, HX.out.2.2.1, fun b hb => by have := HX.out.2.2.2.1 b hb; omega, HX.out.2.1⟩
  exact results_h Tryz.results84 (by rfl) HX.out.2.2.2.2
set_option maxHeartbeats 4000000 in
theorem copy_Object (w : World) {A : Array Value} {o : Ob} {fp : List Nat} (hb : bulkL o.dt ≤ 1048576) (h : OwnL w LObject A.toList o.dt fp) :
    Calls Tryz.prog 63 #[.agg A] w (NewSt LObject o.dt w) := by
  obtain ⟨a0, c0, f0, hA, hf, o0⟩ := inv_Object_ h
  simp only [Ob.dt, bulkL, Dt.bulk, len_dI, len_dP, bulk_dI, bulk_dP] at hb
  simp only [len_dI, len_dP] at hA o0
  obtain ⟨P0, q0, L0, l0, O0, _, e0, _, _⟩ := own_lies o0
  have F0 : q0 = [] ∧ ∀ W, OwnL W (List.replicate o.path.length KPt) P0 (dP o.path) [] := by
    obtain ⟨_, hq, hO⟩ := OwnL.flat (flat_rep rfl _) O0
    subst hq; exact ⟨rfl, hO⟩
  have HF := Lib.hid F0.2
  clear O0 F0 o0
  have hw2 : ((w.alloc (.cells A 101)).alloc (.cells #[.slice none 0 0, .int .i64 0, .int .i64 0, .int .i64 0, .int .i64 0, .int .i64 0] 101)).heap.size = w.heap.size + 2 := by simp
  have BA : Blk ((w.alloc (.cells A 101)).alloc (.cells #[.slice none 0 0, .int .i64 0, .int .i64 0, .int .i64 0, .int .i64 0, .int .i64 0] 101)) w.heap.size A.toList := (Blk.new w A 101 rfl).alloc _
  have BR : Blk ((w.alloc (.cells A 101)).alloc (.cells #[.slice none 0 0, .int .i64 0, .int .i64 0, .int .i64 0, .int .i64 0, .int .i64 0] 101)) (w.heap.size + 1) (#[.slice none 0 0, .int .i64 0, .int .i64 0, .int .i64 0, .int .i64 0, .int .i64 0] : Array Value).toList := Blk.new _ _ 101 (by simp)
  rw [hA] at BA
  have hW : Below w.heap.size w ((w.alloc (.cells A 101)).alloc (.cells #[.slice none 0 0, .int .i64 0, .int .i64 0, .int .i64 0, .int .i64 0, .int .i64 0] 101)) := by go_grown
  have HS := Lib.hid (And.intro BA (And.intro BR (And.intro hW hw2)))
  have l0' : P0.length = o.path.length * 2 := by simpa [Kd.sz, szL] using l0
  have HL := Lib.hid (And.intro L0 (And.intro l0' e0))
  clear BA BR hW hw2 L0 l0 l0' e0 hA h hf
  go_enter Tryz.func63, Tryz.ntmps63
  go_upto_region 1 with (fail)
  obtain ⟨W, hWe⟩ : ∃ W, W = ((w.alloc (.cells A 101)).alloc (.cells #[.slice none 0 0, .int .i64 0, .int .i64 0, .int .i64 0, .int .i64 0, .int .i64 0] 101)) := ⟨_, rfl⟩
  rw [← hWe] at HS ⊢
  clear hWe
  obtain ⟨GA, hGA⟩ : ∃ x, w.heap.size = x := ⟨_, rfl⟩
  obtain ⟨GR, hGR⟩ : ∃ x, w.heap.size + 1 = x := ⟨_, rfl⟩
  have HS2 : Hid (Blk W GA [.slice a0 o.path.length c0, .int .i64 o.gray, .int .i64 o.x0, .int .i64 o.y0, .int .i64 o.x1, .int .i64 o.y1] ∧ Blk W GR (#[.slice none 0 0, .int .i64 0, .int .i64 0, .int .i64 0, .int .i64 0, .int .i64 0] : Array Value).toList) := Lib.hid ⟨hGA ▸ HS.out.1, hGR ▸ HS.out.2.1⟩
  rw [hGR]
  have hWw := Lib.hid HS.out.2.2
  have gA : w.heap.size ≤ GA := by omega
  have gAR : GA < GR := by omega
  have gAW : GA < W.heap.size := by have := hWw.out.2; omega
  have gR : GR < W.heap.size := by have := hWw.out.2; omega
  rw [hGA]
  clear HS hGR hGA
  have hS : ∀ w', Blk w' GA [.slice a0 o.path.length c0, .int .i64 o.gray, .int .i64 o.x0, .int .i64 o.y0, .int .i64 o.x1, .int .i64 o.y1] → w'.cell? ⟨GA, 0, none⟩ = some (.slice a0 o.path.length c0) ∧ w'.cell? ⟨GA, 1, none⟩ = some (.int .i64 o.gray) ∧ w'.cell? ⟨GA, 2, none⟩ = some (.int .i64 o.x0) ∧ w'.cell? ⟨GA, 3, none⟩ = some (.int .i64 o.y0) ∧ w'.cell? ⟨GA, 4, none⟩ = some (.int .i64 o.x1) ∧ w'.cell? ⟨GA, 5, none⟩ = some (.int .i64 o.y1) := fun w' B => ⟨B.1 0 _ rfl, B.1 1 _ rfl, B.1 2 _ rfl, B.1 3 _ rfl, B.1 4 _ rfl, B.1 5 _ rfl⟩
  have HK := Lib.hid hS
  clear hS
  have HO := Lib.hid (show (W.alloc (.cells #[] 109)).drew.ownsRow W.heap.size 109 2 (.slice (some ⟨W.heap.size, 0, none⟩) 0 0) 0 [] from World.ownsRow_made W #[] (e := 109) (size := 2) 0 (Nat.le_refl _) (by decide) (by simp))
  have HL5 := Lib.hid ((HL.out.1.on hWw.out.1).on (show Below W.heap.size W (W.alloc (.cells #[] 109)).drew from by go_grown))
  go_region_held3 (fun w' => w'.cell? ⟨GA, 0, none⟩ = some (.slice a0 o.path.length c0) ∧ w'.cell? ⟨GA, 1, none⟩ = some (.int .i64 o.gray) ∧ w'.cell? ⟨GA, 2, none⟩ = some (.int .i64 o.x0) ∧ w'.cell? ⟨GA, 3, none⟩ = some (.int .i64 o.y0) ∧ w'.cell? ⟨GA, 4, none⟩ = some (.int .i64 o.x1) ∧ w'.cell? ⟨GA, 5, none⟩ = some (.int .i64 o.y1)) (first | exact HK.out _ HBE.out | exact HK.out _ (HS2.out.1.keep hB) | exact HK.out _ (HS2.out.1.keep (by go_grown)))
    ((refine step_append_sl et_pts rfl _ _ rfl W.heap.size _ 0 _ [] rfl HO.out a0 o.path.length c0 P0 rfl HL.out.2.1 HL5.out HL.out.2.2 (by unfold maxLen; omega) (by omega) (by simp) ?_; intro m0 d0 w2 r0 hgrow hsub; have hB : Below W.heap.size W w2 := (show Below W.heap.size W (W.alloc (.cells #[] 109)).drew from by go_grown).grown hgrow (by simp) (fun q hq => by have := (HO.out.lt q hq).1; exact this); have r0' : w2.ownsRow W.heap.size 109 2 (.slice m0 o.path.length d0) o.path.length P0 := (by simpa using r0); have H1 := Lib.hid (And.intro r0' hB); clear r0 r0'; have o0 := row_own2 H1.out.1 (HF.out w2); have g0 := rowF_ge (n := o.path.length) (fq := []) (fun b hb => (rowL_ge H1.out.1 b hb).1) (fun b hb => absurd hb List.not_mem_nil); have n0 := rowF_nodup (n := o.path.length) (u := .slice m0 o.path.length d0) (fq := []) List.nodup_nil (fun b _ h => absurd h List.not_mem_nil); generalize (if o.path.length = 0 then [] else rowL (.slice m0 o.path.length d0) ++ []) = F0 at o0 g0 n0; have oV := mk_ob o.gray o.x0 o.y0 o.x1 o.y1 o0; obtain ⟨E, st, BX, tt⟩ := var_put (P := Tryz.prog) (T := 101) (R := #[.slice m0 o.path.length d0, .int .i64 o.gray, .int .i64 o.x0, .int .i64 o.y0, .int .i64 o.x1, .int .i64 o.y1]) Tryz.sizeOf101 (HS2.out.2.keep hB) rfl oV rfl; have hz := hB.size; have HX := Lib.hid (And.intro (oV.turned tt (fun b hb e => by have := g0 b hb; omega)) (And.intro BX (And.intro g0 (And.intro n0 ((on_of hWw.out.1 hB).trans (tt.below (by have := hWw.out.2; omega) (fun k e => by have : k = GR := e; omega))))))); have HBE := Lib.hid ((HS2.out.1.keep hB).turned tt (fun e => by have : GA = GR := e; omega)); clear o0 g0 n0 oV BX tt))
  have lo := var_load (P := Tryz.prog) (T := 101) Tryz.isAgg101 Tryz.sizeOf101 HX.out.2.1 HX.out.1 rfl
  have HLo := Lib.hid lo
  have gw : w.heap.size ≤ W.heap.size := hWw.out.1.size
  clear lo
  go_wp2
  refine bodyPost_ret (v := .agg _) ?_ rfl ⟨_, _, rfl, HX.out.1, HX.out.2.2.2.1, fun b hb => by have := HX.out.2.2.1 b hb; omega, HX.out.2.2.2.2⟩
  exact results_h Tryz.results63 (by rfl) HLo.out
end Go.Proofs.YtnkookegoicfnaaGreat.Own

namespace Go.Proofs.YtnkookegoicfnaaGreat.Own
open Go.ChangeShapes Go.WideShapes Go.ChangeAt Go.RowKit
open Kit Slabs Ints Stack Point Turn
set_option linter.unusedVariables false
set_option linter.unusedSimpArgs false
set_option linter.unnecessarySimpa false
def Cap (w : World) (g : Nat) (T : TypeId) (m : Nat) : Prop := ∃ cur : Array Value, w.heap[g]? = some (.cells cur T (0, 0)) ∧ cur.size = m
theorem Cap.stays {w w' : World} {g : Nat} {T : TypeId} {m : Nat} (h : Cap w g T m) (e : w'.heap[g]? = w.heap[g]?) : Cap w' g T m := by
  obtain ⟨cur, h1, h2⟩ := h; exact ⟨cur, e.trans h1, h2⟩
theorem Cap.lt {w : World} {g : Nat} {T : TypeId} {m : Nat} (h : Cap w g T m) : g < w.heap.size := by
  obtain ⟨cur, h1, _⟩ := h; exact (Array.getElem?_eq_some_iff.1 h1).1
theorem Cap.keep {w w' : World} {g : Nat} {T : TypeId} {m : Nat} (h : Cap w g T m) (hb : Below w.heap.size w w') : Cap w' g T m := h.stays (hb.block g h.lt)
theorem Cap.turned {w w' : World} {g : Nat} {T : TypeId} {m : Nat} {S : Nat → Prop} (h : Cap w g T m) (ht : Turns w w' S) (hS : ¬ S g) : Cap w' g T m := h.stays (ht.block g h.lt hS)
theorem Cap.set {w : World} {g : Nat} {T : TypeId} {m : Nat} (h : Cap w g T m) (i : Nat) (v : Value) : Cap (w.setCell ⟨g, i, none⟩ v) g T m := by
  obtain ⟨cur, h1, h2⟩ := h
  exact ⟨_, heap_setCell_same w g i cur T v h1, by simpa using h2⟩
theorem Cap.sets {g : Nat} {T : TypeId} {m : Nat} : ∀ (vs : List Value) (o : Nat) {w : World}, Cap w g T m → Cap (w.setCells g o vs) g T m
  | [], _, _, h => h
  | v :: r, o, w, h => Cap.sets r (o + 1) (h.set o v)
theorem row_cap {w : World} {B : Nat} {T : TypeId} {k n : Nat} {a : Option Addr} {c : Nat} {P : List Value} (h : w.ownsRow B T k (.slice a n c) n P) (h0 : n ≠ 0) :
    ∃ g, a = some ⟨g, 0, none⟩ ∧ B ≤ g ∧ Blk w g P ∧ Cap w g T (c * k) ∧ n ≤ c ∧ c ≤ maxLen := by
  obtain ⟨a', c', he, _, hb⟩ := row_blk h
  injection he with h1 h2 h3
  subst h1; subst h3
  obtain ⟨g, rfl, hb2⟩ := hb h0
  rcases h.2 with ⟨_, h2⟩ | ⟨g', cap, cur, hv, hB, hg, hnc, hm, hs, _⟩
  · exact absurd h2 h0
  · injection hv with h1 h2 h3
    injection h1 with h1
    injection h1 with h1
    subst h1; subst h3
    exact ⟨_, rfl, hB, hb2, ⟨cur, hg, hs⟩, hnc, hm⟩
theorem cap_row {w : World} {B g : Nat} {T : TypeId} {k n c : Nat} {P : List Value} (hb : Blk w g P) (hc : Cap w g T (c * k)) (hl : P.length = n * k) (hn : n ≤ c) (hm : c ≤ maxLen) (hB : B ≤ g) :
    w.ownsRow B T k (.slice (some ⟨g, 0, none⟩) n c) n P := by
  obtain ⟨cur, h1, h2⟩ := hc
  refine ⟨hl, .inr ⟨g, c, cur, rfl, hB, h1, hn, hm, h2, ?_⟩⟩
  have hle : n * k ≤ cur.size := by rw [h2]; exact Nat.mul_le_mul_right _ hn
  apply List.ext_getElem
  · simp; omega
  · intro i i1 i2
    have hv := hb.1 i P[i] (List.getElem?_eq_getElem i2)
    rw [cell_of_row _ _ _ _ _ _ h1] at hv
    have i3 : i < cur.size := by omega
    rw [Array.getElem?_eq_getElem i3] at hv
    simpa using hv
def PgRows (w : World) (B : Nat) (R : List Value) (p : Pg) (F : List Nat) : Prop := ∃ (G : List Value) (F0 : List Nat) (a11 : Option Addr) (c11 : Nat) (P11 : List Value) (f11 : List Nat) (a12 : Option Addr) (c12 : Nat) (P12 : List Value) (f12 : List Nat),
  R = G ++ [.slice a11 p.saved.length c11, .slice a12 p.objs.length c12] ∧ GrRows w B G p.now F0 ∧
  w.ownsRow B 42 11 (.slice a11 p.saved.length c11) p.saved.length P11 ∧ OwnL w (List.replicate p.saved.length KGraphics) P11 (dG p.saved) f11 ∧
  w.ownsRow B 101 6 (.slice a12 p.objs.length c12) p.objs.length P12 ∧ OwnL w (List.replicate p.objs.length KObject) P12 (dO p.objs) f12 ∧
  F = F0 ++ (rowL (.slice a11 p.saved.length c11) ++ (f11 ++ (rowL (.slice a12 p.objs.length c12) ++ f12))) ∧ F.Nodup ∧ ∀ b ∈ F, B ≤ b
theorem GrRows.len {w : World} {B : Nat} {R : List Value} {g : Gr} {F : List Nat} (h : GrRows w B R g F) : R.length = 11 := by
  obtain ⟨a0, c0, f0, a5, c5, P5, rfl, _⟩ := h; rfl
theorem mk_pg {w : World} {G : List Value} {p : Pg} {a11 a12 : Option Addr} {c11 c12 : Nat} {f0 f11 f12 : List Nat} (o0 : OwnL w LGraphics G p.now.dt f0) (o11 : Own w (.sl KGraphics) [.slice a11 p.saved.length c11] (.sl (dG p.saved)) f11) (o12 : Own w (.sl KObject) [.slice a12 p.objs.length c12] (.sl (dO p.objs)) f12) :
    OwnL w LPage (G ++ [.slice a11 p.saved.length c11, .slice a12 p.objs.length c12]) p.dt (f0 ++ (f11 ++ f12)) := by
  have := OwnL.app (.cons o11 (.cons o12 .nil)) o0
  unfold Pg.dt
  simpa using this
theorem PgRows.own {w : World} {B : Nat} {R : List Value} {p : Pg} {F : List Nat} (h : PgRows w B R p F) : ∃ f, OwnL w LPage R p.dt f ∧ f.Nodup ∧ (∀ b ∈ f, b ∈ F) := by
  obtain ⟨G, F0, a11, c11, P11, f11, a12, c12, P12, f12, rfl, g0, r11, o11, r12, o12, rfl, hn, hB⟩ := h
  obtain ⟨f0, q0, m0, s0⟩ := g0.own
  obtain ⟨n0, n1, d0⟩ := nodup_parts hn
  obtain ⟨n11, n2, d11⟩ := nodup_parts n1
  obtain ⟨m11, n3, e11⟩ := nodup_parts n2
  obtain ⟨n12, m12, d12⟩ := nodup_parts n3
  have s11 : ∀ b ∈ (if p.saved.length = 0 then [] else rowL (.slice a11 p.saved.length c11) ++ f11), b ∈ rowL (.slice a11 p.saved.length c11) ∨ b ∈ f11 := rowF_sub
  have s12 : ∀ b ∈ (if p.objs.length = 0 then [] else rowL (.slice a12 p.objs.length c12) ++ f12), b ∈ rowL (.slice a12 p.objs.length c12) ∨ b ∈ f12 := rowF_sub
  refine ⟨_, mk_pg q0 (row_own2 r11 o11) (row_own2 r12 o12), app_nodup m0 (app_nodup (rowF_nodup m11 (fun b hb hc => d11 b hb (List.mem_append_left _ hc))) (rowF_nodup m12 (fun b hb hc => d12 b hb hc)) ?_) ?_, ?_⟩
  · intro x hx hy
    rcases s11 x hx with h | h <;> rcases s12 x hy with k | k
    · exact d11 x h (List.mem_append_right _ (List.mem_append_left _ k))
    · exact d11 x h (List.mem_append_right _ (List.mem_append_right _ k))
    · exact e11 x h (List.mem_append_left _ k)
    · exact e11 x h (List.mem_append_right _ k)
  · intro x hx hy
    have := d0 x (s0 x hx)
    apply this
    rcases List.mem_append.1 hy with h | h
    · rcases s11 x h with h | h
      · exact List.mem_append_left _ h
      · exact List.mem_append_right _ (List.mem_append_left _ h)
    · rcases s12 x h with h | h
      · exact List.mem_append_right _ (List.mem_append_right _ (List.mem_append_left _ h))
      · exact List.mem_append_right _ (List.mem_append_right _ (List.mem_append_right _ h))
  · intro x hy
    rcases List.mem_append.1 hy with h | h
    · exact List.mem_append_left _ (s0 x h)
    · apply List.mem_append_right
      rcases List.mem_append.1 h with h | h
      · rcases s11 x h with h | h
        · exact List.mem_append_left _ h
        · exact List.mem_append_right _ (List.mem_append_left _ h)
      · rcases s12 x h with h | h
        · exact List.mem_append_right _ (List.mem_append_right _ (List.mem_append_left _ h))
        · exact List.mem_append_right _ (List.mem_append_right _ (List.mem_append_right _ h))
theorem PgRows.stays {w w' : World} {B : Nat} {R : List Value} {p : Pg} {F : List Nat} (h : PgRows w B R p F) (hs : w.heap.size ≤ w'.heap.size) (hb : ∀ b ∈ F, w'.heap[b]? = w.heap[b]?) : PgRows w' B R p F := by
  obtain ⟨G, F0, a11, c11, P11, f11, a12, c12, P12, f12, rfl, g0, r11, o11, r12, o12, rfl, hn, hB⟩ := h
  refine ⟨G, F0, a11, c11, P11, f11, a12, c12, P12, f12, rfl, g0.stays hs ?_, row_stays r11 ?_, o11.stays hs ?_, row_stays r12 ?_, o12.stays hs ?_, rfl, hn, hB⟩ <;> intro b hm <;> apply hb b <;> simp [hm]
theorem PgRows.lt {w : World} {B : Nat} {R : List Value} {p : Pg} {F : List Nat} (h : PgRows w B R p F) : ∀ b ∈ F, b < w.heap.size := by
  obtain ⟨G, F0, a11, c11, P11, f11, a12, c12, P12, f12, rfl, g0, r11, o11, r12, o12, rfl, hn, hB⟩ := h
  exact mem2 (p := fun b => b < w.heap.size) g0.lt (mem2 (p := fun b => b < w.heap.size) (fun b hb => (rowL_ge r11 b hb).2) (mem2 (p := fun b => b < w.heap.size) o11.lt (mem2 (p := fun b => b < w.heap.size) (fun b hb => (rowL_ge r12 b hb).2) o12.lt)))
def PgNew (p : Pg) (w : World) (e : Ending) (w' : World) : Prop := ∃ (R : Array Value) (F : List Nat), e = .returned (.agg R) ∧ PgRows w' w.heap.size R.toList p F ∧ Below w.heap.size w w'
end Go.Proofs.YtnkookegoicfnaaGreat.Own

