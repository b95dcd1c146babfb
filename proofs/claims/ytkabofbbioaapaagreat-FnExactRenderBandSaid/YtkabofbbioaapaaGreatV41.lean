/-
  Texts of this seat, laid together: ClC, ToO
-/
import Derived.Deep.RegionHeld3
import Derived.WalkKit
import Derived.Deep.DeepCutAuto
import Derived.Deep.QuietTactic
import Derived.BigQuiet
import Derived.Handy
import Derived.Test.YtkabofbbioaapaaGreatV33
import Derived.Test.YtkabofbbioaapaaGreatV15
namespace Go.Proofs.YtkabofbbioaapaaGreat.Own
open Go.ChangeShapes Go.WideShapes Go.ChangeAt Go.RowKit
open Kit Slabs Ints Stack Point Turn
set_option linter.unusedVariables false
set_option linter.unusedSimpArgs false
set_option linter.unnecessarySimpa false
set_option maxRecDepth 100000
def NewSt (ks : List Kd) (ds : List Dt) (w : World) (e : Ending) (w' : World) : Prop := ∃ (R : Array Value) (f : List Nat), e = .returned (.agg R) ∧ OwnL w' ks R.toList ds f ∧ f.Nodup ∧ (∀ b ∈ f, w.heap.size ≤ b) ∧ Below w.heap.size w w'
attribute [local go_sem ↓] hload_Object hstore_Object
set_option maxHeartbeats 4000000 in
theorem clone_Object (w : World) {A : Array Value} {o : Ob} {fp : List Nat} (hb : bulkL o.dt ≤ 1048576) (h : OwnL w LObject A.toList o.dt fp) :
    Calls Tryz.prog 72 #[.agg A] w fun e w' => ∃ (R : Array Value) (f : List Nat), e = .returned (.agg R) ∧ OwnL w' LObject R.toList o.dt f ∧ f.Nodup ∧ (∀ b ∈ f, w.heap.size ≤ b) ∧ Below w.heap.size w w' := by
  obtain ⟨a0, c0, f0, hA, hf, o0⟩ := inv_Object_ h
  simp only [Ob.dt, bulkL, Dt.bulk, len_dI, len_dP, bulk_dI, bulk_dP] at hb
  simp only [len_dI, len_dP] at hA o0
  obtain ⟨P0, q0, L0, l0, O0, _, e0, _, _⟩ := own_lies o0
  have F0 : q0 = [] ∧ ∀ W, OwnL W (List.replicate o.path.length KPt) P0 (dP o.path) [] := by
    obtain ⟨_, hq, hO⟩ := OwnL.flat (flat_rep rfl _) O0
    subst hq; exact ⟨rfl, hO⟩
  have HF := Lib.hid F0.2
  clear O0 F0 o0
  have hw2 : ((w.alloc (.cells A 52)).alloc (.cells #[.slice none 0 0, .int .i64 0, .int .i64 0, .int .i64 0, .int .i64 0, .int .i64 0] 52)).heap.size = w.heap.size + 2 := by simp
  have BA : Blk ((w.alloc (.cells A 52)).alloc (.cells #[.slice none 0 0, .int .i64 0, .int .i64 0, .int .i64 0, .int .i64 0, .int .i64 0] 52)) w.heap.size A.toList := (Blk.new w A 52 rfl).alloc _
  have BR : Blk ((w.alloc (.cells A 52)).alloc (.cells #[.slice none 0 0, .int .i64 0, .int .i64 0, .int .i64 0, .int .i64 0, .int .i64 0] 52)) (w.heap.size + 1) (#[.slice none 0 0, .int .i64 0, .int .i64 0, .int .i64 0, .int .i64 0, .int .i64 0] : Array Value).toList := Blk.new _ _ 52 (by simp)
  rw [hA] at BA
  have hW : Below w.heap.size w ((w.alloc (.cells A 52)).alloc (.cells #[.slice none 0 0, .int .i64 0, .int .i64 0, .int .i64 0, .int .i64 0, .int .i64 0] 52)) := by go_grown
  have HS := Lib.hid (And.intro BA (And.intro BR (And.intro hW hw2)))
  have l0' : P0.length = o.path.length * 2 := by simpa [Kd.sz, szL] using l0
  have HL := Lib.hid (And.intro L0 (And.intro l0' e0))
  clear BA BR hW hw2 L0 l0 l0' e0 hA h hf
  go_enter Tryz.func72, Tryz.ntmps72
  go_upto_region 1 with (fail)
  obtain ⟨W, hWe⟩ : ∃ W, W = ((w.alloc (.cells A 52)).alloc (.cells #[.slice none 0 0, .int .i64 0, .int .i64 0, .int .i64 0, .int .i64 0, .int .i64 0] 52)) := ⟨_, rfl⟩
  rw [← hWe] at HS ⊢
  clear hWe
  obtain ⟨GA, hGA⟩ : ∃ x, w.heap.size = x := ⟨_, rfl⟩
  obtain ⟨GR, hGR⟩ : ∃ x, w.heap.size + 1 = x := ⟨_, rfl⟩
  have HS2 : Hid (Blk W GA [.slice a0 o.path.length c0, .int .i64 o.gray, .int .i64 o.x0, .int .i64 o.y0, .int .i64 o.x1, .int .i64 o.y1] ∧ Blk W GR (#[.slice none 0 0, .int .i64 0, .int .i64 0, .int .i64 0, .int .i64 0, .int .i64 0] : Array Value).toList) := Lib.hid ⟨hGA ▸ HS.out.1, hGR ▸ HS.out.2.1⟩
  rw [hGR]
  have hWw := Lib.hid HS.out.2.2
  have gA : w.heap.size ≤ GA := by omega
  have gAR : GA < GR := by omega
  have gAW : GA < W.heap.size := by have := hWw.out.2; omega
  have gR : GR < W.heap.size := by have := hWw.out.2; omega
  rw [hGA]
  clear HS hGR hGA
  have k0 := HS2.out.1.1 0 _ rfl
  go_wp2_with fail
  clear k0
  ((with_reducible refine (cop_pts W a0 o.path.length c0 P0 (by omega) HL.out.2.1 HL.out.2.2 (HL.out.1.on hWw.out.1)).mono ?_); rintro e w1 ⟨m0, d0, rfl, r0, b1⟩)
  have B1 := HS2.out.1.keep b1
  have fz := B1.2.1
  have k0 := B1.1 0 _ rfl
  have z1 := b1.size
  have H1 := Lib.hid (And.intro B1 (And.intro r0 b1))
  clear B1 r0 b1
  go_upto_region 2 with (fail)
  clear k0 fz
  have o0 := row_own2 H1.out.2.1 (HF.out w1)
  have g0 := rowF_ge (n := o.path.length) (fq := []) (fun b hb => (rowL_ge H1.out.2.1 b hb).1) (fun b hb => absurd hb List.not_mem_nil)
  have n0 := rowF_nodup (n := o.path.length) (u := .slice m0 o.path.length d0) (fq := []) List.nodup_nil (fun b _ h => absurd h List.not_mem_nil)
  generalize (if o.path.length = 0 then [] else rowL (.slice m0 o.path.length d0) ++ []) = F0 at o0 g0 n0
  have o0 := own_setN o0 (b := GA) (fun h => by have := g0 _ h; omega) 0 (.slice m0 o.path.length d0)
  have BV := Blk.put (P := []) H1.out.1 rfl (.slice m0 o.path.length d0)
  have BR2 := (HS2.out.2.keep H1.out.2.2).other (b' := GA) (by omega) 0 (.slice m0 o.path.length d0)
  have bV := (on_of hWw.out.1 H1.out.2.2).setCell (p := ⟨GA, 0, none⟩) gA (.slice m0 o.path.length d0)
  have sV : (w1.setCell ⟨GA, 0, none⟩ (.slice m0 o.path.length d0)).heap.size = w1.heap.size := by simp [size_sets]
  generalize w1.setCell ⟨GA, 0, none⟩ (.slice m0 o.path.length d0) = V at o0 BV BR2 bV sV ⊢
  have oV := mk_ob o.gray o.x0 o.y0 o.x1 o.y1 o0
  obtain ⟨R, E, s1, s2, s3, e4, tE, bE⟩ := hand_over (P := Tryz.prog) (T := 52) Tryz.isAgg52 Tryz.sizeOf52 BV BR2 rfl oV rfl bV (by omega) (by omega)
  have oE := oV.turned tE (fun b hb e => by have := g0 b hb; have e' : b = GR := e; omega)
  have oE : OwnL E LObject R.toList o.dt F0 := by rw [e4]; exact oE
  have gw : w.heap.size ≤ W.heap.size := hWw.out.1.size
  have HX := Lib.hid (And.intro oE (And.intro bE (And.intro n0 (And.intro g0 s3))))
  clear o0 g0 n0 bV BV BR2 oV oE bE s3 sV e4 tE
  go_wp2
  refine bodyPost_ret (v := .agg R) ?_ rfl ⟨R, _, rfl, HX.out.1, HX.out.2.2.1, fun b hb => by have := HX.out.2.2.2.1 b hb; omega, HX.out.2.1⟩
  exact results_h Tryz.results72 (by rfl) HX.out.2.2.2.2
set_option maxHeartbeats 4000000 in
theorem copy_Object (w : World) {A : Array Value} {o : Ob} {fp : List Nat} (hb : bulkL o.dt ≤ 1048576) (h : OwnL w LObject A.toList o.dt fp) :
    Calls Tryz.prog 91 #[.agg A] w (NewSt LObject o.dt w) := by
  obtain ⟨a0, c0, f0, hA, hf, o0⟩ := inv_Object_ h
  simp only [Ob.dt, bulkL, Dt.bulk, len_dI, len_dP, bulk_dI, bulk_dP] at hb
  simp only [len_dI, len_dP] at hA o0
  obtain ⟨P0, q0, L0, l0, O0, _, e0, _, _⟩ := own_lies o0
  have F0 : q0 = [] ∧ ∀ W, OwnL W (List.replicate o.path.length KPt) P0 (dP o.path) [] := by
    obtain ⟨_, hq, hO⟩ := OwnL.flat (flat_rep rfl _) O0
    subst hq; exact ⟨rfl, hO⟩
  have HF := Lib.hid F0.2
  clear O0 F0 o0
  have hw2 : ((w.alloc (.cells A 52)).alloc (.cells #[.slice none 0 0, .int .i64 0, .int .i64 0, .int .i64 0, .int .i64 0, .int .i64 0] 52)).heap.size = w.heap.size + 2 := by simp
  have BA : Blk ((w.alloc (.cells A 52)).alloc (.cells #[.slice none 0 0, .int .i64 0, .int .i64 0, .int .i64 0, .int .i64 0, .int .i64 0] 52)) w.heap.size A.toList := (Blk.new w A 52 rfl).alloc _
  have BR : Blk ((w.alloc (.cells A 52)).alloc (.cells #[.slice none 0 0, .int .i64 0, .int .i64 0, .int .i64 0, .int .i64 0, .int .i64 0] 52)) (w.heap.size + 1) (#[.slice none 0 0, .int .i64 0, .int .i64 0, .int .i64 0, .int .i64 0, .int .i64 0] : Array Value).toList := Blk.new _ _ 52 (by simp)
  rw [hA] at BA
  have hW : Below w.heap.size w ((w.alloc (.cells A 52)).alloc (.cells #[.slice none 0 0, .int .i64 0, .int .i64 0, .int .i64 0, .int .i64 0, .int .i64 0] 52)) := by go_grown
  have HS := Lib.hid (And.intro BA (And.intro BR (And.intro hW hw2)))
  have l0' : P0.length = o.path.length * 2 := by simpa [Kd.sz, szL] using l0
  have HL := Lib.hid (And.intro L0 (And.intro l0' e0))
  clear BA BR hW hw2 L0 l0 l0' e0 hA h hf
  go_enter Tryz.func91, Tryz.ntmps91
  go_upto_region 1 with (fail)
  obtain ⟨W, hWe⟩ : ∃ W, W = ((w.alloc (.cells A 52)).alloc (.cells #[.slice none 0 0, .int .i64 0, .int .i64 0, .int .i64 0, .int .i64 0, .int .i64 0] 52)) := ⟨_, rfl⟩
  rw [← hWe] at HS ⊢
  clear hWe
  obtain ⟨GA, hGA⟩ : ∃ x, w.heap.size = x := ⟨_, rfl⟩
  obtain ⟨GR, hGR⟩ : ∃ x, w.heap.size + 1 = x := ⟨_, rfl⟩
  have HS2 : Hid (Blk W GA [.slice a0 o.path.length c0, .int .i64 o.gray, .int .i64 o.x0, .int .i64 o.y0, .int .i64 o.x1, .int .i64 o.y1] ∧ Blk W GR (#[.slice none 0 0, .int .i64 0, .int .i64 0, .int .i64 0, .int .i64 0, .int .i64 0] : Array Value).toList) := Lib.hid ⟨hGA ▸ HS.out.1, hGR ▸ HS.out.2.1⟩
  rw [hGR]
  have hWw := Lib.hid HS.out.2.2
  have gA : w.heap.size ≤ GA := by omega
  have gAR : GA < GR := by omega
  have gAW : GA < W.heap.size := by have := hWw.out.2; omega
  have gR : GR < W.heap.size := by have := hWw.out.2; omega
  rw [hGA]
  clear HS hGR hGA
  have hS : ∀ w', Blk w' GA [.slice a0 o.path.length c0, .int .i64 o.gray, .int .i64 o.x0, .int .i64 o.y0, .int .i64 o.x1, .int .i64 o.y1] → w'.cell? ⟨GA, 0, none⟩ = some (.slice a0 o.path.length c0) ∧ w'.cell? ⟨GA, 1, none⟩ = some (.int .i64 o.gray) ∧ w'.cell? ⟨GA, 2, none⟩ = some (.int .i64 o.x0) ∧ w'.cell? ⟨GA, 3, none⟩ = some (.int .i64 o.y0) ∧ w'.cell? ⟨GA, 4, none⟩ = some (.int .i64 o.x1) ∧ w'.cell? ⟨GA, 5, none⟩ = some (.int .i64 o.y1) := fun w' B => ⟨B.1 0 _ rfl, B.1 1 _ rfl, B.1 2 _ rfl, B.1 3 _ rfl, B.1 4 _ rfl, B.1 5 _ rfl⟩
  have HK := Lib.hid hS
  clear hS
  have HO := Lib.hid (show (W.alloc (.cells #[] 123)).drew.ownsRow W.heap.size 123 2 (.slice (some ⟨W.heap.size, 0, none⟩) 0 0) 0 [] from World.ownsRow_made W #[] (e := 123) (size := 2) 0 (Nat.le_refl _) (by decide) (by simp))
  have HL5 := Lib.hid ((HL.out.1.on hWw.out.1).on (show Below W.heap.size W (W.alloc (.cells #[] 123)).drew from by go_grown))
  go_region_held3 (fun w' => w'.cell? ⟨GA, 0, none⟩ = some (.slice a0 o.path.length c0) ∧ w'.cell? ⟨GA, 1, none⟩ = some (.int .i64 o.gray) ∧ w'.cell? ⟨GA, 2, none⟩ = some (.int .i64 o.x0) ∧ w'.cell? ⟨GA, 3, none⟩ = some (.int .i64 o.y0) ∧ w'.cell? ⟨GA, 4, none⟩ = some (.int .i64 o.x1) ∧ w'.cell? ⟨GA, 5, none⟩ = some (.int .i64 o.y1)) (first | exact HK.out _ HBE.out | exact HK.out _ (HS2.out.1.keep hB) | exact HK.out _ (HS2.out.1.keep (by go_grown)))
    ((refine step_append_sl et_pts rfl _ _ rfl W.heap.size _ 0 _ [] rfl HO.out a0 o.path.length c0 P0 rfl HL.out.2.1 HL5.out HL.out.2.2 (by unfold maxLen; omega) (by omega) (by simp) ?_; intro m0 d0 w2 r0 hgrow hsub; have hB : Below W.heap.size W w2 := (show Below W.heap.size W (W.alloc (.cells #[] 123)).drew from by go_grown).grown hgrow (by simp) (fun q hq => by have := (HO.out.lt q hq).1; exact this); have r0' : w2.ownsRow W.heap.size 123 2 (.slice m0 o.path.length d0) o.path.length P0 := (by simpa using r0); have H1 := Lib.hid (And.intro r0' hB); clear r0 r0'; have o0 := row_own2 H1.out.1 (HF.out w2); have g0 := rowF_ge (n := o.path.length) (fq := []) (fun b hb => (rowL_ge H1.out.1 b hb).1) (fun b hb => absurd hb List.not_mem_nil); have n0 := rowF_nodup (n := o.path.length) (u := .slice m0 o.path.length d0) (fq := []) List.nodup_nil (fun b _ h => absurd h List.not_mem_nil); generalize (if o.path.length = 0 then [] else rowL (.slice m0 o.path.length d0) ++ []) = F0 at o0 g0 n0; have oV := mk_ob o.gray o.x0 o.y0 o.x1 o.y1 o0; obtain ⟨E, st, BX, tt⟩ := var_put (P := Tryz.prog) (T := 52) (R := #[.slice m0 o.path.length d0, .int .i64 o.gray, .int .i64 o.x0, .int .i64 o.y0, .int .i64 o.x1, .int .i64 o.y1]) Tryz.sizeOf52 (HS2.out.2.keep hB) rfl oV rfl; have hz := hB.size; have HX := Lib.hid (And.intro (oV.turned tt (fun b hb e => by have := g0 b hb; omega)) (And.intro BX (And.intro g0 (And.intro n0 ((on_of hWw.out.1 hB).trans (tt.below (by have := hWw.out.2; omega) (fun k e => by have : k = GR := e; omega))))))); have HBE := Lib.hid ((HS2.out.1.keep hB).turned tt (fun e => by have : GA = GR := e; omega)); clear o0 g0 n0 oV BX tt))
  have lo := var_load (P := Tryz.prog) (T := 52) Tryz.isAgg52 Tryz.sizeOf52 HX.out.2.1 HX.out.1 rfl
  have HLo := Lib.hid lo
  have gw : w.heap.size ≤ W.heap.size := hWw.out.1.size
  clear lo
  go_wp2
  refine bodyPost_ret (v := .agg _) ?_ rfl ⟨_, _, rfl, HX.out.1, HX.out.2.2.2.1, fun b hb => by have := HX.out.2.2.1 b hb; omega, HX.out.2.2.2.2⟩
  exact results_h Tryz.results91 (by rfl) HLo.out
end Go.Proofs.YtkabofbbioaapaaGreat.Own
namespace Go.Proofs.YtkabofbbioaapaaGreat.Own
open Go.ChangeShapes Go.WideShapes Go.ChangeAt Go.RowKit
open Kit Slabs Ints
set_option linter.unusedVariables false
set_option linter.unusedSimpArgs false
set_option linter.unnecessarySimpa false
set_option maxRecDepth 100000
attribute [local go_sem ↓] hload_Object
attribute [local go_sem ↓] hstore_Object
theorem to_Box (xx0_0 : Int) (xx1_0 : Int) (xx2_0 : Int) (xx3_0 : Int) (w : World) : Calls Tryz.prog 86 #[.agg #[.int .i64 xx0_0, .int .i64 xx1_0, .int .i64 xx2_0, .int .i64 xx3_0]] w fun e w' => e = .returned (.agg #[.int .i64 xx0_0, .int .i64 xx1_0, .int .i64 xx2_0, .int .i64 xx3_0]) ∧ Below w.heap.size w w' := by
  go_enter Tryz.func86, Tryz.ntmps86
  go_wp2
  go_returns
  exact ⟨rfl, by go_grown⟩
set_option maxHeartbeats 8000000 in
theorem to_Object (w : World) {A : Array Value} {ds : List Dt} (hb : bulkL ds ≤ 1048576) (h : CameL w LObject A.toList ds) :
    Calls Tryz.prog 43 #[.agg A] w fun e w' => ∃ (R : Array Value) (fp : List Nat), e = .returned (.agg R) ∧ OwnL w' LObject R.toList ds fp ∧ fp.Nodup ∧ (∀ b ∈ fp, w.heap.size ≤ b) ∧ Below w.heap.size w w' := by
  obtain ⟨xa0, xc0, xs0, xx1_0, xx2_0, xx2_1, xx2_2, xx2_3, hA, rfl, ⟨ox0, mox0⟩⟩ := invC_Object h
  simp only [bulkL_app, bulkL, Dt.bulk] at hb
  have BA : Blk (((w.alloc (.cells A 77)).alloc (.cells #[.slice none 0 0, .int .i64 0, .int .i64 0, .int .i64 0, .int .i64 0, .int .i64 0] 52)).alloc (.cells #[.slice none 0 0, .int .i64 0, .int .i64 0, .int .i64 0, .int .i64 0, .int .i64 0] 52)) w.heap.size A.toList := ((Blk.new w A 77 rfl).alloc _).alloc _
  have BR : Blk (((w.alloc (.cells A 77)).alloc (.cells #[.slice none 0 0, .int .i64 0, .int .i64 0, .int .i64 0, .int .i64 0, .int .i64 0] 52)).alloc (.cells #[.slice none 0 0, .int .i64 0, .int .i64 0, .int .i64 0, .int .i64 0, .int .i64 0] 52)) (w.heap.size + 1) [.slice none 0 0, .int .i64 0, .int .i64 0, .int .i64 0, .int .i64 0, .int .i64 0] := (Blk.new _ #[.slice none 0 0, .int .i64 0, .int .i64 0, .int .i64 0, .int .i64 0, .int .i64 0] 52 (by simp)).alloc _
  have BO : Blk (((w.alloc (.cells A 77)).alloc (.cells #[.slice none 0 0, .int .i64 0, .int .i64 0, .int .i64 0, .int .i64 0, .int .i64 0] 52)).alloc (.cells #[.slice none 0 0, .int .i64 0, .int .i64 0, .int .i64 0, .int .i64 0, .int .i64 0] 52)) (w.heap.size + 1 + 1) [.slice none 0 0, .int .i64 0, .int .i64 0, .int .i64 0, .int .i64 0, .int .i64 0] := Blk.new _ #[.slice none 0 0, .int .i64 0, .int .i64 0, .int .i64 0, .int .i64 0, .int .i64 0] 52 (by simp)
  have hW : Below w.heap.size w (((w.alloc (.cells A 77)).alloc (.cells #[.slice none 0 0, .int .i64 0, .int .i64 0, .int .i64 0, .int .i64 0, .int .i64 0] 52)).alloc (.cells #[.slice none 0 0, .int .i64 0, .int .i64 0, .int .i64 0, .int .i64 0, .int .i64 0] 52)) := by go_grown
  have hsz : (((w.alloc (.cells A 77)).alloc (.cells #[.slice none 0 0, .int .i64 0, .int .i64 0, .int .i64 0, .int .i64 0, .int .i64 0] 52)).alloc (.cells #[.slice none 0 0, .int .i64 0, .int .i64 0, .int .i64 0, .int .i64 0, .int .i64 0] 52)).heap.size = w.heap.size + 3 := by simp
  rw [hA] at BA
  have HC := Lib.hid (ox0)
  have HA0 := Lib.hid BA
  have HR0 := Lib.hid BR
  have HO0 := Lib.hid BO
  have HW0 := Lib.hid hW
  have HZ0 := Lib.hid hsz
  have ca0 : A[0]? = some (.slice xa0 xs0.length xc0) := by rw [← Array.getElem?_toList, hA]; rfl
  clear ox0 hA BA BR BO hW hsz h
  go_enter Tryz.func43, Tryz.ntmps43
  go_wp2_with fail
  obtain ⟨W0, hW0⟩ : ∃ W, W = ((w.alloc (.cells A 77)).alloc (.cells #[.slice none 0 0, .int .i64 0, .int .i64 0, .int .i64 0, .int .i64 0, .int .i64 0] 52)).alloc (.cells #[.slice none 0 0, .int .i64 0, .int .i64 0, .int .i64 0, .int .i64 0, .int .i64 0] 52) := ⟨_, rfl⟩
  rw [← hW0] at HA0 HR0 HO0 HW0 HZ0 ⊢
  obtain ⟨GA, hGA⟩ : ∃ g, w.heap.size = g := ⟨_, rfl⟩
  obtain ⟨GR, hGR⟩ : ∃ g, w.heap.size + 1 = g := ⟨_, rfl⟩
  obtain ⟨GO, hGO_⟩ : ∃ g, w.heap.size + 1 + 1 = g := ⟨_, rfl⟩
  rw [hGO_] at HO0 ⊢
  rw [hGR] at HR0 ⊢
  have HA0 := Lib.hid (show Blk W0 GA _ from hGA ▸ HA0.out)
  try simp only [hGA]
  have nAO : GO ≠ GA := by omega
  have nRO : GO ≠ GR := by omega
  have hGO : w.heap.size ≤ GO := by omega
  have zO : GO < W0.heap.size := by have := HZ0.out; omega
  have zR : GR < W0.heap.size := by have := HZ0.out; omega
  clear hW0 ca0
  ((with_reducible refine (toP_came _ _ _ _ _ (by omega) ((HC.out).on HW0.out)).mono ?_); rintro e w1 ⟨ra0, rc0, xF0, rfl, oo, nd0, ge0, bb⟩)
  have HAw1 := Lib.hid (HA0.out.keep bb)
  have HOw1 := Lib.hid (HO0.out.keep bb)
  have HRw1 := Lib.hid (HR0.out.keep bb)
  have HWw1 := Lib.hid (on_of HW0.out bb)
  have sz0 := bb.size
  have Hqw1_0 := Lib.hid oo
  have lt0 : ∀ b ∈ xF0, b < w1.heap.size := oo.lt
  have nO0 : GO ∉ xF0 := fun hb => by have := ge0 _ hb;  omega
  have nR0 : GR ∉ xF0 := fun hb => by have := ge0 _ hb;  omega
  have nP0 : ∀ b ∈ xF0, b ≠ GO := fun b hb e => nO0 (e ▸ hb)
  have nQ0 : ∀ b ∈ xF0, b ≠ GR := fun b hb e => nR0 (e ▸ hb)
  clear oo bb
  have ca1 := HAw1.out.1 1 (.int .i64 xx1_0) (by rfl)
  have ca2 := HAw1.out.1 2 (.int .i64 xx2_0) (by rfl)
  have ca3 := HAw1.out.1 3 (.int .i64 xx2_1) (by rfl)
  have ca4 := HAw1.out.1 4 (.int .i64 xx2_2) (by rfl)
  have ca5 := HAw1.out.1 5 (.int .i64 xx2_3) (by rfl)
  have fz := HOw1.out.2.1
  have ko0 := HOw1.out.1 0 (.slice none 0 0) (by simp)
  have ko1 := HOw1.out.1 1 (.int .i64 0) (by simp)
  go_wp2_with fail
  have xO := (show Blk ((w1.setCell ⟨GO, 0, none⟩ (.slice ra0 xs0.length rc0)).setCell ⟨GO, 1, none⟩ (.int .i64 xx1_0)) GO (.slice ra0 xs0.length rc0 :: (.int .i64 xx1_0 :: (.int .i64 0 :: (.int .i64 0 :: (.int .i64 0 :: (.int .i64 0 :: ([]))))))) from Blk.put (P := [.slice ra0 xs0.length rc0]) (R := [.int .i64 0, .int .i64 0, .int .i64 0, .int .i64 0]) (by simpa using (show Blk (w1.setCell ⟨GO, 0, none⟩ (.slice ra0 xs0.length rc0)) GO (.slice ra0 xs0.length rc0 :: (.int .i64 0 :: (.int .i64 0 :: (.int .i64 0 :: (.int .i64 0 :: (.int .i64 0 :: ([]))))))) from Blk.put (P := []) (R := [.int .i64 0, .int .i64 0, .int .i64 0, .int .i64 0, .int .i64 0]) (by simpa using HOw1.out) rfl (.slice ra0 xs0.length rc0))) rfl (.int .i64 xx1_0))
  have xA := ((HAw1.out.other nAO 0 (.slice ra0 xs0.length rc0)).other nAO 1 (.int .i64 xx1_0))
  have xR := ((HRw1.out.other nRO 0 (.slice ra0 xs0.length rc0)).other nRO 1 (.int .i64 xx1_0))
  have xW := ((((HWw1.out).setCell (p := ⟨GO, 0, none⟩) hGO (.slice ra0 xs0.length rc0))).setCell (p := ⟨GO, 1, none⟩) hGO (.int .i64 xx1_0))
  have xq0 := (own_setN (own_setN (Hqw1_0.out) nO0 0 (.slice ra0 xs0.length rc0)) nO0 1 (.int .i64 xx1_0))
  have xs : (((w1.setCell ⟨GO, 0, none⟩ (.slice ra0 xs0.length rc0)).setCell ⟨GO, 1, none⟩ (.int .i64 xx1_0))).heap.size = w1.heap.size := by simp [size_sets]
  generalize ((w1.setCell ⟨GO, 0, none⟩ (.slice ra0 xs0.length rc0)).setCell ⟨GO, 1, none⟩ (.int .i64 xx1_0)) = V1 at xO xA xR xW xs xq0 ⊢
  have HOV1 := Lib.hid xO
  have HAV1 := Lib.hid xA
  have HRV1 := Lib.hid xR
  have HWV1 := Lib.hid xW
  have HZV1 := Lib.hid xs
  have HqV1_0 := Lib.hid xq0
  clear xO xA xR xW xs xq0
  clear ca1 ca2 ca3 ca4 ca5 fz ko0 ko1
  ((with_reducible refine (to_Box xx2_0 xx2_1 xx2_2 xx2_3 _).mono ?_); rintro e w2 ⟨rfl, bb⟩)
  have HAw2 := Lib.hid (HAV1.out.keep bb)
  have HOw2 := Lib.hid (HOV1.out.keep bb)
  have HRw2 := Lib.hid (HRV1.out.keep bb)
  have HWw2 := Lib.hid (on_of HWV1.out bb)
  have Hqw2_0 := Lib.hid ((HqV1_0.out).under bb)
  have sz1 := bb.size
  clear bb
  have fz := HOw2.out.2.1
  have ko2 := HOw2.out.1 2 (.int .i64 0) (by simp)
  have ko3 := HOw2.out.1 3 (.int .i64 0) (by simp)
  have ko4 := HOw2.out.1 4 (.int .i64 0) (by simp)
  have ko5 := HOw2.out.1 5 (.int .i64 0) (by simp)
  go_wp2_with fail
  have xO := (show Blk ((((w2.setCell ⟨GO, 2, none⟩ (.int .i64 xx2_0)).setCell ⟨GO, 3, none⟩ (.int .i64 xx2_1)).setCell ⟨GO, 4, none⟩ (.int .i64 xx2_2)).setCell ⟨GO, 5, none⟩ (.int .i64 xx2_3)) GO (.slice ra0 xs0.length rc0 :: (.int .i64 xx1_0 :: (.int .i64 xx2_0 :: (.int .i64 xx2_1 :: (.int .i64 xx2_2 :: (.int .i64 xx2_3 :: ([]))))))) from Blk.put (P := [.slice ra0 xs0.length rc0, .int .i64 xx1_0, .int .i64 xx2_0, .int .i64 xx2_1, .int .i64 xx2_2]) (R := []) (by simpa using (show Blk (((w2.setCell ⟨GO, 2, none⟩ (.int .i64 xx2_0)).setCell ⟨GO, 3, none⟩ (.int .i64 xx2_1)).setCell ⟨GO, 4, none⟩ (.int .i64 xx2_2)) GO (.slice ra0 xs0.length rc0 :: (.int .i64 xx1_0 :: (.int .i64 xx2_0 :: (.int .i64 xx2_1 :: (.int .i64 xx2_2 :: (.int .i64 0 :: ([]))))))) from Blk.put (P := [.slice ra0 xs0.length rc0, .int .i64 xx1_0, .int .i64 xx2_0, .int .i64 xx2_1]) (R := [.int .i64 0]) (by simpa using (show Blk ((w2.setCell ⟨GO, 2, none⟩ (.int .i64 xx2_0)).setCell ⟨GO, 3, none⟩ (.int .i64 xx2_1)) GO (.slice ra0 xs0.length rc0 :: (.int .i64 xx1_0 :: (.int .i64 xx2_0 :: (.int .i64 xx2_1 :: (.int .i64 0 :: (.int .i64 0 :: ([]))))))) from Blk.put (P := [.slice ra0 xs0.length rc0, .int .i64 xx1_0, .int .i64 xx2_0]) (R := [.int .i64 0, .int .i64 0]) (by simpa using (show Blk (w2.setCell ⟨GO, 2, none⟩ (.int .i64 xx2_0)) GO (.slice ra0 xs0.length rc0 :: (.int .i64 xx1_0 :: (.int .i64 xx2_0 :: (.int .i64 0 :: (.int .i64 0 :: (.int .i64 0 :: ([]))))))) from Blk.put (P := [.slice ra0 xs0.length rc0, .int .i64 xx1_0]) (R := [.int .i64 0, .int .i64 0, .int .i64 0]) (by simpa using HOw2.out) rfl (.int .i64 xx2_0))) rfl (.int .i64 xx2_1))) rfl (.int .i64 xx2_2))) rfl (.int .i64 xx2_3))
  have xA := ((((HAw2.out.other nAO 2 (.int .i64 xx2_0)).other nAO 3 (.int .i64 xx2_1)).other nAO 4 (.int .i64 xx2_2)).other nAO 5 (.int .i64 xx2_3))
  have xR := ((((HRw2.out.other nRO 2 (.int .i64 xx2_0)).other nRO 3 (.int .i64 xx2_1)).other nRO 4 (.int .i64 xx2_2)).other nRO 5 (.int .i64 xx2_3))
  have xW := ((((((((HWw2.out).setCell (p := ⟨GO, 2, none⟩) hGO (.int .i64 xx2_0))).setCell (p := ⟨GO, 3, none⟩) hGO (.int .i64 xx2_1))).setCell (p := ⟨GO, 4, none⟩) hGO (.int .i64 xx2_2))).setCell (p := ⟨GO, 5, none⟩) hGO (.int .i64 xx2_3))
  have xq0 := (own_setN (own_setN (own_setN (own_setN (Hqw2_0.out) nO0 2 (.int .i64 xx2_0)) nO0 3 (.int .i64 xx2_1)) nO0 4 (.int .i64 xx2_2)) nO0 5 (.int .i64 xx2_3))
  have xs : (((((w2.setCell ⟨GO, 2, none⟩ (.int .i64 xx2_0)).setCell ⟨GO, 3, none⟩ (.int .i64 xx2_1)).setCell ⟨GO, 4, none⟩ (.int .i64 xx2_2)).setCell ⟨GO, 5, none⟩ (.int .i64 xx2_3))).heap.size = w2.heap.size := by simp [size_sets]
  generalize ((((w2.setCell ⟨GO, 2, none⟩ (.int .i64 xx2_0)).setCell ⟨GO, 3, none⟩ (.int .i64 xx2_1)).setCell ⟨GO, 4, none⟩ (.int .i64 xx2_2)).setCell ⟨GO, 5, none⟩ (.int .i64 xx2_3)) = V2 at xO xA xR xW xs xq0 ⊢
  have HOV2 := Lib.hid xO
  have HAV2 := Lib.hid xA
  have HRV2 := Lib.hid xR
  have HWV2 := Lib.hid xW
  have HZV2 := Lib.hid xs
  have HqV2_0 := Lib.hid xq0
  clear xO xA xR xW xs xq0
  clear fz ko2 ko3 ko4 ko5
  obtain ⟨R, hR⟩ : ∃ R : Array Value, (.slice ra0 xs0.length rc0 :: (.int .i64 xx1_0 :: (.int .i64 xx2_0 :: (.int .i64 xx2_1 :: (.int .i64 xx2_2 :: (.int .i64 xx2_3 :: ([])))))) : List Value).toArray = R := ⟨_, rfl⟩
  have RL : R.toList = .slice ra0 xs0.length rc0 :: (.int .i64 xx1_0 :: (.int .i64 xx2_0 :: (.int .i64 xx2_1 :: (.int .i64 xx2_2 :: (.int .i64 xx2_3 :: ([])))))) := by subst hR; simp
  have lo := hload_run (P := Tryz.prog) (t := 52) Tryz.isAgg52 Tryz.sizeOf52 (w := V2) (b := GO) (o := 0) (us := .slice ra0 xs0.length rc0 :: (.int .i64 xx1_0 :: (.int .i64 xx2_0 :: (.int .i64 xx2_1 :: (.int .i64 xx2_2 :: (.int .i64 xx2_3 :: ([]))))))) (Blk.part (P := []) (R := []) (by simpa using HOV2.out) rfl) (by simp )
  rw [hR] at lo
  have oR : OwnL V2 LObject (.slice ra0 xs0.length rc0 :: (.int .i64 xx1_0 :: (.int .i64 xx2_0 :: (.int .i64 xx2_1 :: (.int .i64 xx2_2 :: (.int .i64 xx2_3 :: ([]))))))) (.sl xs0 :: (.int xx1_0 :: (.int xx2_0 :: (.int xx2_1 :: (.int xx2_2 :: (.int xx2_3 :: ([]))))))) (xF0 ++ ([])) := .cons (cs := [.slice ra0 xs0.length rc0]) (fp := xF0) HqV2_0.out (.cons (cs := [.int .i64 xx1_0]) (fp := []) (.int xx1_0) (.cons (cs := [.int .i64 xx2_0]) (fp := []) (.int xx2_0) (.cons (cs := [.int .i64 xx2_1]) (fp := []) (.int xx2_1) (.cons (cs := [.int .i64 xx2_2]) (fp := []) (.int xx2_2) (.cons (cs := [.int .i64 xx2_3]) (fp := []) (.int xx2_3) (.nil))))))
  have sto := hstore_run (P := Tryz.prog) (t := 52) Tryz.sizeOf52 (w := V2) (b := GR) (o := 0) (A := []) (us := [.slice none 0 0, .int .i64 0, .int .i64 0, .int .i64 0, .int .i64 0, .int .i64 0]) (R := []) (vs := .slice ra0 xs0.length rc0 :: (.int .i64 xx1_0 :: (.int .i64 xx2_0 :: (.int .i64 xx2_1 :: (.int .i64 xx2_2 :: (.int .i64 xx2_3 :: ([]))))))) (by simpa using HRV2.out) rfl (by simp ) (by simp ) (fun v hv => oR.one v hv)
  rw [hR] at sto
  have BR5 := Blk.sets (P := []) (us := [.slice none 0 0, .int .i64 0, .int .i64 0, .int .i64 0, .int .i64 0, .int .i64 0]) (vs := .slice ra0 xs0.length rc0 :: (.int .i64 xx1_0 :: (.int .i64 xx2_0 :: (.int .i64 xx2_1 :: (.int .i64 xx2_2 :: (.int .i64 xx2_3 :: ([]))))))) (R := []) (w := V2) (b := GR) (o := 0) (by simpa using HRV2.out) rfl (by simp )
  have e5 := Below.setCells (b := GR) (by omega) (.slice ra0 xs0.length rc0 :: (.int .i64 xx1_0 :: (.int .i64 xx2_0 :: (.int .i64 xx2_1 :: (.int .i64 xx2_2 :: (.int .i64 xx2_3 :: ([]))))))) 0 HWV2.out
  have o5 := ownL_sets oR (b := GR) (fun x hx => (List.mem_append.1 hx).elim (fun h => nQ0 x h) (fun hx1 => absurd hx1 List.not_mem_nil)) 0 (.slice ra0 xs0.length rc0 :: (.int .i64 xx1_0 :: (.int .i64 xx2_0 :: (.int .i64 xx2_1 :: (.int .i64 xx2_2 :: (.int .i64 xx2_3 :: ([])))))))
  generalize V2.setCells GR 0 (.slice ra0 xs0.length rc0 :: (.int .i64 xx1_0 :: (.int .i64 xx2_0 :: (.int .i64 xx2_1 :: (.int .i64 xx2_2 :: (.int .i64 xx2_3 :: ([]))))))) = V5 at sto BR5 e5 o5
  have re := hload_run (P := Tryz.prog) (t := 52) Tryz.isAgg52 Tryz.sizeOf52 (w := V5) (b := GR) (o := 0) (us := .slice ra0 xs0.length rc0 :: (.int .i64 xx1_0 :: (.int .i64 xx2_0 :: (.int .i64 xx2_1 :: (.int .i64 xx2_2 :: (.int .i64 xx2_3 :: ([]))))))) (Blk.part (P := []) (R := []) (by simpa using BR5) rfl) (by simp )
  rw [hR] at re
  rw [← RL] at o5
  have HF := Lib.hid (And.intro o5 (And.intro e5 re))
  clear oR BR5 e5 o5 re RL hR
  rw [lo]
  go_wp2_with fail
  try (rw [sto]; go_wp2_with fail)
  refine bodyPost_ret (v := .agg R) ?_ rfl ⟨R, _, rfl, HF.out.1, ?_, ?_, HF.out.2.1⟩
  · exact results_h Tryz.results43 (by rfl) HF.out.2.2
  · have hall : ∀ (i j : Nat), True := fun _ _ => trivial
    have n1 : ([] : List Nat).Nodup := List.nodup_nil
    have n0 : (xF0 ++ ([])).Nodup := List.nodup_append.2 ⟨nd0, n1, fun x hx y hy e => by have a1 := lt0 x hx; have a2 := (show ∀ y ∈ [], x < y from fun y hx => absurd hx List.not_mem_nil) y hy; omega⟩
    exact n0
  · intro b hx
    exact (List.mem_append.1 hx).elim (fun h => (fun h => by have := ge0 b h; have := HZV1.out; omega) h) (fun hx1 => absurd hx1 List.not_mem_nil)
end Go.Proofs.YtkabofbbioaapaaGreat.Own
