/-
  Texts of this seat, laid together: ClC
-/
import Derived.Deep.RegionHeld3
import Derived.Test.YtejnfdpckipbeaaP33
namespace Go.Proofs.Ytejnfdpckipbeaa.Own
open Go.ChangeShapes Go.WideShapes Go.ChangeAt Go.RowKit
open Kit Slabs Ints Stack Point Turn
set_option linter.unusedVariables false
set_option linter.unusedSimpArgs false
set_option linter.unnecessarySimpa false
set_option maxRecDepth 100000
def NewSt (ks : List Kd) (ds : List Dt) (w : World) (e : Ending) (w' : World) : Prop := ∃ (R : Array Value) (f : List Nat), e = .returned (.agg R) ∧ OwnL w' ks R.toList ds f ∧ f.Nodup ∧ (∀ b ∈ f, w.heap.size ≤ b) ∧ Below w.heap.size w w'
attribute [local go_sem ↓] hload_Graphics hload_Object hstore_Graphics hstore_Object
set_option maxHeartbeats 4000000 in
theorem clone_Object (w : World) {A : Array Value} {o : Ob} {fp : List Nat} (hb : bulkL o.dt ≤ 1048576) (h : OwnL w LObject A.toList o.dt fp) :
    Calls Try.prog 60 #[.agg A] w fun e w' => ∃ (R : Array Value) (f : List Nat), e = .returned (.agg R) ∧ OwnL w' LObject R.toList o.dt f ∧ f.Nodup ∧ (∀ b ∈ f, w.heap.size ≤ b) ∧ Below w.heap.size w w' := by
  obtain ⟨a0, c0, f0, hA, hf, o0⟩ := inv_Object_ h
  simp only [Ob.dt, bulkL, Dt.bulk, len_dI, len_dP, bulk_dI, bulk_dP] at hb
  simp only [len_dI, len_dP] at hA o0
  obtain ⟨P0, q0, L0, l0, O0, _, e0, _, _⟩ := own_lies o0
  have F0 : q0 = [] ∧ ∀ W, OwnL W (List.replicate o.path.length KPt) P0 (dP o.path) [] := by
    obtain ⟨_, hq, hO⟩ := OwnL.flat (flat_rep rfl _) O0
    subst hq; exact ⟨rfl, hO⟩
  have HF := Lib.hid F0.2
  clear O0 F0 o0
  have hw2 : ((w.alloc (.cells A 28)).alloc (.cells #[.slice none 0 0, .int .i64 0, .int .i64 0, .int .i64 0, .int .i64 0, .int .i64 0] 28)).heap.size = w.heap.size + 2 := by simp
  have BA : Blk ((w.alloc (.cells A 28)).alloc (.cells #[.slice none 0 0, .int .i64 0, .int .i64 0, .int .i64 0, .int .i64 0, .int .i64 0] 28)) w.heap.size A.toList := (Blk.new w A 28 rfl).alloc _
  have BR : Blk ((w.alloc (.cells A 28)).alloc (.cells #[.slice none 0 0, .int .i64 0, .int .i64 0, .int .i64 0, .int .i64 0, .int .i64 0] 28)) (w.heap.size + 1) (#[.slice none 0 0, .int .i64 0, .int .i64 0, .int .i64 0, .int .i64 0, .int .i64 0] : Array Value).toList := Blk.new _ _ 28 (by simp)
  rw [hA] at BA
  have hW : Below w.heap.size w ((w.alloc (.cells A 28)).alloc (.cells #[.slice none 0 0, .int .i64 0, .int .i64 0, .int .i64 0, .int .i64 0, .int .i64 0] 28)) := by go_grown
  have HS := Lib.hid (And.intro BA (And.intro BR (And.intro hW hw2)))
  have l0' : P0.length = o.path.length * 2 := by simpa [Kd.sz, szL] using l0
  have HL := Lib.hid (And.intro L0 (And.intro l0' e0))
  clear BA BR hW hw2 L0 l0 l0' e0 hA h hf
  go_enter Try.func60, Try.ntmps60
  go_upto_region 1 with (fail)
  obtain ⟨W, hWe⟩ : ∃ W, W = ((w.alloc (.cells A 28)).alloc (.cells #[.slice none 0 0, .int .i64 0, .int .i64 0, .int .i64 0, .int .i64 0, .int .i64 0] 28)) := ⟨_, rfl⟩
  rw [← hWe] at HS ⊢
  clear hWe
  obtain ⟨GA, hGA⟩ : ∃ x, w.heap.size = x := ⟨_, rfl⟩
  obtain ⟨GR, hGR⟩ : ∃ x, w.heap.size + 1 = x := ⟨_, rfl⟩
  have HS2 : Hid (Blk W GA [.slice a0 o.path.length c0, .int .i64 o.gray, .int .i64 o.x0, .int .i64 o.y0, .int .i64 o.x1, .int .i64 o.y1] ∧ Blk W GR (#[.slice none 0 0, .int .i64 0, .int .i64 0, .int .i64 0, .int .i64 0, .int .i64 0] : Array Value).toList) := Lib.hid ⟨hGA ▸ HS.out.1, hGR ▸ HS.out.2.1⟩
  rw [hGR]
  have hWw := Lib.hid HS.out.2.2
  have gA : w.heap.size ≤ GA := by omega
  have gAR : GA < GR := by omega
  have gAW : GA < W.heap.size := by have := hWw.out.2; omega
  have gR : GR < W.heap.size := by have := hWw.out.2; omega
  rw [hGA]
  clear HS hGR hGA
  have k0 := HS2.out.1.1 0 _ rfl
  go_wp2_with fail
  clear k0
  ((with_reducible refine (cop_pts W a0 o.path.length c0 P0 (by omega) HL.out.2.1 HL.out.2.2 (HL.out.1.on hWw.out.1)).mono ?_); rintro e w1 ⟨m0, d0, rfl, r0, b1⟩)
  have B1 := HS2.out.1.keep b1
  have fz := B1.2.1
  have k0 := B1.1 0 _ rfl
  have z1 := b1.size
  have H1 := Lib.hid (And.intro B1 (And.intro r0 b1))
  clear B1 r0 b1
  go_upto_region 2 with (fail)
  clear k0 fz
  have o0 := row_own2 H1.out.2.1 (HF.out w1)
  have g0 := rowF_ge (n := o.path.length) (fq := []) (fun b hb => (rowL_ge H1.out.2.1 b hb).1) (fun b hb => absurd hb List.not_mem_nil)
  have n0 := rowF_nodup (n := o.path.length) (u := .slice m0 o.path.length d0) (fq := []) List.nodup_nil (fun b _ h => absurd h List.not_mem_nil)
  generalize (if o.path.length = 0 then [] else rowL (.slice m0 o.path.length d0) ++ []) = F0 at o0 g0 n0
  have o0 := own_setN o0 (b := GA) (fun h => by have := g0 _ h; omega) 0 (.slice m0 o.path.length d0)
  have BV := Blk.put (P := []) H1.out.1 rfl (.slice m0 o.path.length d0)
  have BR2 := (HS2.out.2.keep H1.out.2.2).other (b' := GA) (by omega) 0 (.slice m0 o.path.length d0)
  have bV := (on_of hWw.out.1 H1.out.2.2).setCell (p := ⟨GA, 0, none⟩) gA (.slice m0 o.path.length d0)
  have sV : (w1.setCell ⟨GA, 0, none⟩ (.slice m0 o.path.length d0)).heap.size = w1.heap.size := by simp [size_sets]
  generalize w1.setCell ⟨GA, 0, none⟩ (.slice m0 o.path.length d0) = V at o0 BV BR2 bV sV ⊢
  have oV := mk_ob o.gray o.x0 o.y0 o.x1 o.y1 o0
  obtain ⟨R, E, s1, s2, s3, e4, tE, bE⟩ := hand_over (P := Try.prog) (T := 28) Try.isAgg28 Try.sizeOf28 BV BR2 rfl oV rfl bV (by omega) (by omega)
  have oE := oV.turned tE (fun b hb e => by have := g0 b hb; have e' : b = GR := e; omega)
  have oE : OwnL E LObject R.toList o.dt F0 := by rw [e4]; exact oE
  have gw : w.heap.size ≤ W.heap.size := hWw.out.1.size
  have HX := Lib.hid (And.intro oE (And.intro bE (And.intro n0 (And.intro g0 s3))))
  clear o0 g0 n0 bV BV BR2 oV oE bE s3 sV e4 tE
  go_wp2
  refine bodyPost_ret (v := .agg R) ?_ rfl ⟨R, _, rfl, HX.out.1, HX.out.2.2.1, fun b hb => by have := HX.out.2.2.2.1 b hb; omega, HX.out.2.1⟩
  exact results_h Try.results60 (by rfl) HX.out.2.2.2.2
set_option maxHeartbeats 4000000 in
theorem copy_Object (w : World) {A : Array Value} {o : Ob} {fp : List Nat} (hb : bulkL o.dt ≤ 1048576) (h : OwnL w LObject A.toList o.dt fp) :
    Calls Try.prog 90 #[.agg A] w (NewSt LObject o.dt w) := by
  obtain ⟨a0, c0, f0, hA, hf, o0⟩ := inv_Object_ h
  simp only [Ob.dt, bulkL, Dt.bulk, len_dI, len_dP, bulk_dI, bulk_dP] at hb
  simp only [len_dI, len_dP] at hA o0
  obtain ⟨P0, q0, L0, l0, O0, _, e0, _, _⟩ := own_lies o0
  have F0 : q0 = [] ∧ ∀ W, OwnL W (List.replicate o.path.length KPt) P0 (dP o.path) [] := by
    obtain ⟨_, hq, hO⟩ := OwnL.flat (flat_rep rfl _) O0
    subst hq; exact ⟨rfl, hO⟩
  have HF := Lib.hid F0.2
  clear O0 F0 o0
  have hw2 : ((w.alloc (.cells A 28)).alloc (.cells #[.slice none 0 0, .int .i64 0, .int .i64 0, .int .i64 0, .int .i64 0, .int .i64 0] 28)).heap.size = w.heap.size + 2 := by simp
  have BA : Blk ((w.alloc (.cells A 28)).alloc (.cells #[.slice none 0 0, .int .i64 0, .int .i64 0, .int .i64 0, .int .i64 0, .int .i64 0] 28)) w.heap.size A.toList := (Blk.new w A 28 rfl).alloc _
  have BR : Blk ((w.alloc (.cells A 28)).alloc (.cells #[.slice none 0 0, .int .i64 0, .int .i64 0, .int .i64 0, .int .i64 0, .int .i64 0] 28)) (w.heap.size + 1) (#[.slice none 0 0, .int .i64 0, .int .i64 0, .int .i64 0, .int .i64 0, .int .i64 0] : Array Value).toList := Blk.new _ _ 28 (by simp)
  rw [hA] at BA
  have hW : Below w.heap.size w ((w.alloc (.cells A 28)).alloc (.cells #[.slice none 0 0, .int .i64 0, .int .i64 0, .int .i64 0, .int .i64 0, .int .i64 0] 28)) := by go_grown
  have HS := Lib.hid (And.intro BA (And.intro BR (And.intro hW hw2)))
  have l0' : P0.length = o.path.length * 2 := by simpa [Kd.sz, szL] using l0
  have HL := Lib.hid (And.intro L0 (And.intro l0' e0))
  clear BA BR hW hw2 L0 l0 l0' e0 hA h hf
  go_enter Try.func90, Try.ntmps90
  go_upto_region 1 with (fail)
  obtain ⟨W, hWe⟩ : ∃ W, W = ((w.alloc (.cells A 28)).alloc (.cells #[.slice none 0 0, .int .i64 0, .int .i64 0, .int .i64 0, .int .i64 0, .int .i64 0] 28)) := ⟨_, rfl⟩
  rw [← hWe] at HS ⊢
  clear hWe
  obtain ⟨GA, hGA⟩ : ∃ x, w.heap.size = x := ⟨_, rfl⟩
  obtain ⟨GR, hGR⟩ : ∃ x, w.heap.size + 1 = x := ⟨_, rfl⟩
  have HS2 : Hid (Blk W GA [.slice a0 o.path.length c0, .int .i64 o.gray, .int .i64 o.x0, .int .i64 o.y0, .int .i64 o.x1, .int .i64 o.y1] ∧ Blk W GR (#[.slice none 0 0, .int .i64 0, .int .i64 0, .int .i64 0, .int .i64 0, .int .i64 0] : Array Value).toList) := Lib.hid ⟨hGA ▸ HS.out.1, hGR ▸ HS.out.2.1⟩
  rw [hGR]
  have hWw := Lib.hid HS.out.2.2
  have gA : w.heap.size ≤ GA := by omega
  have gAR : GA < GR := by omega
  have gAW : GA < W.heap.size := by have := hWw.out.2; omega
  have gR : GR < W.heap.size := by have := hWw.out.2; omega
  rw [hGA]
  clear HS hGR hGA
  have hS : ∀ w', Blk w' GA [.slice a0 o.path.length c0, .int .i64 o.gray, .int .i64 o.x0, .int .i64 o.y0, .int .i64 o.x1, .int .i64 o.y1] → w'.cell? ⟨GA, 0, none⟩ = some (.slice a0 o.path.length c0) ∧ w'.cell? ⟨GA, 1, none⟩ = some (.int .i64 o.gray) ∧ w'.cell? ⟨GA, 2, none⟩ = some (.int .i64 o.x0) ∧ w'.cell? ⟨GA, 3, none⟩ = some (.int .i64 o.y0) ∧ w'.cell? ⟨GA, 4, none⟩ = some (.int .i64 o.x1) ∧ w'.cell? ⟨GA, 5, none⟩ = some (.int .i64 o.y1) := fun w' B => ⟨B.1 0 _ rfl, B.1 1 _ rfl, B.1 2 _ rfl, B.1 3 _ rfl, B.1 4 _ rfl, B.1 5 _ rfl⟩
  have HK := Lib.hid hS
  clear hS
  have HO := Lib.hid (show (W.alloc (.cells #[] 89)).drew.ownsRow W.heap.size 89 2 (.slice (some ⟨W.heap.size, 0, none⟩) 0 0) 0 [] from World.ownsRow_made W #[] (e := 89) (size := 2) 0 (Nat.le_refl _) (by decide) (by simp))
  have HL5 := Lib.hid ((HL.out.1.on hWw.out.1).on (show Below W.heap.size W (W.alloc (.cells #[] 89)).drew from by go_grown))
  go_region_held3 (fun w' => w'.cell? ⟨GA, 0, none⟩ = some (.slice a0 o.path.length c0) ∧ w'.cell? ⟨GA, 1, none⟩ = some (.int .i64 o.gray) ∧ w'.cell? ⟨GA, 2, none⟩ = some (.int .i64 o.x0) ∧ w'.cell? ⟨GA, 3, none⟩ = some (.int .i64 o.y0) ∧ w'.cell? ⟨GA, 4, none⟩ = some (.int .i64 o.x1) ∧ w'.cell? ⟨GA, 5, none⟩ = some (.int .i64 o.y1)) (first | exact HK.out _ HBE.out | exact HK.out _ (HS2.out.1.keep hB) | exact HK.out _ (HS2.out.1.keep (by go_grown)))
    ((refine step_append_sl et_pts rfl _ _ rfl W.heap.size _ 0 _ [] rfl HO.out a0 o.path.length c0 P0 rfl HL.out.2.1 HL5.out HL.out.2.2 (by unfold maxLen; omega) (by omega) (by simp) ?_; intro m0 d0 w2 r0 hgrow hsub; have hB : Below W.heap.size W w2 := (show Below W.heap.size W (W.alloc (.cells #[] 89)).drew from by go_grown).grown hgrow (by simp) (fun q hq => by have := (HO.out.lt q hq).1; exact this); have r0' : w2.ownsRow W.heap.size 89 2 (.slice m0 o.path.length d0) o.path.length P0 := (by simpa using r0); have H1 := Lib.hid (And.intro r0' hB); clear r0 r0'; have o0 := row_own2 H1.out.1 (HF.out w2); have g0 := rowF_ge (n := o.path.length) (fq := []) (fun b hb => (rowL_ge H1.out.1 b hb).1) (fun b hb => absurd hb List.not_mem_nil); have n0 := rowF_nodup (n := o.path.length) (u := .slice m0 o.path.length d0) (fq := []) List.nodup_nil (fun b _ h => absurd h List.not_mem_nil); generalize (if o.path.length = 0 then [] else rowL (.slice m0 o.path.length d0) ++ []) = F0 at o0 g0 n0; have oV := mk_ob o.gray o.x0 o.y0 o.x1 o.y1 o0; obtain ⟨E, st, BX, tt⟩ := var_put (P := Try.prog) (T := 28) (R := #[.slice m0 o.path.length d0, .int .i64 o.gray, .int .i64 o.x0, .int .i64 o.y0, .int .i64 o.x1, .int .i64 o.y1]) Try.sizeOf28 (HS2.out.2.keep hB) rfl oV rfl; have hz := hB.size; have HX := Lib.hid (And.intro (oV.turned tt (fun b hb e => by have := g0 b hb; omega)) (And.intro BX (And.intro g0 (And.intro n0 ((on_of hWw.out.1 hB).trans (tt.below (by have := hWw.out.2; omega) (fun k e => by have : k = GR := e; omega))))))); have HBE := Lib.hid ((HS2.out.1.keep hB).turned tt (fun e => by have : GA = GR := e; omega)); clear o0 g0 n0 oV BX tt))
  have lo := var_load (P := Try.prog) (T := 28) Try.isAgg28 Try.sizeOf28 HX.out.2.1 HX.out.1 rfl
  have HLo := Lib.hid lo
  have gw : w.heap.size ≤ W.heap.size := hWw.out.1.size
  clear lo
  go_wp2
  refine bodyPost_ret (v := .agg _) ?_ rfl ⟨_, _, rfl, HX.out.1, HX.out.2.2.2.1, fun b hb => by have := HX.out.2.2.1 b hb; omega, HX.out.2.2.2.2⟩
  exact results_h Try.results90 (by rfl) HLo.out
end Go.Proofs.Ytejnfdpckipbeaa.Own
