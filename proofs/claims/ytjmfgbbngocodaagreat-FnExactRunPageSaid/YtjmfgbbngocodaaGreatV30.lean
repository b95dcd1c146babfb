/-
  Texts of this seat, laid together: Del, OpJ, ClF
-/
import Derived.Deep.RegionLaw
import Derived.Lib.SliceRun
import Derived.Deep.QuietTactic
import Derived.BigQuiet
import Derived.Test.YtjmfgbbngocodaaGreatV25
import Derived.Test.YtjmfgbbngocodaaGreatV27
namespace Go.Proofs.YtjmfgbbngocodaaGreat.Own
open Go.ChangeShapes Go.WideShapes Go.ChangeAt Go.RowKit
open Kit Slabs Ints Stack Point Turn
set_option linter.unusedVariables false
set_option linter.unusedSimpArgs false
set_option linter.unnecessarySimpa false
set_option maxRecDepth 100000
attribute [local go_sem ↓] hload_Graphics hload_Object hstore_Graphics hstore_Object hload_Page hstore_Page
abbrev zeroG : List Value := [.slice none 0 0, .int .i64 0, .int .i64 0, .int .i64 0, .int .i64 0, .slice none 0 0, .int .i64 0, .int .i64 0, .int .i64 0, .int .i64 0, .int .i64 0]
theorem clear_one (w : World) (ty : TypeId) (g o c : Nat) (hc : ∀ j, j < 11 → (w.cell? ⟨g, o + j, none⟩).isSome = true) (hf : ∀ j, j < 11 → w.frozen? ⟨g, o + j, none⟩ = false) :
    (Builtin.clear_ #[43] ty #[.slice (some ⟨g, o, none⟩) 1 c]).run Tryz.prog w = .ok (.tuple #[]) (w.setCells g o zeroG) := by
  obtain ⟨i, z, ht, hi, hz, hsz, hby, hzs, hk⟩ := et_grs
  have hzz : z = .agg zeroG.toArray := by
    have := inf_grs
    rw [hi] at this
    simp only [Option.map_some, Option.some.injEq, Prod.mk.injEq] at this
    have h1 := this.1
    rw [hz] at h1
    injection h1
  subst hzz
  have hv : (zeroValue 42).run Tryz.prog w = .ok (.agg zeroG.toArray) w := by simp [zeroValue, typeInfo, hi, hz]
  have hzc : (Builtin.zeroCells (Value.agg zeroG.toArray).cells 1).toList = zeroG := by simp [Builtin.zeroCells, Value.cells]; rfl
  have hst := run_storeCells_cells (P := Tryz.prog) g o zeroG 0 w (by simpa using hc) (by simpa using hf) (by intro v hv'; simp only [zeroG, List.mem_cons, List.not_mem_nil, or_false] at hv'; rcases hv' with h | h | h | h | h | h | h | h | h | h | h <;> (subst h; rfl))
  simp only [Nat.add_zero] at hst
  simp [Builtin.clear_, run_underlying ht, hv, hzc, hst]
theorem delete_last (w : World) {B g c n m : Nat} {P' cs : List Value} (hm : m = n + 1) (h : w.ownsRow B 42 11 (.slice (some ⟨g, 0, none⟩) m c) m (P' ++ cs)) (hl : P'.length = n * 11) :
    Calls Tryz.prog 155 #[.slice (some ⟨g, 0, none⟩) m c, .int .i64 (n : Int), .int .i64 (m : Int)] w fun e w' => e = .returned (.slice (some ⟨g, 0, none⟩) n c) ∧ w'.ownsRow B 42 11 (.slice (some ⟨g, 0, none⟩) n c) n P' ∧ Turns w w' (fun b => b = g) := by
  obtain ⟨g', hg', hBg, hblk, hcap, hnc, hcm⟩ := row_cap h (by omega)
  injection hg' with hg'
  injection hg' with hg'
  subst hg'
  have hlen : (P' ++ cs).length = m * 11 := h.1
  have hcs : cs.length = 11 := by rw [List.length_append] at hlen; omega
  obtain ⟨A, hA⟩ : ∃ A : Addr, (if c = m then (some (⟨g, 0, none⟩ : Addr)) else some ⟨g, m * 11, none⟩) = some A := by
    by_cases h : c = m
    · exact ⟨⟨g, 0, none⟩, by simp [h]⟩
    · exact ⟨⟨g, m * 11, none⟩, by simp [h]⟩
  have hcl : ∀ ty, (Builtin.clear_ #[43] ty #[.slice (some ⟨g, n * 11, none⟩) 1 (c - n)]).run Tryz.prog w.drew = .ok (.tuple #[]) (w.drew.setCells g (n * 11) zeroG) := fun ty => by
    refine clear_one w.drew ty g (n * 11) (c - n) (fun j hj => ?_) (fun j hj => hblk.2.1 _)
    have := hblk.1 (n * 11 + j) cs[j] (by rw [List.getElem?_append_right (by omega), hl, Nat.add_sub_cancel_left]; exact List.getElem?_eq_getElem (by omega))
    show (w.cell? _).isSome = true
    rw [this]; rfl
  have HF : Hid ((w.drew.setCells g (n * 11) zeroG).ownsRow B 42 11 (.slice (some ⟨g, 0, none⟩) n c) n P' ∧ Turns w (w.drew.setCells g (n * 11) zeroG) (fun b => b = g)) := Lib.hid (by
    refine ⟨cap_row ?_ (Cap.sets zeroG (n * 11) (show Cap w.drew g _ _ from hcap)) hl (by omega) hcm hBg, ?_⟩
    · have := Blk.sets (w := w.drew) (b := g) (o := n * 11) (P := P') (us := cs) (vs := zeroG) (R := []) (by simpa using hblk.drew) hl (by rw [hcs]; rfl)
      exact ⟨fun o v hv => this.1 o v (by rw [List.getElem?_append_left (List.getElem?_eq_some_iff.1 hv).1]; exact hv), this.2⟩
    · exact ⟨(turns_sets (S := fun b => b = g) g rfl zeroG (n * 11) w.drew).os, (turns_sets (S := fun b => b = g) g rfl zeroG (n * 11) w.drew).tape, (turns_sets (S := fun b => b = g) g rfl zeroG (n * 11) w.drew).output, (turns_sets (S := fun b => b = g) g rfl zeroG (n * 11) w.drew).size, fun k hk hn => (turns_sets (S := fun b => b = g) g rfl zeroG (n * 11) w.drew).block k hk hn⟩)
  have hic : n ≤ c := by omega
  have hlt : n < m := by omega
  have hd : m - n = 1 := by omega
  have hne : ((n : Int) == (m : Int)) = false := by simp; omega
  obtain ⟨i, z, ht, hi, hz, hsz, hby, hzs, hk⟩ := et_grs
  have HI := Lib.hid (And.intro ht (And.intro hi hsz))
  have HM := Lib.hid hm
  clear h hblk hcap hlen hcs hl hm ht hi hz hsz hby hzs hk
  go_enter Tryz.func155, Tryz.ntmps155
  go_wp2_with fail
  go_region_law (refine step_append_room rfl (.tmp 22) (.tmp 25) 43 rfl 42 i 11 HI.out.1 HI.out.2.1 HI.out.2.2 g 0 n c (by simp [Act.eval, Act.put]) A 0 (c - m) [] (by simp [Act.eval, Act.put]) rfl (by simp) (by simp) (by omega) (by simp) ?_; rw [show ∀ o, w.drew.setCells g o [] = w.drew from fun _ => rfl])
  go_wp2
  go_ret
  exact ⟨rfl, HF.out⟩
end Go.Proofs.YtjmfgbbngocodaaGreat.Own

namespace Go.Proofs.YtjmfgbbngocodaaGreat.Own
open Go.ChangeShapes Go.WideShapes Go.ChangeAt Go.RowKit
open Kit Slabs Ints Stack Point Turn Join Pts Box
set_option linter.unusedVariables false
set_option linter.unusedSimpArgs false
set_option linter.unnecessarySimpa false
set_option maxRecDepth 100000
attribute [local go_sem ↓] hload_Graphics hload_Object hstore_Graphics hstore_Object hload_Page hstore_Page
theorem four_cells (W : World) (T : TypeId) (x y p q r s t u : Int) : ∀ i, i < [(x, y), (p, q), (r, s), (t, u)].length → (W.alloc (.cells #[.int .i64 x, .int .i64 y, .int .i64 p, .int .i64 q, .int .i64 r, .int .i64 s, .int .i64 t, .int .i64 u] T)).cell? ⟨W.heap.size, i * 2, none⟩ = some (.int .i64 (pX [(x, y), (p, q), (r, s), (t, u)] i)) ∧ (W.alloc (.cells #[.int .i64 x, .int .i64 y, .int .i64 p, .int .i64 q, .int .i64 r, .int .i64 s, .int .i64 t, .int .i64 u] T)).cell? ⟨W.heap.size, i * 2 + 1, none⟩ = some (.int .i64 (pY [(x, y), (p, q), (r, s), (t, u)] i)) := by
  intro i hi
  have : i = 0 ∨ i = 1 ∨ i = 2 ∨ i = 3 := by simp at hi; omega
  rcases this with rfl | rfl | rfl | rfl <;> exact ⟨by simp [go_sem, pX], by simp [go_sem, pY]⟩
theorem below_drewN (w : World) (n : Nat) : Below w.heap.size w (w.drewN n) := ⟨rfl, rfl, rfl, Nat.le_refl _, fun _ _ => rfl⟩
def okR (w h : Int) : Bool := decide (0 ≤ w ∧ w ≤ 200) && decide (0 ≤ h ∧ h ≤ 200)
set_option maxHeartbeats 4000000 in
theorem op_rect {w : World} {B X : Nat} {P : Pg} (h : PgAt w B X P) (hB : B ≤ w.heap.size) (hX : B ≤ X) (ht : tokB P.now.q P.now.s P.now.dx P.now.dy = true) (g2 c2 : Nat) (x y u v : Int) (hg : g2 < w.heap.size) (hx : w.cell? ⟨g2, 0, none⟩ = some (.int .i64 x)) (hy : w.cell? ⟨g2, 1, none⟩ = some (.int .i64 y)) (hu : w.cell? ⟨g2, 2, none⟩ = some (.int .i64 u)) (hv : w.cell? ⟨g2, 3, none⟩ = some (.int .i64 v)) (bx : -9999 ≤ x ∧ x ≤ 9999) (bY : -9999 ≤ y ∧ y ≤ 9999) :
    Calls Tryz.prog 125 #[.pointer (some ⟨X, 0, none⟩), .slice (some ⟨g2, 0, none⟩) 4 c2] w (OpRes B X (if okR u v = true then some (recM P x y u v) else none) w) := by
  obtain ⟨a0, c0, f0, a5, c5, P5, a11, c11, P11, f11, a12, c12, P12, f12, h⟩ := h.flat
  obtain ⟨A, fA, oA, hL⟩ := h.load
  have hXl := h.blk.2.2
  have HH := Lib.hid h
  have HL := Lib.hid (And.intro oA hL)
  have HT := Lib.hid ht
  have HN : Hid (∀ nq, OpRes B X none w (.returned (.bool false)) (w.drewN nq)) := Lib.hid fun nq => ⟨rfl, (below_drewN w nq).mono hB, fun P' hP => by cases hP⟩
  clear h oA hL ht
  by_cases hok : okR u v = true
  · have hok' := hok
    simp only [okR, Bool.and_eq_true, decide_eq_true_eq] at hok'
    obtain ⟨⟨u0, u1⟩, v0, v1⟩ := hok'
    have nu0 : ¬ u < 0 := by omega
    have nu1 : ¬ 200 < u := by omega
    have nv0 : ¬ v < 0 := by omega
    have nv1 : ¬ 200 < v := by omega
    rw [if_pos hok]
    clear hok
    go_enter Tryz.func125, Tryz.ntmps125
    go_upto_region 1 with (fail)
    go_quiet (fail)
    have bD := below_drewN w nq
    generalize w.drewN nq = W at bD ⊢
    have hzW := bD.size
    have bA : Below w.heap.size w (W.alloc (.cells #[.int .i64 x, .int .i64 y, .int .i64 (x + u), .int .i64 y, .int .i64 (x + u), .int .i64 (y + v), .int .i64 x, .int .i64 (y + v)] 109)) := by have := bD; go_grown
    have HC := Lib.hid (placed_n _ HT.out (HL.out.1.under bA) W.heap.size 4 [(x, y), (x + u, y), (x + u, y + v), (x, y + v)] 4 rfl (by simp) (by simp) (four_cells W 109 x y (x + u) y (x + u) (y + v) x (y + v)) (fun i hi => by
      have : i = 0 ∨ i = 1 ∨ i = 2 ∨ i = 3 := by simp at hi; omega
      rcases this with rfl | rfl | rfl | rfl <;> exact ⟨by simp [pX]; omega, by simp [pY]; omega⟩))
    have HS := Lib.hid (HH.out.placed1 hB hX bA (g := { P.now with path := (rctL x y u v).map fun q => imP P.now q.1 q.2 }) rfl)
    have HBA := Lib.hid bA
    have ra := HL.out.2 W bD
    clear bD bA hx hy hu hv
    go_wp2_with fail
    clear ra
    ((with_reducible refine (HC.out).mono ?_); rintro e w5 ⟨a', c', rfl, r5, b5⟩)
    have b05 := on_of HBA.out b5
    have k5 := (HH.out.blk.keep b05).1 5 _ rfl
    have fz := (HH.out.blk.keep b05).2.1
    have HR := Lib.hid (HS.out w5 a' c' r5 b5)
    clear r5 b5 b05
    go_wp2
    go_ret
    exact HR.out
  · have hno := hok
    rw [if_neg hok]
    simp only [okR, Bool.and_eq_true, decide_eq_true_eq] at hno
    clear hok
    go_enter Tryz.func125, Tryz.ntmps125
    go_upto_region 1 with (fail)
    go_quiet (fail)
    have HF := Lib.hid (HN.out nq)
    clear hx hy hu hv
    by_cases u0 : u < 0
    · clear hno
      go_wp2
      go_ret
      exact HF.out
    by_cases u1 : 200 < u
    · clear hno
      go_wp2
      go_ret
      exact HF.out
    by_cases v0 : v < 0
    · clear hno
      go_wp2
      go_ret
      exact HF.out
    have v1 : 200 < v := by omega
    clear hno
    go_wp2
    go_ret
    exact HF.out
end Go.Proofs.YtjmfgbbngocodaaGreat.Own

namespace Go.Proofs.YtjmfgbbngocodaaGreat.Own
open Go.ChangeShapes Go.WideShapes Go.ChangeAt Go.RowKit
open Kit Slabs Ints Stack Point Turn
set_option linter.unusedVariables false
set_option linter.unusedSimpArgs false
set_option linter.unnecessarySimpa false
set_option maxRecDepth 100000
attribute [local go_sem ↓] hload_Graphics hload_Object hstore_Graphics hstore_Object hload_Page hstore_Page
set_option maxHeartbeats 8000000 in
theorem clone_Page (w : World) {A : Array Value} {p : Pg} {fp : List Nat} (hb : bulkL p.dt ≤ 1048576) (h : OwnL w LPage A.toList p.dt fp) :
    Calls Tryz.prog 38 #[.agg A] w (PgNew p w) := by
  obtain ⟨G, a11, c11, a12, c12, f0, f11, f12, hA, hf, o0, o11, o12⟩ := inv_Page_ (by rfl) h
  simp only [Pg.dt, bulkL_app, bulkL, Dt.bulk, len_dG, len_dO] at hb
  simp only [len_dG, len_dO] at hA o11 o12
  obtain ⟨C, hC⟩ : ∃ C, G.toArray = C := ⟨_, rfl⟩
  have tC : C.toList = G := by rw [← hC]
  have nG : C.toList.length = 11 := by rw [tC]; exact o0.len
  rw [← tC] at o0 hA
  obtain ⟨P11, q11, L11, l11, O11, _, e11, _, _⟩ := own_lies o11
  obtain ⟨P12, q12, L12, l12, O12, _, e12, _, _⟩ := own_lies o12
  have l11' : P11.length = p.saved.length * 11 := by simpa [Kd.sz, szL] using l11
  have l12' : P12.length = p.objs.length * 6 := by simpa [Kd.sz, szL] using l12
  have hw2 : ((w.alloc (.cells A 46)).alloc (.cells #[.slice none 0 0, .int .i64 0, .int .i64 0, .int .i64 0, .int .i64 0, .slice none 0 0, .int .i64 0, .int .i64 0, .int .i64 0, .int .i64 0, .int .i64 0, .slice none 0 0, .slice none 0 0] 46)).heap.size = w.heap.size + 2 := by simp
  have BA : Blk ((w.alloc (.cells A 46)).alloc (.cells #[.slice none 0 0, .int .i64 0, .int .i64 0, .int .i64 0, .int .i64 0, .slice none 0 0, .int .i64 0, .int .i64 0, .int .i64 0, .int .i64 0, .int .i64 0, .slice none 0 0, .slice none 0 0] 46)) w.heap.size A.toList := (Blk.new w A 46 rfl).alloc _
  have BR : Blk ((w.alloc (.cells A 46)).alloc (.cells #[.slice none 0 0, .int .i64 0, .int .i64 0, .int .i64 0, .int .i64 0, .slice none 0 0, .int .i64 0, .int .i64 0, .int .i64 0, .int .i64 0, .int .i64 0, .slice none 0 0, .slice none 0 0] 46)) (w.heap.size + 1) (#[.slice none 0 0, .int .i64 0, .int .i64 0, .int .i64 0, .int .i64 0, .slice none 0 0, .int .i64 0, .int .i64 0, .int .i64 0, .int .i64 0, .int .i64 0, .slice none 0 0, .slice none 0 0] : Array Value).toList := Blk.new _ _ 46 (by simp)
  rw [hA] at BA
  have hW : Below w.heap.size w ((w.alloc (.cells A 46)).alloc (.cells #[.slice none 0 0, .int .i64 0, .int .i64 0, .int .i64 0, .int .i64 0, .slice none 0 0, .int .i64 0, .int .i64 0, .int .i64 0, .int .i64 0, .int .i64 0, .slice none 0 0, .slice none 0 0] 46)) := by go_grown
  have HS := Lib.hid (And.intro BA (And.intro BR (And.intro hW hw2)))
  have HO := Lib.hid (And.intro o0 (And.intro O11 (And.intro O12 nG)))
  have HL := Lib.hid (And.intro L11 (And.intro L12 (And.intro l11' l12')))
  have HE := Lib.hid (And.intro e11 e12)
  have HO12 := Lib.hid o12
  clear BA BR hW hw2 L11 L12 l11 l12 l11' l12' e11 e12 hA h hf o0 o11 o12 O11 O12 hC tC nG
  go_enter Tryz.func38, Tryz.ntmps38
  go_upto_region 1 with (fail)
  obtain ⟨W, hWe⟩ : ∃ W, W = ((w.alloc (.cells A 46)).alloc (.cells #[.slice none 0 0, .int .i64 0, .int .i64 0, .int .i64 0, .int .i64 0, .slice none 0 0, .int .i64 0, .int .i64 0, .int .i64 0, .int .i64 0, .int .i64 0, .slice none 0 0, .slice none 0 0] 46)) := ⟨_, rfl⟩
  rw [← hWe] at HS ⊢
  clear hWe
  obtain ⟨GA, hGA⟩ : ∃ x, w.heap.size = x := ⟨_, rfl⟩
  obtain ⟨GR, hGR⟩ : ∃ x, w.heap.size + 1 = x := ⟨_, rfl⟩
  have HS2 : Hid (Blk W GA (C.toList ++ [.slice a11 p.saved.length c11, .slice a12 p.objs.length c12]) ∧ Blk W GR (#[.slice none 0 0, .int .i64 0, .int .i64 0, .int .i64 0, .int .i64 0, .slice none 0 0, .int .i64 0, .int .i64 0, .int .i64 0, .int .i64 0, .int .i64 0, .slice none 0 0, .slice none 0 0] : Array Value).toList) := Lib.hid ⟨hGA ▸ HS.out.1, hGR ▸ HS.out.2.1⟩
  rw [hGR]
  have hWw := Lib.hid HS.out.2.2
  have gA : w.heap.size ≤ GA := by omega
  have gAR : GA < GR := by omega
  have gAW : GA < W.heap.size := by have := hWw.out.2; omega
  have gR : GR < W.heap.size := by have := hWw.out.2; omega
  rw [hGA]
  clear HS hGR hGA
  have HC : Hid (∀ (w' : World) (X : List Value) (a a' : Option Addr) (c c' : Nat), X.length = 11 → Blk w' GA (X ++ [.slice a p.saved.length c, .slice a' p.objs.length c']) → w'.cell? ⟨GA, 11, none⟩ = some (.slice a p.saved.length c) ∧ w'.cell? ⟨GA, 12, none⟩ = some (.slice a' p.objs.length c')) := Lib.hid fun w' X a a' c c' hX B => ⟨B.1 11 _ (by rw [List.getElem?_append_right (by omega)]; simp [hX]), B.1 12 _ (by rw [List.getElem?_append_right (by omega)]; simp [hX])⟩
  have ra := hload_run (P := Tryz.prog) (t := 42) Tryz.isAgg42 Tryz.sizeOf42 (w := W.drew) (b := GA) (o := 0) (us := C.toList) (Blk.part (P := []) HS2.out.1.drew rfl) HO.out.2.2.2
  rw [Array.toArray_toList] at ra
  obtain ⟨k11, k12⟩ := HC.out W _ _ _ _ _ HO.out.2.2.2 HS2.out.1
  have hWd := Lib.hid (show Below w.heap.size w W.drew from by have := hWw.out.1; go_grown)
  go_cut [] (fun wx => Mid1 p W.heap.size GA GR P11 w wx)
  case first =>
    go_region_law (first
      | (go_simp; go_at_call 81; (with_reducible refine (clone_Graphics W.drew (by omega) (HO.out.1.under hWd.out)).mono ?_); rintro e w1 ⟨R1, F1, rfl, g1, b1⟩; have b1 := on_of (W := W) (by go_grown) b1; have g1 : GrRows w1 W.heap.size R1.toList p.now F1 := g1; have hz := b1.size; have j1 := HC.out w1 _ _ _ _ _ HO.out.2.2.2 (HS2.out.1.keep b1); obtain ⟨j11, j12⟩ := j1; have H1 := Lib.hid (And.intro g1 b1); clear g1 b1)
      | (go_simp; go_at_call 82; (with_reducible refine (cop_grs _ a11 p.saved.length c11 P11 (by omega) HL.out.2.2.1 HE.out.1 (HL.out.1.on (on_of hWw.out.1 H1.out.2))).mono ?_); rintro e w2 ⟨m11, d11, rfl, r11, b2⟩; have hz2 := b2.size; have j2 := HC.out w2 _ _ _ _ _ HO.out.2.2.2 (HS2.out.1.keep (on_of H1.out.2 b2)); obtain ⟨i11, i12⟩ := j2; have H2 := Lib.hid (And.intro r11 b2); clear r11 b2)
      | (go_simp; go_at_call 83; (with_reducible refine (cobs_impl _ a12 c12 p.objs (by omega) (HO12.out.under (on_of hWw.out.1 (on_of H1.out.2 H2.out.2)))).mono ?_); rintro e w3 ⟨m12, d12, F12, rfl, r12, b3⟩; have hz3 := b3.size; have B3 := HS2.out.1.keep (on_of (on_of H1.out.2 H2.out.2) b3); have st := hstore_run (P := Tryz.prog) (t := 42) Tryz.sizeOf42 (w := w3) (b := GA) (o := 0) (A := []) (us := C.toList) (R := [.slice a11 p.saved.length c11, .slice a12 p.objs.length c12]) (vs := R1.toList) B3 rfl (by rw [H1.out.1.len, HO.out.2.2.2]) H1.out.1.len (one_of H1.out.1); have eR : R1.toList.toArray = R1 := (by simp); rw [eR] at st; have BV := Blk.sets (P := []) (us := C.toList) (vs := R1.toList) (R := [.slice a11 p.saved.length c11, .slice a12 p.objs.length c12]) (w := w3) (b := GA) (o := 0) B3 rfl (by rw [H1.out.1.len, HO.out.2.2.2]); have tV := turns_sets (S := fun b => b = GA) GA rfl R1.toList 0 w3; generalize w3.setCells GA 0 R1.toList = V at st BV tV; have jV := HC.out V R1.toList _ _ _ _ H1.out.1.len BV; obtain ⟨v11, v12⟩ := jV; have vf := BV.2.1; have H3 := Lib.hid (And.intro r12 (And.intro b3 (And.intro BV tV))); clear r12 b3 B3 BV tV eR))
    all_goals
      have HM : Hid (Mid1 p W.heap.size GA GR P11 w ((V.setCell ⟨GA, 11, none⟩ (.slice m11 p.saved.length d11)).setCell ⟨GA, 12, none⟩ (.slice m12 p.objs.length d12))) := Lib.hid (mid_of hWw.out.1 gA gAR gAW gR HS2.out.2 H1.out.1 H1.out.2 H2.out.1 H2.out.2 H3.out.1 H3.out.2.1 H3.out.2.2.1 H3.out.2.2.2)
      clear ra k11 k12 j11 j12 i11 i12 st v11 v12 vf
      go_wp2_with fail
      go_meet
      exact HM.out
  case rest =>
    have hsW := hWw.out.1.size
    obtain ⟨b11, d11, b12, d12, P12', R1, F1, hL0, hlR, hlP⟩ := Lp.start hcut (by omega)
    have HlR := Lib.hid hlR
    obtain ⟨n, hN⟩ : ∃ n, p.saved.length = n := ⟨_, rfl⟩
    obtain ⟨m, hM⟩ : ∃ m, p.objs.length = m := ⟨_, rfl⟩
    have HNn := Lib.hid hN
    have HNm := Lib.hid hM
    have c0 := (hL0.cells hlR).1
    rw [hN] at c0
    have HLP := Lib.hid hL0
    have HlP := Lib.hid hlP
    clear hlP
    rw [hN, hM] at hb
    clear hL0 hlR hN hM hcut ra k11 k12
    go_wp2_with fail
    clear c0
    go_loopw [20] (fun v wr => ∃ k : Nat, k ≤ n ∧ v = .int .i64 (k : Int) ∧ Lp p W.heap.size GA GR b11 d11 b12 d12 P11 P12' R1 F1 w k p.objs.length wr) (fun v _ => n - (intOf v).toNat)
    case atStart => exact ⟨0, Nat.zero_le _, rfl, HLP.out⟩
    case round =>
      obtain ⟨k, hk, rfl, hL⟩ := hrel
      have HLk := Lib.hid hL
      clear hL
      by_cases hlt : k < n
      · have hkl : k < p.saved.length := by rw [HNn.out]; exact hlt
        obtain ⟨g, C, f, hbg, hgB, hgl, oC, hld, hput⟩ := HLk.out.one HO.out.2.1 hkl (by omega) (by omega) (by omega)
        have L1 := hld
        have HP := Lib.hid hput
        have HBg := Lib.hid hbg
        have i0 : (0 : Int) ≤ (k : Int) := by omega
        have i1 : (k : Int) < (n : Int) := by omega
        have hbk : bulkL p.saved[k].dt ≤ 1048576 := by
          have h1 := bulk_elt (es := dG p.saved) (i := k) (by rw [len_dG]; exact hkl)
          have e3 : (dG p.saved)[k]'(by rw [len_dG]; exact hkl) = .st p.saved[k].dt := by simp [dG]
          rw [e3] at h1
          simp only [Dt.bulk] at h1
          omega
        obtain ⟨E, st, BX, cx, zx⟩ := var_new (P := Tryz.prog) (T := 42) Tryz.sizeOf42 wr #[.slice none 0 0, .int .i64 0, .int .i64 0, .int .i64 0, .int .i64 0, .slice none 0 0, .int .i64 0, .int .i64 0, .int .i64 0, .int .i64 0, .int .i64 0] rfl oC rfl
        have LE := HLk.out.on cx
        have HE0 := Lib.hid (And.intro LE (And.intro BX cx))
        have HD := Lib.hid (And.intro (oC.under (on_of HLk.out.below cx)) oC)
        have kk := (LE.cells HlR.out).1
        rw [HNn.out, hbg] at kk
        clear hld hput LE BX cx oC
        rw [hbg]
        go_upto_region 5 with (fail)
        clear L1 st kk
        have hz := HE0.out.2.2.size
        have HK : Hid (∀ w', Below E.heap.size E w' → w'.cell? ⟨GA, 11, none⟩ = some (.slice (some ⟨g, 0, none⟩) n d11) ∧ (hload 42 ⟨wr.heap.size, 0, none⟩).run Tryz.prog w' = .ok (.agg C) w') := Lib.hid fun w' hb' => ⟨by have := ((HE0.out.1.on hb').cells HlR.out).1; rw [HNn.out, HBg.out] at this; exact this, var_load Tryz.isAgg42 Tryz.sizeOf42 (HE0.out.2.1.keep hb') HD.out.2 rfl⟩
        go_region_held3 (fun w' => w'.cell? ⟨GA, 11, none⟩ = some (.slice (some ⟨g, 0, none⟩) n d11) ∧ (hload 42 ⟨wr.heap.size, 0, none⟩).run Tryz.prog w' = .ok (.agg C) w') (first | exact HS9.out | exact HK.out _ hB | exact HK.out _ (by go_grown))
          ((go_at_call 81; (with_reducible refine (clone_Graphics _ hbk (HD.out.1.under (by first | exact hB | exact Below.refl _ _ | go_grown))).mono ?_); rintro e w5 ⟨R, F0, rfl, gR, bb⟩; obtain ⟨F, oR, nR, sR⟩ := gR.own; have gF := fun b hb => gR.ge b (sR b hb); clear gR sR; have hB := on_of (W := E) (by go_grown) bb; have gF' : ∀ b ∈ F, E.heap.size ≤ b := gF; obtain ⟨V, st, tV, LV⟩ := HP.out w5 R F (HE0.out.2.2.trans (hB.mono hz)) oR nR (fun b hb => by have := gF' b hb; omega); have HV := Lib.hid (And.intro LV (And.intro tV.size hB)); have HS9 : Hid (V.cell? ⟨GA, 11, none⟩ = some (.slice (some ⟨g, 0, none⟩) n d11) ∧ (hload 42 ⟨wr.heap.size, 0, none⟩).run Tryz.prog V = .ok (.agg C) V) := Lib.hid ⟨(by have := (LV.cells HlR.out).1; rw [HNn.out, HBg.out] at this; exact this), var_load Tryz.isAgg42 Tryz.sizeOf42 ((HE0.out.2.1.keep hB).turned tV (fun e => by have e' : wr.heap.size = g := e; omega)) HD.out.2 rfl⟩; clear LV tV oR nR gF gF'))
        go_wp2
        go_roundw
        case rel => exact ⟨k + 1, by omega, by go_num, by have := HV.out.1; rw [HBg.out] at this; exact this⟩
        case measure => simp [intOf]; omega
      · obtain rfl : k = n := by omega
        obtain ⟨F, PR, BGA, BGR⟩ := Lp.done (by rw [HNn.out]; exact HLk.out) HL.out.2.2.1 HlP.out
        obtain ⟨fV, oV, _, _⟩ := PR.own
        have bV := HLk.out.below
        have hgF := PR.ge
        have sV := bV.size
        obtain ⟨R, E, s1, s2, s3, e4, tE, bE⟩ := hand_over (P := Tryz.prog) (T := 46) Tryz.isAgg46 Tryz.sizeOf46 BGA BGR rfl oV rfl bV (by omega) (by omega)
        have PE := (PR.stays tE.size (fun b hb => tE.block b (PR.lt b hb) (fun e => by have := hgF b hb; have e' : b = GR := e; omega))).base hsW
        rw [← e4] at PE
        have c1 := (HLk.out.cells HlR.out).2
        rw [HNm.out] at c1
        have HX := Lib.hid (And.intro PE (And.intro bE s3))
        clear PR BGA BGR oV bV hgF e4 tE PE bE s3
        go_wp2
        refine bodyPost_ret (v := .agg R) ?_ rfl ⟨R, _, rfl, HX.out.1, HX.out.2.1⟩
        exact results_h Tryz.results38 (by rfl) HX.out.2.2
end Go.Proofs.YtjmfgbbngocodaaGreat.Own

