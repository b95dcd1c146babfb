/-
  Texts of this seat, laid together: Del, OpJ, ExT
-/
import Derived.Deep.RegionLaw
import Derived.Lib.SliceRun
import Derived.Deep.QuietTactic
import Derived.BigQuiet
import Derived.Laws.EntriesVeiled
import Derived.Test.YtnkookegoicfnaaGreatW23
import Derived.Test.YtnkookegoicfnaaGreatW27
import Derived.Test.YtnkookegoicfnaaGreatW19
namespace Go.Proofs.YtnkookegoicfnaaGreat.Own
open Go.ChangeShapes Go.WideShapes Go.ChangeAt Go.RowKit
open Kit Slabs Ints Stack Point Turn
set_option linter.unusedVariables false
set_option linter.unusedSimpArgs false
set_option linter.unnecessarySimpa false
set_option maxRecDepth 100000
attribute [local go_sem ↓] hload_Graphics hload_Object hstore_Graphics hstore_Object hload_Page hstore_Page
abbrev zeroG : List Value := [.slice none 0 0, .int .i64 0, .int .i64 0, .int .i64 0, .int .i64 0, .slice none 0 0, .int .i64 0, .int .i64 0, .int .i64 0, .int .i64 0, .int .i64 0]
theorem clear_one (w : World) (ty : TypeId) (g o c : Nat) (hc : ∀ j, j < 11 → (w.cell? ⟨g, o + j, none⟩).isSome = true) (hf : ∀ j, j < 11 → w.frozen? ⟨g, o + j, none⟩ = false) :
    (Builtin.clear_ #[43] ty #[.slice (some ⟨g, o, none⟩) 1 c]).run Tryz.prog w = .ok (.tuple #[]) (w.setCells g o zeroG) := by
  obtain ⟨i, z, ht, hi, hz, hsz, hby, hzs, hk⟩ := et_grs
  have hzz : z = .agg zeroG.toArray := by
    have := inf_grs
    rw [hi] at this
    simp only [Option.map_some, Option.some.injEq, Prod.mk.injEq] at this
    have h1 := this.1
    rw [hz] at h1
    injection h1
  subst hzz
  have hv : (zeroValue 42).run Tryz.prog w = .ok (.agg zeroG.toArray) w := by simp [zeroValue, typeInfo, hi, hz]
  have hzc : (Builtin.zeroCells (Value.agg zeroG.toArray).cells 1).toList = zeroG := by simp [Builtin.zeroCells, Value.cells]; rfl
  have hst := run_storeCells_cells (P := Tryz.prog) g o zeroG 0 w (by simpa using hc) (by simpa using hf) (by intro v hv'; simp only [zeroG, List.mem_cons, List.not_mem_nil, or_false] at hv'; rcases hv' with h | h | h | h | h | h | h | h | h | h | h <;> (subst h; rfl))
  simp only [Nat.add_zero] at hst
  simp [Builtin.clear_, run_underlying ht, hv, hzc, hst]
theorem delete_last (w : World) {B g c n m : Nat} {P' cs : List Value} (hm : m = n + 1) (h : w.ownsRow B 42 11 (.slice (some ⟨g, 0, none⟩) m c) m (P' ++ cs)) (hl : P'.length = n * 11) :
    Calls Tryz.prog 154 #[.slice (some ⟨g, 0, none⟩) m c, .int .i64 (n : Int), .int .i64 (m : Int)] w fun e w' => e = .returned (.slice (some ⟨g, 0, none⟩) n c) ∧ w'.ownsRow B 42 11 (.slice (some ⟨g, 0, none⟩) n c) n P' ∧ Turns w w' (fun b => b = g) := by
  obtain ⟨g', hg', hBg, hblk, hcap, hnc, hcm⟩ := row_cap h (by omega)
  injection hg' with hg'
  injection hg' with hg'
  subst hg'
  have hlen : (P' ++ cs).length = m * 11 := h.1
  have hcs : cs.length = 11 := by rw [List.length_append] at hlen; omega
  obtain ⟨A, hA⟩ : ∃ A : Addr, (if c = m then (some (⟨g, 0, none⟩ : Addr)) else some ⟨g, m * 11, none⟩) = some A := by
    by_cases h : c = m
    · exact ⟨⟨g, 0, none⟩, by simp [h]⟩
    · exact ⟨⟨g, m * 11, none⟩, by simp [h]⟩
  have hcl : ∀ ty, (Builtin.clear_ #[43] ty #[.slice (some ⟨g, n * 11, none⟩) 1 (c - n)]).run Tryz.prog w.drew = .ok (.tuple #[]) (w.drew.setCells g (n * 11) zeroG) := fun ty => by
    refine clear_one w.drew ty g (n * 11) (c - n) (fun j hj => ?_) (fun j hj => hblk.2.1 _)
    have := hblk.1 (n * 11 + j) cs[j] (by rw [List.getElem?_append_right (by omega), hl, Nat.add_sub_cancel_left]; exact List.getElem?_eq_getElem (by omega))
    show (w.cell? _).isSome = true
    rw [this]; rfl
  have HF : Hid ((w.drew.setCells g (n * 11) zeroG).ownsRow B 42 11 (.slice (some ⟨g, 0, none⟩) n c) n P' ∧ Turns w (w.drew.setCells g (n * 11) zeroG) (fun b => b = g)) := Lib.hid (by
    refine ⟨cap_row ?_ (Cap.sets zeroG (n * 11) (show Cap w.drew g _ _ from hcap)) hl (by omega) hcm hBg, ?_⟩
    · have := Blk.sets (w := w.drew) (b := g) (o := n * 11) (P := P') (us := cs) (vs := zeroG) (R := []) (by simpa using hblk.drew) hl (by rw [hcs]; rfl)
      exact ⟨fun o v hv => this.1 o v (by rw [List.getElem?_append_left (List.getElem?_eq_some_iff.1 hv).1]; exact hv), this.2⟩
    · exact ⟨(turns_sets (S := fun b => b = g) g rfl zeroG (n * 11) w.drew).os, (turns_sets (S := fun b => b = g) g rfl zeroG (n * 11) w.drew).tape, (turns_sets (S := fun b => b = g) g rfl zeroG (n * 11) w.drew).output, (turns_sets (S := fun b => b = g) g rfl zeroG (n * 11) w.drew).size, fun k hk hn => (turns_sets (S := fun b => b = g) g rfl zeroG (n * 11) w.drew).block k hk hn⟩)
  have hic : n ≤ c := by omega
  have hlt : n < m := by omega
  have hd : m - n = 1 := by omega
  have hne : ((n : Int) == (m : Int)) = false := by simp; omega
  obtain ⟨i, z, ht, hi, hz, hsz, hby, hzs, hk⟩ := et_grs
  have HI := Lib.hid (And.intro ht (And.intro hi hsz))
  have HM := Lib.hid hm
  clear h hblk hcap hlen hcs hl hm ht hi hz hsz hby hzs hk
  go_enter Tryz.func154, Tryz.ntmps154
  go_wp2_with fail
  go_region_law (refine step_append_room rfl (.tmp 22) (.tmp 25) 43 rfl 42 i 11 HI.out.1 HI.out.2.1 HI.out.2.2 g 0 n c (by simp [Act.eval, Act.put]) A 0 (c - m) [] (by simp [Act.eval, Act.put]) rfl (by simp) (by simp) (by omega) (by simp) ?_; rw [show ∀ o, w.drew.setCells g o [] = w.drew from fun _ => rfl])
  go_wp2
  go_ret
  exact ⟨rfl, HF.out⟩
end Go.Proofs.YtnkookegoicfnaaGreat.Own

namespace Go.Proofs.YtnkookegoicfnaaGreat.Own
open Go.ChangeShapes Go.WideShapes Go.ChangeAt Go.RowKit
open Kit Slabs Ints Stack Point Turn Join Pts Box
set_option linter.unusedVariables false
set_option linter.unusedSimpArgs false
set_option linter.unnecessarySimpa false
set_option maxRecDepth 100000
attribute [local go_sem ↓] hload_Graphics hload_Object hstore_Graphics hstore_Object hload_Page hstore_Page
theorem four_cells (W : World) (T : TypeId) (x y p q r s t u : Int) : ∀ i, i < [(x, y), (p, q), (r, s), (t, u)].length → (W.alloc (.cells #[.int .i64 x, .int .i64 y, .int .i64 p, .int .i64 q, .int .i64 r, .int .i64 s, .int .i64 t, .int .i64 u] T)).cell? ⟨W.heap.size, i * 2, none⟩ = some (.int .i64 (pX [(x, y), (p, q), (r, s), (t, u)] i)) ∧ (W.alloc (.cells #[.int .i64 x, .int .i64 y, .int .i64 p, .int .i64 q, .int .i64 r, .int .i64 s, .int .i64 t, .int .i64 u] T)).cell? ⟨W.heap.size, i * 2 + 1, none⟩ = some (.int .i64 (pY [(x, y), (p, q), (r, s), (t, u)] i)) := by
  intro i hi
  have : i = 0 ∨ i = 1 ∨ i = 2 ∨ i = 3 := by simp at hi; omega
  rcases this with rfl | rfl | rfl | rfl <;> exact ⟨by simp [go_sem, pX], by simp [go_sem, pY]⟩
theorem below_drewN (w : World) (n : Nat) : Below w.heap.size w (w.drewN n) := ⟨rfl, rfl, rfl, Nat.le_refl _, fun _ _ => rfl⟩
def okR (w h : Int) : Bool := decide (0 ≤ w ∧ w ≤ 200) && decide (0 ≤ h ∧ h ≤ 200)
set_option maxHeartbeats 4000000 in
theorem op_rect {w : World} {B X : Nat} {P : Pg} (h : PgAt w B X P) (hB : B ≤ w.heap.size) (hX : B ≤ X) (ht : tokB P.now.q P.now.s P.now.dx P.now.dy = true) (g2 c2 : Nat) (x y u v : Int) (hg : g2 < w.heap.size) (hx : w.cell? ⟨g2, 0, none⟩ = some (.int .i64 x)) (hy : w.cell? ⟨g2, 1, none⟩ = some (.int .i64 y)) (hu : w.cell? ⟨g2, 2, none⟩ = some (.int .i64 u)) (hv : w.cell? ⟨g2, 3, none⟩ = some (.int .i64 v)) (bx : -9999 ≤ x ∧ x ≤ 9999) (bY : -9999 ≤ y ∧ y ≤ 9999) :
    Calls Tryz.prog 124 #[.pointer (some ⟨X, 0, none⟩), .slice (some ⟨g2, 0, none⟩) 4 c2] w (OpRes B X (if okR u v = true then some (recM P x y u v) else none) w) := by
  obtain ⟨a0, c0, f0, a5, c5, P5, a11, c11, P11, f11, a12, c12, P12, f12, h⟩ := h.flat
  obtain ⟨A, fA, oA, hL⟩ := h.load
  have hXl := h.blk.2.2
  have HH := Lib.hid h
  have HL := Lib.hid (And.intro oA hL)
  have HT := Lib.hid ht
  have HN : Hid (∀ nq, OpRes B X none w (.returned (.bool false)) (w.drewN nq)) := Lib.hid fun nq => ⟨rfl, (below_drewN w nq).mono hB, fun P' hP => by cases hP⟩
  clear h oA hL ht
  by_cases hok : okR u v = true
  · have hok' := hok
    simp only [okR, Bool.and_eq_true, decide_eq_true_eq] at hok'
    obtain ⟨⟨u0, u1⟩, v0, v1⟩ := hok'
    have nu0 : ¬ u < 0 := by omega
    have nu1 : ¬ 200 < u := by omega
    have nv0 : ¬ v < 0 := by omega
    have nv1 : ¬ 200 < v := by omega
    rw [if_pos hok]
    clear hok
    go_enter Tryz.func124, Tryz.ntmps124
    go_upto_region 1 with (fail)
    go_quiet (fail)
    have bD := below_drewN w nq
    generalize w.drewN nq = W at bD ⊢
    have hzW := bD.size
    have bA : Below w.heap.size w (W.alloc (.cells #[.int .i64 x, .int .i64 y, .int .i64 (x + u), .int .i64 y, .int .i64 (x + u), .int .i64 (y + v), .int .i64 x, .int .i64 (y + v)] 109)) := by have := bD; go_grown
    have HC := Lib.hid (placed_n _ HT.out (HL.out.1.under bA) W.heap.size 4 [(x, y), (x + u, y), (x + u, y + v), (x, y + v)] 4 rfl (by simp) (by simp) (four_cells W 109 x y (x + u) y (x + u) (y + v) x (y + v)) (fun i hi => by
      have : i = 0 ∨ i = 1 ∨ i = 2 ∨ i = 3 := by simp at hi; omega
      rcases this with rfl | rfl | rfl | rfl <;> exact ⟨by simp [pX]; omega, by simp [pY]; omega⟩))
    have HS := Lib.hid (HH.out.placed1 hB hX bA (g := { P.now with path := (rctL x y u v).map fun q => imP P.now q.1 q.2 }) rfl)
    have HBA := Lib.hid bA
    have ra := HL.out.2 W bD
    clear bD bA hx hy hu hv
    go_wp2_with fail
    clear ra
    ((with_reducible refine (HC.out).mono ?_); rintro e w5 ⟨a', c', rfl, r5, b5⟩)
    have b05 := on_of HBA.out b5
    have k5 := (HH.out.blk.keep b05).1 5 _ rfl
    have fz := (HH.out.blk.keep b05).2.1
    have HR := Lib.hid (HS.out w5 a' c' r5 b5)
    clear r5 b5 b05
    go_wp2
    go_ret
    exact HR.out
  · have hno := hok
    rw [if_neg hok]
    simp only [okR, Bool.and_eq_true, decide_eq_true_eq] at hno
    clear hok
    go_enter Tryz.func124, Tryz.ntmps124
    go_upto_region 1 with (fail)
    go_quiet (fail)
    have HF := Lib.hid (HN.out nq)
    clear hx hy hu hv
    by_cases u0 : u < 0
    · clear hno
      go_wp2
      go_ret
      exact HF.out
    by_cases u1 : 200 < u
    · clear hno
      go_wp2
      go_ret
      exact HF.out
    by_cases v0 : v < 0
    · clear hno
      go_wp2
      go_ret
      exact HF.out
    have v1 : 200 < v := by omega
    clear hno
    go_wp2
    go_ret
    exact HF.out
end Go.Proofs.YtnkookegoicfnaaGreat.Own

namespace Go.Proofs.YtnkookegoicfnaaGreat.Own
open Go.ChangeShapes Go.WideShapes Go.ChangeAt Go.RowKit
open Kit Slabs Ints Stack Impl
set_option linter.unusedVariables false
set_option linter.unusedSimpArgs false
set_option linter.unnecessarySimpa false
set_option maxRecDepth 100000
def opN (s : ByteArray) : Option Nat :=
  if s.toList == [110, 101, 119] then some 0
  else if s.toList == [109, 111, 118, 101, 116, 111] then some 1
  else if s.toList == [108, 105, 110, 101, 116, 111] then some 2
  else if s.toList == [114, 101, 99, 116] then some 3
  else if s.toList == [102, 105, 108, 108] then some 4
  else if s.toList == [103, 114, 97, 121] then some 5
  else if s.toList == [99, 108, 105, 112] then some 6
  else if s.toList == [115, 97, 118, 101] then some 7
  else if s.toList == [114, 101, 115, 116, 111, 114, 101] then some 8
  else if s.toList == [115, 104, 105, 102, 116] then some 9
  else if s.toList == [116, 117, 114, 110] then some 10
  else if s.toList == [115, 99, 97, 108, 101] then some 11
  else none
def opK : Nat → Nat
  | 0 => 0
  | 1 => 2
  | 2 => 2
  | 3 => 4
  | 4 => 0
  | 5 => 1
  | 6 => 0
  | 7 => 0
  | 8 => 0
  | 9 => 2
  | 10 => 1
  | 11 => 1
  | _ => 0
def opF : Nat → FuncId
  | 0 => 121
  | 1 => 122
  | 2 => 123
  | 3 => 124
  | 4 => 125
  | 5 => 126
  | 6 => 127
  | 7 => 128
  | 8 => 129
  | 9 => 130
  | 10 => 132
  | 11 => 133
  | _ => 0
def oent : Nat → MapEntry
  | 0 => { key := .string ⟨#[110, 101, 119]⟩, val := .agg #[.int .i64 0, .func (.func 121) #[] #[]], born := 0 }
  | 1 => { key := .string ⟨#[109, 111, 118, 101, 116, 111]⟩, val := .agg #[.int .i64 2, .func (.func 122) #[] #[]], born := 1 }
  | 2 => { key := .string ⟨#[108, 105, 110, 101, 116, 111]⟩, val := .agg #[.int .i64 2, .func (.func 123) #[] #[]], born := 2 }
  | 3 => { key := .string ⟨#[114, 101, 99, 116]⟩, val := .agg #[.int .i64 4, .func (.func 124) #[] #[]], born := 3 }
  | 4 => { key := .string ⟨#[102, 105, 108, 108]⟩, val := .agg #[.int .i64 0, .func (.func 125) #[] #[]], born := 4 }
  | 5 => { key := .string ⟨#[103, 114, 97, 121]⟩, val := .agg #[.int .i64 1, .func (.func 126) #[] #[]], born := 5 }
  | 6 => { key := .string ⟨#[99, 108, 105, 112]⟩, val := .agg #[.int .i64 0, .func (.func 127) #[] #[]], born := 6 }
  | 7 => { key := .string ⟨#[115, 97, 118, 101]⟩, val := .agg #[.int .i64 0, .func (.func 128) #[] #[]], born := 7 }
  | 8 => { key := .string ⟨#[114, 101, 115, 116, 111, 114, 101]⟩, val := .agg #[.int .i64 0, .func (.func 129) #[] #[]], born := 8 }
  | 9 => { key := .string ⟨#[115, 104, 105, 102, 116]⟩, val := .agg #[.int .i64 2, .func (.func 130) #[] #[]], born := 9 }
  | 10 => { key := .string ⟨#[116, 117, 114, 110]⟩, val := .agg #[.int .i64 1, .func (.func 132) #[] #[]], born := 10 }
  | _ => { key := .string ⟨#[115, 99, 97, 108, 101]⟩, val := .agg #[.int .i64 1, .func (.func 133) #[] #[]], born := 11 }
def otab : Array MapEntry := #[oent 0, oent 1, oent 2, oent 3, oent 4, oent 5, oent 6, oent 7, oent 8, oent 9, oent 10, oent 11]
set_option maxHeartbeats 4000000 in
theorem otab_any (w : World) : Calls Tryz.prog 88 #[] w fun e w' => e = .returned (.map (some w.heap.size)) ∧ w' = w.alloc (.map #[oent 0, oent 1, oent 2, oent 3, oent 4, oent 5, oent 6, oent 7, oent 8, oent 9, oent 10, oent 11] 12) := by
  have hmm := @run_makeMap Tryz.prog
  have h0 : (Instr.mapUpdate 131 (.map (some w.heap.size)) (.string ⟨#[110, 101, 119]⟩) (.agg #[.int .i64 0, .func (.func 121) #[] #[]])).run Tryz.prog (w.alloc (.map #[] 0)) = .ok () (w.alloc (.map #[oent 0] 1)) := Tab.run_ins Tryz.underlying131 Tryz.underlying9 w #[] 0 _ _ (by kernel_rfl)
  have h1 : (Instr.mapUpdate 131 (.map (some w.heap.size)) (.string ⟨#[109, 111, 118, 101, 116, 111]⟩) (.agg #[.int .i64 2, .func (.func 122) #[] #[]])).run Tryz.prog (w.alloc (.map #[oent 0] 1)) = .ok () (w.alloc (.map #[oent 0, oent 1] 2)) := Tab.run_ins Tryz.underlying131 Tryz.underlying9 w #[oent 0] 1 _ _ (by kernel_rfl)
  have h2 : (Instr.mapUpdate 131 (.map (some w.heap.size)) (.string ⟨#[108, 105, 110, 101, 116, 111]⟩) (.agg #[.int .i64 2, .func (.func 123) #[] #[]])).run Tryz.prog (w.alloc (.map #[oent 0, oent 1] 2)) = .ok () (w.alloc (.map #[oent 0, oent 1, oent 2] 3)) := Tab.run_ins Tryz.underlying131 Tryz.underlying9 w #[oent 0, oent 1] 2 _ _ (by kernel_rfl)
  have h3 : (Instr.mapUpdate 131 (.map (some w.heap.size)) (.string ⟨#[114, 101, 99, 116]⟩) (.agg #[.int .i64 4, .func (.func 124) #[] #[]])).run Tryz.prog (w.alloc (.map #[oent 0, oent 1, oent 2] 3)) = .ok () (w.alloc (.map #[oent 0, oent 1, oent 2, oent 3] 4)) := Tab.run_ins Tryz.underlying131 Tryz.underlying9 w #[oent 0, oent 1, oent 2] 3 _ _ (by kernel_rfl)
  have h4 : (Instr.mapUpdate 131 (.map (some w.heap.size)) (.string ⟨#[102, 105, 108, 108]⟩) (.agg #[.int .i64 0, .func (.func 125) #[] #[]])).run Tryz.prog (w.alloc (.map #[oent 0, oent 1, oent 2, oent 3] 4)) = .ok () (w.alloc (.map #[oent 0, oent 1, oent 2, oent 3, oent 4] 5)) := Tab.run_ins Tryz.underlying131 Tryz.underlying9 w #[oent 0, oent 1, oent 2, oent 3] 4 _ _ (by kernel_rfl)
  have h5 : (Instr.mapUpdate 131 (.map (some w.heap.size)) (.string ⟨#[103, 114, 97, 121]⟩) (.agg #[.int .i64 1, .func (.func 126) #[] #[]])).run Tryz.prog (w.alloc (.map #[oent 0, oent 1, oent 2, oent 3, oent 4] 5)) = .ok () (w.alloc (.map #[oent 0, oent 1, oent 2, oent 3, oent 4, oent 5] 6)) := Tab.run_ins Tryz.underlying131 Tryz.underlying9 w #[oent 0, oent 1, oent 2, oent 3, oent 4] 5 _ _ (by kernel_rfl)
  have h6 : (Instr.mapUpdate 131 (.map (some w.heap.size)) (.string ⟨#[99, 108, 105, 112]⟩) (.agg #[.int .i64 0, .func (.func 127) #[] #[]])).run Tryz.prog (w.alloc (.map #[oent 0, oent 1, oent 2, oent 3, oent 4, oent 5] 6)) = .ok () (w.alloc (.map #[oent 0, oent 1, oent 2, oent 3, oent 4, oent 5, oent 6] 7)) := Tab.run_ins Tryz.underlying131 Tryz.underlying9 w #[oent 0, oent 1, oent 2, oent 3, oent 4, oent 5] 6 _ _ (by kernel_rfl)
  have h7 : (Instr.mapUpdate 131 (.map (some w.heap.size)) (.string ⟨#[115, 97, 118, 101]⟩) (.agg #[.int .i64 0, .func (.func 128) #[] #[]])).run Tryz.prog (w.alloc (.map #[oent 0, oent 1, oent 2, oent 3, oent 4, oent 5, oent 6] 7)) = .ok () (w.alloc (.map #[oent 0, oent 1, oent 2, oent 3, oent 4, oent 5, oent 6, oent 7] 8)) := Tab.run_ins Tryz.underlying131 Tryz.underlying9 w #[oent 0, oent 1, oent 2, oent 3, oent 4, oent 5, oent 6] 7 _ _ (by kernel_rfl)
  have h8 : (Instr.mapUpdate 131 (.map (some w.heap.size)) (.string ⟨#[114, 101, 115, 116, 111, 114, 101]⟩) (.agg #[.int .i64 0, .func (.func 129) #[] #[]])).run Tryz.prog (w.alloc (.map #[oent 0, oent 1, oent 2, oent 3, oent 4, oent 5, oent 6, oent 7] 8)) = .ok () (w.alloc (.map #[oent 0, oent 1, oent 2, oent 3, oent 4, oent 5, oent 6, oent 7, oent 8] 9)) := Tab.run_ins Tryz.underlying131 Tryz.underlying9 w #[oent 0, oent 1, oent 2, oent 3, oent 4, oent 5, oent 6, oent 7] 8 _ _ (by kernel_rfl)
  have h9 : (Instr.mapUpdate 131 (.map (some w.heap.size)) (.string ⟨#[115, 104, 105, 102, 116]⟩) (.agg #[.int .i64 2, .func (.func 130) #[] #[]])).run Tryz.prog (w.alloc (.map #[oent 0, oent 1, oent 2, oent 3, oent 4, oent 5, oent 6, oent 7, oent 8] 9)) = .ok () (w.alloc (.map #[oent 0, oent 1, oent 2, oent 3, oent 4, oent 5, oent 6, oent 7, oent 8, oent 9] 10)) := Tab.run_ins Tryz.underlying131 Tryz.underlying9 w #[oent 0, oent 1, oent 2, oent 3, oent 4, oent 5, oent 6, oent 7, oent 8] 9 _ _ (by kernel_rfl)
  have h10 : (Instr.mapUpdate 131 (.map (some w.heap.size)) (.string ⟨#[116, 117, 114, 110]⟩) (.agg #[.int .i64 1, .func (.func 132) #[] #[]])).run Tryz.prog (w.alloc (.map #[oent 0, oent 1, oent 2, oent 3, oent 4, oent 5, oent 6, oent 7, oent 8, oent 9] 10)) = .ok () (w.alloc (.map #[oent 0, oent 1, oent 2, oent 3, oent 4, oent 5, oent 6, oent 7, oent 8, oent 9, oent 10] 11)) := Tab.run_ins Tryz.underlying131 Tryz.underlying9 w #[oent 0, oent 1, oent 2, oent 3, oent 4, oent 5, oent 6, oent 7, oent 8, oent 9] 10 _ _ (by kernel_rfl)
  have h11 : (Instr.mapUpdate 131 (.map (some w.heap.size)) (.string ⟨#[115, 99, 97, 108, 101]⟩) (.agg #[.int .i64 1, .func (.func 133) #[] #[]])).run Tryz.prog (w.alloc (.map #[oent 0, oent 1, oent 2, oent 3, oent 4, oent 5, oent 6, oent 7, oent 8, oent 9, oent 10] 11)) = .ok () (w.alloc (.map #[oent 0, oent 1, oent 2, oent 3, oent 4, oent 5, oent 6, oent 7, oent 8, oent 9, oent 10, oent 11] 12)) := Tab.run_ins Tryz.underlying131 Tryz.underlying9 w #[oent 0, oent 1, oent 2, oent 3, oent 4, oent 5, oent 6, oent 7, oent 8, oent 9, oent 10] 11 _ _ (by kernel_rfl)
  go_enter Tryz.func88, Tryz.ntmps88
  go_wp2
  go_ret
  exact ⟨rfl, rfl⟩
theorem otab_impl (w : World) : Calls Tryz.prog 88 #[] w fun e w' => e = .returned (.map (some w.heap.size)) ∧ w' = w.alloc (.map otab 12) := otab_any w
theorem olook_none {s : ByteArray} (h : opN s = none) : Instr.findNow .string (.string s) otab.toList 0 = some none := by
  unfold opN at h
  by_cases e0 : (s.toList == [110, 101, 119]) = true
  · rw [if_pos e0] at h; cases h
  rw [if_neg e0] at h
  have g0 := ne_of (l := [110, 101, 119]) (fun e => e0 (by rw [e]; rfl))
  by_cases e1 : (s.toList == [109, 111, 118, 101, 116, 111]) = true
  · rw [if_pos e1] at h; cases h
  rw [if_neg e1] at h
  have g1 := ne_of (l := [109, 111, 118, 101, 116, 111]) (fun e => e1 (by rw [e]; rfl))
  by_cases e2 : (s.toList == [108, 105, 110, 101, 116, 111]) = true
  · rw [if_pos e2] at h; cases h
  rw [if_neg e2] at h
  have g2 := ne_of (l := [108, 105, 110, 101, 116, 111]) (fun e => e2 (by rw [e]; rfl))
  by_cases e3 : (s.toList == [114, 101, 99, 116]) = true
  · rw [if_pos e3] at h; cases h
  rw [if_neg e3] at h
  have g3 := ne_of (l := [114, 101, 99, 116]) (fun e => e3 (by rw [e]; rfl))
  by_cases e4 : (s.toList == [102, 105, 108, 108]) = true
  · rw [if_pos e4] at h; cases h
  rw [if_neg e4] at h
  have g4 := ne_of (l := [102, 105, 108, 108]) (fun e => e4 (by rw [e]; rfl))
  by_cases e5 : (s.toList == [103, 114, 97, 121]) = true
  · rw [if_pos e5] at h; cases h
  rw [if_neg e5] at h
  have g5 := ne_of (l := [103, 114, 97, 121]) (fun e => e5 (by rw [e]; rfl))
  by_cases e6 : (s.toList == [99, 108, 105, 112]) = true
  · rw [if_pos e6] at h; cases h
  rw [if_neg e6] at h
  have g6 := ne_of (l := [99, 108, 105, 112]) (fun e => e6 (by rw [e]; rfl))
  by_cases e7 : (s.toList == [115, 97, 118, 101]) = true
  · rw [if_pos e7] at h; cases h
  rw [if_neg e7] at h
  have g7 := ne_of (l := [115, 97, 118, 101]) (fun e => e7 (by rw [e]; rfl))
  by_cases e8 : (s.toList == [114, 101, 115, 116, 111, 114, 101]) = true
  · rw [if_pos e8] at h; cases h
  rw [if_neg e8] at h
  have g8 := ne_of (l := [114, 101, 115, 116, 111, 114, 101]) (fun e => e8 (by rw [e]; rfl))
  by_cases e9 : (s.toList == [115, 104, 105, 102, 116]) = true
  · rw [if_pos e9] at h; cases h
  rw [if_neg e9] at h
  have g9 := ne_of (l := [115, 104, 105, 102, 116]) (fun e => e9 (by rw [e]; rfl))
  by_cases e10 : (s.toList == [116, 117, 114, 110]) = true
  · rw [if_pos e10] at h; cases h
  rw [if_neg e10] at h
  have g10 := ne_of (l := [116, 117, 114, 110]) (fun e => e10 (by rw [e]; rfl))
  by_cases e11 : (s.toList == [115, 99, 97, 108, 101]) = true
  · rw [if_pos e11] at h; cases h
  rw [if_neg e11] at h
  have g11 := ne_of (l := [115, 99, 97, 108, 101]) (fun e => e11 (by rw [e]; rfl))
  simp [otab, oent, Instr.findNow, Instr.sameNow, g0, g1, g2, g3, g4, g5, g6, g7, g8, g9, g10, g11]
theorem olook_yes {s : ByteArray} {k : Nat} (h : opN s = some k) : Instr.findNow .string (.string s) otab.toList 0 = some (some (k, .agg #[.int .i64 (opK k : Nat), .func (.func (opF k)) #[] #[]])) := by
  unfold opN at h
  by_cases e0 : (s.toList == [110, 101, 119]) = true
  · rw [if_pos e0] at h; injection h with h; subst h; rw [str_of e0]; kernel_rfl
  rw [if_neg e0] at h
  by_cases e1 : (s.toList == [109, 111, 118, 101, 116, 111]) = true
  · rw [if_pos e1] at h; injection h with h; subst h; rw [str_of e1]; kernel_rfl
  rw [if_neg e1] at h
  by_cases e2 : (s.toList == [108, 105, 110, 101, 116, 111]) = true
  · rw [if_pos e2] at h; injection h with h; subst h; rw [str_of e2]; kernel_rfl
  rw [if_neg e2] at h
  by_cases e3 : (s.toList == [114, 101, 99, 116]) = true
  · rw [if_pos e3] at h; injection h with h; subst h; rw [str_of e3]; kernel_rfl
  rw [if_neg e3] at h
  by_cases e4 : (s.toList == [102, 105, 108, 108]) = true
  · rw [if_pos e4] at h; injection h with h; subst h; rw [str_of e4]; kernel_rfl
  rw [if_neg e4] at h
  by_cases e5 : (s.toList == [103, 114, 97, 121]) = true
  · rw [if_pos e5] at h; injection h with h; subst h; rw [str_of e5]; kernel_rfl
  rw [if_neg e5] at h
  by_cases e6 : (s.toList == [99, 108, 105, 112]) = true
  · rw [if_pos e6] at h; injection h with h; subst h; rw [str_of e6]; kernel_rfl
  rw [if_neg e6] at h
  by_cases e7 : (s.toList == [115, 97, 118, 101]) = true
  · rw [if_pos e7] at h; injection h with h; subst h; rw [str_of e7]; kernel_rfl
  rw [if_neg e7] at h
  by_cases e8 : (s.toList == [114, 101, 115, 116, 111, 114, 101]) = true
  · rw [if_pos e8] at h; injection h with h; subst h; rw [str_of e8]; kernel_rfl
  rw [if_neg e8] at h
  by_cases e9 : (s.toList == [115, 104, 105, 102, 116]) = true
  · rw [if_pos e9] at h; injection h with h; subst h; rw [str_of e9]; kernel_rfl
  rw [if_neg e9] at h
  by_cases e10 : (s.toList == [116, 117, 114, 110]) = true
  · rw [if_pos e10] at h; injection h with h; subst h; rw [str_of e10]; kernel_rfl
  rw [if_neg e10] at h
  by_cases e11 : (s.toList == [115, 99, 97, 108, 101]) = true
  · rw [if_pos e11] at h; injection h with h; subst h; rw [str_of e11]; kernel_rfl
  rw [if_neg e11] at h
  cases h
end Go.Proofs.YtnkookegoicfnaaGreat.Own

