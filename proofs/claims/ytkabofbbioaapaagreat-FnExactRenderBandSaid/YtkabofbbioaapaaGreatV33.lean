/-
  Texts of this seat, laid together: Rd11, ShI8, Mv10, ClB, Do10, MkO, EqBO
-/
import Derived.Laws.Entries
import Derived.BigQuiet
import Derived.Deep.QuietTactic
import Derived.Deep.RegionHeld3
import Derived.WalkKit
import Derived.Deep.DeepCutAuto
import Derived.Handy
import Derived.Test.YtkabofbbioaapaaGreatV31
import Derived.Test.YtkabofbbioaapaaGreatV25
import Derived.Test.YtkabofbbioaapaaGreatV04
import Derived.Test.YtkabofbbioaapaaGreatV18
import Derived.Test.YtkabofbbioaapaaGreatV29
import Derived.Test.YtkabofbbioaapaaGreatV30
import Derived.Test.YtkabofbbioaapaaGreatV13
import Derived.Test.YtkabofbbioaapaaGreatV15
namespace Go.Proofs.YtkabofbbioaapaaGreat.Own
open Go.ChangeShapes Go.WideShapes Go.ChangeAt Go.RowKit
open Kit Slabs Ints
set_option linter.unusedVariables false
set_option linter.unusedSimpArgs false
set_option linter.unnecessarySimpa false
set_option maxRecDepth 100000
theorem all_yes {α : Type} {p : α → Bool} {l : List α} {z : α} (h : ∀ i, i < l.length → p (l.getD i z) = true) : l.all p = true := by
  rw [List.all_eq_true]
  intro x hx
  obtain ⟨i, hi, rfl⟩ := List.mem_iff_getElem.1 hx
  have := h i hi
  simpa [List.getD, List.getElem?_eq_getElem hi] using this
theorem all_no {α : Type} {p : α → Bool} {l : List α} {z : α} {k : Nat} (hk : k < l.length) (h : p (l.getD k z) = false) : l.all p = false := by
  rw [List.all_eq_false]
  refine ⟨l[k], List.getElem_mem hk, ?_⟩
  simp only [List.getD, List.getElem?_eq_getElem hk, Option.getD_some] at h
  rw [h]; simp
def rowB (r : List Int) : Bool := decide (r.length = 32) && r.all grayB
def rowsB (R : List (List Int)) : Bool := decide (R.length ≤ 32) && R.all rowB
theorem row_spec (w : World) (a : Option Addr) (c : Nat) (r : List Int) (hn : r.length ≤ 1048576) (h : Lies w a (ivs r)) :
    Calls Tryz.prog 114 #[.slice a r.length c] w fun e w' => e = .returned (.bool (rowB r)) ∧ Below w.heap.size w w' := by
  have HP := Lib.hid h
  obtain ⟨n, hN⟩ : ∃ n, r.length = n := ⟨_, rfl⟩
  have HN := Lib.hid hN
  rw [hN] at hn ⊢
  clear hN h
  go_enter Tryz.func114, Tryz.ntmps114
  go_wp2
  go_loopw [3] (fun v9 wr => ∃ k : Nat, k ≤ n ∧ v9 = .int .i64 (k : Int) ∧ Hid (∀ i, i < k → grayB (r.getD i 0) = true) ∧ Below w.heap.size w wr) (fun v9 _ => n - (intOf v9).toNat)
  case atStart => exact ⟨0, Nat.zero_le _, rfl, Lib.hid (fun i hi => absurd hi (Nat.not_lt_zero i)), Below.refl _ _⟩
  case round =>
    obtain ⟨k, hk, rfl, hb, hB⟩ := hrel
    by_cases hlt : k < n
    · obtain ⟨g, o, rfl, hg, hc⟩ := lies_at (HP.out.on hB) (by rw [HN.out]; omega)
      have q := hc k (by rw [HN.out]; exact hlt)
      obtain ⟨x, hx⟩ : ∃ x, r.getD k 0 = x := ⟨_, rfl⟩
      rw [hx] at q
      have i0 : (0 : Int) ≤ (k : Int) := by omega
      have i1 : (k : Int) < (n : Int) := by omega
      have HX := Lib.hid hx
      have HB := Lib.hid hB
      clear hx hB hc
      go_wp2_with fail
      ((with_reducible refine (Ins.gray_spec x _).mono ?_); rintro e w1 ⟨rfl, bb⟩)
      have HB1 := Lib.hid (on_of HB.out bb)
      clear bb
      cases hp : grayB x
      · have HS := Lib.hid (all_no (p := grayB) (l := r) (z := 0) (k := k) (by rw [HN.out]; exact hlt) (by rw [HX.out]; exact hp))
        clear hp
        go_wp2
        go_ret
        exact ⟨ret_bool (by simp [rowB, HS.out]), HB1.out⟩
      · have hyes : ∀ i, i < k + 1 → grayB (r.getD i 0) = true := fun i hi => by
          by_cases e : i = k
          · subst e; rw [HX.out]; exact hp
          · exact hb.out i (by omega)
        have HS := Lib.hid hyes
        clear hyes hp
        go_wp2
        go_roundw
        case rel => exact ⟨k + 1, by omega, by go_num, HS, HB1.out⟩
        case measure => simp [intOf]; omega
    · obtain rfl : k = n := by omega
      have HB := Lib.hid hB
      have HV : Hid (rowB r = ((k : Int) == 32)) := Lib.hid (by
        have := all_yes (p := grayB) (l := r) (z := 0) (fun i hi => hb.out i (by rw [← HN.out]; exact hi))
        rw [rowB, this, Bool.and_true, HN.out]
        by_cases e : k = 32
        · subst e; rfl
        · rw [decide_eq_false e]; symm; simp; omega)
      clear hB
      go_wp2
      go_ret
      exact ⟨ret_bool HV.out.symm, HB.out⟩
set_option maxHeartbeats 1000000 in
theorem rowsok_spec (w : World) (a : Option Addr) (c : Nat) (R : List (List Int)) (hn : R.length ≤ 1048576) (ht : tot R ≤ 1048576) (h : RR w a R) :
    Calls Tryz.prog 82 #[.slice a R.length c] w fun e w' => e = .returned (.bool (rowsB R)) ∧ Below w.heap.size w w' := by
  have HP := Lib.hid h
  obtain ⟨n, hN⟩ : ∃ n, R.length = n := ⟨_, rfl⟩
  have HN := Lib.hid (And.intro hN ht)
  rw [hN] at hn ⊢
  clear hN h ht
  go_enter Tryz.func82, Tryz.ntmps82
  go_wp2
  go_loopw [3] (fun v9 wr => ∃ k : Nat, k ≤ n ∧ v9 = .int .i64 (k : Int) ∧ Hid (∀ i, i < k → rowB (R.getD i []) = true) ∧ Below w.heap.size w wr) (fun v9 _ => n - (intOf v9).toNat)
  case atStart => exact ⟨0, Nat.zero_le _, rfl, Lib.hid (fun i hi => absurd hi (Nat.not_lt_zero i)), Below.refl _ _⟩
  case round =>
    obtain ⟨k, hk, rfl, hb, hB⟩ := hrel
    by_cases hlt : k < n
    · obtain ⟨g, o, rfl, hg, hc⟩ := (HP.out.on hB).some (by rw [HN.out.1]; omega)
      obtain ⟨a', c', q, hl⟩ := hc k (by rw [HN.out.1]; exact hlt)
      have hx0 := tot_at (R := R) (k := k) (by rw [HN.out.1]; exact hlt)
      obtain ⟨x, hx⟩ : ∃ x, R.getD k [] = x := ⟨_, rfl⟩
      rw [hx] at q hl hx0
      have i0 : (0 : Int) ≤ (k : Int) := by omega
      have i1 : (k : Int) < (n : Int) := by omega
      have HX := Lib.hid hx
      have HL := Lib.hid (And.intro hl (show x.length ≤ 1048576 by have := HN.out.2; omega))
      have HB := Lib.hid hB
      clear hx hB hc hl hx0
      go_wp2_with fail
      ((with_reducible refine (row_spec _ _ _ x HL.out.2 HL.out.1).mono ?_); rintro e w1 ⟨rfl, bb⟩)
      have HB1 := Lib.hid (on_of HB.out bb)
      clear bb
      cases hp : rowB x
      · have HS := Lib.hid (all_no (p := rowB) (l := R) (z := []) (k := k) (by rw [HN.out.1]; exact hlt) (by rw [HX.out]; exact hp))
        clear hp
        go_wp2
        go_ret
        exact ⟨ret_bool (by simp [rowsB, HS.out]), HB1.out⟩
      · have hyes : ∀ i, i < k + 1 → rowB (R.getD i []) = true := fun i hi => by
          by_cases e : i = k
          · subst e; rw [HX.out]; exact hp
          · exact hb.out i (by omega)
        have HS := Lib.hid hyes
        clear hyes hp
        go_wp2
        go_roundw
        case rel => exact ⟨k + 1, by omega, by go_num, HS, HB1.out⟩
        case measure => simp [intOf]; omega
    · obtain rfl : k = n := by omega
      have HB := Lib.hid hB
      have HV : Hid (rowsB R = decide ((k : Int) ≤ 32)) := Lib.hid (by
        have := all_yes (p := rowB) (l := R) (z := []) (fun i hi => hb.out i (by rw [← HN.out.1]; exact hi))
        rw [rowsB, this, Bool.and_true, HN.out.1]
        apply decide_eq_decide.2; omega)
      clear hB
      go_wp2
      go_ret
      exact ⟨ret_bool HV.out.symm, HB.out⟩
end Go.Proofs.YtkabofbbioaapaaGreat.Own
namespace Go.Proofs.YtkabofbbioaapaaGreat.Ins
open Go.ChangeShapes Go.WideShapes Go.ChangeAt Go.RowKit
open Kit Point Slabs
set_option linter.unusedVariables false
set_option linter.unusedSimpArgs false
set_option linter.unnecessarySimpa false
theorem all_sh (l : List Pt) (d : Pt) : l.all (shB d) = (ptsB l && ptsB (l.map (mv d))) := by
  rw [Bool.eq_iff_iff]
  simp only [Bool.and_eq_true, ptsB, List.all_eq_true, List.mem_map, shB, forall_exists_index, and_imp]
  constructor
  · intro h
    exact ⟨fun p hp => (h p hp).1, fun q p hp e => by subst e; exact (h p hp).2⟩
  · intro h p hp
    exact ⟨h.1 p hp, h.2 _ p hp rfl⟩
def ShI (w : World) (m : List Pt) (e : Ending) (w' : World) : Prop := ∃ v, e = .returned v ∧ w'.ownsRow w.heap.size 123 2 v m.length (cellsP m) ∧ Below w.heap.size w w'
theorem shi_none (w W : World) (h : Below w.heap.size w W) : ShI w [] (.returned (.slice none 0 0)) W :=
  ⟨_, rfl, ⟨by decide, .inl ⟨rfl, rfl⟩⟩, h⟩
end Go.Proofs.YtkabofbbioaapaaGreat.Ins
namespace Go.Proofs.YtkabofbbioaapaaGreat.Ins
open Go.ChangeShapes Go.WideShapes Go.ChangeAt Go.RowKit
open Kit Point
open Go.Proofs.YtkabofbbioaapaaGreat.Own (Blk Ob grayB)
set_option linter.unusedVariables false
set_option linter.unusedSimpArgs false
set_option linter.unnecessarySimpa false
set_option maxRecDepth 100000
def FgIs (w : World) (m : List Pt) (g x0 y0 x1 y1 : Int) (e : Ending) (w' : World) : Prop := ∃ va vc, e = .returned (.agg #[.slice va m.length vc, .int .i64 g, .int .i64 x0, .int .i64 y0, .int .i64 x1, .int .i64 y1]) ∧
  w'.ownsRow w.heap.size 123 2 (.slice va m.length vc) m.length (cellsP m) ∧ Below w.heap.size w w'
end Go.Proofs.YtkabofbbioaapaaGreat.Ins
namespace Go.Proofs.YtkabofbbioaapaaGreat.Own
open Go.ChangeShapes Go.WideShapes Go.ChangeAt Go.RowKit
open Kit Slabs Ints Stack Point Turn
set_option linter.unusedVariables false
set_option linter.unusedSimpArgs false
set_option linter.unnecessarySimpa false
set_option maxRecDepth 100000
attribute [local go_sem ↓] hload_Object hstore_Object
end Go.Proofs.YtkabofbbioaapaaGreat.Own
namespace Go.Proofs.YtkabofbbioaapaaGreat.Ins
open Go.ChangeShapes Go.WideShapes Go.ChangeAt Go.RowKit
open Kit Point
open Go.Proofs.YtkabofbbioaapaaGreat.Own (Blk Ob grayB)
set_option linter.unusedVariables false
set_option linter.unusedSimpArgs false
set_option linter.unnecessarySimpa false
set_option maxRecDepth 100000
def odK (f : Nat → Int) : Nat → Int
  | 0 => 0
  | k + 1 => IntKind.i64.wrap (odK f k + f k)
def odV (l : List Pt) (g x0 y0 x1 y1 : Int) : Int := odK (fun k => dtV (orow l g x0 y0 x1 y1 (k : Int))) 32
theorem odK_succ (f : Nat → Int) (k : Nat) : odK f (k + 1) = wrap64 (odK f k + f k) := IntWalk.i64_left _
theorem orow_len (l : List Pt) (g x0 y0 x1 y1 y : Int) : (orow l g x0 y0 x1 y1 y).length ≤ l.length := by
  unfold orow
  split
  · have h1 := mtV_len (spsV l y) (obx l g x0 y0 x1 y1).x0 (obx l g x0 y0 x1 y1).x1
    have h2 := spsV_len l y
    omega
  · simp
end Go.Proofs.YtkabofbbioaapaaGreat.Ins
namespace Go.Proofs.YtkabofbbioaapaaGreat.Own
open Go.ChangeShapes Go.WideShapes Go.ChangeAt Go.RowKit
open Kit Slabs Ints
set_option linter.unusedVariables false
set_option linter.unusedSimpArgs false
set_option linter.unnecessarySimpa false
set_option maxRecDepth 100000
end Go.Proofs.YtkabofbbioaapaaGreat.Own
namespace Go.Proofs.YtkabofbbioaapaaGreat.Own
open Go.ChangeShapes Go.WideShapes Go.ChangeAt Go.RowKit
open Kit Slabs Ints
set_option linter.unusedVariables false
set_option linter.unusedSimpArgs false
set_option linter.unnecessarySimpa false
set_option maxRecDepth 100000
attribute [local go_sem ↓] hload_Object
set_option maxHeartbeats 4000000 in
theorem eq_ObjectS (w : World) {a1 a2 : Option Addr} {n1 n2 p1 p2 : Nat} {es : List Dt} {f1 f2 : List Nat} (hb : es.length + bulkL es ≤ 1048576) (h1 : Own w (.sl KObject) [.slice a1 n1 p1] (.sl es) f1) (h2 : Own w (.sl KObject) [.slice a2 n2 p2] (.sl es) f2) :
    Calls Tryz.prog 19 #[.slice a1 n1 p1, .slice a2 n2 p2] w fun e w' => e = .returned (.bool true) ∧ Below w.heap.size w w' := by
  obtain ⟨e1, r1⟩ := h1.row
  obtain ⟨e2, r2⟩ := h2.row
  obtain ⟨n, hn⟩ : ∃ n, es.length = n := ⟨_, rfl⟩
  obtain rfl : n1 = n := e1.symm.trans hn
  obtain rfl : n2 = n1 := e2.symm.trans hn
  by_cases h0 : n2 = 0
  · subst h0
    clear h1 h2 r1 r2
    go_enter Tryz.func19, Tryz.ntmps19
    go_wp2
    go_loopw [5] (fun i wr => i = .int .i64 0 ∧ Below w.heap.size w wr) (fun _ _ => 0)
    case atStart => exact ⟨rfl, Below.refl _ _⟩
    case round =>
      obtain ⟨rfl, hbel⟩ := hrel
      go_wp2
      go_ret
      exact ⟨rfl, hbel⟩
  · obtain ⟨g1, rfl, _⟩ := r1 h0
    obtain ⟨g2, rfl, _⟩ := r2 h0
    have H := Lib.hid (And.intro h1 h2)
    have hn2 : n2 ≤ 1048576 := by omega
    have HN := Lib.hid (And.intro hn hb)
    clear h1 h2 r1 r2 e1 e2 hb hn
    go_enter Tryz.func19, Tryz.ntmps19
    go_wp2
    go_loopw [5] (fun i wr => ∃ k : Nat, k ≤ n2 ∧ i = .int .i64 (k : Int) ∧ Below w.heap.size w wr) (fun i _ => n2 - (intOf i).toNat)
    case atStart => exact ⟨0, Nat.zero_le _, rfl, Below.refl _ _⟩
    case round =>
      obtain ⟨k, hk, rfl, hbel⟩ := hrel
      by_cases hlt : k < n2
      · have hke : k < es.length := by rw [HN.out.1]; exact hlt
        obtain ⟨hg1, _, c1, d1, q1, ed1, o1, l1, _, s1⟩ := H.out.1.elt hke
        obtain ⟨hg2, _, c2, d2, q2, ed2, o2, l2, _, s2⟩ := H.out.2.elt hke
        rw [ed1] at ed2
        injection ed2 with ed2
        subst ed2
        have hbk := bulk_elt hke
        rw [ed1] at hbk
        have hbk2 : bulkL d1 ≤ 1048576 := by simp only [Dt.bulk] at hbk; have := HN.out.2; omega
        have L1 := Lib.hid (fun W hW => hload_run (P := Tryz.prog) (t := 52) Tryz.isAgg52 Tryz.sizeOf52 (w := W) (b := g1) (o := k * 6) (us := c1) (s1 W hW) l1)
        have L2 := Lib.hid (fun W hW => hload_run (P := Tryz.prog) (t := 52) Tryz.isAgg52 Tryz.sizeOf52 (w := W) (b := g2) (o := k * 6) (us := c2) (s2 W hW) l2)
        have HE := Lib.hid (And.intro o1 o2)
        have i0 : (0 : Int) ≤ (k : Int) := by omega
        have i1 : (k : Int) < (n2 : Int) := by omega
        obtain ⟨C1, hC1⟩ : ∃ C, c1.toArray = C := ⟨_, rfl⟩
        obtain ⟨C2, hC2⟩ : ∃ C, c2.toArray = C := ⟨_, rfl⟩
        rw [hC1] at L1
        rw [hC2] at L2
        have t1 : C1.toList = c1 := by rw [← hC1]
        have t2 : C2.toList = c2 := by rw [← hC2]
        rw [← t1, ← t2] at HE
        clear o1 o2 s1 s2 ed1 hbk l1 l2 hC1 hC2 t1 t2 hg1 hg2 hke
        go_wp2_with fail
        go_region_held3 (fun w' => (hload 52 ⟨g1, k * 6, none⟩).run Tryz.prog w' = .ok (.agg C1) w' ∧ (hload 52 ⟨g2, k * 6, none⟩).run Tryz.prog w' = .ok (.agg C2) w' ∧ Below w.heap.size w w') (first | exact ⟨L1.out _ hB, L2.out _ hB, hB⟩ | exact ⟨L1.out _ (by go_grown), L2.out _ (by go_grown), by go_grown⟩)
          ((go_at_call 46; (with_reducible refine (eq_Object _ hbk2 (HE.out.1.under (by go_grown)) (HE.out.2.under (by go_grown))).mono ?_); rintro e w' ⟨rfl, hb⟩; have hB := on_of (W := w) (by go_grown) hb))
        go_wp2
        go_roundw
        case rel => exact ⟨k + 1, by omega, by go_num, hB⟩
        case measure => simp [intOf]; omega
      · obtain rfl : k = n2 := by omega
        go_wp2
        go_ret
        exact ⟨rfl, hbel⟩
end Go.Proofs.YtkabofbbioaapaaGreat.Own
