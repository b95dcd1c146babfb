/-
  Texts of this seat, laid together: Rd11, ShI8, Do10, EqA, HdSO
-/
import Derived.Laws.Entries
import Derived.BigQuiet
import Derived.Deep.QuietTactic
import Derived.Deep.RegionHeld3
import Derived.WalkKit
import Derived.Deep.DeepCutAuto
import Derived.Handy
import Derived.Test.YtkabofbbioaapaaP30
import Derived.Test.YtkabofbbioaapaaP05
import Derived.Test.YtkabofbbioaapaaP06
import Derived.Test.YtkabofbbioaapaaP27
import Derived.Test.YtkabofbbioaapaaP15
namespace Go.Proofs.Ytkabofbbioaapaa.Own
open Go.ChangeShapes Go.WideShapes Go.ChangeAt Go.RowKit
open Kit Slabs Ints
set_option linter.unusedVariables false
set_option linter.unusedSimpArgs false
set_option linter.unnecessarySimpa false
set_option maxRecDepth 100000
theorem all_yes {α : Type} {p : α → Bool} {l : List α} {z : α} (h : ∀ i, i < l.length → p (l.getD i z) = true) : l.all p = true := by
  rw [List.all_eq_true]
  intro x hx
  obtain ⟨i, hi, rfl⟩ := List.mem_iff_getElem.1 hx
  have := h i hi
  simpa [List.getD, List.getElem?_eq_getElem hi] using this
theorem all_no {α : Type} {p : α → Bool} {l : List α} {z : α} {k : Nat} (hk : k < l.length) (h : p (l.getD k z) = false) : l.all p = false := by
  rw [List.all_eq_false]
  refine ⟨l[k], List.getElem_mem hk, ?_⟩
  simp only [List.getD, List.getElem?_eq_getElem hk, Option.getD_some] at h
  rw [h]; simp
def rowB (r : List Int) : Bool := decide (r.length = 32) && r.all grayB
def rowsB (R : List (List Int)) : Bool := decide (R.length ≤ 32) && R.all rowB
end Go.Proofs.Ytkabofbbioaapaa.Own
namespace Go.Proofs.Ytkabofbbioaapaa.Ins
open Go.ChangeShapes Go.WideShapes Go.ChangeAt Go.RowKit
open Kit Point Slabs
set_option linter.unusedVariables false
set_option linter.unusedSimpArgs false
set_option linter.unnecessarySimpa false
theorem all_sh (l : List Pt) (d : Pt) : l.all (shB d) = (ptsB l && ptsB (l.map (mv d))) := by
  rw [Bool.eq_iff_iff]
  simp only [Bool.and_eq_true, ptsB, List.all_eq_true, List.mem_map, shB, forall_exists_index, and_imp]
  constructor
  · intro h
    exact ⟨fun p hp => (h p hp).1, fun q p hp e => by subst e; exact (h p hp).2⟩
  · intro h p hp
    exact ⟨h.1 p hp, h.2 _ p hp rfl⟩
def ShI (w : World) (m : List Pt) (e : Ending) (w' : World) : Prop := ∃ v, e = .returned v ∧ w'.ownsRow w.heap.size 83 2 v m.length (cellsP m) ∧ Below w.heap.size w w'
theorem shi_none (w W : World) (h : Below w.heap.size w W) : ShI w [] (.returned (.slice none 0 0)) W :=
  ⟨_, rfl, ⟨by decide, .inl ⟨rfl, rfl⟩⟩, h⟩
end Go.Proofs.Ytkabofbbioaapaa.Ins
namespace Go.Proofs.Ytkabofbbioaapaa.Ins
open Go.ChangeShapes Go.WideShapes Go.ChangeAt Go.RowKit
open Kit Point
open Go.Proofs.Ytkabofbbioaapaa.Own (Blk Ob grayB)
set_option linter.unusedVariables false
set_option linter.unusedSimpArgs false
set_option linter.unnecessarySimpa false
set_option maxRecDepth 100000
def odK (f : Nat → Int) : Nat → Int
  | 0 => 0
  | k + 1 => IntKind.i64.wrap (odK f k + f k)
def odV (l : List Pt) (g x0 y0 x1 y1 : Int) : Int := odK (fun k => dtV (orow l g x0 y0 x1 y1 (k : Int))) 32
theorem odK_succ (f : Nat → Int) (k : Nat) : odK f (k + 1) = wrap64 (odK f k + f k) := IntWalk.i64_left _
theorem orow_len (l : List Pt) (g x0 y0 x1 y1 y : Int) : (orow l g x0 y0 x1 y1 y).length ≤ l.length := by
  unfold orow
  split
  · have h1 := mtV_len (spsV l y) (obx l g x0 y0 x1 y1).x0 (obx l g x0 y0 x1 y1).x1
    have h2 := spsV_len l y
    omega
  · simp
end Go.Proofs.Ytkabofbbioaapaa.Ins
namespace Go.Proofs.Ytkabofbbioaapaa.Own
open Go.ChangeShapes Go.WideShapes Go.ChangeAt Go.RowKit
open Kit Slabs Ints
set_option linter.unusedVariables false
set_option linter.unusedSimpArgs false
set_option linter.unnecessarySimpa false
set_option maxRecDepth 100000
theorem eq_Box (xx0_0 : Int) (xx1_0 : Int) (xx2_0 : Int) (xx3_0 : Int) (w : World) : Calls Try.prog 49 #[.agg #[.int .i64 xx0_0, .int .i64 xx1_0, .int .i64 xx2_0, .int .i64 xx3_0], .agg #[.int .i64 xx0_0, .int .i64 xx1_0, .int .i64 xx2_0, .int .i64 xx3_0]] w fun e w' => e = .returned (.bool true) ∧ Below w.heap.size w w' := by
  go_enter Try.func49, Try.ntmps49
  go_wp2
  go_ret
  exact ⟨rfl, by go_grown⟩
set_option maxHeartbeats 4000000 in
theorem eq_Object (w : World) {A B : Array Value} {ds : List Dt} {f1 f2 : List Nat} (hb : bulkL ds ≤ 1048576) (h1 : OwnL w LObject A.toList ds f1) (h2 : OwnL w LObject B.toList ds f2) :
    Calls Try.prog 23 #[.agg A, .agg B] w fun e w' => e = .returned (.bool true) ∧ Below w.heap.size w w' := by
  obtain ⟨xa0, xc0, xs0, xx1_0, xx2_0, xx2_1, xx2_2, xx2_3, xF0, hA, rfl, rfl, ox0⟩ := inv_Object h1
  obtain ⟨ya0, yc0, yF0, hB, rfl, oy0⟩ := inv_Object_ h2
  simp only [bulkL_app, bulkL, Dt.bulk] at hb
  have BA : Blk ((w.alloc (.cells A 28)).alloc (.cells B 28)) w.heap.size A.toList := (Blk.new w A 28 rfl).alloc _
  have BB : Blk ((w.alloc (.cells A 28)).alloc (.cells B 28)) (w.heap.size + 1) B.toList := Blk.new _ B 28 (by simp)
  have hW : Below w.heap.size w ((w.alloc (.cells A 28)).alloc (.cells B 28)) := by go_grown
  rw [hA] at BA
  rw [hB] at BB
  have HO := Lib.hid (And.intro ox0 oy0)
  have HA0 := Lib.hid BA
  have HB0 := Lib.hid BB
  have HW0 := Lib.hid hW
  have ca0 : A[0]? = some (.slice xa0 xs0.length xc0) := by rw [← Array.getElem?_toList, hA]; rfl
  have cb0 : B[0]? = some (.slice ya0 xs0.length yc0) := by rw [← Array.getElem?_toList, hB]; rfl
  clear ox0 oy0 hA hB BA BB hW h1 h2
  go_enter Try.func23, Try.ntmps23
  go_wp2_with fail
  ((with_reducible refine (eqP_o _ (by omega) ((HO.out.1).under HW0.out) ((HO.out.2).under HW0.out)).mono ?_); rintro e w1 ⟨rfl, b1⟩)
  have HW1 := Lib.hid (on_of HW0.out b1)
  have HA1 := Lib.hid (HA0.out.keep b1)
  have HB1 := Lib.hid (HB0.out.keep b1)
  clear b1 ca0 cb0
  have ca1 := HA1.out.1 1 (.int .i64 xx1_0) (by rfl)
  have cb1 := HB1.out.1 1 (.int .i64 xx1_0) (by rfl)
  have ca2 := HA1.out.1 2 (.int .i64 xx2_0) (by rfl)
  have ca3 := HA1.out.1 3 (.int .i64 xx2_1) (by rfl)
  have ca4 := HA1.out.1 4 (.int .i64 xx2_2) (by rfl)
  have ca5 := HA1.out.1 5 (.int .i64 xx2_3) (by rfl)
  have cb2 := HB1.out.1 2 (.int .i64 xx2_0) (by rfl)
  have cb3 := HB1.out.1 3 (.int .i64 xx2_1) (by rfl)
  have cb4 := HB1.out.1 4 (.int .i64 xx2_2) (by rfl)
  have cb5 := HB1.out.1 5 (.int .i64 xx2_3) (by rfl)
  go_wp2_with fail
  ((with_reducible refine (eq_Box xx2_0 xx2_1 xx2_2 xx2_3 _).mono ?_); rintro e w2 ⟨rfl, b2⟩)
  have HW2 := Lib.hid (on_of HW1.out b2)
  have HA2 := Lib.hid (HA1.out.keep b2)
  have HB2 := Lib.hid (HB1.out.keep b2)
  clear b2 ca1 cb1 ca2 ca3 ca4 ca5 cb2 cb3 cb4 cb5
  go_wp2
  go_ret
  exact ⟨rfl, HW2.out⟩
end Go.Proofs.Ytkabofbbioaapaa.Own
namespace Go.Proofs.Ytkabofbbioaapaa.Own
open Go.ChangeShapes Go.WideShapes Go.ChangeAt Go.RowKit
open Kit Slabs Ints
set_option linter.unusedVariables false
set_option linter.unusedSimpArgs false
set_option linter.unnecessarySimpa false
set_option maxRecDepth 100000
set_option maxHeartbeats 8000000 in
theorem held_ObjectS (w : World) (N : Nat) {a : Option Addr} {n c : Nat} {es : List Dt} {fp fq : List Nat} {w0 : World} {v0 : Value} (hn : es.length + bulkL es ≤ 1048576) (h0 : 0 < N) (hN : N + cntL es ≤ 1000000000) (hs : Own w0 (.sl KObject) [v0] (.sl es) fq) (h : Own w (.sl KObject) [.slice a n c] (.sl (mkL es N)) fp) :
    Calls Try.prog 29 #[.slice a n c, .int .i64 (N : Int)] w fun e w' => e = .returned (.int .i64 ((N + cntL es : Nat) : Int)) ∧ Below w.heap.size w w' := by
  obtain ⟨hl, hr⟩ := h.row
  rw [mkL_length] at hl
  obtain ⟨hl0, _⟩ : es.length = n ∧ True := ⟨hl, trivial⟩
  by_cases hz : n = 0
  · subst hz
    have hes : es = [] := List.eq_nil_of_length_eq_zero hl
    subst hes
    clear h hr hs
    go_enter Try.func29, Try.ntmps29
    go_wp2
    go_rounds 1
    go_ret
    exact ⟨ret_int (by simp [cntL]), Below.refl _ _⟩
  · obtain ⟨g, rfl, _⟩ := hr hz
    have H := Lib.hid (And.intro h (And.intro hs hl))
    have hn1 : n ≤ 1048576 := by omega
    have HB := Lib.hid (And.intro hn hN)
    clear h hs hr hl hl0 hn hN
    go_enter Try.func29, Try.ntmps29
    go_wp2
    go_loopw [1, 5] (fun v1 i wr => ∃ k : Nat, k ≤ n ∧ i = .int .i64 (k : Int) ∧ v1 = .int .i64 ((N + cntL (es.take k) : Nat) : Int) ∧ Below w.heap.size w wr) (fun _ i _ => n - (intOf i).toNat)
    case atStart => exact ⟨0, Nat.zero_le _, rfl, by simp [cntL], Below.refl _ _⟩
    case round =>
      obtain ⟨k, hk, rfl, rfl, hbel⟩ := hrel
      by_cases hlt : k < n
      · have hke : k < es.length := by rw [H.out.2.2]; exact hlt
        have hkm : k < (mkL es N).length := by rw [mkL_length]; exact hke
        obtain ⟨hg, _, cs, ds, q, ed, od, ld, _, sd⟩ := H.out.1.elt hkm
        rw [mk_elt hke] at ed
        obtain ⟨v0a, v0n, v0c, hv0⟩ : ∃ a n c, v0 = .slice a n c := by cases H.out.2.1 <;> exact ⟨_, _, _, rfl⟩
        have hs1 := H.out.2.1
        rw [hv0] at hs1
        obtain ⟨e0, r0⟩ := hs1.row
        obtain ⟨g0, rfl, _⟩ := r0 (by omega)
        obtain ⟨_, _, cs0, ds0, q0, ed0, od0, _, _, _⟩ := hs1.elt hke
        have htk := take_cnt hke
        have hpart := cnt_parts es (k + 1)
        have hbk := bulk_elt hke
        rw [ed0] at ed htk hbk
        simp only [Dt.mk] at ed
        injection ed with ed
        subst ed
        obtain ⟨xa0, xc0, xs0, xx1_0, xx2_0, xx2_1, xx2_2, xx2_3, xF0, _, rfl, rfl, ox0⟩ := inv_Object od0
        obtain ⟨M0, hM0⟩ : ∃ M, N + cntL (es.take k) = M := ⟨_, rfl⟩
        rw [hM0] at od ⊢
        obtain ⟨M1, hM1⟩ : ∃ M, M0 + cntL xs0 = M := ⟨_, rfl⟩
        obtain ⟨M2, hM2⟩ : ∃ M, M1 + 1 = M := ⟨_, rfl⟩
        obtain ⟨M3, hM3⟩ : ∃ M, M2 + 1 = M := ⟨_, rfl⟩
        obtain ⟨M4, hM4⟩ : ∃ M, M3 + 1 = M := ⟨_, rfl⟩
        obtain ⟨M5, hM5⟩ : ∃ M, M4 + 1 = M := ⟨_, rfl⟩
        obtain ⟨M6, hM6⟩ : ∃ M, M5 + 1 = M := ⟨_, rfl⟩
        have hmk : mkL (.sl xs0 :: (.int xx1_0 :: (.int xx2_0 :: (.int xx2_1 :: (.int xx2_2 :: (.int xx2_3 :: ([]))))))) M0 = .sl (mkL xs0 M0) :: (.int ((M1 : Nat) : Int) :: (.int ((M2 : Nat) : Int) :: (.int ((M3 : Nat) : Int) :: (.int ((M4 : Nat) : Int) :: (.int ((M5 : Nat) : Int) :: ([])))))) := by simp only [mkL, Dt.mk, Dt.cnt, hM1, hM2, hM3, hM4, hM5, hM6]
        rw [hmk] at od
        have hM : N + cntL (es.take (k + 1)) = M6 := by rw [htk, ← Nat.add_assoc, hM0]; simp only [Dt.cnt, cntL]; omega
        simp only [Dt.bulk, bulkL] at hbk
        have hMb : M6 ≤ 1000000000 := by have := HB.out.2; omega
        have hMp : 0 < M0 := by omega
        obtain ⟨ya0, yc0, yF0, rfl, rfl, oy0⟩ := inv_Object_ od
        simp only [mkL_length] at sd oy0
        have HBK := Lib.hid hbk
        have u0 : xs0.length + bulkL xs0 ≤ 1048576 := by have := HB.out.1; omega
        have HS := Lib.hid sd
        have HE := Lib.hid (ox0)
        have HO := Lib.hid (oy0)
        have HM := Lib.hid hM
        have b0 : M0 ≤ 1000000000 := by omega
        have p0 : 0 < M0 := by omega
        have g1 : ¬ ((M1 : Int) < 0) := by omega
        have s0 : M0 + cntL xs0 ≤ 1000000000 := by omega
        have e2 : (M1 : Int) + 1 = (M2 : Int) := by omega
        have b1 : M1 ≤ 1000000000 := by omega
        have e3 : (M2 : Int) + 1 = (M3 : Int) := by omega
        have b2 : M2 ≤ 1000000000 := by omega
        have e4 : (M3 : Int) + 1 = (M4 : Int) := by omega
        have b3 : M3 ≤ 1000000000 := by omega
        have e5 : (M4 : Int) + 1 = (M5 : Int) := by omega
        have b4 : M4 ≤ 1000000000 := by omega
        have e6 : (M5 : Int) + 1 = (M6 : Int) := by omega
        have b5 : M5 ≤ 1000000000 := by omega
        have i0 : (0 : Int) ≤ (k : Int) := by omega
        have i1 : (k : Int) < (n : Int) := by omega
        clear od od0 hs1 r0 e0 htk hpart hmk hM hM0 hbk sd hke hkm ed0 ox0 oy0
        have HW0 := Lib.hid hbel
        have ca0 : wr.cell? ⟨g, k * 6, none⟩ = some (.slice ya0 xs0.length yc0) := HS.out wr HW0.out 0 _ rfl
        go_wp2_with fail
        ((with_reducible refine (held_PointS _ M0 u0 p0 s0 (HE.out) ((HO.out).under HW0.out)).mono ?_); rintro e w1 ⟨rfl, bb⟩)
        rw [hM1]
        have HW1 := Lib.hid (on_of HW0.out bb)
        clear bb ca0
        have ca1 : w1.cell? ⟨g, k * 6 + 1, none⟩ = some (.int .i64 (M1 : Int)) := HS.out w1 HW1.out 1 _ rfl
        have ca2 : w1.cell? ⟨g, k * 6 + 2, none⟩ = some (.int .i64 (M2 : Int)) := HS.out w1 HW1.out 2 _ rfl
        have ca3 : w1.cell? ⟨g, k * 6 + 3, none⟩ = some (.int .i64 (M3 : Int)) := HS.out w1 HW1.out 3 _ rfl
        have ca4 : w1.cell? ⟨g, k * 6 + 4, none⟩ = some (.int .i64 (M4 : Int)) := HS.out w1 HW1.out 4 _ rfl
        have ca5 : w1.cell? ⟨g, k * 6 + 5, none⟩ = some (.int .i64 (M5 : Int)) := HS.out w1 HW1.out 5 _ rfl
        have HWl := HW1.out
        go_wp2
        go_roundw
        case rel => exact ⟨k + 1, by omega, by go_num, by rw [HM.out], HWl⟩
        case measure => simp [intOf]; omega
      · obtain rfl : k = n := by omega
        have HY := Lib.hid (show es.take k = es by rw [← H.out.2.2, List.take_length])
        rw [HY.out]
        go_wp2
        go_ret
        exact ⟨rfl, hbel⟩
end Go.Proofs.Ytkabofbbioaapaa.Own
