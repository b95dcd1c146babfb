/-
  Texts of this seat, laid together: EqBd, SzBO, SzBd, MkBd, HdBd
-/
import Derived.WalkKit
import Derived.Deep.DeepCutAuto
import Derived.Deep.QuietTactic
import Derived.BigQuiet
import Derived.Deep.RegionHeld3
import Derived.Handy
import Derived.Test.YtbdjnfnphilklaaP39
import Derived.Test.YtbdjnfnphilklaaP32
import Derived.Test.YtbdjnfnphilklaaP30
import Derived.Test.YtbdjnfnphilklaaP16
import Derived.Test.YtbdjnfnphilklaaP15
namespace Go.Proofs.Ytbdjnfnphilklaa.Own
open Go.ChangeShapes Go.WideShapes Go.ChangeAt Go.RowKit
open Kit Slabs Ints
attribute [local go_sem ↓] hload_Band hstore_Band hloadL_Band
set_option linter.unusedVariables false
set_option linter.unusedSimpArgs false
set_option linter.unnecessarySimpa false
set_option maxRecDepth 100000
set_option maxHeartbeats 4000000 in
theorem eq_Band (w : World) {A B : Array Value} {ds : List Dt} {f1 f2 : List Nat} (hb : bulkL ds ≤ 1048576) (h1 : OwnL w LBand A.toList ds f1) (h2 : OwnL w LBand B.toList ds f2) :
    Calls Try.prog 20 #[.agg A, .agg B] w fun e w' => e = .returned (.bool true) ∧ Below w.heap.size w w' := by
  obtain ⟨xa2, xc2, xa3, xc3, xx0_0, xx1_0, xs2, xs3, xF2, xF3, hA, rfl, rfl, ox2, ox3⟩ := inv_Band h1
  obtain ⟨ya2, yc2, ya3, yc3, yF2, yF3, hB, rfl, oy2, oy3⟩ := inv_Band_ h2
  simp only [bulkL_app, bulkL, Dt.bulk] at hb
  have BA : Blk ((w.alloc (.cells A 32)).alloc (.cells B 32)) w.heap.size A.toList := (Blk.new w A 32 rfl).alloc _
  have BB : Blk ((w.alloc (.cells A 32)).alloc (.cells B 32)) (w.heap.size + 1) B.toList := Blk.new _ B 32 (by simp)
  have hW : Below w.heap.size w ((w.alloc (.cells A 32)).alloc (.cells B 32)) := by go_grown
  rw [hA] at BA
  rw [hB] at BB
  have HO := Lib.hid (And.intro ox2 (And.intro ox3 (And.intro oy2 oy3)))
  have HA0 := Lib.hid BA
  have HB0 := Lib.hid BB
  have HW0 := Lib.hid hW
  have ca0 : A[0]? = some (.int .i64 xx0_0) := by rw [← Array.getElem?_toList, hA]; rfl
  have cb0 : B[0]? = some (.int .i64 xx0_0) := by rw [← Array.getElem?_toList, hB]; rfl
  have ca1 : A[1]? = some (.int .i64 xx1_0) := by rw [← Array.getElem?_toList, hA]; rfl
  have cb1 : B[1]? = some (.int .i64 xx1_0) := by rw [← Array.getElem?_toList, hB]; rfl
  have ca2 : A[2]? = some (.slice xa2 xs2.length xc2) := by rw [← Array.getElem?_toList, hA]; rfl
  have cb2 : B[2]? = some (.slice ya2 xs2.length yc2) := by rw [← Array.getElem?_toList, hB]; rfl
  clear ox2 ox3 oy2 oy3 hA hB BA BB hW h1 h2
  go_enter Try.func20, Try.ntmps20
  go_wp2_with fail
  ((with_reducible refine (eq_IntSS _ (by omega) ((HO.out.1).under HW0.out) ((HO.out.2.2.1).under HW0.out)).mono ?_); rintro e w1 ⟨rfl, b1⟩)
  have HW1 := Lib.hid (on_of HW0.out b1)
  have HA1 := Lib.hid (HA0.out.keep b1)
  have HB1 := Lib.hid (HB0.out.keep b1)
  clear b1 ca0 cb0 ca1 cb1 ca2 cb2
  have ca3 := HA1.out.1 3 (.slice xa3 xs3.length xc3) (by rfl)
  have cb3 := HB1.out.1 3 (.slice ya3 xs3.length yc3) (by rfl)
  go_wp2_with fail
  ((with_reducible refine (eq_ObjectS _ (by omega) ((HO.out.2.1).under HW1.out) ((HO.out.2.2.2).under HW1.out)).mono ?_); rintro e w2 ⟨rfl, b2⟩)
  have HW2 := Lib.hid (on_of HW1.out b2)
  have HA2 := Lib.hid (HA1.out.keep b2)
  have HB2 := Lib.hid (HB1.out.keep b2)
  clear b2 ca3 cb3
  go_wp2
  go_ret
  exact ⟨rfl, HW2.out⟩
end Go.Proofs.Ytbdjnfnphilklaa.Own
namespace Go.Proofs.Ytbdjnfnphilklaa.Own
open Go.ChangeShapes Go.WideShapes Go.ChangeAt Go.RowKit
open Kit Slabs Ints
set_option linter.unusedVariables false
set_option linter.unusedSimpArgs false
set_option linter.unnecessarySimpa false
set_option maxRecDepth 100000
attribute [local go_sem ↓] hloadL_Object
set_option maxHeartbeats 4000000 in
theorem sz_ObjectS (w : World) {a : Option Addr} {c : Nat} {es : List Dt} (h : Came w (.sl KObject) [.slice a es.length c] (.sl es)) (hm : es.length ≤ maxLen) (l : Int) (l0 : 0 ≤ l) (l1 : l ≤ 1048576) :
    Calls Try.prog 54 #[.slice a es.length c, .int .i64 l] w fun e w' => e = .returned (.int .i64 (szv l (es.length + bulkL es))) ∧ Below w.heap.size w w' := by
  obtain ⟨_, hr⟩ := h.row
  obtain ⟨n, hn⟩ : ∃ n, es.length = n := ⟨_, rfl⟩
  rw [hn] at hr hm h ⊢
  have hm2 : n ≤ 9223372036854775807 := by unfold maxLen at hm; omega
  clear hm
  by_cases c0 : l - (n : Int) < 0
  · have hz : szv l n = -1 := by unfold szv; rw [if_pos c0]
    have HZ := Lib.hid (szv_neg (b := bulkL es) l0 (by rw [hz]; omega))
    clear hr h hz
    go_enter Try.func54, Try.ntmps54
    go_wp2
    go_ret
    exact ⟨ret_int HZ.out.symm, Below.refl _ _⟩
  · have hz : szv l n = l - (n : Int) := by unfold szv; rw [if_neg c0]
    have H := Lib.hid h
    have HN := Lib.hid hn
    have hn1 : n ≤ 1048576 := by omega
    have HR : n ≠ 0 → ∃ g o, a = some ⟨g, o, none⟩ ∧ g < w.heap.size := hr
    have ha : n = 0 ∨ ∃ g o, a = some ⟨g, o, none⟩ := by
      by_cases h0 : n = 0
      · exact .inl h0
      · obtain ⟨g, o, h1, _⟩ := hr h0; exact .inr ⟨g, o, h1⟩
    have HZ := Lib.hid hz
    clear h hr hz HR hn
    rcases ha with rfl | ⟨g, o, rfl⟩
    · have hes : es = [] := List.eq_nil_of_length_eq_zero HN.out
      subst hes
      have HT := Lib.hid (show szv l (0 + bulkL []) = l by simp [szv, bulkL]; omega)
      clear H HN HZ
      go_enter Try.func54, Try.ntmps54
      go_wp2
      go_rounds 1
      go_ret
      exact ⟨ret_int (by rw [HT.out]), Below.refl _ _⟩
    · go_enter Try.func54, Try.ntmps54
      go_wp2
      go_loopw [1, 5] (fun v1 i wr => ∃ (k : Nat) (y : Int), k ≤ n ∧ i = .int .i64 (k : Int) ∧ v1 = .int .i64 y ∧ 0 ≤ y ∧ y ≤ 1048576 ∧ szv l (n + bulkL (es.take k)) = y ∧ Below w.heap.size w wr) (fun _ i _ => n - (intOf i).toNat)
      case atStart => exact ⟨0, l - (n : Int), Nat.zero_le _, rfl, rfl, by omega, by omega, by rw [List.take_zero]; simp only [bulkL, Nat.add_zero]; exact HZ.out, Below.refl _ _⟩
      case round =>
        obtain ⟨k, y, hk, rfl, rfl, y0, y1, hy, hbel⟩ := hrel
        by_cases hlt : k < n
        · have hke : k < es.length := by rw [HN.out]; exact hlt
          obtain ⟨hg, cs, ds, ed, od, ld, sd⟩ := H.out.elt hke
          have htk := take_bulk hke
          rw [ed] at htk
          simp only [Dt.bulk] at htk
          have hpart := bulk_parts es (k + 1)
          obtain ⟨C, hC⟩ : ∃ C, cs.toArray = C := ⟨_, rfl⟩
          have tC : C.toList = cs := by rw [← hC]
          have L1 := hload_run (P := Try.prog) (t := 105) Try.isAgg105 Try.sizeOf105 (w := wr) (b := g) (o := o + k * 6) (us := cs) (sd wr hbel) ld
          rw [hC] at L1
          rw [← tC] at od
          have HO := Lib.hid (od.on hbel)
          have i0 : (0 : Int) ≤ (k : Int) := by omega
          have i1 : (k : Int) < (n : Int) := by omega
          obtain ⟨z, hz⟩ : ∃ z, szv y (bulkL ds) = z := ⟨_, rfl⟩
          have hz2 : szv l (n + bulkL (es.take (k + 1))) = z := by rw [htk, ← Nat.add_assoc, ← szv_add (by rw [hy]; exact y0), hy, hz]
          have hzl : z ≤ 1048576 := by have := szv_le (a := bulkL ds) y0; omega
          have hneg : z < 0 → szv l (n + bulkL es) = -1 := fun hc => by rw [hpart, ← Nat.add_assoc]; exact szv_neg l0 (by rw [hz2]; exact hc)
          have hm1 : z < 0 → z = -1 := fun hc => by rw [← hz] at hc ⊢; unfold szv at hc ⊢; split at hc <;> first | rfl | omega
          have HF := Lib.hid (And.intro hz (And.intro hz2 (And.intro hneg hm1)))
          clear od sd ed ld hke hC tC htk hpart hz hz2 hneg hm1 hy
          by_cases c1 : z < 0
          · go_wp2_with (go_at_call 83; (with_reducible refine (sz_Object _ HO.out y y0 y1).mono ?_); rintro e w' ⟨rfl, hb⟩; rw [HF.out.1]; have hB := on_of hbel hb; clear hb)
            go_ret
            exact ⟨ret_int (HF.out.2.2.1 c1).symm, hB⟩
          · have z0 : 0 ≤ z := by omega
            go_wp2_with (go_at_call 83; (with_reducible refine (sz_Object _ HO.out y y0 y1).mono ?_); rintro e w' ⟨rfl, hb⟩; rw [HF.out.1]; have hB := on_of hbel hb; clear hb)
            go_roundw
            case rel => exact ⟨k + 1, z, by omega, by go_num, rfl, z0, hzl, HF.out.2.1, hB⟩
            case measure => simp [intOf]; omega
        · obtain rfl : k = n := by omega
          have HY := Lib.hid (show szv l (k + bulkL es) = y by rw [← hy, ← HN.out, List.take_length])
          clear hy
          go_wp2
          go_ret
          exact ⟨ret_int HY.out.symm, hbel⟩
end Go.Proofs.Ytbdjnfnphilklaa.Own
namespace Go.Proofs.Ytbdjnfnphilklaa.Own
open Go.ChangeShapes Go.WideShapes Go.ChangeAt Go.RowKit
open Kit Slabs Ints
attribute [local go_sem ↓] hload_Band hstore_Band hloadL_Band
set_option linter.unusedVariables false
set_option linter.unusedSimpArgs false
set_option linter.unnecessarySimpa false
set_option maxRecDepth 100000
set_option maxHeartbeats 4000000 in
theorem sz_Band (w : World) {A : Array Value} {ds : List Dt} (h : CameL w LBand A.toList ds) (l : Int) (l0 : 0 ≤ l) (l1 : l ≤ 1048576) :
    Calls Try.prog 23 #[.agg A, .int .i64 l] w fun e w' => e = .returned (.int .i64 (szv l (bulkL ds))) ∧ Below w.heap.size w w' := by
  obtain ⟨xa2, xc2, xa3, xc3, xx0_0, xx1_0, xs2, xs3, hA, rfl, ⟨ox2, mox2⟩, ⟨ox3, mox3⟩⟩ := invC_Band h
  have hbk : bulkL (.int xx0_0 :: (.int xx1_0 :: (.sl xs2 :: (.sl xs3 :: ([]))))) = ((xs2.length + bulkL xs2) + (xs3.length + bulkL xs3)) := by simp only [bulkL_app, bulkL, Dt.bulk]; omega
  rw [hbk]
  obtain ⟨y1, q1⟩ : ∃ x, szv l (xs2.length + bulkL xs2) = x := ⟨_, rfl⟩
  obtain ⟨y2, q2⟩ : ∃ x, szv y1 (xs3.length + bulkL xs3) = x := ⟨_, rfl⟩
  have BA : Blk (w.alloc (.cells A 51)) w.heap.size A.toList := Blk.new w A 51 rfl
  have hW : Below w.heap.size w (w.alloc (.cells A 51)) := by go_grown
  rw [hA] at BA
  have HO := Lib.hid (And.intro ox2 ox3)
  have HA0 := Lib.hid BA
  have HW0 := Lib.hid hW
  by_cases c1 : y1 < 0
  · have t2 : szv l ((xs2.length + bulkL xs2) + (xs3.length + bulkL xs3)) = -1 := szv_neg l0 (by rw [q1]; omega)
    have HZ := Lib.hid t2
    have ca0 : A[0]? = some (.int .i64 xx0_0) := by rw [← Array.getElem?_toList, hA]; rfl
    have ca1 : A[1]? = some (.int .i64 xx1_0) := by rw [← Array.getElem?_toList, hA]; rfl
    have ca2 : A[2]? = some (.slice xa2 xs2.length xc2) := by rw [← Array.getElem?_toList, hA]; rfl
    clear ox2 ox3 hA BA hW h hbk
    go_enter Try.func23, Try.ntmps23
    go_wp2_with fail
    ((with_reducible refine (sz_IntSS _ ((HO.out.1).on HW0.out) mox2 l (by omega) (by omega)).mono ?_); rintro e w1 ⟨rfl, b1⟩)
    rw [q1]
    have HW1 := Lib.hid (on_of HW0.out b1)
    have HA1 := Lib.hid (HA0.out.keep b1)
    clear b1 ca0 ca1 ca2
    clear q1 q2
    go_wp2
    go_ret
    exact ⟨ret_int HZ.out.symm, HW1.out⟩
  · have d1 : 0 ≤ y1 := by omega
    have e1 : y1 ≤ 1048576 := by have := szv_le (a := (xs2.length + bulkL xs2)) (show 0 ≤ l by omega); rw [q1] at this; omega
    by_cases c2 : y2 < 0
    · have s2 : szv l ((xs2.length + bulkL xs2) + (xs3.length + bulkL xs3)) = y2 := by rw [← szv_add (by rw [q1]; omega), q1, q2]
      have u : y2 = -1 := by rw [← q2] at c2 ⊢; unfold szv at c2 ⊢; split at c2 <;> first | rfl | omega
      have HZ := Lib.hid (s2.trans u)
      clear u
      have ca0 : A[0]? = some (.int .i64 xx0_0) := by rw [← Array.getElem?_toList, hA]; rfl
      have ca1 : A[1]? = some (.int .i64 xx1_0) := by rw [← Array.getElem?_toList, hA]; rfl
      have ca2 : A[2]? = some (.slice xa2 xs2.length xc2) := by rw [← Array.getElem?_toList, hA]; rfl
      clear ox2 ox3 hA BA hW h hbk
      go_enter Try.func23, Try.ntmps23
      go_wp2_with fail
      ((with_reducible refine (sz_IntSS _ ((HO.out.1).on HW0.out) mox2 l (by omega) (by omega)).mono ?_); rintro e w1 ⟨rfl, b1⟩)
      rw [q1]
      have HW1 := Lib.hid (on_of HW0.out b1)
      have HA1 := Lib.hid (HA0.out.keep b1)
      clear b1 ca0 ca1 ca2
      have ca3 := HA1.out.1 3 (.slice xa3 xs3.length xc3) (by rfl)
      go_wp2_with fail
      ((with_reducible refine (sz_ObjectS _ ((HO.out.2).on HW1.out) mox3 y1 (by omega) (by omega)).mono ?_); rintro e w2 ⟨rfl, b2⟩)
      rw [q2]
      have HW2 := Lib.hid (on_of HW1.out b2)
      have HA2 := Lib.hid (HA1.out.keep b2)
      clear b2 ca3
      clear q1 q2
      go_wp2
      go_ret
      exact ⟨ret_int HZ.out.symm, HW2.out⟩
    · have d2 : 0 ≤ y2 := by omega
      have e2 : y2 ≤ 1048576 := by have := szv_le (a := (xs3.length + bulkL xs3)) (show 0 ≤ y1 by omega); rw [q2] at this; omega
      have s2 : szv l ((xs2.length + bulkL xs2) + (xs3.length + bulkL xs3)) = y2 := by rw [← szv_add (by rw [q1]; omega), q1, q2]
      have HZ := Lib.hid s2
      have ca0 : A[0]? = some (.int .i64 xx0_0) := by rw [← Array.getElem?_toList, hA]; rfl
      have ca1 : A[1]? = some (.int .i64 xx1_0) := by rw [← Array.getElem?_toList, hA]; rfl
      have ca2 : A[2]? = some (.slice xa2 xs2.length xc2) := by rw [← Array.getElem?_toList, hA]; rfl
      clear ox2 ox3 hA BA hW h hbk
      go_enter Try.func23, Try.ntmps23
      go_wp2_with fail
      ((with_reducible refine (sz_IntSS _ ((HO.out.1).on HW0.out) mox2 l (by omega) (by omega)).mono ?_); rintro e w1 ⟨rfl, b1⟩)
      rw [q1]
      have HW1 := Lib.hid (on_of HW0.out b1)
      have HA1 := Lib.hid (HA0.out.keep b1)
      clear b1 ca0 ca1 ca2
      have ca3 := HA1.out.1 3 (.slice xa3 xs3.length xc3) (by rfl)
      go_wp2_with fail
      ((with_reducible refine (sz_ObjectS _ ((HO.out.2).on HW1.out) mox3 y1 (by omega) (by omega)).mono ?_); rintro e w2 ⟨rfl, b2⟩)
      rw [q2]
      have HW2 := Lib.hid (on_of HW1.out b2)
      have HA2 := Lib.hid (HA1.out.keep b2)
      clear b2 ca3
      clear q1 q2
      go_wp2
      go_ret
      exact ⟨ret_int HZ.out.symm, HW2.out⟩
end Go.Proofs.Ytbdjnfnphilklaa.Own
namespace Go.Proofs.Ytbdjnfnphilklaa.Own
open Go.ChangeShapes Go.WideShapes Go.ChangeAt Go.RowKit
open Kit Slabs Ints
attribute [local go_sem ↓] hload_Band hstore_Band hloadL_Band
set_option linter.unusedVariables false
set_option linter.unusedSimpArgs false
set_option linter.unnecessarySimpa false
set_option maxRecDepth 100000
set_option maxHeartbeats 4000000 in
theorem mark_Band (w : World) (N : Nat) {A : Array Value} {ds : List Dt} {fp : List Nat} (hb : bulkL ds ≤ 1048576) (h0 : 0 < N) (hN : N + cnt0L ds ≤ 1000000000) (h : OwnL w LBand A.toList ds fp) (hd : fp.Nodup) :
    Calls Try.prog 21 #[.agg A, .int .i64 (N : Int)] w fun e w' => e = .returned (.int .i64 ((N + cnt0L ds : Nat) : Int)) ∧ OwnL w' LBand A.toList (mk0L ds N) fp ∧ Turns w w' (fun b => b ∈ fp) := by
  obtain ⟨xa2, xc2, xa3, xc3, xx0_0, xx1_0, xs2, xs3, xF2, xF3, hA, rfl, rfl, ox2, ox3⟩ := inv_Band h
  obtain ⟨nd0, r0, x0⟩ := nodup_parts hd
  obtain ⟨nd1, r1, x1⟩ := nodup_parts r0
  have d0_1 : ∀ b ∈ xF2, b ∉ xF3 := fun b ha hb => x0 b ha (List.mem_append_left _ hb)
  have d1_0 : ∀ b ∈ xF3, b ∉ xF2 := fun b ha hb => d0_1 b hb ha
  have hc : N + cnt0L (.int xx0_0 :: (.int xx1_0 :: (.sl xs2 :: (.sl xs3 :: ([]))))) = ((N + cntL xs2) + cntL xs3) := by simp only [cnt0L_app, cnt0L, Dt.cnt0]; omega
  have hm : mk0L (.int xx0_0 :: (.int xx1_0 :: (.sl xs2 :: (.sl xs3 :: ([]))))) N = .int xx0_0 :: (.int xx1_0 :: (.sl (mkL xs2 N) :: (.sl (mkL xs3 (N + cntL xs2)) :: ([])))) := by simp only [mk0L_app, mk0L, Dt.mk0, cnt0L_app, cnt0L, Dt.cnt0, Nat.add_zero, Nat.add_assoc]
  obtain ⟨M1, hM1⟩ : ∃ M, N + cntL xs2 = M := ⟨_, rfl⟩
  simp only [hM1] at hc hm
  obtain ⟨M2, hM2⟩ : ∃ M, M1 + cntL xs3 = M := ⟨_, rfl⟩
  simp only [hM2] at hc hm
  rw [hc] at hN ⊢
  rw [hm]
  clear hc hm
  simp only [bulkL_app, bulkL, Dt.bulk] at hb
  have BA : Blk (w.alloc (.cells A 32)) w.heap.size A.toList := Blk.new w A 32 rfl
  have hT : Turns w (w.alloc (.cells A 32)) (fun b => b ∈ xF2 ++ (xF3 ++ ([]))) := Turns.of_below (by go_grown)
  rw [hA] at BA ⊢
  have lt0 := ox2.lt
  have ne0 : ¬ (w.heap.size ∈ xF2) := fun hb => by have := lt0 _ hb; omega
  have p0 := ox2.under (w' := w.alloc (.cells A 32)) (by go_grown)
  have lt1 := ox3.lt
  have ne1 : ¬ (w.heap.size ∈ xF3) := fun hb => by have := lt1 _ hb; omega
  have p1 := ox3.under (w' := w.alloc (.cells A 32)) (by go_grown)
  have HO0 := Lib.hid (And.intro p0 p1)
  have HA0 := Lib.hid BA
  have HT0 := Lib.hid hT
  have ca0 : A[0]? = some (.int .i64 xx0_0) := by rw [← Array.getElem?_toList, hA]; rfl
  have ca1 : A[1]? = some (.int .i64 xx1_0) := by rw [← Array.getElem?_toList, hA]; rfl
  have ca2 : A[2]? = some (.slice xa2 xs2.length xc2) := by rw [← Array.getElem?_toList, hA]; rfl
  clear ox2 ox3 hA BA hT h hd p0 lt0 p1 lt1
  go_enter Try.func21, Try.ntmps21
  go_wp2_with fail
  ((with_reducible refine (mark_IntSS _ N (by omega) (by omega) (by omega) (HO0.out.1) nd0).mono ?_); rintro e w1 ⟨rfl, o1, b1⟩)
  rw [hM1]
  have HO1 := Lib.hid (And.intro o1 ((HO0.out.2).turned b1 d1_0))
  have HA1 := Lib.hid (HA0.out.turned b1 ne0)
  have HT1 := Lib.hid (HT0.out.trans (b1.mono (fun _ hk => List.mem_append_left _ hk)))
  clear o1 b1 ca0 ca1 ca2
  have ca3 := HA1.out.1 3 (.slice xa3 xs3.length xc3) (by rfl)
  go_wp2_with fail
  ((with_reducible refine (mark_ObjectS _ M1 (by omega) (by omega) (by omega) (HO1.out.2) nd1).mono ?_); rintro e w2 ⟨rfl, o2, b2⟩)
  rw [hM2]
  have HO2 := Lib.hid (And.intro ((HO1.out.1).turned b2 d0_1) o2)
  have HA2 := Lib.hid (HA1.out.turned b2 ne1)
  have HT2 := Lib.hid (HT1.out.trans (b2.mono (fun _ hk => List.mem_append_right _ (List.mem_append_left _ hk))))
  clear o2 b2 ca3
  go_wp2
  go_ret
  exact ⟨rfl, .cons (cs := [.int .i64 xx0_0]) (fp := []) (.int xx0_0) (.cons (cs := [.int .i64 xx1_0]) (fp := []) (.int xx1_0) (.cons (cs := [.slice xa2 xs2.length xc2]) (fp := xF2) (HO2.out.1) (.cons (cs := [.slice xa3 xs3.length xc3]) (fp := xF3) (HO2.out.2) (.nil)))), HT2.out⟩
end Go.Proofs.Ytbdjnfnphilklaa.Own
namespace Go.Proofs.Ytbdjnfnphilklaa.Own
open Go.ChangeShapes Go.WideShapes Go.ChangeAt Go.RowKit
open Kit Slabs Ints
attribute [local go_sem ↓] hload_Band hstore_Band hloadL_Band
set_option linter.unusedVariables false
set_option linter.unusedSimpArgs false
set_option linter.unnecessarySimpa false
set_option maxRecDepth 100000
set_option maxHeartbeats 4000000 in
theorem held_Band (w : World) (N : Nat) {A : Array Value} {ds : List Dt} {cs0 : List Value} {fp fq : List Nat} {w0 : World} (hb : bulkL ds ≤ 1048576) (h0 : 0 < N) (hN : N + cnt0L ds ≤ 1000000000) (hs : OwnL w0 LBand cs0 ds fq) (h : OwnL w LBand A.toList (mk0L ds N) fp) :
    Calls Try.prog 22 #[.agg A, .int .i64 (N : Int)] w fun e w' => e = .returned (.int .i64 ((N + cnt0L ds : Nat) : Int)) ∧ Below w.heap.size w w' := by
  obtain ⟨xa2, xc2, xa3, xc3, xx0_0, xx1_0, xs2, xs3, xF2, xF3, _, rfl, _, ox2, ox3⟩ := inv_Band hs
  have hc : N + cnt0L (.int xx0_0 :: (.int xx1_0 :: (.sl xs2 :: (.sl xs3 :: ([]))))) = ((N + cntL xs2) + cntL xs3) := by simp only [cnt0L_app, cnt0L, Dt.cnt0]; omega
  have hm : mk0L (.int xx0_0 :: (.int xx1_0 :: (.sl xs2 :: (.sl xs3 :: ([]))))) N = .int xx0_0 :: (.int xx1_0 :: (.sl (mkL xs2 N) :: (.sl (mkL xs3 (N + cntL xs2)) :: ([])))) := by simp only [mk0L_app, mk0L, Dt.mk0, cnt0L_app, cnt0L, Dt.cnt0, Nat.add_zero, Nat.add_assoc]
  obtain ⟨M1, hM1⟩ : ∃ M, N + cntL xs2 = M := ⟨_, rfl⟩
  simp only [hM1] at hc hm
  obtain ⟨M2, hM2⟩ : ∃ M, M1 + cntL xs3 = M := ⟨_, rfl⟩
  simp only [hM2] at hc hm
  rw [hc] at hN ⊢
  rw [hm] at h
  clear hc hm
  simp only [bulkL_app, bulkL, Dt.bulk] at hb
  obtain ⟨ya2, yc2, ya3, yc3, yF2, yF3, hA, rfl, oy2, oy3⟩ := inv_Band_ h
  simp only [mkL_length] at hA oy2 oy3
  have BA : Blk (w.alloc (.cells A 32)) w.heap.size A.toList := Blk.new w A 32 rfl
  have hW : Below w.heap.size w (w.alloc (.cells A 32)) := by go_grown
  rw [hA] at BA
  have HS := Lib.hid (And.intro ox2 ox3)
  have HO := Lib.hid (And.intro oy2 oy3)
  have HA0 := Lib.hid BA
  have HW0 := Lib.hid hW
  have ca0 : A[0]? = some (.int .i64 xx0_0) := by rw [← Array.getElem?_toList, hA]; rfl
  have ca1 : A[1]? = some (.int .i64 xx1_0) := by rw [← Array.getElem?_toList, hA]; rfl
  have ca2 : A[2]? = some (.slice ya2 xs2.length yc2) := by rw [← Array.getElem?_toList, hA]; rfl
  clear ox2 ox3 oy2 oy3 hA BA hW h hs
  go_enter Try.func22, Try.ntmps22
  go_wp2_with fail
  ((with_reducible refine (held_IntSS _ N (by omega) (by omega) (by omega) (HS.out.1) ((HO.out.1).under HW0.out)).mono ?_); rintro e w1 ⟨rfl, b1⟩)
  rw [hM1]
  have HW1 := Lib.hid (on_of HW0.out b1)
  have HA1 := Lib.hid (HA0.out.keep b1)
  have g1 : ¬ (((M1 : Nat) : Int) < 0) := by omega
  clear b1 ca0 ca1 ca2
  have ca3 := HA1.out.1 3 (.slice ya3 xs3.length yc3) (by rfl)
  go_wp2_with fail
  ((with_reducible refine (held_ObjectS _ M1 (by omega) (by omega) (by omega) (HS.out.2) ((HO.out.2).under HW1.out)).mono ?_); rintro e w2 ⟨rfl, b2⟩)
  rw [hM2]
  have HW2 := Lib.hid (on_of HW1.out b2)
  have HA2 := Lib.hid (HA1.out.keep b2)
  have g2 : ¬ (((M2 : Nat) : Int) < 0) := by omega
  clear b2 ca3
  go_wp2
  go_ret
  exact ⟨rfl, HW2.out⟩
end Go.Proofs.Ytbdjnfnphilklaa.Own
