/-
  Texts of this seat, laid together: SzB, SpG
-/
import Derived.WalkKit
import Derived.Deep.DeepCutAuto
import Derived.Deep.QuietTactic
import Derived.BigQuiet
import Derived.Deep.RegionHeld3
import Derived.Handy
import Derived.Test.YtjmfgbbngocodaaGreatZ16
import Derived.Test.YtjmfgbbngocodaaGreatZ18
namespace Go.Proofs.YtjmfgbbngocodaaGreat.Own
open Go.ChangeShapes Go.WideShapes Go.ChangeAt Go.RowKit
open Kit Slabs Ints
set_option linter.unusedVariables false
set_option linter.unusedSimpArgs false
set_option linter.unnecessarySimpa false
set_option maxRecDepth 100000
attribute [local go_sem ↓] hloadL_Graphics
attribute [local go_sem ↓] hloadL_Object
set_option maxHeartbeats 4000000 in
theorem sz_GraphicsS (w : World) {a : Option Addr} {c : Nat} {es : List Dt} (h : Came w (.sl KGraphics) [.slice a es.length c] (.sl es)) (hm : es.length ≤ maxLen) (l : Int) (l0 : 0 ≤ l) (l1 : l ≤ 1048576) :
    Calls Tryz.prog 21 #[.slice a es.length c, .int .i64 l] w fun e w' => e = .returned (.int .i64 (szv l (es.length + bulkL es))) ∧ Below w.heap.size w w' := by
  obtain ⟨_, hr⟩ := h.row
  obtain ⟨n, hn⟩ : ∃ n, es.length = n := ⟨_, rfl⟩
  rw [hn] at hr hm h ⊢
  have hm2 : n ≤ 9223372036854775807 := by unfold maxLen at hm; omega
  clear hm
  by_cases c0 : l - (n : Int) < 0
  · have hz : szv l n = -1 := by unfold szv; rw [if_pos c0]
    have HZ := Lib.hid (szv_neg (b := bulkL es) l0 (by rw [hz]; omega))
    clear hr h hz
    go_enter Tryz.func21, Tryz.ntmps21
    go_wp2
    go_ret
    exact ⟨ret_int HZ.out.symm, Below.refl _ _⟩
  · have hz : szv l n = l - (n : Int) := by unfold szv; rw [if_neg c0]
    have H := Lib.hid h
    have HN := Lib.hid hn
    have hn1 : n ≤ 1048576 := by omega
    have HR : n ≠ 0 → ∃ g o, a = some ⟨g, o, none⟩ ∧ g < w.heap.size := hr
    have ha : n = 0 ∨ ∃ g o, a = some ⟨g, o, none⟩ := by
      by_cases h0 : n = 0
      · exact .inl h0
      · obtain ⟨g, o, h1, _⟩ := hr h0; exact .inr ⟨g, o, h1⟩
    have HZ := Lib.hid hz
    clear h hr hz HR hn
    rcases ha with rfl | ⟨g, o, rfl⟩
    · have hes : es = [] := List.eq_nil_of_length_eq_zero HN.out
      subst hes
      have HT := Lib.hid (show szv l (0 + bulkL []) = l by simp [szv, bulkL]; omega)
      clear H HN HZ
      go_enter Tryz.func21, Tryz.ntmps21
      go_wp2
      go_rounds 1
      go_ret
      exact ⟨ret_int (by rw [HT.out]), Below.refl _ _⟩
    · go_enter Tryz.func21, Tryz.ntmps21
      go_wp2
      go_loopw [1, 5] (fun v1 i wr => ∃ (k : Nat) (y : Int), k ≤ n ∧ i = .int .i64 (k : Int) ∧ v1 = .int .i64 y ∧ 0 ≤ y ∧ y ≤ 1048576 ∧ szv l (n + bulkL (es.take k)) = y ∧ Below w.heap.size w wr) (fun _ i _ => n - (intOf i).toNat)
      case atStart => exact ⟨0, l - (n : Int), Nat.zero_le _, rfl, rfl, by omega, by omega, by rw [List.take_zero]; simp only [bulkL, Nat.add_zero]; exact HZ.out, Below.refl _ _⟩
      case round =>
        obtain ⟨k, y, hk, rfl, rfl, y0, y1, hy, hbel⟩ := hrel
        by_cases hlt : k < n
        · have hke : k < es.length := by rw [HN.out]; exact hlt
          obtain ⟨hg, cs, ds, ed, od, ld, sd⟩ := H.out.elt hke
          have htk := take_bulk hke
          rw [ed] at htk
          simp only [Dt.bulk] at htk
          have hpart := bulk_parts es (k + 1)
          obtain ⟨C, hC⟩ : ∃ C, cs.toArray = C := ⟨_, rfl⟩
          have tC : C.toList = cs := by rw [← hC]
          have L1 := hload_run (P := Tryz.prog) (t := 29) Tryz.isAgg29 Tryz.sizeOf29 (w := wr) (b := g) (o := o + k * 11) (us := cs) (sd wr hbel) ld
          rw [hC] at L1
          rw [← tC] at od
          have HO := Lib.hid (od.on hbel)
          have i0 : (0 : Int) ≤ (k : Int) := by omega
          have i1 : (k : Int) < (n : Int) := by omega
          obtain ⟨z, hz⟩ : ∃ z, szv y (bulkL ds) = z := ⟨_, rfl⟩
          have hz2 : szv l (n + bulkL (es.take (k + 1))) = z := by rw [htk, ← Nat.add_assoc, ← szv_add (by rw [hy]; exact y0), hy, hz]
          have hzl : z ≤ 1048576 := by have := szv_le (a := bulkL ds) y0; omega
          have hneg : z < 0 → szv l (n + bulkL es) = -1 := fun hc => by rw [hpart, ← Nat.add_assoc]; exact szv_neg l0 (by rw [hz2]; exact hc)
          have hm1 : z < 0 → z = -1 := fun hc => by rw [← hz] at hc ⊢; unfold szv at hc ⊢; split at hc <;> first | rfl | omega
          have HF := Lib.hid (And.intro hz (And.intro hz2 (And.intro hneg hm1)))
          clear od sd ed ld hke hC tC htk hpart hz hz2 hneg hm1 hy
          by_cases c1 : z < 0
          · go_wp2_with (go_at_call 20; (with_reducible refine (sz_Graphics _ HO.out y y0 y1).mono ?_); rintro e w' ⟨rfl, hb⟩; rw [HF.out.1]; have hB := on_of hbel hb; clear hb)
            go_ret
            exact ⟨ret_int (HF.out.2.2.1 c1).symm, hB⟩
          · have z0 : 0 ≤ z := by omega
            go_wp2_with (go_at_call 20; (with_reducible refine (sz_Graphics _ HO.out y y0 y1).mono ?_); rintro e w' ⟨rfl, hb⟩; rw [HF.out.1]; have hB := on_of hbel hb; clear hb)
            go_roundw
            case rel => exact ⟨k + 1, z, by omega, by go_num, rfl, z0, hzl, HF.out.2.1, hB⟩
            case measure => simp [intOf]; omega
        · obtain rfl : k = n := by omega
          have HY := Lib.hid (show szv l (k + bulkL es) = y by rw [← hy, ← HN.out, List.take_length])
          clear hy
          go_wp2
          go_ret
          exact ⟨ret_int HY.out.symm, hbel⟩
set_option maxHeartbeats 4000000 in
theorem sz_ObjectS (w : World) {a : Option Addr} {c : Nat} {es : List Dt} (h : Came w (.sl KObject) [.slice a es.length c] (.sl es)) (hm : es.length ≤ maxLen) (l : Int) (l0 : 0 ≤ l) (l1 : l ≤ 1048576) :
    Calls Tryz.prog 22 #[.slice a es.length c, .int .i64 l] w fun e w' => e = .returned (.int .i64 (szv l (es.length + bulkL es))) ∧ Below w.heap.size w w' := by
  obtain ⟨_, hr⟩ := h.row
  obtain ⟨n, hn⟩ : ∃ n, es.length = n := ⟨_, rfl⟩
  rw [hn] at hr hm h ⊢
  have hm2 : n ≤ 9223372036854775807 := by unfold maxLen at hm; omega
  clear hm
  by_cases c0 : l - (n : Int) < 0
  · have hz : szv l n = -1 := by unfold szv; rw [if_pos c0]
    have HZ := Lib.hid (szv_neg (b := bulkL es) l0 (by rw [hz]; omega))
    clear hr h hz
    go_enter Tryz.func22, Tryz.ntmps22
    go_wp2
    go_ret
    exact ⟨ret_int HZ.out.symm, Below.refl _ _⟩
  · have hz : szv l n = l - (n : Int) := by unfold szv; rw [if_neg c0]
    have H := Lib.hid h
    have HN := Lib.hid hn
    have hn1 : n ≤ 1048576 := by omega
    have HR : n ≠ 0 → ∃ g o, a = some ⟨g, o, none⟩ ∧ g < w.heap.size := hr
    have ha : n = 0 ∨ ∃ g o, a = some ⟨g, o, none⟩ := by
      by_cases h0 : n = 0
      · exact .inl h0
      · obtain ⟨g, o, h1, _⟩ := hr h0; exact .inr ⟨g, o, h1⟩
    have HZ := Lib.hid hz
    clear h hr hz HR hn
    rcases ha with rfl | ⟨g, o, rfl⟩
    · have hes : es = [] := List.eq_nil_of_length_eq_zero HN.out
      subst hes
      have HT := Lib.hid (show szv l (0 + bulkL []) = l by simp [szv, bulkL]; omega)
      clear H HN HZ
      go_enter Tryz.func22, Tryz.ntmps22
      go_wp2
      go_rounds 1
      go_ret
      exact ⟨ret_int (by rw [HT.out]), Below.refl _ _⟩
    · go_enter Tryz.func22, Tryz.ntmps22
      go_wp2
      go_loopw [1, 5] (fun v1 i wr => ∃ (k : Nat) (y : Int), k ≤ n ∧ i = .int .i64 (k : Int) ∧ v1 = .int .i64 y ∧ 0 ≤ y ∧ y ≤ 1048576 ∧ szv l (n + bulkL (es.take k)) = y ∧ Below w.heap.size w wr) (fun _ i _ => n - (intOf i).toNat)
      case atStart => exact ⟨0, l - (n : Int), Nat.zero_le _, rfl, rfl, by omega, by omega, by rw [List.take_zero]; simp only [bulkL, Nat.add_zero]; exact HZ.out, Below.refl _ _⟩
      case round =>
        obtain ⟨k, y, hk, rfl, rfl, y0, y1, hy, hbel⟩ := hrel
        by_cases hlt : k < n
        · have hke : k < es.length := by rw [HN.out]; exact hlt
          obtain ⟨hg, cs, ds, ed, od, ld, sd⟩ := H.out.elt hke
          have htk := take_bulk hke
          rw [ed] at htk
          simp only [Dt.bulk] at htk
          have hpart := bulk_parts es (k + 1)
          obtain ⟨C, hC⟩ : ∃ C, cs.toArray = C := ⟨_, rfl⟩
          have tC : C.toList = cs := by rw [← hC]
          have L1 := hload_run (P := Tryz.prog) (t := 97) Tryz.isAgg97 Tryz.sizeOf97 (w := wr) (b := g) (o := o + k * 6) (us := cs) (sd wr hbel) ld
          rw [hC] at L1
          rw [← tC] at od
          have HO := Lib.hid (od.on hbel)
          have i0 : (0 : Int) ≤ (k : Int) := by omega
          have i1 : (k : Int) < (n : Int) := by omega
          obtain ⟨z, hz⟩ : ∃ z, szv y (bulkL ds) = z := ⟨_, rfl⟩
          have hz2 : szv l (n + bulkL (es.take (k + 1))) = z := by rw [htk, ← Nat.add_assoc, ← szv_add (by rw [hy]; exact y0), hy, hz]
          have hzl : z ≤ 1048576 := by have := szv_le (a := bulkL ds) y0; omega
          have hneg : z < 0 → szv l (n + bulkL es) = -1 := fun hc => by rw [hpart, ← Nat.add_assoc]; exact szv_neg l0 (by rw [hz2]; exact hc)
          have hm1 : z < 0 → z = -1 := fun hc => by rw [← hz] at hc ⊢; unfold szv at hc ⊢; split at hc <;> first | rfl | omega
          have HF := Lib.hid (And.intro hz (And.intro hz2 (And.intro hneg hm1)))
          clear od sd ed ld hke hC tC htk hpart hz hz2 hneg hm1 hy
          by_cases c1 : z < 0
          · go_wp2_with (go_at_call 57; (with_reducible refine (sz_Object _ HO.out y y0 y1).mono ?_); rintro e w' ⟨rfl, hb⟩; rw [HF.out.1]; have hB := on_of hbel hb; clear hb)
            go_ret
            exact ⟨ret_int (HF.out.2.2.1 c1).symm, hB⟩
          · have z0 : 0 ≤ z := by omega
            go_wp2_with (go_at_call 57; (with_reducible refine (sz_Object _ HO.out y y0 y1).mono ?_); rintro e w' ⟨rfl, hb⟩; rw [HF.out.1]; have hB := on_of hbel hb; clear hb)
            go_roundw
            case rel => exact ⟨k + 1, z, by omega, by go_num, rfl, z0, hzl, HF.out.2.1, hB⟩
            case measure => simp [intOf]; omega
        · obtain rfl : k = n := by omega
          have HY := Lib.hid (show szv l (k + bulkL es) = y by rw [← hy, ← HN.out, List.take_length])
          clear hy
          go_wp2
          go_ret
          exact ⟨ret_int HY.out.symm, hbel⟩
set_option maxHeartbeats 4000000 in
theorem sz_Page (w : World) {A : Array Value} {ds : List Dt} (h : CameL w LPage A.toList ds) (l : Int) (l0 : 0 ≤ l) (l1 : l ≤ 1048576) :
    Calls Tryz.prog 5 #[.agg A, .int .i64 l] w fun e w' => e = .returned (.int .i64 (szv l (bulkL ds))) ∧ Below w.heap.size w w' := by
  obtain ⟨xG0, xa11, xc11, xa12, xc12, xD0, xs11, xs12, hA, rfl, ox0, ⟨ox11, mox11⟩, ⟨ox12, mox12⟩⟩ := invC_Page h
  have nxG0 : xG0.length = 11 := ox0.len
  have hbk : bulkL (xD0 ++ (.sl xs11 :: (.sl xs12 :: ([])))) = (((bulkL xD0) + (xs11.length + bulkL xs11)) + (xs12.length + bulkL xs12)) := by simp only [bulkL_app, bulkL, Dt.bulk]; omega
  rw [hbk]
  obtain ⟨y1, q1⟩ : ∃ x, szv l (bulkL xD0) = x := ⟨_, rfl⟩
  obtain ⟨y2, q2⟩ : ∃ x, szv y1 (xs11.length + bulkL xs11) = x := ⟨_, rfl⟩
  obtain ⟨y3, q3⟩ : ∃ x, szv y2 (xs12.length + bulkL xs12) = x := ⟨_, rfl⟩
  have BA : Blk (w.alloc (.cells A 33)) w.heap.size A.toList := Blk.new w A 33 rfl
  have hW : Below w.heap.size w (w.alloc (.cells A 33)) := by go_grown
  rw [hA] at BA
  have HO := Lib.hid (And.intro ox0 (And.intro ox11 ox12))
  have HA0 := Lib.hid BA
  have HW0 := Lib.hid hW
  by_cases c1 : y1 < 0
  · have t2 : szv l ((bulkL xD0) + (xs11.length + bulkL xs11)) = -1 := szv_neg l0 (by rw [q1]; omega)
    have t3 : szv l (((bulkL xD0) + (xs11.length + bulkL xs11)) + (xs12.length + bulkL xs12)) = -1 := szv_neg l0 (by rw [t2]; omega)
    have HZ := Lib.hid t3
    have ra := hload_run (P := Tryz.prog) (t := 29) Tryz.isAgg29 Tryz.sizeOf29 (w := w.alloc (.cells A 33)) (b := w.heap.size) (o := 0) (us := xG0) (Blk.part (P := []) HA0.out rfl) nxG0
    clear ox0 ox11 ox12 hA BA hW h hbk
    go_enter Tryz.func5, Tryz.ntmps5
    go_wp2_with fail
    ((with_reducible refine (sz_Graphics _ (ds := xD0) (by simpa using (HO.out.1).on HW0.out) l (by omega) (by omega)).mono ?_); rintro e w1 ⟨rfl, b1⟩)
    rw [q1]
    have HW1 := Lib.hid (on_of HW0.out b1)
    have HA1 := Lib.hid (HA0.out.keep b1)
    clear b1  ra
    clear q1 q2 q3
    go_wp2
    go_ret
    exact ⟨ret_int HZ.out.symm, HW1.out⟩
  · have d1 : 0 ≤ y1 := by omega
    have e1 : y1 ≤ 1048576 := by have := szv_le (a := (bulkL xD0)) (show 0 ≤ l by omega); rw [q1] at this; omega
    by_cases c2 : y2 < 0
    · have s2 : szv l ((bulkL xD0) + (xs11.length + bulkL xs11)) = y2 := by rw [← szv_add (by rw [q1]; omega), q1, q2]
      have t3 : szv l (((bulkL xD0) + (xs11.length + bulkL xs11)) + (xs12.length + bulkL xs12)) = -1 := szv_neg l0 (by rw [s2]; omega)
      have HZ := Lib.hid t3
      have ra := hload_run (P := Tryz.prog) (t := 29) Tryz.isAgg29 Tryz.sizeOf29 (w := w.alloc (.cells A 33)) (b := w.heap.size) (o := 0) (us := xG0) (Blk.part (P := []) HA0.out rfl) nxG0
      clear ox0 ox11 ox12 hA BA hW h hbk
      go_enter Tryz.func5, Tryz.ntmps5
      go_wp2_with fail
      ((with_reducible refine (sz_Graphics _ (ds := xD0) (by simpa using (HO.out.1).on HW0.out) l (by omega) (by omega)).mono ?_); rintro e w1 ⟨rfl, b1⟩)
      rw [q1]
      have HW1 := Lib.hid (on_of HW0.out b1)
      have HA1 := Lib.hid (HA0.out.keep b1)
      clear b1  ra
      have ca11 := HA1.out.1 11 (.slice xa11 xs11.length xc11) (by simp [nxG0])
      go_wp2_with fail
      ((with_reducible refine (sz_GraphicsS _ ((HO.out.2.1).on HW1.out) mox11 y1 (by omega) (by omega)).mono ?_); rintro e w2 ⟨rfl, b2⟩)
      rw [q2]
      have HW2 := Lib.hid (on_of HW1.out b2)
      have HA2 := Lib.hid (HA1.out.keep b2)
      clear b2 ca11
      clear q1 q2 q3
      go_wp2
      go_ret
      exact ⟨ret_int HZ.out.symm, HW2.out⟩
    · have d2 : 0 ≤ y2 := by omega
      have e2 : y2 ≤ 1048576 := by have := szv_le (a := (xs11.length + bulkL xs11)) (show 0 ≤ y1 by omega); rw [q2] at this; omega
      by_cases c3 : y3 < 0
      · have s2 : szv l ((bulkL xD0) + (xs11.length + bulkL xs11)) = y2 := by rw [← szv_add (by rw [q1]; omega), q1, q2]
        have s3 : szv l (((bulkL xD0) + (xs11.length + bulkL xs11)) + (xs12.length + bulkL xs12)) = y3 := by rw [← szv_add (by rw [s2]; omega), s2, q3]
        have u : y3 = -1 := by rw [← q3] at c3 ⊢; unfold szv at c3 ⊢; split at c3 <;> first | rfl | omega
        have HZ := Lib.hid (s3.trans u)
        clear u
        have ra := hload_run (P := Tryz.prog) (t := 29) Tryz.isAgg29 Tryz.sizeOf29 (w := w.alloc (.cells A 33)) (b := w.heap.size) (o := 0) (us := xG0) (Blk.part (P := []) HA0.out rfl) nxG0
        clear ox0 ox11 ox12 hA BA hW h hbk
        go_enter Tryz.func5, Tryz.ntmps5
        go_wp2_with fail
        ((with_reducible refine (sz_Graphics _ (ds := xD0) (by simpa using (HO.out.1).on HW0.out) l (by omega) (by omega)).mono ?_); rintro e w1 ⟨rfl, b1⟩)
        rw [q1]
        have HW1 := Lib.hid (on_of HW0.out b1)
        have HA1 := Lib.hid (HA0.out.keep b1)
        clear b1  ra
        have ca11 := HA1.out.1 11 (.slice xa11 xs11.length xc11) (by simp [nxG0])
        go_wp2_with fail
        ((with_reducible refine (sz_GraphicsS _ ((HO.out.2.1).on HW1.out) mox11 y1 (by omega) (by omega)).mono ?_); rintro e w2 ⟨rfl, b2⟩)
        rw [q2]
        have HW2 := Lib.hid (on_of HW1.out b2)
        have HA2 := Lib.hid (HA1.out.keep b2)
        clear b2 ca11
        have ca12 := HA2.out.1 12 (.slice xa12 xs12.length xc12) (by simp [nxG0])
        go_wp2_with fail
        ((with_reducible refine (sz_ObjectS _ ((HO.out.2.2).on HW2.out) mox12 y2 (by omega) (by omega)).mono ?_); rintro e w3 ⟨rfl, b3⟩)
        rw [q3]
        have HW3 := Lib.hid (on_of HW2.out b3)
        have HA3 := Lib.hid (HA2.out.keep b3)
        clear b3 ca12
        clear q1 q2 q3
        go_wp2
        go_ret
        exact ⟨ret_int HZ.out.symm, HW3.out⟩
      · have d3 : 0 ≤ y3 := by omega
        have e3 : y3 ≤ 1048576 := by have := szv_le (a := (xs12.length + bulkL xs12)) (show 0 ≤ y2 by omega); rw [q3] at this; omega
        have s2 : szv l ((bulkL xD0) + (xs11.length + bulkL xs11)) = y2 := by rw [← szv_add (by rw [q1]; omega), q1, q2]
        have s3 : szv l (((bulkL xD0) + (xs11.length + bulkL xs11)) + (xs12.length + bulkL xs12)) = y3 := by rw [← szv_add (by rw [s2]; omega), s2, q3]
        have HZ := Lib.hid s3
        have ra := hload_run (P := Tryz.prog) (t := 29) Tryz.isAgg29 Tryz.sizeOf29 (w := w.alloc (.cells A 33)) (b := w.heap.size) (o := 0) (us := xG0) (Blk.part (P := []) HA0.out rfl) nxG0
        clear ox0 ox11 ox12 hA BA hW h hbk
        go_enter Tryz.func5, Tryz.ntmps5
        go_wp2_with fail
        ((with_reducible refine (sz_Graphics _ (ds := xD0) (by simpa using (HO.out.1).on HW0.out) l (by omega) (by omega)).mono ?_); rintro e w1 ⟨rfl, b1⟩)
        rw [q1]
        have HW1 := Lib.hid (on_of HW0.out b1)
        have HA1 := Lib.hid (HA0.out.keep b1)
        clear b1  ra
        have ca11 := HA1.out.1 11 (.slice xa11 xs11.length xc11) (by simp [nxG0])
        go_wp2_with fail
        ((with_reducible refine (sz_GraphicsS _ ((HO.out.2.1).on HW1.out) mox11 y1 (by omega) (by omega)).mono ?_); rintro e w2 ⟨rfl, b2⟩)
        rw [q2]
        have HW2 := Lib.hid (on_of HW1.out b2)
        have HA2 := Lib.hid (HA1.out.keep b2)
        clear b2 ca11
        have ca12 := HA2.out.1 12 (.slice xa12 xs12.length xc12) (by simp [nxG0])
        go_wp2_with fail
        ((with_reducible refine (sz_ObjectS _ ((HO.out.2.2).on HW2.out) mox12 y2 (by omega) (by omega)).mono ?_); rintro e w3 ⟨rfl, b3⟩)
        rw [q3]
        have HW3 := Lib.hid (on_of HW2.out b3)
        have HA3 := Lib.hid (HA2.out.keep b3)
        clear b3 ca12
        clear q1 q2 q3
        go_wp2
        go_ret
        exact ⟨ret_int HZ.out.symm, HW3.out⟩
end Go.Proofs.YtjmfgbbngocodaaGreat.Own

namespace Go.Proofs.YtjmfgbbngocodaaGreat.Own
open Go.ChangeShapes Go.WideShapes Go.ChangeAt Go.RowKit
open Kit Slabs Ints Stack Point Turn Join Pts Box Push Take Opn SOp
set_option linter.unusedVariables false
set_option linter.unusedSimpArgs false
set_option linter.unnecessarySimpa false
set_option maxRecDepth 100000
attribute [local go_sem ↓] hload_Graphics hload_Object hstore_Graphics hstore_Object hload_Page hstore_Page
set_option maxHeartbeats 4000000 in
theorem sp_save {w : World} {B X : Nat} {P : Pg} (h : PgAt w B X P) (hB : B ≤ w.heap.size) (hX : B ≤ X) (hb : bulkL P.now.dt ≤ 1048576) (hl : P.saved.length ≤ 4) (s : ByteArray) (hk : opN s = some 7) (u : Value) :
    Calls Tryz.prog 32 #[.pointer (some ⟨X, 0, none⟩), .string s, u] w (OpRes B X (some (savM P)) w) := by
  obtain ⟨q0, q1, q2, q3, q4, q5, q6, q7, q8, q9, q10, q11⟩ := nm12 hk
  have H0 := Lib.hid h
  clear h hk
  go_enter Tryz.func32, Tryz.ntmps32
  go_wp2_with fail
  ((with_reducible refine (ident_spec _).mono ?_); rintro e w1 ⟨rfl, b1⟩)
  have bA : Below w.heap.size w (w1.alloc (.cells #[.int .i64 0, .int .i64 1, .int .i64 0, .int .i64 0] 38)) := b1.alloc b1.size _
  go_upto_region 7 with (fail)
  generalize w1.alloc (.cells #[.int .i64 0, .int .i64 1, .int .i64 0, .int .i64 0] 38) = V at bA ⊢
  have HBV := Lib.hid (bA.mono hB)
  have hBV : B ≤ V.heap.size := Nat.le_trans hB bA.size
  obtain ⟨a0, c0, f0, a5, c5, P5, a11, c11, P11, f11, a12, c12, P12, f12, h⟩ := (H0.out.on bA).flat
  clear b1 bA H0
  obtain ⟨fA, oA⟩ := h.now
  have h := h.opn
  obtain ⟨XG, hXG⟩ : ∃ XG, nowCells P a0 c0 a5 c5 = XG := ⟨_, rfl⟩
  obtain ⟨n, hN⟩ : ∃ n, P.saved.length = n := ⟨_, rfl⟩
  have oA' : OwnL V LGraphics XG.toArray.toList P.now.dt fA := by rw [← hXG]; simpa using oA
  rw [hXG] at h
  have HLen := Lib.hid h.len
  have HA := Lib.hid oA'
  have HN := Lib.hid hN
  have HK := Lib.hid (fun (W : World) (hb : Below V.heap.size V W) => (show W.cell? ⟨X, 11, none⟩ = some (.slice a11 n c11) from by rw [← hN]; exact (h.on hb).cell11))
  have HS9 := Lib.hid (fun (W : World) (hb : Below V.heap.size V W) => load_blk ((h.on hb).blk) h.len)
  have HR11 := Lib.hid (fun (W : World) (hb : Below V.heap.size V W) => (show W.ownsRow B 42 11 (.slice a11 n c11) n P11 from by rw [← hN]; exact row_on h.r11 hb))
  have HH := Lib.hid h
  have hXl := h.blk.2.2
  have kO := HK.out V (Below.refl _ _)
  rw [hN] at hl
  obtain ⟨A, hA⟩ : ∃ A, XG.toArray = A := ⟨_, rfl⟩
  rw [hA] at HA HS9
  clear h oA oA' hXG hN
  have hB := hBV
  refine wp_region_held_drew (S := fun w' => (hload 42 ⟨X, 0, none⟩).run Tryz.prog w' = .ok (.agg A) w') (by kernel_rfl) (HS9.out _ (by go_grown)) (fun hHeld => ?_)
  refine wpAnyH_take (i := 0) (oi := _) (v := ?_) rfl (by kernel_rfl) (by kernel_rfl) (by kernel_rfl) (fun _ _ _ h => h) (Or.inl ⟨by rfl, ?_⟩) (by assumption) ?_
  rotate_left
  · (intro w hSw; (try dsimp only at hSw); go_simp; try with_reducible rfl)
  try simp only [Act.put, List.setIfInBounds_toArray, List.set_cons_zero, List.set_cons_succ]
  refine wpAnyH_take (i := 1) (oi := _) (v := ?_) rfl (by kernel_rfl) (by kernel_rfl) (by kernel_rfl) (fun _ _ _ h => h) (Or.inl ⟨by rfl, ?_⟩) (by assumption) ?_
  rotate_left
  · (intro w hSw; (try dsimp only at hSw); go_simp; try with_reducible rfl)
  try simp only [Act.put, List.setIfInBounds_toArray, List.set_cons_zero, List.set_cons_succ]
  refine wpAnyH_take (i := 2) (oi := _) (v := ?_) rfl (by kernel_rfl) (by kernel_rfl) (by kernel_rfl) (fun _ _ _ h => h) (Or.inl ⟨by rfl, ?_⟩) (by assumption) ?_
  rotate_left
  · (intro w hSw; (try dsimp only at hSw); go_simp; try with_reducible rfl)
  try simp only [Act.put, List.setIfInBounds_toArray, List.set_cons_zero, List.set_cons_succ]
  refine wpAnyH_take (i := 3) (oi := _) (v := ?_) rfl (by kernel_rfl) (by kernel_rfl) (by kernel_rfl) (fun _ _ _ h => h) (Or.inl ⟨by rfl, ?_⟩) (by assumption) ?_
  rotate_left
  · (intro w hSw; (try dsimp only at hSw); go_simp; try with_reducible rfl)
  try simp only [Act.put, List.setIfInBounds_toArray, List.set_cons_zero, List.set_cons_succ]
  refine wpAnyH_take (i := 5) (oi := _) (v := ?_) rfl (by kernel_rfl) (by kernel_rfl) (by kernel_rfl) (fun _ _ _ h => h) (Or.inl ⟨by rfl, ?_⟩) (by assumption) ?_
  rotate_left
  · (intro w hSw; (try dsimp only at hSw); go_simp; try with_reducible rfl)
  try simp only [Act.put, List.setIfInBounds_toArray, List.set_cons_zero, List.set_cons_succ]
  refine wpAnyH_take (i := 6) (oi := _) (v := ?_) rfl (by kernel_rfl) (by kernel_rfl) (by kernel_rfl) (fun _ _ _ h => h) (Or.inl ⟨by rfl, ?_⟩) (by assumption) ?_
  rotate_left
  · (intro w hSw; (try dsimp only at hSw); go_simp; try with_reducible rfl)
  try simp only [Act.put, List.setIfInBounds_toArray, List.set_cons_zero, List.set_cons_succ]
  refine wpAnyH_take (i := 7) (oi := _) (v := ?_) rfl (by kernel_rfl) (by kernel_rfl) (by kernel_rfl) (fun _ _ _ h => h) (Or.inl ⟨by rfl, ?_⟩) (by assumption) ?_
  rotate_left
  · (intro w hSw; (try dsimp only at hSw); go_simp; try with_reducible rfl)
  try simp only [Act.put, List.setIfInBounds_toArray, List.set_cons_zero, List.set_cons_succ]
  refine wpAnyH_take (i := 8) (oi := _) (v := ?_) rfl (by kernel_rfl) (by kernel_rfl) (by kernel_rfl) (fun _ _ _ h => h) (Or.inl ⟨by rfl, ?_⟩) (by assumption) ?_
  rotate_left
  · (intro w hSw; (try dsimp only at hSw); go_simp; try with_reducible rfl)
  try simp only [Act.put, List.setIfInBounds_toArray, List.set_cons_zero, List.set_cons_succ]
  refine wpAnyH_ready (rs := [4, 9]) (by kernel_rfl) (by simp) ?_
  refine AllReadyH.cons (o := _) rfl (fun KK hKK => ?_) ?_
  · go_simp
    try go_wp2_with fail
    refine hKK.out _ _ ?_ (fun hHeld2 => ?_)
    · (try dsimp only); first | exact HS7b.out | exact HS7.out | exact HS9.out _ H5.out.2.2.2.1 | exact HS9.out _ ((H5.out.2.2.2.1).alloc (by omega) _) | exact HS9.out _ (by go_grown)
    refine wpAnyH_ready (rs := [9]) (by kernel_rfl) (by simp) ?_
    refine AllReadyH.cons (o := _) rfl (fun KK hKK => ?_) AllReadyH.nil
    (go_simp; go_at_call 62; (with_reducible refine (copy_Graphics V.drew hb (HA.out.under (show Below V.heap.size V V.drew from by go_grown))).mono ?_); rintro e w5 ⟨R, F0', rfl, gR, bb⟩; obtain ⟨r0, s0, r5, s5, eR⟩ := gR.cells; obtain ⟨F, oR, nR, sR⟩ := gR.own; have gF := (fun b hb => gR.ge b (sR b hb)); have bb := on_of (W := V) (by go_grown) bb; have gF' : ∀ b ∈ F, V.heap.size ≤ b := gF; clear gR sR; obtain rfl := arr_of eR; clear eR; have j11 := HK.out w5 bb; have z5 := bb.size; have lX5 : X < w5.heap.size := (by omega); have r5' := HR11.out w5 bb; have H5 := Lib.hid (And.intro oR (And.intro nR (And.intro gF' (And.intro bb r5')))); clear oR nR gF gF' bb r5')
    try go_wp2_with fail
    refine hKK.out _ _ ?_ (fun hHeld2 => ?_)
    · (try dsimp only); first | exact HS7b.out | exact HS7.out | exact HS9.out _ H5.out.2.2.2.1 | exact HS9.out _ ((H5.out.2.2.2.1).alloc (by omega) _) | exact HS9.out _ (by go_grown)
    refine wpAnyH_ready (rs := [10]) (by kernel_rfl) (by simp) ?_
    refine AllReadyH.cons (o := _) rfl (fun KK hKK => ?_) AllReadyH.nil
    go_simp
    try go_wp2_with fail
    refine hKK.out _ _ ?_ (fun hHeld2 => ?_)
    · (try dsimp only); first | exact HS7b.out | exact HS7.out | exact HS9.out _ H5.out.2.2.2.1 | exact HS9.out _ ((H5.out.2.2.2.1).alloc (by omega) _) | exact HS9.out _ (by go_grown)
    refine wpAnyH_ready (rs := [11]) (by kernel_rfl) (by simp) ?_
    refine AllReadyH.cons (o := _) rfl (fun KK hKK => ?_) AllReadyH.nil
    (refine step_append_sl et_grs rfl _ _ rfl B a11 n c11 P11 (by rfl) (H5.out.2.2.2.2.alloc _) (some ⟨w5.heap.size, 0, none⟩) 1 1 [.slice r0 P.now.st.length s0, .int .i64 P.now.q, .int .i64 P.now.s, .int .i64 P.now.dx, .int .i64 P.now.dy, .slice r5 P.now.path.length s5, .int .i64 P.now.gray, .int .i64 P.now.x0, .int .i64 P.now.y0, .int .i64 P.now.x1, .int .i64 P.now.y1] (by rfl) (by rfl) (Lies.new w5 _ _ rfl) (fun u hu => H5.out.1.one u hu) (by unfold maxLen; omega) (by omega) (by simp; omega) ?_; intro a' c' w7 r7 gr7 sub7; have hh := HH.out.save hB hX HN.out H5.out.2.2.2.1 H5.out.1 H5.out.2.1 H5.out.2.2.1 _ r7 gr7 sub7; have k7 := hh.1.1 11 (.slice a11 n c11) (by rw [List.getElem?_append_right (by have := HLen.out; omega)]; simp [HLen.out]); have f7 := hh.1.2.1; have HR := Lib.hid hh.2.2; have HS7 := Lib.hid (load_blk hh.1 HLen.out); have HS7b := Lib.hid (load_blk hh.2.1 HLen.out); rw [hA] at HS7 HS7b; clear hh r7 gr7 sub7)
    try go_wp2_with fail
    refine hKK.out _ _ ?_ (fun hHeld2 => ?_)
    · (try dsimp only); first | exact HS7b.out | exact HS7.out | exact HS9.out _ H5.out.2.2.2.1 | exact HS9.out _ ((H5.out.2.2.2.1).alloc (by omega) _) | exact HS9.out _ (by go_grown)
    refine wpAnyH_take (i := 12) (oi := _) (v := ?_) rfl (by kernel_rfl) (by kernel_rfl) (by kernel_rfl) (fun _ _ _ h => h) (Or.inl ⟨by rfl, ?_⟩) (by assumption) ?_
    rotate_left
    · (intro w hSw; (try dsimp only at hSw); go_simp; try with_reducible rfl)
    try simp only [Act.put, List.setIfInBounds_toArray, List.set_cons_zero, List.set_cons_succ]
    refine wpAnyH_take (i := 13) (oi := _) (v := ?_) rfl (by kernel_rfl) (by kernel_rfl) (by kernel_rfl) (fun _ _ _ h => h) (Or.inl ⟨by rfl, ?_⟩) (by assumption) ?_
    rotate_left
    · (intro w hSw; (try dsimp only at hSw); go_simp; try with_reducible rfl)
    try simp only [Act.put, List.setIfInBounds_toArray, List.set_cons_zero, List.set_cons_succ]
    refine wpAnyH_ready (rs := [14]) (by kernel_rfl) (by simp) ?_
    refine AllReadyH.cons (o := _) rfl (fun KK hKK => ?_) AllReadyH.nil
    go_simp
    try go_wp2_with fail
    refine hKK.out _ _ ?_ (fun hHeld2 => ?_)
    · (try dsimp only); first | exact HS7b.out | exact HS7.out | exact HS9.out _ H5.out.2.2.2.1 | exact HS9.out _ ((H5.out.2.2.2.1).alloc (by omega) _) | exact HS9.out _ (by go_grown)
    refine wpAnyH_done (by kernel_rfl) ?_ _
    go_wp2_with fail
    go_wp2
    go_ret
    exact HR.out.from HBV.out
  refine AllReadyH.cons (o := _) rfl (fun KK hKK => ?_) AllReadyH.nil
  (go_simp; go_at_call 62; (with_reducible refine (copy_Graphics V.drew hb (HA.out.under (show Below V.heap.size V V.drew from by go_grown))).mono ?_); rintro e w5 ⟨R, F0', rfl, gR, bb⟩; obtain ⟨r0, s0, r5, s5, eR⟩ := gR.cells; obtain ⟨F, oR, nR, sR⟩ := gR.own; have gF := (fun b hb => gR.ge b (sR b hb)); have bb := on_of (W := V) (by go_grown) bb; have gF' : ∀ b ∈ F, V.heap.size ≤ b := gF; clear gR sR; obtain rfl := arr_of eR; clear eR; have j11 := HK.out w5 bb; have z5 := bb.size; have lX5 : X < w5.heap.size := (by omega); have r5' := HR11.out w5 bb; have H5 := Lib.hid (And.intro oR (And.intro nR (And.intro gF' (And.intro bb r5')))); clear oR nR gF gF' bb r5')
  try go_wp2_with fail
  refine hKK.out _ _ ?_ (fun hHeld2 => ?_)
  · (try dsimp only); first | exact HS7b.out | exact HS7.out | exact HS9.out _ H5.out.2.2.2.1 | exact HS9.out _ ((H5.out.2.2.2.1).alloc (by omega) _) | exact HS9.out _ (by go_grown)
  refine wpAnyH_ready (rs := [4, 10]) (by kernel_rfl) (by simp) ?_
  refine AllReadyH.cons (o := _) rfl (fun KK hKK => ?_) ?_
  · go_simp
    try go_wp2_with fail
    refine hKK.out _ _ ?_ (fun hHeld2 => ?_)
    · (try dsimp only); first | exact HS7b.out | exact HS7.out | exact HS9.out _ H5.out.2.2.2.1 | exact HS9.out _ ((H5.out.2.2.2.1).alloc (by omega) _) | exact HS9.out _ (by go_grown)
    refine wpAnyH_ready (rs := [10]) (by kernel_rfl) (by simp) ?_
    refine AllReadyH.cons (o := _) rfl (fun KK hKK => ?_) AllReadyH.nil
    go_simp
    try go_wp2_with fail
    refine hKK.out _ _ ?_ (fun hHeld2 => ?_)
    · (try dsimp only); first | exact HS7b.out | exact HS7.out | exact HS9.out _ H5.out.2.2.2.1 | exact HS9.out _ ((H5.out.2.2.2.1).alloc (by omega) _) | exact HS9.out _ (by go_grown)
    refine wpAnyH_ready (rs := [11]) (by kernel_rfl) (by simp) ?_
    refine AllReadyH.cons (o := _) rfl (fun KK hKK => ?_) AllReadyH.nil
    (refine step_append_sl et_grs rfl _ _ rfl B a11 n c11 P11 (by rfl) (H5.out.2.2.2.2.alloc _) (some ⟨w5.heap.size, 0, none⟩) 1 1 [.slice r0 P.now.st.length s0, .int .i64 P.now.q, .int .i64 P.now.s, .int .i64 P.now.dx, .int .i64 P.now.dy, .slice r5 P.now.path.length s5, .int .i64 P.now.gray, .int .i64 P.now.x0, .int .i64 P.now.y0, .int .i64 P.now.x1, .int .i64 P.now.y1] (by rfl) (by rfl) (Lies.new w5 _ _ rfl) (fun u hu => H5.out.1.one u hu) (by unfold maxLen; omega) (by omega) (by simp; omega) ?_; intro a' c' w7 r7 gr7 sub7; have hh := HH.out.save hB hX HN.out H5.out.2.2.2.1 H5.out.1 H5.out.2.1 H5.out.2.2.1 _ r7 gr7 sub7; have k7 := hh.1.1 11 (.slice a11 n c11) (by rw [List.getElem?_append_right (by have := HLen.out; omega)]; simp [HLen.out]); have f7 := hh.1.2.1; have HR := Lib.hid hh.2.2; have HS7 := Lib.hid (load_blk hh.1 HLen.out); have HS7b := Lib.hid (load_blk hh.2.1 HLen.out); rw [hA] at HS7 HS7b; clear hh r7 gr7 sub7)
    try go_wp2_with fail
    refine hKK.out _ _ ?_ (fun hHeld2 => ?_)
    · (try dsimp only); first | exact HS7b.out | exact HS7.out | exact HS9.out _ H5.out.2.2.2.1 | exact HS9.out _ ((H5.out.2.2.2.1).alloc (by omega) _) | exact HS9.out _ (by go_grown)
    refine wpAnyH_take (i := 12) (oi := _) (v := ?_) rfl (by kernel_rfl) (by kernel_rfl) (by kernel_rfl) (fun _ _ _ h => h) (Or.inl ⟨by rfl, ?_⟩) (by assumption) ?_
    rotate_left
    · (intro w hSw; (try dsimp only at hSw); go_simp; try with_reducible rfl)
    try simp only [Act.put, List.setIfInBounds_toArray, List.set_cons_zero, List.set_cons_succ]
    refine wpAnyH_take (i := 13) (oi := _) (v := ?_) rfl (by kernel_rfl) (by kernel_rfl) (by kernel_rfl) (fun _ _ _ h => h) (Or.inl ⟨by rfl, ?_⟩) (by assumption) ?_
    rotate_left
    · (intro w hSw; (try dsimp only at hSw); go_simp; try with_reducible rfl)
    try simp only [Act.put, List.setIfInBounds_toArray, List.set_cons_zero, List.set_cons_succ]
    refine wpAnyH_ready (rs := [14]) (by kernel_rfl) (by simp) ?_
    refine AllReadyH.cons (o := _) rfl (fun KK hKK => ?_) AllReadyH.nil
    go_simp
    try go_wp2_with fail
    refine hKK.out _ _ ?_ (fun hHeld2 => ?_)
    · (try dsimp only); first | exact HS7b.out | exact HS7.out | exact HS9.out _ H5.out.2.2.2.1 | exact HS9.out _ ((H5.out.2.2.2.1).alloc (by omega) _) | exact HS9.out _ (by go_grown)
    refine wpAnyH_done (by kernel_rfl) ?_ _
    go_wp2_with fail
    go_wp2
    go_ret
    exact HR.out.from HBV.out
  refine AllReadyH.cons (o := _) rfl (fun KK hKK => ?_) AllReadyH.nil
  go_simp
  try go_wp2_with fail
  refine hKK.out _ _ ?_ (fun hHeld2 => ?_)
  · (try dsimp only); first | exact HS7b.out | exact HS7.out | exact HS9.out _ H5.out.2.2.2.1 | exact HS9.out _ ((H5.out.2.2.2.1).alloc (by omega) _) | exact HS9.out _ (by go_grown)
  refine wpAnyH_ready (rs := [4]) (by kernel_rfl) (by simp) ?_
  refine AllReadyH.cons (o := _) rfl (fun KK hKK => ?_) AllReadyH.nil
  go_simp
  try go_wp2_with fail
  refine hKK.out _ _ ?_ (fun hHeld2 => ?_)
  · (try dsimp only); first | exact HS7b.out | exact HS7.out | exact HS9.out _ H5.out.2.2.2.1 | exact HS9.out _ ((H5.out.2.2.2.1).alloc (by omega) _) | exact HS9.out _ (by go_grown)
  refine wpAnyH_ready (rs := [11]) (by kernel_rfl) (by simp) ?_
  refine AllReadyH.cons (o := _) rfl (fun KK hKK => ?_) AllReadyH.nil
  (refine step_append_sl et_grs rfl _ _ rfl B a11 n c11 P11 (by rfl) (H5.out.2.2.2.2.alloc _) (some ⟨w5.heap.size, 0, none⟩) 1 1 [.slice r0 P.now.st.length s0, .int .i64 P.now.q, .int .i64 P.now.s, .int .i64 P.now.dx, .int .i64 P.now.dy, .slice r5 P.now.path.length s5, .int .i64 P.now.gray, .int .i64 P.now.x0, .int .i64 P.now.y0, .int .i64 P.now.x1, .int .i64 P.now.y1] (by rfl) (by rfl) (Lies.new w5 _ _ rfl) (fun u hu => H5.out.1.one u hu) (by unfold maxLen; omega) (by omega) (by simp; omega) ?_; intro a' c' w7 r7 gr7 sub7; have hh := HH.out.save hB hX HN.out H5.out.2.2.2.1 H5.out.1 H5.out.2.1 H5.out.2.2.1 _ r7 gr7 sub7; have k7 := hh.1.1 11 (.slice a11 n c11) (by rw [List.getElem?_append_right (by have := HLen.out; omega)]; simp [HLen.out]); have f7 := hh.1.2.1; have HR := Lib.hid hh.2.2; have HS7 := Lib.hid (load_blk hh.1 HLen.out); have HS7b := Lib.hid (load_blk hh.2.1 HLen.out); rw [hA] at HS7 HS7b; clear hh r7 gr7 sub7)
  try go_wp2_with fail
  refine hKK.out _ _ ?_ (fun hHeld2 => ?_)
  · (try dsimp only); first | exact HS7b.out | exact HS7.out | exact HS9.out _ H5.out.2.2.2.1 | exact HS9.out _ ((H5.out.2.2.2.1).alloc (by omega) _) | exact HS9.out _ (by go_grown)
  refine wpAnyH_take (i := 12) (oi := _) (v := ?_) rfl (by kernel_rfl) (by kernel_rfl) (by kernel_rfl) (fun _ _ _ h => h) (Or.inl ⟨by rfl, ?_⟩) (by assumption) ?_
  rotate_left
  · (intro w hSw; (try dsimp only at hSw); go_simp; try with_reducible rfl)
  try simp only [Act.put, List.setIfInBounds_toArray, List.set_cons_zero, List.set_cons_succ]
  refine wpAnyH_take (i := 13) (oi := _) (v := ?_) rfl (by kernel_rfl) (by kernel_rfl) (by kernel_rfl) (fun _ _ _ h => h) (Or.inl ⟨by rfl, ?_⟩) (by assumption) ?_
  rotate_left
  · (intro w hSw; (try dsimp only at hSw); go_simp; try with_reducible rfl)
  try simp only [Act.put, List.setIfInBounds_toArray, List.set_cons_zero, List.set_cons_succ]
  refine wpAnyH_ready (rs := [14]) (by kernel_rfl) (by simp) ?_
  refine AllReadyH.cons (o := _) rfl (fun KK hKK => ?_) AllReadyH.nil
  go_simp
  try go_wp2_with fail
  refine hKK.out _ _ ?_ (fun hHeld2 => ?_)
  · (try dsimp only); first | exact HS7b.out | exact HS7.out | exact HS9.out _ H5.out.2.2.2.1 | exact HS9.out _ ((H5.out.2.2.2.1).alloc (by omega) _) | exact HS9.out _ (by go_grown)
  refine wpAnyH_done (by kernel_rfl) ?_ _
  go_wp2_with fail
  go_wp2
  go_ret
  exact HR.out.from HBV.out
end Go.Proofs.YtjmfgbbngocodaaGreat.Own

