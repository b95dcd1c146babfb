/-
  Texts of this seat, laid together: HdA, DepImpl
-/
import Derived.WalkKit
import Derived.Deep.DeepCutAuto
import Derived.Deep.QuietTactic
import Derived.BigQuiet
import Derived.Deep.RegionHeld3
import Derived.Handy
import Derived.Test.YtjmfgbbngocodaaGreatV09
import Derived.Test.YtjmfgbbngocodaaGreatV39
namespace Go.Proofs.YtjmfgbbngocodaaGreat.Own
open Go.ChangeShapes Go.WideShapes Go.ChangeAt Go.RowKit
open Kit Slabs Ints
set_option linter.unusedVariables false
set_option linter.unusedSimpArgs false
set_option linter.unnecessarySimpa false
set_option maxRecDepth 100000
set_option maxHeartbeats 8000000 in
theorem held_ObjectS (w : World) (N : Nat) {a : Option Addr} {n c : Nat} {es : List Dt} {fp fq : List Nat} {w0 : World} {v0 : Value} (hn : es.length + bulkL es ≤ 1048576) (h0 : 0 < N) (hN : N + cntL es ≤ 1000000000) (hs : Own w0 (.sl KObject) [v0] (.sl es) fq) (h : Own w (.sl KObject) [.slice a n c] (.sl (mkL es N)) fp) :
    Calls Tryz.prog 48 #[.slice a n c, .int .i64 (N : Int)] w fun e w' => e = .returned (.int .i64 ((N + cntL es : Nat) : Int)) ∧ Below w.heap.size w w' := by
  obtain ⟨hl, hr⟩ := h.row
  rw [mkL_length] at hl
  obtain ⟨hl0, _⟩ : es.length = n ∧ True := ⟨hl, trivial⟩
  by_cases hz : n = 0
  · subst hz
    have hes : es = [] := List.eq_nil_of_length_eq_zero hl
    subst hes
    clear h hr hs
    go_enter Tryz.func48, Tryz.ntmps48
    go_wp2
    go_rounds 1
    go_ret
    exact ⟨ret_int (by simp [cntL]), Below.refl _ _⟩
  · obtain ⟨g, rfl, _⟩ := hr hz
    have H := Lib.hid (And.intro h (And.intro hs hl))
    have hn1 : n ≤ 1048576 := by omega
    have HB := Lib.hid (And.intro hn hN)
    clear h hs hr hl hl0 hn hN
    go_enter Tryz.func48, Tryz.ntmps48
    go_wp2
    go_loopw [1, 5] (fun v1 i wr => ∃ k : Nat, k ≤ n ∧ i = .int .i64 (k : Int) ∧ v1 = .int .i64 ((N + cntL (es.take k) : Nat) : Int) ∧ Below w.heap.size w wr) (fun _ i _ => n - (intOf i).toNat)
    case atStart => exact ⟨0, Nat.zero_le _, rfl, by simp [cntL], Below.refl _ _⟩
    case round =>
      obtain ⟨k, hk, rfl, rfl, hbel⟩ := hrel
      by_cases hlt : k < n
      · have hke : k < es.length := by rw [H.out.2.2]; exact hlt
        have hkm : k < (mkL es N).length := by rw [mkL_length]; exact hke
        obtain ⟨hg, _, cs, ds, q, ed, od, ld, _, sd⟩ := H.out.1.elt hkm
        rw [mk_elt hke] at ed
        obtain ⟨v0a, v0n, v0c, hv0⟩ : ∃ a n c, v0 = .slice a n c := by cases H.out.2.1 <;> exact ⟨_, _, _, rfl⟩
        have hs1 := H.out.2.1
        rw [hv0] at hs1
        obtain ⟨e0, r0⟩ := hs1.row
        obtain ⟨g0, rfl, _⟩ := r0 (by omega)
        obtain ⟨_, _, cs0, ds0, q0, ed0, od0, _, _, _⟩ := hs1.elt hke
        have htk := take_cnt hke
        have hpart := cnt_parts es (k + 1)
        have hbk := bulk_elt hke
        rw [ed0] at ed htk hbk
        simp only [Dt.mk] at ed
        injection ed with ed
        subst ed
        obtain ⟨xa0, xc0, xs0, xx1_0, xx2_0, xx2_1, xx2_2, xx2_3, xF0, _, rfl, rfl, ox0⟩ := inv_Object od0
        obtain ⟨M0, hM0⟩ : ∃ M, N + cntL (es.take k) = M := ⟨_, rfl⟩
        rw [hM0] at od ⊢
        obtain ⟨M1, hM1⟩ : ∃ M, M0 + cntL xs0 = M := ⟨_, rfl⟩
        obtain ⟨M2, hM2⟩ : ∃ M, M1 + 1 = M := ⟨_, rfl⟩
        obtain ⟨M3, hM3⟩ : ∃ M, M2 + 1 = M := ⟨_, rfl⟩
        obtain ⟨M4, hM4⟩ : ∃ M, M3 + 1 = M := ⟨_, rfl⟩
        obtain ⟨M5, hM5⟩ : ∃ M, M4 + 1 = M := ⟨_, rfl⟩
        obtain ⟨M6, hM6⟩ : ∃ M, M5 + 1 = M := ⟨_, rfl⟩
        have hmk : mkL (.sl xs0 :: (.int xx1_0 :: (.int xx2_0 :: (.int xx2_1 :: (.int xx2_2 :: (.int xx2_3 :: ([]))))))) M0 = .sl (mkL xs0 M0) :: (.int ((M1 : Nat) : Int) :: (.int ((M2 : Nat) : Int) :: (.int ((M3 : Nat) : Int) :: (.int ((M4 : Nat) : Int) :: (.int ((M5 : Nat) : Int) :: ([])))))) := by simp only [mkL, Dt.mk, Dt.cnt, hM1, hM2, hM3, hM4, hM5, hM6]
        rw [hmk] at od
        have hM : N + cntL (es.take (k + 1)) = M6 := by rw [htk, ← Nat.add_assoc, hM0]; simp only [Dt.cnt, cntL]; omega
        simp only [Dt.bulk, bulkL] at hbk
        have hMb : M6 ≤ 1000000000 := by have := HB.out.2; omega
        have hMp : 0 < M0 := by omega
        obtain ⟨ya0, yc0, yF0, rfl, rfl, oy0⟩ := inv_Object_ od
        simp only [mkL_length] at sd oy0
        have HBK := Lib.hid hbk
        have u0 : xs0.length + bulkL xs0 ≤ 1048576 := by have := HB.out.1; omega
        have HS := Lib.hid sd
        have HE := Lib.hid (ox0)
        have HO := Lib.hid (oy0)
        have HM := Lib.hid hM
        have b0 : M0 ≤ 1000000000 := by omega
        have p0 : 0 < M0 := by omega
        have g1 : ¬ ((M1 : Int) < 0) := by omega
        have s0 : M0 + cntL xs0 ≤ 1000000000 := by omega
        have e2 : (M1 : Int) + 1 = (M2 : Int) := by omega
        have b1 : M1 ≤ 1000000000 := by omega
        have e3 : (M2 : Int) + 1 = (M3 : Int) := by omega
        have b2 : M2 ≤ 1000000000 := by omega
        have e4 : (M3 : Int) + 1 = (M4 : Int) := by omega
        have b3 : M3 ≤ 1000000000 := by omega
        have e5 : (M4 : Int) + 1 = (M5 : Int) := by omega
        have b4 : M4 ≤ 1000000000 := by omega
        have e6 : (M5 : Int) + 1 = (M6 : Int) := by omega
        have b5 : M5 ≤ 1000000000 := by omega
        have i0 : (0 : Int) ≤ (k : Int) := by omega
        have i1 : (k : Int) < (n : Int) := by omega
        clear od od0 hs1 r0 e0 htk hpart hmk hM hM0 hbk sd hke hkm ed0 ox0 oy0
        have HW0 := Lib.hid hbel
        have ca0 : wr.cell? ⟨g, k * 6, none⟩ = some (.slice ya0 xs0.length yc0) := HS.out wr HW0.out 0 _ rfl
        go_wp2_with fail
        ((with_reducible refine (held_PointS _ M0 u0 p0 s0 (HE.out) ((HO.out).under HW0.out)).mono ?_); rintro e w1 ⟨rfl, bb⟩)
        rw [hM1]
        have HW1 := Lib.hid (on_of HW0.out bb)
        clear bb ca0
        have ca1 : w1.cell? ⟨g, k * 6 + 1, none⟩ = some (.int .i64 (M1 : Int)) := HS.out w1 HW1.out 1 _ rfl
        have ca2 : w1.cell? ⟨g, k * 6 + 2, none⟩ = some (.int .i64 (M2 : Int)) := HS.out w1 HW1.out 2 _ rfl
        have ca3 : w1.cell? ⟨g, k * 6 + 3, none⟩ = some (.int .i64 (M3 : Int)) := HS.out w1 HW1.out 3 _ rfl
        have ca4 : w1.cell? ⟨g, k * 6 + 4, none⟩ = some (.int .i64 (M4 : Int)) := HS.out w1 HW1.out 4 _ rfl
        have ca5 : w1.cell? ⟨g, k * 6 + 5, none⟩ = some (.int .i64 (M5 : Int)) := HS.out w1 HW1.out 5 _ rfl
        have HWl := HW1.out
        go_wp2
        go_roundw
        case rel => exact ⟨k + 1, by omega, by go_num, by rw [HM.out], HWl⟩
        case measure => simp [intOf]; omega
      · obtain rfl : k = n := by omega
        have HY := Lib.hid (show es.take k = es by rw [← H.out.2.2, List.take_length])
        rw [HY.out]
        go_wp2
        go_ret
        exact ⟨rfl, hbel⟩
set_option maxHeartbeats 8000000 in
theorem held_GraphicsS (w : World) (N : Nat) {a : Option Addr} {n c : Nat} {es : List Dt} {fp fq : List Nat} {w0 : World} {v0 : Value} (hn : es.length + bulkL es ≤ 1048576) (h0 : 0 < N) (hN : N + cntL es ≤ 1000000000) (hs : Own w0 (.sl KGraphics) [v0] (.sl es) fq) (h : Own w (.sl KGraphics) [.slice a n c] (.sl (mkL es N)) fp) :
    Calls Tryz.prog 47 #[.slice a n c, .int .i64 (N : Int)] w fun e w' => e = .returned (.int .i64 ((N + cntL es : Nat) : Int)) ∧ Below w.heap.size w w' := by
  obtain ⟨hl, hr⟩ := h.row
  rw [mkL_length] at hl
  obtain ⟨hl0, _⟩ : es.length = n ∧ True := ⟨hl, trivial⟩
  by_cases hz : n = 0
  · subst hz
    have hes : es = [] := List.eq_nil_of_length_eq_zero hl
    subst hes
    clear h hr hs
    go_enter Tryz.func47, Tryz.ntmps47
    go_wp2
    go_rounds 1
    go_ret
    exact ⟨ret_int (by simp [cntL]), Below.refl _ _⟩
  · obtain ⟨g, rfl, _⟩ := hr hz
    have H := Lib.hid (And.intro h (And.intro hs hl))
    have hn1 : n ≤ 1048576 := by omega
    have HB := Lib.hid (And.intro hn hN)
    clear h hs hr hl hl0 hn hN
    go_enter Tryz.func47, Tryz.ntmps47
    go_wp2
    go_loopw [1, 5] (fun v1 i wr => ∃ k : Nat, k ≤ n ∧ i = .int .i64 (k : Int) ∧ v1 = .int .i64 ((N + cntL (es.take k) : Nat) : Int) ∧ Below w.heap.size w wr) (fun _ i _ => n - (intOf i).toNat)
    case atStart => exact ⟨0, Nat.zero_le _, rfl, by simp [cntL], Below.refl _ _⟩
    case round =>
      obtain ⟨k, hk, rfl, rfl, hbel⟩ := hrel
      by_cases hlt : k < n
      · have hke : k < es.length := by rw [H.out.2.2]; exact hlt
        have hkm : k < (mkL es N).length := by rw [mkL_length]; exact hke
        obtain ⟨hg, _, cs, ds, q, ed, od, ld, _, sd⟩ := H.out.1.elt hkm
        rw [mk_elt hke] at ed
        obtain ⟨v0a, v0n, v0c, hv0⟩ : ∃ a n c, v0 = .slice a n c := by cases H.out.2.1 <;> exact ⟨_, _, _, rfl⟩
        have hs1 := H.out.2.1
        rw [hv0] at hs1
        obtain ⟨e0, r0⟩ := hs1.row
        obtain ⟨g0, rfl, _⟩ := r0 (by omega)
        obtain ⟨_, _, cs0, ds0, q0, ed0, od0, _, _, _⟩ := hs1.elt hke
        have htk := take_cnt hke
        have hpart := cnt_parts es (k + 1)
        have hbk := bulk_elt hke
        rw [ed0] at ed htk hbk
        simp only [Dt.mk] at ed
        injection ed with ed
        subst ed
        obtain ⟨xa0, xc0, xa5, xc5, xs0, xx1_0, xx1_1, xx1_2, xx1_3, xs5, xx6_0, xx7_0, xx7_1, xx7_2, xx7_3, xF0, xF5, _, rfl, rfl, ox0, ox5⟩ := inv_Graphics od0
        obtain ⟨M0, hM0⟩ : ∃ M, N + cntL (es.take k) = M := ⟨_, rfl⟩
        rw [hM0] at od ⊢
        obtain ⟨M1, hM1⟩ : ∃ M, M0 + cntL xs0 = M := ⟨_, rfl⟩
        obtain ⟨M2, hM2⟩ : ∃ M, M1 + 1 = M := ⟨_, rfl⟩
        obtain ⟨M3, hM3⟩ : ∃ M, M2 + 1 = M := ⟨_, rfl⟩
        obtain ⟨M4, hM4⟩ : ∃ M, M3 + 1 = M := ⟨_, rfl⟩
        obtain ⟨M5, hM5⟩ : ∃ M, M4 + 1 = M := ⟨_, rfl⟩
        obtain ⟨M6, hM6⟩ : ∃ M, M5 + cntL xs5 = M := ⟨_, rfl⟩
        obtain ⟨M7, hM7⟩ : ∃ M, M6 + 1 = M := ⟨_, rfl⟩
        obtain ⟨M8, hM8⟩ : ∃ M, M7 + 1 = M := ⟨_, rfl⟩
        obtain ⟨M9, hM9⟩ : ∃ M, M8 + 1 = M := ⟨_, rfl⟩
        obtain ⟨M10, hM10⟩ : ∃ M, M9 + 1 = M := ⟨_, rfl⟩
        obtain ⟨M11, hM11⟩ : ∃ M, M10 + 1 = M := ⟨_, rfl⟩
        have hmk : mkL (.sl xs0 :: (.int xx1_0 :: (.int xx1_1 :: (.int xx1_2 :: (.int xx1_3 :: (.sl xs5 :: (.int xx6_0 :: (.int xx7_0 :: (.int xx7_1 :: (.int xx7_2 :: (.int xx7_3 :: ([])))))))))))) M0 = .sl (mkL xs0 M0) :: (.int ((M1 : Nat) : Int) :: (.int ((M2 : Nat) : Int) :: (.int ((M3 : Nat) : Int) :: (.int ((M4 : Nat) : Int) :: (.sl (mkL xs5 M5) :: (.int ((M6 : Nat) : Int) :: (.int ((M7 : Nat) : Int) :: (.int ((M8 : Nat) : Int) :: (.int ((M9 : Nat) : Int) :: (.int ((M10 : Nat) : Int) :: ([]))))))))))) := by simp only [mkL, Dt.mk, Dt.cnt, hM1, hM2, hM3, hM4, hM5, hM6, hM7, hM8, hM9, hM10, hM11]
        rw [hmk] at od
        have hM : N + cntL (es.take (k + 1)) = M11 := by rw [htk, ← Nat.add_assoc, hM0]; simp only [Dt.cnt, cntL]; omega
        simp only [Dt.bulk, bulkL] at hbk
        have hMb : M11 ≤ 1000000000 := by have := HB.out.2; omega
        have hMp : 0 < M0 := by omega
        obtain ⟨ya0, yc0, ya5, yc5, yF0, yF5, rfl, rfl, oy0, oy5⟩ := inv_Graphics_ od
        simp only [mkL_length] at sd oy0 oy5
        have HBK := Lib.hid hbk
        have u0 : xs0.length + bulkL xs0 ≤ 1048576 := by have := HB.out.1; omega
        have u1 : xs5.length + bulkL xs5 ≤ 1048576 := by have := HB.out.1; omega
        have HS := Lib.hid sd
        have HE := Lib.hid (And.intro ox0 ox5)
        have HO := Lib.hid (And.intro oy0 oy5)
        have HM := Lib.hid hM
        have b0 : M0 ≤ 1000000000 := by omega
        have p0 : 0 < M0 := by omega
        have g1 : ¬ ((M1 : Int) < 0) := by omega
        have s0 : M0 + cntL xs0 ≤ 1000000000 := by omega
        have e2 : (M1 : Int) + 1 = (M2 : Int) := by omega
        have b1 : M1 ≤ 1000000000 := by omega
        have e3 : (M2 : Int) + 1 = (M3 : Int) := by omega
        have b2 : M2 ≤ 1000000000 := by omega
        have e4 : (M3 : Int) + 1 = (M4 : Int) := by omega
        have b3 : M3 ≤ 1000000000 := by omega
        have e5 : (M4 : Int) + 1 = (M5 : Int) := by omega
        have b4 : M4 ≤ 1000000000 := by omega
        have b5 : M5 ≤ 1000000000 := by omega
        have p5 : 0 < M5 := by omega
        have g6 : ¬ ((M6 : Int) < 0) := by omega
        have s5 : M5 + cntL xs5 ≤ 1000000000 := by omega
        have e7 : (M6 : Int) + 1 = (M7 : Int) := by omega
        have b6 : M6 ≤ 1000000000 := by omega
        have e8 : (M7 : Int) + 1 = (M8 : Int) := by omega
        have b7 : M7 ≤ 1000000000 := by omega
        have e9 : (M8 : Int) + 1 = (M9 : Int) := by omega
        have b8 : M8 ≤ 1000000000 := by omega
        have e10 : (M9 : Int) + 1 = (M10 : Int) := by omega
        have b9 : M9 ≤ 1000000000 := by omega
        have e11 : (M10 : Int) + 1 = (M11 : Int) := by omega
        have b10 : M10 ≤ 1000000000 := by omega
        have i0 : (0 : Int) ≤ (k : Int) := by omega
        have i1 : (k : Int) < (n : Int) := by omega
        clear od od0 hs1 r0 e0 htk hpart hmk hM hM0 hbk sd hke hkm ed0 ox0 ox5 oy0 oy5
        have HW0 := Lib.hid hbel
        have ca0 : wr.cell? ⟨g, k * 11, none⟩ = some (.slice ya0 xs0.length yc0) := HS.out wr HW0.out 0 _ rfl
        go_wp2_with fail
        ((with_reducible refine (held_IntS _ M0 u0 p0 s0 (HE.out.1) ((HO.out.1).under HW0.out)).mono ?_); rintro e w1 ⟨rfl, bb⟩)
        rw [hM1]
        have HW1 := Lib.hid (on_of HW0.out bb)
        clear bb ca0
        have ca1 : w1.cell? ⟨g, k * 11 + 1, none⟩ = some (.int .i64 (M1 : Int)) := HS.out w1 HW1.out 1 _ rfl
        have ca2 : w1.cell? ⟨g, k * 11 + 2, none⟩ = some (.int .i64 (M2 : Int)) := HS.out w1 HW1.out 2 _ rfl
        have ca3 : w1.cell? ⟨g, k * 11 + 3, none⟩ = some (.int .i64 (M3 : Int)) := HS.out w1 HW1.out 3 _ rfl
        have ca4 : w1.cell? ⟨g, k * 11 + 4, none⟩ = some (.int .i64 (M4 : Int)) := HS.out w1 HW1.out 4 _ rfl
        have ca5 : w1.cell? ⟨g, k * 11 + 5, none⟩ = some (.slice ya5 xs5.length yc5) := HS.out w1 HW1.out 5 _ rfl
        go_wp2_with fail
        ((with_reducible refine (held_PointS _ M5 u1 p5 s5 (HE.out.2) ((HO.out.2).under HW1.out)).mono ?_); rintro e w2 ⟨rfl, bb⟩)
        rw [hM6]
        have HW2 := Lib.hid (on_of HW1.out bb)
        clear bb ca1 ca2 ca3 ca4 ca5
        have ca6 : w2.cell? ⟨g, k * 11 + 6, none⟩ = some (.int .i64 (M6 : Int)) := HS.out w2 HW2.out 6 _ rfl
        have ca7 : w2.cell? ⟨g, k * 11 + 7, none⟩ = some (.int .i64 (M7 : Int)) := HS.out w2 HW2.out 7 _ rfl
        have ca8 : w2.cell? ⟨g, k * 11 + 8, none⟩ = some (.int .i64 (M8 : Int)) := HS.out w2 HW2.out 8 _ rfl
        have ca9 : w2.cell? ⟨g, k * 11 + 9, none⟩ = some (.int .i64 (M9 : Int)) := HS.out w2 HW2.out 9 _ rfl
        have ca10 : w2.cell? ⟨g, k * 11 + 10, none⟩ = some (.int .i64 (M10 : Int)) := HS.out w2 HW2.out 10 _ rfl
        have HWl := HW2.out
        go_wp2
        go_roundw
        case rel => exact ⟨k + 1, by omega, by go_num, by rw [HM.out], HWl⟩
        case measure => simp [intOf]; omega
      · obtain rfl : k = n := by omega
        have HY := Lib.hid (show es.take k = es by rw [← H.out.2.2, List.take_length])
        rw [HY.out]
        go_wp2
        go_ret
        exact ⟨rfl, hbel⟩
end Go.Proofs.YtjmfgbbngocodaaGreat.Own

namespace Go.Proofs.YtjmfgbbngocodaaGreat.Impl
open Go.ChangeShapes Go.WideShapes Go.ChangeAt Go.RowKit
open Kit Scan Slabs Blk NameImpl
set_option linter.unusedVariables false
set_option linter.unusedSimpArgs false
set_option linter.unnecessarySimpa false
set_option maxRecDepth 100000
attribute [local go_sem ↓] run_mx run_mn
theorem times_impl (s : ByteArray) (n : Int) (w : World) : Calls Tryz.prog 165 #[.agg #[.string s, .int .i64 n]] w fun e w' => e = .returned (.bool (cntB (some (s, n)))) ∧ Below w.heap.size w w' := by
  have h3 : n < 0 ∨ (0 ≤ n ∧ n ≤ 9) ∨ 9 < n := by omega
  cases h : s.toList.isEmpty <;> rcases h3 with h1 | ⟨h1, h2⟩ | h1
  all_goals
    go_enter Tryz.func165, Tryz.ntmps165
    go_wp2
    go_ret
    exact ⟨ret_bool (by simp [cntB, h]; try omega), by go_grown⟩
theorem run_ge : ∀ (l : List Tok) (p : Option Tok) (d m M : Nat), run p d m l = some M → m ≤ M := by
  intro l
  induction l with
  | nil => intro p d m M h; simp only [run] at h; split at h <;> simp_all
  | cons t r ih =>
    intro p d m M h
    simp only [run] at h
    split at h
    · split at h
      · split at h
        · have := ih _ _ _ _ h; omega
        · cases h
      · split at h
        · split at h
          · cases h
          · exact ih _ _ _ _ h
        · exact ih _ _ _ _ h
    · cases h
theorem bd_deep {L : List Tok} {p : Option Tok} {d m : Nat} {l : List Tok} (h : run p d m l = run none 0 0 L) (h3 : 3 < m) : bdV L = -1 := by
  unfold bdV
  cases hr : run none 0 0 L with
  | none => split <;> rfl
  | some M =>
    have := run_ge _ _ _ _ _ (h.trans hr)
    split
    · simp; omega
    · rfl
set_option maxHeartbeats 4000000 in
theorem depth_impl (w : World) (v : Value) (L : List Tok) (hn : L.length ≤ 1048576) (hS : ∀ t ∈ L, t.1.size ≤ 281474976710656) (h : Rdt w v L) :
    Calls Tryz.prog 158 #[v] w fun e w' => e = .returned (.int .i64 (bdV L)) ∧ Below w.heap.size w w' := by
  obtain ⟨a, cap, rfl, hc, h⟩ := h
  by_cases hbig : (60 : Int) < (L.length : Int)
  · have hbd : bdV L = -1 := bd_long (by omega)
    clear h
    go_enter Tryz.func158, Tryz.ntmps158
    go_wp2
    go_ret
    exact ⟨by rw [hbd]; rfl, by go_grown⟩
  have hl60 : L.length ≤ 60 := by omega
  rcases h with rfl | ⟨g, o, rfl, hg, hcs⟩
  · go_enter Tryz.func158, Tryz.ntmps158
    go_wp2
    go_rounds 1
    go_ret
    exact ⟨rfl, Below.refl _ _⟩
  · have HC := Lib.hid (And.intro hcs hS)
    clear hcs hS
    go_enter Tryz.func158, Tryz.ntmps158
    go_wp2
    go_loopw [3, 4, 12] (fun v3 v4 v5 wr => ∃ k d m : Nat, k ≤ L.length ∧ v5 = .int .i64 (k : Int) ∧ v3 = .int .i64 (d : Int) ∧ v4 = .int .i64 (m : Int) ∧ d ≤ 3 ∧ m ≤ 3 ∧ d ≤ m ∧ run (prv L k) d m (L.drop k) = run none 0 0 L ∧ Below w.heap.size w wr) (fun _ _ v5 _ => L.length - (intOf v5).toNat)
    case atStart => exact ⟨0, 0, 0, Nat.zero_le _, rfl, rfl, rfl, by omega, by omega, Nat.le_refl _, rfl, Below.refl _ _⟩
    case round =>
      obtain ⟨k, d, m, hk, rfl, rfl, rfl, hd, hm, hdm, hrun, hbel⟩ := hrel
      have HR := Lib.hid hrun
      clear hrun
      by_cases hlt : k < L.length
      · have i0 : (0 : Int) ≤ (k : Int) := by omega
        have i1 : (k : Int) < (L.length : Int) := by omega
        obtain ⟨t, ht⟩ : ∃ t, L[k] = t := ⟨_, rfl⟩
        obtain ⟨s, q⟩ := t
        have hget : L[k]? = some (s, q) := by rw [List.getElem?_eq_getElem hlt, ht]
        have c0 : wr.cell? ⟨g, o + k * 2, none⟩ = some (.string s) := (hbel.cell (p := ⟨g, _, none⟩) hg).trans (HC.out.1 k s q hget).1
        have c1 : wr.cell? ⟨g, o + k * 2 + 1, none⟩ = some (.int .i64 q) := (hbel.cell (p := ⟨g, _, none⟩) hg).trans (HC.out.1 k s q hget).2
        have hSk : s.size ≤ 281474976710656 := HC.out.2 (s, q) (List.mem_of_getElem? hget)
        have hdr : L.drop k = (s, q) :: L.drop (k + 1) := by rw [drop_at hlt, ht]
        have hpv : prv L (k + 1) = some (s, q) := by rw [prv_succ hlt, ht]
        have HG := Lib.hid (And.intro hdr hpv)
        have hgl := Nat.lt_of_lt_of_le hg hbel.size
        clear hdr hpv ht hget
        cases htk : tkB s q
        · have hbd : bdV L = -1 := bd_none (by rw [← HR.out, HG.out.1]; exact run_bad htk)
          have HB := Lib.hid hbd
          clear hbd
          go_wp2_with (go_at_call 37; (with_reducible refine (tok_impl _ _ _ hSk).mono ?_); rintro e w' ⟨rfl, hb⟩; have hB := on_of (hbel.alloc hbel.size _) hb; have t0 := (bcell hb).1 wr.heap.size 0 (by simp); have t1 := (bcell hb).1 wr.heap.size 1 (by simp); simp only [World.cell?_alloc_new] at t0 t1; have hsw := hb.size; simp at hsw; clear hb)
          go_ret
          exact ⟨by rw [HB.out]; rfl, hB⟩
        · cases he : isEnd (s, q)
          · have ee : (s.toList == [101, 110, 100]) = false := he
            cases hr : isRep (s, q)
            · have er : (s.toList == [114, 101, 112, 101, 97, 116]) = false := hr
              have hnext : run (prv L (k + 1)) d m (L.drop (k + 1)) = run none 0 0 L := by rw [← HR.out, HG.out.1, HG.out.2]; exact (run_tok htk hr he).symm
              have HN := Lib.hid hnext
              have hmx : mx (m : Int) (d : Int) = (m : Int) := by unfold mx; omega
              have b1 : ¬ ((d : Int) < 0) := by omega
              have b2 : ¬ ((3 : Int) < (d : Int)) := by omega
              clear hnext hr he
              go_wp2_with (go_at_call 37; (with_reducible refine (tok_impl _ _ _ hSk).mono ?_); rintro e w' ⟨rfl, hb⟩; have hB := on_of (hbel.alloc hbel.size _) hb; have t0 := (bcell hb).1 wr.heap.size 0 (by simp); have t1 := (bcell hb).1 wr.heap.size 1 (by simp); simp only [World.cell?_alloc_new] at t0 t1; have hsw := hb.size; simp at hsw; clear hb)
              go_roundw
              case rel => exact ⟨k + 1, d, m, by omega, by go_num, rfl, by first | rw [hmx] | rfl, by omega, by omega, hdm, HN.out, hB⟩
              case measure => simp [intOf]; omega
            · have er : (s.toList == [114, 101, 112, 101, 97, 116]) = true := hr
              cases k with
              | zero =>
                have hbd : bdV L = -1 := bd_none (by rw [← HR.out, HG.out.1]; exact run_rep_no htk hr rfl)
                have HB := Lib.hid hbd
                clear hbd hr he
                simp only [Nat.zero_mul, Nat.add_zero] at c0 c1
                go_wp2_with (go_at_call 37; (with_reducible refine (tok_impl _ _ _ hSk).mono ?_); rintro e w' ⟨rfl, hb⟩; have hB := on_of (hbel.alloc hbel.size _) hb; have t0 := (bcell hb).1 wr.heap.size 0 (by simp); have t1 := (bcell hb).1 wr.heap.size 1 (by simp); simp only [World.cell?_alloc_new] at t0 t1; have hsw := hb.size; simp at hsw; clear hb)
                go_ret
                exact ⟨by rw [HB.out]; rfl, hB⟩
              | succ j =>
                have hj : j < L.length := by omega
                obtain ⟨u, hu⟩ : ∃ u, L[j] = u := ⟨_, rfl⟩
                obtain ⟨s2, q2⟩ := u
                have hget2 : L[j]? = some (s2, q2) := by rw [List.getElem?_eq_getElem hj, hu]
                have p0 : wr.cell? ⟨g, o + j * 2, none⟩ = some (.string s2) := (hbel.cell (p := ⟨g, _, none⟩) hg).trans (HC.out.1 j s2 q2 hget2).1
                have p1 : wr.cell? ⟨g, o + j * 2 + 1, none⟩ = some (.int .i64 q2) := (hbel.cell (p := ⟨g, _, none⟩) hg).trans (HC.out.1 j s2 q2 hget2).2
                have hpj : prv L (j + 1) = some (s2, q2) := by rw [prv_succ hj, hu]
                have HP := Lib.hid hpj
                have j0 : (0 : Int) ≤ (j : Int) := by omega
                have j1 : (j : Int) < (L.length : Int) := by omega
                have jz : ¬ (((j + 1 : Nat) : Int) = 0) := by omega
                clear hu hget2 hpj
                cases hcn : cntB (some (s2, q2))
                · have hbd : bdV L = -1 := bd_none (by rw [← HR.out, HG.out.1, HP.out]; exact run_rep_no htk hr hcn)
                  have HB := Lib.hid hbd
                  clear hbd hr he
                  go_wp2_with (first | (go_at_call 37; (with_reducible refine (tok_impl _ _ _ hSk).mono ?_); rintro e w' ⟨rfl, hb⟩; have hB := on_of (hbel.alloc hbel.size _) hb; have t0 := (bcell hb).1 wr.heap.size 0 (by simp); have t1 := (bcell hb).1 wr.heap.size 1 (by simp); simp only [World.cell?_alloc_new] at t0 t1; have hsw := hb.size; simp at hsw; have p0' := ((bcell hb).1 g (o + j * 2) (by simp; omega)).trans ((World.cell?_alloc_lt _ _ _ hgl).trans p0); have p1' := ((bcell hb).1 g (o + j * 2 + 1) (by simp; omega)).trans ((World.cell?_alloc_lt _ _ _ hgl).trans p1); clear hb) | (go_at_call 165; (with_reducible refine (times_impl _ _ _).mono ?_); rintro e w2 ⟨rfl, hb2⟩; rw [hcn]; have hB2 := on_of hB hb2; clear hb2))
                  go_ret
                  exact ⟨by rw [HB.out]; rfl, hB2⟩
                · have hnext : run (prv L (j + 1 + 1)) (d + 1) (max m (d + 1)) (L.drop (j + 1 + 1)) = run none 0 0 L := by rw [← HR.out, HG.out.1, HG.out.2, HP.out]; exact (run_rep htk hr hcn).symm
                  by_cases hd3 : (3 : Int) < (d : Int) + 1
                  · have hbd : bdV L = -1 := bd_deep hnext (by omega)
                    have HB := Lib.hid hbd
                    have b1 : ¬ ((d : Int) + 1 < 0) := by omega
                    clear hbd hr he hnext
                    go_wp2_with (first | (go_at_call 37; (with_reducible refine (tok_impl _ _ _ hSk).mono ?_); rintro e w' ⟨rfl, hb⟩; have hB := on_of (hbel.alloc hbel.size _) hb; have t0 := (bcell hb).1 wr.heap.size 0 (by simp); have t1 := (bcell hb).1 wr.heap.size 1 (by simp); simp only [World.cell?_alloc_new] at t0 t1; have hsw := hb.size; simp at hsw; have p0' := ((bcell hb).1 g (o + j * 2) (by simp; omega)).trans ((World.cell?_alloc_lt _ _ _ hgl).trans p0); have p1' := ((bcell hb).1 g (o + j * 2 + 1) (by simp; omega)).trans ((World.cell?_alloc_lt _ _ _ hgl).trans p1); clear hb) | (go_at_call 165; (with_reducible refine (times_impl _ _ _).mono ?_); rintro e w2 ⟨rfl, hb2⟩; rw [hcn]; have hB2 := on_of hB hb2; clear hb2))
                    go_ret
                    exact ⟨by rw [HB.out]; rfl, hB2⟩
                  · have HN := Lib.hid hnext
                    have hmx : mx (m : Int) ((d : Int) + 1) = ((max m (d + 1) : Nat) : Int) := by unfold mx; omega
                    have b1 : ¬ ((d : Int) + 1 < 0) := by omega
                    clear hnext hr he
                    go_wp2_with (first | (go_at_call 37; (with_reducible refine (tok_impl _ _ _ hSk).mono ?_); rintro e w' ⟨rfl, hb⟩; have hB := on_of (hbel.alloc hbel.size _) hb; have t0 := (bcell hb).1 wr.heap.size 0 (by simp); have t1 := (bcell hb).1 wr.heap.size 1 (by simp); simp only [World.cell?_alloc_new] at t0 t1; have hsw := hb.size; simp at hsw; have p0' := ((bcell hb).1 g (o + j * 2) (by simp; omega)).trans ((World.cell?_alloc_lt _ _ _ hgl).trans p0); have p1' := ((bcell hb).1 g (o + j * 2 + 1) (by simp; omega)).trans ((World.cell?_alloc_lt _ _ _ hgl).trans p1); clear hb) | (go_at_call 165; (with_reducible refine (times_impl _ _ _).mono ?_); rintro e w2 ⟨rfl, hb2⟩; rw [hcn]; have hB2 := on_of hB hb2; clear hb2))
                    go_roundw
                    case rel => exact ⟨j + 1 + 1, d + 1, max m (d + 1), by omega, by go_num, by go_num, by first | rw [hmx] | rfl, by omega, by omega, by omega, HN.out, hB2⟩
                    case measure => simp [intOf]; omega
          · have ee : (s.toList == [101, 110, 100]) = true := he
            have hr : isRep (s, q) = false := (end_name he).2
            cases d with
            | zero =>
              have hbd : bdV L = -1 := bd_none (by rw [← HR.out, HG.out.1]; exact run_end_no htk hr he)
              have HB := Lib.hid hbd
              clear hbd hr he
              go_wp2_with (go_at_call 37; (with_reducible refine (tok_impl _ _ _ hSk).mono ?_); rintro e w' ⟨rfl, hb⟩; have hB := on_of (hbel.alloc hbel.size _) hb; have t0 := (bcell hb).1 wr.heap.size 0 (by simp); have t1 := (bcell hb).1 wr.heap.size 1 (by simp); simp only [World.cell?_alloc_new] at t0 t1; have hsw := hb.size; simp at hsw; clear hb)
              go_ret
              exact ⟨by rw [HB.out]; rfl, hB⟩
            | succ d =>
              have hnext : run (prv L (k + 1)) d m (L.drop (k + 1)) = run none 0 0 L := by rw [← HR.out, HG.out.1, HG.out.2]; exact (run_end htk hr he).symm
              have HN := Lib.hid hnext
              have hmx : mx (m : Int) (((d + 1 : Nat) : Int) - 1) = (m : Int) := by unfold mx; omega
              have b1 : ¬ ((((d + 1 : Nat) : Int) - 1) < 0) := by omega
              have b2 : ¬ ((3 : Int) < (((d + 1 : Nat) : Int) - 1)) := by omega
              clear hnext hr he
              go_wp2_with (go_at_call 37; (with_reducible refine (tok_impl _ _ _ hSk).mono ?_); rintro e w' ⟨rfl, hb⟩; have hB := on_of (hbel.alloc hbel.size _) hb; have t0 := (bcell hb).1 wr.heap.size 0 (by simp); have t1 := (bcell hb).1 wr.heap.size 1 (by simp); simp only [World.cell?_alloc_new] at t0 t1; have hsw := hb.size; simp at hsw; clear hb)
              go_roundw
              case rel => exact ⟨k + 1, d, m, by omega, by go_num, by go_num, by first | rw [hmx] | (rw [show mx (m : Int) (d : Int) = (m : Int) by unfold mx; omega]) | rfl, by omega, by omega, by omega, HN.out, hB⟩
              case measure => simp [intOf]; omega
      · obtain rfl : k = L.length := by omega
        have hend : run none 0 0 L = if d = 0 then some m else none := by rw [← HR.out, List.drop_length]; simp only [run]
        cases d with
        | zero =>
          have hbd := bd_some hl60 (m := m) (by rw [hend]; rfl)
          have HB := Lib.hid hbd
          clear hbd hend
          go_wp2
          go_ret
          exact ⟨by rw [HB.out, if_pos (by omega)]; rfl, hbel⟩
        | succ d =>
          have hbd := bd_none (L := L) (by rw [hend]; rfl)
          have HB := Lib.hid hbd
          have hd0 : (0 : Int) < ((d + 1 : Nat) : Int) := by omega
          clear hbd hend
          go_wp2
          go_ret
          exact ⟨by rw [HB.out]; rfl, hbel⟩
theorem ok_impl (w : World) (v : Value) (L : List Tok) (hn : L.length ≤ 1048576) (hS : ∀ t ∈ L, t.1.size ≤ 281474976710656) (h : Rdt w v L) :
    Calls Tryz.prog 138 #[v] w fun e w' => e = .returned (.bool (decide (0 ≤ bdV L))) ∧ Below w.heap.size w w' := by
  have HD := Lib.hid (depth_impl w v L hn hS h)
  clear h hS
  go_enter Tryz.func138, Tryz.ntmps138
  go_wp2_with fail
  ((with_reducible refine HD.out.mono ?_); rintro e w1 ⟨rfl, hb⟩)
  go_wp2
  go_ret
  exact ⟨rfl, hb⟩
end Go.Proofs.YtjmfgbbngocodaaGreat.Impl

