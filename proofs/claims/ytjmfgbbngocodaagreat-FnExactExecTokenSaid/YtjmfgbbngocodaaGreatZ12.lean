/-
  Texts of this seat, laid together: HdA, ExT
-/
import Derived.WalkKit
import Derived.Deep.DeepCutAuto
import Derived.Deep.QuietTactic
import Derived.BigQuiet
import Derived.Deep.RegionHeld3
import Derived.Handy
import Derived.Laws.EntriesVeiled
import Derived.Test.YtjmfgbbngocodaaGreatZ09
import Derived.Test.YtjmfgbbngocodaaGreatZ27
namespace Go.Proofs.YtjmfgbbngocodaaGreat.Own
open Go.ChangeShapes Go.WideShapes Go.ChangeAt Go.RowKit
open Kit Slabs Ints
set_option linter.unusedVariables false
set_option linter.unusedSimpArgs false
set_option linter.unnecessarySimpa false
set_option maxRecDepth 100000
set_option maxHeartbeats 8000000 in
theorem held_ObjectS (w : World) (N : Nat) {a : Option Addr} {n c : Nat} {es : List Dt} {fp fq : List Nat} {w0 : World} {v0 : Value} (hn : es.length + bulkL es ≤ 1048576) (h0 : 0 < N) (hN : N + cntL es ≤ 1000000000) (hs : Own w0 (.sl KObject) [v0] (.sl es) fq) (h : Own w (.sl KObject) [.slice a n c] (.sl (mkL es N)) fp) :
    Calls Tryz.prog 48 #[.slice a n c, .int .i64 (N : Int)] w fun e w' => e = .returned (.int .i64 ((N + cntL es : Nat) : Int)) ∧ Below w.heap.size w w' := by
  obtain ⟨hl, hr⟩ := h.row
  rw [mkL_length] at hl
  obtain ⟨hl0, _⟩ : es.length = n ∧ True := ⟨hl, trivial⟩
  by_cases hz : n = 0
  · subst hz
    have hes : es = [] := List.eq_nil_of_length_eq_zero hl
    subst hes
    clear h hr hs
    go_enter Tryz.func48, Tryz.ntmps48
    go_wp2
    go_rounds 1
    go_ret
    exact ⟨ret_int (by simp [cntL]), Below.refl _ _⟩
  · obtain ⟨g, rfl, _⟩ := hr hz
    have H := Lib.hid (And.intro h (And.intro hs hl))
    have hn1 : n ≤ 1048576 := by omega
    have HB := Lib.hid (And.intro hn hN)
    clear h hs hr hl hl0 hn hN
    go_enter Tryz.func48, Tryz.ntmps48
    go_wp2
    go_loopw [1, 5] (fun v1 i wr => ∃ k : Nat, k ≤ n ∧ i = .int .i64 (k : Int) ∧ v1 = .int .i64 ((N + cntL (es.take k) : Nat) : Int) ∧ Below w.heap.size w wr) (fun _ i _ => n - (intOf i).toNat)
    case atStart => exact ⟨0, Nat.zero_le _, rfl, by simp [cntL], Below.refl _ _⟩
    case round =>
      obtain ⟨k, hk, rfl, rfl, hbel⟩ := hrel
      by_cases hlt : k < n
      · have hke : k < es.length := by rw [H.out.2.2]; exact hlt
        have hkm : k < (mkL es N).length := by rw [mkL_length]; exact hke
        obtain ⟨hg, _, cs, ds, q, ed, od, ld, _, sd⟩ := H.out.1.elt hkm
        rw [mk_elt hke] at ed
        obtain ⟨v0a, v0n, v0c, hv0⟩ : ∃ a n c, v0 = .slice a n c := by cases H.out.2.1 <;> exact ⟨_, _, _, rfl⟩
        have hs1 := H.out.2.1
        rw [hv0] at hs1
        obtain ⟨e0, r0⟩ := hs1.row
        obtain ⟨g0, rfl, _⟩ := r0 (by omega)
        obtain ⟨_, _, cs0, ds0, q0, ed0, od0, _, _, _⟩ := hs1.elt hke
        have htk := take_cnt hke
        have hpart := cnt_parts es (k + 1)
        have hbk := bulk_elt hke
        rw [ed0] at ed htk hbk
        simp only [Dt.mk] at ed
        injection ed with ed
        subst ed
        obtain ⟨xa0, xc0, xs0, xx1_0, xx2_0, xx2_1, xx2_2, xx2_3, xF0, _, rfl, rfl, ox0⟩ := inv_Object od0
        obtain ⟨M0, hM0⟩ : ∃ M, N + cntL (es.take k) = M := ⟨_, rfl⟩
        rw [hM0] at od ⊢
        obtain ⟨M1, hM1⟩ : ∃ M, M0 + cntL xs0 = M := ⟨_, rfl⟩
        obtain ⟨M2, hM2⟩ : ∃ M, M1 + 1 = M := ⟨_, rfl⟩
        obtain ⟨M3, hM3⟩ : ∃ M, M2 + 1 = M := ⟨_, rfl⟩
        obtain ⟨M4, hM4⟩ : ∃ M, M3 + 1 = M := ⟨_, rfl⟩
        obtain ⟨M5, hM5⟩ : ∃ M, M4 + 1 = M := ⟨_, rfl⟩
        obtain ⟨M6, hM6⟩ : ∃ M, M5 + 1 = M := ⟨_, rfl⟩
        have hmk : mkL (.sl xs0 :: (.int xx1_0 :: (.int xx2_0 :: (.int xx2_1 :: (.int xx2_2 :: (.int xx2_3 :: ([]))))))) M0 = .sl (mkL xs0 M0) :: (.int ((M1 : Nat) : Int) :: (.int ((M2 : Nat) : Int) :: (.int ((M3 : Nat) : Int) :: (.int ((M4 : Nat) : Int) :: (.int ((M5 : Nat) : Int) :: ([])))))) := by simp only [mkL, Dt.mk, Dt.cnt, hM1, hM2, hM3, hM4, hM5, hM6]
        rw [hmk] at od
        have hM : N + cntL (es.take (k + 1)) = M6 := by rw [htk, ← Nat.add_assoc, hM0]; simp only [Dt.cnt, cntL]; omega
        simp only [Dt.bulk, bulkL] at hbk
        have hMb : M6 ≤ 1000000000 := by have := HB.out.2; omega
        have hMp : 0 < M0 := by omega
        obtain ⟨ya0, yc0, yF0, rfl, rfl, oy0⟩ := inv_Object_ od
        simp only [mkL_length] at sd oy0
        have HBK := Lib.hid hbk
        have u0 : xs0.length + bulkL xs0 ≤ 1048576 := by have := HB.out.1; omega
        have HS := Lib.hid sd
        have HE := Lib.hid (ox0)
        have HO := Lib.hid (oy0)
        have HM := Lib.hid hM
        have b0 : M0 ≤ 1000000000 := by omega
        have p0 : 0 < M0 := by omega
        have g1 : ¬ ((M1 : Int) < 0) := by omega
        have s0 : M0 + cntL xs0 ≤ 1000000000 := by omega
        have e2 : (M1 : Int) + 1 = (M2 : Int) := by omega
        have b1 : M1 ≤ 1000000000 := by omega
        have e3 : (M2 : Int) + 1 = (M3 : Int) := by omega
        have b2 : M2 ≤ 1000000000 := by omega
        have e4 : (M3 : Int) + 1 = (M4 : Int) := by omega
        have b3 : M3 ≤ 1000000000 := by omega
        have e5 : (M4 : Int) + 1 = (M5 : Int) := by omega
        have b4 : M4 ≤ 1000000000 := by omega
        have e6 : (M5 : Int) + 1 = (M6 : Int) := by omega
        have b5 : M5 ≤ 1000000000 := by omega
        have i0 : (0 : Int) ≤ (k : Int) := by omega
        have i1 : (k : Int) < (n : Int) := by omega
        clear od od0 hs1 r0 e0 htk hpart hmk hM hM0 hbk sd hke hkm ed0 ox0 oy0
        have HW0 := Lib.hid hbel
        have ca0 : wr.cell? ⟨g, k * 6, none⟩ = some (.slice ya0 xs0.length yc0) := HS.out wr HW0.out 0 _ rfl
        go_wp2_with fail
        ((with_reducible refine (held_PointS _ M0 u0 p0 s0 (HE.out) ((HO.out).under HW0.out)).mono ?_); rintro e w1 ⟨rfl, bb⟩)
        rw [hM1]
        have HW1 := Lib.hid (on_of HW0.out bb)
        clear bb ca0
        have ca1 : w1.cell? ⟨g, k * 6 + 1, none⟩ = some (.int .i64 (M1 : Int)) := HS.out w1 HW1.out 1 _ rfl
        have ca2 : w1.cell? ⟨g, k * 6 + 2, none⟩ = some (.int .i64 (M2 : Int)) := HS.out w1 HW1.out 2 _ rfl
        have ca3 : w1.cell? ⟨g, k * 6 + 3, none⟩ = some (.int .i64 (M3 : Int)) := HS.out w1 HW1.out 3 _ rfl
        have ca4 : w1.cell? ⟨g, k * 6 + 4, none⟩ = some (.int .i64 (M4 : Int)) := HS.out w1 HW1.out 4 _ rfl
        have ca5 : w1.cell? ⟨g, k * 6 + 5, none⟩ = some (.int .i64 (M5 : Int)) := HS.out w1 HW1.out 5 _ rfl
        have HWl := HW1.out
        go_wp2
        go_roundw
        case rel => exact ⟨k + 1, by omega, by go_num, by rw [HM.out], HWl⟩
        case measure => simp [intOf]; omega
      · obtain rfl : k = n := by omega
        have HY := Lib.hid (show es.take k = es by rw [← H.out.2.2, List.take_length])
        rw [HY.out]
        go_wp2
        go_ret
        exact ⟨rfl, hbel⟩
set_option maxHeartbeats 8000000 in
theorem held_GraphicsS (w : World) (N : Nat) {a : Option Addr} {n c : Nat} {es : List Dt} {fp fq : List Nat} {w0 : World} {v0 : Value} (hn : es.length + bulkL es ≤ 1048576) (h0 : 0 < N) (hN : N + cntL es ≤ 1000000000) (hs : Own w0 (.sl KGraphics) [v0] (.sl es) fq) (h : Own w (.sl KGraphics) [.slice a n c] (.sl (mkL es N)) fp) :
    Calls Tryz.prog 47 #[.slice a n c, .int .i64 (N : Int)] w fun e w' => e = .returned (.int .i64 ((N + cntL es : Nat) : Int)) ∧ Below w.heap.size w w' := by
  obtain ⟨hl, hr⟩ := h.row
  rw [mkL_length] at hl
  obtain ⟨hl0, _⟩ : es.length = n ∧ True := ⟨hl, trivial⟩
  by_cases hz : n = 0
  · subst hz
    have hes : es = [] := List.eq_nil_of_length_eq_zero hl
    subst hes
    clear h hr hs
    go_enter Tryz.func47, Tryz.ntmps47
    go_wp2
    go_rounds 1
    go_ret
    exact ⟨ret_int (by simp [cntL]), Below.refl _ _⟩
  · obtain ⟨g, rfl, _⟩ := hr hz
    have H := Lib.hid (And.intro h (And.intro hs hl))
    have hn1 : n ≤ 1048576 := by omega
    have HB := Lib.hid (And.intro hn hN)
    clear h hs hr hl hl0 hn hN
    go_enter Tryz.func47, Tryz.ntmps47
    go_wp2
    go_loopw [1, 5] (fun v1 i wr => ∃ k : Nat, k ≤ n ∧ i = .int .i64 (k : Int) ∧ v1 = .int .i64 ((N + cntL (es.take k) : Nat) : Int) ∧ Below w.heap.size w wr) (fun _ i _ => n - (intOf i).toNat)
    case atStart => exact ⟨0, Nat.zero_le _, rfl, by simp [cntL], Below.refl _ _⟩
    case round =>
      obtain ⟨k, hk, rfl, rfl, hbel⟩ := hrel
      by_cases hlt : k < n
      · have hke : k < es.length := by rw [H.out.2.2]; exact hlt
        have hkm : k < (mkL es N).length := by rw [mkL_length]; exact hke
        obtain ⟨hg, _, cs, ds, q, ed, od, ld, _, sd⟩ := H.out.1.elt hkm
        rw [mk_elt hke] at ed
        obtain ⟨v0a, v0n, v0c, hv0⟩ : ∃ a n c, v0 = .slice a n c := by cases H.out.2.1 <;> exact ⟨_, _, _, rfl⟩
        have hs1 := H.out.2.1
        rw [hv0] at hs1
        obtain ⟨e0, r0⟩ := hs1.row
        obtain ⟨g0, rfl, _⟩ := r0 (by omega)
        obtain ⟨_, _, cs0, ds0, q0, ed0, od0, _, _, _⟩ := hs1.elt hke
        have htk := take_cnt hke
        have hpart := cnt_parts es (k + 1)
        have hbk := bulk_elt hke
        rw [ed0] at ed htk hbk
        simp only [Dt.mk] at ed
        injection ed with ed
        subst ed
        obtain ⟨xa0, xc0, xa5, xc5, xs0, xx1_0, xx1_1, xx1_2, xx1_3, xs5, xx6_0, xx7_0, xx7_1, xx7_2, xx7_3, xF0, xF5, _, rfl, rfl, ox0, ox5⟩ := inv_Graphics od0
        obtain ⟨M0, hM0⟩ : ∃ M, N + cntL (es.take k) = M := ⟨_, rfl⟩
        rw [hM0] at od ⊢
        obtain ⟨M1, hM1⟩ : ∃ M, M0 + cntL xs0 = M := ⟨_, rfl⟩
        obtain ⟨M2, hM2⟩ : ∃ M, M1 + 1 = M := ⟨_, rfl⟩
        obtain ⟨M3, hM3⟩ : ∃ M, M2 + 1 = M := ⟨_, rfl⟩
        obtain ⟨M4, hM4⟩ : ∃ M, M3 + 1 = M := ⟨_, rfl⟩
        obtain ⟨M5, hM5⟩ : ∃ M, M4 + 1 = M := ⟨_, rfl⟩
        obtain ⟨M6, hM6⟩ : ∃ M, M5 + cntL xs5 = M := ⟨_, rfl⟩
        obtain ⟨M7, hM7⟩ : ∃ M, M6 + 1 = M := ⟨_, rfl⟩
        obtain ⟨M8, hM8⟩ : ∃ M, M7 + 1 = M := ⟨_, rfl⟩
        obtain ⟨M9, hM9⟩ : ∃ M, M8 + 1 = M := ⟨_, rfl⟩
        obtain ⟨M10, hM10⟩ : ∃ M, M9 + 1 = M := ⟨_, rfl⟩
        obtain ⟨M11, hM11⟩ : ∃ M, M10 + 1 = M := ⟨_, rfl⟩
        have hmk : mkL (.sl xs0 :: (.int xx1_0 :: (.int xx1_1 :: (.int xx1_2 :: (.int xx1_3 :: (.sl xs5 :: (.int xx6_0 :: (.int xx7_0 :: (.int xx7_1 :: (.int xx7_2 :: (.int xx7_3 :: ([])))))))))))) M0 = .sl (mkL xs0 M0) :: (.int ((M1 : Nat) : Int) :: (.int ((M2 : Nat) : Int) :: (.int ((M3 : Nat) : Int) :: (.int ((M4 : Nat) : Int) :: (.sl (mkL xs5 M5) :: (.int ((M6 : Nat) : Int) :: (.int ((M7 : Nat) : Int) :: (.int ((M8 : Nat) : Int) :: (.int ((M9 : Nat) : Int) :: (.int ((M10 : Nat) : Int) :: ([]))))))))))) := by simp only [mkL, Dt.mk, Dt.cnt, hM1, hM2, hM3, hM4, hM5, hM6, hM7, hM8, hM9, hM10, hM11]
        rw [hmk] at od
        have hM : N + cntL (es.take (k + 1)) = M11 := by rw [htk, ← Nat.add_assoc, hM0]; simp only [Dt.cnt, cntL]; omega
        simp only [Dt.bulk, bulkL] at hbk
        have hMb : M11 ≤ 1000000000 := by have := HB.out.2; omega
        have hMp : 0 < M0 := by omega
        obtain ⟨ya0, yc0, ya5, yc5, yF0, yF5, rfl, rfl, oy0, oy5⟩ := inv_Graphics_ od
        simp only [mkL_length] at sd oy0 oy5
        have HBK := Lib.hid hbk
        have u0 : xs0.length + bulkL xs0 ≤ 1048576 := by have := HB.out.1; omega
        have u1 : xs5.length + bulkL xs5 ≤ 1048576 := by have := HB.out.1; omega
        have HS := Lib.hid sd
        have HE := Lib.hid (And.intro ox0 ox5)
        have HO := Lib.hid (And.intro oy0 oy5)
        have HM := Lib.hid hM
        have b0 : M0 ≤ 1000000000 := by omega
        have p0 : 0 < M0 := by omega
        have g1 : ¬ ((M1 : Int) < 0) := by omega
        have s0 : M0 + cntL xs0 ≤ 1000000000 := by omega
        have e2 : (M1 : Int) + 1 = (M2 : Int) := by omega
        have b1 : M1 ≤ 1000000000 := by omega
        have e3 : (M2 : Int) + 1 = (M3 : Int) := by omega
        have b2 : M2 ≤ 1000000000 := by omega
        have e4 : (M3 : Int) + 1 = (M4 : Int) := by omega
        have b3 : M3 ≤ 1000000000 := by omega
        have e5 : (M4 : Int) + 1 = (M5 : Int) := by omega
        have b4 : M4 ≤ 1000000000 := by omega
        have b5 : M5 ≤ 1000000000 := by omega
        have p5 : 0 < M5 := by omega
        have g6 : ¬ ((M6 : Int) < 0) := by omega
        have s5 : M5 + cntL xs5 ≤ 1000000000 := by omega
        have e7 : (M6 : Int) + 1 = (M7 : Int) := by omega
        have b6 : M6 ≤ 1000000000 := by omega
        have e8 : (M7 : Int) + 1 = (M8 : Int) := by omega
        have b7 : M7 ≤ 1000000000 := by omega
        have e9 : (M8 : Int) + 1 = (M9 : Int) := by omega
        have b8 : M8 ≤ 1000000000 := by omega
        have e10 : (M9 : Int) + 1 = (M10 : Int) := by omega
        have b9 : M9 ≤ 1000000000 := by omega
        have e11 : (M10 : Int) + 1 = (M11 : Int) := by omega
        have b10 : M10 ≤ 1000000000 := by omega
        have i0 : (0 : Int) ≤ (k : Int) := by omega
        have i1 : (k : Int) < (n : Int) := by omega
        clear od od0 hs1 r0 e0 htk hpart hmk hM hM0 hbk sd hke hkm ed0 ox0 ox5 oy0 oy5
        have HW0 := Lib.hid hbel
        have ca0 : wr.cell? ⟨g, k * 11, none⟩ = some (.slice ya0 xs0.length yc0) := HS.out wr HW0.out 0 _ rfl
        go_wp2_with fail
        ((with_reducible refine (held_IntS _ M0 u0 p0 s0 (HE.out.1) ((HO.out.1).under HW0.out)).mono ?_); rintro e w1 ⟨rfl, bb⟩)
        rw [hM1]
        have HW1 := Lib.hid (on_of HW0.out bb)
        clear bb ca0
        have ca1 : w1.cell? ⟨g, k * 11 + 1, none⟩ = some (.int .i64 (M1 : Int)) := HS.out w1 HW1.out 1 _ rfl
        have ca2 : w1.cell? ⟨g, k * 11 + 2, none⟩ = some (.int .i64 (M2 : Int)) := HS.out w1 HW1.out 2 _ rfl
        have ca3 : w1.cell? ⟨g, k * 11 + 3, none⟩ = some (.int .i64 (M3 : Int)) := HS.out w1 HW1.out 3 _ rfl
        have ca4 : w1.cell? ⟨g, k * 11 + 4, none⟩ = some (.int .i64 (M4 : Int)) := HS.out w1 HW1.out 4 _ rfl
        have ca5 : w1.cell? ⟨g, k * 11 + 5, none⟩ = some (.slice ya5 xs5.length yc5) := HS.out w1 HW1.out 5 _ rfl
        go_wp2_with fail
        ((with_reducible refine (held_PointS _ M5 u1 p5 s5 (HE.out.2) ((HO.out.2).under HW1.out)).mono ?_); rintro e w2 ⟨rfl, bb⟩)
        rw [hM6]
        have HW2 := Lib.hid (on_of HW1.out bb)
        clear bb ca1 ca2 ca3 ca4 ca5
        have ca6 : w2.cell? ⟨g, k * 11 + 6, none⟩ = some (.int .i64 (M6 : Int)) := HS.out w2 HW2.out 6 _ rfl
        have ca7 : w2.cell? ⟨g, k * 11 + 7, none⟩ = some (.int .i64 (M7 : Int)) := HS.out w2 HW2.out 7 _ rfl
        have ca8 : w2.cell? ⟨g, k * 11 + 8, none⟩ = some (.int .i64 (M8 : Int)) := HS.out w2 HW2.out 8 _ rfl
        have ca9 : w2.cell? ⟨g, k * 11 + 9, none⟩ = some (.int .i64 (M9 : Int)) := HS.out w2 HW2.out 9 _ rfl
        have ca10 : w2.cell? ⟨g, k * 11 + 10, none⟩ = some (.int .i64 (M10 : Int)) := HS.out w2 HW2.out 10 _ rfl
        have HWl := HW2.out
        go_wp2
        go_roundw
        case rel => exact ⟨k + 1, by omega, by go_num, by rw [HM.out], HWl⟩
        case measure => simp [intOf]; omega
      · obtain rfl : k = n := by omega
        have HY := Lib.hid (show es.take k = es by rw [← H.out.2.2, List.take_length])
        rw [HY.out]
        go_wp2
        go_ret
        exact ⟨rfl, hbel⟩
end Go.Proofs.YtjmfgbbngocodaaGreat.Own

namespace Go.Proofs.YtjmfgbbngocodaaGreat.Own
open Go.ChangeShapes Go.WideShapes Go.ChangeAt Go.RowKit
open Kit Slabs Ints Stack Impl
set_option linter.unusedVariables false
set_option linter.unusedSimpArgs false
set_option linter.unnecessarySimpa false
set_option maxRecDepth 100000
def opN (s : ByteArray) : Option Nat :=
  if s.toList == [110, 101, 119] then some 0
  else if s.toList == [109, 111, 118, 101, 116, 111] then some 1
  else if s.toList == [108, 105, 110, 101, 116, 111] then some 2
  else if s.toList == [114, 101, 99, 116] then some 3
  else if s.toList == [102, 105, 108, 108] then some 4
  else if s.toList == [103, 114, 97, 121] then some 5
  else if s.toList == [99, 108, 105, 112] then some 6
  else if s.toList == [115, 97, 118, 101] then some 7
  else if s.toList == [114, 101, 115, 116, 111, 114, 101] then some 8
  else if s.toList == [115, 104, 105, 102, 116] then some 9
  else if s.toList == [116, 117, 114, 110] then some 10
  else if s.toList == [115, 99, 97, 108, 101] then some 11
  else none
def opK : Nat → Nat
  | 0 => 0
  | 1 => 2
  | 2 => 2
  | 3 => 4
  | 4 => 0
  | 5 => 1
  | 6 => 0
  | 7 => 0
  | 8 => 0
  | 9 => 2
  | 10 => 1
  | 11 => 1
  | _ => 0
def opF : Nat → FuncId
  | 0 => 122
  | 1 => 123
  | 2 => 124
  | 3 => 125
  | 4 => 126
  | 5 => 127
  | 6 => 128
  | 7 => 129
  | 8 => 130
  | 9 => 131
  | 10 => 133
  | 11 => 134
  | _ => 0
def oent : Nat → MapEntry
  | 0 => { key := .string ⟨#[110, 101, 119]⟩, val := .agg #[.int .i64 0, .func (.func 122) #[] #[]], born := 0 }
  | 1 => { key := .string ⟨#[109, 111, 118, 101, 116, 111]⟩, val := .agg #[.int .i64 2, .func (.func 123) #[] #[]], born := 1 }
  | 2 => { key := .string ⟨#[108, 105, 110, 101, 116, 111]⟩, val := .agg #[.int .i64 2, .func (.func 124) #[] #[]], born := 2 }
  | 3 => { key := .string ⟨#[114, 101, 99, 116]⟩, val := .agg #[.int .i64 4, .func (.func 125) #[] #[]], born := 3 }
  | 4 => { key := .string ⟨#[102, 105, 108, 108]⟩, val := .agg #[.int .i64 0, .func (.func 126) #[] #[]], born := 4 }
  | 5 => { key := .string ⟨#[103, 114, 97, 121]⟩, val := .agg #[.int .i64 1, .func (.func 127) #[] #[]], born := 5 }
  | 6 => { key := .string ⟨#[99, 108, 105, 112]⟩, val := .agg #[.int .i64 0, .func (.func 128) #[] #[]], born := 6 }
  | 7 => { key := .string ⟨#[115, 97, 118, 101]⟩, val := .agg #[.int .i64 0, .func (.func 129) #[] #[]], born := 7 }
  | 8 => { key := .string ⟨#[114, 101, 115, 116, 111, 114, 101]⟩, val := .agg #[.int .i64 0, .func (.func 130) #[] #[]], born := 8 }
  | 9 => { key := .string ⟨#[115, 104, 105, 102, 116]⟩, val := .agg #[.int .i64 2, .func (.func 131) #[] #[]], born := 9 }
  | 10 => { key := .string ⟨#[116, 117, 114, 110]⟩, val := .agg #[.int .i64 1, .func (.func 133) #[] #[]], born := 10 }
  | _ => { key := .string ⟨#[115, 99, 97, 108, 101]⟩, val := .agg #[.int .i64 1, .func (.func 134) #[] #[]], born := 11 }
def otab : Array MapEntry := #[oent 0, oent 1, oent 2, oent 3, oent 4, oent 5, oent 6, oent 7, oent 8, oent 9, oent 10, oent 11]
set_option maxHeartbeats 4000000 in
theorem otab_any (w : World) : Calls Tryz.prog 87 #[] w fun e w' => e = .returned (.map (some w.heap.size)) ∧ w' = w.alloc (.map #[oent 0, oent 1, oent 2, oent 3, oent 4, oent 5, oent 6, oent 7, oent 8, oent 9, oent 10, oent 11] 12) := by
  have hmm := @run_makeMap Tryz.prog
  have h0 : (Instr.mapUpdate 130 (.map (some w.heap.size)) (.string ⟨#[110, 101, 119]⟩) (.agg #[.int .i64 0, .func (.func 122) #[] #[]])).run Tryz.prog (w.alloc (.map #[] 0)) = .ok () (w.alloc (.map #[oent 0] 1)) := Tab.run_ins Tryz.underlying130 Tryz.underlying9 w #[] 0 _ _ (by kernel_rfl)
  have h1 : (Instr.mapUpdate 130 (.map (some w.heap.size)) (.string ⟨#[109, 111, 118, 101, 116, 111]⟩) (.agg #[.int .i64 2, .func (.func 123) #[] #[]])).run Tryz.prog (w.alloc (.map #[oent 0] 1)) = .ok () (w.alloc (.map #[oent 0, oent 1] 2)) := Tab.run_ins Tryz.underlying130 Tryz.underlying9 w #[oent 0] 1 _ _ (by kernel_rfl)
  have h2 : (Instr.mapUpdate 130 (.map (some w.heap.size)) (.string ⟨#[108, 105, 110, 101, 116, 111]⟩) (.agg #[.int .i64 2, .func (.func 124) #[] #[]])).run Tryz.prog (w.alloc (.map #[oent 0, oent 1] 2)) = .ok () (w.alloc (.map #[oent 0, oent 1, oent 2] 3)) := Tab.run_ins Tryz.underlying130 Tryz.underlying9 w #[oent 0, oent 1] 2 _ _ (by kernel_rfl)
  have h3 : (Instr.mapUpdate 130 (.map (some w.heap.size)) (.string ⟨#[114, 101, 99, 116]⟩) (.agg #[.int .i64 4, .func (.func 125) #[] #[]])).run Tryz.prog (w.alloc (.map #[oent 0, oent 1, oent 2] 3)) = .ok () (w.alloc (.map #[oent 0, oent 1, oent 2, oent 3] 4)) := Tab.run_ins Tryz.underlying130 Tryz.underlying9 w #[oent 0, oent 1, oent 2] 3 _ _ (by kernel_rfl)
  have h4 : (Instr.mapUpdate 130 (.map (some w.heap.size)) (.string ⟨#[102, 105, 108, 108]⟩) (.agg #[.int .i64 0, .func (.func 126) #[] #[]])).run Tryz.prog (w.alloc (.map #[oent 0, oent 1, oent 2, oent 3] 4)) = .ok () (w.alloc (.map #[oent 0, oent 1, oent 2, oent 3, oent 4] 5)) := Tab.run_ins Tryz.underlying130 Tryz.underlying9 w #[oent 0, oent 1, oent 2, oent 3] 4 _ _ (by kernel_rfl)
  have h5 : (Instr.mapUpdate 130 (.map (some w.heap.size)) (.string ⟨#[103, 114, 97, 121]⟩) (.agg #[.int .i64 1, .func (.func 127) #[] #[]])).run Tryz.prog (w.alloc (.map #[oent 0, oent 1, oent 2, oent 3, oent 4] 5)) = .ok () (w.alloc (.map #[oent 0, oent 1, oent 2, oent 3, oent 4, oent 5] 6)) := Tab.run_ins Tryz.underlying130 Tryz.underlying9 w #[oent 0, oent 1, oent 2, oent 3, oent 4] 5 _ _ (by kernel_rfl)
  have h6 : (Instr.mapUpdate 130 (.map (some w.heap.size)) (.string ⟨#[99, 108, 105, 112]⟩) (.agg #[.int .i64 0, .func (.func 128) #[] #[]])).run Tryz.prog (w.alloc (.map #[oent 0, oent 1, oent 2, oent 3, oent 4, oent 5] 6)) = .ok () (w.alloc (.map #[oent 0, oent 1, oent 2, oent 3, oent 4, oent 5, oent 6] 7)) := Tab.run_ins Tryz.underlying130 Tryz.underlying9 w #[oent 0, oent 1, oent 2, oent 3, oent 4, oent 5] 6 _ _ (by kernel_rfl)
  have h7 : (Instr.mapUpdate 130 (.map (some w.heap.size)) (.string ⟨#[115, 97, 118, 101]⟩) (.agg #[.int .i64 0, .func (.func 129) #[] #[]])).run Tryz.prog (w.alloc (.map #[oent 0, oent 1, oent 2, oent 3, oent 4, oent 5, oent 6] 7)) = .ok () (w.alloc (.map #[oent 0, oent 1, oent 2, oent 3, oent 4, oent 5, oent 6, oent 7] 8)) := Tab.run_ins Tryz.underlying130 Tryz.underlying9 w #[oent 0, oent 1, oent 2, oent 3, oent 4, oent 5, oent 6] 7 _ _ (by kernel_rfl)
  have h8 : (Instr.mapUpdate 130 (.map (some w.heap.size)) (.string ⟨#[114, 101, 115, 116, 111, 114, 101]⟩) (.agg #[.int .i64 0, .func (.func 130) #[] #[]])).run Tryz.prog (w.alloc (.map #[oent 0, oent 1, oent 2, oent 3, oent 4, oent 5, oent 6, oent 7] 8)) = .ok () (w.alloc (.map #[oent 0, oent 1, oent 2, oent 3, oent 4, oent 5, oent 6, oent 7, oent 8] 9)) := Tab.run_ins Tryz.underlying130 Tryz.underlying9 w #[oent 0, oent 1, oent 2, oent 3, oent 4, oent 5, oent 6, oent 7] 8 _ _ (by kernel_rfl)
  have h9 : (Instr.mapUpdate 130 (.map (some w.heap.size)) (.string ⟨#[115, 104, 105, 102, 116]⟩) (.agg #[.int .i64 2, .func (.func 131) #[] #[]])).run Tryz.prog (w.alloc (.map #[oent 0, oent 1, oent 2, oent 3, oent 4, oent 5, oent 6, oent 7, oent 8] 9)) = .ok () (w.alloc (.map #[oent 0, oent 1, oent 2, oent 3, oent 4, oent 5, oent 6, oent 7, oent 8, oent 9] 10)) := Tab.run_ins Tryz.underlying130 Tryz.underlying9 w #[oent 0, oent 1, oent 2, oent 3, oent 4, oent 5, oent 6, oent 7, oent 8] 9 _ _ (by kernel_rfl)
  have h10 : (Instr.mapUpdate 130 (.map (some w.heap.size)) (.string ⟨#[116, 117, 114, 110]⟩) (.agg #[.int .i64 1, .func (.func 133) #[] #[]])).run Tryz.prog (w.alloc (.map #[oent 0, oent 1, oent 2, oent 3, oent 4, oent 5, oent 6, oent 7, oent 8, oent 9] 10)) = .ok () (w.alloc (.map #[oent 0, oent 1, oent 2, oent 3, oent 4, oent 5, oent 6, oent 7, oent 8, oent 9, oent 10] 11)) := Tab.run_ins Tryz.underlying130 Tryz.underlying9 w #[oent 0, oent 1, oent 2, oent 3, oent 4, oent 5, oent 6, oent 7, oent 8, oent 9] 10 _ _ (by kernel_rfl)
  have h11 : (Instr.mapUpdate 130 (.map (some w.heap.size)) (.string ⟨#[115, 99, 97, 108, 101]⟩) (.agg #[.int .i64 1, .func (.func 134) #[] #[]])).run Tryz.prog (w.alloc (.map #[oent 0, oent 1, oent 2, oent 3, oent 4, oent 5, oent 6, oent 7, oent 8, oent 9, oent 10] 11)) = .ok () (w.alloc (.map #[oent 0, oent 1, oent 2, oent 3, oent 4, oent 5, oent 6, oent 7, oent 8, oent 9, oent 10, oent 11] 12)) := Tab.run_ins Tryz.underlying130 Tryz.underlying9 w #[oent 0, oent 1, oent 2, oent 3, oent 4, oent 5, oent 6, oent 7, oent 8, oent 9, oent 10] 11 _ _ (by kernel_rfl)
  go_enter Tryz.func87, Tryz.ntmps87
  go_wp2
  go_ret
  exact ⟨rfl, rfl⟩
theorem otab_impl (w : World) : Calls Tryz.prog 87 #[] w fun e w' => e = .returned (.map (some w.heap.size)) ∧ w' = w.alloc (.map otab 12) := otab_any w
theorem olook_none {s : ByteArray} (h : opN s = none) : Instr.findNow .string (.string s) otab.toList 0 = some none := by
  unfold opN at h
  by_cases e0 : (s.toList == [110, 101, 119]) = true
  · rw [if_pos e0] at h; cases h
  rw [if_neg e0] at h
  have g0 := ne_of (l := [110, 101, 119]) (fun e => e0 (by rw [e]; rfl))
  by_cases e1 : (s.toList == [109, 111, 118, 101, 116, 111]) = true
  · rw [if_pos e1] at h; cases h
  rw [if_neg e1] at h
  have g1 := ne_of (l := [109, 111, 118, 101, 116, 111]) (fun e => e1 (by rw [e]; rfl))
  by_cases e2 : (s.toList == [108, 105, 110, 101, 116, 111]) = true
  · rw [if_pos e2] at h; cases h
  rw [if_neg e2] at h
  have g2 := ne_of (l := [108, 105, 110, 101, 116, 111]) (fun e => e2 (by rw [e]; rfl))
  by_cases e3 : (s.toList == [114, 101, 99, 116]) = true
  · rw [if_pos e3] at h; cases h
  rw [if_neg e3] at h
  have g3 := ne_of (l := [114, 101, 99, 116]) (fun e => e3 (by rw [e]; rfl))
  by_cases e4 : (s.toList == [102, 105, 108, 108]) = true
  · rw [if_pos e4] at h; cases h
  rw [if_neg e4] at h
  have g4 := ne_of (l := [102, 105, 108, 108]) (fun e => e4 (by rw [e]; rfl))
  by_cases e5 : (s.toList == [103, 114, 97, 121]) = true
  · rw [if_pos e5] at h; cases h
  rw [if_neg e5] at h
  have g5 := ne_of (l := [103, 114, 97, 121]) (fun e => e5 (by rw [e]; rfl))
  by_cases e6 : (s.toList == [99, 108, 105, 112]) = true
  · rw [if_pos e6] at h; cases h
  rw [if_neg e6] at h
  have g6 := ne_of (l := [99, 108, 105, 112]) (fun e => e6 (by rw [e]; rfl))
  by_cases e7 : (s.toList == [115, 97, 118, 101]) = true
  · rw [if_pos e7] at h; cases h
  rw [if_neg e7] at h
  have g7 := ne_of (l := [115, 97, 118, 101]) (fun e => e7 (by rw [e]; rfl))
  by_cases e8 : (s.toList == [114, 101, 115, 116, 111, 114, 101]) = true
  · rw [if_pos e8] at h; cases h
  rw [if_neg e8] at h
  have g8 := ne_of (l := [114, 101, 115, 116, 111, 114, 101]) (fun e => e8 (by rw [e]; rfl))
  by_cases e9 : (s.toList == [115, 104, 105, 102, 116]) = true
  · rw [if_pos e9] at h; cases h
  rw [if_neg e9] at h
  have g9 := ne_of (l := [115, 104, 105, 102, 116]) (fun e => e9 (by rw [e]; rfl))
  by_cases e10 : (s.toList == [116, 117, 114, 110]) = true
  · rw [if_pos e10] at h; cases h
  rw [if_neg e10] at h
  have g10 := ne_of (l := [116, 117, 114, 110]) (fun e => e10 (by rw [e]; rfl))
  by_cases e11 : (s.toList == [115, 99, 97, 108, 101]) = true
  · rw [if_pos e11] at h; cases h
  rw [if_neg e11] at h
  have g11 := ne_of (l := [115, 99, 97, 108, 101]) (fun e => e11 (by rw [e]; rfl))
  simp [otab, oent, Instr.findNow, Instr.sameNow, g0, g1, g2, g3, g4, g5, g6, g7, g8, g9, g10, g11]
theorem olook_yes {s : ByteArray} {k : Nat} (h : opN s = some k) : Instr.findNow .string (.string s) otab.toList 0 = some (some (k, .agg #[.int .i64 (opK k : Nat), .func (.func (opF k)) #[] #[]])) := by
  unfold opN at h
  by_cases e0 : (s.toList == [110, 101, 119]) = true
  · rw [if_pos e0] at h; injection h with h; subst h; rw [str_of e0]; kernel_rfl
  rw [if_neg e0] at h
  by_cases e1 : (s.toList == [109, 111, 118, 101, 116, 111]) = true
  · rw [if_pos e1] at h; injection h with h; subst h; rw [str_of e1]; kernel_rfl
  rw [if_neg e1] at h
  by_cases e2 : (s.toList == [108, 105, 110, 101, 116, 111]) = true
  · rw [if_pos e2] at h; injection h with h; subst h; rw [str_of e2]; kernel_rfl
  rw [if_neg e2] at h
  by_cases e3 : (s.toList == [114, 101, 99, 116]) = true
  · rw [if_pos e3] at h; injection h with h; subst h; rw [str_of e3]; kernel_rfl
  rw [if_neg e3] at h
  by_cases e4 : (s.toList == [102, 105, 108, 108]) = true
  · rw [if_pos e4] at h; injection h with h; subst h; rw [str_of e4]; kernel_rfl
  rw [if_neg e4] at h
  by_cases e5 : (s.toList == [103, 114, 97, 121]) = true
  · rw [if_pos e5] at h; injection h with h; subst h; rw [str_of e5]; kernel_rfl
  rw [if_neg e5] at h
  by_cases e6 : (s.toList == [99, 108, 105, 112]) = true
  · rw [if_pos e6] at h; injection h with h; subst h; rw [str_of e6]; kernel_rfl
  rw [if_neg e6] at h
  by_cases e7 : (s.toList == [115, 97, 118, 101]) = true
  · rw [if_pos e7] at h; injection h with h; subst h; rw [str_of e7]; kernel_rfl
  rw [if_neg e7] at h
  by_cases e8 : (s.toList == [114, 101, 115, 116, 111, 114, 101]) = true
  · rw [if_pos e8] at h; injection h with h; subst h; rw [str_of e8]; kernel_rfl
  rw [if_neg e8] at h
  by_cases e9 : (s.toList == [115, 104, 105, 102, 116]) = true
  · rw [if_pos e9] at h; injection h with h; subst h; rw [str_of e9]; kernel_rfl
  rw [if_neg e9] at h
  by_cases e10 : (s.toList == [116, 117, 114, 110]) = true
  · rw [if_pos e10] at h; injection h with h; subst h; rw [str_of e10]; kernel_rfl
  rw [if_neg e10] at h
  by_cases e11 : (s.toList == [115, 99, 97, 108, 101]) = true
  · rw [if_pos e11] at h; injection h with h; subst h; rw [str_of e11]; kernel_rfl
  rw [if_neg e11] at h
  cases h
end Go.Proofs.YtjmfgbbngocodaaGreat.Own

