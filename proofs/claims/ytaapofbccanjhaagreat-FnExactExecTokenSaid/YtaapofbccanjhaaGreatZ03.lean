/-
  Texts of this seat, laid together: Mark, Turn, Apply, Name, NameImpl, TokImpl
-/
import Derived.Deep.RegionHeld3
import Derived.Laws.BytesArg
import Derived.Lib.ItoaNum
import Derived.Lib.ItoaLen
import Derived.Deep.CutRange
import Derived.Laws.RangeAny
import Derived.Laws.RangeString
import Derived.Lib.DecodeN
import Derived.Lib.TrimU
import Derived.Test.YtaapofbccanjhaaGreatZ01
namespace Go.Proofs.YtaapofbccanjhaaGreat.Marking
open Go.ChangeShapes Go.WideShapes Go.ChangeAt Go.RowKit
open Kit
set_option linter.unusedVariables false
set_option linter.unusedSimpArgs false
set_option linter.unnecessarySimpa false
def rest (m : Nat) : List UInt8 := if m = 0 then [] else Lib.decDigits m
theorem rest_step (m : Nat) (h : m ≠ 0) : rest m = rest (m / 10) ++ [UInt8.ofNat (48 + m % 10)] := by
  unfold rest
  rw [if_neg h]
  by_cases h1 : m < 10
  · rw [Lib.decDigits_one h1, if_pos (by omega), Nat.mod_eq_of_lt h1]; rfl
  · rw [Lib.decDigits, dif_neg h1, if_neg (by omega)]
theorem cons_str (c : UInt8) (l : List UInt8) : (({ data := #[c] } : ByteArray) ++ ({ data := l.toArray } : ByteArray)) = { data := (c :: l).toArray } := by
  apply ByteArray.ext
  simp
theorem digits_le {N : Nat} (h1 : N < 18446744073709551616) {m : Nat} {l : List UInt8} (h : rest m ++ l = Lib.decDigits N) : l.length ≤ 20 := by
  have h2 : (rest m ++ l).length = Lib.nDigits N := by rw [h, Lib.decDigits_length]
  rw [List.length_append] at h2
  have := Lib.nDigits_le20 N h1
  omega
theorem rest_next {N m : Nat} {l : List UInt8} (hm : m ≠ 0) (h : rest m ++ l = Lib.decDigits N) : rest (m / 10) ++ (UInt8.ofNat (48 + m % 10) :: l) = Lib.decDigits N := by
  rw [← h, rest_step m hm, List.append_assoc]; rfl
theorem drewN_below {B : Nat} {a w : World} (h : Below B a w) (n : Nat) : Below B a (w.drewN n) := ⟨h.os, h.tape, h.output, h.size, h.block⟩
theorem one_str (w : World) (x : Int) : (convert 145 9 (.slice (some ⟨w.heap.size, 0, none⟩) 1 1)).run Tryz.prog (w.alloc (.cells #[.int .u8 x] 5)) = .ok (.string ⟨#[UInt8.ofNat x.toNat]⟩) (w.alloc (.cells #[.int .u8 x] 5)) :=
  run_convert_bytes_arg _ 145 5 Tryz.underlying145 Tryz.underlying5 w.heap.size 0 1 1 [x] rfl (fun i hi => by
    obtain rfl : i = 0 := by omega
    simp [go_sem]) 9 Tryz.underlying9
def mt (k : Nat) : ByteArray := ⟨(109 :: Lib.decDigits k).toArray⟩
set_option maxRecDepth 100000 in
set_option maxHeartbeats 1000000 in
theorem mark_any (N : Nat) (w : World) (h0 : 0 < N) (h1 : N ≤ 9000000) :
    Calls Tryz.prog 54 #[.int .i64 (N : Int)] w fun e w' => e = .returned (.string (mt N)) ∧ Below w.heap.size w w' := by
  have hne : ¬ ((N : Int) ≤ 0) := by omega
  go_enter Tryz.func54, Tryz.ntmps54
  go_wp2
  go_loopw [0, 3] (fun v s wr => ∃ (m : Nat) (l : List UInt8), v = .int .i64 (m : Int) ∧ m ≤ N ∧ s = .string ⟨l.toArray⟩ ∧ rest m ++ l = Lib.decDigits N ∧ Below w.heap.size w wr) (fun v _ _ => (intOf v).toNat)
  case atStart => exact ⟨N, [], rfl, Nat.le_refl _, rfl, by simp [rest]; omega, Below.refl _ _⟩
  case round =>
    obtain ⟨m, l, rfl, hm, rfl, hl, hbel⟩ := hrel
    have hll := digits_le (by omega) hl
    have HL := Lib.hid hl
    have hlen : ¬ (9223372036854775807 < 1 + l.length) := by omega
    clear hl
    by_cases hz : m = 0
    · subst hz
      go_wp2
      go_ret
      refine ⟨?_, hbel⟩
      have := HL.out
      simp only [rest, if_pos, List.nil_append] at this
      unfold mt
      rw [← this]
      simp [cons_str]
    · have hnz : (0 : Int) < (m : Int) := by omega
      have hsz := hbel.size
      have hd0 : 0 ≤ (m : Int) % 10 := by omega
      have hd1 : (m : Int) % 10 ≤ 9 := by omega
      have hcv := one_str wr (48 + (m : Int) % 10)
      go_wp2
      refine ⟨⟨m / 10, UInt8.ofNat (48 + m % 10) :: l, by simp, by omega, ?_, rest_next hz HL.out, hbel.alloc hsz _⟩, by simp [intOf]; omega⟩
      rw [cons_str]
      congr 4
      rw [UInt8.ofNat_add]
      rfl
end Go.Proofs.YtaapofbccanjhaaGreat.Marking
namespace Go.Proofs.YtaapofbccanjhaaGreat.Turn
open Go.ChangeShapes Go.WideShapes Go.ChangeAt Go.RowKit
open Kit Point
set_option linter.unusedVariables false
set_option linter.unusedSimpArgs false
set_option linter.unnecessarySimpa false
def tokB (q s dx dy : Int) : Bool := decide (0 ≤ q ∧ q ≤ 3) && decide (1 ≤ s ∧ s ≤ 4) && inB dx && inB dy
theorem tok_true {q s dx dy : Int} (h : tokB q s dx dy = true) : (0 ≤ q ∧ q ≤ 3) ∧ (1 ≤ s ∧ s ≤ 4) ∧ (-200 ≤ dx ∧ dx ≤ 200) ∧ (-200 ≤ dy ∧ dy ≤ 200) := by
  simp only [tokB, inB, Bool.and_eq_true, decide_eq_true_eq] at h; omega
theorem turn_impl (q s dx dy : Int) (w : World) : Calls Tryz.prog 113 #[.agg #[.int .i64 q, .int .i64 s, .int .i64 dx, .int .i64 dy]] w fun e w' => e = .returned (.bool (tokB q s dx dy)) ∧ Below w.heap.size w w' := by
  by_cases h1 : 0 ≤ q ∧ q ≤ 3
  · by_cases h2 : 1 ≤ s ∧ s ≤ 4
    · cases h3 : inB dx
      all_goals
        have e1 : ¬ q < 0 := by omega
        have e2 : ¬ 4 ≤ q := by omega
        have e3 : ¬ s < 1 := by omega
        have e4 : ¬ 4 < s := by omega
        go_enter Tryz.func113, Tryz.ntmps113
        go_wp2_with (go_at_call 140; refine (coord_any _ _).mono ?_; rintro e w' ⟨rfl, rfl⟩)
        go_ret
        exact ⟨ret_bool (by simp [tokB, h1, h2, h3]), by go_grown⟩
    · go_enter Tryz.func113, Tryz.ntmps113
      by_cases e3 : s < 1
      · have e1 : ¬ q < 0 := by omega
        have e2 : ¬ 4 ≤ q := by omega
        go_wp2
        go_ret
        exact ⟨ret_bool (by simp [tokB, h2]), by go_grown⟩
      · have e1 : ¬ q < 0 := by omega
        have e2 : ¬ 4 ≤ q := by omega
        have e4 : 4 < s := by omega
        go_wp2
        go_ret
        exact ⟨ret_bool (by simp [tokB, h2]), by go_grown⟩
  · go_enter Tryz.func113, Tryz.ntmps113
    by_cases e1 : q < 0
    · go_wp2
      go_ret
      exact ⟨ret_bool (by simp [tokB, h1]), by go_grown⟩
    · have e2 : 4 ≤ q := by omega
      go_wp2
      go_ret
      exact ⟨ret_bool (by simp [tokB, h1]), by go_grown⟩
theorem turn_spec (q s dx dy : Int) (w : World) : Calls Tryz.prog 107 #[.agg #[.int .i64 q, .int .i64 s, .int .i64 dx, .int .i64 dy]] w fun e w' => e = .returned (.bool (tokB q s dx dy)) ∧ Below w.heap.size w w' := by
  cases h1 : decide (0 ≤ q ∧ q ≤ 3) <;> cases h2 : decide (1 ≤ s ∧ s ≤ 4) <;> cases h3 : inB dx
  all_goals
    go_enter Tryz.func107, Tryz.ntmps107
    go_wp2_with (first | (go_at_call 60; refine (in_any _ _ _ _).mono ?_; rintro e w' ⟨rfl, rfl⟩) | (go_at_call 139; refine (in2_any _ _).mono ?_; rintro e w' ⟨rfl, rfl⟩))
    go_ret
    exact ⟨ret_bool (by simp [tokB, h1, h2, h3]), by go_grown⟩
/-! ### The image -/
def rotX (q x y : Int) : Int := if q = 0 then x else if q = 1 then -y else if q = 2 then -x else y
def rotY (q x y : Int) : Int := if q = 0 then y else if q = 1 then x else if q = 2 then -y else -x
theorem rot_in {q x y : Int} (B : Int) (h : -B ≤ x ∧ x ≤ B) (k : -B ≤ y ∧ y ≤ B) : (-B ≤ rotX q x y ∧ rotX q x y ≤ B) ∧ (-B ≤ rotY q x y ∧ rotY q x y ≤ B) := by
  unfold rotX rotY
  by_cases h0 : q = 0
  · simp only [h0, if_true]; omega
  · by_cases h1 : q = 1
    · simp [h1]; omega
    · by_cases h2 : q = 2
      · simp [h2]; omega
      · simp [h0, h1, h2]; omega
theorem rot_next {k : Nat} (x y : Int) (h : (k : Int) < 3) : rotX ((k + 1 : Nat) : Int) x y = -rotY (k : Int) x y ∧ rotY ((k + 1 : Nat) : Int) x y = rotX (k : Int) x y := by
  have : k = 0 ∨ k = 1 ∨ k = 2 := by omega
  rcases this with rfl | rfl | rfl <;> simp [rotX, rotY]
theorem rot_zero (x y : Int) : rotX ((0 : Nat) : Int) x y = x ∧ rotY ((0 : Nat) : Int) x y = y := by simp [rotX, rotY]
theorem scale_big {x s : Int} (h : -20000 ≤ x ∧ x ≤ 20000) (hs : 1 ≤ s ∧ s ≤ 4) : -80000 ≤ x * s ∧ x * s ≤ 80000 := by
  have : s = 1 ∨ s = 2 ∨ s = 3 ∨ s = 4 := by omega
  rcases this with rfl | rfl | rfl | rfl <;> omega
theorem scale_in {x s : Int} (h : -200 ≤ x ∧ x ≤ 200) (hs : 1 ≤ s ∧ s ≤ 4) : -800 ≤ x * s ∧ x * s ≤ 800 := by
  have : s = 1 ∨ s = 2 ∨ s = 3 ∨ s = 4 := by omega
  rcases this with rfl | rfl | rfl | rfl <;> omega
def imX (q s dx x y : Int) : Int := rotX q (x * s) (y * s) + dx
def imY (q s dy x y : Int) : Int := rotY q (x * s) (y * s) + dy
set_option maxHeartbeats 1000000 in
theorem image_spec_big (q s dx dy x y : Int) (w : World) (ht : tokB q s dx dy = true) (hx : -20000 ≤ x ∧ x ≤ 20000) (hy : -20000 ≤ y ∧ y ≤ 20000) :
    Calls Tryz.prog 66 #[.agg #[.int .i64 q, .int .i64 s, .int .i64 dx, .int .i64 dy], .agg #[.int .i64 x, .int .i64 y]] w fun e w' => e = .returned (.agg #[.int .i64 (imX q s dx x y), .int .i64 (imY q s dy x y)]) ∧ Below w.heap.size w w' := by
  obtain ⟨hq, hs, hdx, hdy⟩ := tok_true ht
  obtain ⟨n, rfl⟩ : ∃ n : Nat, q = n := ⟨q.toNat, by omega⟩
  have mx1 := scale_big hx hs
  have my1 := scale_big hy hs
  unfold imX imY
  generalize hX : x * s = X at mx1
  generalize hY : y * s = Y at my1
  clear ht
  go_enter Tryz.func66, Tryz.ntmps66
  go_wp2_with fail
  go_loopw [5, 6, 7] (fun v5 v6 v7 wr => ∃ k : Nat, k ≤ n ∧ v5 = .int .i64 (rotX k X Y) ∧ v6 = .int .i64 (rotY k X Y) ∧ v7 = .int .i64 k ∧ wr = ((w.alloc (.cells #[.int .i64 n, .int .i64 s, .int .i64 dx, .int .i64 dy] 38)).alloc (.cells #[.int .i64 x, .int .i64 y] 109)).alloc (.cells #[.int .i64 0, .int .i64 0] 109)) (fun _ _ v7 _ => (n - intOf v7).toNat)
  case atStart => exact ⟨0, by omega, by rw [(rot_zero X Y).1], by rw [(rot_zero X Y).2], rfl, rfl⟩
  case round =>
    obtain ⟨k, hk, rfl, rfl, rfl, rfl⟩ := hrel
    by_cases hlt : (k : Int) < n
    · have hr := rot_in (q := k) 80000 mx1 my1
      have hn := rot_next (k := k) X Y (by omega)
      go_wp2
      go_roundw
      case rel => exact ⟨k + 1, by omega, by rw [hn.1], by rw [hn.2], by go_num, by first | rfl | trivial⟩
      case measure => simp [intOf]; omega
    · obtain rfl : k = n := by omega
      have hr := rot_in (q := k) 80000 mx1 my1
      go_wp2
      go_returns
      exact ⟨rfl, by go_grown⟩
theorem image_spec (q s dx dy x y : Int) (w : World) (ht : tokB q s dx dy = true) (hx : -200 ≤ x ∧ x ≤ 200) (hy : -200 ≤ y ∧ y ≤ 200) :
    Calls Tryz.prog 66 #[.agg #[.int .i64 q, .int .i64 s, .int .i64 dx, .int .i64 dy], .agg #[.int .i64 x, .int .i64 y]] w fun e w' => e = .returned (.agg #[.int .i64 (imX q s dx x y), .int .i64 (imY q s dy x y)]) ∧ Below w.heap.size w w' :=
  image_spec_big q s dx dy x y w ht (by omega) (by omega)
set_option maxHeartbeats 1000000 in
theorem image_impl_big (q s dx dy x y : Int) (w : World) (ht : tokB q s dx dy = true) (hx : -20000 ≤ x ∧ x ≤ 20000) (hy : -20000 ≤ y ∧ y ≤ 20000) :
    Calls Tryz.prog 160 #[.agg #[.int .i64 q, .int .i64 s, .int .i64 dx, .int .i64 dy], .agg #[.int .i64 x, .int .i64 y]] w fun e w' => e = .returned (.agg #[.int .i64 (imX q s dx x y), .int .i64 (imY q s dy x y)]) ∧ Below w.heap.size w w' := by
  obtain ⟨hq, hs, hdx, hdy⟩ := tok_true ht
  obtain ⟨n, rfl⟩ : ∃ n : Nat, q = n := ⟨q.toNat, by omega⟩
  have mx1 := scale_big hx hs
  have my1 := scale_big hy hs
  unfold imX imY
  generalize hX : x * s = X at mx1
  generalize hY : y * s = Y at my1
  clear ht
  go_enter Tryz.func160, Tryz.ntmps160
  go_wp2_with fail
  go_loopw [18] (fun v18 wr => ∃ k : Nat, k ≤ n ∧ v18 = .int .i64 k ∧ wr = ((w.alloc (.cells #[.int .i64 n, .int .i64 s, .int .i64 dx, .int .i64 dy] 38)).alloc (.cells #[.int .i64 (rotX k X Y), .int .i64 (rotY k X Y)] 109)).alloc (.cells #[.int .i64 0, .int .i64 0] 109)) (fun v18 _ => (n - intOf v18).toNat)
  case atStart => exact ⟨0, by omega, rfl, by rw [(rot_zero X Y).1, (rot_zero X Y).2]⟩
  case round =>
    obtain ⟨k, hk, rfl, rfl⟩ := hrel
    by_cases hlt : (k : Int) < n
    · have hr := rot_in (q := k) 80000 mx1 my1
      have hn := rot_next (k := k) X Y (by omega)
      go_wp2
      go_roundw
      case rel => exact ⟨k + 1, by omega, by go_num, by rw [hn.1, hn.2]⟩
      case measure => simp [intOf]; omega
    · obtain rfl : k = n := by omega
      have hr := rot_in (q := k) 80000 mx1 my1
      go_wp2
      go_returns
      exact ⟨rfl, by go_grown⟩
theorem image_impl (q s dx dy x y : Int) (w : World) (ht : tokB q s dx dy = true) (hx : -200 ≤ x ∧ x ≤ 200) (hy : -200 ≤ y ∧ y ≤ 200) :
    Calls Tryz.prog 160 #[.agg #[.int .i64 q, .int .i64 s, .int .i64 dx, .int .i64 dy], .agg #[.int .i64 x, .int .i64 y]] w fun e w' => e = .returned (.agg #[.int .i64 (imX q s dx x y), .int .i64 (imY q s dy x y)]) ∧ Below w.heap.size w w' :=
  image_impl_big q s dx dy x y w ht (by omega) (by omega)
theorem at_impl (q s dx dy x y : Int) (w : World) :
    Calls Tryz.prog 164 #[.agg #[.int .i64 q, .int .i64 s, .int .i64 dx, .int .i64 dy], .agg #[.int .i64 x, .int .i64 y]] w fun e w' => e = .returned (.agg #[.int .i64 q, .int .i64 s, .int .i64 x, .int .i64 y]) ∧ Below w.heap.size w w' := by
  go_enter Tryz.func164, Tryz.ntmps164
  go_upto_region 1 with fail
  go_region
  all_goals go_wp2_with fail
  all_goals go_returns
  all_goals exact ⟨rfl, by go_grown⟩
theorem ident_impl (w : World) : Calls Tryz.prog 106 #[] w fun e w' => e = .returned (.agg #[.int .i64 0, .int .i64 1, .int .i64 0, .int .i64 0]) ∧ Below w.heap.size w w' := by
  go_enter Tryz.func106, Tryz.ntmps106
  go_wp2
  go_returns
  exact ⟨rfl, by go_grown⟩
theorem ident_spec (w : World) : Calls Tryz.prog 69 #[] w fun e w' => e = .returned (.agg #[.int .i64 0, .int .i64 1, .int .i64 0, .int .i64 0]) ∧ Below w.heap.size w w' := by
  go_enter Tryz.func69, Tryz.ntmps69
  go_wp2
  go_returns
  exact ⟨rfl, by go_grown⟩
end Go.Proofs.YtaapofbccanjhaaGreat.Turn
namespace Go.Proofs.YtaapofbccanjhaaGreat.Apply
open Go.ChangeShapes Go.WideShapes Go.ChangeAt Go.RowKit
open Kit Point Turn
set_option linter.unusedVariables false
set_option linter.unusedSimpArgs false
set_option linter.unnecessarySimpa false
def appB (q s dx dy x y : Int) : Bool := tokB q s dx dy && pokB x y && pokB (imX q s dx x y) (imY q s dy x y)
def apX (q s dx dy x y : Int) : Int := if appB q s dx dy x y = true then imX q s dx x y else x
def apY (q s dx dy x y : Int) : Int := if appB q s dx dy x y = true then imY q s dy x y else y
theorem pok_true {x y : Int} (h : pokB x y = true) : (-200 ≤ x ∧ x ≤ 200) ∧ (-200 ≤ y ∧ y ≤ 200) := by
  simp only [pokB, Bool.and_eq_true] at h; exact ⟨inB_true h.1, inB_true h.2⟩
theorem ap_yes {q s dx dy x y a b : Int} (h1 : tokB q s dx dy = true) (h2 : pokB x y = true) (ha : imX q s dx x y = a) (hb : imY q s dy x y = b) (h3 : pokB a b = true) : Ending.returned (.agg #[.int .i64 a, .int .i64 b]) = .returned (.agg #[.int .i64 (apX q s dx dy x y), .int .i64 (apY q s dx dy x y)]) := by
  have : appB q s dx dy x y = true := by simp only [appB, h1, h2, ha, hb, h3, Bool.and_self]
  simp only [apX, apY, this, if_true, ha, hb]
theorem ap_no {q s dx dy x y : Int} (h : appB q s dx dy x y = false) : Ending.returned (.agg #[.int .i64 x, .int .i64 y]) = .returned (.agg #[.int .i64 (apX q s dx dy x y), .int .i64 (apY q s dx dy x y)]) := by
  simp [apX, apY, h]
theorem ap_no3 {q s dx dy x y a b : Int} (ha : imX q s dx x y = a) (hb : imY q s dy x y = b) (h3 : pokB a b = false) : Ending.returned (.agg #[.int .i64 x, .int .i64 y]) = .returned (.agg #[.int .i64 (apX q s dx dy x y), .int .i64 (apY q s dx dy x y)]) :=
  ap_no (by simp [appB, ha, hb, h3])
theorem image_impl_at (q s dx dy x y a b : Int) (w : World) (ht : tokB q s dx dy = true) (hp : pokB x y = true) (ha : imX q s dx x y = a) (hb : imY q s dy x y = b) :
    Calls Tryz.prog 160 #[.agg #[.int .i64 q, .int .i64 s, .int .i64 dx, .int .i64 dy], .agg #[.int .i64 x, .int .i64 y]] w fun e w' => e = .returned (.agg #[.int .i64 a, .int .i64 b]) ∧ Below w.heap.size w w' := by
  rw [← ha, ← hb]; exact image_impl q s dx dy x y w ht (pok_true hp).1 (pok_true hp).2
theorem image_spec_at (q s dx dy x y a b : Int) (w : World) (ht : tokB q s dx dy = true) (hp : pokB x y = true) (ha : imX q s dx x y = a) (hb : imY q s dy x y = b) :
    Calls Tryz.prog 66 #[.agg #[.int .i64 q, .int .i64 s, .int .i64 dx, .int .i64 dy], .agg #[.int .i64 x, .int .i64 y]] w fun e w' => e = .returned (.agg #[.int .i64 a, .int .i64 b]) ∧ Below w.heap.size w w' := by
  rw [← ha, ← hb]; exact image_spec q s dx dy x y w ht (pok_true hp).1 (pok_true hp).2
structure Three (w0 w : World) (q s dx dy x y : Int) : Prop where
  t : Four w w0.heap.size q s dx dy
  p : Two w (w0.heap.size + 1) x y
  r : Two w (w0.heap.size + 1 + 1) 0 0
  b : Below w0.heap.size w0 w
theorem Three.start (w : World) (q s dx dy x y : Int) (T T' : TypeId) : Three w (((w.alloc (.cells #[.int .i64 q, .int .i64 s, .int .i64 dx, .int .i64 dy] T)).alloc (.cells #[.int .i64 x, .int .i64 y] T')).alloc (.cells #[.int .i64 0, .int .i64 0] T')) q s dx dy x y := by
  refine ⟨((Four.new w T q s dx dy).alloc _).alloc _, ?_, ?_, by go_grown⟩
  · have := (Two.new (w.alloc (.cells #[.int .i64 q, .int .i64 s, .int .i64 dx, .int .i64 dy] T)) T' x y).alloc (.cells #[.int .i64 0, .int .i64 0] T')
    simpa using this
  · have := Two.new ((w.alloc (.cells #[.int .i64 q, .int .i64 s, .int .i64 dx, .int .i64 dy] T)).alloc (.cells #[.int .i64 x, .int .i64 y] T')) T' 0 0
    simpa using this
theorem Three.on {w0 w w' : World} {q s dx dy x y : Int} (h : Three w0 w q s dx dy x y) (hb : Below w.heap.size w w') : Three w0 w' q s dx dy x y :=
  ⟨h.t.keep hb h.t.lt, Two.keep h.p hb h.p.lt, Two.keep h.r hb h.r.lt, on_of h.b hb⟩
theorem Three.lay {w0 w : World} {q s dx dy x y : Int} (h : Three w0 w q s dx dy x y) :
    (w.cell? ⟨w0.heap.size, 0, none⟩ = some (.int .i64 q) ∧ w.cell? ⟨w0.heap.size, 1, none⟩ = some (.int .i64 s) ∧ w.cell? ⟨w0.heap.size, 2, none⟩ = some (.int .i64 dx) ∧ w.cell? ⟨w0.heap.size, 3, none⟩ = some (.int .i64 dy) ∧ (∀ o, w.frozen? ⟨w0.heap.size, o, none⟩ = false)) ∧
    (w.cell? ⟨w0.heap.size + 1, 0, none⟩ = some (.int .i64 x) ∧ w.cell? ⟨w0.heap.size + 1, 1, none⟩ = some (.int .i64 y) ∧ (∀ o, w.frozen? ⟨w0.heap.size + 1, o, none⟩ = false)) ∧
    (w.cell? ⟨w0.heap.size + 1 + 1, 0, none⟩ = some (.int .i64 0) ∧ w.cell? ⟨w0.heap.size + 1 + 1, 1, none⟩ = some (.int .i64 0) ∧ (∀ o, w.frozen? ⟨w0.heap.size + 1 + 1, o, none⟩ = false)) :=
  ⟨⟨h.t.c0, h.t.c1, h.t.c2, h.t.c3, h.t.fr⟩, ⟨h.p.c0, h.p.c1, h.p.fr⟩, ⟨h.r.c0, h.r.c1, h.r.fr⟩⟩
end Go.Proofs.YtaapofbccanjhaaGreat.Apply
namespace Go.Proofs.YtaapofbccanjhaaGreat.Scan
open Go.ChangeShapes Go.WideShapes Go.ChangeAt Go.RowKit
open Kit
open Split (byt byt_in byt_end)
set_option linter.unusedVariables false
set_option linter.unusedSimpArgs false
set_option linter.unnecessarySimpa false
set_option maxRecDepth 100000
def Letters (s : ByteArray) (k : Nat) : Prop := ∀ j, j < k → 97 ≤ byt s j ∧ byt s j ≤ 122
def IsNm (s : ByteArray) : Prop := 1 ≤ s.size ∧ s.size ≤ 8 ∧ Letters s s.size
def nameB (s : ByteArray) : Bool := decide (1 ≤ s.size ∧ s.size ≤ 8) && (List.range s.size).all fun j => decide (97 ≤ byt s j ∧ byt s j ≤ 122)
theorem nameB_iff (s : ByteArray) : nameB s = true ↔ IsNm s := by
  unfold nameB IsNm Letters
  simp only [Bool.and_eq_true, decide_eq_true_eq, List.all_eq_true, List.mem_range]
  constructor
  · rintro ⟨⟨h1, h2⟩, h3⟩; exact ⟨h1, h2, h3⟩
  · rintro ⟨h1, h2, h3⟩; exact ⟨⟨h1, h2⟩, h3⟩
theorem nameB_no {s : ByteArray} {k : Nat} (hk : k < s.size) (h : ¬ (97 ≤ byt s k ∧ byt s k ≤ 122)) : nameB s = false := by
  rw [← Bool.not_eq_true, nameB_iff]
  rintro ⟨_, _, h3⟩
  exact h (h3 k hk)
theorem nameB_all {s : ByteArray} (h : Letters s s.size) : nameB s = decide (1 ≤ s.size ∧ s.size ≤ 8) := by
  rw [Bool.eq_iff_iff, nameB_iff, decide_eq_true_eq]
  exact ⟨fun h => ⟨h.1, h.2.1⟩, fun h2 => ⟨h2.1, h2.2, h⟩⟩
theorem name_spec (s : ByteArray) (w : World) (hs : s.size ≤ 281474976710656) : Calls Tryz.prog 61 #[.string s] w fun e w' => e = .returned (.bool (nameB s)) ∧ w = w' := by
  go_enter Tryz.func61, Tryz.ntmps61
  go_wp2
  go_loopw [3] (fun v3 wr => ∃ k : Nat, k ≤ s.size ∧ v3 = .int .i64 (k : Int) ∧ Letters s k ∧ wr = w) (fun v3 _ => s.size - (intOf v3).toNat)
  case atStart => exact ⟨0, Nat.zero_le _, rfl, fun j hj => by omega, rfl⟩
  case round =>
    obtain ⟨k, hk, rfl, hl, rfl⟩ := hrel
    have HL := Lib.hid hl
    clear hl
    by_cases hlt : k < s.size
    · have hb := byt_in s k hlt
      have i0 : (0 : Int) ≤ (k : Int) := by omega
      have i1 : (k : Int) < (s.size : Int) := by omega
      by_cases h1 : (s[k].toNat : Int) < 97
      · go_wp2
        go_ret
        exact ⟨ret_bool (nameB_no hlt (by omega)).symm, rfl⟩
      · by_cases h2 : (122 : Int) < (s[k].toNat : Int)
        · go_wp2
          go_ret
          exact ⟨ret_bool (nameB_no hlt (by omega)).symm, rfl⟩
        · go_wp2
          refine ⟨⟨k + 1, by omega, by go_num, fun j hj => ?_, by first | rfl | trivial⟩, by simp [intOf]; omega⟩
          by_cases e : j < k
          · exact HL.out j e
          · obtain rfl : j = k := by omega
            omega
    · obtain rfl : k = s.size := by omega
      go_wp2_with (go_at_call 60; refine (Point.in_any _ _ _ _).mono ?_; rintro e w' ⟨rfl, rfl⟩)
      go_ret
      exact ⟨ret_bool (by rw [nameB_all HL.out, Bool.decide_and]; congr 1 <;> (apply decide_eq_decide.2; omega)), rfl⟩
def tkB (s : ByteArray) (n : Int) : Bool := if s.toList.isEmpty = true then decide (-999 ≤ n ∧ n ≤ 999) else nameB s && decide (n = 0)
theorem tok_spec (s : ByteArray) (n : Int) (w : World) (hs : s.size ≤ 281474976710656) : Calls Tryz.prog 24 #[.agg #[.string s, .int .i64 n]] w fun e w' => e = .returned (.bool (tkB s n)) ∧ Below w.heap.size w w' := by
  cases h : s.toList.isEmpty
  · cases h1 : nameB s
    all_goals
      go_enter Tryz.func24, Tryz.ntmps24
      go_wp2_with (go_at_call 61; refine (name_spec _ _ hs).mono ?_; rintro e w' ⟨rfl, rfl⟩)
      go_ret
      exact ⟨ret_bool (by simp [tkB, h, h1]; try rfl), by go_grown⟩
  · go_enter Tryz.func24, Tryz.ntmps24
    go_wp2_with (go_at_call 60; refine (Point.in_any _ _ _ _).mono ?_; rintro e w' ⟨rfl, rfl⟩)
    go_ret
    exact ⟨ret_bool (by simp [tkB, h]), by go_grown⟩
end Go.Proofs.YtaapofbccanjhaaGreat.Scan
namespace Go.Proofs.YtaapofbccanjhaaGreat.NameImpl
open Go.ChangeShapes Go.WideShapes Go.ChangeAt Go.RowKit
open Kit Scan
open Split (byt byt_in byt_end)
set_option linter.unusedVariables false
set_option linter.unusedSimpArgs false
set_option linter.unnecessarySimpa false
set_option maxRecDepth 100000
theorem rune_high (s : ByteArray) (pos : Nat) (h : pos < s.size) (hb : 128 ≤ (s[pos]'h).toNat) : 128 ≤ (Utf8.decode s pos).1 := by
  have e : s.get! pos = s[pos]'h := by
    show s.get! pos = _
    simp [ByteArray.get!, getElem!_pos, h]
    rfl
  rw [Lib.decode_at, e]
  unfold Lib.decodeN
  repeat' split
  all_goals first | (simp only; omega) | omega
theorem empty_size (s : ByteArray) : s.toList.isEmpty = decide (s.size = 0) := by
  rw [ByteArray.toList_eq]
  rw [Bool.eq_iff_iff, List.isEmpty_iff, decide_eq_true_eq, ← List.length_eq_zero_iff]
  simp
theorem name_impl (s : ByteArray) (w : World) (hs : s.size ≤ 281474976710656) : Calls Tryz.prog 80 #[.string s] w fun e w' => e = .returned (.bool (nameB s)) ∧ Below w.heap.size w w' := by
  by_cases h1 : s.size < 1
  · have h1' : s.toList.isEmpty = true := by rw [empty_size, decide_eq_true_eq]; omega
    go_enter Tryz.func80, Tryz.ntmps80
    go_wp2
    go_ret
    exact ⟨ret_bool (by simp [nameB]; omega), by go_grown⟩
  · by_cases h8 : 8 < s.size
    · have h8' : (8 : Int) < (s.size : Int) := by omega
      have h1' : s.toList.isEmpty = false := by rw [empty_size, decide_eq_false_iff_not]; omega
      go_enter Tryz.func80, Tryz.ntmps80
      go_wp2
      go_ret
      exact ⟨ret_bool (by simp [nameB]; omega), by go_grown⟩
    · have h8' : ¬ (8 : Int) < (s.size : Int) := by omega
      have h1' : s.toList.isEmpty = false := by rw [empty_size, decide_eq_false_iff_not]; omega
      go_enter Tryz.func80, Tryz.ntmps80
      go_wp2
      go_loopw [] (fun wr => ∃ k : Nat, k ≤ s.size ∧ Letters s k ∧ wr = w.iter s k) (fun wr => s.size - wr.iterPos w.heap.size)
      case atStart => exact ⟨0, Nat.zero_le _, fun j hj => by omega, rfl⟩
      case round =>
        obtain ⟨k, hk, hl, rfl⟩ := hrel
        have HL := Lib.hid hl
        clear hl
        by_cases hlt : k < s.size
        · have hb := byt_in s k hlt
          by_cases hhi : 128 ≤ (s[k]'hlt).toNat
          · have hnx := fun ty => run_next_any (P := Tryz.prog) w s k ty hlt
            have hr := rune_high s k hlt hhi
            have hr1 := Lib.rune_le s k
            have hno := nameB_no hlt (by omega)
            generalize (Utf8.decode s k).1 = r at hnx hr hr1
            generalize (Utf8.decode s k).2 = d at hnx
            have t1 : ¬ (r : Int) < 97 := by omega
            have t2 : (122 : Int) < (r : Int) := by omega
            clear hb
            go_wp2
            go_ret
            exact ⟨ret_bool (by first | rfl | exact hno.symm), by unfold World.iter; go_grown⟩
          · have hnx := fun ty => run_next_ascii (P := Tryz.prog) w s k ty hlt (by omega)
            by_cases h1 : ((s[k]'hlt).toNat : Int) < 97
            · have hno := nameB_no hlt (by omega)
              clear hb
              go_wp2
              go_ret
              exact ⟨ret_bool (by first | rfl | exact hno.symm), by unfold World.iter; go_grown⟩
            · by_cases h2 : (122 : Int) < ((s[k]'hlt).toNat : Int)
              · have hno := nameB_no hlt (by omega)
                clear hb
                go_wp2
                go_ret
                exact ⟨ret_bool (by first | rfl | exact hno.symm), by unfold World.iter; go_grown⟩
              · have hst : Letters s (k + 1) := by
                  intro j hj
                  by_cases e : j < k
                  · exact HL.out j e
                  · obtain rfl : j = k := by omega
                    omega
                have HS := Lib.hid hst
                clear hb hst
                go_wp2
                go_roundw
                case rel => exact ⟨k + 1, by omega, HS.out, rfl⟩
                case measure => simp; omega
        · have hnx := fun ty => run_next_end (P := Tryz.prog) w s k ty hlt
          obtain rfl : k = s.size := by omega
          go_wp2
          go_ret
          exact ⟨ret_bool (by rw [nameB_all HL.out]; simp; omega), by unfold World.iter; go_grown⟩
end Go.Proofs.YtaapofbccanjhaaGreat.NameImpl
namespace Go.Proofs.YtaapofbccanjhaaGreat.NameImpl
open Go.ChangeShapes Go.WideShapes Go.ChangeAt Go.RowKit
open Kit Scan
set_option linter.unusedVariables false
set_option linter.unusedSimpArgs false
set_option maxRecDepth 100000
theorem tok_impl (s : ByteArray) (n : Int) (w : World) (hs : s.size ≤ 281474976710656) : Calls Tryz.prog 37 #[.agg #[.string s, .int .i64 n]] w fun e w' => e = .returned (.bool (tkB s n)) ∧ Below w.heap.size w w' := by
  cases h : s.toList.isEmpty
  · have k1 : (w.alloc (.cells #[.string s, .int .i64 n] 50)).cell? ⟨w.heap.size, 1, none⟩ = some (.int .i64 n) := by simp [go_sem]
    have HK := Lib.hid k1
    clear k1
    cases h1 : nameB s
    all_goals
      go_enter Tryz.func37, Tryz.ntmps37
      go_wp2_with (go_at_call 80; (with_reducible refine (name_impl _ _ hs).mono ?_); rintro e w' ⟨rfl, hb⟩; have hB := on_of (W := w) (by go_grown) hb; have c1 := (hb.cell (p := ⟨w.heap.size, 1, none⟩) (by simp)).trans HK.out; clear hb)
      go_ret
      exact ⟨ret_bool (by simp [tkB, h, h1]; try rfl), hB⟩
  · by_cases h1 : (-999 : Int) ≤ n
    all_goals
      go_enter Tryz.func37, Tryz.ntmps37
      go_wp2
      go_ret
      exact ⟨ret_bool (by simp [tkB, h, h1]; try omega), by go_grown⟩
end Go.Proofs.YtaapofbccanjhaaGreat.NameImpl
