/-
  Texts of this seat, laid together: Point, Name
-/
import Derived.Test.YtjmfgbbngocodaaGreatZ01
import Derived.Test.YtjmfgbbngocodaaGreatZ02
namespace Go.Proofs.YtjmfgbbngocodaaGreat.Point
open Go.ChangeShapes Go.WideShapes Go.ChangeAt Go.RowKit
open Kit
set_option linter.unusedVariables false
set_option linter.unusedSimpArgs false
set_option linter.unnecessarySimpa false
attribute [local go_sem ↓] run_mx run_mn
def inB (n : Int) : Bool := decide (-200 ≤ n ∧ n ≤ 200)
def pokB (x y : Int) : Bool := inB x && inB y
def bokB (x0 y0 x1 y1 : Int) : Bool := inB x0 && inB y0 && inB x1 && inB y1 && decide (x0 ≤ x1) && decide (y0 ≤ y1)
theorem coord_any (n : Int) (w : World) : Calls Tryz.prog 142 #[.int .i64 n] w fun e w' => e = .returned (.bool (inB n)) ∧ w = w' := by
  by_cases h1 : -200 ≤ n <;> by_cases h2 : n ≤ 200
  all_goals
    go_enter Tryz.func142, Tryz.ntmps142
    go_wp2
    go_ret
    exact ⟨ret_bool (by simp [inB, h1, h2]), rfl⟩
theorem in_any (x a b : Int) (w : World) : Calls Tryz.prog 60 #[.int .i64 x, .int .i64 a, .int .i64 b] w fun e w' => e = .returned (.bool (decide (a ≤ x ∧ x ≤ b))) ∧ w = w' := by
  by_cases h1 : a ≤ x <;> by_cases h2 : x ≤ b
  all_goals
    go_enter Tryz.func60, Tryz.ntmps60
    go_wp2
    go_ret
    exact ⟨ret_bool (by simp [h1, h2]), rfl⟩
theorem in2_any (n : Int) (w : World) : Calls Tryz.prog 141 #[.int .i64 n] w fun e w' => e = .returned (.bool (inB n)) ∧ w = w' := by
  go_enter Tryz.func141, Tryz.ntmps141
  go_wp2_with (go_at_call 60; refine (in_any _ _ _ _).mono ?_; rintro e w' ⟨rfl, rfl⟩)
  go_ret
  exact ⟨ret_bool (by simp [inB]), rfl⟩
theorem pok_impl (x y : Int) (w : World) : Calls Tryz.prog 143 #[.agg #[.int .i64 x, .int .i64 y]] w fun e w' => e = .returned (.bool (pokB x y)) ∧ Below w.heap.size w w' := by
  by_cases h1 : inB x = true
  all_goals
    try simp only [Bool.not_eq_true] at h1
    go_enter Tryz.func143, Tryz.ntmps143
    go_wp2_with (go_at_call 142; refine (coord_any _ _).mono ?_; rintro e w' ⟨rfl, rfl⟩)
    go_ret
    exact ⟨ret_bool (by simp [pokB, h1]), by go_grown⟩
theorem pok_spec (x y : Int) (w : World) : Calls Tryz.prog 110 #[.agg #[.int .i64 x, .int .i64 y]] w fun e w' => e = .returned (.bool (pokB x y)) ∧ Below w.heap.size w w' := by
  by_cases h1 : inB x = true
  all_goals
    try simp only [Bool.not_eq_true] at h1
    go_enter Tryz.func110, Tryz.ntmps110
    go_wp2_with (go_at_call 141; refine (in2_any _ _).mono ?_; rintro e w' ⟨rfl, rfl⟩)
    go_ret
    exact ⟨ret_bool (by simp [pokB, h1]), by go_grown⟩
theorem bok_spec (x0 y0 x1 y1 : Int) (w : World) : Calls Tryz.prog 108 #[.agg #[.int .i64 x0, .int .i64 y0, .int .i64 x1, .int .i64 y1]] w fun e w' => e = .returned (.bool (bokB x0 y0 x1 y1)) ∧ Below w.heap.size w w' := by
  rcases four (inB x0) (inB y0) (inB x1) (inB y1) with h1 | ⟨h1, h2⟩ | ⟨h1, h2, h3⟩ | ⟨h1, h2, h3, h4⟩ | ⟨h1, h2, h3, h4⟩
  all_goals
    go_enter Tryz.func108, Tryz.ntmps108
    go_wp2_with (go_at_call 141; refine (in2_any _ _).mono ?_; rintro e w' ⟨rfl, rfl⟩)
    all_goals
      go_ret
      exact ⟨ret_bool (by simp [bokB, *]; try omega), by go_grown⟩
theorem bok_two (x0 y0 x1 y1 : Int) : bokB x0 y0 x1 y1 = (pokB x0 y0 && pokB x1 y1 && (decide (x0 ≤ x1) && decide (y0 ≤ y1))) := by
  simp [bokB, pokB, Bool.and_assoc]
theorem bok_impl (x0 y0 x1 y1 : Int) (w : World) : Calls Tryz.prog 114 #[.agg #[.int .i64 x0, .int .i64 y0, .int .i64 x1, .int .i64 y1]] w fun e w' => e = .returned (.bool (bokB x0 y0 x1 y1)) ∧ Below w.heap.size w w' := by
  cases h1 : pokB x0 y0 <;> cases h2 : pokB x1 y1
  all_goals
    go_enter Tryz.func114, Tryz.ntmps114
    go_wp2_with (go_at_call 143; refine (pok_impl _ _ _).mono ?_; rintro e w' ⟨rfl, hb⟩; have hB := on_of (W := w) (by go_grown) hb; obtain ⟨hc, hf⟩ := bcell hb; have hz : w.heap.size < w'.heap.size := (by have := hb.size; (try simp at this); omega); clear hb)
    all_goals
      go_ret
      exact ⟨ret_bool (by rw [bok_two]; simp [h1, h2]; try omega), by go_grown⟩
theorem bok_true {x0 y0 x1 y1 : Int} (h : bokB x0 y0 x1 y1 = true) : -200 ≤ x0 ∧ -200 ≤ y0 ∧ x1 ≤ 200 ∧ y1 ≤ 200 ∧ x0 ≤ x1 ∧ y0 ≤ y1 := by
  simp [bokB, inB] at h; omega
end Go.Proofs.YtjmfgbbngocodaaGreat.Point

namespace Go.Proofs.YtjmfgbbngocodaaGreat.Scan
open Go.ChangeShapes Go.WideShapes Go.ChangeAt Go.RowKit
open Kit
open Split (byt byt_in byt_end)
set_option linter.unusedVariables false
set_option linter.unusedSimpArgs false
set_option linter.unnecessarySimpa false
set_option maxRecDepth 100000
def Letters (s : ByteArray) (k : Nat) : Prop := ∀ j, j < k → 97 ≤ byt s j ∧ byt s j ≤ 122
def IsNm (s : ByteArray) : Prop := 1 ≤ s.size ∧ s.size ≤ 8 ∧ Letters s s.size
def nameB (s : ByteArray) : Bool := decide (1 ≤ s.size ∧ s.size ≤ 8) && (List.range s.size).all fun j => decide (97 ≤ byt s j ∧ byt s j ≤ 122)
theorem nameB_iff (s : ByteArray) : nameB s = true ↔ IsNm s := by
  unfold nameB IsNm Letters
  simp only [Bool.and_eq_true, decide_eq_true_eq, List.all_eq_true, List.mem_range]
  constructor
  · rintro ⟨⟨h1, h2⟩, h3⟩; exact ⟨h1, h2, h3⟩
  · rintro ⟨h1, h2, h3⟩; exact ⟨⟨h1, h2⟩, h3⟩
theorem nameB_no {s : ByteArray} {k : Nat} (hk : k < s.size) (h : ¬ (97 ≤ byt s k ∧ byt s k ≤ 122)) : nameB s = false := by
  rw [← Bool.not_eq_true, nameB_iff]
  rintro ⟨_, _, h3⟩
  exact h (h3 k hk)
theorem nameB_all {s : ByteArray} (h : Letters s s.size) : nameB s = decide (1 ≤ s.size ∧ s.size ≤ 8) := by
  rw [Bool.eq_iff_iff, nameB_iff, decide_eq_true_eq]
  exact ⟨fun h => ⟨h.1, h.2.1⟩, fun h2 => ⟨h2.1, h2.2, h⟩⟩
theorem name_spec (s : ByteArray) (w : World) (hs : s.size ≤ 281474976710656) : Calls Tryz.prog 61 #[.string s] w fun e w' => e = .returned (.bool (nameB s)) ∧ w = w' := by
  go_enter Tryz.func61, Tryz.ntmps61
  go_wp2
  go_loopw [3] (fun v3 wr => ∃ k : Nat, k ≤ s.size ∧ v3 = .int .i64 (k : Int) ∧ Letters s k ∧ wr = w) (fun v3 _ => s.size - (intOf v3).toNat)
  case atStart => exact ⟨0, Nat.zero_le _, rfl, fun j hj => by omega, rfl⟩
  case round =>
    obtain ⟨k, hk, rfl, hl, rfl⟩ := hrel
    have HL := Lib.hid hl
    clear hl
    by_cases hlt : k < s.size
    · have hb := byt_in s k hlt
      have i0 : (0 : Int) ≤ (k : Int) := by omega
      have i1 : (k : Int) < (s.size : Int) := by omega
      by_cases h1 : (s[k].toNat : Int) < 97
      · go_wp2
        go_ret
        exact ⟨ret_bool (nameB_no hlt (by omega)).symm, rfl⟩
      · by_cases h2 : (122 : Int) < (s[k].toNat : Int)
        · go_wp2
          go_ret
          exact ⟨ret_bool (nameB_no hlt (by omega)).symm, rfl⟩
        · go_wp2
          refine ⟨⟨k + 1, by omega, by go_num, fun j hj => ?_, by first | rfl | trivial⟩, by simp [intOf]; omega⟩
          by_cases e : j < k
          · exact HL.out j e
          · obtain rfl : j = k := by omega
            omega
    · obtain rfl : k = s.size := by omega
      go_wp2_with (go_at_call 60; refine (Point.in_any _ _ _ _).mono ?_; rintro e w' ⟨rfl, rfl⟩)
      go_ret
      exact ⟨ret_bool (by rw [nameB_all HL.out, Bool.decide_and]; congr 1 <;> (apply decide_eq_decide.2; omega)), rfl⟩
def tkB (s : ByteArray) (n : Int) : Bool := if s.toList.isEmpty = true then decide (-999 ≤ n ∧ n ≤ 999) else nameB s && decide (n = 0)
theorem tok_spec (s : ByteArray) (n : Int) (w : World) (hs : s.size ≤ 281474976710656) : Calls Tryz.prog 24 #[.agg #[.string s, .int .i64 n]] w fun e w' => e = .returned (.bool (tkB s n)) ∧ Below w.heap.size w w' := by
  cases h : s.toList.isEmpty
  · cases h1 : nameB s
    all_goals
      go_enter Tryz.func24, Tryz.ntmps24
      go_wp2_with (go_at_call 61; refine (name_spec _ _ hs).mono ?_; rintro e w' ⟨rfl, rfl⟩)
      go_ret
      exact ⟨ret_bool (by simp [tkB, h, h1]; try rfl), by go_grown⟩
  · go_enter Tryz.func24, Tryz.ntmps24
    go_wp2_with (go_at_call 60; refine (Point.in_any _ _ _ _).mono ?_; rintro e w' ⟨rfl, rfl⟩)
    go_ret
    exact ⟨ret_bool (by simp [tkB, h]), by go_grown⟩
end Go.Proofs.YtjmfgbbngocodaaGreat.Scan

