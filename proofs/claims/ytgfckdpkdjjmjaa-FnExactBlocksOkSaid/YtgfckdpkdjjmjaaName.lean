/-
  Chapter 4's names and tokens (the model's IsName, TokenOk): what each call returns, and that nothing that was there has turned.
-/
import Derived.Test.YtgfckdpkdjjmjaaKit
import Derived.Test.YtgfckdpkdjjmjaaPoint
import Derived.Test.YtgfckdpkdjjmjaaByt
namespace Go.Proofs.Ytgfckdpkdjjmjaa.Scan
open Go.ChangeShapes Go.WideShapes Go.ChangeAt Go.RowKit
open Kit
open Split (byt byt_in byt_end)
set_option linter.unusedVariables false
set_option linter.unusedSimpArgs false
set_option linter.unnecessarySimpa false
set_option maxRecDepth 100000

/-- The first k bytes are letters a to z. -/
def Letters (s : ByteArray) (k : Nat) : Prop := ∀ j, j < k → 97 ≤ byt s j ∧ byt s j ≤ 122

def IsNm (s : ByteArray) : Prop := 1 ≤ s.size ∧ s.size ≤ 8 ∧ Letters s s.size

def nameB (s : ByteArray) : Bool := decide (1 ≤ s.size ∧ s.size ≤ 8) && (List.range s.size).all fun j => decide (97 ≤ byt s j ∧ byt s j ≤ 122)

theorem nameB_iff (s : ByteArray) : nameB s = true ↔ IsNm s := by
  unfold nameB IsNm Letters
  simp only [Bool.and_eq_true, decide_eq_true_eq, List.all_eq_true, List.mem_range]
  constructor
  · rintro ⟨⟨h1, h2⟩, h3⟩; exact ⟨h1, h2, h3⟩
  · rintro ⟨h1, h2, h3⟩; exact ⟨⟨h1, h2⟩, h3⟩

theorem nameB_no {s : ByteArray} {k : Nat} (hk : k < s.size) (h : ¬ (97 ≤ byt s k ∧ byt s k ≤ 122)) : nameB s = false := by
  rw [← Bool.not_eq_true, nameB_iff]
  rintro ⟨_, _, h3⟩
  exact h (h3 k hk)

theorem nameB_all {s : ByteArray} (h : Letters s s.size) : nameB s = decide (1 ≤ s.size ∧ s.size ≤ 8) := by
  rw [Bool.eq_iff_iff, nameB_iff, decide_eq_true_eq]
  exact ⟨fun h => ⟨h.1, h.2.1⟩, fun h2 => ⟨h2.1, h2.2, h⟩⟩

theorem name_spec (s : ByteArray) (w : World) (hs : s.size ≤ 281474976710656) : Calls Try.prog 44 #[.string s] w fun e w' => e = .returned (.bool (nameB s)) ∧ w = w' := by
  go_enter Try.func44, Try.ntmps44
  go_wp2
  go_loopw [3] (fun v3 wr => ∃ k : Nat, k ≤ s.size ∧ v3 = .int .i64 (k : Int) ∧ Letters s k ∧ wr = w) (fun v3 _ => s.size - (intOf v3).toNat)
  case atStart => exact ⟨0, Nat.zero_le _, rfl, fun j hj => by omega, rfl⟩
  case round =>
    obtain ⟨k, hk, rfl, hl, rfl⟩ := hrel
    have HL := Lib.hid hl
    clear hl
    by_cases hlt : k < s.size
    · have hb := byt_in s k hlt
      have i0 : (0 : Int) ≤ (k : Int) := by omega
      have i1 : (k : Int) < (s.size : Int) := by omega
      by_cases h1 : (s[k].toNat : Int) < 97
      · go_wp2
        go_ret
        exact ⟨ret_bool (nameB_no hlt (by omega)).symm, rfl⟩
      · by_cases h2 : (122 : Int) < (s[k].toNat : Int)
        · go_wp2
          go_ret
          exact ⟨ret_bool (nameB_no hlt (by omega)).symm, rfl⟩
        · go_wp2
          refine ⟨⟨k + 1, by omega, by go_num, fun j hj => ?_, by first | rfl | trivial⟩, by simp [intOf]; omega⟩
          by_cases e : j < k
          · exact HL.out j e
          · obtain rfl : j = k := by omega
            omega
    · obtain rfl : k = s.size := by omega
      go_wp2_with (go_at_call 33; refine (Point.in_any _ _ _ _).mono ?_; rintro e w' ⟨rfl, rfl⟩)
      go_ret
      exact ⟨ret_bool (by rw [nameB_all HL.out, Bool.decide_and]; congr 1 <;> (apply decide_eq_decide.2; omega)), rfl⟩

def tkB (s : ByteArray) (n : Int) : Bool := if s.toList.isEmpty = true then decide (-999 ≤ n ∧ n ≤ 999) else nameB s && decide (n = 0)

theorem tok_spec (s : ByteArray) (n : Int) (w : World) (hs : s.size ≤ 281474976710656) : Calls Try.prog 36 #[.agg #[.string s, .int .i64 n]] w fun e w' => e = .returned (.bool (tkB s n)) ∧ Below w.heap.size w w' := by
  cases h : s.toList.isEmpty
  · cases h1 : nameB s
    all_goals
      go_enter Try.func36, Try.ntmps36
      go_wp2_with (go_at_call 44; refine (name_spec _ _ hs).mono ?_; rintro e w' ⟨rfl, rfl⟩)
      go_ret
      exact ⟨ret_bool (by simp [tkB, h, h1]; try rfl), by go_grown⟩
  · go_enter Try.func36, Try.ntmps36
    go_wp2_with (go_at_call 33; refine (Point.in_any _ _ _ _).mono ?_; rintro e w' ⟨rfl, rfl⟩)
    go_ret
    exact ⟨ret_bool (by simp [tkB, h]), by go_grown⟩

end Go.Proofs.Ytgfckdpkdjjmjaa.Scan
