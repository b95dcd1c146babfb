/-
  The program's IsName (a range over the string, rune by rune): what the call returns, and that nothing that was there has turned; condition: the string's size.
-/
import Derived.Test.YtgfckdpkdjjmjaaName
import Derived.Laws.RangeAny
import Derived.Laws.RangeString
import Derived.Lib.DecodeN
import Derived.Lib.TrimU
namespace Go.Proofs.Ytgfckdpkdjjmjaa.NameImpl
open Go.ChangeShapes Go.WideShapes Go.ChangeAt Go.RowKit
open Kit Scan
open Split (byt byt_in byt_end)
set_option linter.unusedVariables false
set_option linter.unusedSimpArgs false
set_option linter.unnecessarySimpa false
set_option maxRecDepth 100000

/-- A first byte from 128 on gives a rune from 128 on. -/
theorem rune_high (s : ByteArray) (pos : Nat) (h : pos < s.size) (hb : 128 ≤ (s[pos]'h).toNat) : 128 ≤ (Utf8.decode s pos).1 := by
  have e : s.get! pos = s[pos]'h := by
    show s.get! pos = _
    simp [ByteArray.get!, getElem!_pos, h]
    rfl
  rw [Lib.decode_at, e]
  unfold Lib.decodeN
  repeat' split
  all_goals first | (simp only; omega) | omega

theorem empty_size (s : ByteArray) : s.toList.isEmpty = decide (s.size = 0) := by
  rw [ByteArray.toList_eq]
  rw [Bool.eq_iff_iff, List.isEmpty_iff, decide_eq_true_eq, ← List.length_eq_zero_iff]
  simp

theorem name_impl (s : ByteArray) (w : World) (hs : s.size ≤ 281474976710656) : Calls Try.prog 42 #[.string s] w fun e w' => e = .returned (.bool (nameB s)) ∧ Below w.heap.size w w' := by
  by_cases h1 : s.size < 1
  · have h1' : s.toList.isEmpty = true := by rw [empty_size, decide_eq_true_eq]; omega
    go_enter Try.func42, Try.ntmps42
    go_wp2
    go_ret
    exact ⟨ret_bool (by simp [nameB]; omega), by go_grown⟩
  · by_cases h8 : 8 < s.size
    · have h8' : (8 : Int) < (s.size : Int) := by omega
      have h1' : s.toList.isEmpty = false := by rw [empty_size, decide_eq_false_iff_not]; omega
      go_enter Try.func42, Try.ntmps42
      go_wp2
      go_ret
      exact ⟨ret_bool (by simp [nameB]; omega), by go_grown⟩
    · have h8' : ¬ (8 : Int) < (s.size : Int) := by omega
      have h1' : s.toList.isEmpty = false := by rw [empty_size, decide_eq_false_iff_not]; omega
      go_enter Try.func42, Try.ntmps42
      go_wp2
      go_loopw [] (fun wr => ∃ k : Nat, k ≤ s.size ∧ Letters s k ∧ wr = w.iter s k) (fun wr => s.size - wr.iterPos w.heap.size)
      case atStart => exact ⟨0, Nat.zero_le _, fun j hj => by omega, rfl⟩
      case round =>
        obtain ⟨k, hk, hl, rfl⟩ := hrel
        have HL := Lib.hid hl
        clear hl
        by_cases hlt : k < s.size
        · have hb := byt_in s k hlt
          by_cases hhi : 128 ≤ (s[k]'hlt).toNat
          · have hnx := fun ty => run_next_any (P := Try.prog) w s k ty hlt
            have hr := rune_high s k hlt hhi
            have hr1 := Lib.rune_le s k
            have hno := nameB_no hlt (by omega)
            generalize (Utf8.decode s k).1 = r at hnx hr hr1
            generalize (Utf8.decode s k).2 = d at hnx
            have t1 : ¬ (r : Int) < 97 := by omega
            have t2 : (122 : Int) < (r : Int) := by omega
            clear hb
            go_wp2
            go_ret
            exact ⟨ret_bool (by first | rfl | exact hno.symm), by unfold World.iter; go_grown⟩
          · have hnx := fun ty => run_next_ascii (P := Try.prog) w s k ty hlt (by omega)
            by_cases h1 : ((s[k]'hlt).toNat : Int) < 97
            · have hno := nameB_no hlt (by omega)
              clear hb
              go_wp2
              go_ret
              exact ⟨ret_bool (by first | rfl | exact hno.symm), by unfold World.iter; go_grown⟩
            · by_cases h2 : (122 : Int) < ((s[k]'hlt).toNat : Int)
              · have hno := nameB_no hlt (by omega)
                clear hb
                go_wp2
                go_ret
                exact ⟨ret_bool (by first | rfl | exact hno.symm), by unfold World.iter; go_grown⟩
              · have hst : Letters s (k + 1) := by
                  intro j hj
                  by_cases e : j < k
                  · exact HL.out j e
                  · obtain rfl : j = k := by omega
                    omega
                have HS := Lib.hid hst
                clear hb hst
                go_wp2
                go_roundw
                case rel => exact ⟨k + 1, by omega, HS.out, rfl⟩
                case measure => simp; omega
        · have hnx := fun ty => run_next_end (P := Try.prog) w s k ty hlt
          obtain rfl : k = s.size := by omega
          go_wp2
          go_ret
          exact ⟨ret_bool (by rw [nameB_all HL.out]; simp; omega), by unfold World.iter; go_grown⟩

end Go.Proofs.Ytgfckdpkdjjmjaa.NameImpl
