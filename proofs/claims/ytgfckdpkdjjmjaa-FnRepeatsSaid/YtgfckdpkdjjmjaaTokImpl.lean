/-
  The program's TokenOk: what the call returns, and that nothing that was there has turned; condition: the string's size.
-/
import Derived.Test.YtgfckdpkdjjmjaaNameImpl
namespace Go.Proofs.Ytgfckdpkdjjmjaa.NameImpl
open Go.ChangeShapes Go.WideShapes Go.ChangeAt Go.RowKit
open Kit Scan
set_option linter.unusedVariables false
set_option linter.unusedSimpArgs false
set_option maxRecDepth 100000

theorem tok_impl (s : ByteArray) (n : Int) (w : World) (hs : s.size ≤ 281474976710656) : Calls Try.prog 28 #[.agg #[.string s, .int .i64 n]] w fun e w' => e = .returned (.bool (tkB s n)) ∧ Below w.heap.size w w' := by
  cases h : s.toList.isEmpty
  · have k1 : (w.alloc (.cells #[.string s, .int .i64 n] 31)).cell? ⟨w.heap.size, 1, none⟩ = some (.int .i64 n) := by simp [go_sem]
    have HK := Lib.hid k1
    clear k1
    cases h1 : nameB s
    all_goals
      go_enter Try.func28, Try.ntmps28
      go_wp2_with (go_at_call 42; (with_reducible refine (name_impl _ _ hs).mono ?_); rintro e w' ⟨rfl, hb⟩; have hB := on_of (W := w) (by go_grown) hb; have c1 := (hb.cell (p := ⟨w.heap.size, 1, none⟩) (by simp)).trans HK.out; clear hb)
      go_ret
      exact ⟨ret_bool (by simp [tkB, h, h1]; try rfl), hB⟩
  · by_cases h1 : (-999 : Int) ≤ n
    all_goals
      go_enter Try.func28, Try.ntmps28
      go_wp2
      go_ret
      exact ⟨ret_bool (by simp [tkB, h, h1]; try omega), by go_grown⟩

end Go.Proofs.Ytgfckdpkdjjmjaa.NameImpl
