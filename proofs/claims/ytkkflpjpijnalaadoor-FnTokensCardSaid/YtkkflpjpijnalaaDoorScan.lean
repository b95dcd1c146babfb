/-
  Chapter 4's names and tokens (the model's IsName, TokenOk, l04Text): what each call returns, and that nothing that was there has turned.
-/
import Derived.Test.YtkkflpjpijnalaaDoorName
import Derived.Test.YtkkflpjpijnalaaDoorNum
import Derived.Test.YtkkflpjpijnalaaDoorSplit
namespace Go.Proofs.YtkkflpjpijnalaaDoor.Scan
open Go.ChangeShapes Go.WideShapes Go.ChangeAt Go.RowKit
open Kit Num
open Split (byt byt_in byt_end)
set_option linter.unusedVariables false
set_option linter.unusedSimpArgs false
set_option linter.unnecessarySimpa false

def tkT (s : ByteArray) (n : Int) : ByteArray := if s.toList.isEmpty = true then txt n else s

theorem text_spec (s : ByteArray) (n : Int) (w : World) (h0 : -9223372036854775808 ≤ n) (h1 : n ≤ 9223372036854775807) : Calls Tryd.prog 27 #[.agg #[.string s, .int .i64 n]] w fun e w' => e = .returned (.string (tkT s n)) ∧ Below w.heap.size w w' := by
  cases h : s.toList.isEmpty
  · go_enter Tryd.func27, Tryd.ntmps27
    go_wp2
    go_ret
    exact ⟨by simp [tkT, h], by go_grown⟩
  · go_enter Tryd.func27, Tryd.ntmps27
    go_wp2_with (go_at_call 44; refine (spec_format _ _ h0 h1).mono ?_; rintro e w' ⟨rfl, hb⟩; have hB := on_of (W := w) (by go_grown) hb)
    go_ret
    exact ⟨by simp [tkT, h], by go_grown⟩

end Go.Proofs.YtkkflpjpijnalaaDoor.Scan
