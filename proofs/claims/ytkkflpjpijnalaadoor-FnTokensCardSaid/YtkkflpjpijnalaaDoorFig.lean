/-
  The figures of the model's hexadecimal and decimal texts (l01Figure): what the call returns; condition: a number from 0 to 15.
-/
import Derived.Test.YtkkflpjpijnalaaDoorRows
import Derived.WalkKit
import Derived.ProofKit
import Derived.OpenShut
import Derived.Below
import Derived.LoopTactic
import Derived.Outline
import Derived.RegionTactic
import Derived.Deep.QuietTactic
import Derived.BigQuiet
import Derived.Handy
import Derived.Lib.Hide
import Derived.Deep.AppendLies
import Derived.Deep.RegionLaw
import Derived.OwnWalk
import Derived.Laws.BytesArg
import Derived.Laws.BitsLemmas
import Derived.Laws.MakeOwn
import Derived.BigRegion
namespace Go.Proofs.YtkkflpjpijnalaaDoor.Hex
open Go.ChangeShapes Go.WideShapes Go.ChangeAt Go.RowKit
set_option linter.unusedVariables false

theorem info5 : (Tryd.prog.info? 5).map (fun i => (i.zero, i.size, i.bytes)) = some (some (.int .u8 0), 1, 1) := by kernel_rfl

/-- The figure of a number from 0 to 15. -/
def fig (n : Int) : Int := if n < 10 then 48 + n else 87 + n
theorem fig_lo {n : Int} (h : n < 10) : fig n = 48 + n := if_pos h
theorem fig_hi {n : Int} (h : ¬ n < 10) : fig n = 87 + n := if_neg h

theorem fig_any (n : Int) (h0 : 0 ≤ n) (h1 : n ≤ 15) (w : World) : Calls Tryd.prog 50 #[.int .i64 n] w fun e w' => e = .returned (.int .u8 (fig n)) ∧ w' = w := by
  by_cases h : n < 10
  · have hf := (fig_lo h).symm
    go_enter Tryd.func50, Tryd.ntmps50
    go_wp2
    go_ret
    exact ⟨by congr 2, rfl⟩
  · have hf : Value.int .u8 (97 + n - 10) = .int .u8 (fig n) := by rw [fig_hi h]; congr 1; omega
    have HF := Lib.hid hf
    clear hf
    go_enter Tryd.func50, Tryd.ntmps50
    go_wp2
    go_ret
    exact ⟨by rw [← HF.out]; rfl, rfl⟩

theorem fig_eq (m n : Int) (hm : m = n) (h0 : 0 ≤ n) (h1 : n ≤ 15) (w : World) : Calls Tryd.prog 50 #[.int .i64 m] w fun e w' => e = .returned (.int .u8 (fig n)) ∧ w' = w := by
  subst hm; exact fig_any m h0 h1 w

/-- The figures of the bytes. -/
def figs : List UInt8 → List Int
  | [] => []
  | c :: r => fig ((c.toNat : Int) / 16) :: fig ((c.toNat : Int) % 16) :: figs r
theorem figs_snoc (l : List UInt8) (c : UInt8) : figs (l ++ [c]) = figs l ++ [fig ((c.toNat : Int) / 16), fig ((c.toNat : Int) % 16)] := by
  induction l with
  | nil => rfl
  | cons d r ih => simp [figs, ih]
theorem figs_length (l : List UInt8) : (figs l).length = 2 * l.length := by
  induction l with
  | nil => rfl
  | cons d r ih => simp [figs, ih]; omega
theorem take_snoc (s : ByteArray) (k : Nat) (h : k < s.size) : s.data.toList.take (k + 1) = s.data.toList.take k ++ [s[k]] := by
  rw [List.take_succ_eq_append_getElem (by simpa using h)]; rfl

/-- A slice of bytes that the call owns, as a string. -/
theorem str_own {w : World} {base : Nat} {v : Value} {n : Nat} {xs : List Int} (h : w.ownsRow base 5 1 v n (xs.map (Value.int .u8))) :
    (convert 22 9 v).run Tryd.prog w = .ok (.string (strOfNums xs)) w := by
  have hl : xs.length = n := by have := h.1; simpa using this
  rcases h.2 with ⟨rfl, rfl⟩ | ⟨g, cap, cur, rfl, hb, hh, hn, hc, hs, ht⟩
  · obtain rfl : xs = [] := List.length_eq_zero_iff.1 hl
    exact run_convert_bytes_nil w 22 5 Tryd.underlying22 Tryd.underlying5 0 0 9 Tryd.underlying9
  · refine run_convert_bytes_arg w 22 5 Tryd.underlying22 Tryd.underlying5 g 0 n cap xs hl (fun i hi => ?_) 9 Tryd.underlying9
    have hx := h.cells (g := g) rfl i (.int .u8 (xs.getD i 0)) (by simp [List.getD, List.getElem?_eq_getElem (show i < xs.length by omega)])
    by_cases h0 : i = 0
    · subst h0; simpa [Addr.add] using hx
    · simpa [Addr.add, h0] using hx
end Go.Proofs.YtkkflpjpijnalaaDoor.Hex
