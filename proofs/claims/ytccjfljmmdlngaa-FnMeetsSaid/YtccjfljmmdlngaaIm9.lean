/-
  InSpans (model): what the call returns for any list of spans and any column.
-/
import Derived.Test.YtccjfljmmdlngaaSk9
namespace Go.Proofs.Ytccjfljmmdlngaa.Ins
open Go.ChangeShapes Go.WideShapes Go.ChangeAt Go.RowKit
open Kit Point
set_option linter.unusedVariables false
set_option linter.unusedSimpArgs false
set_option linter.unnecessarySimpa false
theorem inS_hit {l : List Pt} {k : Nat} {x : Int} (hk : k < l.length) (h1 : pX l k ≤ x) (h2 : x < pY l k) : inS l x = true :=
  inS_true.2 ⟨l[k], List.getElem_mem hk, by rw [getk l hk]; exact h1, by rw [getk l hk]; exact h2⟩
theorem inS_miss {l : List Pt} {x : Int} (h : ∀ k, k < l.length → ¬ (pX l k ≤ x ∧ x < pY l k)) : inS l x = false := inS_false fun q hq => by
  obtain ⟨k, hk, rfl⟩ := List.getElem_of_mem hq
  have := h k hk
  rw [getk l hk]; show x < pX l k ∨ pY l k ≤ x; omega
set_option maxRecDepth 100000 in
set_option maxHeartbeats 1000000 in
theorem in_spec9 (w : World) (a : Option Addr) (c : Nat) (l : List Pt) (x : Int) (hn : l.length ≤ 1048576) (h : PathAt w a l) :
    Calls Try.prog 34 #[.slice a l.length c, .int .i64 x] w fun e w' => e = .returned (.bool (inS l x)) ∧ Below w.heap.size w w' := by
  have H := Lib.hid (And.intro h hn)
  obtain ⟨n, hN⟩ : ∃ n, l.length = n := ⟨_, rfl⟩
  have HN := Lib.hid hN
  rw [hN] at hn ⊢
  clear hN
  rcases h with rfl | ⟨g, rfl, hg, _⟩
  · obtain rfl : 0 = n := HN.out
    go_enter Try.func34, Try.ntmps34
    go_wp2
    go_rounds 1
    go_ret
    exact ⟨rfl, Below.refl _ _⟩
  · go_enter Try.func34, Try.ntmps34
    go_wp2
    go_loopw [5] (fun v5 wr => ∃ k : Nat, v5 = .int .i64 (k : Int) ∧ k ≤ n ∧ Hid (∀ i, i < k → ¬ (pX l i ≤ x ∧ x < pY l i)) ∧ Below w.heap.size w wr) (fun v5 _ => n - (intOf v5).toNat)
    case atStart => exact ⟨0, rfl, Nat.zero_le _, Lib.hid fun i hi => absurd hi (Nat.not_lt_zero i), Below.refl _ _⟩
    case round =>
      obtain ⟨k, rfl, hk, hb, hB⟩ := hrel
      have HB := Lib.hid hB
      by_cases hlt : k < n
      · obtain ⟨hlg, q1, q2⟩ := (H.out.1.on hB).cells (k := k) (by rw [HN.out]; exact hlt)
        have i0 : (0 : Int) ≤ (k : Int) := by omega
        have i1 : (k : Int) < (n : Int) := by omega
        by_cases hin : pX l k ≤ x ∧ x < pY l k
        · have hv : inS l x = true := inS_hit (by rw [HN.out]; exact hlt) hin.1 hin.2
          have HS := Lib.hid hv
          obtain ⟨p, hp⟩ : ∃ p, pX l k = p := ⟨_, rfl⟩
          obtain ⟨q, hq⟩ : ∃ q, pY l k = q := ⟨_, rfl⟩
          rw [hp] at q1 hin; rw [hq] at q2 hin
          obtain ⟨j1, j2⟩ := hin
          clear hv hB hp hq
          go_wp2
          go_ret
          exact ⟨ret_bool HS.out.symm, HB.out⟩
        · have hyes : ∀ i, i < k + 1 → ¬ (pX l i ≤ x ∧ x < pY l i) := fun i hi => by
            by_cases e : i = k
            · subst e; exact hin
            · exact hb.out i (by omega)
          have HS := Lib.hid hyes
          obtain ⟨p, hp⟩ : ∃ p, pX l k = p := ⟨_, rfl⟩
          obtain ⟨q, hq⟩ : ∃ q, pY l k = q := ⟨_, rfl⟩
          rw [hp] at q1 hin; rw [hq] at q2 hin
          clear hyes hB hp hq
          by_cases j1 : p ≤ x
          · have j2 : ¬ (x < q) := fun h => hin ⟨j1, h⟩
            clear hin
            go_wp2
            go_roundw
            case rel => exact ⟨k + 1, by go_num, by omega, HS, HB.out⟩
            case measure => simp [intOf]; omega
          · clear hin
            go_wp2
            go_roundw
            case rel => exact ⟨k + 1, by go_num, by omega, HS, HB.out⟩
            case measure => simp [intOf]; omega
      · obtain rfl : k = n := by omega
        have hv : inS l x = false := inS_miss fun i hi => hb.out i (by rw [← HN.out]; exact hi)
        have HS := Lib.hid hv
        clear hv hB
        go_wp2
        go_ret
        exact ⟨ret_bool HS.out.symm, HB.out⟩
end Go.Proofs.Ytccjfljmmdlngaa.Ins
