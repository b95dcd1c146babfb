/-
  SpansOk (model): what the call returns for any list of spans.
-/
import Derived.Test.YtccjfljmmdlngaaSk9
import Derived.Test.YtccjfljmmdlngaaStK9
import Derived.Deep.QuietTactic
import Derived.BigQuiet
namespace Go.Proofs.Ytccjfljmmdlngaa.Ins
open Go.ChangeShapes Go.WideShapes Go.ChangeAt Go.RowKit
open Kit Point
set_option linter.unusedVariables false
set_option linter.unusedSimpArgs false
set_option linter.unnecessarySimpa false
set_option maxRecDepth 100000 in
set_option maxHeartbeats 2000000 in
theorem sok_spec (w : World) (a : Option Addr) (c : Nat) (l : List Pt) (hn : l.length ≤ 1048576) (h : PathAt w a l) :
    Calls Try.prog 22 #[.slice a l.length c] w fun e w' => e = .returned (.bool (spB l)) ∧ Below w.heap.size w w' := by
  have H := Lib.hid (And.intro h hn)
  obtain ⟨n, hN⟩ : ∃ n, l.length = n := ⟨_, rfl⟩
  have HN := Lib.hid hN
  rw [hN] at hn ⊢
  clear hN
  rcases h with rfl | ⟨g, rfl, hg, _⟩
  · obtain rfl : 0 = n := HN.out
    go_enter Try.func22, Try.ntmps22
    go_wp2
    go_rounds 1
    go_ret
    exact ⟨rfl, Below.refl _ _⟩
  · go_enter Try.func22, Try.ntmps22
    go_wp2
    go_loopw [3] (fun v3 wr => ∃ k : Nat, v3 = .int .i64 (k : Int) ∧ k ≤ n ∧ Hid (∀ i, i < k → okK l i = true) ∧ Below w.heap.size w wr) (fun v3 _ => n - (intOf v3).toNat)
    case atStart => exact ⟨0, rfl, Nat.zero_le _, Lib.hid fun i hi => absurd hi (Nat.not_lt_zero i), Below.refl _ _⟩
    case round =>
      obtain ⟨k, rfl, hk, hb, hB⟩ := hrel
      by_cases hlt : k < n
      · obtain ⟨hlg, q1, q2⟩ := (H.out.1.on hB).cells (k := k) (by rw [HN.out]; exact hlt)
        have HB := Lib.hid hB
        have i0 : (0 : Int) ≤ (k : Int) := by omega
        have i1 : (k : Int) < (n : Int) := by omega
        by_cases hxy : pX l k < pY l k
        · by_cases hk0 : k = 0
          · have hok : okK l k = true := by unfold okK; rw [decide_eq_true hxy, decide_eq_true hk0]; rfl
            have hyes : ∀ i, i < k + 1 → okK l i = true := fun i hi => by
              obtain rfl : i = k := by omega
              exact hok
            have HS := Lib.hid hyes
            have i2 : decide (0 < k) = false := by simp [hk0]
            obtain ⟨x, hx⟩ : ∃ x, pX l k = x := ⟨_, rfl⟩
            obtain ⟨y, hy⟩ : ∃ y, pY l k = y := ⟨_, rfl⟩
            rw [hx] at q1 hxy; rw [hy] at q2 hxy
            have hd : decide (y ≤ x) = false := by simp; omega
            clear hok hyes hxy hB hk0 hx hy
            go_wp2
            go_quiet (fail)
            have HBd := Lib.hid (drewN_on HB.out nq)
            clear q1 q2 i2 hd
            go_wp2
            go_roundw
            case rel => exact ⟨k + 1, by go_num, by omega, HS, HBd.out⟩
            case measure => simp [intOf]; omega
          · obtain ⟨j, rfl⟩ : ∃ j, k = j + 1 := ⟨k - 1, by omega⟩
            obtain ⟨_, _, q3⟩ := (H.out.1.on hB).cells (k := j) (by rw [HN.out]; omega)
            have hkk : okK l (j + 1) = decide (pY l j < pX l (j + 1)) := by simp [okK, hxy]
            obtain ⟨x, hx⟩ : ∃ x, pX l (j + 1) = x := ⟨_, rfl⟩
            obtain ⟨y, hy⟩ : ∃ y, pY l (j + 1) = y := ⟨_, rfl⟩
            obtain ⟨z, hz⟩ : ∃ z, pY l j = z := ⟨_, rfl⟩
            rw [hx, hz] at hkk
            rw [hx] at q1 hxy; rw [hy] at q2 hxy; rw [hz] at q3
            have HX := Lib.hid hkk
            have hd : decide (y ≤ x) = false := by simp; omega
            have e1 : (((j + 1 : Nat)) : Int) = (j : Int) + 1 := by omega
            have i3 : (0 : Int) ≤ (j : Int) := by omega
            have i4 : (j : Int) < (n : Int) := by omega
            have i5 : decide ((0 : Int) < (j : Int) + 1) = true := decide_eq_true (by omega)
            have hw : IntKind.i64.wrap (j : Int) = (j : Int) := by rw [IntKind.wrap_i64]; omega
            rw [e1] at i0 i1 ⊢
            clear hB hkk e1 hxy hk0 hx hy hz
            by_cases hzx : z < x
            · have hd2 : decide (x ≤ z) = false := by simp; omega
              have hyes : ∀ i, i < j + 1 + 1 → okK l i = true := fun i hi => by
                by_cases e : i = j + 1
                · subst e; rw [HX.out]; simpa using hzx
                · exact hb.out i (by omega)
              have HS := Lib.hid hyes
              clear hyes hzx
              go_wp2
              go_quiet (fail)
              have HBd := Lib.hid (drewN_on HB.out nq)
              have hw1 : IntKind.i64.wrap ((j : Int) + 1 + 1) = (j : Int) + 1 + 1 := by rw [IntKind.wrap_i64]; omega
              clear q1 q2 q3 i0 i3 i4 i5 hd hw hd2
              go_wp2
              go_roundw
              case rel => exact ⟨j + 1 + 1, by go_num, by omega, HS, HBd.out⟩
              case measure => simp [intOf]; omega
            · have hd2 : decide (x ≤ z) = true := by simp; omega
              have hno : spB l = false := spB_bad (k := j + 1) (by rw [HN.out]; exact hlt) (by rw [HX.out]; simpa using hzx)
              have HS := Lib.hid hno
              clear hno hzx
              go_wp2
              go_quiet (fail)
              have HBd := Lib.hid (drewN_on HB.out nq)
              clear q1 q2 q3 i0 i3 i4 i5 hd hw hd2
              go_wp2
              go_ret
              exact ⟨ret_bool HS.out.symm, HBd.out⟩
        · have hno : spB l = false := spB_bad (k := k) (by rw [HN.out]; exact hlt) (by simp [okK, hxy])
          have HS := Lib.hid hno
          obtain ⟨x, hx⟩ : ∃ x, pX l k = x := ⟨_, rfl⟩
          obtain ⟨y, hy⟩ : ∃ y, pY l k = y := ⟨_, rfl⟩
          rw [hx] at q1 hxy; rw [hy] at q2 hxy
          have hd : decide (y ≤ x) = true := by simp; omega
          clear hno hxy hB hx hy
          go_wp2
          go_quiet (fail)
          have HBd := Lib.hid (drewN_on HB.out nq)
          clear q1 q2 i0 hd
          go_wp2
          go_ret
          exact ⟨ret_bool HS.out.symm, HBd.out⟩
      · obtain rfl : k = n := by omega
        have hv : spB l = decide ((k : Int) ≤ 8) := by
          have : okS l = true := okS_good fun i hi => hb.out i (by rw [← HN.out]; exact hi)
          simp only [spB, this, Bool.and_true]; rw [HN.out, decide_eq_decide]; omega
        have HS := Lib.hid hv
        have HB := Lib.hid hB
        clear hv hB
        go_wp2
        go_ret
        exact ⟨ret_bool HS.out.symm, HB.out⟩
end Go.Proofs.Ytccjfljmmdlngaa.Ins
