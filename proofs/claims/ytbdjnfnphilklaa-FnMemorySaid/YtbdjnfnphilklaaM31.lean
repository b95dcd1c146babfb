/-
  Texts of this seat, laid together: Rd11
-/
import Derived.Laws.Entries
import Derived.BigQuiet
import Derived.Deep.QuietTactic
import Derived.Deep.RegionHeld3
import Derived.Test.YtbdjnfnphilklaaM29
namespace Go.Proofs.Ytbdjnfnphilklaa.Own
open Go.ChangeShapes Go.WideShapes Go.ChangeAt Go.RowKit
open Kit Slabs Ints
set_option linter.unusedVariables false
set_option linter.unusedSimpArgs false
set_option linter.unnecessarySimpa false
set_option maxRecDepth 100000
theorem all_yes {α : Type} {p : α → Bool} {l : List α} {z : α} (h : ∀ i, i < l.length → p (l.getD i z) = true) : l.all p = true := by
  rw [List.all_eq_true]
  intro x hx
  obtain ⟨i, hi, rfl⟩ := List.mem_iff_getElem.1 hx
  have := h i hi
  simpa [List.getD, List.getElem?_eq_getElem hi] using this
theorem all_no {α : Type} {p : α → Bool} {l : List α} {z : α} {k : Nat} (hk : k < l.length) (h : p (l.getD k z) = false) : l.all p = false := by
  rw [List.all_eq_false]
  refine ⟨l[k], List.getElem_mem hk, ?_⟩
  simp only [List.getD, List.getElem?_eq_getElem hk, Option.getD_some] at h
  rw [h]; simp
def rowB (r : List Int) : Bool := decide (r.length = 32) && r.all grayB
def rowsB (R : List (List Int)) : Bool := decide (R.length ≤ 32) && R.all rowB
set_option maxHeartbeats 1000000 in
theorem allgray_impl (w : World) (a : Option Addr) (c : Nat) (r : List Int) (hn : r.length ≤ 1048576) (h : Lies w a (ivs r)) :
    Calls Try.prog 102 #[.slice a r.length c, .func (.func 96) #[] #[]] w fun e w' => e = .returned (.bool (r.all grayB)) ∧ Below w.heap.size w w' := by
  have HP := Lib.hid h
  obtain ⟨n, hN⟩ : ∃ n, r.length = n := ⟨_, rfl⟩
  have HN := Lib.hid hN
  rw [hN] at hn ⊢
  clear hN h
  go_enter Try.func102, Try.ntmps102
  go_wp2
  go_loopw [9] (fun v9 wr => ∃ k : Nat, k ≤ n ∧ v9 = .int .i64 (k : Int) ∧ Hid (∀ i, i < k → grayB (r.getD i 0) = true) ∧ Below w.heap.size w wr) (fun v9 _ => n - (intOf v9).toNat)
  case atStart => exact ⟨0, Nat.zero_le _, rfl, Lib.hid (fun i hi => absurd hi (Nat.not_lt_zero i)), Below.refl _ _⟩
  case round =>
    obtain ⟨k, hk, rfl, hb, hB⟩ := hrel
    by_cases hlt : k < n
    · obtain ⟨g, o, rfl, hg, hc⟩ := lies_at (HP.out.on hB) (by rw [HN.out]; omega)
      have q := hc k (by rw [HN.out]; exact hlt)
      obtain ⟨x, hx⟩ : ∃ x, r.getD k 0 = x := ⟨_, rfl⟩
      rw [hx] at q
      have i0 : (0 : Int) ≤ (k : Int) := by omega
      have i1 : (k : Int) < (n : Int) := by omega
      have HX := Lib.hid hx
      have HB := Lib.hid hB
      clear hx hB hc
      go_wp2_with fail
      ((with_reducible refine (Ins.gray_impl x _).mono ?_); rintro e w1 ⟨rfl, bb⟩)
      have HB1 := Lib.hid (on_of HB.out bb)
      clear bb
      cases hp : grayB x
      · have HS := Lib.hid (all_no (p := grayB) (l := r) (z := 0) (k := k) (by rw [HN.out]; exact hlt) (by rw [HX.out]; exact hp))
        clear hp
        go_wp2
        go_ret
        exact ⟨ret_bool HS.out.symm, HB1.out⟩
      · have hyes : ∀ i, i < k + 1 → grayB (r.getD i 0) = true := fun i hi => by
          by_cases e : i = k
          · subst e; rw [HX.out]; exact hp
          · exact hb.out i (by omega)
        have HS := Lib.hid hyes
        clear hyes hp
        go_wp2
        go_roundw
        case rel => exact ⟨k + 1, by omega, by go_num, HS, HB1.out⟩
        case measure => simp [intOf]; omega
    · obtain rfl : k = n := by omega
      have HB := Lib.hid hB
      clear hB
      go_wp2
      go_ret
      exact ⟨ret_bool (all_yes (z := 0) (fun i hi => hb.out i (by rw [← HN.out]; exact hi))).symm, HB.out⟩
theorem rowok_impl (w : World) (a : Option Addr) (c : Nat) (r : List Int) (hn : r.length ≤ 1048576) (h : Lies w a (ivs r)) :
    Calls Try.prog 73 #[.slice a r.length c] w fun e w' => e = .returned (.bool (rowB r)) ∧ Below w.heap.size w w' := by
  have HC := Lib.hid (allgray_impl w a c r hn h)
  obtain ⟨q, hq⟩ : ∃ q, r.all grayB = q := ⟨_, rfl⟩
  rw [hq] at HC
  by_cases h1 : r.length = 32
  · have HV : Hid (rowB r = q) := Lib.hid (by simp [rowB, h1, hq])
    have h1' : ((r.length : Int) == 32) = true := by simp; omega
    clear h hq h1
    go_enter Try.func73, Try.ntmps73
    go_wp2_with fail
    ((with_reducible refine HC.out.mono ?_); rintro e w1 ⟨rfl, bb⟩)
    go_wp2
    go_ret
    exact ⟨ret_bool HV.out.symm, bb⟩
  · have HV : Hid (rowB r = false) := Lib.hid (by simp [rowB, h1])
    have h1' : ((r.length : Int) == 32) = false := by simp; omega
    clear h hq h1 HC
    go_enter Try.func73, Try.ntmps73
    go_wp2_with fail
    go_ret
    exact ⟨ret_bool HV.out.symm, Below.refl _ _⟩
theorem row_spec (w : World) (a : Option Addr) (c : Nat) (r : List Int) (hn : r.length ≤ 1048576) (h : Lies w a (ivs r)) :
    Calls Try.prog 85 #[.slice a r.length c] w fun e w' => e = .returned (.bool (rowB r)) ∧ Below w.heap.size w w' := by
  have HP := Lib.hid h
  obtain ⟨n, hN⟩ : ∃ n, r.length = n := ⟨_, rfl⟩
  have HN := Lib.hid hN
  rw [hN] at hn ⊢
  clear hN h
  go_enter Try.func85, Try.ntmps85
  go_wp2
  go_loopw [3] (fun v9 wr => ∃ k : Nat, k ≤ n ∧ v9 = .int .i64 (k : Int) ∧ Hid (∀ i, i < k → grayB (r.getD i 0) = true) ∧ Below w.heap.size w wr) (fun v9 _ => n - (intOf v9).toNat)
  case atStart => exact ⟨0, Nat.zero_le _, rfl, Lib.hid (fun i hi => absurd hi (Nat.not_lt_zero i)), Below.refl _ _⟩
  case round =>
    obtain ⟨k, hk, rfl, hb, hB⟩ := hrel
    by_cases hlt : k < n
    · obtain ⟨g, o, rfl, hg, hc⟩ := lies_at (HP.out.on hB) (by rw [HN.out]; omega)
      have q := hc k (by rw [HN.out]; exact hlt)
      obtain ⟨x, hx⟩ : ∃ x, r.getD k 0 = x := ⟨_, rfl⟩
      rw [hx] at q
      have i0 : (0 : Int) ≤ (k : Int) := by omega
      have i1 : (k : Int) < (n : Int) := by omega
      have HX := Lib.hid hx
      have HB := Lib.hid hB
      clear hx hB hc
      go_wp2_with fail
      ((with_reducible refine (Ins.gray_spec x _).mono ?_); rintro e w1 ⟨rfl, bb⟩)
      have HB1 := Lib.hid (on_of HB.out bb)
      clear bb
      cases hp : grayB x
      · have HS := Lib.hid (all_no (p := grayB) (l := r) (z := 0) (k := k) (by rw [HN.out]; exact hlt) (by rw [HX.out]; exact hp))
        clear hp
        go_wp2
        go_ret
        exact ⟨ret_bool (by simp [rowB, HS.out]), HB1.out⟩
      · have hyes : ∀ i, i < k + 1 → grayB (r.getD i 0) = true := fun i hi => by
          by_cases e : i = k
          · subst e; rw [HX.out]; exact hp
          · exact hb.out i (by omega)
        have HS := Lib.hid hyes
        clear hyes hp
        go_wp2
        go_roundw
        case rel => exact ⟨k + 1, by omega, by go_num, HS, HB1.out⟩
        case measure => simp [intOf]; omega
    · obtain rfl : k = n := by omega
      have HB := Lib.hid hB
      have HV : Hid (rowB r = ((k : Int) == 32)) := Lib.hid (by
        have := all_yes (p := grayB) (l := r) (z := 0) (fun i hi => hb.out i (by rw [← HN.out]; exact hi))
        rw [rowB, this, Bool.and_true, HN.out]
        by_cases e : k = 32
        · subst e; rfl
        · rw [decide_eq_false e]; symm; simp; omega)
      clear hB
      go_wp2
      go_ret
      exact ⟨ret_bool HV.out.symm, HB.out⟩
set_option maxHeartbeats 1000000 in
theorem allrow_impl (w : World) (a : Option Addr) (c : Nat) (R : List (List Int)) (hn : R.length ≤ 1048576) (ht : tot R ≤ 1048576) (h : RR w a R) :
    Calls Try.prog 72 #[.slice a R.length c, .func (.func 73) #[] #[]] w fun e w' => e = .returned (.bool (R.all rowB)) ∧ Below w.heap.size w w' := by
  have HP := Lib.hid h
  obtain ⟨n, hN⟩ : ∃ n, R.length = n := ⟨_, rfl⟩
  have HN := Lib.hid (And.intro hN ht)
  rw [hN] at hn ⊢
  clear hN h ht
  go_enter Try.func72, Try.ntmps72
  go_wp2
  go_loopw [9] (fun v9 wr => ∃ k : Nat, k ≤ n ∧ v9 = .int .i64 (k : Int) ∧ Hid (∀ i, i < k → rowB (R.getD i []) = true) ∧ Below w.heap.size w wr) (fun v9 _ => n - (intOf v9).toNat)
  case atStart => exact ⟨0, Nat.zero_le _, rfl, Lib.hid (fun i hi => absurd hi (Nat.not_lt_zero i)), Below.refl _ _⟩
  case round =>
    obtain ⟨k, hk, rfl, hb, hB⟩ := hrel
    by_cases hlt : k < n
    · obtain ⟨g, o, rfl, hg, hc⟩ := (HP.out.on hB).some (by rw [HN.out.1]; omega)
      obtain ⟨a', c', q, hl⟩ := hc k (by rw [HN.out.1]; exact hlt)
      have hx0 := tot_at (R := R) (k := k) (by rw [HN.out.1]; exact hlt)
      obtain ⟨x, hx⟩ : ∃ x, R.getD k [] = x := ⟨_, rfl⟩
      rw [hx] at q hl hx0
      have i0 : (0 : Int) ≤ (k : Int) := by omega
      have i1 : (k : Int) < (n : Int) := by omega
      have HX := Lib.hid hx
      have HL := Lib.hid (And.intro hl (show x.length ≤ 1048576 by have := HN.out.2; omega))
      have HB := Lib.hid hB
      clear hx hB hc hl hx0
      go_wp2_with fail
      ((with_reducible refine (rowok_impl _ _ _ x HL.out.2 HL.out.1).mono ?_); rintro e w1 ⟨rfl, bb⟩)
      have HB1 := Lib.hid (on_of HB.out bb)
      clear bb
      cases hp : rowB x
      · have HS := Lib.hid (all_no (p := rowB) (l := R) (z := []) (k := k) (by rw [HN.out.1]; exact hlt) (by rw [HX.out]; exact hp))
        clear hp
        go_wp2
        go_ret
        exact ⟨ret_bool HS.out.symm, HB1.out⟩
      · have hyes : ∀ i, i < k + 1 → rowB (R.getD i []) = true := fun i hi => by
          by_cases e : i = k
          · subst e; rw [HX.out]; exact hp
          · exact hb.out i (by omega)
        have HS := Lib.hid hyes
        clear hyes hp
        go_wp2
        go_roundw
        case rel => exact ⟨k + 1, by omega, by go_num, HS, HB1.out⟩
        case measure => simp [intOf]; omega
    · obtain rfl : k = n := by omega
      have HB := Lib.hid hB
      clear hB
      go_wp2
      go_ret
      exact ⟨ret_bool (all_yes (z := []) (fun i hi => hb.out i (by rw [← HN.out.1]; exact hi))).symm, HB.out⟩
theorem rowsok_impl (w : World) (a : Option Addr) (c : Nat) (R : List (List Int)) (hn : R.length ≤ 1048576) (ht : tot R ≤ 1048576) (h : RR w a R) :
    Calls Try.prog 39 #[.slice a R.length c] w fun e w' => e = .returned (.bool (rowsB R)) ∧ Below w.heap.size w w' := by
  have HC := Lib.hid (allrow_impl w a c R hn ht h)
  obtain ⟨q, hq⟩ : ∃ q, R.all rowB = q := ⟨_, rfl⟩
  rw [hq] at HC
  by_cases h1 : R.length ≤ 32
  · have HV : Hid (rowsB R = q) := Lib.hid (by simp [rowsB, h1, hq])
    clear h hq
    go_enter Try.func39, Try.ntmps39
    go_wp2_with fail
    ((with_reducible refine HC.out.mono ?_); rintro e w1 ⟨rfl, bb⟩)
    go_wp2
    go_ret
    exact ⟨ret_bool HV.out.symm, bb⟩
  · have HV : Hid (rowsB R = false) := Lib.hid (by simp [rowsB, h1])
    clear h hq HC
    go_enter Try.func39, Try.ntmps39
    go_wp2_with fail
    go_ret
    exact ⟨ret_bool HV.out.symm, Below.refl _ _⟩
set_option maxHeartbeats 1000000 in
theorem rowsok_spec (w : World) (a : Option Addr) (c : Nat) (R : List (List Int)) (hn : R.length ≤ 1048576) (ht : tot R ≤ 1048576) (h : RR w a R) :
    Calls Try.prog 56 #[.slice a R.length c] w fun e w' => e = .returned (.bool (rowsB R)) ∧ Below w.heap.size w w' := by
  have HP := Lib.hid h
  obtain ⟨n, hN⟩ : ∃ n, R.length = n := ⟨_, rfl⟩
  have HN := Lib.hid (And.intro hN ht)
  rw [hN] at hn ⊢
  clear hN h ht
  go_enter Try.func56, Try.ntmps56
  go_wp2
  go_loopw [3] (fun v9 wr => ∃ k : Nat, k ≤ n ∧ v9 = .int .i64 (k : Int) ∧ Hid (∀ i, i < k → rowB (R.getD i []) = true) ∧ Below w.heap.size w wr) (fun v9 _ => n - (intOf v9).toNat)
  case atStart => exact ⟨0, Nat.zero_le _, rfl, Lib.hid (fun i hi => absurd hi (Nat.not_lt_zero i)), Below.refl _ _⟩
  case round =>
    obtain ⟨k, hk, rfl, hb, hB⟩ := hrel
    by_cases hlt : k < n
    · obtain ⟨g, o, rfl, hg, hc⟩ := (HP.out.on hB).some (by rw [HN.out.1]; omega)
      obtain ⟨a', c', q, hl⟩ := hc k (by rw [HN.out.1]; exact hlt)
      have hx0 := tot_at (R := R) (k := k) (by rw [HN.out.1]; exact hlt)
      obtain ⟨x, hx⟩ : ∃ x, R.getD k [] = x := ⟨_, rfl⟩
      rw [hx] at q hl hx0
      have i0 : (0 : Int) ≤ (k : Int) := by omega
      have i1 : (k : Int) < (n : Int) := by omega
      have HX := Lib.hid hx
      have HL := Lib.hid (And.intro hl (show x.length ≤ 1048576 by have := HN.out.2; omega))
      have HB := Lib.hid hB
      clear hx hB hc hl hx0
      go_wp2_with fail
      ((with_reducible refine (row_spec _ _ _ x HL.out.2 HL.out.1).mono ?_); rintro e w1 ⟨rfl, bb⟩)
      have HB1 := Lib.hid (on_of HB.out bb)
      clear bb
      cases hp : rowB x
      · have HS := Lib.hid (all_no (p := rowB) (l := R) (z := []) (k := k) (by rw [HN.out.1]; exact hlt) (by rw [HX.out]; exact hp))
        clear hp
        go_wp2
        go_ret
        exact ⟨ret_bool (by simp [rowsB, HS.out]), HB1.out⟩
      · have hyes : ∀ i, i < k + 1 → rowB (R.getD i []) = true := fun i hi => by
          by_cases e : i = k
          · subst e; rw [HX.out]; exact hp
          · exact hb.out i (by omega)
        have HS := Lib.hid hyes
        clear hyes hp
        go_wp2
        go_roundw
        case rel => exact ⟨k + 1, by omega, by go_num, HS, HB1.out⟩
        case measure => simp [intOf]; omega
    · obtain rfl : k = n := by omega
      have HB := Lib.hid hB
      have HV : Hid (rowsB R = decide ((k : Int) ≤ 32)) := Lib.hid (by
        have := all_yes (p := rowB) (l := R) (z := []) (fun i hi => hb.out i (by rw [← HN.out.1]; exact hi))
        rw [rowsB, this, Bool.and_true, HN.out.1]
        apply decide_eq_decide.2; omega)
      clear hB
      go_wp2
      go_ret
      exact ⟨ret_bool HV.out.symm, HB.out⟩
end Go.Proofs.Ytbdjnfnphilklaa.Own
