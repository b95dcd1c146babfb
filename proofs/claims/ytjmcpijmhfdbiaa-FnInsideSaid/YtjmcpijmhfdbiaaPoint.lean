/-
  Chapter 2 on one point and one box (PointOk, BoxOk; program and model): what each call returns and that nothing that was there has turned; no condition.
-/
import Derived.Test.YtjmcpijmhfdbiaaKit
namespace Go.Proofs.Ytjmcpijmhfdbiaa.Point
open Go.ChangeShapes Go.WideShapes Go.ChangeAt Go.RowKit
open Kit
set_option linter.unusedVariables false
set_option linter.unusedSimpArgs false
set_option linter.unnecessarySimpa false
attribute [local go_sem ↓] run_mx run_mn

def inB (n : Int) : Bool := decide (-200 ≤ n ∧ n ≤ 200)

def pokB (x y : Int) : Bool := inB x && inB y

def bokB (x0 y0 x1 y1 : Int) : Bool := inB x0 && inB y0 && inB x1 && inB y1 && decide (x0 ≤ x1) && decide (y0 ≤ y1)

theorem inB_true {n : Int} (h : inB n = true) : -200 ≤ n ∧ n ≤ 200 := by simpa [inB] using h

theorem coord_any (n : Int) (w : World) : Calls Try.prog 32 #[.int .i64 n] w fun e w' => e = .returned (.bool (inB n)) ∧ w = w' := by
  by_cases h1 : -200 ≤ n <;> by_cases h2 : n ≤ 200
  all_goals
    go_enter Try.func32, Try.ntmps32
    go_wp2
    go_ret
    exact ⟨ret_bool (by simp [inB, h1, h2]), rfl⟩

theorem in_any (x a b : Int) (w : World) : Calls Try.prog 49 #[.int .i64 x, .int .i64 a, .int .i64 b] w fun e w' => e = .returned (.bool (decide (a ≤ x ∧ x ≤ b))) ∧ w = w' := by
  by_cases h1 : a ≤ x <;> by_cases h2 : x ≤ b
  all_goals
    go_enter Try.func49, Try.ntmps49
    go_wp2
    go_ret
    exact ⟨ret_bool (by simp [h1, h2]), rfl⟩

theorem in2_any (n : Int) (w : World) : Calls Try.prog 42 #[.int .i64 n] w fun e w' => e = .returned (.bool (inB n)) ∧ w = w' := by
  go_enter Try.func42, Try.ntmps42
  go_wp2_with (go_at_call 49; refine (in_any _ _ _ _).mono ?_; rintro e w' ⟨rfl, rfl⟩)
  go_ret
  exact ⟨ret_bool (by simp [inB]), rfl⟩

theorem pok_impl (x y : Int) (w : World) : Calls Try.prog 34 #[.agg #[.int .i64 x, .int .i64 y]] w fun e w' => e = .returned (.bool (pokB x y)) ∧ Below w.heap.size w w' := by
  by_cases h1 : inB x = true
  all_goals
    try simp only [Bool.not_eq_true] at h1
    go_enter Try.func34, Try.ntmps34
    go_wp2_with (go_at_call 32; refine (coord_any _ _).mono ?_; rintro e w' ⟨rfl, rfl⟩)
    go_ret
    exact ⟨ret_bool (by simp [pokB, h1]), by go_grown⟩

theorem pok_spec (x y : Int) (w : World) : Calls Try.prog 46 #[.agg #[.int .i64 x, .int .i64 y]] w fun e w' => e = .returned (.bool (pokB x y)) ∧ Below w.heap.size w w' := by
  by_cases h1 : inB x = true
  all_goals
    try simp only [Bool.not_eq_true] at h1
    go_enter Try.func46, Try.ntmps46
    go_wp2_with (go_at_call 42; refine (in2_any _ _).mono ?_; rintro e w' ⟨rfl, rfl⟩)
    go_ret
    exact ⟨ret_bool (by simp [pokB, h1]), by go_grown⟩

theorem bok_spec (x0 y0 x1 y1 : Int) (w : World) : Calls Try.prog 41 #[.agg #[.int .i64 x0, .int .i64 y0, .int .i64 x1, .int .i64 y1]] w fun e w' => e = .returned (.bool (bokB x0 y0 x1 y1)) ∧ Below w.heap.size w w' := by
  rcases four (inB x0) (inB y0) (inB x1) (inB y1) with h1 | ⟨h1, h2⟩ | ⟨h1, h2, h3⟩ | ⟨h1, h2, h3, h4⟩ | ⟨h1, h2, h3, h4⟩
  all_goals
    go_enter Try.func41, Try.ntmps41
    go_wp2_with (go_at_call 42; refine (in2_any _ _).mono ?_; rintro e w' ⟨rfl, rfl⟩)
    all_goals
      go_ret
      exact ⟨ret_bool (by simp [bokB, *]; try omega), by go_grown⟩

theorem bok_two (x0 y0 x1 y1 : Int) : bokB x0 y0 x1 y1 = (pokB x0 y0 && pokB x1 y1 && (decide (x0 ≤ x1) && decide (y0 ≤ y1))) := by
  simp [bokB, pokB, Bool.and_assoc]

theorem bok_impl (x0 y0 x1 y1 : Int) (w : World) : Calls Try.prog 40 #[.agg #[.int .i64 x0, .int .i64 y0, .int .i64 x1, .int .i64 y1]] w fun e w' => e = .returned (.bool (bokB x0 y0 x1 y1)) ∧ Below w.heap.size w w' := by
  cases h1 : pokB x0 y0 <;> cases h2 : pokB x1 y1
  all_goals
    go_enter Try.func40, Try.ntmps40
    go_wp2_with (go_at_call 34; refine (pok_impl _ _ _).mono ?_; rintro e w' ⟨rfl, hb⟩; have hB := on_of (W := w) (by go_grown) hb; obtain ⟨hc, hf⟩ := bcell hb; have hz : w.heap.size < w'.heap.size := (by have := hb.size; (try simp at this); omega); clear hb)
    all_goals
      go_ret
      exact ⟨ret_bool (by rw [bok_two]; simp [h1, h2]; try omega), by go_grown⟩

theorem bok_true {x0 y0 x1 y1 : Int} (h : bokB x0 y0 x1 y1 = true) : -200 ≤ x0 ∧ -200 ≤ y0 ∧ x1 ≤ 200 ∧ y1 ≤ 200 ∧ x0 ≤ x1 ∧ y0 ≤ y1 := by
  simp [bokB, inB] at h; omega

theorem bok_iff (x0 y0 x1 y1 : Int) : bokB x0 y0 x1 y1 = true ↔ -200 ≤ x0 ∧ -200 ≤ y0 ∧ x1 ≤ 200 ∧ y1 ≤ 200 ∧ x0 ≤ x1 ∧ y0 ≤ y1 := by
  simp [bokB, inB]; omega

end Go.Proofs.Ytjmcpijmhfdbiaa.Point
