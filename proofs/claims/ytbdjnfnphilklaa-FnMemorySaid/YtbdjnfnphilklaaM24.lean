/-
  Texts of this seat, laid together: PsI8, Cl9
-/
import Derived.Test.YtbdjnfnphilklaaM05
import Derived.Test.YtbdjnfnphilklaaM22
namespace Go.Proofs.Ytbdjnfnphilklaa.Ins
open Go.ChangeShapes Go.WideShapes Go.ChangeAt Go.RowKit
open Kit Point
set_option linter.unusedVariables false
set_option linter.unusedSimpArgs false
set_option linter.unnecessarySimpa false
def byd (lx ly hx hy x y : Int) : Int := (2 * (lx - x) - 1) * (hy - ly) + (2 * (y - ly) + 1) * (hx - lx)
def psL (lx ly hx hy x y : Int) : Int := if y < ly ∨ hy ≤ y then 0 else if 0 < byd lx ly hx hy x y then 2 else 1
def psV (ax ay bx b1 x y : Int) : Int := if b1 < ay then psL bx b1 ax ay x y else psL ax ay bx b1 x y
theorem byd_lt (lx ly hx hy x y : Int) : 0 < byd lx ly hx hy x y ↔ (2 * x + 1 - 2 * lx) * 2 * (hy - ly) < (2 * y + 1 - 2 * ly) * 2 * (hx - lx) := by
  unfold byd
  have e1 : (2 * x + 1 - 2 * lx) * 2 * (hy - ly) = -(2 * ((2 * (lx - x) - 1) * (hy - ly))) := by
    rw [show (2 * x + 1 - 2 * lx) * 2 = -(2 * (2 * (lx - x) - 1)) by omega, Int.neg_mul, Int.mul_assoc]
  have e2 : (2 * y + 1 - 2 * ly) * 2 * (hx - lx) = 2 * ((2 * (y - ly) + 1) * (hx - lx)) := by
    rw [show (2 * y + 1 - 2 * ly) * 2 = 2 * (2 * (y - ly) + 1) by omega, Int.mul_assoc]
  rw [e1, e2]; omega
theorem psL_two (lx ly hx hy x y : Int) : psL lx ly hx hy x y = 2 ↔ ly ≤ y ∧ y < hy ∧ 0 < byd lx ly hx hy x y := by
  unfold psL
  by_cases h : y < ly ∨ hy ≤ y
  · rw [if_pos h]; omega
  · rw [if_neg h]; by_cases h2 : 0 < byd lx ly hx hy x y
    · rw [if_pos h2]; omega
    · rw [if_neg h2]; omega
theorem ps_crs (ax ay bx b1 x y : Int) : decide (psV ax ay bx b1 x y = 2) = crs (ax, ay) (bx, b1) x y := by
  unfold psV crs
  by_cases hl : b1 < ay
  · rw [if_pos hl]
    simp only [psL_two, byd_lt]
    by_cases h : (decide (2 * y + 1 < 2 * ay) == decide (2 * y + 1 < 2 * b1)) = true
    · rw [if_pos h, decide_eq_false_iff_not]; simp only [beq_iff_eq, decide_eq_decide] at h; omega
    · rw [if_neg h, if_pos hl, decide_eq_decide]; simp only [beq_iff_eq, decide_eq_decide] at h
      refine ⟨fun k => k.2.2, fun k => ⟨by omega, by omega, k⟩⟩
  · rw [if_neg hl]
    simp only [psL_two, byd_lt]
    by_cases h : (decide (2 * y + 1 < 2 * ay) == decide (2 * y + 1 < 2 * b1)) = true
    · rw [if_pos h, decide_eq_false_iff_not]; simp only [beq_iff_eq, decide_eq_decide] at h; omega
    · rw [if_neg h, if_neg hl, decide_eq_decide]; simp only [beq_iff_eq, decide_eq_decide] at h
      refine ⟨fun k => k.2.2, fun k => ⟨by omega, by omega, k⟩⟩
set_option maxHeartbeats 1000000 in
theorem ps_impl (ax ay bx b1 x y : Int) (w : World) (ha : pokB ax ay = true) (hb : pokB bx b1 = true) (hx : inB x = true) (hy : inB y = true) :
    Calls Try.prog 136 #[.agg #[.int .i64 ax, .int .i64 ay, .int .i64 bx, .int .i64 b1], .int .i64 x, .int .i64 y] w fun e w' => e = .returned (.int .i64 (psV ax ay bx b1 x y)) ∧ Below w.heap.size w w' := by
  simp only [pokB, Bool.and_eq_true] at ha hb
  obtain ⟨a0, a1⟩ := ha
  obtain ⟨c0, c1⟩ := hb
  have a2 := inB_true a0; have a3 := inB_true a1; have c2 := inB_true c0; have c3 := inB_true c1; have x2 := inB_true hx; have y2 := inB_true hy
  clear a0 a1 c0 c1 hx hy
  by_cases hl : b1 < ay
  · have HV : psV ax ay bx b1 x y = psL bx b1 ax ay x y := by simp [psV, hl]
    rw [HV]
    clear HV
    obtain ⟨m0, m1⟩ := @mul_bd (2 * (bx - x) - 1) (ay - b1) 802 400 (by omega) (by omega)
    obtain ⟨m2, m3⟩ := @mul_bd (2 * (y - b1) + 1) (ax - bx) 802 400 (by omega) (by omega)
    rcases (show y < b1 ∨ (b1 ≤ y ∧ ay ≤ y) ∨ (b1 ≤ y ∧ y < ay) by omega) with h | ⟨h, h2⟩ | ⟨h, h2⟩
    · rw [show psL bx b1 ax ay x y = 0 by simp [psL, h]]
      go_enter Try.func136, Try.ntmps136
      go_upto_region 1 with (fail)
      go_region
      all_goals
        go_wp2
        go_ret
        exact ⟨rfl, by go_grown⟩
    · rw [show psL bx b1 ax ay x y = 0 by simp [psL, h2]]
      go_enter Try.func136, Try.ntmps136
      go_upto_region 1 with (fail)
      go_region
      all_goals
        go_wp2
        go_ret
        exact ⟨rfl, by go_grown⟩
    · have HL : psL bx b1 ax ay x y = if 0 < byd bx b1 ax ay x y then 2 else 1 := by
        unfold psL; rw [if_neg (by omega)]
      rw [HL]; clear HL
      by_cases hz : 0 < byd bx b1 ax ay x y
      · rw [if_pos hz]; unfold byd at hz
        go_enter Try.func136, Try.ntmps136
        go_upto_region 1 with (fail)
        go_region
        all_goals
          go_wp2
          go_ret
          exact ⟨rfl, by go_grown⟩
      · rw [if_neg hz]; unfold byd at hz
        go_enter Try.func136, Try.ntmps136
        go_upto_region 1 with (fail)
        go_region
        all_goals
          go_wp2
          go_ret
          exact ⟨rfl, by go_grown⟩
  · have HV : psV ax ay bx b1 x y = psL ax ay bx b1 x y := by simp [psV, hl]
    have hl : ay ≤ b1 := by omega
    rw [HV]
    clear HV
    obtain ⟨m0, m1⟩ := @mul_bd (2 * (ax - x) - 1) (b1 - ay) 802 400 (by omega) (by omega)
    obtain ⟨m2, m3⟩ := @mul_bd (2 * (y - ay) + 1) (bx - ax) 802 400 (by omega) (by omega)
    rcases (show y < ay ∨ (ay ≤ y ∧ b1 ≤ y) ∨ (ay ≤ y ∧ y < b1) by omega) with h | ⟨h, h2⟩ | ⟨h, h2⟩
    · rw [show psL ax ay bx b1 x y = 0 by simp [psL, h]]
      go_enter Try.func136, Try.ntmps136
      go_upto_region 1 with (fail)
      go_region
      all_goals
        go_wp2
        go_ret
        exact ⟨rfl, by go_grown⟩
    · rw [show psL ax ay bx b1 x y = 0 by simp [psL, h2]]
      go_enter Try.func136, Try.ntmps136
      go_upto_region 1 with (fail)
      go_region
      all_goals
        go_wp2
        go_ret
        exact ⟨rfl, by go_grown⟩
    · have HL : psL ax ay bx b1 x y = if 0 < byd ax ay bx b1 x y then 2 else 1 := by
        unfold psL; rw [if_neg (by omega)]
      rw [HL]; clear HL
      by_cases hz : 0 < byd ax ay bx b1 x y
      · rw [if_pos hz]; unfold byd at hz
        go_enter Try.func136, Try.ntmps136
        go_upto_region 1 with (fail)
        go_region
        all_goals
          go_wp2
          go_ret
          exact ⟨rfl, by go_grown⟩
      · rw [if_neg hz]; unfold byd at hz
        go_enter Try.func136, Try.ntmps136
        go_upto_region 1 with (fail)
        go_region
        all_goals
          go_wp2
          go_ret
          exact ⟨rfl, by go_grown⟩
end Go.Proofs.Ytbdjnfnphilklaa.Ins
namespace Go.Proofs.Ytbdjnfnphilklaa.Ins
open Point
set_option linter.unusedVariables false
set_option linter.unusedSimpArgs false
set_option linter.unnecessarySimpa false
theorem byd_two (lx ly hx hy x y : Int) : byd lx ly hx hy x y = (2 * (hy - ly) - (2 * (y - ly) + 1)) * (lx - x) + (2 * (y - ly) + 1) * (hx - x) - (hy - ly) := by
  unfold byd
  generalize hy - ly = h
  generalize 2 * (y - ly) + 1 = t
  have e1 : (2 * (lx - x) - 1) * h = 2 * (h * (lx - x)) - h := by rw [Int.sub_mul, Int.one_mul, Int.mul_assoc, Int.mul_comm (lx - x) h]
  have e2 : (2 * h - t) * (lx - x) = 2 * (h * (lx - x)) - t * (lx - x) := by rw [Int.sub_mul, Int.mul_assoc]
  have e3 : t * (hx - lx) = t * (hx - x) - t * (lx - x) := by rw [← Int.mul_sub]; congr 1; omega
  omega
theorem mul_ge_one {a b : Int} (ha : 1 ≤ a) (hb : 1 ≤ b) : a ≤ a * b := by
  have := Int.mul_le_mul_of_nonneg_left hb (show 0 ≤ a by omega)
  omega
theorem mul_np {a b : Int} (ha : 0 ≤ a) (hb : b ≤ 0) : a * b ≤ 0 := by
  have := Int.mul_le_mul_of_nonneg_left hb ha
  omega
theorem byd_right {lx ly hx hy x y : Int} (h1 : ly ≤ y) (h2 : y < hy) (ha : lx ≤ x) (hb : hx ≤ x) : ¬ 0 < byd lx ly hx hy x y := by
  rw [byd_two]
  have := @mul_np (2 * (hy - ly) - (2 * (y - ly) + 1)) (lx - x) (by omega) (by omega)
  have := @mul_np (2 * (y - ly) + 1) (hx - x) (by omega) (by omega)
  omega
theorem byd_left {lx ly hx hy x y : Int} (h1 : ly ≤ y) (h2 : y < hy) (ha : x < lx) (hb : x < hx) : 0 < byd lx ly hx hy x y := by
  rw [byd_two]
  have := @mul_ge_one (2 * (hy - ly) - (2 * (y - ly) + 1)) (lx - x) (by omega) (by omega)
  have := @mul_ge_one (2 * (y - ly) + 1) (hx - x) (by omega) (by omega)
  omega
theorem byd_mono {lx ly hx hy x x' y : Int} (h : ly < hy) (hx' : x' ≤ x) (hb : 0 < byd lx ly hx hy x y) : 0 < byd lx ly hx hy x' y := by
  unfold byd at *
  have e : (2 * (lx - x) - 1) * (hy - ly) ≤ (2 * (lx - x') - 1) * (hy - ly) := Int.mul_le_mul_of_nonneg_right (by omega) (by omega)
  omega
def psg (s : Pt × Pt) (y : Int) : Bool := decide (s.1.2 ≤ y) != decide (s.2.2 ≤ y)
theorem psL_zero (lx ly hx hy x y : Int) : psL lx ly hx hy x y = 0 ↔ ¬ (ly ≤ y ∧ y < hy) := by
  unfold psL
  by_cases h : y < ly ∨ hy ≤ y
  · rw [if_pos h]; omega
  · rw [if_neg h]; split <;> omega
theorem ps_zero (ax ay bx b1 x y : Int) : psV ax ay bx b1 x y = 0 ↔ psg ((ax, ay), (bx, b1)) y = false := by
  unfold psV psg
  by_cases hl : b1 < ay
  · rw [if_pos hl, psL_zero]
    by_cases h1 : ay ≤ y <;> by_cases h2 : b1 ≤ y <;> simp [h1, h2] <;> omega
  · rw [if_neg hl, psL_zero]
    by_cases h1 : ay ≤ y <;> by_cases h2 : b1 ≤ y <;> simp [h1, h2] <;> omega
theorem ps_two_lt {ax ay bx b1 x y : Int} (h : b1 < ay) : psV ax ay bx b1 x y = 2 ↔ b1 ≤ y ∧ y < ay ∧ 0 < byd bx b1 ax ay x y := by
  rw [psV, if_pos h, psL_two]
theorem ps_two_ge {ax ay bx b1 x y : Int} (h : ¬ b1 < ay) : psV ax ay bx b1 x y = 2 ↔ ay ≤ y ∧ y < b1 ∧ 0 < byd ax ay bx b1 x y := by
  rw [psV, if_neg h, psL_two]
theorem ps_mono {ax ay bx b1 x x' y : Int} (hx : x' ≤ x) (h : psV ax ay bx b1 x y = 2) : psV ax ay bx b1 x' y = 2 := by
  by_cases hl : b1 < ay
  · rw [ps_two_lt hl] at *; exact ⟨h.1, h.2.1, byd_mono hl hx h.2.2⟩
  · rw [ps_two_ge hl] at *; exact ⟨h.1, h.2.1, byd_mono (by omega) hx h.2.2⟩
theorem ps_right {ax ay bx b1 x y : Int} (ha : ax ≤ x) (hb : bx ≤ x) : psV ax ay bx b1 x y ≠ 2 := by
  intro h
  by_cases hl : b1 < ay
  · rw [ps_two_lt hl] at h; exact byd_right h.1 h.2.1 hb ha h.2.2
  · rw [ps_two_ge hl] at h; exact byd_right h.1 h.2.1 ha hb h.2.2
theorem ps_left {ax ay bx b1 x y : Int} (hp : psg ((ax, ay), (bx, b1)) y = true) (ha : x < ax) (hb : x < bx) : psV ax ay bx b1 x y = 2 := by
  have hn : ¬ psV ax ay bx b1 x y = 0 := by rw [ps_zero, hp]; simp
  by_cases hl : b1 < ay
  · rw [ps_two_lt hl]
    rw [psV, if_pos hl, psL_zero] at hn
    exact ⟨by omega, by omega, byd_left (by omega) (by omega) hb ha⟩
  · rw [ps_two_ge hl]
    rw [psV, if_neg hl, psL_zero] at hn
    exact ⟨by omega, by omega, byd_left (by omega) (by omega) ha hb⟩
theorem cnt_edge (p : Nat → Bool) : ∀ (n : Nat), (∀ a b, a ≤ b → b < n → p b = true → p a = true) → ∀ i, i < n → (p i = true ↔ i < (List.range n).countP p)
  | 0, _, i, hi => by omega
  | n + 1, h, i, hi => by
    have ih := cnt_edge p n (fun a b hab hb => h a b hab (by omega))
    have hle : (List.range n).countP p ≤ n := by have := List.countP_le_length (p := p) (l := List.range n); simpa using this
    rw [List.range_succ, List.countP_append, List.countP_singleton]
    cases hp : p n with
    | false =>
      simp only [Bool.false_eq_true, if_false, Nat.add_zero]
      by_cases e : i = n
      · subst e; rw [hp]; simp; omega
      · exact ih i (by omega)
    | true =>
      have hall : (List.range n).countP p = n := by
        have := (List.countP_eq_length (p := p) (l := List.range n)).2 (fun a ha => h a n (by have := List.mem_range.1 ha; omega) (by omega) hp)
        rw [this, List.length_range]
      rw [hall]
      simp only [if_true]
      exact ⟨fun _ => hi, fun _ => h i n (by omega) (by omega) hp⟩
def fnb (ax ay bx b1 y : Int) : Int := (((List.range 401).countP fun i : Nat => decide (psV ax ay bx b1 ((i : Int) - 200) y = 2) : Nat) : Int) - 200
theorem fnb_edge {ax ay bx b1 x y : Int} (h : -200 ≤ x ∧ x ≤ 200) : psV ax ay bx b1 x y = 2 ↔ x < fnb ax ay bx b1 y := by
  have e := cnt_edge (fun i : Nat => decide (psV ax ay bx b1 ((i : Int) - 200) y = 2)) 401 (fun a b hab hb hp => by
    simp only [decide_eq_true_eq] at *; exact ps_mono (by omega) hp) (x + 200).toNat (by omega)
  have hx : (((x + 200).toNat : Nat) : Int) - 200 = x := by omega
  simp only [decide_eq_true_eq, hx] at e
  rw [e]; unfold fnb; omega
theorem fnb_le {ax ay bx b1 y X : Int} (h : -200 ≤ X ∧ X ≤ 200) (ha : ax ≤ X) (hb : bx ≤ X) : fnb ax ay bx b1 y ≤ X := by
  have e := @fnb_edge ax ay bx b1 X y h
  have n := @ps_right ax ay bx b1 X y ha hb
  rw [ne_eq, e] at n; omega
theorem fnb_ge {ax ay bx b1 y X : Int} (h : -200 ≤ X ∧ X ≤ 200) (hp : psg ((ax, ay), (bx, b1)) y = true) (ha : X ≤ ax) (hb : X ≤ bx) : X ≤ fnb ax ay bx b1 y := by
  by_cases e : X = -200
  · subst e; unfold fnb; omega
  · have := (@fnb_edge ax ay bx b1 (X - 1) y (by omega)).1 (ps_left hp (by omega) (by omega)); omega
def sdk (l : List Pt) (k : Nat) : Pt × Pt := ((pX l k, pY l k), (pX l ((k + 1) % l.length), pY l ((k + 1) % l.length)))
theorem sides_sdk (l : List Pt) {k : Nat} (h : k < l.length) : (sides l)[k]? = some (sdk l k) := by
  rw [sides_get l k h, getp l h, getp l (Nat.mod_lt _ (by omega))]; rfl
def colsK (l : List Pt) (y : Int) : Nat → List Int
  | 0 => []
  | k + 1 => if psg (sdk l k) y then tog (colsK l y k) (fnb (sdk l k).1.1 (sdk l k).1.2 (sdk l k).2.1 (sdk l k).2.2 y) else colsK l y k
theorem cols_sorted (l : List Pt) (y : Int) : ∀ k, (colsK l y k).Pairwise (· < ·)
  | 0 => List.Pairwise.nil
  | k + 1 => by
    rw [colsK]; split
    · exact tog_sorted (cols_sorted l y k) _
    · exact cols_sorted l y k
theorem cols_len (l : List Pt) (y : Int) : ∀ k, (colsK l y k).length ≤ k
  | 0 => Nat.le_refl _
  | k + 1 => by
    have := cols_len l y k
    rw [colsK]; split
    · have := (tog_len (cols_sorted l y k) (fnb (sdk l k).1.1 (sdk l k).1.2 (sdk l k).2.1 (sdk l k).2.2 y)).2; omega
    · omega
def psgK (l : List Pt) (y : Int) (k : Nat) : Bool := odd (((sides l).take k).map fun s => psg s y)
theorem psgK_succ (l : List Pt) (y : Int) {k : Nat} (h : k < l.length) : psgK l y (k + 1) = (psgK l y k != psg (sdk l k) y) := by
  unfold psgK
  rw [List.take_add_one, sides_sdk l h, List.map_append, odd_app]; simp [odd]
theorem cols_par (l : List Pt) (y : Int) : ∀ k, k ≤ l.length → decide ((colsK l y k).length % 2 = 1) = psgK l y k
  | 0, _ => by simp [colsK, psgK, odd]
  | k + 1, hk => by
    have ih := cols_par l y k (by omega)
    rw [psgK_succ l y (by omega), ← ih, colsK]
    cases hp : psg (sdk l k) y
    · simp
    · have := (tog_len (cols_sorted l y k) (fnb (sdk l k).1.1 (sdk l k).1.2 (sdk l k).2.1 (sdk l k).2.2 y)).1
      simp only [if_true]
      rw [show ∀ a : Bool, (a != true) = !a by intro a; cases a <;> rfl, ← decide_not, decide_eq_decide]; omega
theorem cp_xor (f : Pt → Bool) : ∀ (l : List Pt) (a b : Pt), odd ((cp (a :: (l ++ [b]))).map fun s => f s.1 != f s.2) = (f a != f b)
  | [], a, b => by simp [cp, odd]
  | x :: r, a, b => by
    have := cp_xor f r x b
    simp only [List.cons_append, cp, List.map_cons, odd, this]
    cases f a <;> cases f x <;> cases f b <;> rfl
theorem sides_xor (f : Pt → Bool) (l : List Pt) : odd ((sides l).map fun s => f s.1 != f s.2) = false := by
  cases l with
  | nil => rfl
  | cons h t =>
    show odd ((cp (h :: (t ++ [h]))).map _) = false
    rw [cp_xor f t h h]; simp
theorem cols_even (l : List Pt) (y : Int) : (colsK l y l.length).length % 2 = 0 := by
  have h := cols_par l y l.length (Nat.le_refl _)
  have e : psgK l y l.length = false := by
    unfold psgK
    rw [List.take_of_length_le (by rw [sides_len]; exact Nat.le_refl _)]
    exact sides_xor (fun p => decide (p.2 ≤ y)) l
  rw [e, decide_eq_false_iff_not] at h
  omega
theorem crs_sdk (l : List Pt) (x y : Int) (k : Nat) : crs (sdk l k).1 (sdk l k).2 x y = decide (psV (sdk l k).1.1 (sdk l k).1.2 (sdk l k).2.1 (sdk l k).2.2 x y = 2) := (ps_crs _ _ _ _ _ _).symm
theorem insK_sdk (l : List Pt) (x y : Int) {k : Nat} (h : k < l.length) : insK l x y (k + 1) = (insK l x y k != crs (sdk l k).1 (sdk l k).2 x y) := insK_succ l x y h
theorem cols_ins (l : List Pt) {x y : Int} (hx : -200 ≤ x ∧ x ≤ 200) : ∀ k, k ≤ l.length → decide (above (colsK l y k) x % 2 = 1) = insK l x y k
  | 0, _ => by simp [colsK, insK_zero, above]
  | k + 1, hk => by
    have ih := cols_ins l (y := y) hx k (by omega)
    rw [insK_sdk l x y (by omega), ← ih, crs_sdk, colsK]
    cases hp : psg (sdk l k) y
    · have : ¬ psV (sdk l k).1.1 (sdk l k).1.2 (sdk l k).2.1 (sdk l k).2.2 x y = 2 := by
        have := (ps_zero (sdk l k).1.1 (sdk l k).1.2 (sdk l k).2.1 (sdk l k).2.2 x y).2 hp; omega
      rw [decide_eq_false this]; simp
    · simp only [if_true]
      have h1 := tog_above (cols_sorted l y k) (fnb (sdk l k).1.1 (sdk l k).1.2 (sdk l k).2.1 (sdk l k).2.2 y) x
      have h2 := @fnb_edge (sdk l k).1.1 (sdk l k).1.2 (sdk l k).2.1 (sdk l k).2.2 x y hx
      by_cases hq : psV (sdk l k).1.1 (sdk l k).1.2 (sdk l k).2.1 (sdk l k).2.2 x y = 2
      · rw [decide_eq_true hq, show ∀ a : Bool, (a != true) = !a by intro a; cases a <;> rfl, ← decide_not, decide_eq_decide]
        rw [if_pos (h2.1 hq)] at h1; omega
      · rw [decide_eq_false hq, show ∀ a : Bool, (a != false) = a by intro a; cases a <;> rfl, decide_eq_decide]
        rw [if_neg (fun h => hq (h2.2 h))] at h1; omega
theorem cols_in (l : List Pt) {y X0 X1 : Int} (h0 : -200 ≤ X0 ∧ X0 ≤ 200) (h1 : -200 ≤ X1 ∧ X1 ≤ 200) (h : ∀ k, k < l.length → X0 ≤ pX l k ∧ pX l k ≤ X1) : ∀ k, k ≤ l.length → ∀ d ∈ colsK l y k, X0 ≤ d ∧ d ≤ X1
  | 0, _, d, hd => by simp [colsK] at hd
  | k + 1, hk, d, hd => by
    have ih := cols_in l (y := y) h0 h1 h k (by omega)
    rw [colsK] at hd
    cases hp : psg (sdk l k) y
    · rw [hp] at hd; exact ih d (by simpa using hd)
    · rw [hp] at hd
      simp only [if_true] at hd
      rcases tog_mem (cols_sorted l y k) _ d hd with rfl | hd
      · have a := h k (by omega)
        have b := h ((k + 1) % l.length) (Nat.mod_lt _ (by omega))
        exact ⟨fnb_ge h0 hp a.1 b.1, fnb_le h1 a.2 b.2⟩
      · exact ih d hd
def spsV (l : List Pt) (y : Int) : List Pt := if pathB l && inB y then prs (colsK l y l.length) else []
theorem sps_in {l : List Pt} {y : Int} {X0 X1 : Int} (h0 : -200 ≤ X0 ∧ X0 ≤ 200) (h1 : -200 ≤ X1 ∧ X1 ≤ 200) (h : ∀ k, k < l.length → X0 ≤ pX l k ∧ pX l k ≤ X1) (x : Int) :
    inS (prs (colsK l y l.length)) x = (decide (X0 ≤ x ∧ x < X1) && insP l x y) := by
  rw [prs_in (cols_sorted l y _) (cols_even l y)]
  have hc := cols_in l (y := y) h0 h1 h l.length (Nat.le_refl _)
  by_cases hx : X0 ≤ x ∧ x < X1
  · rw [decide_eq_true hx, Bool.true_and, cols_ins l (by omega) l.length (Nat.le_refl _), insK_all]
  · rw [decide_eq_false hx, Bool.false_and, decide_eq_false_iff_not]
    by_cases hl : x < X0
    · rw [above_all fun d hd => by have := hc d hd; omega, cols_even l y]; omega
    · rw [above_none fun d hd => by have := hc d hd; omega]; omega
theorem ins_out {l : List Pt} {y x X1 : Int} (hx : -200 ≤ x ∧ x ≤ 200) (h1 : -200 ≤ X1 ∧ X1 ≤ x) (h : ∀ k, k < l.length → -200 ≤ pX l k ∧ pX l k ≤ X1) : insP l x y = false := by
  have e := cols_ins l (y := y) hx l.length (Nat.le_refl _)
  rw [insK_all] at e
  rw [← e, above_none fun d hd => ?_]
  · rfl
  · have := cols_in l (y := y) (X0 := -200) (X1 := X1) (by omega) (by omega) h l.length (Nat.le_refl _) d hd; omega
theorem ins_out0 {l : List Pt} {y x X0 : Int} (hx : -200 ≤ x ∧ x < X0) (h1 : X0 ≤ 200) (h : ∀ k, k < l.length → X0 ≤ pX l k ∧ pX l k ≤ 200) : insP l x y = false := by
  have e := cols_ins l (y := y) (x := x) (by omega) l.length (Nat.le_refl _)
  rw [insK_all] at e
  rw [← e, above_all fun d hd => ?_]
  · rw [decide_eq_false_iff_not, cols_even]; omega
  · have := cols_in l (y := y) (X0 := X0) (X1 := 200) (by omega) (by omega) h l.length (Nat.le_refl _) d hd; omega
theorem scn_sps {l : List Pt} {y X0 X1 : Int} (h0 : -200 ≤ X0 ∧ X0 ≤ X1) (h1 : X1 ≤ 200) (h : ∀ k, k < l.length → X0 ≤ pX l k ∧ pX l k ≤ X1) :
    (scn (fun x => insP l x y) X0 (X1 + 1 - X0).toNat).out = prs (colsK l y l.length) := by
  have S := scn_ok (fun x => insP l x y) X0 (X1 + 1 - X0).toNat
  have hX : X0 + (((X1 + 1 - X0).toNat : Nat) : Int) = X1 + 1 := by omega
  rw [hX] at S
  have hz : insP l X1 y = false := ins_out (X1 := X1) (by omega) (by omega) fun k hk => by have := h k hk; omega
  have hon : (scn (fun x => insP l x y) X0 (X1 + 1 - X0).toNat).on = false := by
    obtain ⟨k, hk⟩ : ∃ k, (X1 + 1 - X0).toNat = k + 1 := ⟨(X1 - X0).toNat, by omega⟩
    rw [hk]
    show insP l (X0 + (k : Int)) y = false
    rw [show X0 + (k : Int) = X1 by omega]; exact hz
  refine Sep.unique S.sep (prs_sep (cols_sorted l y _)) fun x => ?_
  have hm := S.mem x
  rw [hon, Bool.false_and, Bool.or_false] at hm
  rw [hm, sps_in (X0 := X0) (X1 := X1) (by omega) (by omega) h]
  by_cases e : x = X1
  · subst e; rw [hz]; simp
  · congr 1; rw [decide_eq_decide]; omega
end Go.Proofs.Ytbdjnfnphilklaa.Ins
