/-
  Texts of this seat, laid together: PsI8, Cl9, Tg9b, Fb9, SdI8
-/
import Derived.Laws.MakeOwn
import Derived.Laws.Entries
import Derived.Test.YtbdjnfnphilklaaGreatV07
import Derived.Test.YtbdjnfnphilklaaGreatV21
import Derived.Test.YtbdjnfnphilklaaGreatV17
import Derived.Test.YtbdjnfnphilklaaGreatV02
namespace Go.Proofs.YtbdjnfnphilklaaGreat.Ins
open Go.ChangeShapes Go.WideShapes Go.ChangeAt Go.RowKit
open Kit Point
set_option linter.unusedVariables false
set_option linter.unusedSimpArgs false
set_option linter.unnecessarySimpa false
def byd (lx ly hx hy x y : Int) : Int := (2 * (lx - x) - 1) * (hy - ly) + (2 * (y - ly) + 1) * (hx - lx)
def psL (lx ly hx hy x y : Int) : Int := if y < ly ∨ hy ≤ y then 0 else if 0 < byd lx ly hx hy x y then 2 else 1
def psV (ax ay bx b1 x y : Int) : Int := if b1 < ay then psL bx b1 ax ay x y else psL ax ay bx b1 x y
theorem byd_lt (lx ly hx hy x y : Int) : 0 < byd lx ly hx hy x y ↔ (2 * x + 1 - 2 * lx) * 2 * (hy - ly) < (2 * y + 1 - 2 * ly) * 2 * (hx - lx) := by
  unfold byd
  have e1 : (2 * x + 1 - 2 * lx) * 2 * (hy - ly) = -(2 * ((2 * (lx - x) - 1) * (hy - ly))) := by
    rw [show (2 * x + 1 - 2 * lx) * 2 = -(2 * (2 * (lx - x) - 1)) by omega, Int.neg_mul, Int.mul_assoc]
  have e2 : (2 * y + 1 - 2 * ly) * 2 * (hx - lx) = 2 * ((2 * (y - ly) + 1) * (hx - lx)) := by
    rw [show (2 * y + 1 - 2 * ly) * 2 = 2 * (2 * (y - ly) + 1) by omega, Int.mul_assoc]
  rw [e1, e2]; omega
theorem psL_two (lx ly hx hy x y : Int) : psL lx ly hx hy x y = 2 ↔ ly ≤ y ∧ y < hy ∧ 0 < byd lx ly hx hy x y := by
  unfold psL
  by_cases h : y < ly ∨ hy ≤ y
  · rw [if_pos h]; omega
  · rw [if_neg h]; by_cases h2 : 0 < byd lx ly hx hy x y
    · rw [if_pos h2]; omega
    · rw [if_neg h2]; omega
theorem ps_crs (ax ay bx b1 x y : Int) : decide (psV ax ay bx b1 x y = 2) = crs (ax, ay) (bx, b1) x y := by
  unfold psV crs
  by_cases hl : b1 < ay
  · rw [if_pos hl]
    simp only [psL_two, byd_lt]
    by_cases h : (decide (2 * y + 1 < 2 * ay) == decide (2 * y + 1 < 2 * b1)) = true
    · rw [if_pos h, decide_eq_false_iff_not]; simp only [beq_iff_eq, decide_eq_decide] at h; omega
    · rw [if_neg h, if_pos hl, decide_eq_decide]; simp only [beq_iff_eq, decide_eq_decide] at h
      refine ⟨fun k => k.2.2, fun k => ⟨by omega, by omega, k⟩⟩
  · rw [if_neg hl]
    simp only [psL_two, byd_lt]
    by_cases h : (decide (2 * y + 1 < 2 * ay) == decide (2 * y + 1 < 2 * b1)) = true
    · rw [if_pos h, decide_eq_false_iff_not]; simp only [beq_iff_eq, decide_eq_decide] at h; omega
    · rw [if_neg h, if_neg hl, decide_eq_decide]; simp only [beq_iff_eq, decide_eq_decide] at h
      refine ⟨fun k => k.2.2, fun k => ⟨by omega, by omega, k⟩⟩
set_option maxHeartbeats 1000000 in
theorem ps_impl (ax ay bx b1 x y : Int) (w : World) (ha : pokB ax ay = true) (hb : pokB bx b1 = true) (hx : inB x = true) (hy : inB y = true) :
    Calls Tryz.prog 146 #[.agg #[.int .i64 ax, .int .i64 ay, .int .i64 bx, .int .i64 b1], .int .i64 x, .int .i64 y] w fun e w' => e = .returned (.int .i64 (psV ax ay bx b1 x y)) ∧ Below w.heap.size w w' := by
  simp only [pokB, Bool.and_eq_true] at ha hb
  obtain ⟨a0, a1⟩ := ha
  obtain ⟨c0, c1⟩ := hb
  have a2 := inB_true a0; have a3 := inB_true a1; have c2 := inB_true c0; have c3 := inB_true c1; have x2 := inB_true hx; have y2 := inB_true hy
  clear a0 a1 c0 c1 hx hy
  by_cases hl : b1 < ay
  · have HV : psV ax ay bx b1 x y = psL bx b1 ax ay x y := by simp [psV, hl]
    rw [HV]
    clear HV
    obtain ⟨m0, m1⟩ := @mul_bd (2 * (bx - x) - 1) (ay - b1) 802 400 (by omega) (by omega)
    obtain ⟨m2, m3⟩ := @mul_bd (2 * (y - b1) + 1) (ax - bx) 802 400 (by omega) (by omega)
    rcases (show y < b1 ∨ (b1 ≤ y ∧ ay ≤ y) ∨ (b1 ≤ y ∧ y < ay) by omega) with h | ⟨h, h2⟩ | ⟨h, h2⟩
    · rw [show psL bx b1 ax ay x y = 0 by simp [psL, h]]
      go_enter Tryz.func146, Tryz.ntmps146
      go_upto_region 1 with (fail)
      go_region
      all_goals
        go_wp2
        go_ret
        exact ⟨rfl, by go_grown⟩
    · rw [show psL bx b1 ax ay x y = 0 by simp [psL, h2]]
      go_enter Tryz.func146, Tryz.ntmps146
      go_upto_region 1 with (fail)
      go_region
      all_goals
        go_wp2
        go_ret
        exact ⟨rfl, by go_grown⟩
    · have HL : psL bx b1 ax ay x y = if 0 < byd bx b1 ax ay x y then 2 else 1 := by
        unfold psL; rw [if_neg (by omega)]
      rw [HL]; clear HL
      by_cases hz : 0 < byd bx b1 ax ay x y
      · rw [if_pos hz]; unfold byd at hz
        go_enter Tryz.func146, Tryz.ntmps146
        go_upto_region 1 with (fail)
        go_region
        all_goals
          go_wp2
          go_ret
          exact ⟨rfl, by go_grown⟩
      · rw [if_neg hz]; unfold byd at hz
        go_enter Tryz.func146, Tryz.ntmps146
        go_upto_region 1 with (fail)
        go_region
        all_goals
          go_wp2
          go_ret
          exact ⟨rfl, by go_grown⟩
  · have HV : psV ax ay bx b1 x y = psL ax ay bx b1 x y := by simp [psV, hl]
    have hl : ay ≤ b1 := by omega
    rw [HV]
    clear HV
    obtain ⟨m0, m1⟩ := @mul_bd (2 * (ax - x) - 1) (b1 - ay) 802 400 (by omega) (by omega)
    obtain ⟨m2, m3⟩ := @mul_bd (2 * (y - ay) + 1) (bx - ax) 802 400 (by omega) (by omega)
    rcases (show y < ay ∨ (ay ≤ y ∧ b1 ≤ y) ∨ (ay ≤ y ∧ y < b1) by omega) with h | ⟨h, h2⟩ | ⟨h, h2⟩
    · rw [show psL ax ay bx b1 x y = 0 by simp [psL, h]]
      go_enter Tryz.func146, Tryz.ntmps146
      go_upto_region 1 with (fail)
      go_region
      all_goals
        go_wp2
        go_ret
        exact ⟨rfl, by go_grown⟩
    · rw [show psL ax ay bx b1 x y = 0 by simp [psL, h2]]
      go_enter Tryz.func146, Tryz.ntmps146
      go_upto_region 1 with (fail)
      go_region
      all_goals
        go_wp2
        go_ret
        exact ⟨rfl, by go_grown⟩
    · have HL : psL ax ay bx b1 x y = if 0 < byd ax ay bx b1 x y then 2 else 1 := by
        unfold psL; rw [if_neg (by omega)]
      rw [HL]; clear HL
      by_cases hz : 0 < byd ax ay bx b1 x y
      · rw [if_pos hz]; unfold byd at hz
        go_enter Tryz.func146, Tryz.ntmps146
        go_upto_region 1 with (fail)
        go_region
        all_goals
          go_wp2
          go_ret
          exact ⟨rfl, by go_grown⟩
      · rw [if_neg hz]; unfold byd at hz
        go_enter Tryz.func146, Tryz.ntmps146
        go_upto_region 1 with (fail)
        go_region
        all_goals
          go_wp2
          go_ret
          exact ⟨rfl, by go_grown⟩
end Go.Proofs.YtbdjnfnphilklaaGreat.Ins
namespace Go.Proofs.YtbdjnfnphilklaaGreat.Ins
open Point
set_option linter.unusedVariables false
set_option linter.unusedSimpArgs false
set_option linter.unnecessarySimpa false
theorem byd_two (lx ly hx hy x y : Int) : byd lx ly hx hy x y = (2 * (hy - ly) - (2 * (y - ly) + 1)) * (lx - x) + (2 * (y - ly) + 1) * (hx - x) - (hy - ly) := by
  unfold byd
  generalize hy - ly = h
  generalize 2 * (y - ly) + 1 = t
  have e1 : (2 * (lx - x) - 1) * h = 2 * (h * (lx - x)) - h := by rw [Int.sub_mul, Int.one_mul, Int.mul_assoc, Int.mul_comm (lx - x) h]
  have e2 : (2 * h - t) * (lx - x) = 2 * (h * (lx - x)) - t * (lx - x) := by rw [Int.sub_mul, Int.mul_assoc]
  have e3 : t * (hx - lx) = t * (hx - x) - t * (lx - x) := by rw [← Int.mul_sub]; congr 1; omega
  omega
theorem mul_ge_one {a b : Int} (ha : 1 ≤ a) (hb : 1 ≤ b) : a ≤ a * b := by
  have := Int.mul_le_mul_of_nonneg_left hb (show 0 ≤ a by omega)
  omega
theorem mul_np {a b : Int} (ha : 0 ≤ a) (hb : b ≤ 0) : a * b ≤ 0 := by
  have := Int.mul_le_mul_of_nonneg_left hb ha
  omega
theorem byd_right {lx ly hx hy x y : Int} (h1 : ly ≤ y) (h2 : y < hy) (ha : lx ≤ x) (hb : hx ≤ x) : ¬ 0 < byd lx ly hx hy x y := by
  rw [byd_two]
  have := @mul_np (2 * (hy - ly) - (2 * (y - ly) + 1)) (lx - x) (by omega) (by omega)
  have := @mul_np (2 * (y - ly) + 1) (hx - x) (by omega) (by omega)
  omega
theorem byd_left {lx ly hx hy x y : Int} (h1 : ly ≤ y) (h2 : y < hy) (ha : x < lx) (hb : x < hx) : 0 < byd lx ly hx hy x y := by
  rw [byd_two]
  have := @mul_ge_one (2 * (hy - ly) - (2 * (y - ly) + 1)) (lx - x) (by omega) (by omega)
  have := @mul_ge_one (2 * (y - ly) + 1) (hx - x) (by omega) (by omega)
  omega
theorem byd_mono {lx ly hx hy x x' y : Int} (h : ly < hy) (hx' : x' ≤ x) (hb : 0 < byd lx ly hx hy x y) : 0 < byd lx ly hx hy x' y := by
  unfold byd at *
  have e : (2 * (lx - x) - 1) * (hy - ly) ≤ (2 * (lx - x') - 1) * (hy - ly) := Int.mul_le_mul_of_nonneg_right (by omega) (by omega)
  omega
def psg (s : Pt × Pt) (y : Int) : Bool := decide (s.1.2 ≤ y) != decide (s.2.2 ≤ y)
theorem psL_zero (lx ly hx hy x y : Int) : psL lx ly hx hy x y = 0 ↔ ¬ (ly ≤ y ∧ y < hy) := by
  unfold psL
  by_cases h : y < ly ∨ hy ≤ y
  · rw [if_pos h]; omega
  · rw [if_neg h]; split <;> omega
theorem ps_zero (ax ay bx b1 x y : Int) : psV ax ay bx b1 x y = 0 ↔ psg ((ax, ay), (bx, b1)) y = false := by
  unfold psV psg
  by_cases hl : b1 < ay
  · rw [if_pos hl, psL_zero]
    by_cases h1 : ay ≤ y <;> by_cases h2 : b1 ≤ y <;> simp [h1, h2] <;> omega
  · rw [if_neg hl, psL_zero]
    by_cases h1 : ay ≤ y <;> by_cases h2 : b1 ≤ y <;> simp [h1, h2] <;> omega
theorem ps_two_lt {ax ay bx b1 x y : Int} (h : b1 < ay) : psV ax ay bx b1 x y = 2 ↔ b1 ≤ y ∧ y < ay ∧ 0 < byd bx b1 ax ay x y := by
  rw [psV, if_pos h, psL_two]
theorem ps_two_ge {ax ay bx b1 x y : Int} (h : ¬ b1 < ay) : psV ax ay bx b1 x y = 2 ↔ ay ≤ y ∧ y < b1 ∧ 0 < byd ax ay bx b1 x y := by
  rw [psV, if_neg h, psL_two]
theorem ps_mono {ax ay bx b1 x x' y : Int} (hx : x' ≤ x) (h : psV ax ay bx b1 x y = 2) : psV ax ay bx b1 x' y = 2 := by
  by_cases hl : b1 < ay
  · rw [ps_two_lt hl] at *; exact ⟨h.1, h.2.1, byd_mono hl hx h.2.2⟩
  · rw [ps_two_ge hl] at *; exact ⟨h.1, h.2.1, byd_mono (by omega) hx h.2.2⟩
theorem ps_right {ax ay bx b1 x y : Int} (ha : ax ≤ x) (hb : bx ≤ x) : psV ax ay bx b1 x y ≠ 2 := by
  intro h
  by_cases hl : b1 < ay
  · rw [ps_two_lt hl] at h; exact byd_right h.1 h.2.1 hb ha h.2.2
  · rw [ps_two_ge hl] at h; exact byd_right h.1 h.2.1 ha hb h.2.2
theorem ps_left {ax ay bx b1 x y : Int} (hp : psg ((ax, ay), (bx, b1)) y = true) (ha : x < ax) (hb : x < bx) : psV ax ay bx b1 x y = 2 := by
  have hn : ¬ psV ax ay bx b1 x y = 0 := by rw [ps_zero, hp]; simp
  by_cases hl : b1 < ay
  · rw [ps_two_lt hl]
    rw [psV, if_pos hl, psL_zero] at hn
    exact ⟨by omega, by omega, byd_left (by omega) (by omega) hb ha⟩
  · rw [ps_two_ge hl]
    rw [psV, if_neg hl, psL_zero] at hn
    exact ⟨by omega, by omega, byd_left (by omega) (by omega) ha hb⟩
theorem cnt_edge (p : Nat → Bool) : ∀ (n : Nat), (∀ a b, a ≤ b → b < n → p b = true → p a = true) → ∀ i, i < n → (p i = true ↔ i < (List.range n).countP p)
  | 0, _, i, hi => by omega
  | n + 1, h, i, hi => by
    have ih := cnt_edge p n (fun a b hab hb => h a b hab (by omega))
    have hle : (List.range n).countP p ≤ n := by have := List.countP_le_length (p := p) (l := List.range n); simpa using this
    rw [List.range_succ, List.countP_append, List.countP_singleton]
    cases hp : p n with
    | false =>
      simp only [Bool.false_eq_true, if_false, Nat.add_zero]
      by_cases e : i = n
      · subst e; rw [hp]; simp; omega
      · exact ih i (by omega)
    | true =>
      have hall : (List.range n).countP p = n := by
        have := (List.countP_eq_length (p := p) (l := List.range n)).2 (fun a ha => h a n (by have := List.mem_range.1 ha; omega) (by omega) hp)
        rw [this, List.length_range]
      rw [hall]
      simp only [if_true]
      exact ⟨fun _ => hi, fun _ => h i n (by omega) (by omega) hp⟩
def fnb (ax ay bx b1 y : Int) : Int := (((List.range 401).countP fun i : Nat => decide (psV ax ay bx b1 ((i : Int) - 200) y = 2) : Nat) : Int) - 200
theorem fnb_edge {ax ay bx b1 x y : Int} (h : -200 ≤ x ∧ x ≤ 200) : psV ax ay bx b1 x y = 2 ↔ x < fnb ax ay bx b1 y := by
  have e := cnt_edge (fun i : Nat => decide (psV ax ay bx b1 ((i : Int) - 200) y = 2)) 401 (fun a b hab hb hp => by
    simp only [decide_eq_true_eq] at *; exact ps_mono (by omega) hp) (x + 200).toNat (by omega)
  have hx : (((x + 200).toNat : Nat) : Int) - 200 = x := by omega
  simp only [decide_eq_true_eq, hx] at e
  rw [e]; unfold fnb; omega
theorem fnb_le {ax ay bx b1 y X : Int} (h : -200 ≤ X ∧ X ≤ 200) (ha : ax ≤ X) (hb : bx ≤ X) : fnb ax ay bx b1 y ≤ X := by
  have e := @fnb_edge ax ay bx b1 X y h
  have n := @ps_right ax ay bx b1 X y ha hb
  rw [ne_eq, e] at n; omega
theorem fnb_ge {ax ay bx b1 y X : Int} (h : -200 ≤ X ∧ X ≤ 200) (hp : psg ((ax, ay), (bx, b1)) y = true) (ha : X ≤ ax) (hb : X ≤ bx) : X ≤ fnb ax ay bx b1 y := by
  by_cases e : X = -200
  · subst e; unfold fnb; omega
  · have := (@fnb_edge ax ay bx b1 (X - 1) y (by omega)).1 (ps_left hp (by omega) (by omega)); omega
def sdk (l : List Pt) (k : Nat) : Pt × Pt := ((pX l k, pY l k), (pX l ((k + 1) % l.length), pY l ((k + 1) % l.length)))
theorem sides_sdk (l : List Pt) {k : Nat} (h : k < l.length) : (sides l)[k]? = some (sdk l k) := by
  rw [sides_get l k h, getp l h, getp l (Nat.mod_lt _ (by omega))]; rfl
def colsK (l : List Pt) (y : Int) : Nat → List Int
  | 0 => []
  | k + 1 => if psg (sdk l k) y then tog (colsK l y k) (fnb (sdk l k).1.1 (sdk l k).1.2 (sdk l k).2.1 (sdk l k).2.2 y) else colsK l y k
theorem cols_sorted (l : List Pt) (y : Int) : ∀ k, (colsK l y k).Pairwise (· < ·)
  | 0 => List.Pairwise.nil
  | k + 1 => by
    rw [colsK]; split
    · exact tog_sorted (cols_sorted l y k) _
    · exact cols_sorted l y k
theorem cols_len (l : List Pt) (y : Int) : ∀ k, (colsK l y k).length ≤ k
  | 0 => Nat.le_refl _
  | k + 1 => by
    have := cols_len l y k
    rw [colsK]; split
    · have := (tog_len (cols_sorted l y k) (fnb (sdk l k).1.1 (sdk l k).1.2 (sdk l k).2.1 (sdk l k).2.2 y)).2; omega
    · omega
def psgK (l : List Pt) (y : Int) (k : Nat) : Bool := odd (((sides l).take k).map fun s => psg s y)
theorem psgK_succ (l : List Pt) (y : Int) {k : Nat} (h : k < l.length) : psgK l y (k + 1) = (psgK l y k != psg (sdk l k) y) := by
  unfold psgK
  rw [List.take_add_one, sides_sdk l h, List.map_append, odd_app]; simp [odd]
theorem cols_par (l : List Pt) (y : Int) : ∀ k, k ≤ l.length → decide ((colsK l y k).length % 2 = 1) = psgK l y k
  | 0, _ => by simp [colsK, psgK, odd]
  | k + 1, hk => by
    have ih := cols_par l y k (by omega)
    rw [psgK_succ l y (by omega), ← ih, colsK]
    cases hp : psg (sdk l k) y
    · simp
    · have := (tog_len (cols_sorted l y k) (fnb (sdk l k).1.1 (sdk l k).1.2 (sdk l k).2.1 (sdk l k).2.2 y)).1
      simp only [if_true]
      rw [show ∀ a : Bool, (a != true) = !a by intro a; cases a <;> rfl, ← decide_not, decide_eq_decide]; omega
theorem cp_xor (f : Pt → Bool) : ∀ (l : List Pt) (a b : Pt), odd ((cp (a :: (l ++ [b]))).map fun s => f s.1 != f s.2) = (f a != f b)
  | [], a, b => by simp [cp, odd]
  | x :: r, a, b => by
    have := cp_xor f r x b
    simp only [List.cons_append, cp, List.map_cons, odd, this]
    cases f a <;> cases f x <;> cases f b <;> rfl
theorem sides_xor (f : Pt → Bool) (l : List Pt) : odd ((sides l).map fun s => f s.1 != f s.2) = false := by
  cases l with
  | nil => rfl
  | cons h t =>
    show odd ((cp (h :: (t ++ [h]))).map _) = false
    rw [cp_xor f t h h]; simp
theorem cols_even (l : List Pt) (y : Int) : (colsK l y l.length).length % 2 = 0 := by
  have h := cols_par l y l.length (Nat.le_refl _)
  have e : psgK l y l.length = false := by
    unfold psgK
    rw [List.take_of_length_le (by rw [sides_len]; exact Nat.le_refl _)]
    exact sides_xor (fun p => decide (p.2 ≤ y)) l
  rw [e, decide_eq_false_iff_not] at h
  omega
theorem crs_sdk (l : List Pt) (x y : Int) (k : Nat) : crs (sdk l k).1 (sdk l k).2 x y = decide (psV (sdk l k).1.1 (sdk l k).1.2 (sdk l k).2.1 (sdk l k).2.2 x y = 2) := (ps_crs _ _ _ _ _ _).symm
theorem insK_sdk (l : List Pt) (x y : Int) {k : Nat} (h : k < l.length) : insK l x y (k + 1) = (insK l x y k != crs (sdk l k).1 (sdk l k).2 x y) := insK_succ l x y h
theorem cols_ins (l : List Pt) {x y : Int} (hx : -200 ≤ x ∧ x ≤ 200) : ∀ k, k ≤ l.length → decide (above (colsK l y k) x % 2 = 1) = insK l x y k
  | 0, _ => by simp [colsK, insK_zero, above]
  | k + 1, hk => by
    have ih := cols_ins l (y := y) hx k (by omega)
    rw [insK_sdk l x y (by omega), ← ih, crs_sdk, colsK]
    cases hp : psg (sdk l k) y
    · have : ¬ psV (sdk l k).1.1 (sdk l k).1.2 (sdk l k).2.1 (sdk l k).2.2 x y = 2 := by
        have := (ps_zero (sdk l k).1.1 (sdk l k).1.2 (sdk l k).2.1 (sdk l k).2.2 x y).2 hp; omega
      rw [decide_eq_false this]; simp
    · simp only [if_true]
      have h1 := tog_above (cols_sorted l y k) (fnb (sdk l k).1.1 (sdk l k).1.2 (sdk l k).2.1 (sdk l k).2.2 y) x
      have h2 := @fnb_edge (sdk l k).1.1 (sdk l k).1.2 (sdk l k).2.1 (sdk l k).2.2 x y hx
      by_cases hq : psV (sdk l k).1.1 (sdk l k).1.2 (sdk l k).2.1 (sdk l k).2.2 x y = 2
      · rw [decide_eq_true hq, show ∀ a : Bool, (a != true) = !a by intro a; cases a <;> rfl, ← decide_not, decide_eq_decide]
        rw [if_pos (h2.1 hq)] at h1; omega
      · rw [decide_eq_false hq, show ∀ a : Bool, (a != false) = a by intro a; cases a <;> rfl, decide_eq_decide]
        rw [if_neg (fun h => hq (h2.2 h))] at h1; omega
theorem cols_in (l : List Pt) {y X0 X1 : Int} (h0 : -200 ≤ X0 ∧ X0 ≤ 200) (h1 : -200 ≤ X1 ∧ X1 ≤ 200) (h : ∀ k, k < l.length → X0 ≤ pX l k ∧ pX l k ≤ X1) : ∀ k, k ≤ l.length → ∀ d ∈ colsK l y k, X0 ≤ d ∧ d ≤ X1
  | 0, _, d, hd => by simp [colsK] at hd
  | k + 1, hk, d, hd => by
    have ih := cols_in l (y := y) h0 h1 h k (by omega)
    rw [colsK] at hd
    cases hp : psg (sdk l k) y
    · rw [hp] at hd; exact ih d (by simpa using hd)
    · rw [hp] at hd
      simp only [if_true] at hd
      rcases tog_mem (cols_sorted l y k) _ d hd with rfl | hd
      · have a := h k (by omega)
        have b := h ((k + 1) % l.length) (Nat.mod_lt _ (by omega))
        exact ⟨fnb_ge h0 hp a.1 b.1, fnb_le h1 a.2 b.2⟩
      · exact ih d hd
def spsV (l : List Pt) (y : Int) : List Pt := if pathB l && inB y then prs (colsK l y l.length) else []
theorem sps_in {l : List Pt} {y : Int} {X0 X1 : Int} (h0 : -200 ≤ X0 ∧ X0 ≤ 200) (h1 : -200 ≤ X1 ∧ X1 ≤ 200) (h : ∀ k, k < l.length → X0 ≤ pX l k ∧ pX l k ≤ X1) (x : Int) :
    inS (prs (colsK l y l.length)) x = (decide (X0 ≤ x ∧ x < X1) && insP l x y) := by
  rw [prs_in (cols_sorted l y _) (cols_even l y)]
  have hc := cols_in l (y := y) h0 h1 h l.length (Nat.le_refl _)
  by_cases hx : X0 ≤ x ∧ x < X1
  · rw [decide_eq_true hx, Bool.true_and, cols_ins l (by omega) l.length (Nat.le_refl _), insK_all]
  · rw [decide_eq_false hx, Bool.false_and, decide_eq_false_iff_not]
    by_cases hl : x < X0
    · rw [above_all fun d hd => by have := hc d hd; omega, cols_even l y]; omega
    · rw [above_none fun d hd => by have := hc d hd; omega]; omega
theorem ins_out {l : List Pt} {y x X1 : Int} (hx : -200 ≤ x ∧ x ≤ 200) (h1 : -200 ≤ X1 ∧ X1 ≤ x) (h : ∀ k, k < l.length → -200 ≤ pX l k ∧ pX l k ≤ X1) : insP l x y = false := by
  have e := cols_ins l (y := y) hx l.length (Nat.le_refl _)
  rw [insK_all] at e
  rw [← e, above_none fun d hd => ?_]
  · rfl
  · have := cols_in l (y := y) (X0 := -200) (X1 := X1) (by omega) (by omega) h l.length (Nat.le_refl _) d hd; omega
theorem ins_out0 {l : List Pt} {y x X0 : Int} (hx : -200 ≤ x ∧ x < X0) (h1 : X0 ≤ 200) (h : ∀ k, k < l.length → X0 ≤ pX l k ∧ pX l k ≤ 200) : insP l x y = false := by
  have e := cols_ins l (y := y) (x := x) (by omega) l.length (Nat.le_refl _)
  rw [insK_all] at e
  rw [← e, above_all fun d hd => ?_]
  · rw [decide_eq_false_iff_not, cols_even]; omega
  · have := cols_in l (y := y) (X0 := X0) (X1 := 200) (by omega) (by omega) h l.length (Nat.le_refl _) d hd; omega
theorem scn_sps {l : List Pt} {y X0 X1 : Int} (h0 : -200 ≤ X0 ∧ X0 ≤ X1) (h1 : X1 ≤ 200) (h : ∀ k, k < l.length → X0 ≤ pX l k ∧ pX l k ≤ X1) :
    (scn (fun x => insP l x y) X0 (X1 + 1 - X0).toNat).out = prs (colsK l y l.length) := by
  have S := scn_ok (fun x => insP l x y) X0 (X1 + 1 - X0).toNat
  have hX : X0 + (((X1 + 1 - X0).toNat : Nat) : Int) = X1 + 1 := by omega
  rw [hX] at S
  have hz : insP l X1 y = false := ins_out (X1 := X1) (by omega) (by omega) fun k hk => by have := h k hk; omega
  have hon : (scn (fun x => insP l x y) X0 (X1 + 1 - X0).toNat).on = false := by
    obtain ⟨k, hk⟩ : ∃ k, (X1 + 1 - X0).toNat = k + 1 := ⟨(X1 - X0).toNat, by omega⟩
    rw [hk]
    show insP l (X0 + (k : Int)) y = false
    rw [show X0 + (k : Int) = X1 by omega]; exact hz
  refine Sep.unique S.sep (prs_sep (cols_sorted l y _)) fun x => ?_
  have hm := S.mem x
  rw [hon, Bool.false_and, Bool.or_false] at hm
  rw [hm, sps_in (X0 := X0) (X1 := X1) (by omega) (by omega) h]
  by_cases e : x = X1
  · subst e; rw [hz]; simp
  · congr 1; rw [decide_eq_decide]; omega
end Go.Proofs.YtbdjnfnphilklaaGreat.Ins
namespace Go.Proofs.YtbdjnfnphilklaaGreat.Ins
open Go.ChangeShapes Go.WideShapes Go.ChangeAt Go.RowKit Go.Shelf
open Kit
set_option linter.unusedVariables false
set_option linter.unusedSimpArgs false
set_option linter.unnecessarySimpa false
theorem del_get (zs : List Int) {i : Nat} (hi : i < zs.length) (j : Nat) (hj : j < zs.length - 1) (r : List Int) :
    (zs.take i ++ zs.drop (i + 1) ++ r)[j]? = some ((zs.take i ++ zs.drop (i + 1)).getD j 0) := by
  have hl : (zs.take i ++ zs.drop (i + 1)).length = zs.length - 1 := by rw [List.length_append, List.length_take, List.length_drop]; omega
  rw [List.getElem?_append_left (by omega), List.getElem?_eq_getElem (by omega)]
  simp [List.getD, hl, hj]
theorem del_impl (w : World) (B : Nat) (v : Value) (zs : List Int) (i : Nat) (hv : Cols w B v zs) (hn : zs.length ≤ 1048576) (hi : i < zs.length) :
    Calls Tryz.prog 150 #[v, .int .i64 (i : Int), .int .i64 ((i : Int) + 1)] w fun e w' => ∃ u, e = .returned u ∧ Cols w' B u (zs.take i ++ zs.drop (i + 1)) ∧ Below B w w' := by
  rcases hv with ⟨rfl, rfl⟩ | ⟨g, c, f, rfl, hg, hc, hm, hr, hf⟩
  · simp at hi
  · have hl : (zs.take i ++ zs.drop (i + 1)).length = zs.length - 1 := by rw [List.length_append, List.length_take, List.length_drop]; omega
    have h := Tryz.slices_Delete_int_cells g 0 zs.length c i (i + 1) zs w (Nat.le_refl _) hc (by unfold maxLen at hm; omega) (by omega) (by omega) (fun j hj => by rw [Nat.zero_add, hr.cell (show j < c by omega), hf j hj]) (fun j hj => hr.frozen _)
    rw [show (((i + 1 : Nat)) : Int) = (i : Int) + 1 by omega] at h
    refine h.mono ?_
    rintro e w' ⟨rfl, q, rfl⟩
    rw [List.take_length, show i + 1 - i = 1 by omega]
    refine ⟨_, rfl, .inr ⟨g, c, _, by rw [hl], hg, by omega, hm, Go.rowIs_setCells _ _ _ _ (show (w.drewN q).rowIs g 3 c f from hr), fun j hj => ?_⟩, setCells_below g hg _ _ _ ((Below.refl B w).trans ⟨rfl, rfl, rfl, Nat.le_refl _, fun _ _ => rfl⟩)⟩
    rw [hl] at hj
    have hlen : ((zs.take i ++ zs.drop (i + 1) ++ List.replicate 1 0).map (Value.int .i64)).length = zs.length := by
      rw [List.length_map, List.length_append, hl, List.length_replicate]; omega
    rw [hlen, if_pos (by omega), Nat.sub_zero, List.getElem?_map, del_get zs hi j hj]; rfl
theorem cnt_found {zs : List Int} {x : Int} (h : zs.contains x = true) : zs.countP (fun d => decide (d < x)) < zs.length := by
  have hle := List.countP_le_length (p := fun d => decide (d < x)) (l := zs)
  rcases Nat.lt_or_ge (zs.countP fun d => decide (d < x)) zs.length with h1 | h1
  · exact h1
  · have := (List.countP_eq_length (p := fun d => decide (d < x)) (l := zs)).1 (Nat.le_antisymm hle h1) x (by simpa using h)
    simp at this
theorem bs_impl (w : World) (B : Nat) (v : Value) (zs : List Int) (x : Int) (hv : Cols w B v zs) (hn : zs.length ≤ 1048576) (hs : zs.Pairwise (· < ·)) :
    Calls Tryz.prog 149 #[v, .int .i64 x] w fun e w' => e = .returned (.tuple #[.int .i64 ((zs.countP fun d => decide (d < x) : Nat) : Int), .bool (zs.contains x)]) ∧ ∃ q, w' = w.drewN q := by
  rcases hv with ⟨rfl, rfl⟩ | ⟨g, c, f, rfl, hg, hc, hm, hr, hf⟩
  · refine (Tryz.slices_BinarySearch_int_empty none 0 x w).mono ?_
    rintro e w' ⟨rfl, rfl⟩
    exact ⟨rfl, 0, rfl⟩
  · have h := Tryz.slices_BinarySearch_int g 0 zs.length c zs x w (Nat.le_refl _) (by omega) (fun j hj => by rw [Nat.zero_add, hr.cell (show j < c by omega), hf j hj]) (by rw [List.take_length]; exact hs.imp (fun h => by omega))
    rw [List.take_length] at h
    exact h
set_option maxHeartbeats 1000000 in
theorem tog_impl (w : World) (B : Nat) (v : Value) (zs : List Int) (x : Int) (hv : Cols w B v zs) (hB : B ≤ w.heap.size) (hn : zs.length ≤ 1000000) (hs : zs.Pairwise (· < ·)) :
    Calls Tryz.prog 147 #[v, .int .i64 x] w fun e w' => ∃ u, e = .returned u ∧ Cols w' B u (tog zs x) ∧ Below B w w' := by
  have hbs := bs_impl w B v zs x hv (by omega) hs
  have HV := Lib.hid (And.intro hv (And.intro hB hn))
  have hi : zs.countP (fun d => decide (d < x)) ≤ zs.length := List.countP_le_length
  clear hs hv hB hn
  cases hf : zs.contains x
  · have et : tog zs x = zs.take (zs.countP fun d => decide (d < x)) ++ x :: zs.drop (zs.countP fun d => decide (d < x)) := by
      unfold tog; rw [hf]; simp
    rw [hf] at hbs
    rw [et]
    clear et hf
    generalize zs.countP (fun d => decide (d < x)) = i at *
    have HI := Lib.hid hi
    clear hi
    go_enter Tryz.func147, Tryz.ntmps147
    go_wp2_with (go_at_call 149; refine hbs.mono ?_; rintro e w1 ⟨rfl, q, rfl⟩)
    refine (ins_impl ((w.drewN q).alloc (.cells #[.int .i64 x] 3)) B v zs x i w.heap.size ?_ ?_ (by have := HV.out.2.2; omega) HI.out ?_ ?_).mono ?_
    · exact (HV.out.1.keep (w' := w.drewN q) ⟨rfl, rfl, rfl, Nat.le_refl _, fun _ _ => rfl⟩).keep ((Below.refl _ _).alloc (Nat.le_refl _) _)
    · have := HV.out.2.1; rw [World.size_alloc]; show B ≤ w.heap.size + 1; omega
    · have := World.rowIs_alloc (w.drewN q) #[.int .i64 x] 3 (fun _ => .int .i64 x) (fun i hi => by
        have h0 : i = 0 := by simpa using hi
        subst h0; rfl)
      exact this
    · rintro a n c rfl
      rcases HV.out.1 with ⟨h, _⟩ | ⟨g, c', f, h, _, _, _, hr, _⟩
      · cases h
      · injection h with h1 _ _
        injection h1 with h1
        have := hr.lt
        rw [h1]; show w.heap.size ≠ g; omega
    · rintro e w' ⟨u, rfl, hc, hb⟩
      go_wp2
      go_ret
      exact ⟨_, rfl, hc, (((Below.refl B w).trans (c := w.drewN q) ⟨rfl, rfl, rfl, Nat.le_refl _, fun _ _ => rfl⟩).alloc HV.out.2.1 _).trans hb⟩
  · have et : tog zs x = zs.take (zs.countP fun d => decide (d < x)) ++ zs.drop ((zs.countP fun d => decide (d < x)) + 1) := by
      unfold tog; rw [hf]; simp
    have hil := cnt_found hf
    rw [hf] at hbs
    rw [et]
    clear et hf
    generalize zs.countP (fun d => decide (d < x)) = i at *
    have HI := Lib.hid hil
    have w1 : IntKind.i64.wrap ((i : Int) + 1) = (i : Int) + 1 := by have := HV.out.2.2; rw [IntKind.wrap_i64]; omega
    clear hi hil
    go_enter Tryz.func147, Tryz.ntmps147
    go_wp2_with (go_at_call 149; refine hbs.mono ?_; rintro e w1 ⟨rfl, q, rfl⟩)
    refine (del_impl (w.drewN q) B v zs i ?_ (by have := HV.out.2.2; omega) HI.out).mono ?_
    · exact HV.out.1.keep (w' := w.drewN q) ⟨rfl, rfl, rfl, Nat.le_refl _, fun _ _ => rfl⟩
    · rintro e w' ⟨u, rfl, hc, hb⟩
      go_wp2
      go_ret
      exact ⟨_, rfl, hc, ((Below.refl B w).trans (c := w.drewN q) ⟨rfl, rfl, rfl, Nat.le_refl _, fun _ _ => rfl⟩).trans hb⟩
end Go.Proofs.YtbdjnfnphilklaaGreat.Ins
namespace Go.Proofs.YtbdjnfnphilklaaGreat.Ins
open Go.ChangeShapes Go.WideShapes Go.ChangeAt Go.RowKit
open Kit Point
set_option linter.unusedVariables false
set_option linter.unusedSimpArgs false
set_option linter.unnecessarySimpa false
theorem cnt_split {q : Nat → Bool} {n k : Nat} (hk : k ≤ n) (h1 : ∀ t, t < k → q t = true) (h2 : ∀ t, k ≤ t → t < n → q t = false) : (List.range n).countP q = k := by
  have e := cnt_edge q n (fun a b hab hb hp => by
    rcases Nat.lt_or_ge b k with h | h
    · exact h1 a (by omega)
    · rw [h2 b h hb] at hp; cases hp)
  have hle : (List.range n).countP q ≤ n := by have := List.countP_le_length (p := q) (l := List.range n); simpa using this
  rcases Nat.lt_trichotomy ((List.range n).countP q) k with h | h | h
  · have := (e _ (by omega)).1 (h1 _ h); omega
  · exact h
  · have := (e k (by omega)).2 h; rw [h2 k (Nat.le_refl _) (by omega)] at this; cases this
theorem fnb_split {ax ay bx b1 y : Int} {k : Nat} (hk : k ≤ 401) (h1 : ∀ t : Nat, t < k → psV ax ay bx b1 ((t : Int) - 200) y = 2) (h2 : ∀ t : Nat, k ≤ t → t < 401 → psV ax ay bx b1 ((t : Int) - 200) y ≠ 2) : fnb ax ay bx b1 y = (k : Int) - 200 := by
  unfold fnb
  rw [cnt_split hk (fun t ht => by simpa using h1 t ht) (fun t h3 h4 => by simpa using h2 t h3 h4)]
set_option maxHeartbeats 1000000 in
theorem clo_impl (ax ay bx b1 y : Int) (g0 g1 : Nat) (i : Int) (w : World) (F : Four w g0 ax ay bx b1) (hc : w.cell? ⟨g1, 0, none⟩ = some (.int .i64 y)) (ha : pokB ax ay = true) (hb : pokB bx b1 = true) (hy : inB y = true) (hi : 0 ≤ i ∧ i ≤ 400) :
    Calls Tryz.prog 153 #[.int .i64 i, .pointer (some ⟨g0, 0, none⟩), .pointer (some ⟨g1, 0, none⟩)] w fun e w' => e = .returned (.bool (decide (psV ax ay bx b1 (i - 200) y ≠ 2))) ∧ Below w.heap.size w w' := by
  obtain ⟨c0, c1, c2, c3, _⟩ := F
  have hx : inB (i - 200) = true := by simp [inB]; omega
  have hw : IntKind.i64.wrap (i - 200) = i - 200 := by rw [IntKind.wrap_i64]; omega
  have HP := Lib.hid (And.intro ha (And.intro hb (And.intro hy hx)))
  clear ha hb hy hx
  go_enter Tryz.func153, Tryz.ntmps153
  go_wp2_with fail
  ((with_reducible refine (ps_impl ax ay bx b1 (i - 200) y _ HP.out.1 HP.out.2.1 HP.out.2.2.2 HP.out.2.2.1).mono ?_); rintro e w1 ⟨rfl, bb⟩)
  obtain ⟨r, hr⟩ : ∃ r, psV ax ay bx b1 (i - 200) y = r := ⟨_, rfl⟩
  have HR := Lib.hid hr
  rw [hr]
  clear c0 c1 c2 c3 hc hr
  go_wp2
  go_ret
  exact ⟨ret_bool (by rw [HR.out]; by_cases h : r = 2 <;> simp [h]), bb⟩
set_option maxHeartbeats 1000000 in
theorem srch_impl (ax ay bx b1 y : Int) (g0 g1 : Nat) (w : World) (F : Four w g0 ax ay bx b1) (hc : w.cell? ⟨g1, 0, none⟩ = some (.int .i64 y)) (ha : pokB ax ay = true) (hb : pokB bx b1 = true) (hy : inB y = true) :
    Calls Tryz.prog 152 #[.int .i64 401, .func (.func 153) #[] #[.pointer (some ⟨g0, 0, none⟩), .pointer (some ⟨g1, 0, none⟩)]] w fun e w' => ∃ k : Nat, e = .returned (.int .i64 (k : Int)) ∧ fnb ax ay bx b1 y = (k : Int) - 200 ∧ k ≤ 401 ∧ Below w.heap.size w w' := by
  have HP := Lib.hid (And.intro F (And.intro hc (And.intro ha (And.intro hb hy))))
  have hl0 := F.lt
  have hl1 := World.block_lt_of_cell? w _ hc
  have HL := Lib.hid (And.intro hl0 hl1)
  clear F hc ha hb hy hl0 hl1
  go_enter Tryz.func152, Tryz.ntmps152
  go_wp2
  go_loopw [5, 6] (fun s5 s6 wr => ∃ (lo hi : Nat), s5 = .int .i64 (lo : Int) ∧ s6 = .int .i64 (hi : Int) ∧ lo ≤ hi ∧ hi ≤ 401 ∧ Below w.heap.size w wr ∧
    Hid ((∀ t : Nat, t < lo → psV ax ay bx b1 ((t : Int) - 200) y = 2) ∧ (∀ t : Nat, hi ≤ t → t < 401 → psV ax ay bx b1 ((t : Int) - 200) y ≠ 2))) (fun s5 s6 _ => (intOf s6).toNat - (intOf s5).toNat)
  case atStart => exact ⟨0, 401, rfl, rfl, by omega, by omega, Below.refl _ _, Lib.hid ⟨fun t ht => by omega, fun t h1 h2 => by omega⟩⟩
  case round =>
    obtain ⟨lo, hi, rfl, rfl, hlh, hin, hB, I⟩ := hrel
    have HB := Lib.hid hB
    clear hB
    by_cases hlt : lo < hi
    · have hlti : (lo : Int) < (hi : Int) := by omega
      go_wp2_with fail
      have hcl := clo_impl ax ay bx b1 y g0 g1 (((lo + hi) / 2 : Nat) : Int) wr (HP.out.1.keep HB.out HL.out.1) ((HB.out.cell (p := ⟨g1, 0, none⟩) HL.out.2).trans HP.out.2.1) HP.out.2.2.1 HP.out.2.2.2.1 HP.out.2.2.2.2 (by omega)
      rw [show (((lo + hi) / 2 : Nat) : Int) = ((lo : Int) + (hi : Int)) / 2 by omega] at hcl
      refine hcl.mono ?_
      rintro e w1 ⟨rfl, bb⟩
      clear hcl
      have HB1 := Lib.hid (on_of HB.out bb)
      clear bb
      have HM : Hid (psV ax ay bx b1 (((lo : Int) + (hi : Int)) / 2 - 200) y = psV ax ay bx b1 (((((lo + hi) / 2 : Nat)) : Int) - 200) y) := Lib.hid (by rw [show (((lo + hi) / 2 : Nat) : Int) = ((lo : Int) + (hi : Int)) / 2 by omega])
      generalize psV ax ay bx b1 (((lo : Int) + (hi : Int)) / 2 - 200) y = r at *
      by_cases hr : r = 2
      · have HR := Lib.hid (HM.out.symm.trans hr)
        clear HM
        simp only [hr, ne_eq, not_true, decide_false]
        go_wp2
        go_roundw
        case rel =>
          refine ⟨(lo + hi) / 2 + 1, hi, by rw [show ((((lo + hi) / 2 + 1 : Nat)) : Int) = ((lo : Int) + (hi : Int)) / 2 + 1 by omega], rfl, by omega, hin, HB1.out, Lib.hid ⟨fun t ht => ps_mono (show (t : Int) - 200 ≤ ((((lo + hi) / 2 : Nat)) : Int) - 200 by omega) HR.out, I.out.2⟩⟩
        case measure => simp [intOf]; omega
      · have HR := Lib.hid (show psV ax ay bx b1 (((((lo + hi) / 2 : Nat)) : Int) - 200) y ≠ 2 by rw [← HM.out]; exact hr)
        clear HM
        simp only [hr, ne_eq, not_false_eq_true, decide_true]
        go_wp2
        go_roundw
        case rel =>
          refine ⟨lo, (lo + hi) / 2, rfl, by rw [show ((((lo + hi) / 2 : Nat)) : Int) = ((lo : Int) + (hi : Int)) / 2 by omega], by omega, by omega, HB1.out, Lib.hid ⟨I.out.1, fun t h1 h2 h3 => HR.out (ps_mono (by omega) h3)⟩⟩
        case measure => simp [intOf]; omega
    · obtain rfl : lo = hi := by omega
      go_wp2
      go_ret
      exact ⟨lo, rfl, fnb_split hin I.out.1 I.out.2, hin, HB.out⟩
set_option maxHeartbeats 1000000 in
theorem fnb_impl (ax ay bx b1 y : Int) (w : World) (ha : pokB ax ay = true) (hb : pokB bx b1 = true) (hy : inB y = true) :
    Calls Tryz.prog 148 #[.agg #[.int .i64 ax, .int .i64 ay, .int .i64 bx, .int .i64 b1], .int .i64 y] w fun e w' => e = .returned (.int .i64 (fnb ax ay bx b1 y)) ∧ Below w.heap.size w w' := by
  have HP := Lib.hid (And.intro ha (And.intro hb hy))
  clear ha hb hy
  go_enter Tryz.func148, Tryz.ntmps148
  go_wp2_with fail
  refine (srch_impl ax ay bx b1 y w.heap.size (w.heap.size + 1) _ ?_ ?_ HP.out.1 HP.out.2.1 HP.out.2.2).mono ?_
  · exact Four.alloc (Four.new w _ _ _ _ _) _
  · simp [go_sem]
  · rintro e w1 ⟨k, rfl, hk, hk1, bb⟩
    have HB1 := Lib.hid (on_of (W := w) (by go_grown) bb)
    have hw : IntKind.i64.wrap ((k : Int) - 200) = (k : Int) - 200 := by rw [IntKind.wrap_i64]; omega
    have HK := Lib.hid hk
    clear bb hk
    go_wp2
    go_ret
    exact ⟨by rw [HK.out]; rfl, HB1.out⟩
end Go.Proofs.YtbdjnfnphilklaaGreat.Ins
namespace Go.Proofs.YtbdjnfnphilklaaGreat.Ins
open Go.ChangeShapes Go.WideShapes Go.ChangeAt Go.RowKit
open Kit Point Slabs
set_option linter.unusedVariables false
set_option linter.unusedSimpArgs false
set_option linter.unnecessarySimpa false
def sdF (l : List Pt) (i : Nat) : List Value := [.int .i64 (pX l i), .int .i64 (pY l i), .int .i64 (pX l ((i + 1) % l.length)), .int .i64 (pY l ((i + 1) % l.length))]
def zrF (_ : Nat) : List Value := [.int .i64 0, .int .i64 0, .int .i64 0, .int .i64 0]
theorem sdF_len (l : List Pt) (i : Nat) : (sdF l i).length = 4 := rfl
theorem zrF_len (i : Nat) : (zrF i).length = 4 := rfl
theorem cells4_of {w : World} {g n : Nat} {F : Nat → List Value} (h : ∀ i, i < n → ∀ j u, (F i)[j]? = some u → w.cell? ⟨g, i * 4 + j, none⟩ = some u) {i : Nat} (hi : i < n) {x0 x1 x2 x3 : Value} (e : F i = [x0, x1, x2, x3]) :
    w.cell? ⟨g, i * 4, none⟩ = some x0 ∧ w.cell? ⟨g, i * 4 + 1, none⟩ = some x1 ∧ w.cell? ⟨g, i * 4 + 2, none⟩ = some x2 ∧ w.cell? ⟨g, i * 4 + 3, none⟩ = some x3 := by
  have h0 := h i hi
  rw [e] at h0
  exact ⟨by simpa using h0 0 _ rfl, by simpa using h0 1 _ rfl, by simpa using h0 2 _ rfl, by simpa using h0 3 _ rfl⟩
theorem zero4_at (n i j : Nat) (u : Value) (hi : i < n) (hu : (zrF i)[j]? = some u) : (madeCells #[.int .i64 0, .int .i64 0, .int .i64 0, .int .i64 0] (n * 4))[i * 4 + j]? = some u := by
  have hj : j < 4 := by have := (List.getElem?_eq_some_iff.1 hu).1; simpa [zrF] using this
  unfold madeCells
  rw [Array.getElem?_map, Array.getElem?_range, if_pos (by have := Nat.mul_le_mul_right 4 (show i + 1 ≤ n by omega); rw [Nat.succ_mul] at this; omega)]
  have h1 : (i * 4 + j) % 4 = j := by omega
  simp only [Option.map_some]
  have h2 : j = 0 ∨ j = 1 ∨ j = 2 ∨ j = 3 := by omega
  rcases h2 with rfl | rfl | rfl | rfl <;> (simp only [zrF, List.getElem?_cons_zero, List.getElem?_cons_succ, Option.some.injEq] at hu; subst hu; simp [h1] <;> (try simp at h1) <;> (try simp [h1]))
theorem info_sd8 : (Tryz.prog.info? 155).map (fun i => (i.zero, i.size, i.bytes)) = some (some (.agg #[.int .i64 0, .int .i64 0, .int .i64 0, .int .i64 0]), 4, 32) := by kernel_rfl
set_option maxHeartbeats 2000000 in
theorem sd_impl (w : World) (a : Option Addr) (c : Nat) (l : List Pt) (hn : l.length ≤ 1048576) (h : PathAt w a l) :
    Calls Tryz.prog 145 #[.slice a l.length c] w fun e w' => ∃ v, e = .returned v ∧ Slab w' w.heap.size v l.length 4 (sdF l) ∧ Below w.heap.size w w' := by
  obtain ⟨i0, hi0, hz0, hz1, hz2⟩ := info_parts info_sd8
  obtain ⟨n, hN⟩ : ∃ n, l.length = n := ⟨_, rfl⟩
  have hn' : n ≤ 1048576 := by omega
  have hmk := fun W : World => run_make_rowN (P := Tryz.prog) 152 155 i0 _ Tryz.underlying152 hi0 hz0 .i64 .i64 n n (Nat.le_refl _) (by rw [hz2]; omega) (by omega) W
  rw [hz1] at hmk
  clear hi0 hz0 hz1 hz2 hn'
  have HP := Lib.hid h
  have HN := Lib.hid hN
  rcases h with rfl | ⟨g, rfl, hg, _⟩
  · simp only [List.length_nil] at hN
    subst hN
    have hmk0 := hmk
    simp only [Nat.zero_mul, Int.natCast_zero, Int.ofNat_zero, show ((0 : Nat) : Int) = 0 from rfl] at hmk0
    clear hmk
    go_enter Tryz.func145, Tryz.ntmps145
    go_wp2
    go_rounds 1
    go_ret
    exact ⟨_, rfl, ⟨_, _, rfl, Nat.le_refl _, .inl rfl⟩, by go_grown⟩
  · rw [hN] at hn ⊢
    clear hN
    go_enter Tryz.func145, Tryz.ntmps145
    go_wp2
    go_loopw [11] (fun v11 wr => ∃ k : Nat, k ≤ n ∧ v11 = .int .i64 (k : Int) ∧ Writes wr w.heap.size n 4 (upto (sdF l) zrF k) ∧ Below w.heap.size w wr) (fun v11 _ => n - (intOf v11).toNat)
    case atStart =>
      refine ⟨0, Nat.zero_le _, rfl, ⟨by simp, fun o => by simp, fun i hi j u hu => ?_⟩, by go_grown⟩
      rw [upto_zero] at hu
      rw [World.cell?_alloc_new]; exact zero4_at n i j u hi hu
    case round =>
      obtain ⟨k, hk, rfl, U, hB⟩ := hrel
      by_cases hlt : k < n
      · have hP := HP.out.on hB
        rcases hP with he | ⟨g', hg', hlg, hc⟩
        · have := HN.out; rw [he] at this; simp at this; omega
        · injection hg' with hg'
          injection hg' with hg'
          subst hg'
          obtain ⟨m, hm⟩ : ∃ m, (k + 1) % n = m := ⟨_, rfl⟩
          have hmn : m < n := by rw [← hm]; exact Nat.mod_lt _ (by omega)
          obtain ⟨q1, q2⟩ := hc k (by rw [HN.out]; exact hlt)
          obtain ⟨q3, q4⟩ := hc m (by rw [HN.out]; exact hmn)
          have hs : sdF l k = [.int .i64 (pX l k), .int .i64 (pY l k), .int .i64 (pX l m), .int .i64 (pY l m)] := by unfold sdF; rw [HN.out, hm]
          generalize pX l k = ax at q1 hs
          generalize pY l k = ay at q2 hs
          generalize pX l m = bx at q3 hs
          generalize pY l m = b1 at q4 hs
          have HS := Lib.hid hs
          clear hs hc
          have i0 : (0 : Int) ≤ (k : Int) := by omega
          have i1 : (k : Int) < (n : Int) := by omega
          have i2 : (0 : Int) ≤ (m : Int) := by omega
          have i3 : (m : Int) < (n : Int) := by omega
          have hn0 : ¬ n = 0 := by omega
          have j1 : IntKind.i64.wrap ((k : Int) + 1) = (k : Int) + 1 := IntWalk.i64_in _ (by omega)
          have j2 : ((k : Int) + 1).tmod (n : Int) = (m : Int) := by
            rw [← hm, show ((k : Int) + 1) = ((k + 1 : Nat) : Int) by omega, Int.ofNat_tmod]
          have j3 : IntKind.i64.wrap (m : Int) = (m : Int) := IntWalk.i64_in _ (by omega)
          have hsz : w.heap.size ≤ wr.heap.size := hB.size
          have hug := U.here
          have fz := U.free
          obtain ⟨c0, c1, c2, c3⟩ := cells4_of U.cell hlt (show upto (sdF l) zrF k k = _ from upto_ge (by omega))
          have HU := Lib.hid (And.intro U hB)
          clear hm U hB
          go_upto_region 5 with (fail)
          go_region
          have U3 := HU.out.1.all hlt zrF_len (sdF_len l)
          rw [HS.out] at U3
          have U4 := setAll_below HU.out.2 w.heap.size (k * 4) (Nat.le_refl _) [.int .i64 ax, .int .i64 ay, .int .i64 bx, .int .i64 b1]
          have U5 := U3.on (((Below.refl _ _).alloc (Nat.le_refl _) (.cells #[.int .i64 ax, .int .i64 ay] 110)).drew)
          have U6 := (U4.alloc (by rw [setAll_size]; exact hsz) (.cells #[.int .i64 ax, .int .i64 ay] 110)).drew
          have HV := Lib.hid (And.intro U5 U6)
          clear U3 U4 U5 U6
          go_wp2
          go_roundw
          case rel => exact ⟨k + 1, by omega, by go_num, HV.out.1, HV.out.2⟩
          case measure => simp [intOf]; omega
      · obtain rfl : k = n := by omega
        go_wp2
        go_ret
        exact ⟨_, rfl, (U.slab (Nat.le_refl _) _ (Nat.le_refl _)).same fun i hi => upto_lt hi, hB⟩
end Go.Proofs.YtbdjnfnphilklaaGreat.Ins
