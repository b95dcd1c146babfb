/-
  What a drawn pair of transformations and a drawn point give: the numbers of all calls of the law on joined transformations.
-/
import Derived.Test.YtohoelpfmbbdaaaBack
import Derived.Test.YtohoelpfmbbdaaaDrawTurn
namespace Go.Proofs.Ytohoelpfmbbdaaa.All
open Go.ChangeShapes Go.WideShapes Go.ChangeAt Go.RowKit
open Kit Point Turn Apply Join Back DrawTurn Draw
set_option linter.unusedVariables false
set_option linter.unusedSimpArgs false
set_option linter.unnecessarySimpa false

theorem tok_of {q s dx dy : Int} (h0 : 0 ≤ q ∧ q ≤ 3) (h1 : 1 ≤ s ∧ s ≤ 4) (h2 : -200 ≤ dx ∧ dx ≤ 200) (h3 : -200 ≤ dy ∧ dy ≤ 200) : tokB q s dx dy = true := by
  simp only [tokB, inB, Bool.and_eq_true, decide_eq_true_eq]; omega

theorem pok_of {x y : Int} (h0 : -200 ≤ x ∧ x ≤ 200) (h1 : -200 ≤ y ∧ y ≤ 200) : pokB x y = true := by
  simp only [pokB, inB, Bool.and_eq_true, decide_eq_true_eq]; omega

theorem ap_of {q s dx dy x y a b : Int} (h1 : tokB q s dx dy = true) (h2 : pokB x y = true) (ha : imX q s dx x y = a) (hb : imY q s dy x y = b) (h3 : pokB a b = true) : apX q s dx dy x y = a ∧ apY q s dx dy x y = b := by
  have : appB q s dx dy x y = true := by simp only [appB, h1, h2, ha, hb, h3, Bool.and_self]
  simp only [apX, apY, this, if_true, ha, hb, and_self]

/-- One after the other. -/
theorem rot_join {q r : Int} (hq : 0 ≤ q ∧ q ≤ 3) (hr : 0 ≤ r ∧ r ≤ 3) (X Y dx dy : Int) :
    rotX (jq q r) X Y + rotX r dx dy = rotX r (rotX q X Y + dx) (rotY q X Y + dy) ∧ rotY (jq q r) X Y + rotY r dx dy = rotY r (rotX q X Y + dx) (rotY q X Y + dy) := by
  have e1 : q = 0 ∨ q = 1 ∨ q = 2 ∨ q = 3 := by omega
  have e2 : r = 0 ∨ r = 1 ∨ r = 2 ∨ r = 3 := by omega
  rcases e1 with rfl | rfl | rfl | rfl <;> rcases e2 with rfl | rfl | rfl | rfl <;> simp [rotX, rotY, jq] <;> omega

/-- Back again. -/
theorem rot_back {r : Int} (hr : 0 ≤ r ∧ r ≤ 3) (x y ex ey : Int) :
    rotX (bq r) (rotX r x y + ex) (rotY r x y + ey) + rotX (bq r) (-ex) (-ey) = x ∧ rotY (bq r) (rotX r x y + ex) (rotY r x y + ey) + rotY (bq r) (-ex) (-ey) = y := by
  have e2 : r = 0 ∨ r = 1 ∨ r = 2 ∨ r = 3 := by omega
  rcases e2 with rfl | rfl | rfl | rfl <;> simp [rotX, rotY, bq] <;> omega

/-- The numbers of the law's calls. -/
def Numbers (q s dx dy r ex ey x y Q S A B u v u2 v2 k0 k1 k2 k3 u3 v3 : Int) : Prop :=
  jnV q s dx dy r 1 ex ey = .tuple #[.agg #[.int .i64 Q, .int .i64 S, .int .i64 A, .int .i64 B], .bool true] ∧ tokB Q S A B = true ∧
  (apX Q S A B x y = u ∧ apY Q S A B x y = v) ∧ (apX q s dx dy x y = u2 ∧ apY q s dx dy x y = v2) ∧ (apX r 1 ex ey u2 v2 = u ∧ apY r 1 ex ey u2 v2 = v) ∧
  bkV r 1 ex ey = .tuple #[.agg #[.int .i64 k0, .int .i64 k1, .int .i64 k2, .int .i64 k3], .bool true] ∧
  (apX r 1 ex ey x y = u3 ∧ apY r 1 ex ey x y = v3) ∧ (apX k0 k1 k2 k3 u3 v3 = x ∧ apY k0 k1 k2 k3 u3 v3 = y) ∧ (apX 0 1 0 0 x y = x ∧ apY 0 1 0 0 x y = y)

theorem numbers {q s dx dy r t ex ey x y : Int} (h : TurnIn q s dx dy) (k : TurnIn r t ex ey) (hx : InPage x) (hy : InPage y) : ∃ Q S A B u v u2 v2 k0 k1 k2 k3 u3 v3, Numbers q s dx dy r ex ey x y Q S A B u v u2 v2 k0 k1 k2 k3 u3 v3 := by
  obtain ⟨hq, hs, hdx, hdy⟩ := h
  obtain ⟨hr, _, hex, hey⟩ := k
  have hs4 : 1 ≤ s ∧ s ≤ 4 := by unfold Scaled at hs; omega
  unfold InPage at hx hy
  have t1 : tokB q s dx dy = true := tok_of hq hs4 (by omega) (by omega)
  have t2 : tokB r 1 ex ey = true := tok_of hr (by omega) (by omega) (by omega)
  have p1 : pokB x y = true := pok_of (by omega) (by omega)
  -- the joined one
  have rd := rot_in (q := r) 20 hdx hdy
  have hj := jq_in hq hr
  have t3 : tokB (jq q r) (s * 1) (imX r 1 ex dx dy) (imY r 1 ey dx dy) = true := by
    refine tok_of hj (by omega) ?_ ?_ <;> simp only [imX, imY, Int.mul_one] <;> omega
  have hm : ∀ z : Int, -4 ≤ z ∧ z ≤ 36 → -144 ≤ z * s ∧ z * s ≤ 144 := by
    intro z hz
    unfold Scaled at hs
    rcases hs with rfl | rfl | rfl <;> omega
  have mx1 := hm x hx
  have my1 := hm y hy
  have ra := rot_in (q := q) 144 mx1 my1
  have rj := rot_in (q := jq q r) 144 mx1 my1
  have hjn := rot_join hq hr (x * s) (y * s) dx dy
  have p2 : pokB (imX q s dx x y) (imY q s dy x y) = true := by
    refine pok_of ?_ ?_ <;> simp only [imX, imY] <;> omega
  have e1 : imX (jq q r) (s * 1) (imX r 1 ex dx dy) x y = imX r 1 ex (imX q s dx x y) (imY q s dy x y) := by
    simp only [imX, imY, Int.mul_one]; omega
  have e2 : imY (jq q r) (s * 1) (imY r 1 ey dx dy) x y = imY r 1 ey (imX q s dx x y) (imY q s dy x y) := by
    simp only [imX, imY, Int.mul_one]; omega
  have p3 : pokB (imX r 1 ex (imX q s dx x y) (imY q s dy x y)) (imY r 1 ey (imX q s dx x y) (imY q s dy x y)) = true := by
    rw [← e1, ← e2]
    refine pok_of ?_ ?_ <;> simp only [imX, imY, Int.mul_one] <;> omega
  -- back
  have rb := rot_in (q := r) (x := x) (y := y) 36 (by omega) (by omega)
  have hk := bq_in hr
  have rk := rot_in (q := bq r) (x := -ex) (y := -ey) 20 (by omega) (by omega)
  have hbk := rot_back hr x y ex ey
  have t4 : tokB (bq r) 1 (bkX r ex ey) (bkY r ex ey) = true := by
    refine tok_of hk (by omega) ?_ ?_ <;> simp only [bkX, bkY] <;> omega
  have p4 : pokB (imX r 1 ex x y) (imY r 1 ey x y) = true := by
    refine pok_of ?_ ?_ <;> simp only [imX, imY, Int.mul_one] <;> omega
  have e3 : imX (bq r) 1 (bkX r ex ey) (imX r 1 ex x y) (imY r 1 ey x y) = x := by
    simp only [imX, imY, bkX, Int.mul_one]; omega
  have e4 : imY (bq r) 1 (bkY r ex ey) (imX r 1 ex x y) (imY r 1 ey x y) = y := by
    simp only [imX, imY, bkY, Int.mul_one]; omega
  refine ⟨jq q r, s * 1, imX r 1 ex dx dy, imY r 1 ey dx dy, _, _, imX q s dx x y, imY q s dy x y, bq r, 1, bkX r ex ey, bkY r ex ey, imX r 1 ex x y, imY r 1 ey x y, ?_, t3, ap_of t3 p1 e1 e2 p3, ap_of t1 p1 rfl rfl p2, ap_of t2 p2 rfl rfl p3, ?_, ap_of t2 p1 rfl rfl p4, ap_of t4 p4 e3 e4 p1, ap_of (tok_of (by omega) (by omega) (by omega) (by omega)) p1 (by simp [imX, rotX]) (by simp [imY, rotY]) p1⟩
  · have := jn_yes t1 t2 rfl rfl rfl rfl t3
    injection this with this; exact this.symm
  · have := bk_yes t2 rfl rfl rfl
    injection this with this; exact this.symm

end Go.Proofs.Ytohoelpfmbbdaaa.All
