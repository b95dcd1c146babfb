/-
  What the operations of FnStacks make of a stack (exch, neg, dup, pop, add, the last two numbers), as equations.
-/
import Derived.Test.YtnpbhmeanfolnaaSAns
import Derived.Test.YtnpbhmeanfolnaaStkDraw
namespace Go.Proofs.Ytnpbhmeanfolnaa.StkLaw
open Go.ChangeShapes Go.WideShapes Go.ChangeAt Go.RowKit
open Kit Slabs Ints Stack Push Take Opn SOp StkDraw
set_option linter.unusedVariables false
set_option linter.unusedSimpArgs false
set_option linter.unnecessarySimpa false
set_option maxRecDepth 100000

theorem nm_exch : Nm ⟨#[101, 120, 99, 104]⟩ false false false false false false true := by constructor <;> (rw [ByteArray.toList_eq]; rfl)
theorem nm_neg : Nm ⟨#[110, 101, 103]⟩ false false false true false false false := by constructor <;> (rw [ByteArray.toList_eq]; rfl)
theorem nm_dup : Nm ⟨#[100, 117, 112]⟩ false false false false true false false := by constructor <;> (rw [ByteArray.toList_eq]; rfl)
theorem nm_pop : Nm ⟨#[112, 111, 112]⟩ false false false false false true false := by constructor <;> (rw [ByteArray.toList_eq]; rfl)
theorem nm_add : Nm ⟨#[97, 100, 100]⟩ true false false false false false false := by constructor <;> (rw [ByteArray.toList_eq]; rfl)

theorem nums_any {X : Nat → Int} {n i : Nat} {q : Int} (h : Nums X n) (hq : -9999 ≤ q ∧ q ≤ 9999) : Nums (pt X i q) n := by
  intro j hj
  by_cases e : j = i
  · subst e; rw [pt_at]; exact hq
  · simp only [pt, if_neg e]; exact h j hj

theorem nums_le {X : Nat → Int} {n m : Nat} (h : Nums X n) (hm : m ≤ n) : Nums X m := fun i hi => h i (by omega)

theorem ta_of {X : Nat → Int} {n k : Nat} (h : stB X n = true) (hk : k ≤ n) : taB X n (k : Int) = true := by
  simp only [taB, h, Bool.true_and, decide_eq_true_eq]; omega

theorem so_yes {X Y : Nat → Int} {n m : Nat} {s : ByteArray} (hmk : mkL X n s = (Y, m)) (ht : taB X n (needN s) = true) (ho : opB s = true) (hst : stB Y m = true) : soB X n s = true ∧ soY X n s = Y ∧ soM X n s = m := by
  have hb : soB X n s = true := by simp [soB, ht, ho, hmk, hst]
  exact ⟨hb, by simp [soY, hb, hmk], by simp [soM, hb, hmk]⟩

/-- The two last numbers are exchanged. -/
def exL (Z : Nat → Int) (n : Nat) : Nat → Int := pt (pt Z n (Z (n + 1))) (n + 1) (Z n)
theorem exL_nums {Z : Nat → Int} {n : Nat} (h : Nums Z (n + 2)) : Nums (exL Z n) (n + 2) := nums_any (nums_any h (h _ (by omega))) (h _ (by omega))
theorem exL_twice (Z : Nat → Int) (n i : Nat) : exL (exL Z n) n i = Z i := by
  unfold exL pt
  by_cases h1 : i = n + 1
  · subst h1; simp
  · by_cases h2 : i = n
    · subst h2; simp
    · simp [h1, h2]

theorem so_exch {Z : Nat → Int} {n : Nat} (h : Nums Z (n + 2)) (hn : n + 2 ≤ 12) : soB Z (n + 2) ⟨#[101, 120, 99, 104]⟩ = true ∧ soY Z (n + 2) ⟨#[101, 120, 99, 104]⟩ = exL Z n ∧ soM Z (n + 2) ⟨#[101, 120, 99, 104]⟩ = n + 2 :=
  so_yes (by simp only [mkL, nm_exch.add, nm_exch.sub, nm_exch.mul, nm_exch.neg, nm_exch.dup, nm_exch.pop, nm_exch.exch, if_true, Bool.false_eq_true, if_false]; rfl) (by rw [need_of nm_exch]; exact ta_of (nums_ok h hn) (by simp)) (opB_of nm_exch) (nums_ok (exL_nums h) hn)

def ngL (Z : Nat → Int) (n : Nat) : Nat → Int := pt Z (n + 1) (-Z (n + 1))
theorem ngL_nums {Z : Nat → Int} {n : Nat} (h : Nums Z (n + 2)) : Nums (ngL Z n) (n + 2) := nums_any h (by have := h (n + 1) (by omega); omega)
theorem ngL_twice (Z : Nat → Int) (n i : Nat) : ngL (ngL Z n) n i = Z i := by
  unfold ngL pt
  by_cases h1 : i = n + 1
  · subst h1; simp
  · simp [h1]

theorem so_neg {Z : Nat → Int} {n : Nat} (h : Nums Z (n + 2)) (hn : n + 2 ≤ 12) : soB Z (n + 2) ⟨#[110, 101, 103]⟩ = true ∧ soY Z (n + 2) ⟨#[110, 101, 103]⟩ = ngL Z n ∧ soM Z (n + 2) ⟨#[110, 101, 103]⟩ = n + 2 :=
  so_yes (by simp only [mkL, nm_neg.add, nm_neg.sub, nm_neg.mul, nm_neg.neg, if_true, Bool.false_eq_true, if_false]; rfl) (by rw [need_of nm_neg]; exact ta_of (nums_ok h hn) (by simp)) (opB_of nm_neg) (nums_ok (ngL_nums h) hn)

def dpL (Z : Nat → Int) (n : Nat) : Nat → Int := pt (pt Z (n + 1) (Z (n + 1))) (n + 2) (Z (n + 1))
theorem dpL_nums {Z : Nat → Int} {n : Nat} (h : Nums Z (n + 2)) : Nums (dpL Z n) (n + 3) := nums_pt (nums_any h (h _ (by omega))) (h _ (by omega))
theorem dpL_lt (Z : Nat → Int) {n i : Nat} (hi : i < n + 2) : dpL Z n i = Z i := by
  unfold dpL
  rw [pt_lt _ hi]
  unfold pt
  by_cases h1 : i = n + 1
  · subst h1; simp
  · simp [h1]

theorem so_dup {Z : Nat → Int} {n : Nat} (h : Nums Z (n + 2)) (hn : n + 3 ≤ 12) : soB Z (n + 2) ⟨#[100, 117, 112]⟩ = true ∧ soY Z (n + 2) ⟨#[100, 117, 112]⟩ = dpL Z n ∧ soM Z (n + 2) ⟨#[100, 117, 112]⟩ = n + 3 :=
  so_yes (by simp only [mkL, nm_dup.add, nm_dup.sub, nm_dup.mul, nm_dup.neg, nm_dup.dup, if_true, Bool.false_eq_true, if_false]; rfl) (by rw [need_of nm_dup]; exact ta_of (nums_ok h (by omega)) (by simp)) (opB_of nm_dup) (nums_ok (dpL_nums h) hn)

theorem so_pop {Z : Nat → Int} {n : Nat} (h : Nums Z (n + 3)) (hn : n + 3 ≤ 12) : soB Z (n + 3) ⟨#[112, 111, 112]⟩ = true ∧ soY Z (n + 3) ⟨#[112, 111, 112]⟩ = Z ∧ soM Z (n + 3) ⟨#[112, 111, 112]⟩ = n + 2 :=
  so_yes (by simp only [mkL, nm_pop.add, nm_pop.sub, nm_pop.mul, nm_pop.neg, nm_pop.dup, nm_pop.pop, if_true, Bool.false_eq_true, if_false]; rfl) (by rw [need_of nm_pop]; exact ta_of (nums_ok h hn) (by simp)) (opB_of nm_pop) (nums_ok (nums_le h (by omega)) (by omega))

def adL (Z : Nat → Int) (n : Nat) : Nat → Int := pt Z n (Z n + Z (n + 1))
theorem so_add {Z : Nat → Int} {n : Nat} (h : Nums Z (n + 2)) (hn : n + 2 ≤ 12) (hs : -9999 ≤ Z n + Z (n + 1) ∧ Z n + Z (n + 1) ≤ 9999) : soB Z (n + 2) ⟨#[97, 100, 100]⟩ = true ∧ soY Z (n + 2) ⟨#[97, 100, 100]⟩ = adL Z n ∧ soM Z (n + 2) ⟨#[97, 100, 100]⟩ = n + 1 :=
  so_yes (by simp only [mkL, nm_add.add, if_true]; rfl) (by rw [need_of nm_add]; exact ta_of (nums_ok h hn) (by simp)) (opB_of nm_add) (nums_ok (nums_le (nums_any h hs) (by omega)) (by omega))

theorem pu_yes {X : Nat → Int} {n : Nat} {a : Int} (h : Nums X n) (hn : n + 1 ≤ 12) (ha : -9999 ≤ a ∧ a ≤ 9999) : puB X n a = true ∧ puN X n a = n + 1 := by
  have hb : puB X n a = true := by simp [puB, nums_ok h (by omega), nums_ok (nums_pt h ha) hn]
  exact ⟨hb, by simp [puN, hb]⟩

theorem ta_two {Z : Nat → Int} {n : Nat} (h : Nums Z (n + 2)) (hn : n + 2 ≤ 12) : taB Z (n + 2) 2 = true ∧ ta1 Z (n + 2) 2 = n ∧ ta2 Z (n + 2) 2 = 2 := by
  have hb : taB Z (n + 2) 2 = true := ta_of (k := 2) (nums_ok h hn) (by omega)
  exact ⟨hb, by simp [ta1, hb], by simp [ta2, hb]⟩

end Go.Proofs.Ytnpbhmeanfolnaa.StkLaw
