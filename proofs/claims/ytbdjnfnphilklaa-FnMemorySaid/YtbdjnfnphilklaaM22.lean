/-
  Texts of this seat, laid together: Sp9
-/
import Derived.Test.YtbdjnfnphilklaaM01
namespace Go.Proofs.Ytbdjnfnphilklaa.Ins
set_option linter.unusedVariables false
set_option linter.unusedSimpArgs false
set_option linter.unnecessarySimpa false
def inS (l : List Pt) (x : Int) : Bool := l.any fun p => decide (p.1 ≤ x ∧ x < p.2)
def Sep : List Pt → Prop
  | [] => True
  | p :: r => p.1 < p.2 ∧ (∀ q ∈ r, p.2 < q.1) ∧ Sep r
theorem inS_nil (x : Int) : inS [] x = false := rfl
theorem inS_cons (p : Pt) (r : List Pt) (x : Int) : inS (p :: r) x = (decide (p.1 ≤ x ∧ x < p.2) || inS r x) := by simp [inS]
theorem inS_app (a b : List Pt) (x : Int) : inS (a ++ b) x = (inS a x || inS b x) := by simp [inS, List.any_append]
theorem inS_false {l : List Pt} {x : Int} (h : ∀ q ∈ l, x < q.1 ∨ q.2 ≤ x) : inS l x = false := by
  rw [inS, List.any_eq_false]
  intro q hq
  have := h q hq
  simp; omega
theorem inS_true {l : List Pt} {x : Int} : inS l x = true ↔ ∃ q ∈ l, q.1 ≤ x ∧ x < q.2 := by simp [inS, List.any_eq_true]
theorem Sep.pos : ∀ {l : List Pt}, Sep l → ∀ q ∈ l, q.1 < q.2
  | p :: r, h, q, hq => by
    rcases List.mem_cons.1 hq with rfl | hq
    · exact h.1
    · exact Sep.pos h.2.2 q hq
theorem Sep.unique : ∀ {l m : List Pt}, Sep l → Sep m → (∀ x, inS l x = inS m x) → l = m
  | [], [], _, _, _ => rfl
  | [], q :: m, _, hm, h => by
    have := h q.1
    rw [inS_cons, inS_nil, show decide (q.1 ≤ q.1 ∧ q.1 < q.2) = true by have := hm.1; simp; omega] at this
    simp at this
  | p :: l, [], hl, _, h => by
    have := h p.1
    rw [inS_cons, inS_nil, show decide (p.1 ≤ p.1 ∧ p.1 < p.2) = true by have := hl.1; simp; omega] at this
    simp at this
  | p :: l, q :: m, hl, hm, h => by
    have low : ∀ (p : Pt) (l : List Pt), Sep (p :: l) → ∀ x, inS (p :: l) x = true → p.1 ≤ x := by
      intro p l hl x hx
      obtain ⟨q, hq, h1, h2⟩ := inS_true.1 hx
      rcases List.mem_cons.1 hq with rfl | hq
      · exact h1
      · have := hl.1; have := hl.2.1 q hq; omega
    have fst : ∀ (p : Pt) (l : List Pt), Sep (p :: l) → inS (p :: l) p.1 = true := fun p l hl =>
      inS_true.2 ⟨p, by simp, Int.le_refl _, hl.1⟩
    have e1 : p.1 = q.1 := by
      have a := low q m hm p.1 (by rw [← h]; exact fst p l hl)
      have b := low p l hl q.1 (by rw [h]; exact fst q m hm)
      omega
    have snd : ∀ (p : Pt) (l : List Pt), Sep (p :: l) → inS (p :: l) p.2 = false := fun p l hl => by
      refine inS_false fun q hq => ?_
      rcases List.mem_cons.1 hq with rfl | hq
      · exact .inr (Int.le_refl _)
      · exact .inl (hl.2.1 q hq)
    have e2 : p.2 = q.2 := by
      have le : ∀ (p q : Pt) (l m : List Pt), Sep (p :: l) → Sep (q :: m) → p.1 = q.1 → (∀ x, inS (p :: l) x = inS (q :: m) x) → q.2 ≤ p.2 := by
        intro p q l m hl hm e h
        by_cases hlt : p.2 < q.2
        · have a := snd p l hl
          rw [h p.2] at a
          have b : inS (q :: m) p.2 = true := inS_true.2 ⟨q, by simp, by have := hl.1; omega, hlt⟩
          rw [a] at b; cases b
        · omega
      have a := le p q l m hl hm e1 h
      have b := le q p m l hm hl e1.symm (fun x => (h x).symm)
      omega
    have ep : p = q := by cases p; cases q; simp at e1 e2; rw [e1, e2]
    subst ep
    congr 1
    refine Sep.unique hl.2.2 hm.2.2 fun x => ?_
    by_cases hx : x ≤ p.2
    · rw [inS_false fun q hq => .inl (by have := hl.2.1 q hq; omega), inS_false fun q hq => .inl (by have := hm.2.1 q hq; omega)]
    · have := h x
      rw [inS_cons, inS_cons, show decide (p.1 ≤ x ∧ x < p.2) = false by simp; omega] at this
      simpa using this
theorem Sep.snoc {l : List Pt} {a b : Int} (h : Sep l) (ha : a < b) (hl : ∀ q ∈ l, q.2 < a) : Sep (l ++ [(a, b)]) := by
  induction l with
  | nil => exact ⟨ha, by simp, trivial⟩
  | cons p r ih =>
    refine ⟨h.1, fun q hq => ?_, ih h.2.2 fun q hq => hl q (by simp [hq])⟩
    rcases List.mem_append.1 hq with hq | hq
    · exact h.2.1 q hq
    · rw [List.mem_singleton.1 hq]; exact hl p (by simp)
/-! ### a row that is scanned -/
structure Scn where
  out : List Pt
  on : Bool
  from' : Int
def Scn.step (f : Int → Bool) (s : Scn) (x : Int) : Scn :=
  ⟨if f x = false ∧ s.on = true then s.out ++ [(s.from', x)] else s.out, f x, if f x = true ∧ s.on = false then x else s.from'⟩
def scn (f : Int → Bool) (x0 : Int) : Nat → Scn
  | 0 => ⟨[], false, x0⟩
  | k + 1 => (scn f x0 k).step f (x0 + (k : Int))
structure ScnOk (f : Int → Bool) (x0 : Int) (X : Int) (s : Scn) : Prop where
  sep : Sep s.out
  ends : ∀ q ∈ s.out, q.2 < if s.on then s.from' else X
  open' : s.on = true → s.from' < X
  mem : ∀ x, (inS s.out x || (s.on && decide (s.from' ≤ x ∧ x < X))) = (decide (x0 ≤ x ∧ x < X) && f x)
theorem scn_ok (f : Int → Bool) (x0 : Int) : ∀ k : Nat, ScnOk f x0 (x0 + (k : Int)) (scn f x0 k)
  | 0 => ⟨trivial, by simp [scn], by simp [scn], fun x => by
      simp only [scn, inS_nil, Bool.false_and, Bool.or_self]
      rw [show decide (x0 ≤ x ∧ x < x0 + ((0 : Nat) : Int)) = false by simp <;> omega]; rfl⟩
  | k + 1 => by
    obtain ⟨h1, h2, h3, h4⟩ := scn_ok f x0 k
    have hX : x0 + ((k + 1 : Nat) : Int) = x0 + (k : Int) + 1 := by omega
    rw [hX]
    generalize hx : x0 + (k : Int) = X at *
    have hx0 : x0 ≤ X := by omega
    show ScnOk f x0 (X + 1) ((scn f x0 k).step f (x0 + (k : Int)))
    rw [hx]
    generalize scn f x0 k = s at *
    obtain ⟨out, on, fr⟩ := s
    have hmem : ∀ x, (decide (x0 ≤ x ∧ x < X + 1) && f x) = ((decide (x0 ≤ x ∧ x < X) && f x) || (decide (x = X) && f X)) := by
      intro x
      by_cases e : x = X
      · subst e; simp [hx0, show x < x + 1 by omega]
      · have : decide (x0 ≤ x ∧ x < X + 1) = decide (x0 ≤ x ∧ x < X) := by rw [decide_eq_decide]; omega
        rw [this]; simp [e]
    cases on <;> cases hf : f X <;> simp only [Scn.step, hf] at *
    · refine ⟨by simpa using h1, fun q hq => ?_, by simp, fun x => ?_⟩
      · have := h2 q (by simpa using hq); simp at this ⊢; omega
      · rw [hmem, ← h4]; simp
    · refine ⟨by simpa using h1, fun q hq => ?_, by simp; omega, fun x => ?_⟩
      · have := h2 q (by simpa using hq); simpa using this
      · rw [hmem, ← h4]; simp only [Bool.false_and, Bool.or_false, Bool.and_true, Bool.true_and, if_true, and_self, Bool.true_eq_false, false_and, if_false]
        congr 1; rw [decide_eq_decide]; omega
    · simp only [if_true, forall_const, Bool.true_and] at h2 h3 h4
      refine ⟨?_, ?_, by simp, fun x => ?_⟩
      · simp only [and_self, if_true]; exact h1.snoc h3 h2
      · intro q hq
        simp only [and_self, if_true] at hq
        simp only [Bool.false_eq_true, if_false]
        rcases List.mem_append.1 hq with hq | hq
        · have := h2 q hq; omega
        · rw [List.mem_singleton.1 hq]; show X < X + 1; omega
      · rw [hmem, ← h4]; simp [inS_app, inS_cons, inS_nil]
    · simp only [if_true, forall_const, Bool.true_and] at h2 h3 h4
      refine ⟨by simpa using h1, fun q hq => ?_, by simp; omega, fun x => ?_⟩
      · have := h2 q (by simpa using hq); simpa using this
      · rw [hmem, ← h4]; simp only [Bool.true_eq_false, and_false, false_and, if_false, Bool.true_and, Bool.and_true, and_self]
        rw [Bool.or_assoc]; congr 1
        rw [← Bool.decide_or, decide_eq_decide]; omega
/-! ### spans out of turning columns -/
def prs : List Int → List Pt
  | a :: b :: r => (a, b) :: prs r
  | _ => []
theorem prs_len : ∀ (c : List Int), (prs c).length = c.length / 2
  | [] => rfl
  | [a] => by simp [prs]
  | a :: b :: r => by simp only [prs, List.length_cons, prs_len r]; omega
theorem prs_mem : ∀ (c : List Int) (q : Pt), q ∈ prs c → q.1 ∈ c ∧ q.2 ∈ c
  | [], q, h => by simp [prs] at h
  | [a], q, h => by simp [prs] at h
  | a :: b :: r, q, h => by
    simp only [prs, List.mem_cons] at h
    rcases h with rfl | h
    · simp
    · have := prs_mem r q h; simp [this.1, this.2]
def above (c : List Int) (x : Int) : Nat := c.countP fun d => decide (x < d)
theorem above_all {c : List Int} {x : Int} (h : ∀ d ∈ c, x < d) : above c x = c.length := by
  rw [above, List.countP_eq_length]; intro d hd; simpa using h d hd
theorem above_none {c : List Int} {x : Int} (h : ∀ d ∈ c, d ≤ x) : above c x = 0 := by
  rw [above, List.countP_eq_zero]; intro d hd; have := h d hd; simp; omega
theorem above_cons (a : Int) (c : List Int) (x : Int) : above (a :: c) x = above c x + if x < a then 1 else 0 := by
  unfold above; rw [List.countP_cons]; simp
theorem above_app (a c : List Int) (x : Int) : above (a ++ c) x = above a x + above c x := by
  unfold above; rw [List.countP_append]
theorem prs_sep : ∀ {c : List Int}, c.Pairwise (· < ·) → Sep (prs c)
  | [], _ => trivial
  | [a], _ => trivial
  | a :: b :: r, h => by
    have h1 := List.pairwise_cons.1 h
    have h2 := List.pairwise_cons.1 h1.2
    refine ⟨h1.1 b (by simp), fun q hq => ?_, prs_sep h2.2⟩
    exact h2.1 q.1 (prs_mem r q hq).1
theorem prs_in : ∀ {c : List Int}, c.Pairwise (· < ·) → c.length % 2 = 0 → ∀ x, inS (prs c) x = decide (above c x % 2 = 1)
  | [], _, _, x => by simp [prs, inS, above]
  | [a], _, h, x => by simp at h
  | a :: b :: r, h, hl, x => by
    have h1 := List.pairwise_cons.1 h
    have h2 := List.pairwise_cons.1 h1.2
    have hl' : r.length % 2 = 0 := by simp only [List.length_cons] at hl; omega
    have ih := prs_in h2.2 hl' x
    have hab := h1.1 b (by simp)
    rw [prs, inS_cons, ih, above_cons, above_cons]
    by_cases hx : x < b
    · have hall : above r x = r.length := above_all fun d hd => by have := h2.1 d hd; omega
      rw [hall]
      by_cases ha : x < a
      · rw [if_pos hx, if_pos ha, show decide (a ≤ x ∧ x < b) = false by simp; omega, show decide (r.length % 2 = 1) = false by simp; omega]
        symm; simp; omega
      · rw [if_pos hx, if_neg ha, show decide (a ≤ x ∧ x < b) = true by simp; omega]
        symm; simp; omega
    · rw [if_neg hx, if_neg (by omega), show decide (a ≤ x ∧ x < b) = false by simp; omega]
      simp
/-! ### columns that are toggled -/
def tog (c : List Int) (x : Int) : List Int :=
  if c.contains x then c.take (c.countP fun d => decide (d < x)) ++ c.drop ((c.countP fun d => decide (d < x)) + 1)
  else c.take (c.countP fun d => decide (d < x)) ++ x :: c.drop (c.countP fun d => decide (d < x))
theorem cnt_lt_zero {c : List Int} {x : Int} (h : ∀ d ∈ c, x ≤ d) : c.countP (fun d => decide (d < x)) = 0 := by
  rw [List.countP_eq_zero]; intro d hd; have := h d hd; simp; omega
theorem tog_less {a x : Int} (c : List Int) (h : a < x) : tog (a :: c) x = a :: tog c x := by
  unfold tog
  have e : (a :: c).countP (fun d => decide (d < x)) = c.countP (fun d => decide (d < x)) + 1 := by rw [List.countP_cons]; simp [h]
  have e2 : (a :: c).contains x = c.contains x := by
    rw [List.contains_cons]; have : (x == a) = false := by simp; omega
    rw [this, Bool.false_or]
  rw [e, e2]
  cases c.contains x <;> simp
theorem tog_same {x : Int} {c : List Int} (h : ∀ d ∈ c, x < d) : tog (x :: c) x = c := by
  unfold tog
  have e : (x :: c).countP (fun d => decide (d < x)) = 0 := cnt_lt_zero fun d hd => by
    rcases List.mem_cons.1 hd with rfl | hd
    · omega
    · have := h d hd; omega
  rw [e]; simp
theorem tog_more {a x : Int} {c : List Int} (hx : x < a) (h : ∀ d ∈ c, a < d) : tog (a :: c) x = x :: a :: c := by
  unfold tog
  have e : (a :: c).countP (fun d => decide (d < x)) = 0 := cnt_lt_zero fun d hd => by
    rcases List.mem_cons.1 hd with rfl | hd
    · omega
    · have := h d hd; omega
  have e2 : (a :: c).contains x = false := by
    simp only [List.contains_eq_mem, decide_eq_false_iff_not, List.mem_cons, not_or]
    refine ⟨by omega, fun hd => ?_⟩
    have := h x hd; omega
  rw [e, e2]; simp
theorem tog_nil (x : Int) : tog [] x = [x] := rfl
theorem tog_mem : ∀ {c : List Int}, c.Pairwise (· < ·) → ∀ (x : Int), ∀ d ∈ tog c x, d = x ∨ d ∈ c
  | [], _, x, d, h => by rw [tog_nil] at h; simp at h; exact .inl h
  | a :: c, hc, x, d, h => by
    have h1 := List.pairwise_cons.1 hc
    by_cases hlt : a < x
    · rw [tog_less c hlt] at h
      rcases List.mem_cons.1 h with rfl | h
      · exact .inr (by simp)
      · rcases tog_mem h1.2 x d h with rfl | h
        · exact .inl rfl
        · exact .inr (by simp [h])
    · by_cases e : a = x
      · subst e; rw [tog_same h1.1] at h; exact .inr (by simp [h])
      · rw [tog_more (show x < a by omega) h1.1] at h
        rcases List.mem_cons.1 h with rfl | h
        · exact .inl rfl
        · exact .inr h
theorem tog_sorted : ∀ {c : List Int}, c.Pairwise (· < ·) → ∀ (x : Int), (tog c x).Pairwise (· < ·)
  | [], _, x => by rw [tog_nil]; simp
  | a :: c, hc, x => by
    have h1 := List.pairwise_cons.1 hc
    by_cases hlt : a < x
    · rw [tog_less c hlt]
      refine List.pairwise_cons.2 ⟨fun d hd => ?_, tog_sorted h1.2 x⟩
      rcases tog_mem h1.2 x d hd with rfl | h
      · exact hlt
      · exact h1.1 d h
    · by_cases e : a = x
      · subst e; rw [tog_same h1.1]; exact h1.2
      · rw [tog_more (show x < a by omega) h1.1]
        refine List.pairwise_cons.2 ⟨fun d hd => ?_, hc⟩
        rcases List.mem_cons.1 hd with rfl | hd
        · omega
        · have := h1.1 d hd; omega
theorem tog_above : ∀ {c : List Int}, c.Pairwise (· < ·) → ∀ (x y : Int), above (tog c x) y % 2 = (above c y + if y < x then 1 else 0) % 2
  | [], _, x, y => by rw [tog_nil, above_cons]
  | a :: c, hc, x, y => by
    have h1 := List.pairwise_cons.1 hc
    by_cases hlt : a < x
    · rw [tog_less c hlt, above_cons, above_cons]
      have := tog_above h1.2 x y
      omega
    · by_cases e : a = x
      · subst e; rw [tog_same h1.1, above_cons]; split <;> omega
      · rw [tog_more (by omega) h1.1, above_cons]
theorem tog_len : ∀ {c : List Int}, c.Pairwise (· < ·) → ∀ (x : Int), (tog c x).length % 2 = (c.length + 1) % 2 ∧ (tog c x).length ≤ c.length + 1
  | [], _, x => by rw [tog_nil]; simp
  | a :: c, hc, x => by
    have h1 := List.pairwise_cons.1 hc
    by_cases hlt : a < x
    · rw [tog_less c hlt]
      have := tog_len h1.2 x
      simp only [List.length_cons]; omega
    · by_cases e : a = x
      · subst e; rw [tog_same h1.1]; simp only [List.length_cons]; omega
      · rw [tog_more (show x < a by omega) h1.1]; exact ⟨by simp, by simp⟩
end Go.Proofs.Ytbdjnfnphilklaa.Ins
