/-
  Texts of this seat, laid together: Point, In8, Pth8, Mark, Cr8
-/
import Derived.LoopTactic
import Derived.OwnWalk
import Derived.WalkKit
import Derived.Handy
import Derived.Lib.Hide
import Derived.Deep.RegionHeld3
import Derived.Laws.BytesArg
import Derived.Lib.ItoaNum
import Derived.Lib.ItoaLen
import Derived.Test.YtejnfdpckipbeaaP01
namespace Go.Proofs.Ytejnfdpckipbeaa.Point
open Go.ChangeShapes Go.WideShapes Go.ChangeAt Go.RowKit
open Kit
set_option linter.unusedVariables false
set_option linter.unusedSimpArgs false
set_option linter.unnecessarySimpa false
attribute [local go_sem ↓] run_mx run_mn
def inB (n : Int) : Bool := decide (-200 ≤ n ∧ n ≤ 200)
def pokB (x y : Int) : Bool := inB x && inB y
def bokB (x0 y0 x1 y1 : Int) : Bool := inB x0 && inB y0 && inB x1 && inB y1 && decide (x0 ≤ x1) && decide (y0 ≤ y1)
theorem inB_true {n : Int} (h : inB n = true) : -200 ≤ n ∧ n ≤ 200 := by simpa [inB] using h
theorem coord_any (n : Int) (w : World) : Calls Try.prog 51 #[.int .i64 n] w fun e w' => e = .returned (.bool (inB n)) ∧ w = w' := by
  by_cases h1 : -200 ≤ n <;> by_cases h2 : n ≤ 200
  all_goals
    go_enter Try.func51, Try.ntmps51
    go_wp2
    go_ret
    exact ⟨ret_bool (by simp [inB, h1, h2]), rfl⟩
theorem in_any (x a b : Int) (w : World) : Calls Try.prog 114 #[.int .i64 x, .int .i64 a, .int .i64 b] w fun e w' => e = .returned (.bool (decide (a ≤ x ∧ x ≤ b))) ∧ w = w' := by
  by_cases h1 : a ≤ x <;> by_cases h2 : x ≤ b
  all_goals
    go_enter Try.func114, Try.ntmps114
    go_wp2
    go_ret
    exact ⟨ret_bool (by simp [h1, h2]), rfl⟩
theorem in2_any (n : Int) (w : World) : Calls Try.prog 89 #[.int .i64 n] w fun e w' => e = .returned (.bool (inB n)) ∧ w = w' := by
  go_enter Try.func89, Try.ntmps89
  go_wp2_with (go_at_call 114; refine (in_any _ _ _ _).mono ?_; rintro e w' ⟨rfl, rfl⟩)
  go_ret
  exact ⟨ret_bool (by simp [inB]), rfl⟩
theorem pok_impl (x y : Int) (w : World) : Calls Try.prog 103 #[.agg #[.int .i64 x, .int .i64 y]] w fun e w' => e = .returned (.bool (pokB x y)) ∧ Below w.heap.size w w' := by
  by_cases h1 : inB x = true
  all_goals
    try simp only [Bool.not_eq_true] at h1
    go_enter Try.func103, Try.ntmps103
    go_wp2_with (go_at_call 51; refine (coord_any _ _).mono ?_; rintro e w' ⟨rfl, rfl⟩)
    go_ret
    exact ⟨ret_bool (by simp [pokB, h1]), by go_grown⟩
theorem pok_spec (x y : Int) (w : World) : Calls Try.prog 118 #[.agg #[.int .i64 x, .int .i64 y]] w fun e w' => e = .returned (.bool (pokB x y)) ∧ Below w.heap.size w w' := by
  by_cases h1 : inB x = true
  all_goals
    try simp only [Bool.not_eq_true] at h1
    go_enter Try.func118, Try.ntmps118
    go_wp2_with (go_at_call 89; refine (in2_any _ _).mono ?_; rintro e w' ⟨rfl, rfl⟩)
    go_ret
    exact ⟨ret_bool (by simp [pokB, h1]), by go_grown⟩
theorem bok_spec (x0 y0 x1 y1 : Int) (w : World) : Calls Try.prog 115 #[.agg #[.int .i64 x0, .int .i64 y0, .int .i64 x1, .int .i64 y1]] w fun e w' => e = .returned (.bool (bokB x0 y0 x1 y1)) ∧ Below w.heap.size w w' := by
  rcases four (inB x0) (inB y0) (inB x1) (inB y1) with h1 | ⟨h1, h2⟩ | ⟨h1, h2, h3⟩ | ⟨h1, h2, h3, h4⟩ | ⟨h1, h2, h3, h4⟩
  all_goals
    go_enter Try.func115, Try.ntmps115
    go_wp2_with (go_at_call 89; refine (in2_any _ _).mono ?_; rintro e w' ⟨rfl, rfl⟩)
    all_goals
      go_ret
      exact ⟨ret_bool (by simp [bokB, *]; try omega), by go_grown⟩
theorem bok_two (x0 y0 x1 y1 : Int) : bokB x0 y0 x1 y1 = (pokB x0 y0 && pokB x1 y1 && (decide (x0 ≤ x1) && decide (y0 ≤ y1))) := by
  simp [bokB, pokB, Bool.and_assoc]
theorem bok_impl (x0 y0 x1 y1 : Int) (w : World) : Calls Try.prog 62 #[.agg #[.int .i64 x0, .int .i64 y0, .int .i64 x1, .int .i64 y1]] w fun e w' => e = .returned (.bool (bokB x0 y0 x1 y1)) ∧ Below w.heap.size w w' := by
  cases h1 : pokB x0 y0 <;> cases h2 : pokB x1 y1
  all_goals
    go_enter Try.func62, Try.ntmps62
    go_wp2_with (go_at_call 103; refine (pok_impl _ _ _).mono ?_; rintro e w' ⟨rfl, hb⟩; have hB := on_of (W := w) (by go_grown) hb; obtain ⟨hc, hf⟩ := bcell hb; have hz : w.heap.size < w'.heap.size := (by have := hb.size; (try simp at this); omega); clear hb)
    all_goals
      go_ret
      exact ⟨ret_bool (by rw [bok_two]; simp [h1, h2]; try omega), by go_grown⟩
theorem bok_true {x0 y0 x1 y1 : Int} (h : bokB x0 y0 x1 y1 = true) : -200 ≤ x0 ∧ -200 ≤ y0 ∧ x1 ≤ 200 ∧ y1 ≤ 200 ∧ x0 ≤ x1 ∧ y0 ≤ y1 := by
  simp [bokB, inB] at h; omega
theorem bok_iff (x0 y0 x1 y1 : Int) : bokB x0 y0 x1 y1 = true ↔ -200 ≤ x0 ∧ -200 ≤ y0 ∧ x1 ≤ 200 ∧ y1 ≤ 200 ∧ x0 ≤ x1 ∧ y0 ≤ y1 := by
  simp [bokB, inB]; omega
end Go.Proofs.Ytejnfdpckipbeaa.Point
namespace Go.Proofs.Ytejnfdpckipbeaa.Ins
set_option linter.unusedVariables false
set_option linter.unusedSimpArgs false
set_option linter.unnecessarySimpa false
abbrev Pt := Int × Int
def crs (a b : Pt) (x y : Int) : Bool :=
  if decide (2 * y + 1 < 2 * a.2) == decide (2 * y + 1 < 2 * b.2) then false
  else if b.2 < a.2 then decide ((2 * x + 1 - 2 * b.1) * 2 * (a.2 - b.2) < (2 * y + 1 - 2 * b.2) * 2 * (a.1 - b.1))
  else decide ((2 * x + 1 - 2 * a.1) * 2 * (b.2 - a.2) < (2 * y + 1 - 2 * a.2) * 2 * (b.1 - a.1))
theorem crs_comm (a b : Pt) (x y : Int) : crs b a x y = crs a b x y := by
  unfold crs
  by_cases h : (decide (2 * y + 1 < 2 * a.2) == decide (2 * y + 1 < 2 * b.2)) = true
  · have h' : (decide (2 * y + 1 < 2 * b.2) == decide (2 * y + 1 < 2 * a.2)) = true := by simp only [beq_iff_eq] at *; exact h.symm
    rw [if_pos h, if_pos h']
  · have h' : ¬ (decide (2 * y + 1 < 2 * b.2) == decide (2 * y + 1 < 2 * a.2)) = true := by simp only [beq_iff_eq] at *; exact fun e => h e.symm
    rw [if_neg h, if_neg h']
    have hne : a.2 ≠ b.2 := fun e => h (by rw [e]; simp)
    by_cases hl : b.2 < a.2
    · rw [if_pos hl, if_neg (by omega)]
    · rw [if_neg hl, if_pos (by omega)]
def mv (d : Pt) (p : Pt) : Pt := (p.1 + d.1, p.2 + d.2)
theorem crs_mv (d a b : Pt) (x y : Int) : crs (mv d a) (mv d b) (x + d.1) (y + d.2) = crs a b x y := by
  unfold crs mv
  have e1 : decide (2 * (y + d.2) + 1 < 2 * (a.2 + d.2)) = decide (2 * y + 1 < 2 * a.2) := by congr 1; apply propext; omega
  have e2 : decide (2 * (y + d.2) + 1 < 2 * (b.2 + d.2)) = decide (2 * y + 1 < 2 * b.2) := by congr 1; apply propext; omega
  have e3 : (b.2 + d.2 < a.2 + d.2) = (b.2 < a.2) := by apply propext; omega
  simp only [e1, e2, e3]
  rw [show 2 * (x + d.1) + 1 - 2 * (b.1 + d.1) = 2 * x + 1 - 2 * b.1 by omega, show 2 * (x + d.1) + 1 - 2 * (a.1 + d.1) = 2 * x + 1 - 2 * a.1 by omega,
    show a.2 + d.2 - (b.2 + d.2) = a.2 - b.2 by omega, show b.2 + d.2 - (a.2 + d.2) = b.2 - a.2 by omega,
    show 2 * (y + d.2) + 1 - 2 * (b.2 + d.2) = 2 * y + 1 - 2 * b.2 by omega, show 2 * (y + d.2) + 1 - 2 * (a.2 + d.2) = 2 * y + 1 - 2 * a.2 by omega,
    show a.1 + d.1 - (b.1 + d.1) = a.1 - b.1 by omega, show b.1 + d.1 - (a.1 + d.1) = b.1 - a.1 by omega]
def crA (a b : Pt) : Int := a.1 * b.2 - b.1 * a.2
theorem crA_comm (a b : Pt) : crA b a = -crA a b := by unfold crA; omega
theorem crA_mv (d a b : Pt) : crA (mv d a) (mv d b) = crA a b + (d.1 * b.2 - d.2 * b.1) - (d.1 * a.2 - d.2 * a.1) := by
  unfold crA mv
  simp only [Int.add_mul, Int.mul_add]
  have e1 := Int.mul_comm a.1 d.2
  have e2 := Int.mul_comm b.1 d.2
  have e3 := Int.mul_comm d.1 d.2
  omega
def cp : List Pt → List (Pt × Pt)
  | [] => []
  | [_] => []
  | a :: b :: r => (a, b) :: cp (b :: r)
def sides : List Pt → List (Pt × Pt)
  | [] => []
  | h :: t => cp ((h :: t) ++ [h])
theorem cp_snoc : ∀ (l : List Pt) (a b : Pt), cp (l ++ [a, b]) = cp (l ++ [a]) ++ [(a, b)]
  | [], a, b => rfl
  | [x], a, b => rfl
  | x :: y :: r, a, b => by
    have := cp_snoc (y :: r) a b
    simp only [List.cons_append, cp] at this ⊢
    rw [this]
theorem cp_app : ∀ (l : List Pt) (a : Pt) (r : List Pt), cp (l ++ a :: r) = cp (l ++ [a]) ++ cp (a :: r)
  | [], a, r => rfl
  | [x], a, r => rfl
  | x :: y :: l, a, r => by
    have := cp_app (y :: l) a r
    simp only [List.cons_append, cp] at this ⊢
    rw [this]
theorem cp_rev : ∀ l : List Pt, cp l.reverse = ((cp l).map fun s => (s.2, s.1)).reverse
  | [] => rfl
  | [x] => rfl
  | x :: y :: r => by
    have h := cp_rev (y :: r)
    rw [List.reverse_cons] at h
    rw [List.reverse_cons, List.reverse_cons, List.append_assoc, List.singleton_append, cp_snoc, h]
    simp [cp]
theorem sides_turn (h : Pt) (t : List Pt) : (sides (t ++ [h])).Perm (sides (h :: t)) := by
  cases t with
  | nil => exact List.Perm.refl _
  | cons a r =>
    have e1 : sides ((a :: r) ++ [h]) = cp (a :: (r ++ [h])) ++ [(h, a)] := by
      show cp ((a :: (r ++ [h])) ++ [a]) = _
      have := cp_snoc (a :: r) h a
      simpa using this
    have e2 : sides (h :: a :: r) = (h, a) :: cp (a :: (r ++ [h])) := rfl
    rw [e1, e2]
    exact List.perm_append_comm.trans (by simp)
theorem sides_rev (l : List Pt) : (sides l.reverse).Perm ((sides l).map fun s => (s.2, s.1)) := by
  cases l with
  | nil => exact List.Perm.refl _
  | cons h t =>
    rw [List.reverse_cons]
    refine (sides_turn h t.reverse).trans ?_
    have e : sides (h :: t.reverse) = cp ((h :: t) ++ [h]).reverse := by
      show cp (h :: t.reverse ++ [h]) = _
      simp
    rw [e, cp_rev]
    exact List.reverse_perm _
theorem cp_mv (d : Pt) : ∀ l : List Pt, cp (l.map (mv d)) = (cp l).map fun s => (mv d s.1, mv d s.2)
  | [] => rfl
  | [x] => rfl
  | x :: y :: r => by
    have := cp_mv d (y :: r)
    simp only [List.map_cons, cp] at this ⊢
    rw [this]
theorem sides_mv (d : Pt) (l : List Pt) : sides (l.map (mv d)) = (sides l).map fun s => (mv d s.1, mv d s.2) := by
  cases l with
  | nil => rfl
  | cons h t =>
    have := cp_mv d ((h :: t) ++ [h])
    simpa [sides] using this
def odd : List Bool → Bool
  | [] => false
  | b :: r => b != odd r
theorem odd_app : ∀ a b : List Bool, odd (a ++ b) = (odd a != odd b)
  | [], b => by simp [odd]
  | x :: r, b => by simp only [List.cons_append, odd, odd_app r b]; cases x <;> cases odd r <;> cases odd b <;> rfl
theorem odd_snoc (l : List Bool) (b : Bool) : odd (l ++ [b]) = (odd l != b) := by rw [odd_app]; simp [odd]
theorem odd_perm {a b : List Bool} (h : a.Perm b) : odd a = odd b := by
  induction h with
  | nil => rfl
  | cons x _ ih => simp only [odd, ih]
  | swap x y l => simp only [odd]; cases x <;> cases y <;> cases odd l <;> rfl
  | trans _ _ i j => exact i.trans j
def insP (l : List Pt) (x y : Int) : Bool := odd ((sides l).map fun s => crs s.1 s.2 x y)
theorem insP_rev (l : List Pt) (x y : Int) : insP l.reverse x y = insP l x y := by
  unfold insP
  rw [odd_perm ((sides_rev l).map _), List.map_map]
  congr 1
  exact List.map_congr_left fun s _ => crs_comm s.1 s.2 x y
theorem insP_mv (d : Pt) (l : List Pt) (x y : Int) : insP (l.map (mv d)) (x + d.1) (y + d.2) = insP l x y := by
  unfold insP
  rw [sides_mv, List.map_map]
  congr 1
  exact List.map_congr_left fun s _ => crs_mv d s.1 s.2 x y
def arP (l : List Pt) : Int := ((sides l).map fun s => crA s.1 s.2).sum
theorem sum_perm {a b : List Int} (h : a.Perm b) : a.sum = b.sum := by
  induction h with
  | nil => rfl
  | cons x _ ih => simp only [List.sum_cons, ih]
  | swap x y l => simp only [List.sum_cons]; omega
  | trans _ _ i j => exact i.trans j
theorem sum_neg : ∀ l : List Int, (l.map fun x => -x).sum = -l.sum
  | [] => rfl
  | x :: r => by have := sum_neg r; simp only [List.map_cons, List.sum_cons, this]; omega
theorem arP_rev (l : List Pt) : arP l.reverse = -arP l := by
  unfold arP
  rw [sum_perm ((sides_rev l).map _), List.map_map, ← sum_neg, List.map_map]
  congr 1
  exact List.map_congr_left fun s _ => crA_comm s.1 s.2
theorem cp_tele (f : Pt → Int) : ∀ (l : List Pt) (a b : Pt), ((cp (a :: (l ++ [b]))).map fun s => f s.2 - f s.1).sum = f b - f a
  | [], a, b => by simp [cp]
  | x :: r, a, b => by
    have := cp_tele f r x b
    simp only [List.cons_append, cp, List.map_cons, List.sum_cons, this]
    omega
theorem sides_tele (f : Pt → Int) (l : List Pt) : ((sides l).map fun s => f s.2 - f s.1).sum = 0 := by
  cases l with
  | nil => rfl
  | cons h t =>
    have := cp_tele f t h h
    show ((cp (h :: (t ++ [h]))).map _).sum = 0
    rw [this]; omega
theorem sum_add {α : Type} (f g : α → Int) : ∀ l : List α, (l.map fun x => f x + g x).sum = (l.map f).sum + (l.map g).sum
  | [] => rfl
  | x :: r => by have := sum_add f g r; simp only [List.map_cons, List.sum_cons, this]; omega
theorem arP_mv (d : Pt) (l : List Pt) : arP (l.map (mv d)) = arP l := by
  unfold arP
  rw [sides_mv, List.map_map]
  have e : (sides l).map ((fun s : Pt × Pt => crA s.1 s.2) ∘ fun s => (mv d s.1, mv d s.2)) = (sides l).map (fun s => crA s.1 s.2 + ((d.1 * s.2.2 - d.2 * s.2.1) - (d.1 * s.1.2 - d.2 * s.1.1))) := by
    refine List.map_congr_left fun s _ => ?_
    show crA (mv d s.1) (mv d s.2) = _
    rw [crA_mv]; omega
  rw [e, sum_add (fun s : Pt × Pt => crA s.1 s.2) (fun s => (d.1 * s.2.2 - d.2 * s.2.1) - (d.1 * s.1.2 - d.2 * s.1.1)), sides_tele (fun p => d.1 * p.2 - d.2 * p.1) l]
  omega
theorem cp_len : ∀ (a : Pt) (l : List Pt), (cp (a :: l)).length = l.length
  | a, [] => rfl
  | a, b :: r => by rw [cp, List.length_cons, cp_len b r, List.length_cons]
theorem cp_get : ∀ (l : List Pt) (k : Nat) (h : k + 1 < l.length), (cp l)[k]? = some (l[k], l[k + 1])
  | a :: b :: r, 0, h => rfl
  | a :: b :: r, k + 1, h => by
    have := cp_get (b :: r) k (by simpa using h)
    simpa [cp] using this
theorem sides_len (l : List Pt) : (sides l).length = l.length := by
  cases l with
  | nil => rfl
  | cons h t => show (cp (h :: (t ++ [h]))).length = _; rw [cp_len]; simp
theorem sides_get (l : List Pt) (k : Nat) (h : k < l.length) : (sides l)[k]? = some (l[k], l[(k + 1) % l.length]'(Nat.mod_lt _ (by omega))) := by
  cases l with
  | nil => simp at h
  | cons a t =>
    have hl : (a :: t).length = t.length + 1 := rfl
    have h1 := cp_get ((a :: t) ++ [a]) k (by simp; omega)
    show (cp ((a :: t) ++ [a]))[k]? = _
    rw [h1]
    have e1 : ((a :: t) ++ [a])[k]'(by simp; omega) = (a :: t)[k] := List.getElem_append_left h
    by_cases hk : k + 1 < (a :: t).length
    · have e2 : ((a :: t) ++ [a])[k + 1]'(by simp; omega) = (a :: t)[k + 1] := List.getElem_append_left hk
      rw [e1, e2]
      congr 2
      exact (getElem_congr_idx (Nat.mod_eq_of_lt hk)).symm
    · have hk2 : k + 1 = (a :: t).length := by omega
      have e2 : ((a :: t) ++ [a])[k + 1]'(by simp; omega) = a := by
        rw [List.getElem_append_right (by omega)]; simp [hk2]
      rw [e1, e2]
      congr 2
      have : (k + 1) % (a :: t).length = 0 := by rw [hk2]; exact Nat.mod_self _
      have e3 : ∀ i (hi : i < (a :: t).length), i = 0 → (a :: t)[i] = a := by intro i hi h; subst h; rfl
      exact (e3 _ _ this).symm
end Go.Proofs.Ytejnfdpckipbeaa.Ins
namespace Go.Proofs.Ytejnfdpckipbeaa.Ins
open Go.ChangeShapes Go.WideShapes Go.ChangeAt Go.RowKit
open Kit Point
set_option linter.unusedVariables false
set_option linter.unusedSimpArgs false
set_option linter.unnecessarySimpa false
def pX (l : List (Int × Int)) (i : Nat) : Int := (l.getD i (0, 0)).1
def pY (l : List (Int × Int)) (i : Nat) : Int := (l.getD i (0, 0)).2
def ptsB (l : List (Int × Int)) : Bool := l.all fun p => pokB p.1 p.2
def pathB (l : List (Int × Int)) : Bool := decide (l.length ≤ 8) && ptsB l
def PathAt (w : World) (a : Option Addr) (l : List (Int × Int)) : Prop := l = [] ∨ ∃ g, a = some ⟨g, 0, none⟩ ∧ g < w.heap.size ∧ ∀ i, i < l.length → w.cell? ⟨g, i * 2, none⟩ = some (.int .i64 (pX l i)) ∧ w.cell? ⟨g, i * 2 + 1, none⟩ = some (.int .i64 (pY l i))
theorem PathAt.on {w w' : World} {a : Option Addr} {l : List (Int × Int)} (h : PathAt w a l) (hb : Below w.heap.size w w') : PathAt w' a l := by
  rcases h with h | ⟨g, ha, hg, h⟩
  · exact .inl h
  · exact .inr ⟨g, ha, Nat.lt_of_lt_of_le hg hb.size, fun i hi => ⟨(hb.cell (p := ⟨g, _, none⟩) hg).trans (h i hi).1, (hb.cell (p := ⟨g, _, none⟩) hg).trans (h i hi).2⟩⟩
theorem ptsB_bad {l : List (Int × Int)} {k : Nat} (hk : k < l.length) (h : pokB (pX l k) (pY l k) = false) : ptsB l = false := by
  rw [ptsB, List.all_eq_false]
  refine ⟨l[k], List.getElem_mem hk, ?_⟩
  have e : l.getD k (0, 0) = l[k] := by simp [List.getD, List.getElem?_eq_getElem hk]
  simp only [pX, pY, e] at h
  simp [h]
theorem ptsB_good {l : List (Int × Int)} (h : ∀ k, k < l.length → pokB (pX l k) (pY l k) = true) : ptsB l = true := by
  rw [ptsB, List.all_eq_true]
  intro p hp
  obtain ⟨k, hk, rfl⟩ := List.getElem_of_mem hp
  have e : l.getD k (0, 0) = l[k] := by simp [List.getD, List.getElem?_eq_getElem hk]
  have := h k hk
  simpa only [pX, pY, e] using this
set_option maxHeartbeats 1000000 in
theorem pts_spec (w : World) (a : Option Addr) (c : Nat) (l : List (Int × Int)) (hn : l.length ≤ 1048576) (h : PathAt w a l) :
    Calls Try.prog 113 #[.slice a l.length c] w fun e w' => e = .returned (.bool (pathB l)) ∧ Below w.heap.size w w' := by
  have HP := Lib.hid h
  rcases h with rfl | ⟨g, rfl, hg, _⟩
  · go_enter Try.func113, Try.ntmps113
    go_wp2
    go_rounds 1
    go_ret
    exact ⟨rfl, Below.refl _ _⟩
  · obtain ⟨n, hN⟩ : ∃ n, l.length = n := ⟨_, rfl⟩
    have HN := Lib.hid hN
    rw [hN] at hn ⊢
    clear hN
    go_enter Try.func113, Try.ntmps113
    go_wp2
    go_loopw [3] (fun v3 wr => ∃ k : Nat, k ≤ n ∧ v3 = .int .i64 (k : Int) ∧ Hid (∀ i, i < k → pokB (pX l i) (pY l i) = true) ∧ Below w.heap.size w wr) (fun v3 _ => n - (intOf v3).toNat)
    case atStart => exact ⟨0, Nat.zero_le _, rfl, Lib.hid (fun i hi => absurd hi (Nat.not_lt_zero i)), Below.refl _ _⟩
    case round =>
      obtain ⟨k, hk, rfl, hb, hB⟩ := hrel
      by_cases hlt : k < n
      · have hP := HP.out.on hB
        rcases hP with he | ⟨g', hg', hlg, hc⟩
        · have := HN.out; rw [he] at this; simp at this; omega
        · injection hg' with hg'
          injection hg' with hg'
          subst hg'
          have q := hc k (by rw [HN.out]; exact hlt)
          obtain ⟨q1, q2⟩ := q
          obtain ⟨x, hx⟩ : ∃ x, pX l k = x := ⟨_, rfl⟩
          obtain ⟨y, hy⟩ : ∃ y, pY l k = y := ⟨_, rfl⟩
          rw [hx] at q1; rw [hy] at q2
          have i0 : (0 : Int) ≤ (k : Int) := by omega
          have i1 : (k : Int) < (n : Int) := by omega
          have HX := Lib.hid (And.intro hx hy)
          clear hx hy hc
          have HB := Lib.hid hB
          clear hB
          go_wp2_with fail
          ((with_reducible refine (pok_spec x y _).mono ?_); rintro e w1 ⟨rfl, bb⟩)
          have hB1 := on_of HB.out bb
          have HB1 := Lib.hid hB1
          clear hB1 bb
          cases hp : pokB x y
          · have hno : pathB l = false := by rw [pathB, ptsB_bad (by rw [HN.out]; exact hlt) (by rw [HX.out.1, HX.out.2]; exact hp)]; simp
            have HS := Lib.hid hno
            clear hno hp
            go_wp2
            go_ret
            exact ⟨ret_bool HS.out.symm, HB1.out⟩
          · have hyes : ∀ i, i < k + 1 → pokB (pX l i) (pY l i) = true := fun i hi => by
              by_cases e : i = k
              · subst e; rw [HX.out.1, HX.out.2]; exact hp
              · exact hb.out i (by omega)
            have HS := Lib.hid hyes
            clear hyes hp
            go_wp2
            go_roundw
            case rel => exact ⟨k + 1, by omega, by go_num, HS, HB1.out⟩
            case measure => simp [intOf]; omega
      · obtain rfl : k = n := by omega
        have HB := Lib.hid hB
        clear hB
        go_wp2
        go_ret
        refine ⟨ret_bool ?_, HB.out⟩
        rw [pathB, ptsB_good (fun i hi => hb.out i (by rw [← HN.out]; exact hi)), HN.out, Bool.and_true]
        first | rfl | (apply decide_eq_decide.2; omega)
end Go.Proofs.Ytejnfdpckipbeaa.Ins
namespace Go.Proofs.Ytejnfdpckipbeaa.Marking
open Go.ChangeShapes Go.WideShapes Go.ChangeAt Go.RowKit
open Kit
set_option linter.unusedVariables false
set_option linter.unusedSimpArgs false
set_option linter.unnecessarySimpa false
def rest (m : Nat) : List UInt8 := if m = 0 then [] else Lib.decDigits m
theorem rest_step (m : Nat) (h : m ≠ 0) : rest m = rest (m / 10) ++ [UInt8.ofNat (48 + m % 10)] := by
  unfold rest
  rw [if_neg h]
  by_cases h1 : m < 10
  · rw [Lib.decDigits_one h1, if_pos (by omega), Nat.mod_eq_of_lt h1]; rfl
  · rw [Lib.decDigits, dif_neg h1, if_neg (by omega)]
theorem cons_str (c : UInt8) (l : List UInt8) : (({ data := #[c] } : ByteArray) ++ ({ data := l.toArray } : ByteArray)) = { data := (c :: l).toArray } := by
  apply ByteArray.ext
  simp
theorem digits_le {N : Nat} (h1 : N < 18446744073709551616) {m : Nat} {l : List UInt8} (h : rest m ++ l = Lib.decDigits N) : l.length ≤ 20 := by
  have h2 : (rest m ++ l).length = Lib.nDigits N := by rw [h, Lib.decDigits_length]
  rw [List.length_append] at h2
  have := Lib.nDigits_le20 N h1
  omega
theorem rest_next {N m : Nat} {l : List UInt8} (hm : m ≠ 0) (h : rest m ++ l = Lib.decDigits N) : rest (m / 10) ++ (UInt8.ofNat (48 + m % 10) :: l) = Lib.decDigits N := by
  rw [← h, rest_step m hm, List.append_assoc]; rfl
theorem drewN_below {B : Nat} {a w : World} (h : Below B a w) (n : Nat) : Below B a (w.drewN n) := ⟨h.os, h.tape, h.output, h.size, h.block⟩
def mt (k : Nat) : ByteArray := ⟨(109 :: Lib.decDigits k).toArray⟩
end Go.Proofs.Ytejnfdpckipbeaa.Marking
namespace Go.Proofs.Ytejnfdpckipbeaa.Ins
open Go.ChangeShapes Go.WideShapes Go.ChangeAt Go.RowKit
open Kit Point
set_option linter.unusedVariables false
set_option linter.unusedSimpArgs false
set_option linter.unnecessarySimpa false
theorem mul_bd {a b A B : Int} (ha : -A ≤ a ∧ a ≤ A) (hb : -B ≤ b ∧ b ≤ B) : -(A * B) ≤ a * b ∧ a * b ≤ A * B := by
  have hA : 0 ≤ A := by omega
  have hB : 0 ≤ B := by omega
  have n1 : a.natAbs ≤ A.toNat := by omega
  have n2 : b.natAbs ≤ B.toNat := by omega
  have n3 := Nat.mul_le_mul n1 n2
  rw [← Int.natAbs_mul] at n3
  have n4 : ((A.toNat * B.toNat : Nat) : Int) = A * B := by rw [Int.natCast_mul, Int.toNat_of_nonneg hA, Int.toNat_of_nonneg hB]
  have n5 : (((a * b).natAbs : Nat) : Int) ≤ A * B := by rw [← n4]; exact_mod_cast n3
  omega
set_option maxHeartbeats 1000000 in
theorem cr_spec (ax ay bx b1 x y : Int) (w : World) (ha : pokB ax ay = true) (hb : pokB bx b1 = true) (hx : inB x = true) (hy : inB y = true) :
    Calls Try.prog 125 #[.agg #[.int .i64 ax, .int .i64 ay], .agg #[.int .i64 bx, .int .i64 b1], .int .i64 x, .int .i64 y] w fun e w' => e = .returned (.bool (crs (ax, ay) (bx, b1) x y)) ∧ Below w.heap.size w w' := by
  simp only [pokB, Bool.and_eq_true] at ha hb
  obtain ⟨a0, a1⟩ := ha
  obtain ⟨c0, c1⟩ := hb
  have a2 := inB_true a0; have a3 := inB_true a1; have c2 := inB_true c0; have c3 := inB_true c1; have x2 := inB_true hx; have y2 := inB_true hy
  clear a0 a1 c0 c1 hx hy
  obtain ⟨m0, m1⟩ := @mul_bd ((2 * x + 1 - 2 * ax) * 2) (b1 - ay) 1602 400 (by omega) (by omega)
  obtain ⟨m2, m3⟩ := @mul_bd ((2 * y + 1 - 2 * ay) * 2) (bx - ax) 1602 400 (by omega) (by omega)
  obtain ⟨m4, m5⟩ := @mul_bd ((2 * x + 1 - 2 * bx) * 2) (ay - b1) 1602 400 (by omega) (by omega)
  obtain ⟨m6, m7⟩ := @mul_bd ((2 * y + 1 - 2 * b1) * 2) (ax - bx) 1602 400 (by omega) (by omega)
  by_cases h : (decide (2 * y + 1 < 2 * ay) == decide (2 * y + 1 < 2 * b1)) = true
  · go_enter Try.func125, Try.ntmps125
    go_wp2
    go_ret
    exact ⟨ret_bool (by unfold crs; rw [if_pos h]), by go_grown⟩
  · have h' : (decide (2 * y + 1 < 2 * ay) == decide (2 * y + 1 < 2 * b1)) = false := by simpa using h
    by_cases hl : b1 < ay
    · go_enter Try.func125, Try.ntmps125
      go_wp2
      go_ret
      exact ⟨ret_bool (by unfold crs; rw [if_neg h, if_pos hl]), by go_grown⟩
    · have hl' : ay ≤ b1 := by omega
      go_enter Try.func125, Try.ntmps125
      go_wp2
      go_ret
      exact ⟨ret_bool (by unfold crs; rw [if_neg h, if_neg (by omega)]), by go_grown⟩
end Go.Proofs.Ytejnfdpckipbeaa.Ins
