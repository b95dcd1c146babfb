/-
  Texts of this seat, laid together: In8, Pth8
-/
import Derived.LoopTactic
import Derived.OwnWalk
import Derived.WalkKit
import Derived.Handy
import Derived.Lib.Hide
import Derived.Test.YtkabofbbioaapaaP01
import Derived.Test.YtkabofbbioaapaaP02
namespace Go.Proofs.Ytkabofbbioaapaa.Ins
set_option linter.unusedVariables false
set_option linter.unusedSimpArgs false
set_option linter.unnecessarySimpa false
abbrev Pt := Int × Int
def crs (a b : Pt) (x y : Int) : Bool :=
  if decide (2 * y + 1 < 2 * a.2) == decide (2 * y + 1 < 2 * b.2) then false
  else if b.2 < a.2 then decide ((2 * x + 1 - 2 * b.1) * 2 * (a.2 - b.2) < (2 * y + 1 - 2 * b.2) * 2 * (a.1 - b.1))
  else decide ((2 * x + 1 - 2 * a.1) * 2 * (b.2 - a.2) < (2 * y + 1 - 2 * a.2) * 2 * (b.1 - a.1))
theorem crs_comm (a b : Pt) (x y : Int) : crs b a x y = crs a b x y := by
  unfold crs
  by_cases h : (decide (2 * y + 1 < 2 * a.2) == decide (2 * y + 1 < 2 * b.2)) = true
  · have h' : (decide (2 * y + 1 < 2 * b.2) == decide (2 * y + 1 < 2 * a.2)) = true := by simp only [beq_iff_eq] at *; exact h.symm
    rw [if_pos h, if_pos h']
  · have h' : ¬ (decide (2 * y + 1 < 2 * b.2) == decide (2 * y + 1 < 2 * a.2)) = true := by simp only [beq_iff_eq] at *; exact fun e => h e.symm
    rw [if_neg h, if_neg h']
    have hne : a.2 ≠ b.2 := fun e => h (by rw [e]; simp)
    by_cases hl : b.2 < a.2
    · rw [if_pos hl, if_neg (by omega)]
    · rw [if_neg hl, if_pos (by omega)]
def mv (d : Pt) (p : Pt) : Pt := (p.1 + d.1, p.2 + d.2)
theorem crs_mv (d a b : Pt) (x y : Int) : crs (mv d a) (mv d b) (x + d.1) (y + d.2) = crs a b x y := by
  unfold crs mv
  have e1 : decide (2 * (y + d.2) + 1 < 2 * (a.2 + d.2)) = decide (2 * y + 1 < 2 * a.2) := by congr 1; apply propext; omega
  have e2 : decide (2 * (y + d.2) + 1 < 2 * (b.2 + d.2)) = decide (2 * y + 1 < 2 * b.2) := by congr 1; apply propext; omega
  have e3 : (b.2 + d.2 < a.2 + d.2) = (b.2 < a.2) := by apply propext; omega
  simp only [e1, e2, e3]
  rw [show 2 * (x + d.1) + 1 - 2 * (b.1 + d.1) = 2 * x + 1 - 2 * b.1 by omega, show 2 * (x + d.1) + 1 - 2 * (a.1 + d.1) = 2 * x + 1 - 2 * a.1 by omega,
    show a.2 + d.2 - (b.2 + d.2) = a.2 - b.2 by omega, show b.2 + d.2 - (a.2 + d.2) = b.2 - a.2 by omega,
    show 2 * (y + d.2) + 1 - 2 * (b.2 + d.2) = 2 * y + 1 - 2 * b.2 by omega, show 2 * (y + d.2) + 1 - 2 * (a.2 + d.2) = 2 * y + 1 - 2 * a.2 by omega,
    show a.1 + d.1 - (b.1 + d.1) = a.1 - b.1 by omega, show b.1 + d.1 - (a.1 + d.1) = b.1 - a.1 by omega]
def crA (a b : Pt) : Int := a.1 * b.2 - b.1 * a.2
theorem crA_comm (a b : Pt) : crA b a = -crA a b := by unfold crA; omega
theorem crA_mv (d a b : Pt) : crA (mv d a) (mv d b) = crA a b + (d.1 * b.2 - d.2 * b.1) - (d.1 * a.2 - d.2 * a.1) := by
  unfold crA mv
  simp only [Int.add_mul, Int.mul_add]
  have e1 := Int.mul_comm a.1 d.2
  have e2 := Int.mul_comm b.1 d.2
  have e3 := Int.mul_comm d.1 d.2
  omega
def cp : List Pt → List (Pt × Pt)
  | [] => []
  | [_] => []
  | a :: b :: r => (a, b) :: cp (b :: r)
def sides : List Pt → List (Pt × Pt)
  | [] => []
  | h :: t => cp ((h :: t) ++ [h])
theorem cp_snoc : ∀ (l : List Pt) (a b : Pt), cp (l ++ [a, b]) = cp (l ++ [a]) ++ [(a, b)]
  | [], a, b => rfl
  | [x], a, b => rfl
  | x :: y :: r, a, b => by
    have := cp_snoc (y :: r) a b
    simp only [List.cons_append, cp] at this ⊢
    rw [this]
theorem cp_app : ∀ (l : List Pt) (a : Pt) (r : List Pt), cp (l ++ a :: r) = cp (l ++ [a]) ++ cp (a :: r)
  | [], a, r => rfl
  | [x], a, r => rfl
  | x :: y :: l, a, r => by
    have := cp_app (y :: l) a r
    simp only [List.cons_append, cp] at this ⊢
    rw [this]
theorem cp_rev : ∀ l : List Pt, cp l.reverse = ((cp l).map fun s => (s.2, s.1)).reverse
  | [] => rfl
  | [x] => rfl
  | x :: y :: r => by
    have h := cp_rev (y :: r)
    rw [List.reverse_cons] at h
    rw [List.reverse_cons, List.reverse_cons, List.append_assoc, List.singleton_append, cp_snoc, h]
    simp [cp]
theorem sides_turn (h : Pt) (t : List Pt) : (sides (t ++ [h])).Perm (sides (h :: t)) := by
  cases t with
  | nil => exact List.Perm.refl _
  | cons a r =>
    have e1 : sides ((a :: r) ++ [h]) = cp (a :: (r ++ [h])) ++ [(h, a)] := by
      show cp ((a :: (r ++ [h])) ++ [a]) = _
      have := cp_snoc (a :: r) h a
      simpa using this
    have e2 : sides (h :: a :: r) = (h, a) :: cp (a :: (r ++ [h])) := rfl
    rw [e1, e2]
    exact List.perm_append_comm.trans (by simp)
theorem sides_rev (l : List Pt) : (sides l.reverse).Perm ((sides l).map fun s => (s.2, s.1)) := by
  cases l with
  | nil => exact List.Perm.refl _
  | cons h t =>
    rw [List.reverse_cons]
    refine (sides_turn h t.reverse).trans ?_
    have e : sides (h :: t.reverse) = cp ((h :: t) ++ [h]).reverse := by
      show cp (h :: t.reverse ++ [h]) = _
      simp
    rw [e, cp_rev]
    exact List.reverse_perm _
theorem cp_mv (d : Pt) : ∀ l : List Pt, cp (l.map (mv d)) = (cp l).map fun s => (mv d s.1, mv d s.2)
  | [] => rfl
  | [x] => rfl
  | x :: y :: r => by
    have := cp_mv d (y :: r)
    simp only [List.map_cons, cp] at this ⊢
    rw [this]
theorem sides_mv (d : Pt) (l : List Pt) : sides (l.map (mv d)) = (sides l).map fun s => (mv d s.1, mv d s.2) := by
  cases l with
  | nil => rfl
  | cons h t =>
    have := cp_mv d ((h :: t) ++ [h])
    simpa [sides] using this
def odd : List Bool → Bool
  | [] => false
  | b :: r => b != odd r
theorem odd_app : ∀ a b : List Bool, odd (a ++ b) = (odd a != odd b)
  | [], b => by simp [odd]
  | x :: r, b => by simp only [List.cons_append, odd, odd_app r b]; cases x <;> cases odd r <;> cases odd b <;> rfl
theorem odd_snoc (l : List Bool) (b : Bool) : odd (l ++ [b]) = (odd l != b) := by rw [odd_app]; simp [odd]
theorem odd_perm {a b : List Bool} (h : a.Perm b) : odd a = odd b := by
  induction h with
  | nil => rfl
  | cons x _ ih => simp only [odd, ih]
  | swap x y l => simp only [odd]; cases x <;> cases y <;> cases odd l <;> rfl
  | trans _ _ i j => exact i.trans j
def insP (l : List Pt) (x y : Int) : Bool := odd ((sides l).map fun s => crs s.1 s.2 x y)
theorem insP_rev (l : List Pt) (x y : Int) : insP l.reverse x y = insP l x y := by
  unfold insP
  rw [odd_perm ((sides_rev l).map _), List.map_map]
  congr 1
  exact List.map_congr_left fun s _ => crs_comm s.1 s.2 x y
theorem insP_mv (d : Pt) (l : List Pt) (x y : Int) : insP (l.map (mv d)) (x + d.1) (y + d.2) = insP l x y := by
  unfold insP
  rw [sides_mv, List.map_map]
  congr 1
  exact List.map_congr_left fun s _ => crs_mv d s.1 s.2 x y
def arP (l : List Pt) : Int := ((sides l).map fun s => crA s.1 s.2).sum
theorem sum_perm {a b : List Int} (h : a.Perm b) : a.sum = b.sum := by
  induction h with
  | nil => rfl
  | cons x _ ih => simp only [List.sum_cons, ih]
  | swap x y l => simp only [List.sum_cons]; omega
  | trans _ _ i j => exact i.trans j
theorem sum_neg : ∀ l : List Int, (l.map fun x => -x).sum = -l.sum
  | [] => rfl
  | x :: r => by have := sum_neg r; simp only [List.map_cons, List.sum_cons, this]; omega
theorem arP_rev (l : List Pt) : arP l.reverse = -arP l := by
  unfold arP
  rw [sum_perm ((sides_rev l).map _), List.map_map, ← sum_neg, List.map_map]
  congr 1
  exact List.map_congr_left fun s _ => crA_comm s.1 s.2
theorem cp_tele (f : Pt → Int) : ∀ (l : List Pt) (a b : Pt), ((cp (a :: (l ++ [b]))).map fun s => f s.2 - f s.1).sum = f b - f a
  | [], a, b => by simp [cp]
  | x :: r, a, b => by
    have := cp_tele f r x b
    simp only [List.cons_append, cp, List.map_cons, List.sum_cons, this]
    omega
theorem sides_tele (f : Pt → Int) (l : List Pt) : ((sides l).map fun s => f s.2 - f s.1).sum = 0 := by
  cases l with
  | nil => rfl
  | cons h t =>
    have := cp_tele f t h h
    show ((cp (h :: (t ++ [h]))).map _).sum = 0
    rw [this]; omega
theorem sum_add {α : Type} (f g : α → Int) : ∀ l : List α, (l.map fun x => f x + g x).sum = (l.map f).sum + (l.map g).sum
  | [] => rfl
  | x :: r => by have := sum_add f g r; simp only [List.map_cons, List.sum_cons, this]; omega
theorem arP_mv (d : Pt) (l : List Pt) : arP (l.map (mv d)) = arP l := by
  unfold arP
  rw [sides_mv, List.map_map]
  have e : (sides l).map ((fun s : Pt × Pt => crA s.1 s.2) ∘ fun s => (mv d s.1, mv d s.2)) = (sides l).map (fun s => crA s.1 s.2 + ((d.1 * s.2.2 - d.2 * s.2.1) - (d.1 * s.1.2 - d.2 * s.1.1))) := by
    refine List.map_congr_left fun s _ => ?_
    show crA (mv d s.1) (mv d s.2) = _
    rw [crA_mv]; omega
  rw [e, sum_add (fun s : Pt × Pt => crA s.1 s.2) (fun s => (d.1 * s.2.2 - d.2 * s.2.1) - (d.1 * s.1.2 - d.2 * s.1.1)), sides_tele (fun p => d.1 * p.2 - d.2 * p.1) l]
  omega
theorem cp_len : ∀ (a : Pt) (l : List Pt), (cp (a :: l)).length = l.length
  | a, [] => rfl
  | a, b :: r => by rw [cp, List.length_cons, cp_len b r, List.length_cons]
theorem cp_get : ∀ (l : List Pt) (k : Nat) (h : k + 1 < l.length), (cp l)[k]? = some (l[k], l[k + 1])
  | a :: b :: r, 0, h => rfl
  | a :: b :: r, k + 1, h => by
    have := cp_get (b :: r) k (by simpa using h)
    simpa [cp] using this
theorem sides_len (l : List Pt) : (sides l).length = l.length := by
  cases l with
  | nil => rfl
  | cons h t => show (cp (h :: (t ++ [h]))).length = _; rw [cp_len]; simp
theorem sides_get (l : List Pt) (k : Nat) (h : k < l.length) : (sides l)[k]? = some (l[k], l[(k + 1) % l.length]'(Nat.mod_lt _ (by omega))) := by
  cases l with
  | nil => simp at h
  | cons a t =>
    have hl : (a :: t).length = t.length + 1 := rfl
    have h1 := cp_get ((a :: t) ++ [a]) k (by simp; omega)
    show (cp ((a :: t) ++ [a]))[k]? = _
    rw [h1]
    have e1 : ((a :: t) ++ [a])[k]'(by simp; omega) = (a :: t)[k] := List.getElem_append_left h
    by_cases hk : k + 1 < (a :: t).length
    · have e2 : ((a :: t) ++ [a])[k + 1]'(by simp; omega) = (a :: t)[k + 1] := List.getElem_append_left hk
      rw [e1, e2]
      congr 2
      exact (getElem_congr_idx (Nat.mod_eq_of_lt hk)).symm
    · have hk2 : k + 1 = (a :: t).length := by omega
      have e2 : ((a :: t) ++ [a])[k + 1]'(by simp; omega) = a := by
        rw [List.getElem_append_right (by omega)]; simp [hk2]
      rw [e1, e2]
      congr 2
      have : (k + 1) % (a :: t).length = 0 := by rw [hk2]; exact Nat.mod_self _
      have e3 : ∀ i (hi : i < (a :: t).length), i = 0 → (a :: t)[i] = a := by intro i hi h; subst h; rfl
      exact (e3 _ _ this).symm
end Go.Proofs.Ytkabofbbioaapaa.Ins
namespace Go.Proofs.Ytkabofbbioaapaa.Ins
open Go.ChangeShapes Go.WideShapes Go.ChangeAt Go.RowKit
open Kit Point
set_option linter.unusedVariables false
set_option linter.unusedSimpArgs false
set_option linter.unnecessarySimpa false
def pX (l : List (Int × Int)) (i : Nat) : Int := (l.getD i (0, 0)).1
def pY (l : List (Int × Int)) (i : Nat) : Int := (l.getD i (0, 0)).2
def ptsB (l : List (Int × Int)) : Bool := l.all fun p => pokB p.1 p.2
def pathB (l : List (Int × Int)) : Bool := decide (l.length ≤ 8) && ptsB l
def PathAt (w : World) (a : Option Addr) (l : List (Int × Int)) : Prop := l = [] ∨ ∃ g, a = some ⟨g, 0, none⟩ ∧ g < w.heap.size ∧ ∀ i, i < l.length → w.cell? ⟨g, i * 2, none⟩ = some (.int .i64 (pX l i)) ∧ w.cell? ⟨g, i * 2 + 1, none⟩ = some (.int .i64 (pY l i))
theorem PathAt.on {w w' : World} {a : Option Addr} {l : List (Int × Int)} (h : PathAt w a l) (hb : Below w.heap.size w w') : PathAt w' a l := by
  rcases h with h | ⟨g, ha, hg, h⟩
  · exact .inl h
  · exact .inr ⟨g, ha, Nat.lt_of_lt_of_le hg hb.size, fun i hi => ⟨(hb.cell (p := ⟨g, _, none⟩) hg).trans (h i hi).1, (hb.cell (p := ⟨g, _, none⟩) hg).trans (h i hi).2⟩⟩
theorem ptsB_bad {l : List (Int × Int)} {k : Nat} (hk : k < l.length) (h : pokB (pX l k) (pY l k) = false) : ptsB l = false := by
  rw [ptsB, List.all_eq_false]
  refine ⟨l[k], List.getElem_mem hk, ?_⟩
  have e : l.getD k (0, 0) = l[k] := by simp [List.getD, List.getElem?_eq_getElem hk]
  simp only [pX, pY, e] at h
  simp [h]
theorem ptsB_good {l : List (Int × Int)} (h : ∀ k, k < l.length → pokB (pX l k) (pY l k) = true) : ptsB l = true := by
  rw [ptsB, List.all_eq_true]
  intro p hp
  obtain ⟨k, hk, rfl⟩ := List.getElem_of_mem hp
  have e : l.getD k (0, 0) = l[k] := by simp [List.getD, List.getElem?_eq_getElem hk]
  have := h k hk
  simpa only [pX, pY, e] using this
set_option maxHeartbeats 1000000 in
theorem pts_spec (w : World) (a : Option Addr) (c : Nat) (l : List (Int × Int)) (hn : l.length ≤ 1048576) (h : PathAt w a l) :
    Calls Try.prog 95 #[.slice a l.length c] w fun e w' => e = .returned (.bool (pathB l)) ∧ Below w.heap.size w w' := by
  have HP := Lib.hid h
  rcases h with rfl | ⟨g, rfl, hg, _⟩
  · go_enter Try.func95, Try.ntmps95
    go_wp2
    go_rounds 1
    go_ret
    exact ⟨rfl, Below.refl _ _⟩
  · obtain ⟨n, hN⟩ : ∃ n, l.length = n := ⟨_, rfl⟩
    have HN := Lib.hid hN
    rw [hN] at hn ⊢
    clear hN
    go_enter Try.func95, Try.ntmps95
    go_wp2
    go_loopw [3] (fun v3 wr => ∃ k : Nat, k ≤ n ∧ v3 = .int .i64 (k : Int) ∧ Hid (∀ i, i < k → pokB (pX l i) (pY l i) = true) ∧ Below w.heap.size w wr) (fun v3 _ => n - (intOf v3).toNat)
    case atStart => exact ⟨0, Nat.zero_le _, rfl, Lib.hid (fun i hi => absurd hi (Nat.not_lt_zero i)), Below.refl _ _⟩
    case round =>
      obtain ⟨k, hk, rfl, hb, hB⟩ := hrel
      by_cases hlt : k < n
      · have hP := HP.out.on hB
        rcases hP with he | ⟨g', hg', hlg, hc⟩
        · have := HN.out; rw [he] at this; simp at this; omega
        · injection hg' with hg'
          injection hg' with hg'
          subst hg'
          have q := hc k (by rw [HN.out]; exact hlt)
          obtain ⟨q1, q2⟩ := q
          obtain ⟨x, hx⟩ : ∃ x, pX l k = x := ⟨_, rfl⟩
          obtain ⟨y, hy⟩ : ∃ y, pY l k = y := ⟨_, rfl⟩
          rw [hx] at q1; rw [hy] at q2
          have i0 : (0 : Int) ≤ (k : Int) := by omega
          have i1 : (k : Int) < (n : Int) := by omega
          have HX := Lib.hid (And.intro hx hy)
          clear hx hy hc
          have HB := Lib.hid hB
          clear hB
          go_wp2_with fail
          ((with_reducible refine (pok_spec x y _).mono ?_); rintro e w1 ⟨rfl, bb⟩)
          have hB1 := on_of HB.out bb
          have HB1 := Lib.hid hB1
          clear hB1 bb
          cases hp : pokB x y
          · have hno : pathB l = false := by rw [pathB, ptsB_bad (by rw [HN.out]; exact hlt) (by rw [HX.out.1, HX.out.2]; exact hp)]; simp
            have HS := Lib.hid hno
            clear hno hp
            go_wp2
            go_ret
            exact ⟨ret_bool HS.out.symm, HB1.out⟩
          · have hyes : ∀ i, i < k + 1 → pokB (pX l i) (pY l i) = true := fun i hi => by
              by_cases e : i = k
              · subst e; rw [HX.out.1, HX.out.2]; exact hp
              · exact hb.out i (by omega)
            have HS := Lib.hid hyes
            clear hyes hp
            go_wp2
            go_roundw
            case rel => exact ⟨k + 1, by omega, by go_num, HS, HB1.out⟩
            case measure => simp [intOf]; omega
      · obtain rfl : k = n := by omega
        have HB := Lib.hid hB
        clear hB
        go_wp2
        go_ret
        refine ⟨ret_bool ?_, HB.out⟩
        rw [pathB, ptsB_good (fun i hi => hb.out i (by rw [← HN.out]; exact hi)), HN.out, Bool.and_true]
        first | rfl | (apply decide_eq_decide.2; omega)
end Go.Proofs.Ytkabofbbioaapaa.Ins
