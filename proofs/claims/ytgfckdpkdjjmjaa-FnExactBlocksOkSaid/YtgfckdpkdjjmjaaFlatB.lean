/-
  The model's l06End and l06Flat: what each call returns; condition: nested blocks of at most 60 tokens, at most 3 deep.
-/
import Derived.Test.YtgfckdpkdjjmjaaDepth
import Derived.Test.YtgfckdpkdjjmjaaRecs
import Derived.Laws.MakeOwn
import Derived.Laws.OwnMore
import Derived.Maps.AppendAt
namespace Go.Proofs.Ytgfckdpkdjjmjaa.Blk
open Go.ChangeShapes Go.WideShapes Go.ChangeAt Go.RowKit
open Kit Scan Slabs
set_option linter.unusedVariables false
set_option linter.unusedSimpArgs false
set_option linter.unnecessarySimpa false
set_option maxRecDepth 100000

theorem dp_le (l : List Tok) : dp l ≤ l.length := by
  induction l with
  | nil => simp [dp]
  | cons t r ih =>
    simp only [dp, List.length_cons]
    split
    · omega
    · split <;> omega

/-- The balance inside a block. -/
theorem bal_in {p e : Tok} {b r f : List Tok} {d : Nat} (hp : isRep p = true) (F : Fl b f d) {j : Nat} (hj : j ≤ b.length) : 1 ≤ dp ((p :: (b ++ e :: r)).take (j + 1)) := by
  rw [List.take_succ_cons, List.take_append, show j - b.length = 0 by omega, List.take_zero, List.append_nil]
  have := (fl_dp F).2 j
  simp only [dp, hp, if_true]; omega

theorem bal_end {p e : Tok} {b r f : List Tok} {d : Nat} (hp : isRep p = true) (he : isEnd e = true) (F : Fl b f d) : dp ((p :: (b ++ e :: r)).take (b.length + 1)) = 1 := by
  rw [List.take_succ_cons, List.take_append, Nat.sub_self, List.take_zero, List.append_nil, List.take_of_length_le (Nat.le_refl _)]
  simp only [dp, hp, if_true, (fl_dp F).1]; rfl

theorem dp_step {T : List Tok} {j : Nat} {t : Tok} (h : T[j]? = some t) : dp (T.take (j + 1)) = dp (T.take j) + (if isRep t = true then 1 else if isEnd t = true then -1 else 0) := by
  rw [List.take_add_one, h, dp_append]
  simp [dp]

set_option maxHeartbeats 2000000 in
theorem end_spec (w : World) (v : Value) (pre : List Tok) (p e : Tok) (b r f : List Tok) (d : Nat) (hn : (pre ++ p :: (b ++ e :: r)).length ≤ 1048576) (h : Rdt w v (pre ++ p :: (b ++ e :: r))) (hp : isRep p = true) (he : isEnd e = true) (F : Fl b f d) :
    Calls Try.prog 43 #[v, .int .i64 (pre.length : Int)] w fun e' w' => e' = .returned (.int .i64 ((pre.length + 1 + b.length : Nat) : Int)) ∧ w' = w := by
  obtain ⟨a, cap, rfl, hc, h⟩ := h
  rcases h with h | ⟨g, o, rfl, hg, hcs⟩
  · simp at h
  have hlen : (pre ++ p :: (b ++ e :: r)).length = pre.length + (b.length + r.length + 2) := by simp; omega
  obtain ⟨n, hnn⟩ : ∃ n, (pre ++ p :: (b ++ e :: r)).length = n := ⟨_, rfl⟩
  rw [hnn] at hn hc hlen ⊢
  have hT : ∀ j, (pre ++ p :: (b ++ e :: r))[pre.length + j]? = (p :: (b ++ e :: r))[j]? := fun j => by rw [List.getElem?_append_right (by omega)]; congr 1; omega
  have HC := Lib.hid (And.intro hcs (And.intro hT F))
  clear hcs hT F hnn
  go_enter Try.func43, Try.ntmps43
  go_wp2
  go_loopw [1, 5] (fun v1 v5 wr => ∃ j : Nat, j ≤ b.length + 1 ∧ v1 = .int .i64 ((pre.length + j : Nat) : Int) ∧ v5 = .int .i64 (dp ((p :: (b ++ e :: r)).take j)) ∧ wr = w) (fun v1 _ _ => n - (intOf v1).toNat)
  case atStart => exact ⟨0, Nat.zero_le _, by simp, rfl, rfl⟩
  case round =>
    obtain ⟨j, hj, rfl, rfl, rfl⟩ := hrel
    have i0 : (0 : Int) ≤ ((pre.length + j : Nat) : Int) := by omega
    have i1 : ((pre.length + j : Nat) : Int) < (n : Int) := by omega
    have hjt : j < (p :: (b ++ e :: r)).length := by simp; omega
    obtain ⟨t, ht⟩ : ∃ t, (p :: (b ++ e :: r))[j]? = some t := ⟨_, List.getElem?_eq_getElem hjt⟩
    obtain ⟨s, q⟩ := t
    have c0 := (HC.out.1 (pre.length + j) s q (by rw [HC.out.2.1, ht])).1
    have hst := dp_step ht
    have hle := dp_le ((p :: (b ++ e :: r)).take j)
    have htl : ((p :: (b ++ e :: r)).take j).length ≤ j := by simp; omega
    have h0 : 0 ≤ dp ((p :: (b ++ e :: r)).take j) := by
      cases j with
      | zero => simp [dp]
      | succ j => have := bal_in (e := e) (r := r) hp HC.out.2.2 (j := j) (by omega); omega
    by_cases hjb : j ≤ b.length
    · have hpos := bal_in (e := e) (r := r) hp HC.out.2.2 hjb
      have HX := Lib.hid (And.intro ht hst)
      generalize hD : dp ((p :: (b ++ e :: r)).take j) = D at *
      generalize hD2 : dp ((p :: (b ++ e :: r)).take (j + 1)) = D2 at *
      clear ht
      cases hr : isRep (s, q)
      · have er : (s.toList == [114, 101, 112, 101, 97, 116]) = false := hr
        cases hE : isEnd (s, q)
        · have ee : (s.toList == [101, 110, 100]) = false := hE
          have e1 : D2 = D := by rw [hst, hr, hE]; simp
          subst e1
          have hne : ¬ (D2 = 0) := by omega
          clear hr hE hst hD
          go_wp2
          go_roundw
          case rel => exact ⟨j + 1, by omega, by go_num, by rw [hD2], by first | rfl | trivial⟩
          case measure => simp [intOf]; omega
        · have ee : (s.toList == [101, 110, 100]) = true := hE
          have e1 : D2 = D - 1 := by rw [hst, hr, hE]; simp; omega
          subst e1
          have hne : ¬ (D - 1 = 0) := by omega
          clear hr hE hst hD
          go_wp2
          go_roundw
          case rel => exact ⟨j + 1, by omega, by go_num, by rw [hD2], by first | rfl | trivial⟩
          case measure => simp [intOf]; omega
      · have er : (s.toList == [114, 101, 112, 101, 97, 116]) = true := hr
        have ee : (s.toList == [101, 110, 100]) = false := (rep_name hr).2
        have e1 : D2 = D + 1 := by rw [hst, hr]; simp
        subst e1
        have hne : ¬ (D + 1 = 0) := by omega
        clear hr hst hD
        go_wp2
        go_roundw
        case rel => exact ⟨j + 1, by omega, by go_num, by rw [hD2], by first | rfl | trivial⟩
        case measure => simp [intOf]; omega
    · obtain rfl : j = b.length + 1 := by omega
      have hte : (p :: (b ++ e :: r))[b.length + 1]? = some e := by simp
      rw [hte] at ht
      injection ht with ht
      subst ht
      have hD := bal_end (r := r) hp he HC.out.2.2
      rw [hD] at *
      have er : (s.toList == [114, 101, 112, 101, 97, 116]) = false := (end_name he).2
      have ee : (s.toList == [101, 110, 100]) = true := he
      clear hst hle htl h0 hD
      go_wp2
      go_ret
      exact ⟨congrArg (fun x : Int => Ending.returned (.int .i64 x)) (by omega), by first | rfl | trivial⟩

theorem fl_len {l f : List Tok} {d : Nat} (h : Fl l f d) : f.length ≤ l.length * 9 ^ d := by
  induction h with
  | nil => simp
  | @tok t r f d _ _ _ _ _ ih =>
    have h1 : 1 ≤ 9 ^ d := Nat.pow_pos (by omega)
    simp only [List.length_cons]
    rw [Nat.add_mul]; omega
  | @rep c p e b f r g d k n _ _ hn _ _ _ _ F1 F2 ih1 ih2 =>
    have e1 : (rpt n f).length = n * f.length := by simp [rpt]
    have h1 : 9 ^ (d + 1) ≤ 9 ^ (max (d + 1) k) := Nat.pow_le_pow_right (by omega) (by omega)
    have h2 : 9 ^ k ≤ 9 ^ (max (d + 1) k) := Nat.pow_le_pow_right (by omega) (by omega)
    have h3 : n * f.length ≤ 9 * (b.length * 9 ^ d) := Nat.mul_le_mul hn ih1
    have h4 : 9 * (b.length * 9 ^ d) = b.length * 9 ^ (d + 1) := by rw [Nat.pow_succ, Nat.mul_comm 9, Nat.mul_assoc]
    have h5 : b.length * 9 ^ (d + 1) ≤ b.length * 9 ^ (max (d + 1) k) := Nat.mul_le_mul_left _ h1
    have h6 : r.length * 9 ^ k ≤ r.length * 9 ^ (max (d + 1) k) := Nat.mul_le_mul_left _ h2
    have h7 : (c :: p :: (b ++ e :: r)).length = b.length + r.length + 3 := by simp; omega
    rw [h7, List.length_append, e1, Nat.add_mul, Nat.add_mul]
    omega

/-- The cells of a list of tokens. -/
def cellsL : List Tok → List Value
  | [] => []
  | t :: r => .string t.1 :: .int .i64 t.2 :: cellsL r
theorem cellsL_append (a b : List Tok) : cellsL (a ++ b) = cellsL a ++ cellsL b := by
  induction a with
  | nil => rfl
  | cons t r ih => simp [cellsL, ih]
theorem cellsL_len (a : List Tok) : (cellsL a).length = a.length * 2 := by
  induction a with
  | nil => rfl
  | cons t r ih => simp [cellsL, ih]; omega
theorem cellsL_one (a : List Tok) : ∀ u ∈ cellsL a, u.oneCell' = true := by
  induction a with
  | nil => intro u hu; cases hu
  | cons t r ih =>
    intro u hu
    simp only [cellsL, List.mem_cons] at hu
    rcases hu with rfl | rfl | hu
    · rfl
    · rfl
    · exact ih u hu

theorem rpt_succ (n : Nat) (f : List Tok) : rpt (n + 1) f = rpt n f ++ f := by
  simp [rpt, List.replicate_succ']

end Go.Proofs.Ytgfckdpkdjjmjaa.Blk
