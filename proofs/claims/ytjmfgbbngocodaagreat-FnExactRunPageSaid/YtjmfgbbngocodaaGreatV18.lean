/-
  Texts of this seat, laid together: Turn, FlatB
-/
import Derived.Deep.RegionHeld3
import Derived.Deep.CutRange
import Derived.Laws.MakeOwn
import Derived.Laws.OwnMore
import Derived.Maps.AppendAt
import Derived.Test.YtjmfgbbngocodaaGreatV01
import Derived.Test.YtjmfgbbngocodaaGreatV39
import Derived.Test.YtjmfgbbngocodaaGreatV05
namespace Go.Proofs.YtjmfgbbngocodaaGreat.Turn
open Go.ChangeShapes Go.WideShapes Go.ChangeAt Go.RowKit
open Kit Point
set_option linter.unusedVariables false
set_option linter.unusedSimpArgs false
set_option linter.unnecessarySimpa false
def tokB (q s dx dy : Int) : Bool := decide (0 ≤ q ∧ q ≤ 3) && decide (1 ≤ s ∧ s ≤ 4) && inB dx && inB dy
theorem tok_true {q s dx dy : Int} (h : tokB q s dx dy = true) : (0 ≤ q ∧ q ≤ 3) ∧ (1 ≤ s ∧ s ≤ 4) ∧ (-200 ≤ dx ∧ dx ≤ 200) ∧ (-200 ≤ dy ∧ dy ≤ 200) := by
  simp only [tokB, inB, Bool.and_eq_true, decide_eq_true_eq] at h; omega
theorem turn_impl (q s dx dy : Int) (w : World) : Calls Tryz.prog 113 #[.agg #[.int .i64 q, .int .i64 s, .int .i64 dx, .int .i64 dy]] w fun e w' => e = .returned (.bool (tokB q s dx dy)) ∧ Below w.heap.size w w' := by
  by_cases h1 : 0 ≤ q ∧ q ≤ 3
  · by_cases h2 : 1 ≤ s ∧ s ≤ 4
    · cases h3 : inB dx
      all_goals
        have e1 : ¬ q < 0 := by omega
        have e2 : ¬ 4 ≤ q := by omega
        have e3 : ¬ s < 1 := by omega
        have e4 : ¬ 4 < s := by omega
        go_enter Tryz.func113, Tryz.ntmps113
        go_wp2_with (go_at_call 142; refine (coord_any _ _).mono ?_; rintro e w' ⟨rfl, rfl⟩)
        go_ret
        exact ⟨ret_bool (by simp [tokB, h1, h2, h3]), by go_grown⟩
    · go_enter Tryz.func113, Tryz.ntmps113
      by_cases e3 : s < 1
      · have e1 : ¬ q < 0 := by omega
        have e2 : ¬ 4 ≤ q := by omega
        go_wp2
        go_ret
        exact ⟨ret_bool (by simp [tokB, h2]), by go_grown⟩
      · have e1 : ¬ q < 0 := by omega
        have e2 : ¬ 4 ≤ q := by omega
        have e4 : 4 < s := by omega
        go_wp2
        go_ret
        exact ⟨ret_bool (by simp [tokB, h2]), by go_grown⟩
  · go_enter Tryz.func113, Tryz.ntmps113
    by_cases e1 : q < 0
    · go_wp2
      go_ret
      exact ⟨ret_bool (by simp [tokB, h1]), by go_grown⟩
    · have e2 : 4 ≤ q := by omega
      go_wp2
      go_ret
      exact ⟨ret_bool (by simp [tokB, h1]), by go_grown⟩
theorem turn_spec (q s dx dy : Int) (w : World) : Calls Tryz.prog 107 #[.agg #[.int .i64 q, .int .i64 s, .int .i64 dx, .int .i64 dy]] w fun e w' => e = .returned (.bool (tokB q s dx dy)) ∧ Below w.heap.size w w' := by
  cases h1 : decide (0 ≤ q ∧ q ≤ 3) <;> cases h2 : decide (1 ≤ s ∧ s ≤ 4) <;> cases h3 : inB dx
  all_goals
    go_enter Tryz.func107, Tryz.ntmps107
    go_wp2_with (first | (go_at_call 60; refine (in_any _ _ _ _).mono ?_; rintro e w' ⟨rfl, rfl⟩) | (go_at_call 141; refine (in2_any _ _).mono ?_; rintro e w' ⟨rfl, rfl⟩))
    go_ret
    exact ⟨ret_bool (by simp [tokB, h1, h2, h3]), by go_grown⟩
/-! ### The image -/
def rotX (q x y : Int) : Int := if q = 0 then x else if q = 1 then -y else if q = 2 then -x else y
def rotY (q x y : Int) : Int := if q = 0 then y else if q = 1 then x else if q = 2 then -y else -x
theorem rot_in {q x y : Int} (B : Int) (h : -B ≤ x ∧ x ≤ B) (k : -B ≤ y ∧ y ≤ B) : (-B ≤ rotX q x y ∧ rotX q x y ≤ B) ∧ (-B ≤ rotY q x y ∧ rotY q x y ≤ B) := by
  unfold rotX rotY
  by_cases h0 : q = 0
  · simp only [h0, if_true]; omega
  · by_cases h1 : q = 1
    · simp [h1]; omega
    · by_cases h2 : q = 2
      · simp [h2]; omega
      · simp [h0, h1, h2]; omega
theorem rot_next {k : Nat} (x y : Int) (h : (k : Int) < 3) : rotX ((k + 1 : Nat) : Int) x y = -rotY (k : Int) x y ∧ rotY ((k + 1 : Nat) : Int) x y = rotX (k : Int) x y := by
  have : k = 0 ∨ k = 1 ∨ k = 2 := by omega
  rcases this with rfl | rfl | rfl <;> simp [rotX, rotY]
theorem rot_zero (x y : Int) : rotX ((0 : Nat) : Int) x y = x ∧ rotY ((0 : Nat) : Int) x y = y := by simp [rotX, rotY]
theorem scale_big {x s : Int} (h : -20000 ≤ x ∧ x ≤ 20000) (hs : 1 ≤ s ∧ s ≤ 4) : -80000 ≤ x * s ∧ x * s ≤ 80000 := by
  have : s = 1 ∨ s = 2 ∨ s = 3 ∨ s = 4 := by omega
  rcases this with rfl | rfl | rfl | rfl <;> omega
def imX (q s dx x y : Int) : Int := rotX q (x * s) (y * s) + dx
def imY (q s dy x y : Int) : Int := rotY q (x * s) (y * s) + dy
set_option maxHeartbeats 1000000 in
theorem image_spec_big (q s dx dy x y : Int) (w : World) (ht : tokB q s dx dy = true) (hx : -20000 ≤ x ∧ x ≤ 20000) (hy : -20000 ≤ y ∧ y ≤ 20000) :
    Calls Tryz.prog 66 #[.agg #[.int .i64 q, .int .i64 s, .int .i64 dx, .int .i64 dy], .agg #[.int .i64 x, .int .i64 y]] w fun e w' => e = .returned (.agg #[.int .i64 (imX q s dx x y), .int .i64 (imY q s dy x y)]) ∧ Below w.heap.size w w' := by
  obtain ⟨hq, hs, hdx, hdy⟩ := tok_true ht
  obtain ⟨n, rfl⟩ : ∃ n : Nat, q = n := ⟨q.toNat, by omega⟩
  have mx1 := scale_big hx hs
  have my1 := scale_big hy hs
  unfold imX imY
  generalize hX : x * s = X at mx1
  generalize hY : y * s = Y at my1
  clear ht
  go_enter Tryz.func66, Tryz.ntmps66
  go_wp2_with fail
  go_loopw [5, 6, 7] (fun v5 v6 v7 wr => ∃ k : Nat, k ≤ n ∧ v5 = .int .i64 (rotX k X Y) ∧ v6 = .int .i64 (rotY k X Y) ∧ v7 = .int .i64 k ∧ wr = ((w.alloc (.cells #[.int .i64 n, .int .i64 s, .int .i64 dx, .int .i64 dy] 38)).alloc (.cells #[.int .i64 x, .int .i64 y] 109)).alloc (.cells #[.int .i64 0, .int .i64 0] 109)) (fun _ _ v7 _ => (n - intOf v7).toNat)
  case atStart => exact ⟨0, by omega, by rw [(rot_zero X Y).1], by rw [(rot_zero X Y).2], rfl, rfl⟩
  case round =>
    obtain ⟨k, hk, rfl, rfl, rfl, rfl⟩ := hrel
    by_cases hlt : (k : Int) < n
    · have hr := rot_in (q := k) 80000 mx1 my1
      have hn := rot_next (k := k) X Y (by omega)
      go_wp2
      go_roundw
      case rel => exact ⟨k + 1, by omega, by rw [hn.1], by rw [hn.2], by go_num, by first | rfl | trivial⟩
      case measure => simp [intOf]; omega
    · obtain rfl : k = n := by omega
      have hr := rot_in (q := k) 80000 mx1 my1
      go_wp2
      go_returns
      exact ⟨rfl, by go_grown⟩
theorem image_spec (q s dx dy x y : Int) (w : World) (ht : tokB q s dx dy = true) (hx : -200 ≤ x ∧ x ≤ 200) (hy : -200 ≤ y ∧ y ≤ 200) :
    Calls Tryz.prog 66 #[.agg #[.int .i64 q, .int .i64 s, .int .i64 dx, .int .i64 dy], .agg #[.int .i64 x, .int .i64 y]] w fun e w' => e = .returned (.agg #[.int .i64 (imX q s dx x y), .int .i64 (imY q s dy x y)]) ∧ Below w.heap.size w w' :=
  image_spec_big q s dx dy x y w ht (by omega) (by omega)
set_option maxHeartbeats 1000000 in
theorem image_impl_big (q s dx dy x y : Int) (w : World) (ht : tokB q s dx dy = true) (hx : -20000 ≤ x ∧ x ≤ 20000) (hy : -20000 ≤ y ∧ y ≤ 20000) :
    Calls Tryz.prog 162 #[.agg #[.int .i64 q, .int .i64 s, .int .i64 dx, .int .i64 dy], .agg #[.int .i64 x, .int .i64 y]] w fun e w' => e = .returned (.agg #[.int .i64 (imX q s dx x y), .int .i64 (imY q s dy x y)]) ∧ Below w.heap.size w w' := by
  obtain ⟨hq, hs, hdx, hdy⟩ := tok_true ht
  obtain ⟨n, rfl⟩ : ∃ n : Nat, q = n := ⟨q.toNat, by omega⟩
  have mx1 := scale_big hx hs
  have my1 := scale_big hy hs
  unfold imX imY
  generalize hX : x * s = X at mx1
  generalize hY : y * s = Y at my1
  clear ht
  go_enter Tryz.func162, Tryz.ntmps162
  go_wp2_with fail
  go_loopw [18] (fun v18 wr => ∃ k : Nat, k ≤ n ∧ v18 = .int .i64 k ∧ wr = ((w.alloc (.cells #[.int .i64 n, .int .i64 s, .int .i64 dx, .int .i64 dy] 38)).alloc (.cells #[.int .i64 (rotX k X Y), .int .i64 (rotY k X Y)] 109)).alloc (.cells #[.int .i64 0, .int .i64 0] 109)) (fun v18 _ => (n - intOf v18).toNat)
  case atStart => exact ⟨0, by omega, rfl, by rw [(rot_zero X Y).1, (rot_zero X Y).2]⟩
  case round =>
    obtain ⟨k, hk, rfl, rfl⟩ := hrel
    by_cases hlt : (k : Int) < n
    · have hr := rot_in (q := k) 80000 mx1 my1
      have hn := rot_next (k := k) X Y (by omega)
      go_wp2
      go_roundw
      case rel => exact ⟨k + 1, by omega, by go_num, by rw [hn.1, hn.2]⟩
      case measure => simp [intOf]; omega
    · obtain rfl : k = n := by omega
      have hr := rot_in (q := k) 80000 mx1 my1
      go_wp2
      go_returns
      exact ⟨rfl, by go_grown⟩
theorem image_impl (q s dx dy x y : Int) (w : World) (ht : tokB q s dx dy = true) (hx : -200 ≤ x ∧ x ≤ 200) (hy : -200 ≤ y ∧ y ≤ 200) :
    Calls Tryz.prog 162 #[.agg #[.int .i64 q, .int .i64 s, .int .i64 dx, .int .i64 dy], .agg #[.int .i64 x, .int .i64 y]] w fun e w' => e = .returned (.agg #[.int .i64 (imX q s dx x y), .int .i64 (imY q s dy x y)]) ∧ Below w.heap.size w w' :=
  image_impl_big q s dx dy x y w ht (by omega) (by omega)
theorem at_impl (q s dx dy x y : Int) (w : World) :
    Calls Tryz.prog 166 #[.agg #[.int .i64 q, .int .i64 s, .int .i64 dx, .int .i64 dy], .agg #[.int .i64 x, .int .i64 y]] w fun e w' => e = .returned (.agg #[.int .i64 q, .int .i64 s, .int .i64 x, .int .i64 y]) ∧ Below w.heap.size w w' := by
  go_enter Tryz.func166, Tryz.ntmps166
  go_upto_region 1 with fail
  go_region
  all_goals go_wp2_with fail
  all_goals go_returns
  all_goals exact ⟨rfl, by go_grown⟩
theorem ident_impl (w : World) : Calls Tryz.prog 105 #[] w fun e w' => e = .returned (.agg #[.int .i64 0, .int .i64 1, .int .i64 0, .int .i64 0]) ∧ Below w.heap.size w w' := by
  go_enter Tryz.func105, Tryz.ntmps105
  go_wp2
  go_returns
  exact ⟨rfl, by go_grown⟩
theorem ident_spec (w : World) : Calls Tryz.prog 69 #[] w fun e w' => e = .returned (.agg #[.int .i64 0, .int .i64 1, .int .i64 0, .int .i64 0]) ∧ Below w.heap.size w w' := by
  go_enter Tryz.func69, Tryz.ntmps69
  go_wp2
  go_returns
  exact ⟨rfl, by go_grown⟩
end Go.Proofs.YtjmfgbbngocodaaGreat.Turn

namespace Go.Proofs.YtjmfgbbngocodaaGreat.Blk
open Go.ChangeShapes Go.WideShapes Go.ChangeAt Go.RowKit
open Kit Scan Slabs
set_option linter.unusedVariables false
set_option linter.unusedSimpArgs false
set_option linter.unnecessarySimpa false
set_option maxRecDepth 100000
theorem dp_le (l : List Tok) : dp l ≤ l.length := by
  induction l with
  | nil => simp [dp]
  | cons t r ih =>
    simp only [dp, List.length_cons]
    split
    · omega
    · split <;> omega
theorem bal_in {p e : Tok} {b r f : List Tok} {d : Nat} (hp : isRep p = true) (F : Fl b f d) {j : Nat} (hj : j ≤ b.length) : 1 ≤ dp ((p :: (b ++ e :: r)).take (j + 1)) := by
  rw [List.take_succ_cons, List.take_append, show j - b.length = 0 by omega, List.take_zero, List.append_nil]
  have := (fl_dp F).2 j
  simp only [dp, hp, if_true]; omega
theorem bal_end {p e : Tok} {b r f : List Tok} {d : Nat} (hp : isRep p = true) (he : isEnd e = true) (F : Fl b f d) : dp ((p :: (b ++ e :: r)).take (b.length + 1)) = 1 := by
  rw [List.take_succ_cons, List.take_append, Nat.sub_self, List.take_zero, List.append_nil, List.take_of_length_le (Nat.le_refl _)]
  simp only [dp, hp, if_true, (fl_dp F).1]; rfl
theorem dp_step {T : List Tok} {j : Nat} {t : Tok} (h : T[j]? = some t) : dp (T.take (j + 1)) = dp (T.take j) + (if isRep t = true then 1 else if isEnd t = true then -1 else 0) := by
  rw [List.take_add_one, h, dp_append]
  simp [dp]
set_option maxHeartbeats 2000000 in
theorem end_spec (w : World) (v : Value) (pre : List Tok) (p e : Tok) (b r f : List Tok) (d : Nat) (hn : (pre ++ p :: (b ++ e :: r)).length ≤ 1048576) (h : Rdt w v (pre ++ p :: (b ++ e :: r))) (hp : isRep p = true) (he : isEnd e = true) (F : Fl b f d) :
    Calls Tryz.prog 137 #[v, .int .i64 (pre.length : Int)] w fun e' w' => e' = .returned (.int .i64 ((pre.length + 1 + b.length : Nat) : Int)) ∧ w' = w := by
  obtain ⟨a, cap, rfl, hc, h⟩ := h
  rcases h with h | ⟨g, o, rfl, hg, hcs⟩
  · simp at h
  have hlen : (pre ++ p :: (b ++ e :: r)).length = pre.length + (b.length + r.length + 2) := by simp; omega
  obtain ⟨n, hnn⟩ : ∃ n, (pre ++ p :: (b ++ e :: r)).length = n := ⟨_, rfl⟩
  rw [hnn] at hn hc hlen ⊢
  have hT : ∀ j, (pre ++ p :: (b ++ e :: r))[pre.length + j]? = (p :: (b ++ e :: r))[j]? := fun j => by rw [List.getElem?_append_right (by omega)]; congr 1; omega
  have HC := Lib.hid (And.intro hcs (And.intro hT F))
  clear hcs hT F hnn
  go_enter Tryz.func137, Tryz.ntmps137
  go_wp2
  go_loopw [1, 5] (fun v1 v5 wr => ∃ j : Nat, j ≤ b.length + 1 ∧ v1 = .int .i64 ((pre.length + j : Nat) : Int) ∧ v5 = .int .i64 (dp ((p :: (b ++ e :: r)).take j)) ∧ wr = w) (fun v1 _ _ => n - (intOf v1).toNat)
  case atStart => exact ⟨0, Nat.zero_le _, by simp, rfl, rfl⟩
  case round =>
    obtain ⟨j, hj, rfl, rfl, rfl⟩ := hrel
    have i0 : (0 : Int) ≤ ((pre.length + j : Nat) : Int) := by omega
    have i1 : ((pre.length + j : Nat) : Int) < (n : Int) := by omega
    have hjt : j < (p :: (b ++ e :: r)).length := by simp; omega
    obtain ⟨t, ht⟩ : ∃ t, (p :: (b ++ e :: r))[j]? = some t := ⟨_, List.getElem?_eq_getElem hjt⟩
    obtain ⟨s, q⟩ := t
    have c0 := (HC.out.1 (pre.length + j) s q (by rw [HC.out.2.1, ht])).1
    have hst := dp_step ht
    have hle := dp_le ((p :: (b ++ e :: r)).take j)
    have htl : ((p :: (b ++ e :: r)).take j).length ≤ j := by simp; omega
    have h0 : 0 ≤ dp ((p :: (b ++ e :: r)).take j) := by
      cases j with
      | zero => simp [dp]
      | succ j => have := bal_in (e := e) (r := r) hp HC.out.2.2 (j := j) (by omega); omega
    by_cases hjb : j ≤ b.length
    · have hpos := bal_in (e := e) (r := r) hp HC.out.2.2 hjb
      have HX := Lib.hid (And.intro ht hst)
      generalize hD : dp ((p :: (b ++ e :: r)).take j) = D at *
      generalize hD2 : dp ((p :: (b ++ e :: r)).take (j + 1)) = D2 at *
      clear ht
      cases hr : isRep (s, q)
      · have er : (s.toList == [114, 101, 112, 101, 97, 116]) = false := hr
        cases hE : isEnd (s, q)
        · have ee : (s.toList == [101, 110, 100]) = false := hE
          have e1 : D2 = D := by rw [hst, hr, hE]; simp
          subst e1
          have hne : ¬ (D2 = 0) := by omega
          clear hr hE hst hD
          go_wp2
          go_roundw
          case rel => exact ⟨j + 1, by omega, by go_num, by rw [hD2], by first | rfl | trivial⟩
          case measure => simp [intOf]; omega
        · have ee : (s.toList == [101, 110, 100]) = true := hE
          have e1 : D2 = D - 1 := by rw [hst, hr, hE]; simp; omega
          subst e1
          have hne : ¬ (D - 1 = 0) := by omega
          clear hr hE hst hD
          go_wp2
          go_roundw
          case rel => exact ⟨j + 1, by omega, by go_num, by rw [hD2], by first | rfl | trivial⟩
          case measure => simp [intOf]; omega
      · have er : (s.toList == [114, 101, 112, 101, 97, 116]) = true := hr
        have ee : (s.toList == [101, 110, 100]) = false := (rep_name hr).2
        have e1 : D2 = D + 1 := by rw [hst, hr]; simp
        subst e1
        have hne : ¬ (D + 1 = 0) := by omega
        clear hr hst hD
        go_wp2
        go_roundw
        case rel => exact ⟨j + 1, by omega, by go_num, by rw [hD2], by first | rfl | trivial⟩
        case measure => simp [intOf]; omega
    · obtain rfl : j = b.length + 1 := by omega
      have hte : (p :: (b ++ e :: r))[b.length + 1]? = some e := by simp
      rw [hte] at ht
      injection ht with ht
      subst ht
      have hD := bal_end (r := r) hp he HC.out.2.2
      rw [hD] at *
      have er : (s.toList == [114, 101, 112, 101, 97, 116]) = false := (end_name he).2
      have ee : (s.toList == [101, 110, 100]) = true := he
      clear hst hle htl h0 hD
      go_wp2
      go_ret
      exact ⟨congrArg (fun x : Int => Ending.returned (.int .i64 x)) (by omega), by first | rfl | trivial⟩
theorem fl_len {l f : List Tok} {d : Nat} (h : Fl l f d) : f.length ≤ l.length * 9 ^ d := by
  induction h with
  | nil => simp
  | @tok t r f d _ _ _ _ _ ih =>
    have h1 : 1 ≤ 9 ^ d := Nat.pow_pos (by omega)
    simp only [List.length_cons]
    rw [Nat.add_mul]; omega
  | @rep c p e b f r g d k n _ _ hn _ _ _ _ F1 F2 ih1 ih2 =>
    have e1 : (rpt n f).length = n * f.length := by simp [rpt]
    have h1 : 9 ^ (d + 1) ≤ 9 ^ (max (d + 1) k) := Nat.pow_le_pow_right (by omega) (by omega)
    have h2 : 9 ^ k ≤ 9 ^ (max (d + 1) k) := Nat.pow_le_pow_right (by omega) (by omega)
    have h3 : n * f.length ≤ 9 * (b.length * 9 ^ d) := Nat.mul_le_mul hn ih1
    have h4 : 9 * (b.length * 9 ^ d) = b.length * 9 ^ (d + 1) := by rw [Nat.pow_succ, Nat.mul_comm 9, Nat.mul_assoc]
    have h5 : b.length * 9 ^ (d + 1) ≤ b.length * 9 ^ (max (d + 1) k) := Nat.mul_le_mul_left _ h1
    have h6 : r.length * 9 ^ k ≤ r.length * 9 ^ (max (d + 1) k) := Nat.mul_le_mul_left _ h2
    have h7 : (c :: p :: (b ++ e :: r)).length = b.length + r.length + 3 := by simp; omega
    rw [h7, List.length_append, e1, Nat.add_mul, Nat.add_mul]
    omega
def cellsL : List Tok → List Value
  | [] => []
  | t :: r => .string t.1 :: .int .i64 t.2 :: cellsL r
theorem cellsL_append (a b : List Tok) : cellsL (a ++ b) = cellsL a ++ cellsL b := by
  induction a with
  | nil => rfl
  | cons t r ih => simp [cellsL, ih]
theorem cellsL_len (a : List Tok) : (cellsL a).length = a.length * 2 := by
  induction a with
  | nil => rfl
  | cons t r ih => simp [cellsL, ih]; omega
theorem cellsL_one (a : List Tok) : ∀ u ∈ cellsL a, u.oneCell' = true := by
  induction a with
  | nil => intro u hu; cases hu
  | cons t r ih =>
    intro u hu
    simp only [cellsL, List.mem_cons] at hu
    rcases hu with rfl | rfl | hu
    · rfl
    · rfl
    · exact ih u hu
theorem rpt_succ (n : Nat) (f : List Tok) : rpt (n + 1) f = rpt n f ++ f := by
  simp [rpt, List.replicate_succ']
end Go.Proofs.YtjmfgbbngocodaaGreat.Blk

