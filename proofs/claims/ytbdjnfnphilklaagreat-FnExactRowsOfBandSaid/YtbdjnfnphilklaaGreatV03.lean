/-
  Texts of this seat, laid together: Mark, Turn, Pth8, Pti8
-/
import Derived.Deep.RegionHeld3
import Derived.Laws.BytesArg
import Derived.Lib.ItoaNum
import Derived.Lib.ItoaLen
import Derived.Deep.CutRange
import Derived.LoopTactic
import Derived.OwnWalk
import Derived.WalkKit
import Derived.Handy
import Derived.Lib.Hide
import Derived.Test.YtbdjnfnphilklaaGreatV01
import Derived.Test.YtbdjnfnphilklaaGreatV04
namespace Go.Proofs.YtbdjnfnphilklaaGreat.Marking
open Go.ChangeShapes Go.WideShapes Go.ChangeAt Go.RowKit
open Kit
set_option linter.unusedVariables false
set_option linter.unusedSimpArgs false
set_option linter.unnecessarySimpa false
def rest (m : Nat) : List UInt8 := if m = 0 then [] else Lib.decDigits m
theorem rest_step (m : Nat) (h : m ≠ 0) : rest m = rest (m / 10) ++ [UInt8.ofNat (48 + m % 10)] := by
  unfold rest
  rw [if_neg h]
  by_cases h1 : m < 10
  · rw [Lib.decDigits_one h1, if_pos (by omega), Nat.mod_eq_of_lt h1]; rfl
  · rw [Lib.decDigits, dif_neg h1, if_neg (by omega)]
theorem cons_str (c : UInt8) (l : List UInt8) : (({ data := #[c] } : ByteArray) ++ ({ data := l.toArray } : ByteArray)) = { data := (c :: l).toArray } := by
  apply ByteArray.ext
  simp
theorem digits_le {N : Nat} (h1 : N < 18446744073709551616) {m : Nat} {l : List UInt8} (h : rest m ++ l = Lib.decDigits N) : l.length ≤ 20 := by
  have h2 : (rest m ++ l).length = Lib.nDigits N := by rw [h, Lib.decDigits_length]
  rw [List.length_append] at h2
  have := Lib.nDigits_le20 N h1
  omega
theorem rest_next {N m : Nat} {l : List UInt8} (hm : m ≠ 0) (h : rest m ++ l = Lib.decDigits N) : rest (m / 10) ++ (UInt8.ofNat (48 + m % 10) :: l) = Lib.decDigits N := by
  rw [← h, rest_step m hm, List.append_assoc]; rfl
theorem drewN_below {B : Nat} {a w : World} (h : Below B a w) (n : Nat) : Below B a (w.drewN n) := ⟨h.os, h.tape, h.output, h.size, h.block⟩
def mt (k : Nat) : ByteArray := ⟨(109 :: Lib.decDigits k).toArray⟩
end Go.Proofs.YtbdjnfnphilklaaGreat.Marking
namespace Go.Proofs.YtbdjnfnphilklaaGreat.Turn
open Go.ChangeShapes Go.WideShapes Go.ChangeAt Go.RowKit
open Kit Point
set_option linter.unusedVariables false
set_option linter.unusedSimpArgs false
set_option linter.unnecessarySimpa false
def tokB (q s dx dy : Int) : Bool := decide (0 ≤ q ∧ q ≤ 3) && decide (1 ≤ s ∧ s ≤ 4) && inB dx && inB dy
theorem tok_true {q s dx dy : Int} (h : tokB q s dx dy = true) : (0 ≤ q ∧ q ≤ 3) ∧ (1 ≤ s ∧ s ≤ 4) ∧ (-200 ≤ dx ∧ dx ≤ 200) ∧ (-200 ≤ dy ∧ dy ≤ 200) := by
  simp only [tokB, inB, Bool.and_eq_true, decide_eq_true_eq] at h; omega
/-! ### The image -/
def rotX (q x y : Int) : Int := if q = 0 then x else if q = 1 then -y else if q = 2 then -x else y
def rotY (q x y : Int) : Int := if q = 0 then y else if q = 1 then x else if q = 2 then -y else -x
theorem rot_in {q x y : Int} (B : Int) (h : -B ≤ x ∧ x ≤ B) (k : -B ≤ y ∧ y ≤ B) : (-B ≤ rotX q x y ∧ rotX q x y ≤ B) ∧ (-B ≤ rotY q x y ∧ rotY q x y ≤ B) := by
  unfold rotX rotY
  by_cases h0 : q = 0
  · simp only [h0, if_true]; omega
  · by_cases h1 : q = 1
    · simp [h1]; omega
    · by_cases h2 : q = 2
      · simp [h2]; omega
      · simp [h0, h1, h2]; omega
theorem rot_next {k : Nat} (x y : Int) (h : (k : Int) < 3) : rotX ((k + 1 : Nat) : Int) x y = -rotY (k : Int) x y ∧ rotY ((k + 1 : Nat) : Int) x y = rotX (k : Int) x y := by
  have : k = 0 ∨ k = 1 ∨ k = 2 := by omega
  rcases this with rfl | rfl | rfl <;> simp [rotX, rotY]
theorem rot_zero (x y : Int) : rotX ((0 : Nat) : Int) x y = x ∧ rotY ((0 : Nat) : Int) x y = y := by simp [rotX, rotY]
theorem scale_big {x s : Int} (h : -20000 ≤ x ∧ x ≤ 20000) (hs : 1 ≤ s ∧ s ≤ 4) : -80000 ≤ x * s ∧ x * s ≤ 80000 := by
  have : s = 1 ∨ s = 2 ∨ s = 3 ∨ s = 4 := by omega
  rcases this with rfl | rfl | rfl | rfl <;> omega
theorem scale_in {x s : Int} (h : -200 ≤ x ∧ x ≤ 200) (hs : 1 ≤ s ∧ s ≤ 4) : -800 ≤ x * s ∧ x * s ≤ 800 := by
  have : s = 1 ∨ s = 2 ∨ s = 3 ∨ s = 4 := by omega
  rcases this with rfl | rfl | rfl | rfl <;> omega
def imX (q s dx x y : Int) : Int := rotX q (x * s) (y * s) + dx
def imY (q s dy x y : Int) : Int := rotY q (x * s) (y * s) + dy
end Go.Proofs.YtbdjnfnphilklaaGreat.Turn
namespace Go.Proofs.YtbdjnfnphilklaaGreat.Ins
open Go.ChangeShapes Go.WideShapes Go.ChangeAt Go.RowKit
open Kit Point
set_option linter.unusedVariables false
set_option linter.unusedSimpArgs false
set_option linter.unnecessarySimpa false
def pX (l : List (Int × Int)) (i : Nat) : Int := (l.getD i (0, 0)).1
def pY (l : List (Int × Int)) (i : Nat) : Int := (l.getD i (0, 0)).2
def ptsB (l : List (Int × Int)) : Bool := l.all fun p => pokB p.1 p.2
def pathB (l : List (Int × Int)) : Bool := decide (l.length ≤ 8) && ptsB l
def PathAt (w : World) (a : Option Addr) (l : List (Int × Int)) : Prop := l = [] ∨ ∃ g, a = some ⟨g, 0, none⟩ ∧ g < w.heap.size ∧ ∀ i, i < l.length → w.cell? ⟨g, i * 2, none⟩ = some (.int .i64 (pX l i)) ∧ w.cell? ⟨g, i * 2 + 1, none⟩ = some (.int .i64 (pY l i))
theorem PathAt.on {w w' : World} {a : Option Addr} {l : List (Int × Int)} (h : PathAt w a l) (hb : Below w.heap.size w w') : PathAt w' a l := by
  rcases h with h | ⟨g, ha, hg, h⟩
  · exact .inl h
  · exact .inr ⟨g, ha, Nat.lt_of_lt_of_le hg hb.size, fun i hi => ⟨(hb.cell (p := ⟨g, _, none⟩) hg).trans (h i hi).1, (hb.cell (p := ⟨g, _, none⟩) hg).trans (h i hi).2⟩⟩
theorem ptsB_bad {l : List (Int × Int)} {k : Nat} (hk : k < l.length) (h : pokB (pX l k) (pY l k) = false) : ptsB l = false := by
  rw [ptsB, List.all_eq_false]
  refine ⟨l[k], List.getElem_mem hk, ?_⟩
  have e : l.getD k (0, 0) = l[k] := by simp [List.getD, List.getElem?_eq_getElem hk]
  simp only [pX, pY, e] at h
  simp [h]
theorem ptsB_good {l : List (Int × Int)} (h : ∀ k, k < l.length → pokB (pX l k) (pY l k) = true) : ptsB l = true := by
  rw [ptsB, List.all_eq_true]
  intro p hp
  obtain ⟨k, hk, rfl⟩ := List.getElem_of_mem hp
  have e : l.getD k (0, 0) = l[k] := by simp [List.getD, List.getElem?_eq_getElem hk]
  have := h k hk
  simpa only [pX, pY, e] using this
set_option maxHeartbeats 1000000 in
theorem pts_spec (w : World) (a : Option Addr) (c : Nat) (l : List (Int × Int)) (hn : l.length ≤ 1048576) (h : PathAt w a l) :
    Calls Tryz.prog 114 #[.slice a l.length c] w fun e w' => e = .returned (.bool (pathB l)) ∧ Below w.heap.size w w' := by
  have HP := Lib.hid h
  rcases h with rfl | ⟨g, rfl, hg, _⟩
  · go_enter Tryz.func114, Tryz.ntmps114
    go_wp2
    go_rounds 1
    go_ret
    exact ⟨rfl, Below.refl _ _⟩
  · obtain ⟨n, hN⟩ : ∃ n, l.length = n := ⟨_, rfl⟩
    have HN := Lib.hid hN
    rw [hN] at hn ⊢
    clear hN
    go_enter Tryz.func114, Tryz.ntmps114
    go_wp2
    go_loopw [3] (fun v3 wr => ∃ k : Nat, k ≤ n ∧ v3 = .int .i64 (k : Int) ∧ Hid (∀ i, i < k → pokB (pX l i) (pY l i) = true) ∧ Below w.heap.size w wr) (fun v3 _ => n - (intOf v3).toNat)
    case atStart => exact ⟨0, Nat.zero_le _, rfl, Lib.hid (fun i hi => absurd hi (Nat.not_lt_zero i)), Below.refl _ _⟩
    case round =>
      obtain ⟨k, hk, rfl, hb, hB⟩ := hrel
      by_cases hlt : k < n
      · have hP := HP.out.on hB
        rcases hP with he | ⟨g', hg', hlg, hc⟩
        · have := HN.out; rw [he] at this; simp at this; omega
        · injection hg' with hg'
          injection hg' with hg'
          subst hg'
          have q := hc k (by rw [HN.out]; exact hlt)
          obtain ⟨q1, q2⟩ := q
          obtain ⟨x, hx⟩ : ∃ x, pX l k = x := ⟨_, rfl⟩
          obtain ⟨y, hy⟩ : ∃ y, pY l k = y := ⟨_, rfl⟩
          rw [hx] at q1; rw [hy] at q2
          have i0 : (0 : Int) ≤ (k : Int) := by omega
          have i1 : (k : Int) < (n : Int) := by omega
          have HX := Lib.hid (And.intro hx hy)
          clear hx hy hc
          have HB := Lib.hid hB
          clear hB
          go_wp2_with fail
          ((with_reducible refine (pok_spec x y _).mono ?_); rintro e w1 ⟨rfl, bb⟩)
          have hB1 := on_of HB.out bb
          have HB1 := Lib.hid hB1
          clear hB1 bb
          cases hp : pokB x y
          · have hno : pathB l = false := by rw [pathB, ptsB_bad (by rw [HN.out]; exact hlt) (by rw [HX.out.1, HX.out.2]; exact hp)]; simp
            have HS := Lib.hid hno
            clear hno hp
            go_wp2
            go_ret
            exact ⟨ret_bool HS.out.symm, HB1.out⟩
          · have hyes : ∀ i, i < k + 1 → pokB (pX l i) (pY l i) = true := fun i hi => by
              by_cases e : i = k
              · subst e; rw [HX.out.1, HX.out.2]; exact hp
              · exact hb.out i (by omega)
            have HS := Lib.hid hyes
            clear hyes hp
            go_wp2
            go_roundw
            case rel => exact ⟨k + 1, by omega, by go_num, HS, HB1.out⟩
            case measure => simp [intOf]; omega
      · obtain rfl : k = n := by omega
        have HB := Lib.hid hB
        clear hB
        go_wp2
        go_ret
        refine ⟨ret_bool ?_, HB.out⟩
        rw [pathB, ptsB_good (fun i hi => hb.out i (by rw [← HN.out]; exact hi)), HN.out, Bool.and_true]
        first | rfl | (apply decide_eq_decide.2; omega)
end Go.Proofs.YtbdjnfnphilklaaGreat.Ins
namespace Go.Proofs.YtbdjnfnphilklaaGreat.Ins
open Go.ChangeShapes Go.WideShapes Go.ChangeAt Go.RowKit
open Kit Point
set_option linter.unusedVariables false
set_option linter.unusedSimpArgs false
set_option linter.unnecessarySimpa false
set_option maxHeartbeats 1000000 in
theorem allpts_impl (w : World) (a : Option Addr) (c : Nat) (l : List (Int × Int)) (hn : l.length ≤ 1048576) (h : PathAt w a l) :
    Calls Tryz.prog 125 #[.slice a l.length c, .func (.func 126) #[] #[]] w fun e w' => e = .returned (.bool (ptsB l)) ∧ Below w.heap.size w w' := by
  have HP := Lib.hid h
  rcases h with rfl | ⟨g, rfl, hg, _⟩
  · go_enter Tryz.func125, Tryz.ntmps125
    go_wp2
    go_rounds 1
    go_ret
    exact ⟨rfl, Below.refl _ _⟩
  · obtain ⟨n, hN⟩ : ∃ n, l.length = n := ⟨_, rfl⟩
    have HN := Lib.hid hN
    rw [hN] at hn ⊢
    clear hN
    go_enter Tryz.func125, Tryz.ntmps125
    go_wp2
    go_loopw [9] (fun v9 wr => ∃ k : Nat, k ≤ n ∧ v9 = .int .i64 (k : Int) ∧ Hid (∀ i, i < k → pokB (pX l i) (pY l i) = true) ∧ Below w.heap.size w wr) (fun v9 _ => n - (intOf v9).toNat)
    case atStart => exact ⟨0, Nat.zero_le _, rfl, Lib.hid (fun i hi => absurd hi (Nat.not_lt_zero i)), Below.refl _ _⟩
    case round =>
      obtain ⟨k, hk, rfl, hb, hB⟩ := hrel
      by_cases hlt : k < n
      · have hP := HP.out.on hB
        rcases hP with he | ⟨g', hg', hlg, hc⟩
        · have := HN.out; rw [he] at this; simp at this; omega
        · injection hg' with hg'
          injection hg' with hg'
          subst hg'
          have q := hc k (by rw [HN.out]; exact hlt)
          obtain ⟨q1, q2⟩ := q
          obtain ⟨x, hx⟩ : ∃ x, pX l k = x := ⟨_, rfl⟩
          obtain ⟨y, hy⟩ : ∃ y, pY l k = y := ⟨_, rfl⟩
          rw [hx] at q1; rw [hy] at q2
          have i0 : (0 : Int) ≤ (k : Int) := by omega
          have i1 : (k : Int) < (n : Int) := by omega
          have HX := Lib.hid (And.intro hx hy)
          clear hx hy hc
          have HB := Lib.hid hB
          clear hB
          go_wp2_with fail
          ((with_reducible refine (pok_impl x y _).mono ?_); rintro e w1 ⟨rfl, bb⟩)
          have hB1 := on_of (HB.out.alloc HB.out.size _) bb
          have HB1 := Lib.hid hB1
          clear hB1 bb
          cases hp : pokB x y
          · have hno : ptsB l = false := by exact ptsB_bad (by rw [HN.out]; exact hlt) (by rw [HX.out.1, HX.out.2]; exact hp)
            have HS := Lib.hid hno
            clear hno hp
            go_wp2
            go_ret
            exact ⟨ret_bool HS.out.symm, HB1.out⟩
          · have hyes : ∀ i, i < k + 1 → pokB (pX l i) (pY l i) = true := fun i hi => by
              by_cases e : i = k
              · subst e; rw [HX.out.1, HX.out.2]; exact hp
              · exact hb.out i (by omega)
            have HS := Lib.hid hyes
            clear hyes hp
            go_wp2
            go_roundw
            case rel => exact ⟨k + 1, by omega, by go_num, HS, HB1.out⟩
            case measure => simp [intOf]; omega
      · obtain rfl : k = n := by omega
        have HB := Lib.hid hB
        clear hB
        go_wp2
        go_ret
        exact ⟨ret_bool (ptsB_good (fun i hi => hb.out i (by rw [← HN.out]; exact hi))).symm, HB.out⟩
theorem path_impl (w : World) (a : Option Addr) (c : Nat) (l : List (Int × Int)) (hn : l.length ≤ 1048576) (h : PathAt w a l) :
    Calls Tryz.prog 108 #[.slice a l.length c] w fun e w' => e = .returned (.bool (pathB l)) ∧ Below w.heap.size w w' := by
  by_cases h8 : l.length ≤ 8
  · obtain ⟨n, hN⟩ : ∃ n, l.length = n := ⟨_, rfl⟩
    have H := Lib.hid (And.intro h (And.intro hN hn))
    have h8' : (n : Int) ≤ 8 := by omega
    rw [hN]
    clear h hN hn
    go_enter Tryz.func108, Tryz.ntmps108
    go_wp2_with fail
    rw [← H.out.2.1]
    ((with_reducible refine (allpts_impl w a c l H.out.2.2 H.out.1).mono ?_); rintro e w1 ⟨rfl, bb⟩)
    have HB := Lib.hid bb
    clear bb
    go_wp2
    go_ret
    exact ⟨ret_bool (by simp [pathB, h8]), HB.out⟩
  · have h8' : ¬ (l.length : Int) ≤ 8 := by omega
    clear h
    go_enter Tryz.func108, Tryz.ntmps108
    go_wp2
    go_ret
    exact ⟨ret_bool (by simp [pathB, h8]), Below.refl _ _⟩
end Go.Proofs.YtbdjnfnphilklaaGreat.Ins
