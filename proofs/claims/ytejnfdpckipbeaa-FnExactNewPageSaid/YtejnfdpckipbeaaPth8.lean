/-
  A path of points in memory; which paths are valid (model).
-/
import Derived.Test.YtejnfdpckipbeaaPoint
import Derived.Test.YtejnfdpckipbeaaIn8
import Derived.LoopTactic
import Derived.OwnWalk
import Derived.WalkKit
import Derived.Handy
import Derived.Lib.Hide
namespace Go.Proofs.Ytejnfdpckipbeaa.Ins
open Go.ChangeShapes Go.WideShapes Go.ChangeAt Go.RowKit
open Kit Point
set_option linter.unusedVariables false
set_option linter.unusedSimpArgs false
set_option linter.unnecessarySimpa false
def pX (l : List (Int × Int)) (i : Nat) : Int := (l.getD i (0, 0)).1
def pY (l : List (Int × Int)) (i : Nat) : Int := (l.getD i (0, 0)).2
def ptsB (l : List (Int × Int)) : Bool := l.all fun p => pokB p.1 p.2
def pathB (l : List (Int × Int)) : Bool := decide (l.length ≤ 8) && ptsB l
def PathAt (w : World) (a : Option Addr) (l : List (Int × Int)) : Prop := l = [] ∨ ∃ g, a = some ⟨g, 0, none⟩ ∧ g < w.heap.size ∧ ∀ i, i < l.length → w.cell? ⟨g, i * 2, none⟩ = some (.int .i64 (pX l i)) ∧ w.cell? ⟨g, i * 2 + 1, none⟩ = some (.int .i64 (pY l i))
theorem PathAt.on {w w' : World} {a : Option Addr} {l : List (Int × Int)} (h : PathAt w a l) (hb : Below w.heap.size w w') : PathAt w' a l := by
  rcases h with h | ⟨g, ha, hg, h⟩
  · exact .inl h
  · exact .inr ⟨g, ha, Nat.lt_of_lt_of_le hg hb.size, fun i hi => ⟨(hb.cell (p := ⟨g, _, none⟩) hg).trans (h i hi).1, (hb.cell (p := ⟨g, _, none⟩) hg).trans (h i hi).2⟩⟩
theorem ptsB_bad {l : List (Int × Int)} {k : Nat} (hk : k < l.length) (h : pokB (pX l k) (pY l k) = false) : ptsB l = false := by
  rw [ptsB, List.all_eq_false]
  refine ⟨l[k], List.getElem_mem hk, ?_⟩
  have e : l.getD k (0, 0) = l[k] := by simp [List.getD, List.getElem?_eq_getElem hk]
  simp only [pX, pY, e] at h
  simp [h]
theorem ptsB_good {l : List (Int × Int)} (h : ∀ k, k < l.length → pokB (pX l k) (pY l k) = true) : ptsB l = true := by
  rw [ptsB, List.all_eq_true]
  intro p hp
  obtain ⟨k, hk, rfl⟩ := List.getElem_of_mem hp
  have e : l.getD k (0, 0) = l[k] := by simp [List.getD, List.getElem?_eq_getElem hk]
  have := h k hk
  simpa only [pX, pY, e] using this
set_option maxHeartbeats 1000000 in
theorem pts_spec (w : World) (a : Option Addr) (c : Nat) (l : List (Int × Int)) (hn : l.length ≤ 1048576) (h : PathAt w a l) :
    Calls Try.prog 113 #[.slice a l.length c] w fun e w' => e = .returned (.bool (pathB l)) ∧ Below w.heap.size w w' := by
  have HP := Lib.hid h
  rcases h with rfl | ⟨g, rfl, hg, _⟩
  · go_enter Try.func113, Try.ntmps113
    go_wp2
    go_rounds 1
    go_ret
    exact ⟨rfl, Below.refl _ _⟩
  · obtain ⟨n, hN⟩ : ∃ n, l.length = n := ⟨_, rfl⟩
    have HN := Lib.hid hN
    rw [hN] at hn ⊢
    clear hN
    go_enter Try.func113, Try.ntmps113
    go_wp2
    go_loopw [3] (fun v3 wr => ∃ k : Nat, k ≤ n ∧ v3 = .int .i64 (k : Int) ∧ Hid (∀ i, i < k → pokB (pX l i) (pY l i) = true) ∧ Below w.heap.size w wr) (fun v3 _ => n - (intOf v3).toNat)
    case atStart => exact ⟨0, Nat.zero_le _, rfl, Lib.hid (fun i hi => absurd hi (Nat.not_lt_zero i)), Below.refl _ _⟩
    case round =>
      obtain ⟨k, hk, rfl, hb, hB⟩ := hrel
      by_cases hlt : k < n
      · have hP := HP.out.on hB
        rcases hP with he | ⟨g', hg', hlg, hc⟩
        · have := HN.out; rw [he] at this; simp at this; omega
        · injection hg' with hg'
          injection hg' with hg'
          subst hg'
          have q := hc k (by rw [HN.out]; exact hlt)
          obtain ⟨q1, q2⟩ := q
          obtain ⟨x, hx⟩ : ∃ x, pX l k = x := ⟨_, rfl⟩
          obtain ⟨y, hy⟩ : ∃ y, pY l k = y := ⟨_, rfl⟩
          rw [hx] at q1; rw [hy] at q2
          have i0 : (0 : Int) ≤ (k : Int) := by omega
          have i1 : (k : Int) < (n : Int) := by omega
          have HX := Lib.hid (And.intro hx hy)
          clear hx hy hc
          have HB := Lib.hid hB
          clear hB
          go_wp2_with fail
          ((with_reducible refine (pok_spec x y _).mono ?_); rintro e w1 ⟨rfl, bb⟩)
          have hB1 := on_of HB.out bb
          have HB1 := Lib.hid hB1
          clear hB1 bb
          cases hp : pokB x y
          · have hno : pathB l = false := by rw [pathB, ptsB_bad (by rw [HN.out]; exact hlt) (by rw [HX.out.1, HX.out.2]; exact hp)]; simp
            have HS := Lib.hid hno
            clear hno hp
            go_wp2
            go_ret
            exact ⟨ret_bool HS.out.symm, HB1.out⟩
          · have hyes : ∀ i, i < k + 1 → pokB (pX l i) (pY l i) = true := fun i hi => by
              by_cases e : i = k
              · subst e; rw [HX.out.1, HX.out.2]; exact hp
              · exact hb.out i (by omega)
            have HS := Lib.hid hyes
            clear hyes hp
            go_wp2
            go_roundw
            case rel => exact ⟨k + 1, by omega, by go_num, HS, HB1.out⟩
            case measure => simp [intOf]; omega
      · obtain rfl : k = n := by omega
        have HB := Lib.hid hB
        clear hB
        go_wp2
        go_ret
        refine ⟨ret_bool ?_, HB.out⟩
        rw [pathB, ptsB_good (fun i hi => hb.out i (by rw [← HN.out]; exact hi)), HN.out, Bool.and_true]
        first | rfl | (apply decide_eq_decide.2; omega)
end Go.Proofs.Ytejnfdpckipbeaa.Ins
