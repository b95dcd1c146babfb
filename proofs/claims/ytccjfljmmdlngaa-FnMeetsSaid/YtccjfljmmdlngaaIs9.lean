/-
  InSpans (program and model): what the call returns for any list of spans and any column.
-/
import Derived.Test.YtccjfljmmdlngaaSk9
import Derived.Test.YtccjfljmmdlngaaShelf
namespace Go.Proofs.Ytccjfljmmdlngaa.Ins
open Go.ChangeShapes Go.WideShapes Go.ChangeAt Go.RowKit Go.Shelf
open Kit Point
set_option linter.unusedVariables false
set_option linter.unusedSimpArgs false
set_option linter.unnecessarySimpa false
theorem cont_impl (p q x : Int) (w : World) : Calls Try.prog 45 #[.agg #[.int .i64 p, .int .i64 q], .int .i64 x] w fun e w' => e = .returned (.bool (decide (p ≤ x ∧ x < q))) ∧ Below w.heap.size w w' := by
  by_cases h1 : p ≤ x
  · by_cases h2 : x < q
    all_goals
      go_enter Try.func45, Try.ntmps45
      go_wp2
      go_ret
      exact ⟨ret_bool (by simp [h1, h2]), by go_grown⟩
  · go_enter Try.func45, Try.ntmps45
    go_wp2
    go_ret
    exact ⟨ret_bool (by simp [h1]; intro h; omega), by go_grown⟩
/-- A span's two cells. -/
def encP (p : Pt) : List Value := [.int .i64 p.1, .int .i64 p.2]
theorem in_pred (x : Int) (B : Nat) (w : World) (hB : B < w.heap.size) (hcell : w.cell? ⟨B, 0, none⟩ = some (.int .i64 x)) :
    PredBelow Try.prog 44 #[.pointer (some ⟨B, 0, none⟩)] (fun p => .agg (encP p).toArray) (fun p => decide (p.1 ≤ x ∧ x < p.2)) w := fun W p hb => by
  have hc : W.cell? ⟨B, 0, none⟩ = some (.int .i64 x) := (hb.cell (p := ⟨B, 0, none⟩) hB).trans hcell
  have hBW : B < W.heap.size := Nat.lt_of_lt_of_le hB hb.size
  have HB := Lib.hid hb
  clear hb hcell
  show Calls Try.prog 44 #[.agg #[.int .i64 p.1, .int .i64 p.2], .pointer (some ⟨B, 0, none⟩)] W _
  go_enter Try.func44, Try.ntmps44
  go_wp2_with fail
  ((with_reducible refine (cont_impl _ _ _ _).mono ?_); rintro e w1 ⟨rfl, bb⟩)
  have HB1 := Lib.hid (on_of (W := W) (by go_grown) bb)
  clear bb hc
  go_wp2
  go_ret
  exact ⟨ret_bool (by simp), HB.out.trans (HB1.out.mono HB.out.size)⟩
set_option maxHeartbeats 1000000 in
theorem in_impl9 (w : World) (a : Option Addr) (c : Nat) (l : List Pt) (x : Int) (hn : l.length ≤ 1048576) (h : PathAt w a l) :
    Calls Try.prog 15 #[.slice a l.length c, .int .i64 x] w fun e w' => e = .returned (.bool (inS l x)) ∧ Below w.heap.size w w' := by
  have HP := Lib.hid h
  rcases h with rfl | ⟨g, rfl, hg, hc⟩
  · go_enter Try.func15, Try.ntmps15
    go_wp2
    go_rounds 1
    go_wp2
    go_ret
    exact ⟨rfl, by go_grown⟩
  · have eg : ∀ args w, (callFunc 44 args).run Try.prog w = .ok (.enter 44 args) w := enters_of Try.func44 (by kernel_rfl) rfl
    have hcon := AnyQ.slices_ContainsFunc Try.containsF 2 Try.isAgg61 Try.sizeOf61 encP (fun _ => rfl) (fun p : Pt => decide (p.1 ≤ x ∧ x < p.2)) 44 #[.pointer (some ⟨w.heap.size, 0, none⟩)] eg g 0 l.length c l (w.alloc (.cells #[.int .i64 x] 3))
      (in_pred x w.heap.size _ (by simp) (by simp [go_sem])) (Nat.le_refl _) (by omega) (by simp; omega) (fun j hj i v hi => by
        have h1 := hc j hj
        have hb := (Below.refl w.heap.size w).alloc (Nat.le_refl _) (.cells #[.int .i64 x] 3)
        rw [getElem!_pos l j hj, getk l hj] at hi
        match i, hi with
        | 0, hi => simp [encP] at hi; rw [← hi, Nat.zero_add]; exact (hb.cell (p := ⟨g, j * 2, none⟩) hg).trans h1.1
        | 1, hi => simp [encP] at hi; rw [← hi, Nat.zero_add]; exact (hb.cell (p := ⟨g, j * 2 + 1, none⟩) hg).trans h1.2
        | i + 2, hi => simp [encP] at hi)
    change Calls Try.prog 43 _ _ _ at hcon
    rw [List.take_length] at hcon
    have e0 : l.any (fun p : Pt => decide (p.1 ≤ x ∧ x < p.2)) = inS l x := rfl
    rw [e0] at hcon
    clear hc e0
    generalize inS l x = r at hcon ⊢
    generalize l.length = n at hcon ⊢
    go_enter Try.func15, Try.ntmps15
    go_wp2_with (go_at_call 43; refine hcon.mono ?_; rintro e w' ⟨rfl, hb'⟩)
    go_ret
    exact ⟨rfl, on_of (W := w) (by go_grown) hb'⟩
end Go.Proofs.Ytccjfljmmdlngaa.Ins
