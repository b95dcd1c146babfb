/-
  The cursor behind writes to other blocks, and the drawn points (l02Point); condition: the bytes that came in can be read.
-/
import Derived.Test.YtccjfljmmdlngaaDrawPlus
import Derived.Test.YtccjfljmmdlngaaKit
import Derived.Deep.AppendLies
namespace Go.Proofs.Ytccjfljmmdlngaa.Draw
open Go.ChangeShapes Go.WideShapes Go.ChangeAt Go.RowKit
open Kit
set_option linter.unusedVariables false
set_option linter.unusedSimpArgs false
set_option linter.unnecessarySimpa false
attribute [local go_sem ↓] run_mx run_mn

def InPage (q : Int) : Prop := -4 ≤ q ∧ q ≤ 36

theorem four_cells (w : World) (T : TypeId) (r s : Int) (hr : InPage r) (hs : InPage s) : ∀ k, k < 4 → ∃ q : Int, InPage q ∧ (w.alloc (.cells #[.int .i64 0, .int .i64 32, .int .i64 r, .int .i64 s] T)).cell? ⟨w.heap.size, k, none⟩ = some (.int .i64 q) := by
  intro k hk
  have h : k = 0 ∨ k = 1 ∨ k = 2 ∨ k = 3 := by omega
  rcases h with rfl | rfl | rfl | rfl
  · exact ⟨0, by unfold InPage; omega, by simp [go_sem]⟩
  · exact ⟨32, by unfold InPage; omega, by simp [go_sem]⟩
  · exact ⟨r, hr, by simp [go_sem]⟩
  · exact ⟨s, hs, by simp [go_sem]⟩

theorem page33 {r : Int} (h : Within 33 r) : InPage r := by obtain ⟨h0, h1, _⟩ := h; have := h1 (by omega); unfold InPage; omega

theorem page41 {r : Int} (h : Within 41 r) : InPage (r - 4) ∧ 0 ≤ r ∧ r ≤ 40 := by obtain ⟨h0, h1, _⟩ := h; have := h1 (by omega); unfold InPage; omega

set_option maxHeartbeats 2000000 in
theorem point_on (W w0 w : World) (b : Nat) (a : Option Addr) (len cap : Nat) (z : List Int) (d : Drawn W a len cap z b w0 w) :
    Calls Try.prog 57 #[.pointer (some ⟨b, 0, none⟩)] w fun e w' => ∃ x y : Int, InPage x ∧ InPage y ∧ e = .returned (.agg #[.int .i64 x, .int .i64 y]) ∧ Drawn W a len cap z b w0 w' := by
  have hne := d.ne
  have D := (d.alloc (.cells #[.int .i64 0, .int .i64 0] 65)).1.same
  have hW := Nat.le_trans d.1.far (Nat.le_of_lt d.1.here)
  have hw0 := d.2.size
  have HD := Lib.hid d
  clear d
  go_enter Try.func57, Try.ntmps57
  go_wp2_with fail
  (refine (below_on W _ _ b a len cap z 33 D).mono ?_; rintro e w1 ⟨r1, hr1, rfl, d1⟩)
  go_wp2_with fail
  (refine (below_on W _ _ b a len cap z 41 d1).mono ?_; rintro e w2 ⟨r2, hr2, rfl, d2⟩)
  obtain ⟨k2, k20, k21⟩ := page41 hr2
  go_wp2_with fail
  (refine (pickP_on InPage W _ _ b a len cap z _ 4 _ (Drawn.ne d2) (by decide) (by decide) (four_cells _ _ _ _ (page33 hr1) k2) (d2.alloc _)).mono ?_; rintro e w3 ⟨x, hx, rfl, d3⟩)
  go_wp2_with fail
  (refine (below_on W _ _ b a len cap z 33 d3).mono ?_; rintro e w4 ⟨r4, hr4, rfl, d4⟩)
  go_wp2_with fail
  (refine (below_on W _ _ b a len cap z 41 d4).mono ?_; rintro e w5 ⟨r5, hr5, rfl, d5⟩)
  obtain ⟨k5, k50, k51⟩ := page41 hr5
  go_wp2_with fail
  (refine (pickP_on InPage W _ _ b a len cap z _ 4 _ (Drawn.ne d5) (by decide) (by decide) (four_cells _ _ _ _ (page33 hr4) k5) (d5.alloc _)).mono ?_; rintro e w6 ⟨y, hy, rfl, d6⟩)
  have T6 := Two.drawn (Two.new w 65 0 0) d6 hne
  obtain ⟨c0, c1, fr⟩ := T6
  have d7 := (HD.out.alloc (.cells #[.int .i64 0, .int .i64 0] 65)).trans d6
  go_wp2_with fail
  refine bodyPost_ret (by simp [results, Try.results57, go_sem, *]; try rfl) rfl ?_
  exact ⟨x, y, hx, hy, rfl, (d7.setNew hw0 hW hne _ _).setNew hw0 hW hne _ _⟩

end Go.Proofs.Ytccjfljmmdlngaa.Draw
