/-
  Drawn transformations (l03Turn, DrawTurns); condition: the bytes that came in can be read.
-/
import Derived.Test.YtohoelpfmbbdaaaDrawPt
import Derived.Test.YtohoelpfmbbdaaaKit
namespace Go.Proofs.Ytohoelpfmbbdaaa.DrawTurn
open Go.ChangeShapes Go.WideShapes Go.ChangeAt Go.RowKit
open Kit Draw
set_option linter.unusedVariables false
set_option linter.unusedSimpArgs false
set_option linter.unnecessarySimpa false

def Scaled (q : Int) : Prop := q = 1 ∨ q = 2 ∨ q = 4

def TurnIn (q s dx dy : Int) : Prop := (0 ≤ q ∧ q ≤ 3) ∧ Scaled s ∧ (-20 ≤ dx ∧ dx ≤ 20) ∧ (-20 ≤ dy ∧ dy ≤ 20)

theorem scale_cells (w : World) (T : TypeId) : ∀ k, k < 4 → ∃ q : Int, Scaled q ∧ (w.alloc (.cells #[.int .i64 1, .int .i64 1, .int .i64 2, .int .i64 4] T)).cell? ⟨w.heap.size, k, none⟩ = some (.int .i64 q) := by
  intro k hk
  have h : k = 0 ∨ k = 1 ∨ k = 2 ∨ k = 3 := by omega
  rcases h with rfl | rfl | rfl | rfl
  · exact ⟨1, by unfold Scaled; omega, by simp [go_sem]⟩
  · exact ⟨1, by unfold Scaled; omega, by simp [go_sem]⟩
  · exact ⟨2, by unfold Scaled; omega, by simp [go_sem]⟩
  · exact ⟨4, by unfold Scaled; omega, by simp [go_sem]⟩

theorem turn4 {r : Int} (h : Within 4 r) : 0 ≤ r ∧ r ≤ 3 := by obtain ⟨h0, h1, _⟩ := h; have := h1 (by omega); omega
theorem shift41 {r : Int} (h : Within 41 r) : (-20 ≤ r - 20 ∧ r - 20 ≤ 20) ∧ 0 ≤ r ∧ r ≤ 40 := by obtain ⟨h0, h1, _⟩ := h; have := h1 (by omega); omega

theorem Four.drawn {W w0 w : World} {a : Option Addr} {len cap : Nat} {z : List Int} {b R : Nat} {x y u v : Int} (h : Four w0 R x y u v) (d : Drawn W a len cap z b w0 w) (hb : R ≠ b) : Four w R x y u v :=
  ⟨d.keeps h.c0 hb, d.keeps h.c1 hb, d.keeps h.c2 hb, d.keeps h.c3 hb, fun o => d.thaws h.lt (h.fr o) hb⟩

set_option maxHeartbeats 2000000 in
theorem turn_on (W w0 w : World) (b : Nat) (a : Option Addr) (len cap : Nat) (z : List Int) (d : Drawn W a len cap z b w0 w) :
    Calls Try.prog 26 #[.pointer (some ⟨b, 0, none⟩)] w fun e w' => ∃ q s dx dy : Int, TurnIn q s dx dy ∧ e = .returned (.agg #[.int .i64 q, .int .i64 s, .int .i64 dx, .int .i64 dy]) ∧ Drawn W a len cap z b w0 w' := by
  have hne := d.ne
  have D := (d.alloc (.cells #[.int .i64 0, .int .i64 0, .int .i64 0, .int .i64 0] 25)).1.same
  have hW := Nat.le_trans d.1.far (Nat.le_of_lt d.1.here)
  have hw0 := d.2.size
  have HD := Lib.hid d
  clear d
  go_enter Try.func26, Try.ntmps26
  go_wp2_with fail
  (refine (below_on W _ _ b a len cap z 4 D).mono ?_; rintro e w1 ⟨r1, hr1, rfl, d1⟩)
  have h1 := turn4 hr1
  go_wp2_with fail
  (refine (pickP_on Scaled W _ _ b a len cap z _ 4 _ (Drawn.ne d1) (by decide) (by decide) (scale_cells _ _) (d1.alloc _)).mono ?_; rintro e w2 ⟨s, hs, rfl, d2⟩)
  go_wp2_with fail
  (refine (below_on W _ _ b a len cap z 41 d2).mono ?_; rintro e w3 ⟨r3, hr3, rfl, d3⟩)
  obtain ⟨h3, k30, k31⟩ := shift41 hr3
  go_wp2_with fail
  (refine (below_on W _ _ b a len cap z 41 d3).mono ?_; rintro e w4 ⟨r4, hr4, rfl, d4⟩)
  obtain ⟨h4, k40, k41⟩ := shift41 hr4
  obtain ⟨c0, c1, c2, c3, fr⟩ := Four.drawn (Four.new w 25 0 0 0 0) d4 hne
  have d7 := (HD.out.alloc (.cells #[.int .i64 0, .int .i64 0, .int .i64 0, .int .i64 0] 25)).trans d4
  go_wp2_with fail
  refine bodyPost_ret (by simp [results, Try.results26, go_sem, *]; try rfl) rfl ?_
  exact ⟨r1, s, r3 - 20, r4 - 20, ⟨h1, hs, h3, h4⟩, rfl, (((d7.setNew hw0 hW hne _ _).setNew hw0 hW hne _ _).setNew hw0 hW hne _ _).setNew hw0 hW hne _ _⟩

theorem Below_three (w : World) (o o' o'' : Obj) : Below w.heap.size w (((w.alloc o).alloc o').alloc o'') := by go_grown

set_option maxHeartbeats 2000000 in
theorem turns_any (w : World) (a : Option Addr) (len cap : Nat) (z : List Int) (hr : IsRow .u8 w a len cap z) :
    Calls Try.prog 10 #[.slice a len cap] w fun e w' => ∃ q s dx dy r t ex ey x y : Int, TurnIn q s dx dy ∧ TurnIn r t ex ey ∧ InPage x ∧ InPage y ∧ e = .returned (.tuple #[.agg #[.int .i64 q, .int .i64 s, .int .i64 dx, .int .i64 dy], .agg #[.int .i64 r, .int .i64 t, .int .i64 ex, .int .i64 ey], .agg #[.int .i64 x, .int .i64 y]]) ∧ Below w.heap.size w w' := by
  have hb0 := Below_three w (.cells #[.int .i64 0, .int .i64 0, .int .i64 0, .int .i64 0] 25) (.cells #[.int .i64 0, .int .i64 0, .int .i64 0, .int .i64 0] 25) (.cells #[.int .i64 0, .int .i64 0] 27)
  have HR := Lib.hid (IsRow.keep hr hb0)
  have A0 := ((Four.new w 25 0 0 0 0).alloc (.cells #[.int .i64 0, .int .i64 0, .int .i64 0, .int .i64 0] 25)).alloc (.cells #[.int .i64 0, .int .i64 0] 27)
  have B0 : Four (((w.alloc (.cells #[.int .i64 0, .int .i64 0, .int .i64 0, .int .i64 0] 25)).alloc (.cells #[.int .i64 0, .int .i64 0, .int .i64 0, .int .i64 0] 25)).alloc (.cells #[.int .i64 0, .int .i64 0] 27)) (w.heap.size + 1) 0 0 0 0 := by
    have := (Four.new (w.alloc (.cells #[.int .i64 0, .int .i64 0, .int .i64 0, .int .i64 0] 25)) 25 0 0 0 0).alloc (.cells #[.int .i64 0, .int .i64 0] 27)
    simpa using this
  have C0 : Two (((w.alloc (.cells #[.int .i64 0, .int .i64 0, .int .i64 0, .int .i64 0] 25)).alloc (.cells #[.int .i64 0, .int .i64 0, .int .i64 0, .int .i64 0] 25)).alloc (.cells #[.int .i64 0, .int .i64 0] 27)) (w.heap.size + 1 + 1) 0 0 := by
    have := Two.new ((w.alloc (.cells #[.int .i64 0, .int .i64 0, .int .i64 0, .int .i64 0] 25)).alloc (.cells #[.int .i64 0, .int .i64 0, .int .i64 0, .int .i64 0] 25)) 27 0 0
    simpa using this
  have HF := Lib.hid (And.intro A0 (And.intro B0 C0))
  clear hr A0 B0 C0
  go_enter Try.func10, Try.ntmps10
  go_wp2_with fail
  (refine (new_any _ _ _ _ z HR.out).mono ?_; rintro e w1 ⟨rfl, dr⟩; simp only [World.size_alloc] at dr)
  have d0 := dr.same
  go_wp2_with fail
  ((with_reducible refine (turn_on _ _ _ _ a len cap z d0).mono ?_); rintro e w2 ⟨q, s, dx, dy, h1, rfl, d1⟩)
  go_wp2_with fail
  ((with_reducible refine (turn_on _ _ _ _ a len cap z d1).mono ?_); rintro e w3 ⟨r, t, ex, ey, h2, rfl, d2⟩)
  go_wp2_with fail
  ((with_reducible refine (point_on _ _ _ _ a len cap z d2).mono ?_); rintro e w4 ⟨x, y, hx, hy, rfl, d3⟩)
  have hb := d3.1.below
  have FA := HF.out.1.keep hb (by simp; omega)
  have FB := HF.out.2.1.keep hb (by simp)
  have FC : Two w4 (w.heap.size + 1 + 1) 0 0 := ⟨(hb.cell (p := ⟨w.heap.size + 1 + 1, 0, none⟩) (by simp)).trans HF.out.2.2.c0, (hb.cell (p := ⟨w.heap.size + 1 + 1, 1, none⟩) (by simp)).trans HF.out.2.2.c1, fun o => (hb.frozen (p := ⟨w.heap.size + 1 + 1, o, none⟩) (by simp)).trans (HF.out.2.2.fr o)⟩
  have hbb := on_of hb0 hb
  obtain ⟨a0, a1, a2, a3, a4⟩ := FA
  obtain ⟨b0, b1, b2, b3, b4⟩ := FB
  obtain ⟨c0, c1, c2⟩ := FC
  have n1 : w.heap.size ≠ w.heap.size + 1 := by omega
  have n2 : w.heap.size ≠ w.heap.size + 1 + 1 := by omega
  have n3 : w.heap.size + 1 ≠ w.heap.size + 1 + 1 := by omega
  have n4 := n1.symm
  have n5 := n2.symm
  have n6 := n3.symm
  clear d0 d1 d2 d3 dr hb hb0
  go_wp2_with fail
  refine bodyPost_ret (by simp [results, Try.results10, go_sem, *]; try rfl) rfl ?_
  refine ⟨q, s, dx, dy, r, t, ex, ey, x, y, h1, h2, hx, hy, ?_, ?_⟩
  · rfl
  · go_grown

end Go.Proofs.Ytohoelpfmbbdaaa.DrawTurn
