/-
  The drawn boxes (l02Box, DrawBoxes); condition: the bytes that came in can be read.
-/
import Derived.Test.YtjmcpijmhfdbiaaDrawPt
namespace Go.Proofs.Ytjmcpijmhfdbiaa.Draw
open Go.ChangeShapes Go.WideShapes Go.ChangeAt Go.RowKit
open Kit
set_option linter.unusedVariables false
set_option linter.unusedSimpArgs false
set_option linter.unnecessarySimpa false
attribute [local go_sem ↓] run_mx run_mn

def BoxIn (x0 y0 x1 y1 : Int) : Prop := -4 ≤ x0 ∧ x0 ≤ x1 ∧ x1 ≤ 36 ∧ -4 ≤ y0 ∧ y0 ≤ y1 ∧ y1 ≤ 36

theorem box_in {x y u v : Int} (hx : InPage x) (hy : InPage y) (hu : InPage u) (hv : InPage v) : BoxIn (mn x u) (mn y v) (mx x u) (mx y v) := by
  unfold BoxIn mn mx; unfold InPage at *; omega

set_option maxHeartbeats 2000000 in
theorem box_on (W w0 w : World) (b : Nat) (a : Option Addr) (len cap : Nat) (z : List Int) (d : Drawn W a len cap z b w0 w) :
    Calls Try.prog 39 #[.pointer (some ⟨b, 0, none⟩)] w fun e w' => ∃ x0 y0 x1 y1 : Int, BoxIn x0 y0 x1 y1 ∧ e = .returned (.agg #[.int .i64 x0, .int .i64 y0, .int .i64 x1, .int .i64 y1]) ∧ Drawn W a len cap z b w0 w' := by
  have hne := d.ne
  have D := (d.alloc (.cells #[.int .i64 0, .int .i64 0, .int .i64 0, .int .i64 0] 34)).1.same
  have hW := Nat.le_trans d.1.far (Nat.le_of_lt d.1.here)
  have hw0 := d.2.size
  have HD := Lib.hid d
  clear d
  go_enter Try.func39, Try.ntmps39
  go_wp2_with fail
  (refine (point_on W _ _ b a len cap z D).mono ?_; rintro e w1 ⟨x, y, hx, hy, rfl, d1⟩)
  have hne1 := d1.ne
  have D1 := (d1.alloc (.cells #[.int .i64 x, .int .i64 y] 30)).1.same
  go_wp2_with fail
  (refine (point_on W _ _ b a len cap z D1).mono ?_; rintro e w2 ⟨u, v, hu, hv, rfl, d2⟩)
  obtain ⟨p0, p1, pf⟩ := Two.drawn (Two.new w1 30 x y) d2 hne1
  have d3 := (d1.alloc (.cells #[.int .i64 x, .int .i64 y] 30)).trans d2
  have r0 := d3.keeps (Four.newZero w 34 0 (by omega)) hne
  have r1 := d3.keeps (Four.newZero w 34 1 (by omega)) hne
  have r2 := d3.keeps (Four.newZero w 34 2 (by omega)) hne
  have r3 := d3.keeps (Four.newZero w 34 3 (by omega)) hne
  have rf : ∀ o, w2.frozen? ⟨w.heap.size, o, none⟩ = false := fun o => d3.thaws (by simp) (by simp [go_sem]) hne
  have hs1 : w.heap.size < w1.heap.size := by have := d1.2.size; simp at this; omega
  have hs2 : w1.heap.size < w2.heap.size := by have := d2.2.size; simp at this; omega
  have hs3 : w.heap.size < w2.heap.size := by omega
  have d4 := (HD.out.alloc (.cells #[.int .i64 0, .int .i64 0, .int .i64 0, .int .i64 0] 34)).trans d3
  clear d1 d2 d3 D D1
  go_wp2_with fail
  refine bodyPost_ret (by simp [results, Try.results39, go_sem, *]; try rfl) rfl ?_
  exact ⟨_, _, _, _, box_in hx hy hu hv, rfl, ((((d4.setNew hw0 hW hne _ _).setNew hw0 hW hne _ _).setNew hw0 hW hne _ _).setNew hw0 hW hne _ _).alloc _⟩

set_option maxHeartbeats 2000000 in
theorem boxes_any (w : World) (a : Option Addr) (len cap : Nat) (z : List Int) (hr : IsRow .u8 w a len cap z) :
    Calls Try.prog 16 #[.slice a len cap] w fun e w' => ∃ x0 y0 x1 y1 u0 v0 u1 v1 : Int, BoxIn x0 y0 x1 y1 ∧ BoxIn u0 v0 u1 v1 ∧ e = .returned (.tuple #[.agg #[.int .i64 x0, .int .i64 y0, .int .i64 x1, .int .i64 y1], .agg #[.int .i64 u0, .int .i64 v0, .int .i64 u1, .int .i64 v1]]) ∧ Below w.heap.size w w' := by
  have hb0 : Below w.heap.size w ((w.alloc (.cells #[.int .i64 0, .int .i64 0, .int .i64 0, .int .i64 0] 34)).alloc (.cells #[.int .i64 0, .int .i64 0, .int .i64 0, .int .i64 0] 34)) := by go_grown
  have HR := Lib.hid (IsRow.keep hr hb0)
  clear hr
  go_enter Try.func16, Try.ntmps16
  go_wp2_with fail
  (refine (new_any _ _ _ _ z HR.out).mono ?_; rintro e w1 ⟨rfl, dr⟩; simp only [World.size_alloc] at dr)
  have d0 := dr.same
  go_wp2_with fail
  ((with_reducible refine (box_on _ _ _ _ a len cap z d0).mono ?_); rintro e w2 ⟨x0, y0, x1, y1, hx, rfl, d1⟩)
  go_wp2_with fail
  ((with_reducible refine (box_on _ _ _ _ a len cap z d1).mono ?_); rintro e w3 ⟨u0, v0, u1, v1, hu, rfl, d2⟩)
  obtain ⟨hc, hf⟩ := bcell d2.1.below
  have hs : w.heap.size + 1 < w3.heap.size := by have := d2.1.below.size; simp at this; omega
  have hs0 : w.heap.size < w3.heap.size := by omega
  have hbb := on_of hb0 d2.1.below
  have r0 := hc w.heap.size 0 (by simp; omega)
  have r1 := hc w.heap.size 1 (by simp; omega)
  have r2 := hc w.heap.size 2 (by simp; omega)
  have r3 := hc w.heap.size 3 (by simp; omega)
  have q0 := hc (w.heap.size + 1) 0 (by simp)
  have q1 := hc (w.heap.size + 1) 1 (by simp)
  have q2 := hc (w.heap.size + 1) 2 (by simp)
  have q3 := hc (w.heap.size + 1) 3 (by simp)
  have rf := fun o => hf w.heap.size o (by simp; omega)
  have qf := fun o => hf (w.heap.size + 1) o (by simp)
  clear hc hf d0 d1 d2 dr
  simp [go_sem] at r0 r1 r2 r3 q0 q1 q2 q3 rf qf
  go_wp2_with fail
  refine bodyPost_ret (by simp [results, Try.results16, go_sem, *]; try rfl) rfl ?_
  refine ⟨x0, y0, x1, y1, u0, v0, u1, v1, hx, hu, ?_, ?_⟩
  · rfl
  · go_grown

end Go.Proofs.Ytjmcpijmhfdbiaa.Draw
