/-
  Texts of this seat, laid together: Kit
-/
import Derived.Test.YtbdjnfnphilklaaGreatRows
import Derived.WalkKit
import Derived.ProofKit
import Derived.OpenShut
import Derived.Below
import Derived.Outline
import Derived.RegionTactic
import Derived.Handy
import Derived.Deep.RegionHeld
import Derived.Laws.MakeOwn
import Derived.Laws.Entries
import Derived.Lib.Hide
namespace Go.Proofs.YtbdjnfnphilklaaGreat.Kit
open Go.ChangeShapes Go.WideShapes Go.ChangeAt Go.RowKit
set_option linter.unusedVariables false
set_option linter.unusedSimpArgs false
set_option linter.unnecessarySimpa false
theorem ret_bool {a b : Bool} (h : a = b) : Ending.returned (.bool a) = .returned (.bool b) := by rw [h]
theorem ret_int {k : IntKind} {a b : Int} (h : a = b) : Ending.returned (.int k a) = .returned (.int k b) := by rw [h]
theorem bcell {W w1 : World} (hb : Below W.heap.size W w1) : (∀ b o, b < W.heap.size → w1.cell? ⟨b, o, none⟩ = W.cell? ⟨b, o, none⟩) ∧ (∀ b o, b < W.heap.size → w1.frozen? ⟨b, o, none⟩ = W.frozen? ⟨b, o, none⟩) :=
  ⟨fun b o h => hb.cell (p := ⟨b, o, none⟩) h, fun b o h => hb.frozen (p := ⟨b, o, none⟩) h⟩
theorem bcell3 {W w1 : World} (hb : Below W.heap.size W w1) : (∀ b o, b < W.heap.size → w1.cell? ⟨b, o, none⟩ = W.cell? ⟨b, o, none⟩) ∧ (∀ b o, b < W.heap.size → w1.frozen? ⟨b, o, none⟩ = W.frozen? ⟨b, o, none⟩) ∧ (∀ b, b < W.heap.size → b < w1.heap.size) :=
  ⟨(bcell hb).1, (bcell hb).2, fun b h => Nat.lt_of_lt_of_le h hb.size⟩
theorem on_of {W w w' : World} (h : Below W.heap.size W w) (k : Below w.heap.size w w') : Below W.heap.size W w' := h.trans (k.mono h.size)
theorem keepS {W w1 : World} (hb : Below W.heap.size W w1) : (∀ b o, b < W.heap.size → w1.cell? ⟨b, o, none⟩ = W.cell? ⟨b, o, none⟩) ∧ Below W.heap.size W w1 := ⟨(bcell hb).1, hb⟩
theorem gen_world {P : Program} {c : Code} {Q : Exit → Act → World → Prop} {a : Act} {w : World} (F : World → Prop) (hF : F w) (h : ∀ W, F W → c.wp P Q a W) : c.wp P Q a w := h w hF
def mx (a b : Int) : Int := max a b
def mn (a b : Int) : Int := min a b
theorem run_mx {P : Program} {w : World} (ts : Array TypeId) (t : TypeId) (k k' : IntKind) (x y : Int) : (Builtin.max_ ts t #[.int k x, .int k' y]).run P w = .ok (.int k (mx x y)) w := by
  rw [run_max_int2]; unfold mx; congr 2; omega
theorem run_mn {P : Program} {w : World} (ts : Array TypeId) (t : TypeId) (k k' : IntKind) (x y : Int) : (Builtin.min_ ts t #[.int k x, .int k' y]).run P w = .ok (.int k (mn x y)) w := by
  rw [run_min_int2]; unfold mn; congr 2; omega
theorem mx_in {a b : Int} (h : -200 ≤ a ∧ a ≤ 200) (k : -200 ≤ b ∧ b ≤ 200) : -200 ≤ mx a b ∧ mx a b ≤ 200 := by unfold mx; omega
theorem mn_in {a b : Int} (h : -200 ≤ a ∧ a ≤ 200) (k : -200 ≤ b ∧ b ≤ 200) : -200 ≤ mn a b ∧ mn a b ≤ 200 := by unfold mn; omega
def sel (b : Bool) (n : Int) : Int := if b then n else 0
theorem four (a b c d : Bool) : a = false ∨ (a = true ∧ b = false) ∨ (a = true ∧ b = true ∧ c = false) ∨ (a = true ∧ b = true ∧ c = true ∧ d = false) ∨ (a = true ∧ b = true ∧ c = true ∧ d = true) := by
  cases a <;> cases b <;> cases c <;> cases d <;> simp
structure Four (w : World) (b : Nat) (x0 y0 x1 y1 : Int) : Prop where
  c0 : w.cell? ⟨b, 0, none⟩ = some (.int .i64 x0)
  c1 : w.cell? ⟨b, 1, none⟩ = some (.int .i64 y0)
  c2 : w.cell? ⟨b, 2, none⟩ = some (.int .i64 x1)
  c3 : w.cell? ⟨b, 3, none⟩ = some (.int .i64 y1)
  fr : ∀ o, w.frozen? ⟨b, o, none⟩ = false
theorem Four.keep {w w' : World} {b B : Nat} {x0 y0 x1 y1 : Int} (h : Four w b x0 y0 x1 y1) (hb : Below B w w') (hl : b < B) : Four w' b x0 y0 x1 y1 :=
  ⟨(hb.cell (p := ⟨b, 0, none⟩) hl).trans h.c0, (hb.cell (p := ⟨b, 1, none⟩) hl).trans h.c1, (hb.cell (p := ⟨b, 2, none⟩) hl).trans h.c2, (hb.cell (p := ⟨b, 3, none⟩) hl).trans h.c3, fun o => (hb.frozen (p := ⟨b, o, none⟩) hl).trans (h.fr o)⟩
theorem Four.lt {w : World} {b : Nat} {x0 y0 x1 y1 : Int} (h : Four w b x0 y0 x1 y1) : b < w.heap.size := World.block_lt_of_cell? w _ h.c0
theorem Four.alloc {w : World} {b : Nat} {x0 y0 x1 y1 : Int} (h : Four w b x0 y0 x1 y1) (o : Obj) : Four (w.alloc o) b x0 y0 x1 y1 :=
  h.keep ((Below.refl _ _).alloc (Nat.le_refl _) o) h.lt
theorem Four.other {w : World} {b : Nat} {x0 y0 x1 y1 : Int} (h : Four w b x0 y0 x1 y1) {b' : Nat} (hne : b' ≠ b) (o : Nat) (v : Value) : Four (w.setCell ⟨b', o, none⟩ v) b x0 y0 x1 y1 :=
  ⟨(World.cell?_setCell_far _ _ _ _ hne).trans h.c0, (World.cell?_setCell_far _ _ _ _ hne).trans h.c1, (World.cell?_setCell_far _ _ _ _ hne).trans h.c2, (World.cell?_setCell_far _ _ _ _ hne).trans h.c3, fun q => by simp [h.fr q]⟩
theorem Four.set {w : World} {b : Nat} {x0 y0 x1 y1 : Int} (h : Four w b x0 y0 x1 y1) (p q r s : Int) : Four ((((w.setCell ⟨b, 0, none⟩ (.int .i64 p)).setCell ⟨b, 1, none⟩ (.int .i64 q)).setCell ⟨b, 2, none⟩ (.int .i64 r)).setCell ⟨b, 3, none⟩ (.int .i64 s)) b p q r s := by
  obtain ⟨c0, c1, c2, c3, fr⟩ := h
  exact ⟨by go_cell, by go_cell, by go_cell, by go_cell, fun o => by simp [fr]⟩
theorem Four.new (w : World) (T : TypeId) (x0 y0 x1 y1 : Int) : Four (w.alloc (.cells #[.int .i64 x0, .int .i64 y0, .int .i64 x1, .int .i64 y1] T)) w.heap.size x0 y0 x1 y1 :=
  ⟨by simp [go_sem], by simp [go_sem], by simp [go_sem], by simp [go_sem], fun o => by simp [go_sem]⟩
theorem Four.newZero (w : World) (T : TypeId) : ∀ o, o < 4 → (w.alloc (.cells #[.int .i64 0, .int .i64 0, .int .i64 0, .int .i64 0] T)).cell? ⟨w.heap.size, o, none⟩ = some (.int .i64 0) := by
  intro o ho
  have h : o = 0 ∨ o = 1 ∨ o = 2 ∨ o = 3 := by omega
  rcases h with rfl | rfl | rfl | rfl <;> simp [go_sem]
structure Two (w : World) (b : Nat) (x y : Int) : Prop where
  c0 : w.cell? ⟨b, 0, none⟩ = some (.int .i64 x)
  c1 : w.cell? ⟨b, 1, none⟩ = some (.int .i64 y)
  fr : ∀ o, w.frozen? ⟨b, o, none⟩ = false
theorem Two.lt {w : World} {b : Nat} {x y : Int} (h : Two w b x y) : b < w.heap.size := World.block_lt_of_cell? w _ h.c0
theorem Two.new (w : World) (T : TypeId) (x y : Int) : Two (w.alloc (.cells #[.int .i64 x, .int .i64 y] T)) w.heap.size x y := ⟨by simp [go_sem], by simp [go_sem], fun o => by simp [go_sem]⟩
theorem Two.alloc {w : World} {b : Nat} {x y : Int} (h : Two w b x y) (o : Obj) : Two (w.alloc o) b x y := by
  have hl := h.lt
  exact ⟨by rw [World.cell?_of_block (w := w) (Below.heap_alloc _ _ _ hl)]; exact h.c0, by rw [World.cell?_of_block (w := w) (Below.heap_alloc _ _ _ hl)]; exact h.c1, fun q => by rw [World.frozen?_of_block (w := w) (Below.heap_alloc _ _ _ hl)]; exact h.fr q⟩
theorem Two.keep {w w' : World} {b B : Nat} {x y : Int} (h : Two w b x y) (hb : Below B w w') (hl : b < B) : Two w' b x y :=
  ⟨(hb.cell (p := ⟨b, 0, none⟩) hl).trans h.c0, (hb.cell (p := ⟨b, 1, none⟩) hl).trans h.c1, fun o => (hb.frozen (p := ⟨b, o, none⟩) hl).trans (h.fr o)⟩
theorem Four.lay {w : World} {b : Nat} {x0 y0 x1 y1 : Int} (h : Four w b x0 y0 x1 y1) : w.cell? ⟨b, 0, none⟩ = some (.int .i64 x0) ∧ w.cell? ⟨b, 1, none⟩ = some (.int .i64 y0) ∧ w.cell? ⟨b, 2, none⟩ = some (.int .i64 x1) ∧ w.cell? ⟨b, 3, none⟩ = some (.int .i64 y1) ∧ (∀ o, w.frozen? ⟨b, o, none⟩ = false) := ⟨h.c0, h.c1, h.c2, h.c3, h.fr⟩
theorem Four.newAt (w : World) {b : Nat} (T : TypeId) (x0 y0 x1 y1 : Int) (h : w.heap.size = b) : Four (w.alloc (.cells #[.int .i64 x0, .int .i64 y0, .int .i64 x1, .int .i64 y1] T)) b x0 y0 x1 y1 := by
  subst h; exact Four.new w T x0 y0 x1 y1
theorem Two.newAt (w : World) {b : Nat} (T : TypeId) (x y : Int) (h : w.heap.size = b) : Two (w.alloc (.cells #[.int .i64 x, .int .i64 y] T)) b x y := by
  subst h; exact Two.new w T x y
theorem Two.lay {w : World} {b : Nat} {x y : Int} (h : Two w b x y) : w.cell? ⟨b, 0, none⟩ = some (.int .i64 x) ∧ w.cell? ⟨b, 1, none⟩ = some (.int .i64 y) ∧ (∀ o, w.frozen? ⟨b, o, none⟩ = false) := ⟨h.c0, h.c1, h.fr⟩
theorem keepR {w W w' : World} (R : Nat) (hb : Below W.heap.size W w') (h0 : Below w.heap.size w W) : (∀ b o, b < W.heap.size → b ≠ R → w'.cell? ⟨b, o, none⟩ = W.cell? ⟨b, o, none⟩) ∧ Below w.heap.size w w' :=
  ⟨fun b o h _ => hb.cell (p := ⟨b, o, none⟩) h, on_of h0 hb⟩
theorem keepR4 {w W w' : World} {R : Nat} (hb : Below W.heap.size W w') (h0 : Below w.heap.size w W) (hR : w.heap.size ≤ R) (v0 v1 v2 v3 : Value) : (∀ b o, b < W.heap.size → b ≠ R → ((((w'.setCell ⟨R, 0, none⟩ v0).setCell ⟨R, 1, none⟩ v1).setCell ⟨R, 2, none⟩ v2).setCell ⟨R, 3, none⟩ v3).cell? ⟨b, o, none⟩ = W.cell? ⟨b, o, none⟩) ∧ Below w.heap.size w ((((w'.setCell ⟨R, 0, none⟩ v0).setCell ⟨R, 1, none⟩ v1).setCell ⟨R, 2, none⟩ v2).setCell ⟨R, 3, none⟩ v3) := by
  refine ⟨fun b o h hne => ?_, ?_⟩
  · rw [World.cell?_setCell_far _ _ _ _ hne.symm, World.cell?_setCell_far _ _ _ _ hne.symm, World.cell?_setCell_far _ _ _ _ hne.symm, World.cell?_setCell_far _ _ _ _ hne.symm]
    exact hb.cell (p := ⟨b, o, none⟩) h
  · have h1 := on_of h0 hb
    have hs := h1.size
    go_grown
theorem run_make_rowN {P : Program} (t e : TypeId) (i : TypeInfo) (z : Value) (ht : P.underlying t = some (.slice e)) (hi : P.info? e = some i) (hz : i.zero = some z)
    (kl kc : IntKind) (n c : Nat) (hnc : n ≤ c) (hbytes : i.bytes * c ≤ 281474976710656) (h63 : c ≤ 9223372036854775807) (w : World) :
    (Instr.makeSlice t (.int kl (n : Int)) (.int kc (c : Int))).run P w = .ok (.slice (some ⟨w.heap.size, 0, none⟩) n c) (w.alloc (.cells (madeCells z.cells (c * i.size)) e)) := by
  have hb : (i.bytes : Int) * (c : Int) ≤ 281474976710656 := by
    have h : ((i.bytes * c : Nat) : Int) ≤ 281474976710656 := by omega
    rwa [Int.natCast_mul] at h
  have hr := run_make (P := P) w t e i z ht hi hz kl kc n c (by omega) (by omega) hb (by omega)
  simp only [Int.toNat_natCast] at hr
  exact hr
theorem set_same {w : World} {a : Addr} {u : Value} (v : Value) (h : w.cell? a = some u) : (w.setCell a v).cell? a = some v := World.cell?_setCell_same _ _ _ h
theorem set_other {w : World} {G o o' : Nat} (v : Value) (h : o ≠ o') : (w.setCell ⟨G, o, none⟩ v).cell? ⟨G, o', none⟩ = w.cell? ⟨G, o', none⟩ := by
  first | exact World.cell?_setCell_other _ _ _ (by simpa using h) | exact World.cell?_setCell_other _ _ _ _ (by simpa using h)
theorem wf_range {n : Int} (h : (Lit.int .i64 n).wf = true) : -9223372036854775808 ≤ n ∧ n ≤ 9223372036854775807 := by
  simp only [Lit.wf, Bool.and_eq_true, decide_eq_true_eq] at h; exact h
end Go.Proofs.YtbdjnfnphilklaaGreat.Kit
