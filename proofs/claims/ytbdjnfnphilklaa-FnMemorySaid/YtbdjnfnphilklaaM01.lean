/-
  Texts of this seat, laid together: Kit, In8
-/
import Derived.Test.YtbdjnfnphilklaaRows
import Derived.WalkKit
import Derived.ProofKit
import Derived.OpenShut
import Derived.Below
import Derived.Outline
import Derived.RegionTactic
import Derived.Handy
import Derived.Deep.RegionHeld
import Derived.Laws.MakeOwn
import Derived.Laws.Entries
import Derived.Lib.Hide
namespace Go.Proofs.Ytbdjnfnphilklaa.Kit
open Go.ChangeShapes Go.WideShapes Go.ChangeAt Go.RowKit
set_option linter.unusedVariables false
set_option linter.unusedSimpArgs false
set_option linter.unnecessarySimpa false
theorem ret_bool {a b : Bool} (h : a = b) : Ending.returned (.bool a) = .returned (.bool b) := by rw [h]
theorem ret_int {k : IntKind} {a b : Int} (h : a = b) : Ending.returned (.int k a) = .returned (.int k b) := by rw [h]
theorem bcell {W w1 : World} (hb : Below W.heap.size W w1) : (∀ b o, b < W.heap.size → w1.cell? ⟨b, o, none⟩ = W.cell? ⟨b, o, none⟩) ∧ (∀ b o, b < W.heap.size → w1.frozen? ⟨b, o, none⟩ = W.frozen? ⟨b, o, none⟩) :=
  ⟨fun b o h => hb.cell (p := ⟨b, o, none⟩) h, fun b o h => hb.frozen (p := ⟨b, o, none⟩) h⟩
theorem bcell3 {W w1 : World} (hb : Below W.heap.size W w1) : (∀ b o, b < W.heap.size → w1.cell? ⟨b, o, none⟩ = W.cell? ⟨b, o, none⟩) ∧ (∀ b o, b < W.heap.size → w1.frozen? ⟨b, o, none⟩ = W.frozen? ⟨b, o, none⟩) ∧ (∀ b, b < W.heap.size → b < w1.heap.size) :=
  ⟨(bcell hb).1, (bcell hb).2, fun b h => Nat.lt_of_lt_of_le h hb.size⟩
theorem on_of {W w w' : World} (h : Below W.heap.size W w) (k : Below w.heap.size w w') : Below W.heap.size W w' := h.trans (k.mono h.size)
theorem keepS {W w1 : World} (hb : Below W.heap.size W w1) : (∀ b o, b < W.heap.size → w1.cell? ⟨b, o, none⟩ = W.cell? ⟨b, o, none⟩) ∧ Below W.heap.size W w1 := ⟨(bcell hb).1, hb⟩
theorem gen_world {P : Program} {c : Code} {Q : Exit → Act → World → Prop} {a : Act} {w : World} (F : World → Prop) (hF : F w) (h : ∀ W, F W → c.wp P Q a W) : c.wp P Q a w := h w hF
def mx (a b : Int) : Int := max a b
def mn (a b : Int) : Int := min a b
theorem run_mx {P : Program} {w : World} (ts : Array TypeId) (t : TypeId) (k k' : IntKind) (x y : Int) : (Builtin.max_ ts t #[.int k x, .int k' y]).run P w = .ok (.int k (mx x y)) w := by
  rw [run_max_int2]; unfold mx; congr 2; omega
theorem run_mn {P : Program} {w : World} (ts : Array TypeId) (t : TypeId) (k k' : IntKind) (x y : Int) : (Builtin.min_ ts t #[.int k x, .int k' y]).run P w = .ok (.int k (mn x y)) w := by
  rw [run_min_int2]; unfold mn; congr 2; omega
theorem mx_in {a b : Int} (h : -200 ≤ a ∧ a ≤ 200) (k : -200 ≤ b ∧ b ≤ 200) : -200 ≤ mx a b ∧ mx a b ≤ 200 := by unfold mx; omega
theorem mn_in {a b : Int} (h : -200 ≤ a ∧ a ≤ 200) (k : -200 ≤ b ∧ b ≤ 200) : -200 ≤ mn a b ∧ mn a b ≤ 200 := by unfold mn; omega
def sel (b : Bool) (n : Int) : Int := if b then n else 0
theorem four (a b c d : Bool) : a = false ∨ (a = true ∧ b = false) ∨ (a = true ∧ b = true ∧ c = false) ∨ (a = true ∧ b = true ∧ c = true ∧ d = false) ∨ (a = true ∧ b = true ∧ c = true ∧ d = true) := by
  cases a <;> cases b <;> cases c <;> cases d <;> simp
structure Four (w : World) (b : Nat) (x0 y0 x1 y1 : Int) : Prop where
  c0 : w.cell? ⟨b, 0, none⟩ = some (.int .i64 x0)
  c1 : w.cell? ⟨b, 1, none⟩ = some (.int .i64 y0)
  c2 : w.cell? ⟨b, 2, none⟩ = some (.int .i64 x1)
  c3 : w.cell? ⟨b, 3, none⟩ = some (.int .i64 y1)
  fr : ∀ o, w.frozen? ⟨b, o, none⟩ = false
theorem Four.keep {w w' : World} {b B : Nat} {x0 y0 x1 y1 : Int} (h : Four w b x0 y0 x1 y1) (hb : Below B w w') (hl : b < B) : Four w' b x0 y0 x1 y1 :=
  ⟨(hb.cell (p := ⟨b, 0, none⟩) hl).trans h.c0, (hb.cell (p := ⟨b, 1, none⟩) hl).trans h.c1, (hb.cell (p := ⟨b, 2, none⟩) hl).trans h.c2, (hb.cell (p := ⟨b, 3, none⟩) hl).trans h.c3, fun o => (hb.frozen (p := ⟨b, o, none⟩) hl).trans (h.fr o)⟩
theorem Four.lt {w : World} {b : Nat} {x0 y0 x1 y1 : Int} (h : Four w b x0 y0 x1 y1) : b < w.heap.size := World.block_lt_of_cell? w _ h.c0
theorem Four.alloc {w : World} {b : Nat} {x0 y0 x1 y1 : Int} (h : Four w b x0 y0 x1 y1) (o : Obj) : Four (w.alloc o) b x0 y0 x1 y1 :=
  h.keep ((Below.refl _ _).alloc (Nat.le_refl _) o) h.lt
theorem Four.other {w : World} {b : Nat} {x0 y0 x1 y1 : Int} (h : Four w b x0 y0 x1 y1) {b' : Nat} (hne : b' ≠ b) (o : Nat) (v : Value) : Four (w.setCell ⟨b', o, none⟩ v) b x0 y0 x1 y1 :=
  ⟨(World.cell?_setCell_far _ _ _ _ hne).trans h.c0, (World.cell?_setCell_far _ _ _ _ hne).trans h.c1, (World.cell?_setCell_far _ _ _ _ hne).trans h.c2, (World.cell?_setCell_far _ _ _ _ hne).trans h.c3, fun q => by simp [h.fr q]⟩
theorem Four.set {w : World} {b : Nat} {x0 y0 x1 y1 : Int} (h : Four w b x0 y0 x1 y1) (p q r s : Int) : Four ((((w.setCell ⟨b, 0, none⟩ (.int .i64 p)).setCell ⟨b, 1, none⟩ (.int .i64 q)).setCell ⟨b, 2, none⟩ (.int .i64 r)).setCell ⟨b, 3, none⟩ (.int .i64 s)) b p q r s := by
  obtain ⟨c0, c1, c2, c3, fr⟩ := h
  exact ⟨by go_cell, by go_cell, by go_cell, by go_cell, fun o => by simp [fr]⟩
theorem Four.new (w : World) (T : TypeId) (x0 y0 x1 y1 : Int) : Four (w.alloc (.cells #[.int .i64 x0, .int .i64 y0, .int .i64 x1, .int .i64 y1] T)) w.heap.size x0 y0 x1 y1 :=
  ⟨by simp [go_sem], by simp [go_sem], by simp [go_sem], by simp [go_sem], fun o => by simp [go_sem]⟩
theorem Four.newZero (w : World) (T : TypeId) : ∀ o, o < 4 → (w.alloc (.cells #[.int .i64 0, .int .i64 0, .int .i64 0, .int .i64 0] T)).cell? ⟨w.heap.size, o, none⟩ = some (.int .i64 0) := by
  intro o ho
  have h : o = 0 ∨ o = 1 ∨ o = 2 ∨ o = 3 := by omega
  rcases h with rfl | rfl | rfl | rfl <;> simp [go_sem]
structure Two (w : World) (b : Nat) (x y : Int) : Prop where
  c0 : w.cell? ⟨b, 0, none⟩ = some (.int .i64 x)
  c1 : w.cell? ⟨b, 1, none⟩ = some (.int .i64 y)
  fr : ∀ o, w.frozen? ⟨b, o, none⟩ = false
theorem Two.lt {w : World} {b : Nat} {x y : Int} (h : Two w b x y) : b < w.heap.size := World.block_lt_of_cell? w _ h.c0
theorem Two.new (w : World) (T : TypeId) (x y : Int) : Two (w.alloc (.cells #[.int .i64 x, .int .i64 y] T)) w.heap.size x y := ⟨by simp [go_sem], by simp [go_sem], fun o => by simp [go_sem]⟩
theorem Two.alloc {w : World} {b : Nat} {x y : Int} (h : Two w b x y) (o : Obj) : Two (w.alloc o) b x y := by
  have hl := h.lt
  exact ⟨by rw [World.cell?_of_block (w := w) (Below.heap_alloc _ _ _ hl)]; exact h.c0, by rw [World.cell?_of_block (w := w) (Below.heap_alloc _ _ _ hl)]; exact h.c1, fun q => by rw [World.frozen?_of_block (w := w) (Below.heap_alloc _ _ _ hl)]; exact h.fr q⟩
theorem Two.keep {w w' : World} {b B : Nat} {x y : Int} (h : Two w b x y) (hb : Below B w w') (hl : b < B) : Two w' b x y :=
  ⟨(hb.cell (p := ⟨b, 0, none⟩) hl).trans h.c0, (hb.cell (p := ⟨b, 1, none⟩) hl).trans h.c1, fun o => (hb.frozen (p := ⟨b, o, none⟩) hl).trans (h.fr o)⟩
theorem Four.lay {w : World} {b : Nat} {x0 y0 x1 y1 : Int} (h : Four w b x0 y0 x1 y1) : w.cell? ⟨b, 0, none⟩ = some (.int .i64 x0) ∧ w.cell? ⟨b, 1, none⟩ = some (.int .i64 y0) ∧ w.cell? ⟨b, 2, none⟩ = some (.int .i64 x1) ∧ w.cell? ⟨b, 3, none⟩ = some (.int .i64 y1) ∧ (∀ o, w.frozen? ⟨b, o, none⟩ = false) := ⟨h.c0, h.c1, h.c2, h.c3, h.fr⟩
theorem Four.newAt (w : World) {b : Nat} (T : TypeId) (x0 y0 x1 y1 : Int) (h : w.heap.size = b) : Four (w.alloc (.cells #[.int .i64 x0, .int .i64 y0, .int .i64 x1, .int .i64 y1] T)) b x0 y0 x1 y1 := by
  subst h; exact Four.new w T x0 y0 x1 y1
theorem Two.newAt (w : World) {b : Nat} (T : TypeId) (x y : Int) (h : w.heap.size = b) : Two (w.alloc (.cells #[.int .i64 x, .int .i64 y] T)) b x y := by
  subst h; exact Two.new w T x y
theorem Two.lay {w : World} {b : Nat} {x y : Int} (h : Two w b x y) : w.cell? ⟨b, 0, none⟩ = some (.int .i64 x) ∧ w.cell? ⟨b, 1, none⟩ = some (.int .i64 y) ∧ (∀ o, w.frozen? ⟨b, o, none⟩ = false) := ⟨h.c0, h.c1, h.fr⟩
theorem keepR {w W w' : World} (R : Nat) (hb : Below W.heap.size W w') (h0 : Below w.heap.size w W) : (∀ b o, b < W.heap.size → b ≠ R → w'.cell? ⟨b, o, none⟩ = W.cell? ⟨b, o, none⟩) ∧ Below w.heap.size w w' :=
  ⟨fun b o h _ => hb.cell (p := ⟨b, o, none⟩) h, on_of h0 hb⟩
theorem keepR4 {w W w' : World} {R : Nat} (hb : Below W.heap.size W w') (h0 : Below w.heap.size w W) (hR : w.heap.size ≤ R) (v0 v1 v2 v3 : Value) : (∀ b o, b < W.heap.size → b ≠ R → ((((w'.setCell ⟨R, 0, none⟩ v0).setCell ⟨R, 1, none⟩ v1).setCell ⟨R, 2, none⟩ v2).setCell ⟨R, 3, none⟩ v3).cell? ⟨b, o, none⟩ = W.cell? ⟨b, o, none⟩) ∧ Below w.heap.size w ((((w'.setCell ⟨R, 0, none⟩ v0).setCell ⟨R, 1, none⟩ v1).setCell ⟨R, 2, none⟩ v2).setCell ⟨R, 3, none⟩ v3) := by
  refine ⟨fun b o h hne => ?_, ?_⟩
  · rw [World.cell?_setCell_far _ _ _ _ hne.symm, World.cell?_setCell_far _ _ _ _ hne.symm, World.cell?_setCell_far _ _ _ _ hne.symm, World.cell?_setCell_far _ _ _ _ hne.symm]
    exact hb.cell (p := ⟨b, o, none⟩) h
  · have h1 := on_of h0 hb
    have hs := h1.size
    go_grown
theorem run_make_rowN {P : Program} (t e : TypeId) (i : TypeInfo) (z : Value) (ht : P.underlying t = some (.slice e)) (hi : P.info? e = some i) (hz : i.zero = some z)
    (kl kc : IntKind) (n c : Nat) (hnc : n ≤ c) (hbytes : i.bytes * c ≤ 281474976710656) (h63 : c ≤ 9223372036854775807) (w : World) :
    (Instr.makeSlice t (.int kl (n : Int)) (.int kc (c : Int))).run P w = .ok (.slice (some ⟨w.heap.size, 0, none⟩) n c) (w.alloc (.cells (madeCells z.cells (c * i.size)) e)) := by
  have hb : (i.bytes : Int) * (c : Int) ≤ 281474976710656 := by
    have h : ((i.bytes * c : Nat) : Int) ≤ 281474976710656 := by omega
    rwa [Int.natCast_mul] at h
  have hr := run_make (P := P) w t e i z ht hi hz kl kc n c (by omega) (by omega) hb (by omega)
  simp only [Int.toNat_natCast] at hr
  exact hr
theorem set_same {w : World} {a : Addr} {u : Value} (v : Value) (h : w.cell? a = some u) : (w.setCell a v).cell? a = some v := World.cell?_setCell_same _ _ _ h
theorem set_other {w : World} {G o o' : Nat} (v : Value) (h : o ≠ o') : (w.setCell ⟨G, o, none⟩ v).cell? ⟨G, o', none⟩ = w.cell? ⟨G, o', none⟩ := by
  first | exact World.cell?_setCell_other _ _ _ (by simpa using h) | exact World.cell?_setCell_other _ _ _ _ (by simpa using h)
theorem wf_range {n : Int} (h : (Lit.int .i64 n).wf = true) : -9223372036854775808 ≤ n ∧ n ≤ 9223372036854775807 := by
  simp only [Lit.wf, Bool.and_eq_true, decide_eq_true_eq] at h; exact h
end Go.Proofs.Ytbdjnfnphilklaa.Kit
namespace Go.Proofs.Ytbdjnfnphilklaa.Ins
set_option linter.unusedVariables false
set_option linter.unusedSimpArgs false
set_option linter.unnecessarySimpa false
abbrev Pt := Int × Int
def crs (a b : Pt) (x y : Int) : Bool :=
  if decide (2 * y + 1 < 2 * a.2) == decide (2 * y + 1 < 2 * b.2) then false
  else if b.2 < a.2 then decide ((2 * x + 1 - 2 * b.1) * 2 * (a.2 - b.2) < (2 * y + 1 - 2 * b.2) * 2 * (a.1 - b.1))
  else decide ((2 * x + 1 - 2 * a.1) * 2 * (b.2 - a.2) < (2 * y + 1 - 2 * a.2) * 2 * (b.1 - a.1))
theorem crs_comm (a b : Pt) (x y : Int) : crs b a x y = crs a b x y := by
  unfold crs
  by_cases h : (decide (2 * y + 1 < 2 * a.2) == decide (2 * y + 1 < 2 * b.2)) = true
  · have h' : (decide (2 * y + 1 < 2 * b.2) == decide (2 * y + 1 < 2 * a.2)) = true := by simp only [beq_iff_eq] at *; exact h.symm
    rw [if_pos h, if_pos h']
  · have h' : ¬ (decide (2 * y + 1 < 2 * b.2) == decide (2 * y + 1 < 2 * a.2)) = true := by simp only [beq_iff_eq] at *; exact fun e => h e.symm
    rw [if_neg h, if_neg h']
    have hne : a.2 ≠ b.2 := fun e => h (by rw [e]; simp)
    by_cases hl : b.2 < a.2
    · rw [if_pos hl, if_neg (by omega)]
    · rw [if_neg hl, if_pos (by omega)]
def mv (d : Pt) (p : Pt) : Pt := (p.1 + d.1, p.2 + d.2)
theorem crs_mv (d a b : Pt) (x y : Int) : crs (mv d a) (mv d b) (x + d.1) (y + d.2) = crs a b x y := by
  unfold crs mv
  have e1 : decide (2 * (y + d.2) + 1 < 2 * (a.2 + d.2)) = decide (2 * y + 1 < 2 * a.2) := by congr 1; apply propext; omega
  have e2 : decide (2 * (y + d.2) + 1 < 2 * (b.2 + d.2)) = decide (2 * y + 1 < 2 * b.2) := by congr 1; apply propext; omega
  have e3 : (b.2 + d.2 < a.2 + d.2) = (b.2 < a.2) := by apply propext; omega
  simp only [e1, e2, e3]
  rw [show 2 * (x + d.1) + 1 - 2 * (b.1 + d.1) = 2 * x + 1 - 2 * b.1 by omega, show 2 * (x + d.1) + 1 - 2 * (a.1 + d.1) = 2 * x + 1 - 2 * a.1 by omega,
    show a.2 + d.2 - (b.2 + d.2) = a.2 - b.2 by omega, show b.2 + d.2 - (a.2 + d.2) = b.2 - a.2 by omega,
    show 2 * (y + d.2) + 1 - 2 * (b.2 + d.2) = 2 * y + 1 - 2 * b.2 by omega, show 2 * (y + d.2) + 1 - 2 * (a.2 + d.2) = 2 * y + 1 - 2 * a.2 by omega,
    show a.1 + d.1 - (b.1 + d.1) = a.1 - b.1 by omega, show b.1 + d.1 - (a.1 + d.1) = b.1 - a.1 by omega]
def crA (a b : Pt) : Int := a.1 * b.2 - b.1 * a.2
theorem crA_comm (a b : Pt) : crA b a = -crA a b := by unfold crA; omega
theorem crA_mv (d a b : Pt) : crA (mv d a) (mv d b) = crA a b + (d.1 * b.2 - d.2 * b.1) - (d.1 * a.2 - d.2 * a.1) := by
  unfold crA mv
  simp only [Int.add_mul, Int.mul_add]
  have e1 := Int.mul_comm a.1 d.2
  have e2 := Int.mul_comm b.1 d.2
  have e3 := Int.mul_comm d.1 d.2
  omega
def cp : List Pt → List (Pt × Pt)
  | [] => []
  | [_] => []
  | a :: b :: r => (a, b) :: cp (b :: r)
def sides : List Pt → List (Pt × Pt)
  | [] => []
  | h :: t => cp ((h :: t) ++ [h])
theorem cp_snoc : ∀ (l : List Pt) (a b : Pt), cp (l ++ [a, b]) = cp (l ++ [a]) ++ [(a, b)]
  | [], a, b => rfl
  | [x], a, b => rfl
  | x :: y :: r, a, b => by
    have := cp_snoc (y :: r) a b
    simp only [List.cons_append, cp] at this ⊢
    rw [this]
theorem cp_app : ∀ (l : List Pt) (a : Pt) (r : List Pt), cp (l ++ a :: r) = cp (l ++ [a]) ++ cp (a :: r)
  | [], a, r => rfl
  | [x], a, r => rfl
  | x :: y :: l, a, r => by
    have := cp_app (y :: l) a r
    simp only [List.cons_append, cp] at this ⊢
    rw [this]
theorem cp_rev : ∀ l : List Pt, cp l.reverse = ((cp l).map fun s => (s.2, s.1)).reverse
  | [] => rfl
  | [x] => rfl
  | x :: y :: r => by
    have h := cp_rev (y :: r)
    rw [List.reverse_cons] at h
    rw [List.reverse_cons, List.reverse_cons, List.append_assoc, List.singleton_append, cp_snoc, h]
    simp [cp]
theorem sides_turn (h : Pt) (t : List Pt) : (sides (t ++ [h])).Perm (sides (h :: t)) := by
  cases t with
  | nil => exact List.Perm.refl _
  | cons a r =>
    have e1 : sides ((a :: r) ++ [h]) = cp (a :: (r ++ [h])) ++ [(h, a)] := by
      show cp ((a :: (r ++ [h])) ++ [a]) = _
      have := cp_snoc (a :: r) h a
      simpa using this
    have e2 : sides (h :: a :: r) = (h, a) :: cp (a :: (r ++ [h])) := rfl
    rw [e1, e2]
    exact List.perm_append_comm.trans (by simp)
theorem sides_rev (l : List Pt) : (sides l.reverse).Perm ((sides l).map fun s => (s.2, s.1)) := by
  cases l with
  | nil => exact List.Perm.refl _
  | cons h t =>
    rw [List.reverse_cons]
    refine (sides_turn h t.reverse).trans ?_
    have e : sides (h :: t.reverse) = cp ((h :: t) ++ [h]).reverse := by
      show cp (h :: t.reverse ++ [h]) = _
      simp
    rw [e, cp_rev]
    exact List.reverse_perm _
theorem cp_mv (d : Pt) : ∀ l : List Pt, cp (l.map (mv d)) = (cp l).map fun s => (mv d s.1, mv d s.2)
  | [] => rfl
  | [x] => rfl
  | x :: y :: r => by
    have := cp_mv d (y :: r)
    simp only [List.map_cons, cp] at this ⊢
    rw [this]
theorem sides_mv (d : Pt) (l : List Pt) : sides (l.map (mv d)) = (sides l).map fun s => (mv d s.1, mv d s.2) := by
  cases l with
  | nil => rfl
  | cons h t =>
    have := cp_mv d ((h :: t) ++ [h])
    simpa [sides] using this
def odd : List Bool → Bool
  | [] => false
  | b :: r => b != odd r
theorem odd_app : ∀ a b : List Bool, odd (a ++ b) = (odd a != odd b)
  | [], b => by simp [odd]
  | x :: r, b => by simp only [List.cons_append, odd, odd_app r b]; cases x <;> cases odd r <;> cases odd b <;> rfl
theorem odd_snoc (l : List Bool) (b : Bool) : odd (l ++ [b]) = (odd l != b) := by rw [odd_app]; simp [odd]
theorem odd_perm {a b : List Bool} (h : a.Perm b) : odd a = odd b := by
  induction h with
  | nil => rfl
  | cons x _ ih => simp only [odd, ih]
  | swap x y l => simp only [odd]; cases x <;> cases y <;> cases odd l <;> rfl
  | trans _ _ i j => exact i.trans j
def insP (l : List Pt) (x y : Int) : Bool := odd ((sides l).map fun s => crs s.1 s.2 x y)
theorem insP_rev (l : List Pt) (x y : Int) : insP l.reverse x y = insP l x y := by
  unfold insP
  rw [odd_perm ((sides_rev l).map _), List.map_map]
  congr 1
  exact List.map_congr_left fun s _ => crs_comm s.1 s.2 x y
theorem insP_mv (d : Pt) (l : List Pt) (x y : Int) : insP (l.map (mv d)) (x + d.1) (y + d.2) = insP l x y := by
  unfold insP
  rw [sides_mv, List.map_map]
  congr 1
  exact List.map_congr_left fun s _ => crs_mv d s.1 s.2 x y
def arP (l : List Pt) : Int := ((sides l).map fun s => crA s.1 s.2).sum
theorem sum_perm {a b : List Int} (h : a.Perm b) : a.sum = b.sum := by
  induction h with
  | nil => rfl
  | cons x _ ih => simp only [List.sum_cons, ih]
  | swap x y l => simp only [List.sum_cons]; omega
  | trans _ _ i j => exact i.trans j
theorem sum_neg : ∀ l : List Int, (l.map fun x => -x).sum = -l.sum
  | [] => rfl
  | x :: r => by have := sum_neg r; simp only [List.map_cons, List.sum_cons, this]; omega
theorem arP_rev (l : List Pt) : arP l.reverse = -arP l := by
  unfold arP
  rw [sum_perm ((sides_rev l).map _), List.map_map, ← sum_neg, List.map_map]
  congr 1
  exact List.map_congr_left fun s _ => crA_comm s.1 s.2
theorem cp_tele (f : Pt → Int) : ∀ (l : List Pt) (a b : Pt), ((cp (a :: (l ++ [b]))).map fun s => f s.2 - f s.1).sum = f b - f a
  | [], a, b => by simp [cp]
  | x :: r, a, b => by
    have := cp_tele f r x b
    simp only [List.cons_append, cp, List.map_cons, List.sum_cons, this]
    omega
theorem sides_tele (f : Pt → Int) (l : List Pt) : ((sides l).map fun s => f s.2 - f s.1).sum = 0 := by
  cases l with
  | nil => rfl
  | cons h t =>
    have := cp_tele f t h h
    show ((cp (h :: (t ++ [h]))).map _).sum = 0
    rw [this]; omega
theorem sum_add {α : Type} (f g : α → Int) : ∀ l : List α, (l.map fun x => f x + g x).sum = (l.map f).sum + (l.map g).sum
  | [] => rfl
  | x :: r => by have := sum_add f g r; simp only [List.map_cons, List.sum_cons, this]; omega
theorem arP_mv (d : Pt) (l : List Pt) : arP (l.map (mv d)) = arP l := by
  unfold arP
  rw [sides_mv, List.map_map]
  have e : (sides l).map ((fun s : Pt × Pt => crA s.1 s.2) ∘ fun s => (mv d s.1, mv d s.2)) = (sides l).map (fun s => crA s.1 s.2 + ((d.1 * s.2.2 - d.2 * s.2.1) - (d.1 * s.1.2 - d.2 * s.1.1))) := by
    refine List.map_congr_left fun s _ => ?_
    show crA (mv d s.1) (mv d s.2) = _
    rw [crA_mv]; omega
  rw [e, sum_add (fun s : Pt × Pt => crA s.1 s.2) (fun s => (d.1 * s.2.2 - d.2 * s.2.1) - (d.1 * s.1.2 - d.2 * s.1.1)), sides_tele (fun p => d.1 * p.2 - d.2 * p.1) l]
  omega
theorem cp_len : ∀ (a : Pt) (l : List Pt), (cp (a :: l)).length = l.length
  | a, [] => rfl
  | a, b :: r => by rw [cp, List.length_cons, cp_len b r, List.length_cons]
theorem cp_get : ∀ (l : List Pt) (k : Nat) (h : k + 1 < l.length), (cp l)[k]? = some (l[k], l[k + 1])
  | a :: b :: r, 0, h => rfl
  | a :: b :: r, k + 1, h => by
    have := cp_get (b :: r) k (by simpa using h)
    simpa [cp] using this
theorem sides_len (l : List Pt) : (sides l).length = l.length := by
  cases l with
  | nil => rfl
  | cons h t => show (cp (h :: (t ++ [h]))).length = _; rw [cp_len]; simp
theorem sides_get (l : List Pt) (k : Nat) (h : k < l.length) : (sides l)[k]? = some (l[k], l[(k + 1) % l.length]'(Nat.mod_lt _ (by omega))) := by
  cases l with
  | nil => simp at h
  | cons a t =>
    have hl : (a :: t).length = t.length + 1 := rfl
    have h1 := cp_get ((a :: t) ++ [a]) k (by simp; omega)
    show (cp ((a :: t) ++ [a]))[k]? = _
    rw [h1]
    have e1 : ((a :: t) ++ [a])[k]'(by simp; omega) = (a :: t)[k] := List.getElem_append_left h
    by_cases hk : k + 1 < (a :: t).length
    · have e2 : ((a :: t) ++ [a])[k + 1]'(by simp; omega) = (a :: t)[k + 1] := List.getElem_append_left hk
      rw [e1, e2]
      congr 2
      exact (getElem_congr_idx (Nat.mod_eq_of_lt hk)).symm
    · have hk2 : k + 1 = (a :: t).length := by omega
      have e2 : ((a :: t) ++ [a])[k + 1]'(by simp; omega) = a := by
        rw [List.getElem_append_right (by omega)]; simp [hk2]
      rw [e1, e2]
      congr 2
      have : (k + 1) % (a :: t).length = 0 := by rw [hk2]; exact Nat.mod_self _
      have e3 : ∀ i (hi : i < (a :: t).length), i = 0 → (a :: t)[i] = a := by intro i hi h; subst h; rfl
      exact (e3 _ _ this).symm
end Go.Proofs.Ytbdjnfnphilklaa.Ins
