/-
  Texts of this seat, laid together: Dt9, Is9, Mm9, As9, As9b, Lw9, ClB, MkO
-/
import Derived.Laws.BitsLemmas
import Derived.WalkKit
import Derived.Deep.DeepCutAuto
import Derived.Deep.QuietTactic
import Derived.BigQuiet
import Derived.Deep.RegionHeld3
import Derived.Handy
import Derived.Test.YtkabofbbioaapaaP12
import Derived.Test.YtkabofbbioaapaaP26
import Derived.Test.YtkabofbbioaapaaP06
import Derived.Test.YtkabofbbioaapaaP25
import Derived.Test.YtkabofbbioaapaaP23
import Derived.Test.YtkabofbbioaapaaP04
import Derived.Test.YtkabofbbioaapaaP09
import Derived.Test.YtkabofbbioaapaaP16
import Derived.Test.YtkabofbbioaapaaP29
import Derived.Test.YtkabofbbioaapaaP15
namespace Go.Proofs.Ytkabofbbioaapaa.Ins
open Go.ChangeShapes Go.WideShapes Go.ChangeAt Go.RowKit
open Kit Point
set_option linter.unusedVariables false
set_option linter.unusedSimpArgs false
set_option linter.unnecessarySimpa false
def dtK (l : List Pt) : Nat → Int
  | 0 => 0
  | k + 1 => IntKind.i64.wrap (dtK l k + IntKind.i64.wrap (pY l k - pX l k))
def dtV (l : List Pt) : Int := if spB l then dtK l l.length else 0
theorem wrap_in (x y : Int) : IntKind.i64.wrap (x + IntKind.i64.wrap y) = IntKind.i64.wrap (x + y) := by
  simp only [IntKind.wrap_i64]; omega
theorem wrap_in2 (x y z : Int) : IntKind.i64.wrap (IntKind.i64.wrap (x + y) - z) = IntKind.i64.wrap (x + IntKind.i64.wrap (y - z)) := by
  simp only [IntKind.wrap_i64]; omega
theorem dt_bad {l : List Pt} (h : spB l = false) : dtV l = 0 := by simp [dtV, h]
theorem dt_good {l : List Pt} (h : spB l = true) : dtV l = dtK l l.length := by simp [dtV, h]
end Go.Proofs.Ytkabofbbioaapaa.Ins
namespace Go.Proofs.Ytkabofbbioaapaa.Ins
open Go.ChangeShapes Go.WideShapes Go.ChangeAt Go.RowKit Go.Shelf
open Kit Point
set_option linter.unusedVariables false
set_option linter.unusedSimpArgs false
set_option linter.unnecessarySimpa false
def encP (p : Pt) : List Value := [.int .i64 p.1, .int .i64 p.2]
end Go.Proofs.Ytkabofbbioaapaa.Ins
namespace Go.Proofs.Ytkabofbbioaapaa.Ins
open Go.ChangeShapes Go.WideShapes Go.ChangeAt Go.RowKit
open Kit Point
set_option linter.unusedVariables false
set_option linter.unusedSimpArgs false
set_option linter.unnecessarySimpa false
attribute [local go_sem ↓] run_mx run_mn
theorem sp_made (w w' : World) (h : Below w.heap.size w w') : SpIs w [] (.returned (.slice (some ⟨w'.heap.size, 0, none⟩) 0 0)) (w'.alloc (.cells #[] 89)) :=
  ⟨_, rfl, World.ownsRow_made w' #[] (e := 89) (size := 2) 0 h.size (by decide) (by simp), h.alloc h.size _⟩
end Go.Proofs.Ytkabofbbioaapaa.Ins
namespace Go.Proofs.Ytkabofbbioaapaa.Ins
open Go.ChangeShapes Go.WideShapes Go.ChangeAt Go.RowKit
open Kit Point
set_option linter.unusedVariables false
set_option linter.unusedSimpArgs false
set_option linter.unnecessarySimpa false
theorem scn_len (f : Int → Bool) (x0 : Int) : ∀ k : Nat, (scn f x0 k).out.length ≤ k
  | 0 => Nat.le_refl _
  | k + 1 => by
    have := scn_len f x0 k
    show ((scn f x0 k).step f (x0 + (k : Int))).out.length ≤ k + 1
    unfold Scn.step
    dsimp only
    split
    · simp; omega
    · omega
theorem acc_mn (X : Nat → Int) : ∀ n k, k < n → Pts.acc mn X n ≤ X k
  | 0, k, h => by omega
  | n + 1, k, h => by
    show min (Pts.acc mn X n) (X n) ≤ X k
    by_cases e : k = n
    · subst e; omega
    · have := acc_mn X n k (by omega); omega
theorem acc_mx (X : Nat → Int) : ∀ n k, k < n → X k ≤ Pts.acc mx X n
  | 0, k, h => by omega
  | n + 1, k, h => by
    show X k ≤ max (Pts.acc mx X n) (X n)
    by_cases e : k = n
    · subst e; omega
    · have := acc_mx X n k (by omega); omega
theorem acc_lo {X : Nat → Int} {A : Int} : ∀ n, (∀ k, k < n + 1 → A ≤ X k) → A ≤ Pts.acc mn X n
  | 0, h => h 0 (by omega)
  | n + 1, h => by
    have := acc_lo n (fun k hk => h k (by omega))
    have := h n (by omega)
    show A ≤ min (Pts.acc mn X n) (X n)
    omega
theorem acc_hi {X : Nat → Int} {A : Int} : ∀ n, (∀ k, k < n + 1 → X k ≤ A) → Pts.acc mx X n ≤ A
  | 0, h => h 0 (by omega)
  | n + 1, h => by
    have := acc_hi n (fun k hk => h k (by omega))
    have := h n (by omega)
    show max (Pts.acc mx X n) (X n) ≤ A
    omega
theorem box_at (w : World) (a : Option Addr) (c : Nat) (l : List Pt) (hn : l.length ≤ 1048576) (h : PathAt w a l) (hok : ptsB l = true) :
    ∃ x0 y0 x1 y1 : Int, (-200 ≤ x0 ∧ x0 ≤ x1 ∧ x1 ≤ 200) ∧ (∀ k, k < l.length → x0 ≤ pX l k ∧ pX l k ≤ x1) ∧
    Calls Try.prog 69 #[.slice a l.length c] w fun e w' => e = .returned (.agg #[.int .i64 x0, .int .i64 y0, .int .i64 x1, .int .i64 y1]) ∧ Below w.heap.size w w' := by
  rcases h with rfl | ⟨g, rfl, hg, hc⟩
  · refine ⟨0, 0, 0, 0, by omega, fun k hk => by simp at hk, ?_⟩
    go_enter Try.func69, Try.ntmps69
    go_wp2
    go_rounds 1
    refine bodyPost_ret (by simp [results, Try.results69, go_sem, *]; try rfl) rfl ?_
    exact ⟨rfl, by go_grown⟩
  · by_cases h0 : l.length = 0
    · refine ⟨0, 0, 0, 0, by omega, fun k hk => by omega, ?_⟩
      rw [h0]
      go_enter Try.func69, Try.ntmps69
      go_wp2
      go_rounds 1
      refine bodyPost_ret (by simp [results, Try.results69, go_sem, *]; try rfl) rfl ?_
      exact ⟨rfl, by go_grown⟩
    · have hp : Pts.PtsAt w g l.length (pX l) (pY l) := hc
      have hb := Pts.boxof_spec g l.length c (pX l) (pY l) w hn hg hp
      have hokB : Pts.okB (pX l) (pY l) l.length = true := Pts.okB_good fun i hi => ptsB_at hok hi
      have hval : Pts.boxofV (pX l) (pY l) l.length = .agg #[.int .i64 (Pts.acc mn (pX l) l.length), .int .i64 (Pts.acc mn (pY l) l.length), .int .i64 (Pts.acc mx (pX l) l.length), .int .i64 (Pts.acc mx (pY l) l.length)] := by
        simp [Pts.boxofV, sel, hokB, show 0 < l.length by omega]
      rw [hval] at hb
      have hr : ∀ k, k < l.length → -200 ≤ pX l k ∧ pX l k ≤ 200 := fun k hk => by
        have := ptsB_at hok hk
        simp only [pokB, Bool.and_eq_true] at this
        exact inB_true this.1
      have h1 := acc_mn (pX l) l.length 0 (by omega)
      have h2 := acc_mx (pX l) l.length 0 (by omega)
      obtain ⟨m, hm⟩ : ∃ m, l.length = m + 1 := ⟨l.length - 1, by omega⟩
      have e1 : -200 ≤ Pts.acc mn (pX l) l.length := by
        rw [hm]; show -200 ≤ min (Pts.acc mn (pX l) m) (pX l m)
        have := acc_lo (X := pX l) (A := -200) m (fun k hk => (hr k (by omega)).1)
        have := (hr m (by omega)).1
        omega
      have e2 : Pts.acc mx (pX l) l.length ≤ 200 := by
        rw [hm]; show max (Pts.acc mx (pX l) m) (pX l m) ≤ 200
        have := acc_hi (X := pX l) (A := 200) m (fun k hk => (hr k (by omega)).2)
        have := (hr m (by omega)).2
        omega
      exact ⟨_, _, _, _, ⟨e1, by omega, e2⟩, fun k hk => ⟨acc_mn (pX l) _ k hk, acc_mx (pX l) _ k hk⟩, hb⟩
end Go.Proofs.Ytkabofbbioaapaa.Ins
namespace Go.Proofs.Ytkabofbbioaapaa.Ins
open Go.ChangeShapes Go.WideShapes Go.ChangeAt Go.RowKit
open Kit Point
set_option linter.unusedVariables false
set_option linter.unusedSimpArgs false
set_option linter.unnecessarySimpa false
def BoxIn (w : World) (B : Nat) (x0 y0 x1 y1 : Int) : Prop := w.heap[B]? = some (.cells #[.int .i64 x0, .int .i64 y0, .int .i64 x1, .int .i64 y1] 26 (0, 0))
theorem BoxIn.lt {w : World} {B : Nat} {x0 y0 x1 y1 : Int} (h : BoxIn w B x0 y0 x1 y1) : B < w.heap.size := (Array.getElem?_eq_some_iff.1 h).1
theorem BoxIn.lay {w : World} {B : Nat} {x0 y0 x1 y1 : Int} (h : BoxIn w B x0 y0 x1 y1) : w.cell? ⟨B, 2, none⟩ = some (.int .i64 x1) := by simp [World.cell?, show w.heap[B]? = _ from h]
theorem BoxIn.keep {w w' : World} {B : Nat} {x0 y0 x1 y1 : Int} (h : BoxIn w B x0 y0 x1 y1) (hb : Below w.heap.size w w') : BoxIn w' B x0 y0 x1 y1 := (hb.block B h.lt).trans h
theorem BoxIn.app {W w3 : World} {B n0 k : Nat} {x0 y0 x1 y1 : Int} {v : Value} {xs : List Value} {tmp : Obj} (h : BoxIn W B x0 y0 x1 y1) (hown : W.ownsRow n0 89 2 v k xs) (hg : (W.alloc tmp).grownBy w3 v.ownBlock) : BoxIn w3 B x0 y0 x1 y1 := by
  refine (hg.block B (by rw [World.size_alloc]; have := h.lt; omega) fun e => ?_).trans ((Below.heap_alloc _ _ _ h.lt).trans h)
  rcases hown.2 with ⟨rfl, _⟩ | ⟨g, cap, cur, rfl, _, hgb, _⟩
  · simp [Value.ownBlock] at e
  · obtain rfl : B = g := by simpa [Value.ownBlock] using e
    rw [show W.heap[B]? = _ from h] at hgb
    simp at hgb
theorem step_at {f : Int → Bool} {x : Int} {r : Bool} (out : List Pt) (on : Bool) (fr : Int) (h : f x = r) : Scn.step f ⟨out, on, fr⟩ x = ⟨if r = false ∧ on = true then out ++ [(fr, x)] else out, r, if r = true ∧ on = false then x else fr⟩ := by subst h; rfl
theorem sps_bad {l : List Pt} {y : Int} (h : (pathB l && inB y) = false) : spsV l y = [] := by unfold spsV; rw [h]; rfl
end Go.Proofs.Ytkabofbbioaapaa.Ins
namespace Go.Proofs.Ytkabofbbioaapaa.Ins
open Go.ChangeShapes Go.WideShapes Go.ChangeAt Go.RowKit
open Kit Point Slabs Recs
set_option linter.unusedVariables false
set_option linter.unusedSimpArgs false
set_option linter.unnecessarySimpa false
theorem recs_keep9 {w w' : World} {a : Option Addr} {n c : Nat} {z : Nat → Nat → Value} (h : IsRecs Spans.kl w a n c z) (hb : Below w.heap.size w w') : IsRecs Spans.kl w' a n c z := by
  obtain ⟨h1, h2, h3⟩ := h
  refine ⟨h1, h2, ?_⟩
  rcases h3 with h3 | ⟨g, o, ha, hg, h4⟩
  · exact .inl h3
  · exact .inr ⟨g, o, ha, Nat.lt_of_lt_of_le hg hb.size, fun i hi j kd hk => ⟨(hb.cell (p := ⟨g, _, none⟩) hg).trans (h4 i hi j kd hk).1, (h4 i hi j kd hk).2⟩⟩
theorem slab_path9 {w : World} {B n : Nat} {v : Value} {z : Nat → Nat → Value} (h : Slab w B v n 2 (fun i => [z i 0, z i 1])) (hs : Spans.Shape (fun i => [z i 0, z i 1]) n) :
    ∃ a c, v = .slice a (plst z n).length c ∧ PathAt w a (plst z n) := slab_path h (show Points.Shape _ _ from hs)
theorem pcF_shape9 (l : List Pt) (n : Nat) : Spans.Shape (pcF l) n := fun i _ => ⟨_, _, rfl⟩
theorem slab_owns9 {w : World} {B : Nat} {v : Value} {m : List Pt} (h : w.ownsRow B 89 2 v m.length (cellsP m)) : Slab w B v m.length 2 (pcF m) :=
  Slab.of_owns (by rw [flat_pc]; exact h) (pcF_len m)
variable {w : World} {B n : Nat} {v : Value} {z : Nat → Nat → Value}
theorem sok_impl_v (h : Slab w B v n 2 (fun i => [z i 0, z i 1])) (hs : Spans.Shape (fun i => [z i 0, z i 1]) n) (hn : n ≤ 1048576) :
    Calls Try.prog 86 #[v] w fun e w' => e = .returned (.bool (spB (plst z n))) ∧ Below w.heap.size w w' := by
  obtain ⟨a, c, rfl, hp⟩ := slab_path9 h hs; exact sok_impl w a c _ (by rw [plst_len]; exact hn) hp
theorem meet_impl_v (h : Slab w B v n 2 (fun i => [z i 0, z i 1])) (hs : Spans.Shape (fun i => [z i 0, z i 1]) n) (hn : n ≤ 1048576) (x y : Int) :
    Calls Try.prog 76 #[v, .int .i64 x, .int .i64 y] w fun e w' => ∃ u : Value, e = .returned u ∧ Slab w' w.heap.size u (mtV (plst z n) x y).length 2 (pcF (mtV (plst z n) x y)) ∧ Below w.heap.size w w' := by
  obtain ⟨a, c, rfl, hp⟩ := slab_path9 h hs
  exact (meet_impl w a c _ x y (by rw [plst_len]; exact hn) hp).mono fun e w' ⟨u, he, ho, hb⟩ => ⟨u, he, slab_owns9 ho, hb⟩
theorem spsV_len (l : List Pt) (y : Int) : 2 * (spsV l y).length ≤ l.length := by
  unfold spsV
  split
  · have := cols_len l y l.length; rw [prs_len]; omega
  · simp
theorem sa_impl_v (h : Slab w B v n 2 (fun i => [z i 0, z i 1])) (hs : Points.Shape (fun i => [z i 0, z i 1]) n) (hn : n ≤ 1048576) (y : Int) :
    Calls Try.prog 88 #[v, .int .i64 y] w fun e w' => ∃ u : Value, e = .returned u ∧ Slab w' w.heap.size u (spsV (plst z n) y).length 2 (pcF (spsV (plst z n) y)) ∧ Below w.heap.size w w' := by
  obtain ⟨a, c, rfl, hp⟩ := slab_path h hs
  exact (sa_impl w a c _ y (by rw [plst_len]; exact hn) hp).mono fun e w' ⟨u, he, ho, hb⟩ => ⟨u, he, slab_owns9 ho, hb⟩
end Go.Proofs.Ytkabofbbioaapaa.Ins
namespace Go.Proofs.Ytkabofbbioaapaa.Own
open Go.ChangeShapes Go.WideShapes Go.ChangeAt Go.RowKit
open Kit Slabs Ints Stack Point Turn
set_option linter.unusedVariables false
set_option linter.unusedSimpArgs false
set_option linter.unnecessarySimpa false
set_option maxRecDepth 100000
attribute [local go_sem ↓] hload_Object hstore_Object
end Go.Proofs.Ytkabofbbioaapaa.Own
namespace Go.Proofs.Ytkabofbbioaapaa.Own
open Go.ChangeShapes Go.WideShapes Go.ChangeAt Go.RowKit
open Kit Slabs Ints
set_option linter.unusedVariables false
set_option linter.unusedSimpArgs false
set_option linter.unnecessarySimpa false
set_option maxRecDepth 100000
end Go.Proofs.Ytkabofbbioaapaa.Own
