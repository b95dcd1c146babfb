/-
  A loop over an iterator of the program's own, none of whose rounds leaves the loop: the iterator's promise (it may itself loop over an iterator, because the caller's invariant minds no block that is no cells and was laid behind it), and the law for the caller.
-/
import Derived.Test.YtccjfljmmdlngaaKit
import Derived.RangeFuncNested
import Derived.RangeFuncBound
import Derived.RangeFuncCalls
import Derived.RangeFuncLeaves
import Derived.RangeFuncBox
import Derived.Shelf.Abstract
import Derived.Shelf.RegionOpen
import Derived.OwnWalkIn
import Derived.TacticsInMore
import Derived.LoopNIn
import Derived.LoopIn
namespace Go.Proofs.Ytccjfljmmdlngaa.Ins
open Go.ChangeShapes Go.WideShapes Go.ChangeAt Go.RowKit
open Kit
set_option linter.unusedVariables false
set_option linter.unusedSimpArgs false
set_option linter.unnecessarySimpa false
/-- The iterator hands over all of xs, one after the other, to rounds that all go on. -/
def Gives {α : Type} (P : Program) (g : Nat) (lb : Array Value) (encs : α → Array Value) (Kp : World → World → Prop) (xs : List α) (w : World) : Prop :=
  ∀ (l n : Nat) (J : List α → World → Prop) (W : World), Below w.heap.size w W → OwnFrom W.heap.size J →
    (∀ (m : Nat) (pre : List α) (x : α) (suf : List α) (V : World), xs = pre ++ x :: suf → J pre V →
      YieldAt Fence.wide m P l (encs x) V fun e V' => e = .returned (.bool true) ∧ J (pre ++ [x]) V' ∧ Kp V V' ∧ KeepsFrom W.heap.size V V') →
    J [] W → CallsIn Fence.wide n P g (#[.func (.yield l) #[] #[]] ++ lb) W fun e V => (∃ v, e = .returned v) ∧ J xs V
theorem keepsFrom_low {A B : Nat} {V V' : World} (h : KeepsFrom A V V') (hAB : A ≤ B) : KeepsFrom B V V' := ⟨h.size, fun k o hk ho hc => h.same k o (Nat.le_trans hAB hk) ho hc⟩
theorem keepsFrom_put {B l : Nat} (V : World) (o : Obj) (h : l < B) : KeepsFrom B V (V.putObj l o) := KeepsFrom.of_grownBy (grownBy_putObj' V l o) fun j e => by cases e; exact h
/-- A round's body falls off its end. -/
def goesOn {α : Type} (B : Nat) (Kp : World → World → Prop) (I : List α → World → Prop) (xs : List α) (W : World) : Exit → Act → World → Prop
  | .normal, _, V => KeepsFrom B W V ∧ Kp W V ∧ I xs V
  | _, _, _ => False
theorem range_all {α : Type} {P : Program} {g : Operand} {ps : Array Tmp} {assign body : Code} {Q : Exit → Act → World → Prop} {a : Act} {w : World} {n gf : Nat} {lb : Array Value}
    (hg : a.eval g = .func (.func gf) #[] lb) (eg : ∀ args w, (callFunc gf args).run P w = .ok (.enter gf args) w) {encs : α → Array Value} {Kp : World → World → Prop} {xs : List α}
    (hseq : Gives P gf lb encs Kp xs w) (hKt : ∀ {X Y Z : World}, Kp X Y → Kp Y Z → Kp X Z) (hKb : ∀ (V : World) (l : Nat) (r : Loop) (o : Obj), V.heap[l]? = some (.loop r) → Kp V (V.putObj l o))
    (hps : ∀ x, (encs x).size = ps.size) (I : List α → World → Prop) (hI : OwnFrom w.heap.size I) (h0 : I [] w)
    (Ax : List α → α → Act → World → Prop) (hAx : ∀ pre x b, OwnFrom w.heap.size fun (_ : Unit) V => Ax pre x b V)
    (hassign : ∀ (l m : Nat) (pre : List α) (x : α) (suf : List α) (V : World), xs = pre ++ x :: suf → I pre V →
      assign.wpIn (Fence.wide.inRound l) m P (Exit.then (fun b V' => KeepsFrom w.heap.size V V' ∧ Kp V V' ∧ Ax pre x b V') (fun _ _ _ => False)) { tmps := (ps.zip (encs x)).foldl (fun t (p, v) => t.setIfInBounds p v) a.tmps, defers := [] } V)
    (hbody : ∀ (l m : Nat) (pre : List α) (x : α) (suf : List α) (b : Act) (V : World), xs = pre ++ x :: suf → Ax pre x b V →
      body.wpIn (Fence.wide.inRound l) m P (goesOn w.heap.size Kp I (pre ++ [x]) V) b V)
    (hdone : ∀ (D : Nat) (V : World), w.heap.size ≤ D → I xs V → V.heap[D]? = some (.deferred (some [])) → Q .normal { a with defers := { target := .collected D, args := #[] } :: a.defers } V) :
    (Code.rangeFunc g ps assign body).wpIn Fence.wide n P Q a w := by
  refine wpIn_rangeFunc fun fn _ => ?_
  obtain ⟨rec, hrec⟩ : ∃ rec : LoopState → Loop, rec = fun st => { state := st, pending := none, fn, tmps := a.tmps, params := ps, assign, body, defers := w.heap.size } := ⟨_, rfl⟩
  obtain ⟨V0, hV0⟩ : ∃ V0, (w.alloc (.deferred (some []))).alloc (.loop (rec .ready)) = V0 := ⟨_, rfl⟩
  have hsz : V0.heap.size = w.heap.size + 2 := by rw [← hV0]; simp
  have hL0 : V0.heap[w.heap.size + 1]? = some (.loop (rec .ready)) := by
    rw [← hV0]; have := World.alloc_heap_new (w.alloc (.deferred (some []))) (.loop (rec .ready)); rwa [World.size_alloc] at this
  have hD0 : V0.heap[w.heap.size]? = some (.deferred (some [])) := by
    rw [← hV0]; exact (Below.heap_alloc _ _ _ (by simp)).trans (World.alloc_heap_new w _)
  have hI0 : I [] V0 := by rw [← hV0]; exact hI.alloc _ (hI.alloc _ h0)
  have hb0 : Below w.heap.size w V0 := by rw [← hV0]; exact ((Below.refl _ w).alloc (Nat.le_refl _) _).alloc (by simp) _
  refine ⟨w.heap.size + 1, [{ target := .collected w.heap.size, args := #[] }], V0, { target := .fn (.func gf) lb, args := #[.func (.yield (w.heap.size + 1)) #[] #[]] }, V0, gf, #[.func (.yield (w.heap.size + 1)) #[] #[]] ++ lb, V0, ?_, ?_, fun _ _ => trivial, ?_, fun h => by simp [Fence.wide] at h, ?_⟩
  · have := run_enterLoop_outer (P := P) (w := w) fn a.tmps ps assign body
    rw [← hV0, hrec]; exact this
  · simp only [resolve, hg]
    simp [go_sem]
  · simp [invoke, go_sem, eg]
  · refine (hseq (w.heap.size + 1) (n - 1) (fun pre V => I pre V ∧ V.heap[w.heap.size + 1]? = some (.loop (rec .ready)) ∧ V.heap[w.heap.size]? = some (.deferred (some []))) V0 hb0 ?_ ?_ ⟨hI0, hL0, hD0⟩).mono ?_
    · rintro s X Y row ⟨h1, h2, h3⟩ hgr hrow
      refine ⟨hI s X Y row h1 hgr fun r e => ⟨by have := (hrow r e).1; omega, (hrow r e).2⟩, ?_, ?_⟩
      · exact (hgr.block _ (Array.getElem?_eq_some_iff.1 h2).1 fun e => by have := (hrow _ e.symm).1; omega).trans h2
      · exact (hgr.block _ (Array.getElem?_eq_some_iff.1 h3).1 fun e => by have := (hrow _ e.symm).1; omega).trans h3
    · rintro m pre x suf V hx ⟨hi, hl, hd⟩
      have hy := run_yield (P := P) (args := encs x) hl (by rw [hrec]; exact hps x)
      rw [hrec] at hy
      refine ⟨fn, _, assign, body, hy, roundIn_of_wpIn trivial (wpIn_mono (hassign (w.heap.size + 1) m pre x suf V hx hi) ?_)⟩
      rintro e b V1 he
      cases e with
      | normal =>
        obtain ⟨hk1, hp1, hax⟩ := he
        have hl1 := hk1.same _ _ (by omega) hl rfl
        have hd1 := hk1.same _ _ (Nat.le_refl _) hd rfl
        refine ⟨_, run_beginRound hl1 (by rw [hrec]), ?_⟩
        have hlt := (Array.getElem?_eq_some_iff.1 hl1).1
        have hl2 : (V1.putObj (w.heap.size + 1) (.loop { rec .ready with state := .busy })).heap[w.heap.size + 1]? = some (.loop { rec .ready with state := .busy }) := World.putObj_heap_same hlt
        have hd2 : (V1.putObj (w.heap.size + 1) (.loop { rec .ready with state := .busy })).heap[w.heap.size]? = some (.deferred (some [])) := (World.putObj_heap_other (by omega)).trans hd1
        have hp2 := hKb V1 (w.heap.size + 1) _ (.loop { rec .ready with state := .busy }) hl1
        refine wpIn_mono (hbody (w.heap.size + 1) m pre x suf b _ hx ((hAx pre x b).putObj (s := ()) _ hax (by omega) hl1 rfl)) ?_
        rintro e b3 V3 hq
        cases e with
        | normal =>
          obtain ⟨hk3, hp3, hi3⟩ := hq
          have hl3 := hk3.same _ _ (by omega) hl2 rfl
          have hd3 := hk3.same _ _ (Nat.le_refl _) hd2 rfl
          have hr := run_endRound (P := P) none hl3
          refine ⟨_, _, hr, rfl, ⟨hI.putObj _ hi3 (by omega) hl3 rfl, ?_, (World.putObj_heap_other (by omega)).trans hd3⟩, hKt (hKt (hKt hp1 hp2) hp3) (hKb _ _ _ _ hl3), ?_⟩
          · have := World.putObj_heap_same (w := V3) (o := .loop { rec .ready with state := .ready, pending := none }) (Array.getElem?_eq_some_iff.1 hl3).1
            rw [hrec] at this ⊢
            exact this
          · exact (((keepsFrom_low hk1 (by omega)).trans (keepsFrom_put _ _ (by omega))).trans (keepsFrom_low hk3 (by omega))).trans (keepsFrom_put _ _ (by omega))
        | ret => exact hq.elim
        | exit id => exact hq.elim
        | goto t => exact hq.elim
        | panic c => exact hq.elim
        | outgrown => exact hq.elim
      | ret => exact he.elim
      | exit id => exact he.elim
      | goto t => exact he.elim
      | panic c => exact he.elim
      | outgrown => exact he.elim
    · rintro e V ⟨⟨v, rfl⟩, hi, hl, hd⟩
      have hr := run_endLoop (P := P) hl (by rw [hrec]; simp)
      exact ⟨_, _, hr, by rw [hrec]; exact hdone w.heap.size _ (Nat.le_refl _) (hI.putObj _ hi (by omega) hl rfl) ((World.putObj_heap_other (by omega)).trans hd)⟩
/-- Where no depth is asked the figures are all one; and a round's contract goes into another loop's round as it is. -/
theorem yield_at {P : Program} {l m : Nat} {args : Array Value} {V : World} {R : Ending → World → Prop} (h : YieldAt Fence.wide m P l args V R) (l' m' : Nat) : YieldAt (Fence.wide.inRound l') m' P l args V R := by
  obtain ⟨fn, tmps, assign, body, hy, hR⟩ := h
  exact ⟨fn, tmps, assign, body, hy, ⟨trivial, fun c cs _ => hR.2 c cs (fun d hd => by cases hd)⟩⟩
end Go.Proofs.Ytccjfljmmdlngaa.Ins
