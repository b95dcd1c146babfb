/-
  Texts of this seat, laid together: Rf9, Ck9
-/
import Derived.RangeFuncNested
import Derived.RangeFuncBound
import Derived.RangeFuncCalls
import Derived.RangeFuncLeaves
import Derived.RangeFuncBox
import Derived.Shelf.Abstract
import Derived.Shelf.RegionOpen
import Derived.OwnWalkIn
import Derived.TacticsInMore
import Derived.LoopNIn
import Derived.LoopIn
import Derived.Test.YtkabofbbioaapaaP01
import Derived.Test.YtkabofbbioaapaaP21
namespace Go.Proofs.Ytkabofbbioaapaa.Ins
open Go.ChangeShapes Go.WideShapes Go.ChangeAt Go.RowKit
open Kit
set_option linter.unusedVariables false
set_option linter.unusedSimpArgs false
set_option linter.unnecessarySimpa false
def Gives {α : Type} (P : Program) (g : Nat) (lb : Array Value) (encs : α → Array Value) (Kp : World → World → Prop) (xs : List α) (w : World) : Prop :=
  ∀ (l n : Nat) (J : List α → World → Prop) (W : World), Below w.heap.size w W → OwnFrom W.heap.size J →
    (∀ (m : Nat) (pre : List α) (x : α) (suf : List α) (V : World), xs = pre ++ x :: suf → J pre V →
      YieldAt Fence.wide m P l (encs x) V fun e V' => e = .returned (.bool true) ∧ J (pre ++ [x]) V' ∧ Kp V V' ∧ KeepsFrom W.heap.size V V') →
    J [] W → CallsIn Fence.wide n P g (#[.func (.yield l) #[] #[]] ++ lb) W fun e V => (∃ v, e = .returned v) ∧ J xs V
theorem keepsFrom_low {A B : Nat} {V V' : World} (h : KeepsFrom A V V') (hAB : A ≤ B) : KeepsFrom B V V' := ⟨h.size, fun k o hk ho hc => h.same k o (Nat.le_trans hAB hk) ho hc⟩
theorem keepsFrom_put {B l : Nat} (V : World) (o : Obj) (h : l < B) : KeepsFrom B V (V.putObj l o) := KeepsFrom.of_grownBy (grownBy_putObj' V l o) fun j e => by cases e; exact h
def goesOn {α : Type} (B : Nat) (Kp : World → World → Prop) (I : List α → World → Prop) (xs : List α) (W : World) : Exit → Act → World → Prop
  | .normal, _, V => KeepsFrom B W V ∧ Kp W V ∧ I xs V
  | _, _, _ => False
def recD (fn : FuncId) (tmps : Array Value) (ps : Array Tmp) (assign body : Code) (D : Nat) (st : LoopState) : Loop :=
  { state := st, pending := none, fn := fn, tmps := tmps, params := ps, assign := assign, body := body, defers := D }
structure Laid (B : Nat) (R : LoopState → Loop) (V : World) : Prop where
  dfr : V.heap[B]? = some (.deferred (some []))
  rcd : V.heap[B + 1]? = some (.loop (R .ready))
theorem Laid.keep {B : Nat} {R : LoopState → Loop} {V V' : World} (h : Laid B R V) (hk : KeepsFrom B V V') : Laid B R V' :=
  ⟨hk.same B _ (Nat.le_refl B) h.dfr rfl, hk.same (B + 1) _ (Nat.le_succ B) h.rcd rfl⟩
theorem Laid.own {α : Type} {B : Nat} {R : LoopState → Loop} : OwnFrom (B + 2) fun (_ : α) V => Laid B R V := by
  intro _ X Y row h hg hr
  have hb : ∀ k, k < B + 2 → some k ≠ row := fun k hk e => by have := (hr k e.symm).1; omega
  exact ⟨(hg.block B (Array.getElem?_eq_some_iff.1 h.dfr).1 (hb B (by omega))).trans h.dfr, (hg.block (B + 1) (Array.getElem?_eq_some_iff.1 h.rcd).1 (hb (B + 1) (by omega))).trans h.rcd⟩
theorem laid_new (w : World) (R : LoopState → Loop) : Laid w.heap.size R ((w.alloc (.deferred (some []))).alloc (.loop (R .ready))) where
  dfr := by rw [Below.heap_alloc _ _ _ (by rw [World.size_alloc]; omega)]; exact World.alloc_heap_new w _
  rcd := by
    have e := World.alloc_heap_new (w.alloc (.deferred (some []))) (.loop (R .ready))
    rw [World.size_alloc] at e
    exact e
theorem one_round {α : Type} {P : Program} {ps : Array Tmp} {assign body : Code} {tmps : Array Value} {fn : FuncId} {B m : Nat} {args : Array Value} {Kp : World → World → Prop} {pre post : List α} {V : World} {I : List α → World → Prop} {A : Act → World → Prop}
    (hKt : ∀ {X Y Z : World}, Kp X Y → Kp Y Z → Kp X Z) (hKb : ∀ (V : World) (l : Nat) (r : Loop) (o : Obj), V.heap[l]? = some (.loop r) → Kp V (V.putObj l o)) (hs : args.size = ps.size) (hI : OwnFrom B I) (hA : ∀ b, OwnFrom B fun (_ : Unit) V => A b V)
    (hL : Laid B (recD fn tmps ps assign body B) V)
    (h1 : assign.wpIn (Fence.wide.inRound (B + 1)) m P (Exit.then (fun b V' => KeepsFrom B V V' ∧ Kp V V' ∧ A b V') (fun _ _ _ => False)) { tmps := (ps.zip args).foldl (fun t (p, v) => t.setIfInBounds p v) tmps, defers := [] } V)
    (h2 : ∀ (b : Act) (V' : World), A b V' → body.wpIn (Fence.wide.inRound (B + 1)) m P (goesOn B Kp I post V') b V') :
    YieldAt Fence.wide m P (B + 1) args V fun e V' => e = .returned (.bool true) ∧ (I post V' ∧ Laid B (recD fn tmps ps assign body B) V') ∧ Kp V V' ∧ KeepsFrom (B + 2) V V' := by
  refine ⟨fn, _, assign, body, run_yield hL.rcd hs, roundIn_of_wpIn trivial (wpIn_mono h1 fun e b V1 he => ?_)⟩
  match e, he with
  | .normal, ⟨k1, p1, a1⟩ =>
    have L1 := hL.keep k1
    obtain ⟨busy, hbusy⟩ : ∃ o, Obj.loop { recD fn tmps ps assign body B .ready with state := .busy } = o := ⟨_, rfl⟩
    refine ⟨_, run_beginRound L1.rcd rfl, wpIn_mono (h2 b _ ((hA b).putObj (s := ()) _ a1 (Nat.le_succ B) L1.rcd rfl)) fun e3 b3 V3 he3 => ?_⟩
    match e3, he3 with
    | .normal, ⟨k3, p3, i3⟩ =>
      have hin : B + 1 < V1.heap.size := (Array.getElem?_eq_some_iff.1 L1.rcd).1
      have d2 := (World.putObj_heap_other (w := V1) (r := B + 1) (k := B) (o := .loop { recD fn tmps ps assign body B .ready with state := .busy }) (by omega)).trans L1.dfr
      have r3 := k3.same (B + 1) _ (Nat.le_succ B) (World.putObj_heap_same hin) rfl
      have d3 := k3.same B _ (Nat.le_refl B) d2 rfl
      have r4 := World.putObj_heap_same (w := V3) (r := B + 1) (o := .loop (recD fn tmps ps assign body B .ready)) (Array.getElem?_eq_some_iff.1 r3).1
      refine ⟨_, _, run_endRound none r3, rfl, ⟨hI.putObj _ i3 (Nat.le_succ B) r3 rfl, ⟨(World.putObj_heap_other (by omega)).trans d3, r4⟩⟩, ?_, ?_⟩
      · exact hKt (hKt (hKt p1 (hKb _ _ _ _ L1.rcd)) p3) (hKb _ _ _ _ r3)
      · have q1 := keepsFrom_low k1 (show B ≤ B + 2 by omega)
        have q3 := keepsFrom_low k3 (show B ≤ B + 2 by omega)
        exact q1.trans ((keepsFrom_put _ _ (by omega)).trans (q3.trans (keepsFrom_put _ _ (by omega))))
theorem range_all {α : Type} {P : Program} {g : Operand} {ps : Array Tmp} {assign body : Code} {Q : Exit → Act → World → Prop} {a : Act} {w : World} {n gf : Nat} {lb : Array Value}
    (hg : a.eval g = .func (.func gf) #[] lb) (eg : ∀ args w, (callFunc gf args).run P w = .ok (.enter gf args) w) {encs : α → Array Value} {Kp : World → World → Prop} {xs : List α}
    (hseq : Gives P gf lb encs Kp xs w) (hKt : ∀ {X Y Z : World}, Kp X Y → Kp Y Z → Kp X Z) (hKb : ∀ (V : World) (l : Nat) (r : Loop) (o : Obj), V.heap[l]? = some (.loop r) → Kp V (V.putObj l o))
    (hps : ∀ x, (encs x).size = ps.size) (I : List α → World → Prop) (hI : OwnFrom w.heap.size I) (h0 : I [] w)
    (Ax : List α → α → Act → World → Prop) (hAx : ∀ pre x b, OwnFrom w.heap.size fun (_ : Unit) V => Ax pre x b V)
    (hassign : ∀ (l m : Nat) (pre : List α) (x : α) (suf : List α) (V : World), xs = pre ++ x :: suf → I pre V →
      assign.wpIn (Fence.wide.inRound l) m P (Exit.then (fun b V' => KeepsFrom w.heap.size V V' ∧ Kp V V' ∧ Ax pre x b V') (fun _ _ _ => False)) { tmps := (ps.zip (encs x)).foldl (fun t (p, v) => t.setIfInBounds p v) a.tmps, defers := [] } V)
    (hbody : ∀ (l m : Nat) (pre : List α) (x : α) (suf : List α) (b : Act) (V : World), xs = pre ++ x :: suf → Ax pre x b V →
      body.wpIn (Fence.wide.inRound l) m P (goesOn w.heap.size Kp I (pre ++ [x]) V) b V)
    (hdone : ∀ (D : Nat) (V : World), w.heap.size ≤ D → I xs V → V.heap[D]? = some (.deferred (some [])) → Q .normal { a with defers := { target := .collected D, args := #[] } :: a.defers } V) :
    (Code.rangeFunc g ps assign body).wpIn Fence.wide n P Q a w := by
  refine wpIn_rangeFunc fun fn _ => ?_
  have HL := laid_new w (recD fn a.tmps ps assign body w.heap.size)
  have HI := hI.alloc (.loop (recD fn a.tmps ps assign body w.heap.size .ready)) (hI.alloc (.deferred (some [])) h0)
  have HB : Below w.heap.size w ((w.alloc (.deferred (some []))).alloc (.loop (recD fn a.tmps ps assign body w.heap.size .ready))) := by go_grown
  have HS : ((w.alloc (.deferred (some []))).alloc (.loop (recD fn a.tmps ps assign body w.heap.size .ready))).heap.size = w.heap.size + 2 := by simp
  have HE := run_enterLoop_outer (P := P) (w := w) fn a.tmps ps assign body
  change _ = Result.ok _ ((w.alloc (.deferred (some []))).alloc (.loop (recD fn a.tmps ps assign body w.heap.size .ready))) at HE
  generalize (w.alloc (.deferred (some []))).alloc (.loop (recD fn a.tmps ps assign body w.heap.size .ready)) = V0 at *
  have hown : OwnFrom V0.heap.size fun (pre : List α) V => I pre V ∧ Laid w.heap.size (recD fn a.tmps ps assign body w.heap.size) V := by
    rw [HS]
    refine OwnFrom.and (fun s X Y row hs hgr hrow => hI s X Y row hs hgr fun r e => ⟨?_, (hrow r e).2⟩) Laid.own
    have := (hrow r e).1; omega
  have hcall := hseq (w.heap.size + 1) (n - 1) _ V0 HB hown (fun m pre x suf V hx hJ => by
    rw [HS]
    exact one_round (pre := pre) hKt hKb (hps x) hI (fun b => hAx pre x b) hJ.2 (hassign _ m pre x suf V hx hJ.1) fun b V' hb => hbody _ m pre x suf b V' hx hb) ⟨HI, HL⟩
  refine ⟨_, _, V0, { target := .fn (.func gf) lb, args := #[.func (.yield (w.heap.size + 1)) #[] #[]] }, V0, gf, _, V0, HE, ?_, fun _ _ => trivial, ?_, fun h => by simp [Fence.wide] at h, hcall.mono ?_⟩
  · simp only [resolve, hg]
    simp [go_sem]
  · simp [invoke, go_sem, eg]
  · rintro e V ⟨⟨v, rfl⟩, hi, hl⟩
    refine ⟨none, _, run_endLoop hl.rcd (by simp [recD]), ?_⟩
    exact hdone w.heap.size _ (Nat.le_refl _) (hI.putObj _ hi (Nat.le_succ _) hl.rcd rfl) ((World.putObj_heap_other (by omega)).trans hl.dfr)
theorem yield_at {P : Program} {l m : Nat} {args : Array Value} {V : World} {R : Ending → World → Prop} (h : YieldAt Fence.wide m P l args V R) (l' m' : Nat) : YieldAt (Fence.wide.inRound l') m' P l args V R := by
  obtain ⟨fn, tmps, assign, body, hy, hR⟩ := h
  exact ⟨fn, tmps, assign, body, hy, ⟨trivial, fun c cs _ => hR.2 c cs (fun d hd => by cases hd)⟩⟩
end Go.Proofs.Ytkabofbbioaapaa.Ins
namespace Go.Proofs.Ytkabofbbioaapaa.Ins
open Go.ChangeShapes Go.WideShapes Go.ChangeAt Go.RowKit Go.Shelf
open Kit
set_option linter.unusedVariables false
set_option linter.unusedSimpArgs false
set_option linter.unnecessarySimpa false
attribute [local go_sem] Oper.semAt_some
attribute [local go_sem ↓] run_mn
def KeepT (V V' : World) : Prop := ∀ (k : Nat) (c : Array Value) (t : TypeId) (z : Nat × Nat), V.heap[k]? = some (.cells c t z) → t ≠ 89 → t ≠ 86 → V'.heap[k]? = some (.cells c t z)
theorem KeepT.trans {X Y Z : World} (h : KeepT X Y) (k : KeepT Y Z) : KeepT X Z := fun i c t z hi h1 h2 => k i c t z (h i c t z hi h1 h2) h1 h2
theorem KeepT.refl (X : World) : KeepT X X := fun _ _ _ _ h _ _ => h
theorem KeepT.putObj (V : World) (l : Nat) (r : Loop) (o : Obj) (h : V.heap[l]? = some (.loop r)) : KeepT V (V.putObj l o) := fun i c t z hi _ _ => by
  refine (World.putObj_heap_other fun e => ?_).trans hi
  subst e; rw [h] at hi; cases hi
theorem KeepT.below {V V' : World} (h : Below V.heap.size V V') : KeepT V V' := fun i c t z hi _ _ => (h.block i (Array.getElem?_eq_some_iff.1 hi).1).trans hi
theorem KeepT.boxed {V V' : World} (h : KeepT V V') {B : Nat} {t : TypeId} {v : Value} (hb : Boxed V B t v) (h1 : t ≠ 89) (h2 : t ≠ 86) : Boxed V' B t v := h B _ t _ hb h1 h2
theorem KeepT.row {V V' : World} (h : KeepT V V') {b n : Nat} {t : TypeId} {f : Nat → Value} (hr : V.rowIs b t n f) (h1 : t ≠ 89) (h2 : t ≠ 86) : V'.rowIs b t n f := by
  obtain ⟨c, hb, hn, hc⟩ := hr
  exact ⟨c, h b c t _ hb h1 h2, hn, hc⟩
theorem range_part {m k : Nat} (h : k < m) : List.range m = List.range k ++ k :: (List.range m).drop (k + 1) := by
  have h1 : (List.range m).take k = List.range k := by rw [List.take_range]; congr 1; omega
  have h2 : (List.range m).drop k = k :: (List.range m).drop (k + 1) := by
    rw [List.drop_eq_getElem_cons (by simpa using h)]; simp
  rw [← h2, ← h1, List.take_append_drop]
theorem ownFrom_drew {β : Type} {B : Nat} {J : β → World → Prop} (h : OwnFrom B J) {s : β} {V : World} (hs : J s V) : J s V.drew :=
  h s V V.drew none hs ⟨rfl, rfl, rfl, Nat.le_refl _, fun _ _ _ => rfl⟩ (fun r e => by cases e)
theorem ownFrom_on {β : Type} {B : Nat} {J : β → World → Prop} (h : OwnFrom B J) {s : β} {V V' : World} (hs : J s V) (hb : Below V.heap.size V V') : J s V' :=
  h s V V' none hs ⟨hb.os, hb.tape, hb.output, hb.size, fun k hk _ => hb.block k hk⟩ (fun r e => by cases e)
set_option maxRecDepth 100000 in
set_option maxHeartbeats 2000000 in
theorem chunk_gives (b0 b1 g c m : Nat) (w : World) (h0 : Boxed w b0 64 (.slice (some ⟨g, 0, none⟩) (2 * m) c)) (h1 : Boxed w b1 3 (.int .i64 2)) (hc : 2 * m ≤ c) (hm : c ≤ maxLen) :
    Gives Try.prog 102 #[.pointer (some ⟨b0, 0, none⟩), .pointer (some ⟨b1, 0, none⟩)] (fun k : Nat => #[.slice (some ⟨g, 2 * k, none⟩) 2 2]) KeepT (List.range m) w := by
  intro l n J W hW hJ hY hJ0
  have hm : c ≤ 9223372036854775807 := by unfold maxLen at hm; omega
  have H0 : Boxed W b0 64 (.slice (some ⟨g, 0, none⟩) (2 * m) c) := (hW.block _ h0.lt).trans h0
  have H1 : Boxed W b1 3 (.int .i64 2) := (hW.block _ h1.lt).trans h1
  refine callsIn_of_wp Try.func102 rfl trivial ?_ rfl
  simp only [Try.ntmps102, List.size_toArray, List.length_cons, List.length_nil, Nat.reduceAdd, Nat.reduceSub, Array.replicate_succ, Array.replicate_zero, List.push_toArray, List.append_toArray, List.nil_append, List.cons_append]
  gi_wp2
  gi_loopw [4] (fun p wr => ∃ k : Nat, k ≤ m ∧ p = .int .i64 (2 * (k : Int)) ∧ Boxed wr b0 64 (.slice (some ⟨g, 0, none⟩) (2 * m) c) ∧ Boxed wr b1 3 (.int .i64 2) ∧ J (List.range k) wr) (fun p wr => 2 * m - (intOf p).toNat)
  case atStart => exact ⟨0, Nat.zero_le _, rfl, H0, H1, hJ0⟩
  case round =>
    obtain ⟨k, hk, rfl, B0, B1, hJk⟩ := hrel
    have c0 := B0.cell
    have c1 := B1.cell
    by_cases hlt : k < m
    · have i0 : (0 : Int) ≤ 2 * (k : Int) := by omega
      have i1 : 2 * (k : Int) < 2 * (m : Int) := by omega
      have hck : ¬ (c = 2 * k) := by omega
      have hmn : mn 2 ((2 * m - 2 * k : Nat) : Int) = 2 := by unfold mn; omega
      have hw2 : wrap64 (2 * (k : Int) + 2) = 2 * (k : Int) + 2 := by unfold wrap64; omega
      have ht2 : (2 * (k : Int) + 2).toNat = 2 * k + 2 := by omega
      have j0 : (0 : Int) ≤ 2 * (k : Int) + 2 := by omega
      have j1 : 2 * (k : Int) + 2 ≤ (c : Int) := by omega
      have j2 : ¬ (2 * k + 2 = 2 * k) := by omega
      have j3 : max (2 * (k : Int) + 2) 0 = 2 * (k : Int) + 2 := by omega
      have j4 : 2 * (k : Int) ≤ 2 * (k : Int) + 2 := by omega
      obtain ⟨fn, tmps, assign, body, hy, hR⟩ := hY (n - 1) (List.range k) k _ wr.drew (range_part hlt) (ownFrom_drew hJ hJk)
      gi_wp2
      gi_region
      gi_wp2
      refine ⟨fun h => by simp [Fence.wide] at h, hR.mono ?_⟩
      rintro e W3 ⟨rfl, hJ3, hk3, _⟩
      have B03 : Boxed W3 b0 64 (.slice (some ⟨g, 0, none⟩) (2 * m) c) := hk3.boxed B0 (by decide) (by decide)
      have B13 : Boxed W3 b1 3 (.int .i64 2) := hk3.boxed B1 (by decide) (by decide)
      have c03 := B03.cell
      have c13 := B13.cell
      gi_wp2
      go_roundw
      case rel => exact ⟨k + 1, by omega, by go_num, B03, B13, by rw [List.range_succ]; exact hJ3⟩
      case measure => simp [intOf]; omega
    · obtain rfl : k = m := by omega
      gi_wp2
      go_end0
      exact ⟨⟨_, rfl⟩, hJk⟩
theorem chunk_none (b0 b1 g : Nat) (w : World) (h0 : Boxed w b0 64 (.slice none 0 0)) :
    Gives Try.prog 102 #[.pointer (some ⟨b0, 0, none⟩), .pointer (some ⟨b1, 0, none⟩)] (fun k : Nat => #[.slice (some ⟨g, 2 * k, none⟩) 2 2]) KeepT (List.range 0) w := by
  intro l n J W hW hJ hY hJ0
  have H0 : Boxed W b0 64 (.slice none 0 0) := (hW.block _ h0.lt).trans h0
  have c0 := H0.cell
  refine callsIn_of_wp Try.func102 rfl trivial ?_ rfl
  simp only [Try.ntmps102, List.size_toArray, List.length_cons, List.length_nil, Nat.reduceAdd, Nat.reduceSub, Array.replicate_succ, Array.replicate_zero, List.push_toArray, List.append_toArray, List.nil_append, List.cons_append]
  gi_wp2
  gi_loopw [4] (fun p wr => p = .int .i64 0 ∧ wr = W) (fun p wr => 0)
  case atStart => exact ⟨rfl, rfl⟩
  case round =>
    obtain ⟨rfl, rfl⟩ := hrel
    gi_wp2
    go_end0
    exact ⟨⟨_, rfl⟩, hJ0⟩
theorem chunk_call (a : Option Addr) (n c : Nat) (w : World) :
    Calls Try.prog 100 #[.slice a n c, .int .i64 2] w fun e w' => e = .returned (.func (.func 102) #[] #[.pointer (some ⟨w.heap.size, 0, none⟩), .pointer (some ⟨w.heap.size + 1, 0, none⟩)]) ∧ w' = (w.alloc (.cells #[.slice a n c] 64)).alloc (.cells #[.int .i64 2] 3) := by
  go_enter Try.func100, Try.ntmps100
  go_wp2
  go_ret
  exact ⟨rfl, rfl⟩
end Go.Proofs.Ytkabofbbioaapaa.Ins
