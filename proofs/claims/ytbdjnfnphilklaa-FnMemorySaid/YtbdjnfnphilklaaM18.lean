/-
  Texts of this seat, laid together: Pts, Rf9, St9
-/
import Derived.LoopTactic
import Derived.OwnWalk
import Derived.RangeFuncNested
import Derived.RangeFuncBound
import Derived.RangeFuncCalls
import Derived.RangeFuncLeaves
import Derived.RangeFuncBox
import Derived.Shelf.Abstract
import Derived.Shelf.RegionOpen
import Derived.OwnWalkIn
import Derived.TacticsInMore
import Derived.LoopNIn
import Derived.LoopIn
import Derived.StillTailTactics
import Derived.Test.YtbdjnfnphilklaaM06
import Derived.Test.YtbdjnfnphilklaaM01
namespace Go.Proofs.Ytbdjnfnphilklaa.Pts
open Go.ChangeShapes Go.WideShapes Go.ChangeAt Go.RowKit
open Kit Point
set_option linter.unusedVariables false
set_option linter.unusedSimpArgs false
set_option linter.unnecessarySimpa false
attribute [local go_sem ↓] run_mx run_mn
def PtsAt (w : World) (g n : Nat) (X Y : Nat → Int) : Prop := ∀ i, i < n → w.cell? ⟨g, i * 2, none⟩ = some (.int .i64 (X i)) ∧ w.cell? ⟨g, i * 2 + 1, none⟩ = some (.int .i64 (Y i))
def acc (f : Int → Int → Int) (X : Nat → Int) : Nat → Int
  | 0 => X 0
  | k + 1 => f (acc f X k) (X k)
def okB (X Y : Nat → Int) : Nat → Bool
  | 0 => true
  | k + 1 => okB X Y k && pokB (X k) (Y k)
theorem okB_bad {X Y : Nat → Int} {k n : Nat} (hk : k < n) (h : pokB (X k) (Y k) = false) : okB X Y n = false := by
  induction n with
  | zero => omega
  | succ m ih =>
    by_cases e : k = m
    · subst e; simp [okB, h]
    · simp [okB, ih (by omega)]
theorem okB_good {X Y : Nat → Int} {n : Nat} (h : ∀ i, i < n → pokB (X i) (Y i) = true) : okB X Y n = true := by
  induction n with
  | zero => rfl
  | succ m ih => simp [okB, ih (fun i hi => h i (by omega)), h m (by omega)]
def boxofV (X Y : Nat → Int) (n : Nat) : Value :=
  .agg #[.int .i64 (sel (decide (0 < n) && okB X Y n) (acc mn X n)), .int .i64 (sel (decide (0 < n) && okB X Y n) (acc mn Y n)), .int .i64 (sel (decide (0 < n) && okB X Y n) (acc mx X n)), .int .i64 (sel (decide (0 < n) && okB X Y n) (acc mx Y n))]
theorem boxof_zero (X Y : Nat → Int) : Ending.returned (.agg #[.int .i64 0, .int .i64 0, .int .i64 0, .int .i64 0]) = .returned (boxofV X Y 0) := by simp [boxofV, sel]
theorem boxof_bad {X Y : Nat → Int} {k n : Nat} (hk : k < n) (h : pokB (X k) (Y k) = false) : Ending.returned (.agg #[.int .i64 0, .int .i64 0, .int .i64 0, .int .i64 0]) = .returned (boxofV X Y n) := by simp [boxofV, sel, okB_bad hk h]
theorem boxof_good {X Y : Nat → Int} {n : Nat} (h0 : 0 < n) (h : ∀ i, i < n → pokB (X i) (Y i) = true) : Ending.returned (.agg #[.int .i64 (acc mn X n), .int .i64 (acc mn Y n), .int .i64 (acc mx X n), .int .i64 (acc mx Y n)]) = .returned (boxofV X Y n) := by simp [boxofV, sel, okB_good h, h0]
set_option maxHeartbeats 2000000 in
theorem boxof_impl (g n c : Nat) (X Y : Nat → Int) (w : World) (hn : n ≤ 1048576) (hg : g < w.heap.size) (hp : PtsAt w g n X Y) :
    Calls Try.prog 128 #[.slice (some ⟨g, 0, none⟩) n c] w fun e w' => e = .returned (boxofV X Y n) ∧ Below w.heap.size w w' := by
  by_cases h0 : n = 0
  · subst h0
    go_enter Try.func128, Try.ntmps128
    go_wp2
    go_returns
    exact ⟨boxof_zero X Y, by go_grown⟩
  · have hp0 := hp 0 (by omega)
    simp only [Nat.zero_mul, Nat.zero_add] at hp0
    obtain ⟨e0, e1⟩ := hp0
    have HP := Lib.hid hp
    clear hp
    have hn0 : (0 : Int) < (n : Int) := by omega
    have hn9 : ((n : Int) == 0) = false := by simp; omega
    go_enter Try.func128, Try.ntmps128
    go_wp2
    go_loopw [25] (fun v25 wr => ∃ k : Nat, k ≤ n ∧ v25 = .int .i64 (k : Int) ∧ (∀ i, i < k → pokB (X i) (Y i) = true) ∧ Four wr w.heap.size 0 0 0 0 ∧ Four wr (w.heap.size + 1 + 1) (acc mn X k) (acc mn Y k) (acc mx X k) (acc mx Y k) ∧ w.heap.size + 1 + 1 < wr.heap.size ∧ Below w.heap.size w wr) (fun v25 _ => n - (intOf v25).toNat)
    case atStart => exact ⟨0, Nat.zero_le _, rfl, fun i hi => by omega, ⟨by simp [go_sem], by simp [go_sem], by simp [go_sem], by simp [go_sem], fun o => by simp [go_sem]⟩, ⟨by simp [go_sem, acc], by simp [go_sem, acc], by simp [go_sem, acc], by simp [go_sem, acc], fun o => by simp [go_sem]⟩, by simp, by go_grown⟩
    case round =>
      obtain ⟨k, hk, rfl, hok, F0, F1, hsz, hbel⟩ := hrel
      have HO := Lib.hid hok
      clear hok
      have hs0 : w.heap.size < wr.heap.size := by omega
      by_cases hlt : k < n
      · have hpk := HP.out k hlt
        have q0 : wr.cell? ⟨g, k * 2, none⟩ = some (.int .i64 (X k)) := by rw [hbel.cell (p := ⟨g, k * 2, none⟩) hg]; exact hpk.1
        have q1 : wr.cell? ⟨g, k * 2 + 1, none⟩ = some (.int .i64 (Y k)) := by rw [hbel.cell (p := ⟨g, k * 2 + 1, none⟩) hg]; exact hpk.2
        clear hpk
        have i0 : (0 : Int) ≤ (k : Int) := by omega
        have i1 : (k : Int) < (n : Int) := by omega
        cases hpk : pokB (X k) (Y k)
        · go_wp2_with (go_at_call 115; (with_reducible refine (pok_impl _ _ _).mono ?_); rintro e w' ⟨rfl, hb⟩; have hB := on_of (W := w) (by go_grown) hb; obtain ⟨r0, r1, r2, r3, rf⟩ := Four.keep (Four.alloc F0 _) hb (by simp; omega); obtain ⟨b0, b1, b2, b3, bf⟩ := Four.keep (Four.alloc F1 _) hb (by simp; omega); have p0 := (bcell hb).1 wr.heap.size 0 (by simp); have p1 := (bcell hb).1 wr.heap.size 1 (by simp); simp only [World.cell?_alloc_new] at p0 p1; have hsw := hb.size; simp at hsw; clear hb)
          refine bodyPost_ret (by simp [results, Try.results128, go_sem, *]; try rfl) rfl ?_
          exact ⟨boxof_bad hlt hpk, by go_grown⟩
        · go_wp2_with (go_at_call 115; (with_reducible refine (pok_impl _ _ _).mono ?_); rintro e w' ⟨rfl, hb⟩; have hB := on_of (W := w) (by go_grown) hb; obtain ⟨r0, r1, r2, r3, rf⟩ := Four.keep (Four.alloc F0 _) hb (by simp; omega); obtain ⟨b0, b1, b2, b3, bf⟩ := Four.keep (Four.alloc F1 _) hb (by simp; omega); have p0 := (bcell hb).1 wr.heap.size 0 (by simp); have p1 := (bcell hb).1 wr.heap.size 1 (by simp); simp only [World.cell?_alloc_new] at p0 p1; have hsw := hb.size; simp at hsw; clear hb)
          have G0 : Four w' w.heap.size 0 0 0 0 := ⟨r0, r1, r2, r3, rf⟩
          have G1 : Four w' (w.heap.size + 1 + 1) (acc mn X k) (acc mn Y k) (acc mx X k) (acc mx Y k) := ⟨b0, b1, b2, b3, bf⟩
          go_roundw
          case rel =>
            refine ⟨k + 1, by omega, by go_num, fun i hi => ?_, Four.other (Four.other (Four.other (Four.other G0 (by omega) _ _) (by omega) _ _) (by omega) _ _) (by omega) _ _, Four.set G1 _ _ _ _, by simp; omega, by go_grown⟩
            by_cases e : i = k
            · subst e; exact hpk
            · exact HO.out i (by omega)
          case measure => simp [intOf]; omega
      · obtain rfl : k = n := by omega
        obtain ⟨r0, r1, r2, r3, rf⟩ := F0
        obtain ⟨b0, b1, b2, b3, bf⟩ := F1
        go_wp2
        refine bodyPost_ret (by simp [results, Try.results128, go_sem, *]; try rfl) rfl ?_
        exact ⟨boxof_good (by omega) HO.out, by go_grown⟩
end Go.Proofs.Ytbdjnfnphilklaa.Pts
namespace Go.Proofs.Ytbdjnfnphilklaa.Ins
open Go.ChangeShapes Go.WideShapes Go.ChangeAt Go.RowKit
open Kit
set_option linter.unusedVariables false
set_option linter.unusedSimpArgs false
set_option linter.unnecessarySimpa false
def Gives {α : Type} (P : Program) (g : Nat) (lb : Array Value) (encs : α → Array Value) (Kp : World → World → Prop) (xs : List α) (w : World) : Prop :=
  ∀ (l n : Nat) (J : List α → World → Prop) (W : World), Below w.heap.size w W → OwnFrom W.heap.size J →
    (∀ (m : Nat) (pre : List α) (x : α) (suf : List α) (V : World), xs = pre ++ x :: suf → J pre V →
      YieldAt Fence.wide m P l (encs x) V fun e V' => e = .returned (.bool true) ∧ J (pre ++ [x]) V' ∧ Kp V V' ∧ KeepsFrom W.heap.size V V') →
    J [] W → CallsIn Fence.wide n P g (#[.func (.yield l) #[] #[]] ++ lb) W fun e V => (∃ v, e = .returned v) ∧ J xs V
theorem keepsFrom_low {A B : Nat} {V V' : World} (h : KeepsFrom A V V') (hAB : A ≤ B) : KeepsFrom B V V' := ⟨h.size, fun k o hk ho hc => h.same k o (Nat.le_trans hAB hk) ho hc⟩
theorem keepsFrom_put {B l : Nat} (V : World) (o : Obj) (h : l < B) : KeepsFrom B V (V.putObj l o) := KeepsFrom.of_grownBy (grownBy_putObj' V l o) fun j e => by cases e; exact h
def goesOn {α : Type} (B : Nat) (Kp : World → World → Prop) (I : List α → World → Prop) (xs : List α) (W : World) : Exit → Act → World → Prop
  | .normal, _, V => KeepsFrom B W V ∧ Kp W V ∧ I xs V
  | _, _, _ => False
def recD (fn : FuncId) (tmps : Array Value) (ps : Array Tmp) (assign body : Code) (D : Nat) (st : LoopState) : Loop :=
  { state := st, pending := none, fn := fn, tmps := tmps, params := ps, assign := assign, body := body, defers := D }
structure Laid (B : Nat) (R : LoopState → Loop) (V : World) : Prop where
  dfr : V.heap[B]? = some (.deferred (some []))
  rcd : V.heap[B + 1]? = some (.loop (R .ready))
theorem Laid.keep {B : Nat} {R : LoopState → Loop} {V V' : World} (h : Laid B R V) (hk : KeepsFrom B V V') : Laid B R V' :=
  ⟨hk.same B _ (Nat.le_refl B) h.dfr rfl, hk.same (B + 1) _ (Nat.le_succ B) h.rcd rfl⟩
theorem Laid.own {α : Type} {B : Nat} {R : LoopState → Loop} : OwnFrom (B + 2) fun (_ : α) V => Laid B R V := by
  intro _ X Y row h hg hr
  have hb : ∀ k, k < B + 2 → some k ≠ row := fun k hk e => by have := (hr k e.symm).1; omega
  exact ⟨(hg.block B (Array.getElem?_eq_some_iff.1 h.dfr).1 (hb B (by omega))).trans h.dfr, (hg.block (B + 1) (Array.getElem?_eq_some_iff.1 h.rcd).1 (hb (B + 1) (by omega))).trans h.rcd⟩
theorem laid_new (w : World) (R : LoopState → Loop) : Laid w.heap.size R ((w.alloc (.deferred (some []))).alloc (.loop (R .ready))) where
  dfr := by rw [Below.heap_alloc _ _ _ (by rw [World.size_alloc]; omega)]; exact World.alloc_heap_new w _
  rcd := by
    have e := World.alloc_heap_new (w.alloc (.deferred (some []))) (.loop (R .ready))
    rw [World.size_alloc] at e
    exact e
theorem one_round {α : Type} {P : Program} {ps : Array Tmp} {assign body : Code} {tmps : Array Value} {fn : FuncId} {B m : Nat} {args : Array Value} {Kp : World → World → Prop} {pre post : List α} {V : World} {I : List α → World → Prop} {A : Act → World → Prop}
    (hKt : ∀ {X Y Z : World}, Kp X Y → Kp Y Z → Kp X Z) (hKb : ∀ (V : World) (l : Nat) (r : Loop) (o : Obj), V.heap[l]? = some (.loop r) → Kp V (V.putObj l o)) (hs : args.size = ps.size) (hI : OwnFrom B I) (hA : ∀ b, OwnFrom B fun (_ : Unit) V => A b V)
    (hL : Laid B (recD fn tmps ps assign body B) V)
    (h1 : assign.wpIn (Fence.wide.inRound (B + 1)) m P (Exit.then (fun b V' => KeepsFrom B V V' ∧ Kp V V' ∧ A b V') (fun _ _ _ => False)) { tmps := (ps.zip args).foldl (fun t (p, v) => t.setIfInBounds p v) tmps, defers := [] } V)
    (h2 : ∀ (b : Act) (V' : World), A b V' → body.wpIn (Fence.wide.inRound (B + 1)) m P (goesOn B Kp I post V') b V') :
    YieldAt Fence.wide m P (B + 1) args V fun e V' => e = .returned (.bool true) ∧ (I post V' ∧ Laid B (recD fn tmps ps assign body B) V') ∧ Kp V V' ∧ KeepsFrom (B + 2) V V' := by
  refine ⟨fn, _, assign, body, run_yield hL.rcd hs, roundIn_of_wpIn trivial (wpIn_mono h1 fun e b V1 he => ?_)⟩
  match e, he with
  | .normal, ⟨k1, p1, a1⟩ =>
    have L1 := hL.keep k1
    obtain ⟨busy, hbusy⟩ : ∃ o, Obj.loop { recD fn tmps ps assign body B .ready with state := .busy } = o := ⟨_, rfl⟩
    refine ⟨_, run_beginRound L1.rcd rfl, wpIn_mono (h2 b _ ((hA b).putObj (s := ()) _ a1 (Nat.le_succ B) L1.rcd rfl)) fun e3 b3 V3 he3 => ?_⟩
    match e3, he3 with
    | .normal, ⟨k3, p3, i3⟩ =>
      have hin : B + 1 < V1.heap.size := (Array.getElem?_eq_some_iff.1 L1.rcd).1
      have d2 := (World.putObj_heap_other (w := V1) (r := B + 1) (k := B) (o := .loop { recD fn tmps ps assign body B .ready with state := .busy }) (by omega)).trans L1.dfr
      have r3 := k3.same (B + 1) _ (Nat.le_succ B) (World.putObj_heap_same hin) rfl
      have d3 := k3.same B _ (Nat.le_refl B) d2 rfl
      have r4 := World.putObj_heap_same (w := V3) (r := B + 1) (o := .loop (recD fn tmps ps assign body B .ready)) (Array.getElem?_eq_some_iff.1 r3).1
      refine ⟨_, _, run_endRound none r3, rfl, ⟨hI.putObj _ i3 (Nat.le_succ B) r3 rfl, ⟨(World.putObj_heap_other (by omega)).trans d3, r4⟩⟩, ?_, ?_⟩
      · exact hKt (hKt (hKt p1 (hKb _ _ _ _ L1.rcd)) p3) (hKb _ _ _ _ r3)
      · have q1 := keepsFrom_low k1 (show B ≤ B + 2 by omega)
        have q3 := keepsFrom_low k3 (show B ≤ B + 2 by omega)
        exact q1.trans ((keepsFrom_put _ _ (by omega)).trans (q3.trans (keepsFrom_put _ _ (by omega))))
theorem range_all {α : Type} {P : Program} {g : Operand} {ps : Array Tmp} {assign body : Code} {Q : Exit → Act → World → Prop} {a : Act} {w : World} {n gf : Nat} {lb : Array Value}
    (hg : a.eval g = .func (.func gf) #[] lb) (eg : ∀ args w, (callFunc gf args).run P w = .ok (.enter gf args) w) {encs : α → Array Value} {Kp : World → World → Prop} {xs : List α}
    (hseq : Gives P gf lb encs Kp xs w) (hKt : ∀ {X Y Z : World}, Kp X Y → Kp Y Z → Kp X Z) (hKb : ∀ (V : World) (l : Nat) (r : Loop) (o : Obj), V.heap[l]? = some (.loop r) → Kp V (V.putObj l o))
    (hps : ∀ x, (encs x).size = ps.size) (I : List α → World → Prop) (hI : OwnFrom w.heap.size I) (h0 : I [] w)
    (Ax : List α → α → Act → World → Prop) (hAx : ∀ pre x b, OwnFrom w.heap.size fun (_ : Unit) V => Ax pre x b V)
    (hassign : ∀ (l m : Nat) (pre : List α) (x : α) (suf : List α) (V : World), xs = pre ++ x :: suf → I pre V →
      assign.wpIn (Fence.wide.inRound l) m P (Exit.then (fun b V' => KeepsFrom w.heap.size V V' ∧ Kp V V' ∧ Ax pre x b V') (fun _ _ _ => False)) { tmps := (ps.zip (encs x)).foldl (fun t (p, v) => t.setIfInBounds p v) a.tmps, defers := [] } V)
    (hbody : ∀ (l m : Nat) (pre : List α) (x : α) (suf : List α) (b : Act) (V : World), xs = pre ++ x :: suf → Ax pre x b V →
      body.wpIn (Fence.wide.inRound l) m P (goesOn w.heap.size Kp I (pre ++ [x]) V) b V)
    (hdone : ∀ (D : Nat) (V : World), w.heap.size ≤ D → I xs V → V.heap[D]? = some (.deferred (some [])) → Q .normal { a with defers := { target := .collected D, args := #[] } :: a.defers } V) :
    (Code.rangeFunc g ps assign body).wpIn Fence.wide n P Q a w := by
  refine wpIn_rangeFunc fun fn _ => ?_
  have HL := laid_new w (recD fn a.tmps ps assign body w.heap.size)
  have HI := hI.alloc (.loop (recD fn a.tmps ps assign body w.heap.size .ready)) (hI.alloc (.deferred (some [])) h0)
  have HB : Below w.heap.size w ((w.alloc (.deferred (some []))).alloc (.loop (recD fn a.tmps ps assign body w.heap.size .ready))) := by go_grown
  have HS : ((w.alloc (.deferred (some []))).alloc (.loop (recD fn a.tmps ps assign body w.heap.size .ready))).heap.size = w.heap.size + 2 := by simp
  have HE := run_enterLoop_outer (P := P) (w := w) fn a.tmps ps assign body
  change _ = Result.ok _ ((w.alloc (.deferred (some []))).alloc (.loop (recD fn a.tmps ps assign body w.heap.size .ready))) at HE
  generalize (w.alloc (.deferred (some []))).alloc (.loop (recD fn a.tmps ps assign body w.heap.size .ready)) = V0 at *
  have hown : OwnFrom V0.heap.size fun (pre : List α) V => I pre V ∧ Laid w.heap.size (recD fn a.tmps ps assign body w.heap.size) V := by
    rw [HS]
    refine OwnFrom.and (fun s X Y row hs hgr hrow => hI s X Y row hs hgr fun r e => ⟨?_, (hrow r e).2⟩) Laid.own
    have := (hrow r e).1; omega
  have hcall := hseq (w.heap.size + 1) (n - 1) _ V0 HB hown (fun m pre x suf V hx hJ => by
    rw [HS]
    exact one_round (pre := pre) hKt hKb (hps x) hI (fun b => hAx pre x b) hJ.2 (hassign _ m pre x suf V hx hJ.1) fun b V' hb => hbody _ m pre x suf b V' hx hb) ⟨HI, HL⟩
  refine ⟨_, _, V0, { target := .fn (.func gf) lb, args := #[.func (.yield (w.heap.size + 1)) #[] #[]] }, V0, gf, _, V0, HE, ?_, fun _ _ => trivial, ?_, fun h => by simp [Fence.wide] at h, hcall.mono ?_⟩
  · simp only [resolve, hg]
    simp [go_sem]
  · simp [invoke, go_sem, eg]
  · rintro e V ⟨⟨v, rfl⟩, hi, hl⟩
    refine ⟨none, _, run_endLoop hl.rcd (by simp [recD]), ?_⟩
    exact hdone w.heap.size _ (Nat.le_refl _) (hI.putObj _ hi (Nat.le_succ _) hl.rcd rfl) ((World.putObj_heap_other (by omega)).trans hl.dfr)
theorem yield_at {P : Program} {l m : Nat} {args : Array Value} {V : World} {R : Ending → World → Prop} (h : YieldAt Fence.wide m P l args V R) (l' m' : Nat) : YieldAt (Fence.wide.inRound l') m' P l args V R := by
  obtain ⟨fn, tmps, assign, body, hy, hR⟩ := h
  exact ⟨fn, tmps, assign, body, hy, ⟨trivial, fun c cs _ => hR.2 c cs (fun d hd => by cases hd)⟩⟩
end Go.Proofs.Ytbdjnfnphilklaa.Ins
namespace Go.Proofs.Ytbdjnfnphilklaa.Ins
open Go.ChangeShapes Go.WideShapes Go.ChangeAt Go.RowKit
set_option linter.unusedVariables false
set_option linter.unusedSimpArgs false
set_option linter.unnecessarySimpa false
section
variable {P : Program} {w : World} {l0 m : Nat}
def plainOp (o : Oper) : Bool := match o.op with
  | .defer _ => false
  | _ => true
theorem semAt_plainOp {o : Oper} (h : plainOp o = true) (ro : Option Nat) (ρ : Operand → Value) : Oper.semAt ro ρ o = execOp ρ o :=
  Oper.semAt_eq ro ρ o fun c e => by unfold plainOp at h; rw [e] at h; cases h
theorem reads_in_round {o : Oper} {a : Act} {K : Act → Prop} {K2 : Act → World → Prop} {Q : Exit → Act → World → Prop} (hp : plainOp o = true) (hK : ∀ b, K b → K2 b w) (hs : o.still P a w K) :
    o.wpIn (Fence.wide.inRound l0) m P a w K2 Q := by
  show (∀ f, _ → True) ∧ o.uponIn _ _ _ _ _ _ _
  rw [semAt_plainOp hp]
  refine ⟨fun _ _ => trivial, ?_⟩
  have hs : o.stillUpon P a w K ((execOp a.eval o).run P w) := hs
  revert hs
  generalize (execOp a.eval o).run P w = r
  intro hs
  match r, hs with
  | .ok (.value v) _, ⟨rfl, h⟩ => exact hK _ h
  | .ok .skip _, ⟨rfl, h⟩ => exact hK _ h
  | .ok (.enter f args) _, ⟨rfl, v, hc, h⟩ =>
    refine ⟨fun e => by simp [Fence.wide, Fence.inRound] at e, CallsIn.inRound l0 ((callsIn_wide.2 hc).mono ?_)⟩
    rintro e w2 ⟨rfl, rfl⟩
    exact hK _ h
theorem reads_at {ops : Array Oper} (hp : ∀ o ∈ ops, plainOp o = true) {i : Nat} {a : Act} {K : Act → Prop} {K2 : Act → World → Prop} {Q : Exit → Act → World → Prop} (hK : ∀ b, K b → K2 b w) (hs : stOp P ops w i K a) :
    wpOpIn (Fence.wide.inRound l0) m P ops Q i K2 a w := by
  cases ho : ops[i]? with
  | none => simp only [stOp, ho] at hs; simp only [wpOpIn, ho]; exact hK _ hs
  | some o =>
    have hpo := hp o (Array.mem_of_getElem? ho)
    simp only [stOp, ho] at hs
    simp only [wpOpIn, ho]
    by_cases hw : Region.wanted o (yielded ops a.tmps) = true
    · rw [if_pos hw] at hs ⊢; exact reads_in_round hpo hK hs
    · rw [if_neg hw] at hs ⊢; exact ⟨fun _ _ => trivial, hK _ hs⟩
theorem head_in_round {ops : Array Oper} {md : Region.Mode} {n g : Nat} {L : Array Bool → Act → Prop} {Q : Exit → Act → World → Prop} (hp : ∀ o ∈ ops, plainOp o = true)
    (hL : ∀ done b, L done b → wpAnyIn (Fence.wide.inRound l0) m P md ops Q g done b w) (f : Nat) : ∀ (done : Array Bool) (a : Act), wpAnyL P md ops w n L f done a → wpAnyIn (Fence.wide.inRound l0) m P md ops Q (f + g) done a w := by
  induction f with
  | zero => intro done a h; rw [Nat.zero_add]; exact hL _ _ h
  | succ f ih =>
    intro done a h
    obtain ⟨hne, hall⟩ := h
    rw [Nat.add_right_comm]
    refine ⟨fun e => (hne e).elim, fun i hi => reads_at hp (fun b hb => ih _ b hb) (hall i hi).2⟩
theorem tail_in_round {ops : Array Oper} {md : Region.Mode} {Q : Exit → Act → World → Prop} (l : List Oper) : ∀ (k : Nat) (done : Array Bool) (a : Act) (V : World), (∀ j, l[j]? = ops[k + j]?) → Region.seqB md ops l.length k done = true →
    wpListIn (Fence.wide.inRound l0) m P ops Q l a V → wpAnyIn (Fence.wide.inRound l0) m P md ops Q l.length done a V := by
  induction l with
  | nil =>
    intro k done a V _ hB h
    have hB : (Region.ready md ops done).isEmpty = true := hB
    exact ⟨List.isEmpty_iff.1 hB, h⟩
  | cons o l ih =>
    intro k done a V hl hB h
    have hB : (decide (Region.ready md ops done = [k]) && Region.seqB md ops l.length (k + 1) (done.setIfInBounds k true)) = true := hB
    rw [Bool.and_eq_true, decide_eq_true_eq] at hB
    obtain ⟨hr, hB2⟩ := hB
    have ho : ops[k]? = some o := (hl 0).symm
    refine ⟨fun e => (by rw [hr] at e; cases e), fun i hi => ?_⟩
    rw [hr, List.mem_singleton] at hi
    rw [hi]
    refine wpOpIn_mono (fun b V2 hb => ih (k + 1) _ b V2 (fun j => ?_) hB2 hb) (K := wpListIn (Fence.wide.inRound l0) m P ops Q l) ?_
    · rw [Nat.add_right_comm, Nat.add_assoc]; exact hl (j + 1)
    · unfold wpOpIn; rw [ho]; exact h
theorem head_any {l : List Oper} {n : Nat} {a : Act} {V : World} {Lq : Act → Prop} (hB : Region.lexTailB .any l.toArray n = true) (h : wpStill P l.toArray V Lq (l.take n) a) :
    n < l.length ∧ wpAnyL P .any l.toArray V n (fun done b => Region.seqB .any l.toArray (l.length - n) n done = true ∧ Lq b) n (Array.replicate l.length false) a := by
  unfold Region.lexTailB at hB
  simp only [Bool.and_eq_true, decide_eq_true_eq, List.size_toArray] at hB
  have hn := hB.1.1.1.2
  have hlen : (l.take n).length = n := List.length_take_of_le (Nat.le_of_lt hn)
  refine ⟨hn, ?_⟩
  have start : HeadInv .any l.toArray n (Array.replicate l.length false) := by
    constructor
    · simp
    · intro j oj _ hj; rw [getD_replicate_false] at hj; cases hj
    · intro t _ ht; exact getD_in (by simpa using ht) (getD_replicate_false _ _)
  have key := wpAnyL_lex hB.1.1.1.1 hB.1.1.2 hB.1.2 (by simpa using hn) (l.take n) 0 (Array.replicate l.length false) a (fun j hj => ?_) (by rw [hlen, Nat.zero_add]) start (by rw [hlen]; exact hB.2) h
  · rwa [hlen] at key
  · rw [hlen] at hj
    rw [List.getElem?_take, if_pos hj, Nat.zero_add, List.getElem?_toArray]
theorem regionIn_tail {id : Nat} {Q : Exit → Act → World → Prop} {a : Act} {l : List Oper} (n : Nat) (hm : P.follows .mixedOrders = true) (hB : Region.lexTailB .any l.toArray n = true) (hd : l.all plainOp = true)
    (h : wpStill P l.toArray w.drew (fun b => wpListIn (Fence.wide.inRound l0) m P l.toArray Q (l.drop n) b w.drew) (l.take n) a) : (Code.region id l.toArray true).wpIn (Fence.wide.inRound l0) m P Q a w := by
  obtain ⟨hn, key⟩ := head_any hB h
  have hp : ∀ o ∈ l.toArray, plainOp o = true := fun o ho => List.all_eq_true.1 hd o (by simpa using ho)
  have all := head_in_round (l0 := l0) (m := m) (Q := Q) (g := l.length - n) hp (fun done b hb => ?_) n _ _ key
  · rw [show n + (l.length - n) = l.length by omega] at all
    exact wpIn_region_any hm (by rw [List.size_toArray]; exact all)
  · have := tail_in_round (l0 := l0) (m := m) (Q := Q) (md := .any) (ops := l.toArray) (l.drop n) n done b w.drew (fun j => by rw [List.getElem?_drop, List.getElem?_toArray]) (by rw [List.length_drop]; exact hb.1) hb.2
    rwa [List.length_drop] at this
end
end Go.Proofs.Ytbdjnfnphilklaa.Ins
