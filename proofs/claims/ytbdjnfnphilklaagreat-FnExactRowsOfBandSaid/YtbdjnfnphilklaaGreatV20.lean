/-
  Texts of this seat, laid together: Rf9, Shelf, St9
-/
import Derived.RangeFuncNested
import Derived.RangeFuncBound
import Derived.RangeFuncCalls
import Derived.RangeFuncLeaves
import Derived.RangeFuncBox
import Derived.Shelf.Abstract
import Derived.Shelf.RegionOpen
import Derived.OwnWalkIn
import Derived.TacticsInMore
import Derived.LoopNIn
import Derived.LoopIn
import Derived.Shelf.Small.Wraps
import Derived.Shelf.Slices.Reverse
import Derived.Ground.Names2Prog
import Derived.Shelf.Slices.SearchI
import Derived.Shelf.Slices.Delete
import Derived.Shelf.Slices.Cells
import Derived.Shelf.Slices.Empties
import Derived.Shelf.SlGeneric
import Derived.Shelf.Spec.SlicesInsert
import Derived.Shelf.Spec.SlicesInsertGrow
import Derived.Shelf.SlSorted.Search
import Derived.Shelf.SlicesQ.IndexFunc
import Derived.Ground.SlsoProg
import Derived.Ground.SlgfProg
import Derived.Test.YtbdjnfnphilklaaGreatProg
import Derived.StillTailTactics
import Derived.Test.YtbdjnfnphilklaaGreatV01
namespace Go.Proofs.YtbdjnfnphilklaaGreat.Ins
open Go.ChangeShapes Go.WideShapes Go.ChangeAt Go.RowKit
open Kit
set_option linter.unusedVariables false
set_option linter.unusedSimpArgs false
set_option linter.unnecessarySimpa false
def Gives {α : Type} (P : Program) (g : Nat) (lb : Array Value) (encs : α → Array Value) (Kp : World → World → Prop) (xs : List α) (w : World) : Prop :=
  ∀ (l n : Nat) (J : List α → World → Prop) (W : World), Below w.heap.size w W → OwnFrom W.heap.size J →
    (∀ (m : Nat) (pre : List α) (x : α) (suf : List α) (V : World), xs = pre ++ x :: suf → J pre V →
      YieldAt Fence.wide m P l (encs x) V fun e V' => e = .returned (.bool true) ∧ J (pre ++ [x]) V' ∧ Kp V V' ∧ KeepsFrom W.heap.size V V') →
    J [] W → CallsIn Fence.wide n P g (#[.func (.yield l) #[] #[]] ++ lb) W fun e V => (∃ v, e = .returned v) ∧ J xs V
theorem keepsFrom_low {A B : Nat} {V V' : World} (h : KeepsFrom A V V') (hAB : A ≤ B) : KeepsFrom B V V' := ⟨h.size, fun k o hk ho hc => h.same k o (Nat.le_trans hAB hk) ho hc⟩
theorem keepsFrom_put {B l : Nat} (V : World) (o : Obj) (h : l < B) : KeepsFrom B V (V.putObj l o) := KeepsFrom.of_grownBy (grownBy_putObj' V l o) fun j e => by cases e; exact h
def goesOn {α : Type} (B : Nat) (Kp : World → World → Prop) (I : List α → World → Prop) (xs : List α) (W : World) : Exit → Act → World → Prop
  | .normal, _, V => KeepsFrom B W V ∧ Kp W V ∧ I xs V
  | _, _, _ => False
def recD (fn : FuncId) (tmps : Array Value) (ps : Array Tmp) (assign body : Code) (D : Nat) (st : LoopState) : Loop :=
  { state := st, pending := none, fn := fn, tmps := tmps, params := ps, assign := assign, body := body, defers := D }
structure Laid (B : Nat) (R : LoopState → Loop) (V : World) : Prop where
  dfr : V.heap[B]? = some (.deferred (some []))
  rcd : V.heap[B + 1]? = some (.loop (R .ready))
theorem Laid.keep {B : Nat} {R : LoopState → Loop} {V V' : World} (h : Laid B R V) (hk : KeepsFrom B V V') : Laid B R V' :=
  ⟨hk.same B _ (Nat.le_refl B) h.dfr rfl, hk.same (B + 1) _ (Nat.le_succ B) h.rcd rfl⟩
theorem Laid.own {α : Type} {B : Nat} {R : LoopState → Loop} : OwnFrom (B + 2) fun (_ : α) V => Laid B R V := by
  intro _ X Y row h hg hr
  have hb : ∀ k, k < B + 2 → some k ≠ row := fun k hk e => by have := (hr k e.symm).1; omega
  exact ⟨(hg.block B (Array.getElem?_eq_some_iff.1 h.dfr).1 (hb B (by omega))).trans h.dfr, (hg.block (B + 1) (Array.getElem?_eq_some_iff.1 h.rcd).1 (hb (B + 1) (by omega))).trans h.rcd⟩
theorem laid_new (w : World) (R : LoopState → Loop) : Laid w.heap.size R ((w.alloc (.deferred (some []))).alloc (.loop (R .ready))) where
  dfr := by rw [Below.heap_alloc _ _ _ (by rw [World.size_alloc]; omega)]; exact World.alloc_heap_new w _
  rcd := by
    have e := World.alloc_heap_new (w.alloc (.deferred (some []))) (.loop (R .ready))
    rw [World.size_alloc] at e
    exact e
theorem one_round {α : Type} {P : Program} {ps : Array Tmp} {assign body : Code} {tmps : Array Value} {fn : FuncId} {B m : Nat} {args : Array Value} {Kp : World → World → Prop} {pre post : List α} {V : World} {I : List α → World → Prop} {A : Act → World → Prop}
    (hKt : ∀ {X Y Z : World}, Kp X Y → Kp Y Z → Kp X Z) (hKb : ∀ (V : World) (l : Nat) (r : Loop) (o : Obj), V.heap[l]? = some (.loop r) → Kp V (V.putObj l o)) (hs : args.size = ps.size) (hI : OwnFrom B I) (hA : ∀ b, OwnFrom B fun (_ : Unit) V => A b V)
    (hL : Laid B (recD fn tmps ps assign body B) V)
    (h1 : assign.wpIn (Fence.wide.inRound (B + 1)) m P (Exit.then (fun b V' => KeepsFrom B V V' ∧ Kp V V' ∧ A b V') (fun _ _ _ => False)) { tmps := (ps.zip args).foldl (fun t (p, v) => t.setIfInBounds p v) tmps, defers := [] } V)
    (h2 : ∀ (b : Act) (V' : World), A b V' → body.wpIn (Fence.wide.inRound (B + 1)) m P (goesOn B Kp I post V') b V') :
    YieldAt Fence.wide m P (B + 1) args V fun e V' => e = .returned (.bool true) ∧ (I post V' ∧ Laid B (recD fn tmps ps assign body B) V') ∧ Kp V V' ∧ KeepsFrom (B + 2) V V' := by
  refine ⟨fn, _, assign, body, run_yield hL.rcd hs, roundIn_of_wpIn trivial (wpIn_mono h1 fun e b V1 he => ?_)⟩
  match e, he with
  | .normal, ⟨k1, p1, a1⟩ =>
    have L1 := hL.keep k1
    obtain ⟨busy, hbusy⟩ : ∃ o, Obj.loop { recD fn tmps ps assign body B .ready with state := .busy } = o := ⟨_, rfl⟩
    refine ⟨_, run_beginRound L1.rcd rfl, wpIn_mono (h2 b _ ((hA b).putObj (s := ()) _ a1 (Nat.le_succ B) L1.rcd rfl)) fun e3 b3 V3 he3 => ?_⟩
    match e3, he3 with
    | .normal, ⟨k3, p3, i3⟩ =>
      have hin : B + 1 < V1.heap.size := (Array.getElem?_eq_some_iff.1 L1.rcd).1
      have d2 := (World.putObj_heap_other (w := V1) (r := B + 1) (k := B) (o := .loop { recD fn tmps ps assign body B .ready with state := .busy }) (by omega)).trans L1.dfr
      have r3 := k3.same (B + 1) _ (Nat.le_succ B) (World.putObj_heap_same hin) rfl
      have d3 := k3.same B _ (Nat.le_refl B) d2 rfl
      have r4 := World.putObj_heap_same (w := V3) (r := B + 1) (o := .loop (recD fn tmps ps assign body B .ready)) (Array.getElem?_eq_some_iff.1 r3).1
      refine ⟨_, _, run_endRound none r3, rfl, ⟨hI.putObj _ i3 (Nat.le_succ B) r3 rfl, ⟨(World.putObj_heap_other (by omega)).trans d3, r4⟩⟩, ?_, ?_⟩
      · exact hKt (hKt (hKt p1 (hKb _ _ _ _ L1.rcd)) p3) (hKb _ _ _ _ r3)
      · have q1 := keepsFrom_low k1 (show B ≤ B + 2 by omega)
        have q3 := keepsFrom_low k3 (show B ≤ B + 2 by omega)
        exact q1.trans ((keepsFrom_put _ _ (by omega)).trans (q3.trans (keepsFrom_put _ _ (by omega))))
theorem range_all {α : Type} {P : Program} {g : Operand} {ps : Array Tmp} {assign body : Code} {Q : Exit → Act → World → Prop} {a : Act} {w : World} {n gf : Nat} {lb : Array Value}
    (hg : a.eval g = .func (.func gf) #[] lb) (eg : ∀ args w, (callFunc gf args).run P w = .ok (.enter gf args) w) {encs : α → Array Value} {Kp : World → World → Prop} {xs : List α}
    (hseq : Gives P gf lb encs Kp xs w) (hKt : ∀ {X Y Z : World}, Kp X Y → Kp Y Z → Kp X Z) (hKb : ∀ (V : World) (l : Nat) (r : Loop) (o : Obj), V.heap[l]? = some (.loop r) → Kp V (V.putObj l o))
    (hps : ∀ x, (encs x).size = ps.size) (I : List α → World → Prop) (hI : OwnFrom w.heap.size I) (h0 : I [] w)
    (Ax : List α → α → Act → World → Prop) (hAx : ∀ pre x b, OwnFrom w.heap.size fun (_ : Unit) V => Ax pre x b V)
    (hassign : ∀ (l m : Nat) (pre : List α) (x : α) (suf : List α) (V : World), xs = pre ++ x :: suf → I pre V →
      assign.wpIn (Fence.wide.inRound l) m P (Exit.then (fun b V' => KeepsFrom w.heap.size V V' ∧ Kp V V' ∧ Ax pre x b V') (fun _ _ _ => False)) { tmps := (ps.zip (encs x)).foldl (fun t (p, v) => t.setIfInBounds p v) a.tmps, defers := [] } V)
    (hbody : ∀ (l m : Nat) (pre : List α) (x : α) (suf : List α) (b : Act) (V : World), xs = pre ++ x :: suf → Ax pre x b V →
      body.wpIn (Fence.wide.inRound l) m P (goesOn w.heap.size Kp I (pre ++ [x]) V) b V)
    (hdone : ∀ (D : Nat) (V : World), w.heap.size ≤ D → I xs V → V.heap[D]? = some (.deferred (some [])) → Q .normal { a with defers := { target := .collected D, args := #[] } :: a.defers } V) :
    (Code.rangeFunc g ps assign body).wpIn Fence.wide n P Q a w := by
  refine wpIn_rangeFunc fun fn _ => ?_
  have HL := laid_new w (recD fn a.tmps ps assign body w.heap.size)
  have HI := hI.alloc (.loop (recD fn a.tmps ps assign body w.heap.size .ready)) (hI.alloc (.deferred (some [])) h0)
  have HB : Below w.heap.size w ((w.alloc (.deferred (some []))).alloc (.loop (recD fn a.tmps ps assign body w.heap.size .ready))) := by go_grown
  have HS : ((w.alloc (.deferred (some []))).alloc (.loop (recD fn a.tmps ps assign body w.heap.size .ready))).heap.size = w.heap.size + 2 := by simp
  have HE := run_enterLoop_outer (P := P) (w := w) fn a.tmps ps assign body
  change _ = Result.ok _ ((w.alloc (.deferred (some []))).alloc (.loop (recD fn a.tmps ps assign body w.heap.size .ready))) at HE
  generalize (w.alloc (.deferred (some []))).alloc (.loop (recD fn a.tmps ps assign body w.heap.size .ready)) = V0 at *
  have hown : OwnFrom V0.heap.size fun (pre : List α) V => I pre V ∧ Laid w.heap.size (recD fn a.tmps ps assign body w.heap.size) V := by
    rw [HS]
    refine OwnFrom.and (fun s X Y row hs hgr hrow => hI s X Y row hs hgr fun r e => ⟨?_, (hrow r e).2⟩) Laid.own
    have := (hrow r e).1; omega
  have hcall := hseq (w.heap.size + 1) (n - 1) _ V0 HB hown (fun m pre x suf V hx hJ => by
    rw [HS]
    exact one_round (pre := pre) hKt hKb (hps x) hI (fun b => hAx pre x b) hJ.2 (hassign _ m pre x suf V hx hJ.1) fun b V' hb => hbody _ m pre x suf b V' hx hb) ⟨HI, HL⟩
  refine ⟨_, _, V0, { target := .fn (.func gf) lb, args := #[.func (.yield (w.heap.size + 1)) #[] #[]] }, V0, gf, _, V0, HE, ?_, fun _ _ => trivial, ?_, fun h => by simp [Fence.wide] at h, hcall.mono ?_⟩
  · simp only [resolve, hg]
    simp [go_sem]
  · simp [invoke, go_sem, eg]
  · rintro e V ⟨⟨v, rfl⟩, hi, hl⟩
    refine ⟨none, _, run_endLoop hl.rcd (by simp [recD]), ?_⟩
    exact hdone w.heap.size _ (Nat.le_refl _) (hI.putObj _ hi (Nat.le_succ _) hl.rcd rfl) ((World.putObj_heap_other (by omega)).trans hl.dfr)
theorem yield_at {P : Program} {l m : Nat} {args : Array Value} {V : World} {R : Ending → World → Prop} (h : YieldAt Fence.wide m P l args V R) (l' m' : Nat) : YieldAt (Fence.wide.inRound l') m' P l args V R := by
  obtain ⟨fn, tmps, assign, body, hy, hR⟩ := h
  exact ⟨fn, tmps, assign, body, hy, ⟨trivial, fun c cs _ => hR.2 c cs (fun d hd => by cases hd)⟩⟩
end Go.Proofs.YtbdjnfnphilklaaGreat.Ins
namespace Go.Proofs
open Go.Shelf
def Tryz.laysNm225_ren : Go.Shelf.Ren := ⟨fun | 25 => 149 | 31 => 154 | 32 => 155 | 37 => 158 | n => n, fun | 22 => 69 | 3 => 3 | 4 => 4 | 40 => 135 | 0 => 0 | n => n, fun | n => n⟩
theorem Tryz.laysNm225 : Go.Proofs.Lays2.n25 Tryz.prog Tryz.laysNm225_ren := {
  mixed := by kernel_rfl
  f25 := Tryz.func149.trans (congrArg some (by kernel_rfl))
  f31 := Tryz.func154.trans (congrArg some (by kernel_rfl))
  f32 := Tryz.func155.trans (congrArg some (by kernel_rfl))
  f37 := Tryz.func158.trans (congrArg some (by kernel_rfl))
  t0 := Tryz.underlying0
  a0 := Tryz.isAgg0
  z0 := Tryz.sizeOf0
  v0 := Tryz.zeroValue0
  t3 := Tryz.underlying3
  a3 := Tryz.isAgg3
  z3 := Tryz.sizeOf3
  v3 := Tryz.zeroValue3
  t4 := Tryz.underlying4
  a4 := Tryz.isAgg4
  z4 := Tryz.sizeOf4
  v4 := Tryz.zeroValue4
  t22 := Tryz.underlying69
  a22 := Tryz.isAgg69
  z22 := Tryz.sizeOf69
  v22 := Tryz.zeroValue69
  t40 := Tryz.underlying135
  a40 := Tryz.isAgg135
  z40 := Tryz.sizeOf135
  v40 := Tryz.zeroValue135 }
open Go.RowKit Go.Lib in
theorem Tryz.slices_BinarySearch_int (b off n c : Nat) (zs : List Int) (x : Int) (w : World) (hz : n ≤ zs.length) (hbig : n < 4611686018427387904) (hc : ∀ j, j < zs.length → w.cell? ⟨b, off + j, none⟩ = some (.int .i64 (zs.getD j 0))) (hs : (zs.take n).Pairwise (· ≤ ·)) :
    Calls Tryz.prog 149 #[.slice (some ⟨b, off, none⟩) n c, .int .i64 x] w fun e w' => e = .returned (.tuple #[.int .i64 ((zs.take n).countP (· < x) : Nat), .bool ((zs.take n).contains x)]) ∧ ∃ q, w' = w.drewN q := Any.slices_BinarySearch_int Tryz.laysNm225 b off n c zs x w hz hbig hc hs
def Tryz.laysNm223_ren : Go.Shelf.Ren := ⟨fun | 23 => 150 | n => n, fun | 22 => 69 | 3 => 3 | 4 => 4 | 0 => 0 | n => n, fun | n => n⟩
theorem Tryz.laysNm223 : Go.Proofs.Lays2.n23 Tryz.prog Tryz.laysNm223_ren := {
  mixed := by kernel_rfl
  f23 := Tryz.func150.trans (congrArg some (by kernel_rfl))
  t0 := Tryz.underlying0
  a0 := Tryz.isAgg0
  z0 := Tryz.sizeOf0
  v0 := Tryz.zeroValue0
  t3 := Tryz.underlying3
  a3 := Tryz.isAgg3
  z3 := Tryz.sizeOf3
  v3 := Tryz.zeroValue3
  t4 := Tryz.underlying4
  a4 := Tryz.isAgg4
  z4 := Tryz.sizeOf4
  v4 := Tryz.zeroValue4
  t22 := Tryz.underlying69
  a22 := Tryz.isAgg69
  z22 := Tryz.sizeOf69
  v22 := Tryz.zeroValue69
  i3 := by kernel_rfl }
open Go.RowKit Go.Lib Go.Sort in
theorem Tryz.slices_Delete_int (blk off cap i j : Nat) (zs : List Int) (w : World) (hH : Holds (Value.int .i64) w blk off zs.toArray) (hcap : zs.length ≤ cap) (hm : cap ≤ 9223372036854775807) (hij : i ≤ j) (hj : j ≤ zs.length) :
    Calls Tryz.prog 150 #[.slice (some ⟨blk, off, none⟩) zs.length cap, .int .i64 i, .int .i64 j] w fun e w' => e = .returned (.slice (some ⟨blk, off, none⟩) (zs.length - (j - i)) cap) ∧ ∃ q, w' = putRow (Value.int .i64) (Sort.ahead w q) blk off (zs.take i ++ zs.drop j ++ List.replicate (j - i) 0).toArray := Any.slices_Delete_int Tryz.laysNm223 blk off cap i j zs w hH hcap hm hij hj
open Go.RowKit Go.Lib Go.Sort in
theorem Tryz.slices_Delete_int_cells (b off n c i j : Nat) (zs : List Int) (w : World) (hz : n ≤ zs.length) (hcap : n ≤ c) (hm : c ≤ 9223372036854775807) (hij : i ≤ j) (hj : j ≤ n) (hc : ∀ j, j < zs.length → w.cell? ⟨b, off + j, none⟩ = some (.int .i64 (zs.getD j 0))) (hf : ∀ j, j < n → w.frozen? ⟨b, off + j, none⟩ = false) :
    Calls Tryz.prog 150 #[.slice (some ⟨b, off, none⟩) n c, .int .i64 i, .int .i64 j] w fun e w' => e = .returned (.slice (some ⟨b, off, none⟩) (n - (j - i)) c) ∧ ∃ q, w' = (w.drewN q).setCells b off (((zs.take n).take i ++ (zs.take n).drop j ++ List.replicate (j - i) 0).map (Value.int .i64)) := Any.slices_Delete_int_cells Tryz.laysNm223 b off n c i j zs w hz hcap hm hij hj hc hf
open Go.RowKit Go.Lib in
theorem Tryz.slices_BinarySearch_int_empty (a : Option Addr) (c : Nat) (x : Int) (w : World) :
    Calls Tryz.prog 149 #[.slice a 0 c, .int .i64 x] w fun e w' => e = .returned (.tuple #[.int .i64 0, .bool false]) ∧ w' = w := Any.slices_BinarySearch_int_empty Tryz.laysNm225 a c x w
open Go.RowKit Go.Lib in
theorem Tryz.slices_Delete_int_empty (a : Option Addr) (c : Nat) (w : World) :
    Calls Tryz.prog 150 #[.slice a 0 c, .int .i64 0, .int .i64 0] w fun e w' => e = .returned (.slice a 0 c) ∧ w' = w := Any.slices_Delete_int_empty Tryz.laysNm223 a c w
def Tryz.laysNm221_ren : Go.Shelf.Ren := ⟨fun | 21 => 151 | 27 => 156 | 28 => 157 | 35 => 159 | 39 => 160 | n => n, fun | 22 => 69 | 3 => 3 | 4 => 4 | 0 => 0 | n => n, fun | n => n⟩
theorem Tryz.laysNm221 : Go.Proofs.Lays2.n21 Tryz.prog Tryz.laysNm221_ren := {
  mixed := by kernel_rfl
  f21 := Tryz.func151.trans (congrArg some (by kernel_rfl))
  f27 := Tryz.func156.trans (congrArg some (by kernel_rfl))
  f28 := Tryz.func157.trans (congrArg some (by kernel_rfl))
  f35 := Tryz.func159.trans (congrArg some (by kernel_rfl))
  f39 := Tryz.func160.trans (congrArg some (by kernel_rfl))
  t0 := Tryz.underlying0
  a0 := Tryz.isAgg0
  z0 := Tryz.sizeOf0
  v0 := Tryz.zeroValue0
  t3 := Tryz.underlying3
  a3 := Tryz.isAgg3
  z3 := Tryz.sizeOf3
  v3 := Tryz.zeroValue3
  t4 := Tryz.underlying4
  a4 := Tryz.isAgg4
  z4 := Tryz.sizeOf4
  v4 := Tryz.zeroValue4
  t22 := Tryz.underlying69
  a22 := Tryz.isAgg69
  z22 := Tryz.sizeOf69
  v22 := Tryz.zeroValue69
  i3 := by kernel_rfl }
def Tryz.search_ren : Go.Shelf.Ren := ⟨fun | 16 => 152 | n => n, fun | 3 => 3 | 35 => 119 | 4 => 4 | 38 => 135 | n => n, fun | n => n⟩
theorem Tryz.search : Go.Proofs.SlLaysO.n16 Tryz.prog Tryz.search_ren := {
  mixed := by kernel_rfl
  f16 := Tryz.func152.trans (congrArg some (by kernel_rfl))
  t3 := Tryz.underlying3
  a3 := Tryz.isAgg3
  z3 := Tryz.sizeOf3
  v3 := Tryz.zeroValue3
  t4 := Tryz.underlying4
  a4 := Tryz.isAgg4
  z4 := Tryz.sizeOf4
  v4 := Tryz.zeroValue4
  t35 := Tryz.underlying119
  a35 := Tryz.isAgg119
  z35 := Tryz.sizeOf119
  v35 := Tryz.zeroValue119
  t38 := Tryz.underlying135
  a38 := Tryz.isAgg135
  z38 := Tryz.sizeOf135
  v38 := Tryz.zeroValue135 }
end Go.Proofs
namespace Go.Proofs.YtbdjnfnphilklaaGreat.Ins
open Go.ChangeShapes Go.WideShapes Go.ChangeAt Go.RowKit
set_option linter.unusedVariables false
set_option linter.unusedSimpArgs false
set_option linter.unnecessarySimpa false
section
variable {P : Program} {w : World} {l0 m : Nat}
def plainOp (o : Oper) : Bool := match o.op with
  | .defer _ => false
  | _ => true
theorem semAt_plainOp {o : Oper} (h : plainOp o = true) (ro : Option Nat) (ρ : Operand → Value) : Oper.semAt ro ρ o = execOp ρ o :=
  Oper.semAt_eq ro ρ o fun c e => by unfold plainOp at h; rw [e] at h; cases h
theorem reads_in_round {o : Oper} {a : Act} {K : Act → Prop} {K2 : Act → World → Prop} {Q : Exit → Act → World → Prop} (hp : plainOp o = true) (hK : ∀ b, K b → K2 b w) (hs : o.still P a w K) :
    o.wpIn (Fence.wide.inRound l0) m P a w K2 Q := by
  show (∀ f, _ → True) ∧ o.uponIn _ _ _ _ _ _ _
  rw [semAt_plainOp hp]
  refine ⟨fun _ _ => trivial, ?_⟩
  have hs : o.stillUpon P a w K ((execOp a.eval o).run P w) := hs
  revert hs
  generalize (execOp a.eval o).run P w = r
  intro hs
  match r, hs with
  | .ok (.value v) _, ⟨rfl, h⟩ => exact hK _ h
  | .ok .skip _, ⟨rfl, h⟩ => exact hK _ h
  | .ok (.enter f args) _, ⟨rfl, v, hc, h⟩ =>
    refine ⟨fun e => by simp [Fence.wide, Fence.inRound] at e, CallsIn.inRound l0 ((callsIn_wide.2 hc).mono ?_)⟩
    rintro e w2 ⟨rfl, rfl⟩
    exact hK _ h
theorem reads_at {ops : Array Oper} (hp : ∀ o ∈ ops, plainOp o = true) {i : Nat} {a : Act} {K : Act → Prop} {K2 : Act → World → Prop} {Q : Exit → Act → World → Prop} (hK : ∀ b, K b → K2 b w) (hs : stOp P ops w i K a) :
    wpOpIn (Fence.wide.inRound l0) m P ops Q i K2 a w := by
  cases ho : ops[i]? with
  | none => simp only [stOp, ho] at hs; simp only [wpOpIn, ho]; exact hK _ hs
  | some o =>
    have hpo := hp o (Array.mem_of_getElem? ho)
    simp only [stOp, ho] at hs
    simp only [wpOpIn, ho]
    by_cases hw : Region.wanted o (yielded ops a.tmps) = true
    · rw [if_pos hw] at hs ⊢; exact reads_in_round hpo hK hs
    · rw [if_neg hw] at hs ⊢; exact ⟨fun _ _ => trivial, hK _ hs⟩
theorem head_in_round {ops : Array Oper} {md : Region.Mode} {n g : Nat} {L : Array Bool → Act → Prop} {Q : Exit → Act → World → Prop} (hp : ∀ o ∈ ops, plainOp o = true)
    (hL : ∀ done b, L done b → wpAnyIn (Fence.wide.inRound l0) m P md ops Q g done b w) (f : Nat) : ∀ (done : Array Bool) (a : Act), wpAnyL P md ops w n L f done a → wpAnyIn (Fence.wide.inRound l0) m P md ops Q (f + g) done a w := by
  induction f with
  | zero => intro done a h; rw [Nat.zero_add]; exact hL _ _ h
  | succ f ih =>
    intro done a h
    obtain ⟨hne, hall⟩ := h
    rw [Nat.add_right_comm]
    refine ⟨fun e => (hne e).elim, fun i hi => reads_at hp (fun b hb => ih _ b hb) (hall i hi).2⟩
theorem tail_in_round {ops : Array Oper} {md : Region.Mode} {Q : Exit → Act → World → Prop} (l : List Oper) : ∀ (k : Nat) (done : Array Bool) (a : Act) (V : World), (∀ j, l[j]? = ops[k + j]?) → Region.seqB md ops l.length k done = true →
    wpListIn (Fence.wide.inRound l0) m P ops Q l a V → wpAnyIn (Fence.wide.inRound l0) m P md ops Q l.length done a V := by
  induction l with
  | nil =>
    intro k done a V _ hB h
    have hB : (Region.ready md ops done).isEmpty = true := hB
    exact ⟨List.isEmpty_iff.1 hB, h⟩
  | cons o l ih =>
    intro k done a V hl hB h
    have hB : (decide (Region.ready md ops done = [k]) && Region.seqB md ops l.length (k + 1) (done.setIfInBounds k true)) = true := hB
    rw [Bool.and_eq_true, decide_eq_true_eq] at hB
    obtain ⟨hr, hB2⟩ := hB
    have ho : ops[k]? = some o := (hl 0).symm
    refine ⟨fun e => (by rw [hr] at e; cases e), fun i hi => ?_⟩
    rw [hr, List.mem_singleton] at hi
    rw [hi]
    refine wpOpIn_mono (fun b V2 hb => ih (k + 1) _ b V2 (fun j => ?_) hB2 hb) (K := wpListIn (Fence.wide.inRound l0) m P ops Q l) ?_
    · rw [Nat.add_right_comm, Nat.add_assoc]; exact hl (j + 1)
    · unfold wpOpIn; rw [ho]; exact h
theorem head_any {l : List Oper} {n : Nat} {a : Act} {V : World} {Lq : Act → Prop} (hB : Region.lexTailB .any l.toArray n = true) (h : wpStill P l.toArray V Lq (l.take n) a) :
    n < l.length ∧ wpAnyL P .any l.toArray V n (fun done b => Region.seqB .any l.toArray (l.length - n) n done = true ∧ Lq b) n (Array.replicate l.length false) a := by
  unfold Region.lexTailB at hB
  simp only [Bool.and_eq_true, decide_eq_true_eq, List.size_toArray] at hB
  have hn := hB.1.1.1.2
  have hlen : (l.take n).length = n := List.length_take_of_le (Nat.le_of_lt hn)
  refine ⟨hn, ?_⟩
  have start : HeadInv .any l.toArray n (Array.replicate l.length false) := by
    constructor
    · simp
    · intro j oj _ hj; rw [getD_replicate_false] at hj; cases hj
    · intro t _ ht; exact getD_in (by simpa using ht) (getD_replicate_false _ _)
  have key := wpAnyL_lex hB.1.1.1.1 hB.1.1.2 hB.1.2 (by simpa using hn) (l.take n) 0 (Array.replicate l.length false) a (fun j hj => ?_) (by rw [hlen, Nat.zero_add]) start (by rw [hlen]; exact hB.2) h
  · rwa [hlen] at key
  · rw [hlen] at hj
    rw [List.getElem?_take, if_pos hj, Nat.zero_add, List.getElem?_toArray]
theorem regionIn_tail {id : Nat} {Q : Exit → Act → World → Prop} {a : Act} {l : List Oper} (n : Nat) (hm : P.follows .mixedOrders = true) (hB : Region.lexTailB .any l.toArray n = true) (hd : l.all plainOp = true)
    (h : wpStill P l.toArray w.drew (fun b => wpListIn (Fence.wide.inRound l0) m P l.toArray Q (l.drop n) b w.drew) (l.take n) a) : (Code.region id l.toArray true).wpIn (Fence.wide.inRound l0) m P Q a w := by
  obtain ⟨hn, key⟩ := head_any hB h
  have hp : ∀ o ∈ l.toArray, plainOp o = true := fun o ho => List.all_eq_true.1 hd o (by simpa using ho)
  have all := head_in_round (l0 := l0) (m := m) (Q := Q) (g := l.length - n) hp (fun done b hb => ?_) n _ _ key
  · rw [show n + (l.length - n) = l.length by omega] at all
    exact wpIn_region_any hm (by rw [List.size_toArray]; exact all)
  · have := tail_in_round (l0 := l0) (m := m) (Q := Q) (md := .any) (ops := l.toArray) (l.drop n) n done b w.drew (fun j => by rw [List.getElem?_drop, List.getElem?_toArray]) (by rw [List.length_drop]; exact hb.1) hb.2
    rwa [List.length_drop] at this
end
end Go.Proofs.YtbdjnfnphilklaaGreat.Ins
