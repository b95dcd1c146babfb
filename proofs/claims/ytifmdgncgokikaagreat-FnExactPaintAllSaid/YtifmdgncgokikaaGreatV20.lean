/-
  Texts of this seat, laid together: Rf9, App
-/
import Derived.RangeFuncNested
import Derived.RangeFuncBound
import Derived.RangeFuncCalls
import Derived.RangeFuncLeaves
import Derived.RangeFuncBox
import Derived.Shelf.Abstract
import Derived.Shelf.RegionOpen
import Derived.OwnWalkIn
import Derived.TacticsInMore
import Derived.LoopNIn
import Derived.LoopIn
import Derived.Deep.AppendLies
import Derived.Test.YtifmdgncgokikaaGreatV01
namespace Go.Proofs.YtifmdgncgokikaaGreat.Ins
open Go.ChangeShapes Go.WideShapes Go.ChangeAt Go.RowKit
open Kit
set_option linter.unusedVariables false
set_option linter.unusedSimpArgs false
set_option linter.unnecessarySimpa false
def Gives {α : Type} (P : Program) (g : Nat) (lb : Array Value) (encs : α → Array Value) (Kp : World → World → Prop) (xs : List α) (w : World) : Prop :=
  ∀ (l n : Nat) (J : List α → World → Prop) (W : World), Below w.heap.size w W → OwnFrom W.heap.size J →
    (∀ (m : Nat) (pre : List α) (x : α) (suf : List α) (V : World), xs = pre ++ x :: suf → J pre V →
      YieldAt Fence.wide m P l (encs x) V fun e V' => e = .returned (.bool true) ∧ J (pre ++ [x]) V' ∧ Kp V V' ∧ KeepsFrom W.heap.size V V') →
    J [] W → CallsIn Fence.wide n P g (#[.func (.yield l) #[] #[]] ++ lb) W fun e V => (∃ v, e = .returned v) ∧ J xs V
theorem keepsFrom_low {A B : Nat} {V V' : World} (h : KeepsFrom A V V') (hAB : A ≤ B) : KeepsFrom B V V' := ⟨h.size, fun k o hk ho hc => h.same k o (Nat.le_trans hAB hk) ho hc⟩
theorem keepsFrom_put {B l : Nat} (V : World) (o : Obj) (h : l < B) : KeepsFrom B V (V.putObj l o) := KeepsFrom.of_grownBy (grownBy_putObj' V l o) fun j e => by cases e; exact h
def goesOn {α : Type} (B : Nat) (Kp : World → World → Prop) (I : List α → World → Prop) (xs : List α) (W : World) : Exit → Act → World → Prop
  | .normal, _, V => KeepsFrom B W V ∧ Kp W V ∧ I xs V
  | _, _, _ => False
def recD (fn : FuncId) (tmps : Array Value) (ps : Array Tmp) (assign body : Code) (D : Nat) (st : LoopState) : Loop :=
  { state := st, pending := none, fn := fn, tmps := tmps, params := ps, assign := assign, body := body, defers := D }
structure Laid (B : Nat) (R : LoopState → Loop) (V : World) : Prop where
  dfr : V.heap[B]? = some (.deferred (some []))
  rcd : V.heap[B + 1]? = some (.loop (R .ready))
theorem Laid.keep {B : Nat} {R : LoopState → Loop} {V V' : World} (h : Laid B R V) (hk : KeepsFrom B V V') : Laid B R V' :=
  ⟨hk.same B _ (Nat.le_refl B) h.dfr rfl, hk.same (B + 1) _ (Nat.le_succ B) h.rcd rfl⟩
theorem Laid.own {α : Type} {B : Nat} {R : LoopState → Loop} : OwnFrom (B + 2) fun (_ : α) V => Laid B R V := by
  intro _ X Y row h hg hr
  have hb : ∀ k, k < B + 2 → some k ≠ row := fun k hk e => by have := (hr k e.symm).1; omega
  exact ⟨(hg.block B (Array.getElem?_eq_some_iff.1 h.dfr).1 (hb B (by omega))).trans h.dfr, (hg.block (B + 1) (Array.getElem?_eq_some_iff.1 h.rcd).1 (hb (B + 1) (by omega))).trans h.rcd⟩
theorem laid_new (w : World) (R : LoopState → Loop) : Laid w.heap.size R ((w.alloc (.deferred (some []))).alloc (.loop (R .ready))) where
  dfr := by rw [Below.heap_alloc _ _ _ (by rw [World.size_alloc]; omega)]; exact World.alloc_heap_new w _
  rcd := by
    have e := World.alloc_heap_new (w.alloc (.deferred (some []))) (.loop (R .ready))
    rw [World.size_alloc] at e
    exact e
theorem one_round {α : Type} {P : Program} {ps : Array Tmp} {assign body : Code} {tmps : Array Value} {fn : FuncId} {B m : Nat} {args : Array Value} {Kp : World → World → Prop} {pre post : List α} {V : World} {I : List α → World → Prop} {A : Act → World → Prop}
    (hKt : ∀ {X Y Z : World}, Kp X Y → Kp Y Z → Kp X Z) (hKb : ∀ (V : World) (l : Nat) (r : Loop) (o : Obj), V.heap[l]? = some (.loop r) → Kp V (V.putObj l o)) (hs : args.size = ps.size) (hI : OwnFrom B I) (hA : ∀ b, OwnFrom B fun (_ : Unit) V => A b V)
    (hL : Laid B (recD fn tmps ps assign body B) V)
    (h1 : assign.wpIn (Fence.wide.inRound (B + 1)) m P (Exit.then (fun b V' => KeepsFrom B V V' ∧ Kp V V' ∧ A b V') (fun _ _ _ => False)) { tmps := (ps.zip args).foldl (fun t (p, v) => t.setIfInBounds p v) tmps, defers := [] } V)
    (h2 : ∀ (b : Act) (V' : World), A b V' → body.wpIn (Fence.wide.inRound (B + 1)) m P (goesOn B Kp I post V') b V') :
    YieldAt Fence.wide m P (B + 1) args V fun e V' => e = .returned (.bool true) ∧ (I post V' ∧ Laid B (recD fn tmps ps assign body B) V') ∧ Kp V V' ∧ KeepsFrom (B + 2) V V' := by
  refine ⟨fn, _, assign, body, run_yield hL.rcd hs, roundIn_of_wpIn trivial (wpIn_mono h1 fun e b V1 he => ?_)⟩
  match e, he with
  | .normal, ⟨k1, p1, a1⟩ =>
    have L1 := hL.keep k1
    obtain ⟨busy, hbusy⟩ : ∃ o, Obj.loop { recD fn tmps ps assign body B .ready with state := .busy } = o := ⟨_, rfl⟩
    refine ⟨_, run_beginRound L1.rcd rfl, wpIn_mono (h2 b _ ((hA b).putObj (s := ()) _ a1 (Nat.le_succ B) L1.rcd rfl)) fun e3 b3 V3 he3 => ?_⟩
    match e3, he3 with
    | .normal, ⟨k3, p3, i3⟩ =>
      have hin : B + 1 < V1.heap.size := (Array.getElem?_eq_some_iff.1 L1.rcd).1
      have d2 := (World.putObj_heap_other (w := V1) (r := B + 1) (k := B) (o := .loop { recD fn tmps ps assign body B .ready with state := .busy }) (by omega)).trans L1.dfr
      have r3 := k3.same (B + 1) _ (Nat.le_succ B) (World.putObj_heap_same hin) rfl
      have d3 := k3.same B _ (Nat.le_refl B) d2 rfl
      have r4 := World.putObj_heap_same (w := V3) (r := B + 1) (o := .loop (recD fn tmps ps assign body B .ready)) (Array.getElem?_eq_some_iff.1 r3).1
      refine ⟨_, _, run_endRound none r3, rfl, ⟨hI.putObj _ i3 (Nat.le_succ B) r3 rfl, ⟨(World.putObj_heap_other (by omega)).trans d3, r4⟩⟩, ?_, ?_⟩
      · exact hKt (hKt (hKt p1 (hKb _ _ _ _ L1.rcd)) p3) (hKb _ _ _ _ r3)
      · have q1 := keepsFrom_low k1 (show B ≤ B + 2 by omega)
        have q3 := keepsFrom_low k3 (show B ≤ B + 2 by omega)
        exact q1.trans ((keepsFrom_put _ _ (by omega)).trans (q3.trans (keepsFrom_put _ _ (by omega))))
theorem range_all {α : Type} {P : Program} {g : Operand} {ps : Array Tmp} {assign body : Code} {Q : Exit → Act → World → Prop} {a : Act} {w : World} {n gf : Nat} {lb : Array Value}
    (hg : a.eval g = .func (.func gf) #[] lb) (eg : ∀ args w, (callFunc gf args).run P w = .ok (.enter gf args) w) {encs : α → Array Value} {Kp : World → World → Prop} {xs : List α}
    (hseq : Gives P gf lb encs Kp xs w) (hKt : ∀ {X Y Z : World}, Kp X Y → Kp Y Z → Kp X Z) (hKb : ∀ (V : World) (l : Nat) (r : Loop) (o : Obj), V.heap[l]? = some (.loop r) → Kp V (V.putObj l o))
    (hps : ∀ x, (encs x).size = ps.size) (I : List α → World → Prop) (hI : OwnFrom w.heap.size I) (h0 : I [] w)
    (Ax : List α → α → Act → World → Prop) (hAx : ∀ pre x b, OwnFrom w.heap.size fun (_ : Unit) V => Ax pre x b V)
    (hassign : ∀ (l m : Nat) (pre : List α) (x : α) (suf : List α) (V : World), xs = pre ++ x :: suf → I pre V →
      assign.wpIn (Fence.wide.inRound l) m P (Exit.then (fun b V' => KeepsFrom w.heap.size V V' ∧ Kp V V' ∧ Ax pre x b V') (fun _ _ _ => False)) { tmps := (ps.zip (encs x)).foldl (fun t (p, v) => t.setIfInBounds p v) a.tmps, defers := [] } V)
    (hbody : ∀ (l m : Nat) (pre : List α) (x : α) (suf : List α) (b : Act) (V : World), xs = pre ++ x :: suf → Ax pre x b V →
      body.wpIn (Fence.wide.inRound l) m P (goesOn w.heap.size Kp I (pre ++ [x]) V) b V)
    (hdone : ∀ (D : Nat) (V : World), w.heap.size ≤ D → I xs V → V.heap[D]? = some (.deferred (some [])) → Q .normal { a with defers := { target := .collected D, args := #[] } :: a.defers } V) :
    (Code.rangeFunc g ps assign body).wpIn Fence.wide n P Q a w := by
  refine wpIn_rangeFunc fun fn _ => ?_
  have HL := laid_new w (recD fn a.tmps ps assign body w.heap.size)
  have HI := hI.alloc (.loop (recD fn a.tmps ps assign body w.heap.size .ready)) (hI.alloc (.deferred (some [])) h0)
  have HB : Below w.heap.size w ((w.alloc (.deferred (some []))).alloc (.loop (recD fn a.tmps ps assign body w.heap.size .ready))) := by go_grown
  have HS : ((w.alloc (.deferred (some []))).alloc (.loop (recD fn a.tmps ps assign body w.heap.size .ready))).heap.size = w.heap.size + 2 := by simp
  have HE := run_enterLoop_outer (P := P) (w := w) fn a.tmps ps assign body
  change _ = Result.ok _ ((w.alloc (.deferred (some []))).alloc (.loop (recD fn a.tmps ps assign body w.heap.size .ready))) at HE
  generalize (w.alloc (.deferred (some []))).alloc (.loop (recD fn a.tmps ps assign body w.heap.size .ready)) = V0 at *
  have hown : OwnFrom V0.heap.size fun (pre : List α) V => I pre V ∧ Laid w.heap.size (recD fn a.tmps ps assign body w.heap.size) V := by
    rw [HS]
    refine OwnFrom.and (fun s X Y row hs hgr hrow => hI s X Y row hs hgr fun r e => ⟨?_, (hrow r e).2⟩) Laid.own
    have := (hrow r e).1; omega
  have hcall := hseq (w.heap.size + 1) (n - 1) _ V0 HB hown (fun m pre x suf V hx hJ => by
    rw [HS]
    exact one_round (pre := pre) hKt hKb (hps x) hI (fun b => hAx pre x b) hJ.2 (hassign _ m pre x suf V hx hJ.1) fun b V' hb => hbody _ m pre x suf b V' hx hb) ⟨HI, HL⟩
  refine ⟨_, _, V0, { target := .fn (.func gf) lb, args := #[.func (.yield (w.heap.size + 1)) #[] #[]] }, V0, gf, _, V0, HE, ?_, fun _ _ => trivial, ?_, fun h => by simp [Fence.wide] at h, hcall.mono ?_⟩
  · simp only [resolve, hg]
    simp [go_sem]
  · simp [invoke, go_sem, eg]
  · rintro e V ⟨⟨v, rfl⟩, hi, hl⟩
    refine ⟨none, _, run_endLoop hl.rcd (by simp [recD]), ?_⟩
    exact hdone w.heap.size _ (Nat.le_refl _) (hI.putObj _ hi (Nat.le_succ _) hl.rcd rfl) ((World.putObj_heap_other (by omega)).trans hl.dfr)
theorem yield_at {P : Program} {l m : Nat} {args : Array Value} {V : World} {R : Ending → World → Prop} (h : YieldAt Fence.wide m P l args V R) (l' m' : Nat) : YieldAt (Fence.wide.inRound l') m' P l args V R := by
  obtain ⟨fn, tmps, assign, body, hy, hR⟩ := h
  exact ⟨fn, tmps, assign, body, hy, ⟨trivial, fun c cs _ => hR.2 c cs (fun d hd => by cases hd)⟩⟩
end Go.Proofs.YtifmdgncgokikaaGreat.Ins
namespace Go.Proofs.YtifmdgncgokikaaGreat.Own
open Go.ChangeShapes Go.WideShapes Go.ChangeAt Go.RowKit
open Kit
set_option linter.unusedVariables false
set_option linter.unusedSimpArgs false
set_option linter.unnecessarySimpa false
def Lies (w : World) (a : Option Addr) (cs : List Value) : Prop := cs = [] ∨ ∃ g o, a = some ⟨g, o, none⟩ ∧ g < w.heap.size ∧ ∀ j u, cs[j]? = some u → w.cell? ⟨g, o + j, none⟩ = some u
theorem Lies.on {w w' : World} {a : Option Addr} {cs : List Value} (h : Lies w a cs) (hb : Below w.heap.size w w') : Lies w' a cs := by
  rcases h with h | ⟨g, o, ha, hg, h⟩
  · exact .inl h
  · exact .inr ⟨g, o, ha, Nat.lt_of_lt_of_le hg hb.size, fun j u hu => (hb.cell (p := ⟨g, _, none⟩) hg).trans (h j u hu)⟩
theorem Lies.drew {w : World} {a : Option Addr} {cs : List Value} (h : Lies w a cs) : Lies w.drew a cs := h
theorem add_off {g o j : Nat} : (⟨g, o, none⟩ : Addr).add j = ⟨g, o + j, none⟩ := by
  by_cases h : j = 0
  · subst h; rfl
  · simp [Addr.add, h]
theorem Lies.new (w : World) (cs : Array Value) (t : TypeId) {b : Nat} (hb : w.heap.size = b) : Lies (w.alloc (.cells cs t)) (some ⟨b, 0, none⟩) cs.toList := by
  subst hb
  exact .inr ⟨_, 0, rfl, by simp, fun j u hu => by rw [Nat.zero_add, World.cell?_alloc_new]; simpa using hu⟩
def rowL (u : Value) : List Nat := u.ownBlock.toList
def ElemT (P : Program) (t e : TypeId) (k bytes : Nat) : Prop := ∃ i z, P.underlying t = some (.slice e) ∧ P.info? e = some i ∧ i.zero = some z ∧ i.size = k ∧ i.bytes = bytes ∧ z.cells.size = k ∧ 0 < k
theorem run_append_sl {P : Program} {t ty e : TypeId} {k bytes : Nat} (hT : ElemT P t e k bytes) (w : World) (base : Nat)
    (a1 : Option Addr) (n c1 : Nat) (xs : List Value) (hown : w.ownsRow base e k (.slice a1 n c1) n xs)
    (ax : Option Addr) (m c : Nat) (news : List Value) (hl : news.length = m * k) (hx : Lies w ax news) (h1 : ∀ u ∈ news, u.oneCell' = true)
    (h63 : n + m ≤ maxLen) (hbytes : (n + m) * bytes ≤ 140737488355328) (hbase : base ≤ w.heap.size) :
    ∃ a' c' w', (Builtin.append_ #[t, t] ty #[.slice a1 n c1, .slice ax m c]).run P w = .ok (.slice a' (n + m) c') w' ∧ w'.ownsRow base e k (.slice a' (n + m) c') (n + m) (xs ++ news) ∧ w.grownBy w' (Value.ownBlock (.slice a1 n c1)) ∧ (∀ b ∈ rowL (.slice a' (n + m) c'), b ∈ rowL (.slice a1 n c1) ∨ w.heap.size ≤ b) := by
  obtain ⟨i, z, ht, hi, hz, hsz, hby, hzs, hk⟩ := hT
  cases ax with
  | none =>
    have hm : m = 0 := by
      rcases hx with rfl | ⟨g, o, h, _⟩
      · have h0 : m * k = 0 := hl.symm
        rcases Nat.mul_eq_zero.1 h0 with h | h
        · exact h
        · omega
      · cases h
    subst hm
    obtain rfl : news = [] := List.eq_nil_of_length_eq_zero (by omega)
    refine ⟨a1, c1, w, ?_, by simpa using hown, ⟨rfl, rfl, rfl, Nat.le_refl _, fun _ _ _ => rfl⟩, fun b hb => .inl (by simpa using hb)⟩
    rcases hown.2 with ⟨h, rfl⟩ | ⟨g, cap, cur, h, hb, hg, hnc, hcm, hcs, ht2⟩
    · injection h with h1 h2 h3
      subst h1; subst h3
      simp [Builtin.append_, run_underlying ht, sizeOf, typeInfo, hi, Builtin.lenOf, Builtin.firstCells, loadCells, loadCellsFrom]
    · injection h with h1 h2 h3
      subst h1; subst h3
      simp [Builtin.append_, run_underlying ht, sizeOf, typeInfo, hi, Builtin.lenOf, Builtin.firstCells, loadCells, loadCellsFrom, hnc, storeCells]
  | some ad =>
    have hn : ∀ j u, news[j]? = some u → w.cell? (ad.add j) = some u := by
      rcases hx with rfl | ⟨g, o, h, _, h2⟩
      · intro j u hu; simp at hu
      · injection h with h; subst h
        intro j u hu; rw [add_off]; exact h2 j u hu
    obtain ⟨v', w', hr, h2, h3, _, h5⟩ := run_append_own_at (P := P) w base t ty e i z k bytes ht hi hz hsz hby hzs hk _ n xs hown ad m c news hl hn h1 h63 hbytes hbase
    obtain ⟨a', c', rfl⟩ : ∃ a' c', v' = .slice a' (n + m) c' := by
      rcases h2.2 with ⟨rfl, h0⟩ | ⟨g, cap, cur, rfl, _⟩
      · rw [h0]; exact ⟨_, _, rfl⟩
      · exact ⟨_, _, rfl⟩
    refine ⟨a', c', w', hr, h2, h3, fun b hb => ?_⟩
    have hb' : Value.ownBlock (.slice a' (n + m) c') = some b := by simpa [rowL] using hb
    rcases h5 with h5 | h5
    · left; rw [rowL, ← h5]; simpa [rowL] using hb
    · right
      rw [hb'] at h5
      simp at h5
      omega
section
variable {P : Program} {t e : TypeId} {k bytes : Nat}
theorem wp_append_sl (w : World) {o : Oper} {a : Act} {K : Act → World → Prop} {Q : Exit → Act → World → Prop} (hT : ElemT P t e k bytes) (s x : Operand)
    (ho : o.op = .call { callee := .builtin .append, args := #[s, x], argTypes := #[t, t] }) (base : Nat)
    (a1 : Option Addr) (n c1 : Nat) (xs : List Value) (hs : a.eval s = .slice a1 n c1) (hown : w.ownsRow base e k (.slice a1 n c1) n xs)
    (ax : Option Addr) (m c : Nat) (news : List Value) (hxe : a.eval x = .slice ax m c) (hl : news.length = m * k) (hx : Lies w ax news) (h1 : ∀ u ∈ news, u.oneCell' = true)
    (h63 : n + m ≤ maxLen) (hbytes : (n + m) * bytes ≤ 140737488355328) (hbase : base ≤ w.heap.size)
    (h : ∀ a' c' w', w'.ownsRow base e k (.slice a' (n + m) c') (n + m) (xs ++ news) → w.grownBy w' (Value.ownBlock (.slice a1 n c1)) → (∀ b ∈ rowL (.slice a' (n + m) c'), b ∈ rowL (.slice a1 n c1) ∨ w.heap.size ≤ b) → K (a.put o.dst (.slice a' (n + m) c')) w') : o.wp P a w K Q := by
  obtain ⟨a', c', w', hr, h2, h3, h4⟩ := run_append_sl (P := P) (ty := o.type) hT w base a1 n c1 xs hown ax m c news hl hx h1 h63 hbytes hbase
  unfold Oper.wp execOp
  simp only [ho, resolve, invoke, builtin, Sem.run_bind, Sem.run_pure, Result.andThen_ok, List.map_toArray, List.map_cons, List.map_nil, hs, hxe, hr]
  exact h a' c' w' h2 h3 h4
theorem wpList_append_sl (w : World) {ops : Array Oper} {rest : List Oper} {o : Oper} {a : Act} {Q : Exit → Act → World → Prop} (hT : ElemT P t e k bytes) (hgd : o.guard = none) (s x : Operand)
    (ho : o.op = .call { callee := .builtin .append, args := #[s, x], argTypes := #[t, t] }) (base : Nat)
    (a1 : Option Addr) (n c1 : Nat) (xs : List Value) (hs : a.eval s = .slice a1 n c1) (hown : w.ownsRow base e k (.slice a1 n c1) n xs)
    (ax : Option Addr) (m c : Nat) (news : List Value) (hxe : a.eval x = .slice ax m c) (hl : news.length = m * k) (hx : Lies w ax news) (h1 : ∀ u ∈ news, u.oneCell' = true)
    (h63 : n + m ≤ maxLen) (hbytes : (n + m) * bytes ≤ 140737488355328) (hbase : base ≤ w.heap.size)
    (h : ∀ a' c' w', w'.ownsRow base e k (.slice a' (n + m) c') (n + m) (xs ++ news) → w.grownBy w' (Value.ownBlock (.slice a1 n c1)) → (∀ b ∈ rowL (.slice a' (n + m) c'), b ∈ rowL (.slice a1 n c1) ∨ w.heap.size ≤ b) → wpList P ops Q rest (a.put o.dst (.slice a' (n + m) c')) w') : wpList P ops Q (o :: rest) a w :=
  wpList_plain hgd fun _ hK => wp_append_sl w hT s x ho base a1 n c1 xs hs hown ax m c news hxe hl hx h1 h63 hbytes hbase fun a' c' w' h2 h3 h4 => hK _ _ (h a' c' w' h2 h3 h4)
theorem step_append_sl {w : World} {ops : Array Oper} {o : Oper} {a : Act} {K : Act → World → Prop} {Q : Exit → Act → World → Prop} {E : Prop} (hT : ElemT P t e k bytes) (hgd : o.guard = none) (s x : Operand)
    (ho : o.op = .call { callee := .builtin .append, args := #[s, x], argTypes := #[t, t] }) (base : Nat)
    (a1 : Option Addr) (n c1 : Nat) (xs : List Value) (hs : a.eval s = .slice a1 n c1) (hown : w.ownsRow base e k (.slice a1 n c1) n xs)
    (ax : Option Addr) (m c : Nat) (news : List Value) (hxe : a.eval x = .slice ax m c) (hl : news.length = m * k) (hx : Lies w ax news) (h1 : ∀ u ∈ news, u.oneCell' = true)
    (h63 : n + m ≤ maxLen) (hbytes : (n + m) * bytes ≤ 140737488355328) (hbase : base ≤ w.heap.size)
    (h : ∀ a' c' w', w'.ownsRow base e k (.slice a' (n + m) c') (n + m) (xs ++ news) → w.grownBy w' (Value.ownBlock (.slice a1 n c1)) → (∀ b ∈ rowL (.slice a' (n + m) c'), b ∈ rowL (.slice a1 n c1) ∨ w.heap.size ≤ b) → K (a.put o.dst (.slice a' (n + m) c')) w') :
    if Region.wanted o (yielded ops a.tmps) = true then Oper.wp P o a w K Q else E := by
  have hw : Region.wanted o (yielded ops a.tmps) = true := by simp [Region.wanted, hgd]
  rw [if_pos hw]
  exact wp_append_sl w hT s x ho base a1 n c1 xs hs hown ax m c news hxe hl hx h1 h63 hbytes hbase h
end
end Go.Proofs.YtifmdgncgokikaaGreat.Own
