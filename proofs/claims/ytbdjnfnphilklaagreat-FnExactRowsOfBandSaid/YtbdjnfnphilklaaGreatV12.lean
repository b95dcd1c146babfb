/-
  Texts of this seat, laid together: App, Ck9, Draw, DrawPlus, DrawPt
-/
import Derived.Deep.AppendLies
import Derived.Test.YtbdjnfnphilklaaGreatRows
import Derived.WalkKit
import Derived.ProofKit
import Derived.OpenShut
import Derived.Below
import Derived.LoopTactic
import Derived.Outline
import Derived.RegionTactic
import Derived.Deep.QuietTactic
import Derived.BigQuiet
import Derived.Handy
import Derived.Deep.RegionHeld
import Derived.Maps.AppendAt
import Derived.OwnWalk
import Derived.Test.YtbdjnfnphilklaaGreatV01
import Derived.Test.YtbdjnfnphilklaaGreatV20
import Derived.Test.YtbdjnfnphilklaaGreatV17
import Derived.Test.YtbdjnfnphilklaaGreatV07
namespace Go.Proofs.YtbdjnfnphilklaaGreat.Own
open Go.ChangeShapes Go.WideShapes Go.ChangeAt Go.RowKit
open Kit
set_option linter.unusedVariables false
set_option linter.unusedSimpArgs false
set_option linter.unnecessarySimpa false
def Lies (w : World) (a : Option Addr) (cs : List Value) : Prop := cs = [] ∨ ∃ g o, a = some ⟨g, o, none⟩ ∧ g < w.heap.size ∧ ∀ j u, cs[j]? = some u → w.cell? ⟨g, o + j, none⟩ = some u
theorem Lies.on {w w' : World} {a : Option Addr} {cs : List Value} (h : Lies w a cs) (hb : Below w.heap.size w w') : Lies w' a cs := by
  rcases h with h | ⟨g, o, ha, hg, h⟩
  · exact .inl h
  · exact .inr ⟨g, o, ha, Nat.lt_of_lt_of_le hg hb.size, fun j u hu => (hb.cell (p := ⟨g, _, none⟩) hg).trans (h j u hu)⟩
theorem Lies.drew {w : World} {a : Option Addr} {cs : List Value} (h : Lies w a cs) : Lies w.drew a cs := h
theorem add_off {g o j : Nat} : (⟨g, o, none⟩ : Addr).add j = ⟨g, o + j, none⟩ := by
  by_cases h : j = 0
  · subst h; rfl
  · simp [Addr.add, h]
theorem Lies.new (w : World) (cs : Array Value) (t : TypeId) {b : Nat} (hb : w.heap.size = b) : Lies (w.alloc (.cells cs t)) (some ⟨b, 0, none⟩) cs.toList := by
  subst hb
  exact .inr ⟨_, 0, rfl, by simp, fun j u hu => by rw [Nat.zero_add, World.cell?_alloc_new]; simpa using hu⟩
def rowL (u : Value) : List Nat := u.ownBlock.toList
def ElemT (P : Program) (t e : TypeId) (k bytes : Nat) : Prop := ∃ i z, P.underlying t = some (.slice e) ∧ P.info? e = some i ∧ i.zero = some z ∧ i.size = k ∧ i.bytes = bytes ∧ z.cells.size = k ∧ 0 < k
theorem run_append_sl {P : Program} {t ty e : TypeId} {k bytes : Nat} (hT : ElemT P t e k bytes) (w : World) (base : Nat)
    (a1 : Option Addr) (n c1 : Nat) (xs : List Value) (hown : w.ownsRow base e k (.slice a1 n c1) n xs)
    (ax : Option Addr) (m c : Nat) (news : List Value) (hl : news.length = m * k) (hx : Lies w ax news) (h1 : ∀ u ∈ news, u.oneCell' = true)
    (h63 : n + m ≤ maxLen) (hbytes : (n + m) * bytes ≤ 140737488355328) (hbase : base ≤ w.heap.size) :
    ∃ a' c' w', (Builtin.append_ #[t, t] ty #[.slice a1 n c1, .slice ax m c]).run P w = .ok (.slice a' (n + m) c') w' ∧ w'.ownsRow base e k (.slice a' (n + m) c') (n + m) (xs ++ news) ∧ w.grownBy w' (Value.ownBlock (.slice a1 n c1)) ∧ (∀ b ∈ rowL (.slice a' (n + m) c'), b ∈ rowL (.slice a1 n c1) ∨ w.heap.size ≤ b) := by
  obtain ⟨i, z, ht, hi, hz, hsz, hby, hzs, hk⟩ := hT
  cases ax with
  | none =>
    have hm : m = 0 := by
      rcases hx with rfl | ⟨g, o, h, _⟩
      · have h0 : m * k = 0 := hl.symm
        rcases Nat.mul_eq_zero.1 h0 with h | h
        · exact h
        · omega
      · cases h
    subst hm
    obtain rfl : news = [] := List.eq_nil_of_length_eq_zero (by omega)
    refine ⟨a1, c1, w, ?_, by simpa using hown, ⟨rfl, rfl, rfl, Nat.le_refl _, fun _ _ _ => rfl⟩, fun b hb => .inl (by simpa using hb)⟩
    rcases hown.2 with ⟨h, rfl⟩ | ⟨g, cap, cur, h, hb, hg, hnc, hcm, hcs, ht2⟩
    · injection h with h1 h2 h3
      subst h1; subst h3
      simp [Builtin.append_, run_underlying ht, sizeOf, typeInfo, hi, Builtin.lenOf, Builtin.firstCells, loadCells, loadCellsFrom]
    · injection h with h1 h2 h3
      subst h1; subst h3
      simp [Builtin.append_, run_underlying ht, sizeOf, typeInfo, hi, Builtin.lenOf, Builtin.firstCells, loadCells, loadCellsFrom, hnc, storeCells]
  | some ad =>
    have hn : ∀ j u, news[j]? = some u → w.cell? (ad.add j) = some u := by
      rcases hx with rfl | ⟨g, o, h, _, h2⟩
      · intro j u hu; simp at hu
      · injection h with h; subst h
        intro j u hu; rw [add_off]; exact h2 j u hu
    obtain ⟨v', w', hr, h2, h3, _, h5⟩ := run_append_own_at (P := P) w base t ty e i z k bytes ht hi hz hsz hby hzs hk _ n xs hown ad m c news hl hn h1 h63 hbytes hbase
    obtain ⟨a', c', rfl⟩ : ∃ a' c', v' = .slice a' (n + m) c' := by
      rcases h2.2 with ⟨rfl, h0⟩ | ⟨g, cap, cur, rfl, _⟩
      · rw [h0]; exact ⟨_, _, rfl⟩
      · exact ⟨_, _, rfl⟩
    refine ⟨a', c', w', hr, h2, h3, fun b hb => ?_⟩
    have hb' : Value.ownBlock (.slice a' (n + m) c') = some b := by simpa [rowL] using hb
    rcases h5 with h5 | h5
    · left; rw [rowL, ← h5]; simpa [rowL] using hb
    · right
      rw [hb'] at h5
      simp at h5
      omega
section
variable {P : Program} {t e : TypeId} {k bytes : Nat}
theorem wp_append_sl (w : World) {o : Oper} {a : Act} {K : Act → World → Prop} {Q : Exit → Act → World → Prop} (hT : ElemT P t e k bytes) (s x : Operand)
    (ho : o.op = .call { callee := .builtin .append, args := #[s, x], argTypes := #[t, t] }) (base : Nat)
    (a1 : Option Addr) (n c1 : Nat) (xs : List Value) (hs : a.eval s = .slice a1 n c1) (hown : w.ownsRow base e k (.slice a1 n c1) n xs)
    (ax : Option Addr) (m c : Nat) (news : List Value) (hxe : a.eval x = .slice ax m c) (hl : news.length = m * k) (hx : Lies w ax news) (h1 : ∀ u ∈ news, u.oneCell' = true)
    (h63 : n + m ≤ maxLen) (hbytes : (n + m) * bytes ≤ 140737488355328) (hbase : base ≤ w.heap.size)
    (h : ∀ a' c' w', w'.ownsRow base e k (.slice a' (n + m) c') (n + m) (xs ++ news) → w.grownBy w' (Value.ownBlock (.slice a1 n c1)) → (∀ b ∈ rowL (.slice a' (n + m) c'), b ∈ rowL (.slice a1 n c1) ∨ w.heap.size ≤ b) → K (a.put o.dst (.slice a' (n + m) c')) w') : o.wp P a w K Q := by
  obtain ⟨a', c', w', hr, h2, h3, h4⟩ := run_append_sl (P := P) (ty := o.type) hT w base a1 n c1 xs hown ax m c news hl hx h1 h63 hbytes hbase
  unfold Oper.wp execOp
  simp only [ho, resolve, invoke, builtin, Sem.run_bind, Sem.run_pure, Result.andThen_ok, List.map_toArray, List.map_cons, List.map_nil, hs, hxe, hr]
  exact h a' c' w' h2 h3 h4
theorem wpList_append_sl (w : World) {ops : Array Oper} {rest : List Oper} {o : Oper} {a : Act} {Q : Exit → Act → World → Prop} (hT : ElemT P t e k bytes) (hgd : o.guard = none) (s x : Operand)
    (ho : o.op = .call { callee := .builtin .append, args := #[s, x], argTypes := #[t, t] }) (base : Nat)
    (a1 : Option Addr) (n c1 : Nat) (xs : List Value) (hs : a.eval s = .slice a1 n c1) (hown : w.ownsRow base e k (.slice a1 n c1) n xs)
    (ax : Option Addr) (m c : Nat) (news : List Value) (hxe : a.eval x = .slice ax m c) (hl : news.length = m * k) (hx : Lies w ax news) (h1 : ∀ u ∈ news, u.oneCell' = true)
    (h63 : n + m ≤ maxLen) (hbytes : (n + m) * bytes ≤ 140737488355328) (hbase : base ≤ w.heap.size)
    (h : ∀ a' c' w', w'.ownsRow base e k (.slice a' (n + m) c') (n + m) (xs ++ news) → w.grownBy w' (Value.ownBlock (.slice a1 n c1)) → (∀ b ∈ rowL (.slice a' (n + m) c'), b ∈ rowL (.slice a1 n c1) ∨ w.heap.size ≤ b) → wpList P ops Q rest (a.put o.dst (.slice a' (n + m) c')) w') : wpList P ops Q (o :: rest) a w :=
  wpList_plain hgd fun _ hK => wp_append_sl w hT s x ho base a1 n c1 xs hs hown ax m c news hxe hl hx h1 h63 hbytes hbase fun a' c' w' h2 h3 h4 => hK _ _ (h a' c' w' h2 h3 h4)
theorem step_append_sl {w : World} {ops : Array Oper} {o : Oper} {a : Act} {K : Act → World → Prop} {Q : Exit → Act → World → Prop} {E : Prop} (hT : ElemT P t e k bytes) (hgd : o.guard = none) (s x : Operand)
    (ho : o.op = .call { callee := .builtin .append, args := #[s, x], argTypes := #[t, t] }) (base : Nat)
    (a1 : Option Addr) (n c1 : Nat) (xs : List Value) (hs : a.eval s = .slice a1 n c1) (hown : w.ownsRow base e k (.slice a1 n c1) n xs)
    (ax : Option Addr) (m c : Nat) (news : List Value) (hxe : a.eval x = .slice ax m c) (hl : news.length = m * k) (hx : Lies w ax news) (h1 : ∀ u ∈ news, u.oneCell' = true)
    (h63 : n + m ≤ maxLen) (hbytes : (n + m) * bytes ≤ 140737488355328) (hbase : base ≤ w.heap.size)
    (h : ∀ a' c' w', w'.ownsRow base e k (.slice a' (n + m) c') (n + m) (xs ++ news) → w.grownBy w' (Value.ownBlock (.slice a1 n c1)) → (∀ b ∈ rowL (.slice a' (n + m) c'), b ∈ rowL (.slice a1 n c1) ∨ w.heap.size ≤ b) → K (a.put o.dst (.slice a' (n + m) c')) w') :
    if Region.wanted o (yielded ops a.tmps) = true then Oper.wp P o a w K Q else E := by
  have hw : Region.wanted o (yielded ops a.tmps) = true := by simp [Region.wanted, hgd]
  rw [if_pos hw]
  exact wp_append_sl w hT s x ho base a1 n c1 xs hs hown ax m c news hxe hl hx h1 h63 hbytes hbase h
end
end Go.Proofs.YtbdjnfnphilklaaGreat.Own
namespace Go.Proofs.YtbdjnfnphilklaaGreat.Ins
open Go.ChangeShapes Go.WideShapes Go.ChangeAt Go.RowKit Go.Shelf
open Kit
set_option linter.unusedVariables false
set_option linter.unusedSimpArgs false
set_option linter.unnecessarySimpa false
attribute [local go_sem] Oper.semAt_some
attribute [local go_sem ↓] run_mn
def KeepT (V V' : World) : Prop := ∀ (k : Nat) (c : Array Value) (t : TypeId) (z : Nat × Nat), V.heap[k]? = some (.cells c t z) → t ≠ 105 → t ≠ 102 → V'.heap[k]? = some (.cells c t z)
theorem KeepT.trans {X Y Z : World} (h : KeepT X Y) (k : KeepT Y Z) : KeepT X Z := fun i c t z hi h1 h2 => k i c t z (h i c t z hi h1 h2) h1 h2
theorem KeepT.refl (X : World) : KeepT X X := fun _ _ _ _ h _ _ => h
theorem KeepT.putObj (V : World) (l : Nat) (r : Loop) (o : Obj) (h : V.heap[l]? = some (.loop r)) : KeepT V (V.putObj l o) := fun i c t z hi _ _ => by
  refine (World.putObj_heap_other fun e => ?_).trans hi
  subst e; rw [h] at hi; cases hi
theorem KeepT.below {V V' : World} (h : Below V.heap.size V V') : KeepT V V' := fun i c t z hi _ _ => (h.block i (Array.getElem?_eq_some_iff.1 hi).1).trans hi
theorem KeepT.boxed {V V' : World} (h : KeepT V V') {B : Nat} {t : TypeId} {v : Value} (hb : Boxed V B t v) (h1 : t ≠ 105) (h2 : t ≠ 102) : Boxed V' B t v := h B _ t _ hb h1 h2
theorem KeepT.row {V V' : World} (h : KeepT V V') {b n : Nat} {t : TypeId} {f : Nat → Value} (hr : V.rowIs b t n f) (h1 : t ≠ 105) (h2 : t ≠ 102) : V'.rowIs b t n f := by
  obtain ⟨c, hb, hn, hc⟩ := hr
  exact ⟨c, h b c t _ hb h1 h2, hn, hc⟩
theorem range_part {m k : Nat} (h : k < m) : List.range m = List.range k ++ k :: (List.range m).drop (k + 1) := by
  have h1 : (List.range m).take k = List.range k := by rw [List.take_range]; congr 1; omega
  have h2 : (List.range m).drop k = k :: (List.range m).drop (k + 1) := by
    rw [List.drop_eq_getElem_cons (by simpa using h)]; simp
  rw [← h2, ← h1, List.take_append_drop]
theorem ownFrom_drew {β : Type} {B : Nat} {J : β → World → Prop} (h : OwnFrom B J) {s : β} {V : World} (hs : J s V) : J s V.drew :=
  h s V V.drew none hs ⟨rfl, rfl, rfl, Nat.le_refl _, fun _ _ _ => rfl⟩ (fun r e => by cases e)
theorem ownFrom_on {β : Type} {B : Nat} {J : β → World → Prop} (h : OwnFrom B J) {s : β} {V V' : World} (hs : J s V) (hb : Below V.heap.size V V') : J s V' :=
  h s V V' none hs ⟨hb.os, hb.tape, hb.output, hb.size, fun k hk _ => hb.block k hk⟩ (fun r e => by cases e)
set_option maxRecDepth 100000 in
set_option maxHeartbeats 2000000 in
theorem chunk_gives (b0 b1 g c m : Nat) (w : World) (h0 : Boxed w b0 69 (.slice (some ⟨g, 0, none⟩) (2 * m) c)) (h1 : Boxed w b1 3 (.int .i64 2)) (hc : 2 * m ≤ c) (hm : c ≤ maxLen) :
    Gives Tryz.prog 144 #[.pointer (some ⟨b0, 0, none⟩), .pointer (some ⟨b1, 0, none⟩)] (fun k : Nat => #[.slice (some ⟨g, 2 * k, none⟩) 2 2]) KeepT (List.range m) w := by
  intro l n J W hW hJ hY hJ0
  have hm : c ≤ 9223372036854775807 := by unfold maxLen at hm; omega
  have H0 : Boxed W b0 69 (.slice (some ⟨g, 0, none⟩) (2 * m) c) := (hW.block _ h0.lt).trans h0
  have H1 : Boxed W b1 3 (.int .i64 2) := (hW.block _ h1.lt).trans h1
  refine callsIn_of_wp Tryz.func144 rfl trivial ?_ rfl
  simp only [Tryz.ntmps144, List.size_toArray, List.length_cons, List.length_nil, Nat.reduceAdd, Nat.reduceSub, Array.replicate_succ, Array.replicate_zero, List.push_toArray, List.append_toArray, List.nil_append, List.cons_append]
  gi_wp2
  gi_loopw [4] (fun p wr => ∃ k : Nat, k ≤ m ∧ p = .int .i64 (2 * (k : Int)) ∧ Boxed wr b0 69 (.slice (some ⟨g, 0, none⟩) (2 * m) c) ∧ Boxed wr b1 3 (.int .i64 2) ∧ J (List.range k) wr) (fun p wr => 2 * m - (intOf p).toNat)
  case atStart => exact ⟨0, Nat.zero_le _, rfl, H0, H1, hJ0⟩
  case round =>
    obtain ⟨k, hk, rfl, B0, B1, hJk⟩ := hrel
    have c0 := B0.cell
    have c1 := B1.cell
    by_cases hlt : k < m
    · have i0 : (0 : Int) ≤ 2 * (k : Int) := by omega
      have i1 : 2 * (k : Int) < 2 * (m : Int) := by omega
      have hck : ¬ (c = 2 * k) := by omega
      have hmn : mn 2 ((2 * m - 2 * k : Nat) : Int) = 2 := by unfold mn; omega
      have hw2 : wrap64 (2 * (k : Int) + 2) = 2 * (k : Int) + 2 := by unfold wrap64; omega
      have ht2 : (2 * (k : Int) + 2).toNat = 2 * k + 2 := by omega
      have j0 : (0 : Int) ≤ 2 * (k : Int) + 2 := by omega
      have j1 : 2 * (k : Int) + 2 ≤ (c : Int) := by omega
      have j2 : ¬ (2 * k + 2 = 2 * k) := by omega
      have j3 : max (2 * (k : Int) + 2) 0 = 2 * (k : Int) + 2 := by omega
      have j4 : 2 * (k : Int) ≤ 2 * (k : Int) + 2 := by omega
      obtain ⟨fn, tmps, assign, body, hy, hR⟩ := hY (n - 1) (List.range k) k _ wr.drew (range_part hlt) (ownFrom_drew hJ hJk)
      gi_wp2
      gi_region
      gi_wp2
      refine ⟨fun h => by simp [Fence.wide] at h, hR.mono ?_⟩
      rintro e W3 ⟨rfl, hJ3, hk3, _⟩
      have B03 : Boxed W3 b0 69 (.slice (some ⟨g, 0, none⟩) (2 * m) c) := hk3.boxed B0 (by decide) (by decide)
      have B13 : Boxed W3 b1 3 (.int .i64 2) := hk3.boxed B1 (by decide) (by decide)
      have c03 := B03.cell
      have c13 := B13.cell
      gi_wp2
      go_roundw
      case rel => exact ⟨k + 1, by omega, by go_num, B03, B13, by rw [List.range_succ]; exact hJ3⟩
      case measure => simp [intOf]; omega
    · obtain rfl : k = m := by omega
      gi_wp2
      go_end0
      exact ⟨⟨_, rfl⟩, hJk⟩
theorem chunk_none (b0 b1 g : Nat) (w : World) (h0 : Boxed w b0 69 (.slice none 0 0)) :
    Gives Tryz.prog 144 #[.pointer (some ⟨b0, 0, none⟩), .pointer (some ⟨b1, 0, none⟩)] (fun k : Nat => #[.slice (some ⟨g, 2 * k, none⟩) 2 2]) KeepT (List.range 0) w := by
  intro l n J W hW hJ hY hJ0
  have H0 : Boxed W b0 69 (.slice none 0 0) := (hW.block _ h0.lt).trans h0
  have c0 := H0.cell
  refine callsIn_of_wp Tryz.func144 rfl trivial ?_ rfl
  simp only [Tryz.ntmps144, List.size_toArray, List.length_cons, List.length_nil, Nat.reduceAdd, Nat.reduceSub, Array.replicate_succ, Array.replicate_zero, List.push_toArray, List.append_toArray, List.nil_append, List.cons_append]
  gi_wp2
  gi_loopw [4] (fun p wr => p = .int .i64 0 ∧ wr = W) (fun p wr => 0)
  case atStart => exact ⟨rfl, rfl⟩
  case round =>
    obtain ⟨rfl, rfl⟩ := hrel
    gi_wp2
    go_end0
    exact ⟨⟨_, rfl⟩, hJ0⟩
theorem chunk_call (a : Option Addr) (n c : Nat) (w : World) :
    Calls Tryz.prog 142 #[.slice a n c, .int .i64 2] w fun e w' => e = .returned (.func (.func 144) #[] #[.pointer (some ⟨w.heap.size, 0, none⟩), .pointer (some ⟨w.heap.size + 1, 0, none⟩)]) ∧ w' = (w.alloc (.cells #[.slice a n c] 69)).alloc (.cells #[.int .i64 2] 3) := by
  go_enter Tryz.func142, Tryz.ntmps142
  go_wp2
  go_ret
  exact ⟨rfl, rfl⟩
end Go.Proofs.YtbdjnfnphilklaaGreat.Ins
namespace Go.Proofs.YtbdjnfnphilklaaGreat.Draw
open Go.ChangeShapes Go.WideShapes Go.ChangeAt Go.RowKit
set_option linter.unusedVariables false
theorem and255 (x : Int) : 0 ≤ bits BinOp.and .i64 x 255 ∧ bits BinOp.and .i64 x 255 ≤ 255 := by
  unfold bits
  have h : (BitVec.ofInt IntKind.i64.bits x &&& BitVec.ofInt IntKind.i64.bits 255).toNat ≤ 255 := by
    rw [BitVec.toNat_and]
    exact Nat.le_trans Nat.and_le_right (by decide)
  simp only []
  rw [IntWalk.i64_in _ (by omega)]
  omega
theorem row_cells {k : IntKind} {w : World} {x : Addr} {cap : Nat} {zs : List Int} (hz : zs.length = cap) (hc : ∀ i, i < zs.length → w.cell? (x.add i) = some (.int k (zs.getD i 0))) (h0 : 0 < cap) :
    x.spot = none ∧ x.block < w.heap.size ∧ ∀ i, i < cap → w.cell? ⟨x.block, x.off + i, none⟩ = some (.int k (zs.getD i 0)) := by
  have h := hc 0 (by omega)
  obtain ⟨xb, xo, xs⟩ := x
  have hxs : xs = none := by simpa [Addr.add] using World.cell?_spot h
  subst hxs
  have hb : xb < w.heap.size := by simpa [Addr.add] using World.block_lt_of_cell? w _ h
  refine ⟨rfl, hb, fun i hi => ?_⟩
  have h1 := hc i (by omega)
  by_cases hi0 : i = 0
  · subst hi0; simpa [Addr.add] using h1
  · simpa [Addr.add, hi0] using h1
structure CurAt (w : World) (b : Nat) (a : Option Addr) (len cap : Nat) (i h : Int) : Prop where
  c0 : w.cell? ⟨b, 0, none⟩ = some (.slice a len cap)
  c1 : w.cell? ⟨b, 1, none⟩ = some (.int .i64 i)
  c2 : w.cell? ⟨b, 2, none⟩ = some (.int .i64 h)
  f1 : w.frozen? ⟨b, 1, none⟩ = false
  f2 : w.frozen? ⟨b, 2, none⟩ = false
structure Draws (W : World) (a : Option Addr) (len cap : Nat) (z : List Int) (b : Nat) (w : World) : Prop where
  row : IsRow .u8 W a len cap z
  far : W.heap.size ≤ b
  here : b < w.heap.size
  cur : ∃ i h : Int, 0 ≤ i ∧ i ≤ len ∧ CurAt w b a len cap i h
  below : Below W.heap.size W w
def Drawn (W : World) (a : Option Addr) (len cap : Nat) (z : List Int) (b : Nat) (w w' : World) : Prop :=
  Draws W a len cap z b w' ∧ w.grownBy w' (some b)
theorem row_len {W : World} {a : Option Addr} {len cap : Nat} {z : List Int} (h : IsRow .u8 W a len cap z) : len ≤ 9223372036854775807 := by
  rcases h with ⟨rfl, rfl, rfl, rfl⟩ | ⟨x, rfl, hl, hm, hz, hcell, hwz⟩
  · omega
  · unfold maxLen at hm; omega
theorem Draws.next {W w : World} {a : Option Addr} {len cap : Nat} {z : List Int} {b : Nat} (d : Draws W a len cap z b w) {i h : Int} (hi : 0 ≤ i) (hl : i ≤ len) {w' : World} (hc : CurAt w' b a len cap i h) (hb : Below W.heap.size W w') (hs : w.heap.size ≤ w'.heap.size) (hg : w.grownBy w' (some b)) : Drawn W a len cap z b w w' :=
  ⟨⟨d.row, d.far, Nat.lt_of_lt_of_le d.here hs, ⟨i, h, hi, hl, hc⟩, hb⟩, hg⟩
theorem Below.drewN {B : Nat} {a w : World} (h : Below B a w) (n : Nat) : Below B a (w.drewN n) := ⟨h.os, h.tape, h.output, h.size, h.block⟩
theorem grown_set {w w' : World} {b : Nat} (h : w.grownBy w' (some b)) (o : Nat) (v : Value) : w.grownBy (w'.setCell ⟨b, o, none⟩ v) (some b) :=
  ⟨h.os, h.tape, h.output, by simpa [World.setCell] using h.size, fun k hk hne => by rw [Below.heap_setCell _ _ _ _ (by intro e; exact hne (by rw [e]))]; exact h.block k hk hne⟩
theorem grown_drew {w w' : World} {row : Option Nat} (h : w.grownBy w' row) : w.grownBy w'.drew row := ⟨h.os, h.tape, h.output, h.size, h.block⟩
theorem grown_drewN {w w' : World} {row : Option Nat} (h : w.grownBy w' row) (n : Nat) : w.grownBy (w'.drewN n) row := ⟨h.os, h.tape, h.output, h.size, h.block⟩
set_option maxHeartbeats 1000000 in
theorem byte_any (W w : World) (b : Nat) (a : Option Addr) (len cap : Nat) (z : List Int) (d : Draws W a len cap z b w) :
    Calls Tryz.prog 97 #[.pointer (some ⟨b, 0, none⟩)] w fun e w' => ∃ x : Int, 0 ≤ x ∧ x ≤ 255 ∧ e = .returned (.int .i64 x) ∧ Drawn W a len cap z b w w' := by
  have hlen := row_len d.row
  obtain ⟨i, h, hi, hi2, c0, c1, c2, f1, f2⟩ := d.cur
  have hfar := d.far
  have hbel := d.below
  by_cases hlt : i < len
  · have hd : decide (i < (len : Int)) = true := by simpa using hlt
    rcases d.row with ⟨rfl, rfl, rfl, rfl⟩ | ⟨x, rfl, hl, hm, hz, hcell, hwz⟩
    · exfalso; omega
    · obtain ⟨xb, xo, xs⟩ := x
      obtain ⟨hxs, hxlt, hcs⟩ := row_cells hz hcell (by omega)
      simp only at hxs hxlt hcs
      subst hxs
      have hne : b ≠ xb := by omega
      have hcx : w.cell? ⟨xb, xo + i.toNat, none⟩ = some (.int .u8 (z.getD i.toNat 0)) := by
        rw [hbel.cell (p := ⟨xb, xo + i.toNat, none⟩) hxlt]; exact hcs _ (by omega)
      clear hcs hcell
      go_enter Tryz.func97, Tryz.ntmps97
      go_wp2
      go_quiet (fail)
      go_wp2
      go_quiet (fail)
      go_wp2
      go_quiet (fail)
      go_wp2
      go_ret
      refine ⟨_, (and255 _).1, (and255 _).2, rfl, d.next (i := i + 1) (by omega) (by omega) (h := wrap64 (wrap64 (h * 6364136223846793005) + 1442695040888963407)) ⟨?_, ?_, ?_, ?_, ?_⟩ ?_ ?_ ?_⟩
      · go_cell
      · go_cell
      · go_cell
      · simp [f1]
      · simp [f2]
      · exact ((hbel.setCell (by exact hfar) _).trans (Below.drewN (Below.refl _ _) _)).setCell (by exact hfar) _
      · simp
      · exact grown_set (grown_drewN (grown_set (World.grownBy.refl _ _) _ _) _) _ _
  · have hd : decide (i < (len : Int)) = false := by simpa using hlt
    go_enter Tryz.func97, Tryz.ntmps97
    go_wp2
    go_quiet (fail)
    go_wp2
    go_quiet (fail)
    go_wp2
    go_ret
    refine ⟨_, (and255 _).1, (and255 _).2, rfl, d.next hi hi2 (h := wrap64 (wrap64 (h * 6364136223846793005) + 1442695040888963407)) ⟨?_, ?_, ?_, ?_, ?_⟩ ?_ ?_ ?_⟩
    · go_cell
    · go_cell
    · go_cell
    · simp [f1]
    · simp [f2]
    · exact Below.drewN (Below.drewN (hbel.setCell (p := ⟨b, 2, none⟩) hfar _) _) _
    · simp
    · exact grown_drewN (grown_drewN (grown_set (World.grownBy.refl _ _) _ _) _) _
theorem Drawn.trans {W w w1 w2 : World} {a : Option Addr} {len cap : Nat} {z : List Int} {b : Nat} (h : Drawn W a len cap z b w w1) (k : Drawn W a len cap z b w1 w2) : Drawn W a len cap z b w w2 := ⟨k.1, h.2.trans k.2⟩
theorem Draws.same {W w : World} {a : Option Addr} {len cap : Nat} {z : List Int} {b : Nat} (d : Draws W a len cap z b w) : Drawn W a len cap z b w w := ⟨d, World.grownBy.refl _ _⟩
def Within (n r : Int) : Prop := 0 ≤ r ∧ (0 < n → r < n) ∧ (n ≤ 0 → r = 0)
theorem within_mod {n x : Int} (hn : 0 < n) : Within n (x % n) := ⟨Int.emod_nonneg _ (by omega), fun _ => Int.emod_lt_of_pos _ hn, fun h => by omega⟩
theorem byte_on (W w0 w : World) (b : Nat) (a : Option Addr) (len cap : Nat) (z : List Int) (d : Drawn W a len cap z b w0 w) :
    Calls Tryz.prog 97 #[.pointer (some ⟨b, 0, none⟩)] w fun e w' => ∃ x : Int, 0 ≤ x ∧ x ≤ 255 ∧ e = .returned (.int .i64 x) ∧ Drawn W a len cap z b w0 w' :=
  (byte_any W w b a len cap z d.1).mono fun _ _ ⟨x, h0, h1, he, d1⟩ => ⟨x, h0, h1, he, d.trans d1⟩
set_option maxHeartbeats 1000000 in
theorem below_on (W w0 w : World) (b : Nat) (a : Option Addr) (len cap : Nat) (z : List Int) (n : Int) (d : Drawn W a len cap z b w0 w) :
    Calls Tryz.prog 68 #[.pointer (some ⟨b, 0, none⟩), .int .i64 n] w fun e w' => ∃ r : Int, Within n r ∧ e = .returned (.int .i64 r) ∧ Drawn W a len cap z b w0 w' := by
  by_cases h0 : n ≤ 0
  · go_enter Tryz.func68, Tryz.ntmps68
    go_wp2
    go_ret
    exact ⟨0, ⟨by omega, fun _ => by omega, fun _ => rfl⟩, rfl, d⟩
  · by_cases h1 : n ≤ 256
    · go_enter Tryz.func68, Tryz.ntmps68
      go_wp2_with (go_at_call 97; refine (byte_on W _ _ b a len cap z (by assumption)).mono ?_; rintro e w' ⟨x, hx0, hx1, rfl, d1⟩)
      go_ret
      exact ⟨_, within_mod (by omega), rfl, by assumption⟩
    · go_enter Tryz.func68, Tryz.ntmps68
      go_wp2_with (go_at_call 97; refine (byte_on W _ _ b a len cap z (by assumption)).mono ?_; rintro e w' ⟨x, hx0, hx1, rfl, d1⟩)
      go_ret
      exact ⟨_, within_mod (by omega), rfl, by assumption⟩
theorem once_on (W w0 w : World) (b : Nat) (a : Option Addr) (len cap : Nat) (z : List Int) (n : Int) (d : Drawn W a len cap z b w0 w) :
    Calls Tryz.prog 101 #[.pointer (some ⟨b, 0, none⟩), .int .i64 n] w fun e w' => ∃ r : Bool, e = .returned (.bool r) ∧ Drawn W a len cap z b w0 w' := by
  go_enter Tryz.func101, Tryz.ntmps101
  go_wp2_with (go_at_call 68; refine (below_on W _ _ b a len cap z n (by assumption)).mono ?_; rintro e w' ⟨x, hx, rfl, d1⟩)
  go_ret
  exact ⟨_, rfl, by assumption⟩
theorem wf_mask (x : Int) : 0 ≤ bits BinOp.and .i64 x 1073741823 ∧ bits BinOp.and .i64 x 1073741823 ≤ 1073741823 := by
  unfold bits
  have h : (BitVec.ofInt IntKind.i64.bits x &&& BitVec.ofInt IntKind.i64.bits 1073741823).toNat ≤ 1073741823 := by
    rw [BitVec.toNat_and]
    exact Nat.le_trans Nat.and_le_right (by decide)
  simp only []
  rw [IntWalk.i64_in _ (by omega)]
  omega
set_option maxHeartbeats 1000000 in
theorem new_any (w : World) (a : Option Addr) (len cap : Nat) (z : List Int) (hr : IsRow .u8 w a len cap z) :
    Calls Tryz.prog 31 #[.slice a len cap] w fun e w' => e = .returned (.pointer (some ⟨w.heap.size, 0, none⟩)) ∧ Draws w a len cap z w.heap.size w' := by
  have hd : ∀ h : Int, Draws w a len cap z w.heap.size (w.alloc (.cells #[.slice a len cap, .int .i64 0, .int .i64 h] 94)) := by
    intro h
    refine ⟨hr, Nat.le_refl _, by simp, ⟨0, h, by omega, by omega, ⟨?_, ?_, ?_, ?_, ?_⟩⟩, (Below.refl _ _).alloc (Nat.le_refl _) _⟩
    all_goals simp [go_sem]
  have hrow := hr
  rcases hr with ⟨rfl, rfl, rfl, rfl⟩ | ⟨x, rfl, hl, hm, hz, hcell, hwz⟩
  · go_enter Tryz.func31, Tryz.ntmps31
    go_wp2
    go_loop [3, 4] (fun h i => i = .int .i64 0 ∧ ∃ q : Int, h = .int .i64 q) (fun _ _ => 0)
    case atStart => exact ⟨rfl, _, rfl⟩
    case round =>
      obtain ⟨rfl, q, rfl⟩ := hrel
      go_wp2
      go_ret
      exact ⟨rfl, hd _⟩
  · unfold maxLen at hm
    by_cases hcap : cap = 0
    · obtain rfl : len = 0 := by omega
      subst hcap
      go_enter Tryz.func31, Tryz.ntmps31
      go_wp2
      go_loop [3, 4] (fun h i => i = .int .i64 0 ∧ ∃ q : Int, h = .int .i64 q) (fun _ _ => 0)
      case atStart => exact ⟨rfl, _, rfl⟩
      case round =>
        obtain ⟨rfl, q, rfl⟩ := hrel
        go_wp2
        go_ret
        exact ⟨rfl, hd _⟩
    · obtain ⟨xb, xo, xs⟩ := x
      obtain ⟨hxs, hxlt, hcs⟩ := row_cells hz hcell (by omega)
      simp only at hxs hxlt hcs
      subst hxs
      clear hcell hwz
      have HD : Hid (∀ h : Int, Draws w (some ⟨xb, xo, none⟩) len cap z w.heap.size (w.alloc (.cells #[.slice (some ⟨xb, xo, none⟩) len cap, .int .i64 0, .int .i64 h] 94))) := hd
      have HC : Hid (∀ i, i < cap → w.cell? ⟨xb, xo + i, none⟩ = some (.int .u8 (z.getD i 0))) := hcs
      clear hd hcs
      go_enter Tryz.func31, Tryz.ntmps31
      go_wp2
      go_loop [3, 4] (fun h i => ∃ k : Nat, k ≤ len ∧ i = .int .i64 k ∧ ∃ q : Int, h = .int .i64 q) (fun _ i => len - (intOf i).toNat)
      case atStart => exact ⟨0, Nat.zero_le _, rfl, _, rfl⟩
      case round =>
        obtain ⟨k, hk, rfl, q, rfl⟩ := hrel
        by_cases hlt : k < len
        · by_cases h4 : (k : Int) < 4000
          · have hc := HC.out k (by omega)
            go_wp2
            go_round
            case rel => exact ⟨k + 1, by omega, by go_num, _, rfl⟩
            case measure => simp [intOf]; omega
          · go_wp2
            have := HD.out
            go_ret
            exact ⟨rfl, this _⟩
        · go_wp2
          have := HD.out
          go_ret
          exact ⟨rfl, this _⟩
theorem Drawn.alloc {W w0 w : World} {a : Option Addr} {len cap : Nat} {z : List Int} {b : Nat} (h : Drawn W a len cap z b w0 w) (o : Obj) : Drawn W a len cap z b w0 (w.alloc o) := by
  obtain ⟨d, g⟩ := h
  obtain ⟨i, q, hi, hl, c0, c1, c2, f1, f2⟩ := d.cur
  have hh := d.here
  refine Drawn.trans ⟨d, g⟩ ?_
  refine d.next hi hl (h := q) ⟨?_, ?_, ?_, ?_, ?_⟩ (d.below.alloc (Nat.le_trans d.far (Nat.le_of_lt hh)) _) (by simp) (World.grownBy_alloc _ _ _)
  · rw [World.cell?_of_block (w := w) (Below.heap_alloc _ _ _ hh)]; exact c0
  · rw [World.cell?_of_block (w := w) (Below.heap_alloc _ _ _ hh)]; exact c1
  · rw [World.cell?_of_block (w := w) (Below.heap_alloc _ _ _ hh)]; exact c2
  · rw [World.frozen?_of_block (w := w) (Below.heap_alloc _ _ _ hh)]; exact f1
  · rw [World.frozen?_of_block (w := w) (Below.heap_alloc _ _ _ hh)]; exact f2
theorem Drawn.ne {W w0 w : World} {a : Option Addr} {len cap : Nat} {z : List Int} {b : Nat} (h : Drawn W a len cap z b w0 w) : w.heap.size ≠ b := Nat.ne_of_gt h.1.here
theorem pickP_on (P : Int → Prop) (W w0 w : World) (b : Nat) (a : Option Addr) (len cap : Nat) (z : List Int) (g n c : Nat) (hg : g ≠ b) (hn : 0 < n) (hm : n ≤ 1000000) (hc : ∀ k, k < n → ∃ q : Int, P q ∧ w.cell? ⟨g, k, none⟩ = some (.int .i64 q)) (d : Drawn W a len cap z b w0 w) :
    Calls Tryz.prog 95 #[.pointer (some ⟨b, 0, none⟩), .slice (some ⟨g, 0, none⟩) n c] w fun e w' => ∃ q : Int, P q ∧ e = .returned (.int .i64 q) ∧ Drawn W a len cap z b w0 w' := by
  have HC : Hid (∀ k, k < n → ∃ q : Int, P q ∧ w.cell? ⟨g, k, none⟩ = some (.int .i64 q)) := hc
  clear hc
  have d0 := d.1.same
  have HD : Hid (Drawn W a len cap z b w0 w) := d
  clear d
  go_enter Tryz.func95, Tryz.ntmps95
  go_wp2_with (go_at_call 68; refine (below_on W w _ b a len cap z n (by assumption)).mono ?_; rintro e w' ⟨r, hr, rfl, d1⟩; obtain ⟨k, rfl⟩ := Int.eq_ofNat_of_zero_le hr.1; have hk : (k : Int) < n := hr.2.1 (by omega); obtain ⟨q, hq, hcq⟩ := HC.out k (by omega); have hcq' := d1.2.cell hcq (by intro e; exact hg (by simpa using e)))
  go_ret
  exact ⟨_, hq, rfl, HD.out.trans d1⟩
theorem pickInt_on (W w0 w : World) (b : Nat) (a : Option Addr) (len cap : Nat) (z : List Int) (g n c : Nat) (hg : g ≠ b) (hn : 0 < n) (hm : n ≤ 1000000) (hc : ∀ k, k < n → ∃ q : Int, (Lit.int .i64 q).wf = true ∧ w.cell? ⟨g, k, none⟩ = some (.int .i64 q)) (d : Drawn W a len cap z b w0 w) :
    Calls Tryz.prog 95 #[.pointer (some ⟨b, 0, none⟩), .slice (some ⟨g, 0, none⟩) n c] w fun e w' => ∃ q : Int, (Lit.int .i64 q).wf = true ∧ e = .returned (.int .i64 q) ∧ Drawn W a len cap z b w0 w' :=
  pickP_on _ W w0 w b a len cap z g n c hg hn hm hc d
theorem big_on (w : World) (a : Option Addr) (len cap : Nat) (hl : len ≤ 9223372036854775807) : Calls Tryz.prog 7 #[.slice a len cap] w fun e w' => e = .returned (.bool (decide (1048576 < (len : Int)))) ∧ w = w' := by
  go_enter Tryz.func7, Tryz.ntmps7
  go_wp2
  go_ret
  exact ⟨rfl, rfl⟩
end Go.Proofs.YtbdjnfnphilklaaGreat.Draw
namespace Go.Proofs.YtbdjnfnphilklaaGreat.Draw
open Go.ChangeShapes Go.WideShapes Go.ChangeAt Go.RowKit
open Kit
set_option linter.unusedVariables false
set_option linter.unusedSimpArgs false
set_option linter.unnecessarySimpa false
attribute [local go_sem ↓] run_mx run_mn
theorem Drawn.grown {W w0 w w' : World} {a : Option Addr} {len cap : Nat} {z : List Int} {b : Nat} {row : Option Nat} (h : Drawn W a len cap z b w0 w) (hg : w.grownBy w' row) (hr : ∀ k, row = some k → w0.heap.size ≤ k ∧ W.heap.size ≤ k ∧ k ≠ b) : Drawn W a len cap z b w0 w' := by
  obtain ⟨d, g⟩ := h
  obtain ⟨i, q, hi, hl, c0, c1, c2, f1, f2⟩ := d.cur
  have hb : w'.heap[b]? = w.heap[b]? := hg.block b d.here (fun e => (hr b e.symm).2.2 rfl)
  refine ⟨⟨d.row, d.far, Nat.lt_of_lt_of_le d.here hg.size, ⟨i, q, hi, hl, ?_, ?_, ?_, ?_, ?_⟩, d.below.grown hg (Nat.le_trans d.far (Nat.le_of_lt d.here)) (fun k hk => (hr k hk).2.1)⟩, ?_⟩
  · rw [World.cell?_of_block (w := w) hb]; exact c0
  · rw [World.cell?_of_block (w := w) hb]; exact c1
  · rw [World.cell?_of_block (w := w) hb]; exact c2
  · rw [World.frozen?_of_block (w := w) hb]; exact f1
  · rw [World.frozen?_of_block (w := w) hb]; exact f2
  · refine ⟨hg.os.trans g.os, hg.tape.trans g.tape, hg.output.trans g.output, Nat.le_trans g.size hg.size, fun k hk hne => ?_⟩
    rw [hg.block k (Nat.lt_of_lt_of_le hk g.size) (fun e => by have := (hr k e.symm).1; omega)]
    exact g.block k hk hne
theorem Drawn.setNew {W w0 w : World} {a : Option Addr} {len cap : Nat} {z : List Int} {b : Nat} (h : Drawn W a len cap z b w0 w) {R : Nat} (h0 : w0.heap.size ≤ R) (hW : W.heap.size ≤ R) (hb : R ≠ b) (o : Nat) (v : Value) : Drawn W a len cap z b w0 (w.setCell ⟨R, o, none⟩ v) :=
  h.grown (grown_set (World.grownBy.refl w (some R)) o v) (fun k hk => by injection hk with hk; subst hk; exact ⟨h0, hW, hb⟩)
theorem Drawn.keeps {W w0 w : World} {a : Option Addr} {len cap : Nat} {z : List Int} {b : Nat} (h : Drawn W a len cap z b w0 w) {R o : Nat} {v : Value} (hc : w0.cell? ⟨R, o, none⟩ = some v) (hb : R ≠ b) : w.cell? ⟨R, o, none⟩ = some v :=
  h.2.cell hc (by intro e; exact hb (by simpa using e))
theorem Drawn.thaws {W w0 w : World} {a : Option Addr} {len cap : Nat} {z : List Int} {b : Nat} (h : Drawn W a len cap z b w0 w) {R o : Nat} (hl : R < w0.heap.size) (hf : w0.frozen? ⟨R, o, none⟩ = false) (hb : R ≠ b) : w.frozen? ⟨R, o, none⟩ = false := by
  rw [h.2.frozen_far ⟨R, o, none⟩ hl (by intro e; exact hb (by simpa using e))]; exact hf
theorem Two.drawn {W w0 w : World} {a : Option Addr} {len cap : Nat} {z : List Int} {b R : Nat} {x y : Int} (h : Two w0 R x y) (d : Drawn W a len cap z b w0 w) (hb : R ≠ b) : Two w R x y :=
  ⟨d.keeps h.c0 hb, d.keeps h.c1 hb, fun o => d.thaws h.lt (h.fr o) hb⟩
theorem IsRow.keep {k : IntKind} {w w' : World} {a : Option Addr} {len cap : Nat} {z : List Int} (h : IsRow k w a len cap z) (hb : Below w.heap.size w w') : IsRow k w' a len cap z := by
  rcases h with h | ⟨x, ha, hl, hm, hz, hc, hw⟩
  · exact .inl h
  · refine .inr ⟨x, ha, hl, hm, hz, fun i hi => ?_, hw⟩
    have h1 := hc i hi
    exact (hb.cell (p := x.add i) (World.block_lt_of_cell? w _ h1)).trans h1
theorem Four.drawn {W w0 w : World} {a : Option Addr} {len cap : Nat} {z : List Int} {b R : Nat} {x y u v : Int} (h : Four w0 R x y u v) (d : Drawn W a len cap z b w0 w) (hb : R ≠ b) : Four w R x y u v :=
  ⟨d.keeps h.c0 hb, d.keeps h.c1 hb, d.keeps h.c2 hb, d.keeps h.c3 hb, fun o => d.thaws h.lt (h.fr o) hb⟩
end Go.Proofs.YtbdjnfnphilklaaGreat.Draw
namespace Go.Proofs.YtbdjnfnphilklaaGreat.Draw
open Go.ChangeShapes Go.WideShapes Go.ChangeAt Go.RowKit
open Kit
set_option linter.unusedVariables false
set_option linter.unusedSimpArgs false
set_option linter.unnecessarySimpa false
attribute [local go_sem ↓] run_mx run_mn
def InPage (q : Int) : Prop := -4 ≤ q ∧ q ≤ 36
theorem four_cells (w : World) (T : TypeId) (r s : Int) (hr : InPage r) (hs : InPage s) : ∀ k, k < 4 → ∃ q : Int, InPage q ∧ (w.alloc (.cells #[.int .i64 0, .int .i64 32, .int .i64 r, .int .i64 s] T)).cell? ⟨w.heap.size, k, none⟩ = some (.int .i64 q) := by
  intro k hk
  have h : k = 0 ∨ k = 1 ∨ k = 2 ∨ k = 3 := by omega
  rcases h with rfl | rfl | rfl | rfl
  · exact ⟨0, by unfold InPage; omega, by simp [go_sem]⟩
  · exact ⟨32, by unfold InPage; omega, by simp [go_sem]⟩
  · exact ⟨r, hr, by simp [go_sem]⟩
  · exact ⟨s, hs, by simp [go_sem]⟩
theorem page33 {r : Int} (h : Within 33 r) : InPage r := by obtain ⟨h0, h1, _⟩ := h; have := h1 (by omega); unfold InPage; omega
theorem page41 {r : Int} (h : Within 41 r) : InPage (r - 4) ∧ 0 ≤ r ∧ r ≤ 40 := by obtain ⟨h0, h1, _⟩ := h; have := h1 (by omega); unfold InPage; omega
set_option maxHeartbeats 2000000 in
theorem point_on (W w0 w : World) (b : Nat) (a : Option Addr) (len cap : Nat) (z : List Int) (d : Drawn W a len cap z b w0 w) :
    Calls Tryz.prog 122 #[.pointer (some ⟨b, 0, none⟩)] w fun e w' => ∃ x y : Int, InPage x ∧ InPage y ∧ e = .returned (.agg #[.int .i64 x, .int .i64 y]) ∧ Drawn W a len cap z b w0 w' := by
  have hne := d.ne
  have D := (d.alloc (.cells #[.int .i64 0, .int .i64 0] 110)).1.same
  have hW := Nat.le_trans d.1.far (Nat.le_of_lt d.1.here)
  have hw0 := d.2.size
  have HD := Lib.hid d
  clear d
  go_enter Tryz.func122, Tryz.ntmps122
  go_wp2_with fail
  (refine (below_on W _ _ b a len cap z 33 D).mono ?_; rintro e w1 ⟨r1, hr1, rfl, d1⟩)
  go_wp2_with fail
  (refine (below_on W _ _ b a len cap z 41 d1).mono ?_; rintro e w2 ⟨r2, hr2, rfl, d2⟩)
  obtain ⟨k2, k20, k21⟩ := page41 hr2
  go_wp2_with fail
  (refine (pickP_on InPage W _ _ b a len cap z _ 4 _ (Drawn.ne d2) (by decide) (by decide) (four_cells _ _ _ _ (page33 hr1) k2) (d2.alloc _)).mono ?_; rintro e w3 ⟨x, hx, rfl, d3⟩)
  go_wp2_with fail
  (refine (below_on W _ _ b a len cap z 33 d3).mono ?_; rintro e w4 ⟨r4, hr4, rfl, d4⟩)
  go_wp2_with fail
  (refine (below_on W _ _ b a len cap z 41 d4).mono ?_; rintro e w5 ⟨r5, hr5, rfl, d5⟩)
  obtain ⟨k5, k50, k51⟩ := page41 hr5
  go_wp2_with fail
  (refine (pickP_on InPage W _ _ b a len cap z _ 4 _ (Drawn.ne d5) (by decide) (by decide) (four_cells _ _ _ _ (page33 hr4) k5) (d5.alloc _)).mono ?_; rintro e w6 ⟨y, hy, rfl, d6⟩)
  have T6 := Two.drawn (Two.new w 110 0 0) d6 hne
  obtain ⟨c0, c1, fr⟩ := T6
  have d7 := (HD.out.alloc (.cells #[.int .i64 0, .int .i64 0] 110)).trans d6
  go_wp2_with fail
  refine bodyPost_ret (by simp [results, Tryz.results122, go_sem, *]; try rfl) rfl ?_
  exact ⟨x, y, hx, hy, rfl, (d7.setNew hw0 hW hne _ _).setNew hw0 hW hne _ _⟩
end Go.Proofs.YtbdjnfnphilklaaGreat.Draw
