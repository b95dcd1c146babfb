/-
  Texts of this seat, laid together: LawKit, App
-/
import Derived.Deep.AppendLies
import Derived.Test.YtjmfgbbngocodaaGreatV09
import Derived.Test.YtjmfgbbngocodaaGreatV01
namespace Go.Proofs.YtjmfgbbngocodaaGreat.Own
open Go.ChangeShapes Go.WideShapes Go.ChangeAt Go.RowKit
open Kit Slabs
set_option linter.unusedVariables false
set_option linter.unusedSimpArgs false
set_option linter.unnecessarySimpa false
theorem var_new {P : Program} {T : TypeId} {n : Nat} (hsz : ∀ w : World, (Go.sizeOf T).run P w = .ok n w) (w : World) (Z : Array Value) (hZ : Z.size = n) {ks : List Kd} {ds : List Dt} {fp : List Nat} {w0 : World} {R : Array Value} (o : OwnL w0 ks R.toList ds fp) (hn : szL ks = n) :
    ∃ E, (hstore T ⟨w.heap.size, 0, none⟩ (.agg R)).run P (w.alloc (.cells Z T)) = .ok () E ∧ Blk E w.heap.size R.toList ∧ Below w.heap.size w E ∧ w.heap.size < E.heap.size := by
  have hR : R.toList.length = n := o.len.trans hn
  have hZl : Z.toList.length = n := by simpa using hZ
  have B := Blk.new w Z T rfl
  have hs := hstore_run (P := P) (t := T) hsz (w := w.alloc (.cells Z T)) (b := w.heap.size) (o := 0) (A := []) (us := Z.toList) (R := []) (vs := R.toList) (by simpa using B) rfl (by rw [hR, hZl]) hR (fun v hv => o.one v hv)
  have e : R.toList.toArray = R := by simp
  rw [e] at hs
  refine ⟨_, hs, by have := Blk.sets (P := []) (us := Z.toList) (vs := R.toList) (R := []) (w := w.alloc (.cells Z T)) (b := w.heap.size) (o := 0) (by simpa using B) rfl (by rw [hR, hZl]); simpa using this, Below.setCells (Nat.le_refl _) R.toList 0 (by go_grown), by rw [size_sets]; simp⟩
theorem var_load {P : Program} {T : TypeId} {n : Nat} (hagg : ∀ w : World, (isAgg T).run P w = .ok true w) (hsz : ∀ w : World, (Go.sizeOf T).run P w = .ok n w) {w : World} {b : Nat} {R : Array Value} (h : Blk w b R.toList) {ks : List Kd} {ds : List Dt} {fp : List Nat} {w0 : World} (o : OwnL w0 ks R.toList ds fp) (hn : szL ks = n) :
    (hload T ⟨b, 0, none⟩).run P w = .ok (.agg R) w := by
  have := hload_run (P := P) (t := T) hagg hsz (w := w) (b := b) (o := 0) (us := R.toList) (by have := Blk.part (P := []) (us := R.toList) (R := []) (w := w) (b := b) (o := 0) (by simpa using h) rfl; simpa using this) (o.len.trans hn)
  simpa using this
mutual
def Kd.wd : Kd → Nat
  | .int => 1
  | .str => 1
  | .bool => 1
  | .st ks => wdL ks
  | .sl e => e.wd
def wdL : List Kd → Nat
  | [] => 0
  | k :: r => k.wd + wdL r
end
theorem mul_both {a b x y : Nat} : a * (1 + x) + b * (1 + y) ≤ (a + b) * (1 + (x + y)) := by
  have h1 : a * (1 + x) ≤ a * (1 + (x + y)) := Nat.mul_le_mul_left _ (by omega)
  have h2 : b * (1 + y) ≤ b * (1 + (x + y)) := Nat.mul_le_mul_left _ (by omega)
  rw [Nat.add_mul]; omega
mutual
theorem Own.cnt_le {w : World} : ∀ {k : Kd} {cs : List Value} {d : Dt} {fp : List Nat}, Own w k cs d fp → d.cnt ≤ k.wd * (1 + d.bulk)
  | _, _, _, _, .int n => by simp [Dt.cnt, Kd.wd]
  | _, _, _, _, .str s => by simp [Dt.cnt, Kd.wd]
  | _, _, _, _, .bool b => by simp [Dt.cnt, Kd.wd]
  | _, _, _, _, .st h => by simp only [Dt.cnt, Kd.wd, Dt.bulk]; exact OwnL.cnt_le h
  | _, _, _, _, .nil a c => by simp [Dt.cnt, cntL]
  | _, _, _, _, .sl h1 h2 h3 h4 h5 h6 => by
    simp only [Dt.cnt, Kd.wd, Dt.bulk]
    exact Nat.le_trans (Rows.cnt_le h6) (Nat.mul_le_mul_left _ (by omega))
theorem OwnL.cnt_le {w : World} : ∀ {ks : List Kd} {cs : List Value} {ds : List Dt} {fp : List Nat}, OwnL w ks cs ds fp → cntL ds ≤ wdL ks * (1 + bulkL ds)
  | _, _, _, _, .nil => by simp [cntL]
  | _, _, _, _, .cons h r => by
    simp only [cntL, wdL, bulkL]
    have h1 := Own.cnt_le h
    have h2 := OwnL.cnt_le r
    exact Nat.le_trans (Nat.add_le_add h1 h2) mul_both
theorem Rows.cnt_le {w : World} : ∀ {e : Kd} {g o : Nat} {ds : List Dt} {fp : List Nat}, Rows w e g o ds fp → cntL ds ≤ e.wd * (ds.length + bulkL ds)
  | _, _, _, _, _, .nil => by simp [cntL]
  | e, _, _, _, _, .cons (d := d) (ds := ds) hc h r => by
    simp only [cntL, bulkL, List.length_cons]
    have h1 := Own.cnt_le h
    have h2 := Rows.cnt_le r
    have h3 : e.wd * (1 + d.bulk) + e.wd * (ds.length + bulkL ds) = e.wd * (ds.length + 1 + (d.bulk + bulkL ds)) := by rw [← Nat.mul_add]; congr 1; omega
    omega
end
mutual
theorem cnt0_le : ∀ d : Dt, d.cnt0 ≤ d.cnt
  | .int _ => by simp [Dt.cnt0]
  | .str _ => by simp [Dt.cnt0]
  | .bool _ => by simp [Dt.cnt0]
  | .st fs => by simp only [Dt.cnt0, Dt.cnt]; exact cnt0L_le fs
  | .sl es => by simp [Dt.cnt0, Dt.cnt]
theorem cnt0L_le : ∀ ds : List Dt, cnt0L ds ≤ cntL ds
  | [] => by simp [cnt0L, cntL]
  | d :: r => by simp only [cnt0L, cntL]; have := cnt0_le d; have := cnt0L_le r; omega
end
theorem marks_bound {w : World} {ks : List Kd} {cs : List Value} {ds : List Dt} {fp : List Nat} (h : OwnL w ks cs ds fp) (hk : wdL ks ≤ 100) (hb : bulkL ds ≤ 1048576) : 1 + cnt0L ds ≤ 1000000000 := by
  have h1 := h.cnt_le
  have h2 := cnt0L_le ds
  have h3 := Nat.mul_le_mul_right (1 + bulkL ds) hk
  omega
theorem Turns.low {w w' : World} {fp : List Nat} {B : Nat} {w0 : World} (h : Turns w w' (fun b => b ∈ fp)) (hb : Below B w0 w) (hB : B ≤ w.heap.size) (hf : ∀ b ∈ fp, B ≤ b) : Below B w0 w' := hb.trans (h.below hB hf)
theorem var_put {P : Program} {T : TypeId} {n : Nat} (hsz : ∀ w : World, (Go.sizeOf T).run P w = .ok n w) {w : World} {X : Nat} {Z : Array Value} (B : Blk w X Z.toList) (hZ : Z.size = n) {ks : List Kd} {ds : List Dt} {fp : List Nat} {w0 : World} {R : Array Value} (o : OwnL w0 ks R.toList ds fp) (hn : szL ks = n) :
    ∃ E, (hstore T ⟨X, 0, none⟩ (.agg R)).run P w = .ok () E ∧ Blk E X R.toList ∧ Turns w E (fun b => b = X) := by
  have hR : R.toList.length = n := o.len.trans hn
  have hZl : Z.toList.length = n := by simpa using hZ
  have hs := hstore_run (P := P) (t := T) hsz (w := w) (b := X) (o := 0) (A := []) (us := Z.toList) (R := []) (vs := R.toList) (by simpa using B) rfl (by rw [hR, hZl]) hR (fun v hv => o.one v hv)
  have e : R.toList.toArray = R := by simp
  rw [e] at hs
  exact ⟨_, hs, by have := Blk.sets (P := []) (us := Z.toList) (vs := R.toList) (R := []) (w := w) (b := X) (o := 0) (by simpa using B) rfl (by rw [hR, hZl]); simpa using this, turns_sets (S := fun b => b = X) X rfl _ _ _⟩
theorem put_all {W wc w E : World} {ks : List Kd} {ds : List Dt} {R : Array Value} {f : List Nat} {X : Nat} (hB : Below W.heap.size W w) (o : OwnL w ks R.toList ds f) (n : f.Nodup) (g : ∀ b ∈ f, wc.heap.size ≤ b) (z : W.heap.size ≤ X) (x : X < wc.heap.size) (BX : Blk E X R.toList) (tt : Turns w E (fun b => b = X)) :
    OwnL E ks R.toList ds f ∧ f.Nodup ∧ (∀ b ∈ f, W.heap.size ≤ b) ∧ X ∉ f ∧ Blk E X R.toList ∧ X < E.heap.size ∧ W.heap.size ≤ X ∧ Below W.heap.size W E :=
  have nx : X ∉ f := fun h => by have := g X h; omega
  ⟨o.turned tt (fun b hb e => nx (e ▸ hb)), n, fun b hb => by have := g b hb; omega, nx, BX, BX.2.2, z, hB.trans (tt.below hB.size (fun k e => e ▸ z))⟩
theorem put_late {W w E : World} {ks : List Kd} {ds : List Dt} {R : Array Value} {f : List Nat} {m : Nat} (hB : Below W.heap.size W w) (o : OwnL w ks R.toList ds f) (n : f.Nodup) (g : ∀ b ∈ f, m ≤ b) (hc : W.heap.size ≤ m) (BX : Blk E w.heap.size R.toList) (cx : Below w.heap.size w E) :
    OwnL E ks R.toList ds f ∧ f.Nodup ∧ (∀ b ∈ f, W.heap.size ≤ b) ∧ w.heap.size ∉ f ∧ Blk E w.heap.size R.toList ∧ w.heap.size < E.heap.size ∧ W.heap.size ≤ w.heap.size ∧ Below W.heap.size W E :=
  ⟨o.under cx, n, fun b hb => Nat.le_trans hc (g b hb), fun h => by have := o.lt _ h; omega, BX, BX.2.2, hB.size, on_of hB cx⟩
end Go.Proofs.YtjmfgbbngocodaaGreat.Own

namespace Go.Proofs.YtjmfgbbngocodaaGreat.Own
open Go.ChangeShapes Go.WideShapes Go.ChangeAt Go.RowKit
open Kit
set_option linter.unusedVariables false
set_option linter.unusedSimpArgs false
set_option linter.unnecessarySimpa false
def Lies (w : World) (a : Option Addr) (cs : List Value) : Prop := cs = [] ∨ ∃ g o, a = some ⟨g, o, none⟩ ∧ g < w.heap.size ∧ ∀ j u, cs[j]? = some u → w.cell? ⟨g, o + j, none⟩ = some u
theorem Lies.on {w w' : World} {a : Option Addr} {cs : List Value} (h : Lies w a cs) (hb : Below w.heap.size w w') : Lies w' a cs := by
  rcases h with h | ⟨g, o, ha, hg, h⟩
  · exact .inl h
  · exact .inr ⟨g, o, ha, Nat.lt_of_lt_of_le hg hb.size, fun j u hu => (hb.cell (p := ⟨g, _, none⟩) hg).trans (h j u hu)⟩
theorem Lies.drew {w : World} {a : Option Addr} {cs : List Value} (h : Lies w a cs) : Lies w.drew a cs := h
theorem add_off {g o j : Nat} : (⟨g, o, none⟩ : Addr).add j = ⟨g, o + j, none⟩ := by
  by_cases h : j = 0
  · subst h; rfl
  · simp [Addr.add, h]
theorem Lies.new (w : World) (cs : Array Value) (t : TypeId) {b : Nat} (hb : w.heap.size = b) : Lies (w.alloc (.cells cs t)) (some ⟨b, 0, none⟩) cs.toList := by
  subst hb
  exact .inr ⟨_, 0, rfl, by simp, fun j u hu => by rw [Nat.zero_add, World.cell?_alloc_new]; simpa using hu⟩
def rowL (u : Value) : List Nat := u.ownBlock.toList
def ElemT (P : Program) (t e : TypeId) (k bytes : Nat) : Prop := ∃ i z, P.underlying t = some (.slice e) ∧ P.info? e = some i ∧ i.zero = some z ∧ i.size = k ∧ i.bytes = bytes ∧ z.cells.size = k ∧ 0 < k
theorem run_append_sl {P : Program} {t ty e : TypeId} {k bytes : Nat} (hT : ElemT P t e k bytes) (w : World) (base : Nat)
    (a1 : Option Addr) (n c1 : Nat) (xs : List Value) (hown : w.ownsRow base e k (.slice a1 n c1) n xs)
    (ax : Option Addr) (m c : Nat) (news : List Value) (hl : news.length = m * k) (hx : Lies w ax news) (h1 : ∀ u ∈ news, u.oneCell' = true)
    (h63 : n + m ≤ maxLen) (hbytes : (n + m) * bytes ≤ 140737488355328) (hbase : base ≤ w.heap.size) :
    ∃ a' c' w', (Builtin.append_ #[t, t] ty #[.slice a1 n c1, .slice ax m c]).run P w = .ok (.slice a' (n + m) c') w' ∧ w'.ownsRow base e k (.slice a' (n + m) c') (n + m) (xs ++ news) ∧ w.grownBy w' (Value.ownBlock (.slice a1 n c1)) ∧ (∀ b ∈ rowL (.slice a' (n + m) c'), b ∈ rowL (.slice a1 n c1) ∨ w.heap.size ≤ b) := by
  obtain ⟨i, z, ht, hi, hz, hsz, hby, hzs, hk⟩ := hT
  cases ax with
  | none =>
    have hm : m = 0 := by
      rcases hx with rfl | ⟨g, o, h, _⟩
      · have h0 : m * k = 0 := hl.symm
        rcases Nat.mul_eq_zero.1 h0 with h | h
        · exact h
        · omega
      · cases h
    subst hm
    obtain rfl : news = [] := List.eq_nil_of_length_eq_zero (by omega)
    refine ⟨a1, c1, w, ?_, by simpa using hown, ⟨rfl, rfl, rfl, Nat.le_refl _, fun _ _ _ => rfl⟩, fun b hb => .inl (by simpa using hb)⟩
    rcases hown.2 with ⟨h, rfl⟩ | ⟨g, cap, cur, h, hb, hg, hnc, hcm, hcs, ht2⟩
    · injection h with h1 h2 h3
      subst h1; subst h3
      simp [Builtin.append_, run_underlying ht, sizeOf, typeInfo, hi, Builtin.lenOf, Builtin.firstCells, loadCells, loadCellsFrom]
    · injection h with h1 h2 h3
      subst h1; subst h3
      simp [Builtin.append_, run_underlying ht, sizeOf, typeInfo, hi, Builtin.lenOf, Builtin.firstCells, loadCells, loadCellsFrom, hnc, storeCells]
  | some ad =>
    have hn : ∀ j u, news[j]? = some u → w.cell? (ad.add j) = some u := by
      rcases hx with rfl | ⟨g, o, h, _, h2⟩
      · intro j u hu; simp at hu
      · injection h with h; subst h
        intro j u hu; rw [add_off]; exact h2 j u hu
    obtain ⟨v', w', hr, h2, h3, _, h5⟩ := run_append_own_at (P := P) w base t ty e i z k bytes ht hi hz hsz hby hzs hk _ n xs hown ad m c news hl hn h1 h63 hbytes hbase
    obtain ⟨a', c', rfl⟩ : ∃ a' c', v' = .slice a' (n + m) c' := by
      rcases h2.2 with ⟨rfl, h0⟩ | ⟨g, cap, cur, rfl, _⟩
      · rw [h0]; exact ⟨_, _, rfl⟩
      · exact ⟨_, _, rfl⟩
    refine ⟨a', c', w', hr, h2, h3, fun b hb => ?_⟩
    have hb' : Value.ownBlock (.slice a' (n + m) c') = some b := by simpa [rowL] using hb
    rcases h5 with h5 | h5
    · left; rw [rowL, ← h5]; simpa [rowL] using hb
    · right
      rw [hb'] at h5
      simp at h5
      omega
section
variable {P : Program} {t e : TypeId} {k bytes : Nat}
theorem wp_append_sl (w : World) {o : Oper} {a : Act} {K : Act → World → Prop} {Q : Exit → Act → World → Prop} (hT : ElemT P t e k bytes) (s x : Operand)
    (ho : o.op = .call { callee := .builtin .append, args := #[s, x], argTypes := #[t, t] }) (base : Nat)
    (a1 : Option Addr) (n c1 : Nat) (xs : List Value) (hs : a.eval s = .slice a1 n c1) (hown : w.ownsRow base e k (.slice a1 n c1) n xs)
    (ax : Option Addr) (m c : Nat) (news : List Value) (hxe : a.eval x = .slice ax m c) (hl : news.length = m * k) (hx : Lies w ax news) (h1 : ∀ u ∈ news, u.oneCell' = true)
    (h63 : n + m ≤ maxLen) (hbytes : (n + m) * bytes ≤ 140737488355328) (hbase : base ≤ w.heap.size)
    (h : ∀ a' c' w', w'.ownsRow base e k (.slice a' (n + m) c') (n + m) (xs ++ news) → w.grownBy w' (Value.ownBlock (.slice a1 n c1)) → (∀ b ∈ rowL (.slice a' (n + m) c'), b ∈ rowL (.slice a1 n c1) ∨ w.heap.size ≤ b) → K (a.put o.dst (.slice a' (n + m) c')) w') : o.wp P a w K Q := by
  obtain ⟨a', c', w', hr, h2, h3, h4⟩ := run_append_sl (P := P) (ty := o.type) hT w base a1 n c1 xs hown ax m c news hl hx h1 h63 hbytes hbase
  unfold Oper.wp execOp
  simp only [ho, resolve, invoke, builtin, Sem.run_bind, Sem.run_pure, Result.andThen_ok, List.map_toArray, List.map_cons, List.map_nil, hs, hxe, hr]
  exact h a' c' w' h2 h3 h4
theorem wpList_append_sl (w : World) {ops : Array Oper} {rest : List Oper} {o : Oper} {a : Act} {Q : Exit → Act → World → Prop} (hT : ElemT P t e k bytes) (hgd : o.guard = none) (s x : Operand)
    (ho : o.op = .call { callee := .builtin .append, args := #[s, x], argTypes := #[t, t] }) (base : Nat)
    (a1 : Option Addr) (n c1 : Nat) (xs : List Value) (hs : a.eval s = .slice a1 n c1) (hown : w.ownsRow base e k (.slice a1 n c1) n xs)
    (ax : Option Addr) (m c : Nat) (news : List Value) (hxe : a.eval x = .slice ax m c) (hl : news.length = m * k) (hx : Lies w ax news) (h1 : ∀ u ∈ news, u.oneCell' = true)
    (h63 : n + m ≤ maxLen) (hbytes : (n + m) * bytes ≤ 140737488355328) (hbase : base ≤ w.heap.size)
    (h : ∀ a' c' w', w'.ownsRow base e k (.slice a' (n + m) c') (n + m) (xs ++ news) → w.grownBy w' (Value.ownBlock (.slice a1 n c1)) → (∀ b ∈ rowL (.slice a' (n + m) c'), b ∈ rowL (.slice a1 n c1) ∨ w.heap.size ≤ b) → wpList P ops Q rest (a.put o.dst (.slice a' (n + m) c')) w') : wpList P ops Q (o :: rest) a w :=
  wpList_plain hgd fun _ hK => wp_append_sl w hT s x ho base a1 n c1 xs hs hown ax m c news hxe hl hx h1 h63 hbytes hbase fun a' c' w' h2 h3 h4 => hK _ _ (h a' c' w' h2 h3 h4)
theorem step_append_sl {w : World} {ops : Array Oper} {o : Oper} {a : Act} {K : Act → World → Prop} {Q : Exit → Act → World → Prop} {E : Prop} (hT : ElemT P t e k bytes) (hgd : o.guard = none) (s x : Operand)
    (ho : o.op = .call { callee := .builtin .append, args := #[s, x], argTypes := #[t, t] }) (base : Nat)
    (a1 : Option Addr) (n c1 : Nat) (xs : List Value) (hs : a.eval s = .slice a1 n c1) (hown : w.ownsRow base e k (.slice a1 n c1) n xs)
    (ax : Option Addr) (m c : Nat) (news : List Value) (hxe : a.eval x = .slice ax m c) (hl : news.length = m * k) (hx : Lies w ax news) (h1 : ∀ u ∈ news, u.oneCell' = true)
    (h63 : n + m ≤ maxLen) (hbytes : (n + m) * bytes ≤ 140737488355328) (hbase : base ≤ w.heap.size)
    (h : ∀ a' c' w', w'.ownsRow base e k (.slice a' (n + m) c') (n + m) (xs ++ news) → w.grownBy w' (Value.ownBlock (.slice a1 n c1)) → (∀ b ∈ rowL (.slice a' (n + m) c'), b ∈ rowL (.slice a1 n c1) ∨ w.heap.size ≤ b) → K (a.put o.dst (.slice a' (n + m) c')) w') :
    if Region.wanted o (yielded ops a.tmps) = true then Oper.wp P o a w K Q else E := by
  have hw : Region.wanted o (yielded ops a.tmps) = true := by simp [Region.wanted, hgd]
  rw [if_pos hw]
  exact wp_append_sl w hT s x ho base a1 n c1 xs hs hown ax m c news hxe hl hx h1 h63 hbytes hbase h
end
end Go.Proofs.YtjmfgbbngocodaaGreat.Own

