/-
  Texts of this seat, laid together: TokO, App, Apply, Join, NameImpl, TokImpl
-/
import Derived.Deep.AppendLies
import Derived.BigQuiet
import Derived.Deep.QuietTactic
import Derived.Deep.RegionHeld3
import Derived.Deep.DeepCutAuto
import Derived.Laws.RangeAny
import Derived.Laws.RangeString
import Derived.Lib.DecodeN
import Derived.Lib.TrimU
import Derived.Test.YtjmfgbbngocodaaGreatZ09
import Derived.Test.YtjmfgbbngocodaaGreatZ21
import Derived.Test.YtjmfgbbngocodaaGreatZ01
import Derived.Test.YtjmfgbbngocodaaGreatZ23
namespace Go.Proofs.YtjmfgbbngocodaaGreat.Own
open Go.ChangeShapes Go.WideShapes Go.ChangeAt Go.RowKit
open Kit Slabs
open Marking (mt)
open Recs
set_option linter.unusedVariables false
set_option linter.unusedSimpArgs false
set_option linter.unnecessarySimpa false
set_option maxRecDepth 100000
theorem sz_Token (w : World) (s : ByteArray) (n : Int) (hm : s.size ≤ maxLen) (l : Int) (h0 : 0 ≤ l) (h1 : l ≤ 1048576) : Calls Tryz.prog 6 #[.agg #[.string s, .int .i64 n], .int .i64 l] w fun e w' => e = .returned (.int .i64 (szv l s.size)) ∧ Below w.heap.size w w' :=
  (Tokens.sz_any s n l w h0 h1 hm).mono fun e w' ⟨he, hb⟩ => ⟨by rw [he]; refine ret_int ?_; unfold szv; split <;> split <;> first | rfl | omega, hb⟩
theorem to_Token (s : ByteArray) (n : Int) (w : World) : Calls Tryz.prog 9 #[.agg #[.string s, .int .i64 n]] w fun e w' => e = .returned (.agg #[.string s, .int .i64 n]) ∧ Below w.heap.size w w' := Tokens.to_any s n w
end Go.Proofs.YtjmfgbbngocodaaGreat.Own

namespace Go.Proofs.YtjmfgbbngocodaaGreat.Own
open Go.ChangeShapes Go.WideShapes Go.ChangeAt Go.RowKit
open Kit
set_option linter.unusedVariables false
set_option linter.unusedSimpArgs false
set_option linter.unnecessarySimpa false
def Lies (w : World) (a : Option Addr) (cs : List Value) : Prop := cs = [] ∨ ∃ g o, a = some ⟨g, o, none⟩ ∧ g < w.heap.size ∧ ∀ j u, cs[j]? = some u → w.cell? ⟨g, o + j, none⟩ = some u
theorem Lies.on {w w' : World} {a : Option Addr} {cs : List Value} (h : Lies w a cs) (hb : Below w.heap.size w w') : Lies w' a cs := by
  rcases h with h | ⟨g, o, ha, hg, h⟩
  · exact .inl h
  · exact .inr ⟨g, o, ha, Nat.lt_of_lt_of_le hg hb.size, fun j u hu => (hb.cell (p := ⟨g, _, none⟩) hg).trans (h j u hu)⟩
theorem Lies.drew {w : World} {a : Option Addr} {cs : List Value} (h : Lies w a cs) : Lies w.drew a cs := h
theorem add_off {g o j : Nat} : (⟨g, o, none⟩ : Addr).add j = ⟨g, o + j, none⟩ := by
  by_cases h : j = 0
  · subst h; rfl
  · simp [Addr.add, h]
theorem Lies.new (w : World) (cs : Array Value) (t : TypeId) {b : Nat} (hb : w.heap.size = b) : Lies (w.alloc (.cells cs t)) (some ⟨b, 0, none⟩) cs.toList := by
  subst hb
  exact .inr ⟨_, 0, rfl, by simp, fun j u hu => by rw [Nat.zero_add, World.cell?_alloc_new]; simpa using hu⟩
def rowL (u : Value) : List Nat := u.ownBlock.toList
def ElemT (P : Program) (t e : TypeId) (k bytes : Nat) : Prop := ∃ i z, P.underlying t = some (.slice e) ∧ P.info? e = some i ∧ i.zero = some z ∧ i.size = k ∧ i.bytes = bytes ∧ z.cells.size = k ∧ 0 < k
theorem run_append_sl {P : Program} {t ty e : TypeId} {k bytes : Nat} (hT : ElemT P t e k bytes) (w : World) (base : Nat)
    (a1 : Option Addr) (n c1 : Nat) (xs : List Value) (hown : w.ownsRow base e k (.slice a1 n c1) n xs)
    (ax : Option Addr) (m c : Nat) (news : List Value) (hl : news.length = m * k) (hx : Lies w ax news) (h1 : ∀ u ∈ news, u.oneCell' = true)
    (h63 : n + m ≤ maxLen) (hbytes : (n + m) * bytes ≤ 140737488355328) (hbase : base ≤ w.heap.size) :
    ∃ a' c' w', (Builtin.append_ #[t, t] ty #[.slice a1 n c1, .slice ax m c]).run P w = .ok (.slice a' (n + m) c') w' ∧ w'.ownsRow base e k (.slice a' (n + m) c') (n + m) (xs ++ news) ∧ w.grownBy w' (Value.ownBlock (.slice a1 n c1)) ∧ (∀ b ∈ rowL (.slice a' (n + m) c'), b ∈ rowL (.slice a1 n c1) ∨ w.heap.size ≤ b) := by
  obtain ⟨i, z, ht, hi, hz, hsz, hby, hzs, hk⟩ := hT
  cases ax with
  | none =>
    have hm : m = 0 := by
      rcases hx with rfl | ⟨g, o, h, _⟩
      · have h0 : m * k = 0 := hl.symm
        rcases Nat.mul_eq_zero.1 h0 with h | h
        · exact h
        · omega
      · cases h
    subst hm
    obtain rfl : news = [] := List.eq_nil_of_length_eq_zero (by omega)
    refine ⟨a1, c1, w, ?_, by simpa using hown, ⟨rfl, rfl, rfl, Nat.le_refl _, fun _ _ _ => rfl⟩, fun b hb => .inl (by simpa using hb)⟩
    rcases hown.2 with ⟨h, rfl⟩ | ⟨g, cap, cur, h, hb, hg, hnc, hcm, hcs, ht2⟩
    · injection h with h1 h2 h3
      subst h1; subst h3
      simp [Builtin.append_, run_underlying ht, sizeOf, typeInfo, hi, Builtin.lenOf, Builtin.firstCells, loadCells, loadCellsFrom]
    · injection h with h1 h2 h3
      subst h1; subst h3
      simp [Builtin.append_, run_underlying ht, sizeOf, typeInfo, hi, Builtin.lenOf, Builtin.firstCells, loadCells, loadCellsFrom, hnc, storeCells]
  | some ad =>
    have hn : ∀ j u, news[j]? = some u → w.cell? (ad.add j) = some u := by
      rcases hx with rfl | ⟨g, o, h, _, h2⟩
      · intro j u hu; simp at hu
      · injection h with h; subst h
        intro j u hu; rw [add_off]; exact h2 j u hu
    obtain ⟨v', w', hr, h2, h3, _, h5⟩ := run_append_own_at (P := P) w base t ty e i z k bytes ht hi hz hsz hby hzs hk _ n xs hown ad m c news hl hn h1 h63 hbytes hbase
    obtain ⟨a', c', rfl⟩ : ∃ a' c', v' = .slice a' (n + m) c' := by
      rcases h2.2 with ⟨rfl, h0⟩ | ⟨g, cap, cur, rfl, _⟩
      · rw [h0]; exact ⟨_, _, rfl⟩
      · exact ⟨_, _, rfl⟩
    refine ⟨a', c', w', hr, h2, h3, fun b hb => ?_⟩
    have hb' : Value.ownBlock (.slice a' (n + m) c') = some b := by simpa [rowL] using hb
    rcases h5 with h5 | h5
    · left; rw [rowL, ← h5]; simpa [rowL] using hb
    · right
      rw [hb'] at h5
      simp at h5
      omega
section
variable {P : Program} {t e : TypeId} {k bytes : Nat}
theorem wp_append_sl (w : World) {o : Oper} {a : Act} {K : Act → World → Prop} {Q : Exit → Act → World → Prop} (hT : ElemT P t e k bytes) (s x : Operand)
    (ho : o.op = .call { callee := .builtin .append, args := #[s, x], argTypes := #[t, t] }) (base : Nat)
    (a1 : Option Addr) (n c1 : Nat) (xs : List Value) (hs : a.eval s = .slice a1 n c1) (hown : w.ownsRow base e k (.slice a1 n c1) n xs)
    (ax : Option Addr) (m c : Nat) (news : List Value) (hxe : a.eval x = .slice ax m c) (hl : news.length = m * k) (hx : Lies w ax news) (h1 : ∀ u ∈ news, u.oneCell' = true)
    (h63 : n + m ≤ maxLen) (hbytes : (n + m) * bytes ≤ 140737488355328) (hbase : base ≤ w.heap.size)
    (h : ∀ a' c' w', w'.ownsRow base e k (.slice a' (n + m) c') (n + m) (xs ++ news) → w.grownBy w' (Value.ownBlock (.slice a1 n c1)) → (∀ b ∈ rowL (.slice a' (n + m) c'), b ∈ rowL (.slice a1 n c1) ∨ w.heap.size ≤ b) → K (a.put o.dst (.slice a' (n + m) c')) w') : o.wp P a w K Q := by
  obtain ⟨a', c', w', hr, h2, h3, h4⟩ := run_append_sl (P := P) (ty := o.type) hT w base a1 n c1 xs hown ax m c news hl hx h1 h63 hbytes hbase
  unfold Oper.wp execOp
  simp only [ho, resolve, invoke, builtin, Sem.run_bind, Sem.run_pure, Result.andThen_ok, List.map_toArray, List.map_cons, List.map_nil, hs, hxe, hr]
  exact h a' c' w' h2 h3 h4
theorem wpList_append_sl (w : World) {ops : Array Oper} {rest : List Oper} {o : Oper} {a : Act} {Q : Exit → Act → World → Prop} (hT : ElemT P t e k bytes) (hgd : o.guard = none) (s x : Operand)
    (ho : o.op = .call { callee := .builtin .append, args := #[s, x], argTypes := #[t, t] }) (base : Nat)
    (a1 : Option Addr) (n c1 : Nat) (xs : List Value) (hs : a.eval s = .slice a1 n c1) (hown : w.ownsRow base e k (.slice a1 n c1) n xs)
    (ax : Option Addr) (m c : Nat) (news : List Value) (hxe : a.eval x = .slice ax m c) (hl : news.length = m * k) (hx : Lies w ax news) (h1 : ∀ u ∈ news, u.oneCell' = true)
    (h63 : n + m ≤ maxLen) (hbytes : (n + m) * bytes ≤ 140737488355328) (hbase : base ≤ w.heap.size)
    (h : ∀ a' c' w', w'.ownsRow base e k (.slice a' (n + m) c') (n + m) (xs ++ news) → w.grownBy w' (Value.ownBlock (.slice a1 n c1)) → (∀ b ∈ rowL (.slice a' (n + m) c'), b ∈ rowL (.slice a1 n c1) ∨ w.heap.size ≤ b) → wpList P ops Q rest (a.put o.dst (.slice a' (n + m) c')) w') : wpList P ops Q (o :: rest) a w :=
  wpList_plain hgd fun _ hK => wp_append_sl w hT s x ho base a1 n c1 xs hs hown ax m c news hxe hl hx h1 h63 hbytes hbase fun a' c' w' h2 h3 h4 => hK _ _ (h a' c' w' h2 h3 h4)
theorem step_append_sl {w : World} {ops : Array Oper} {o : Oper} {a : Act} {K : Act → World → Prop} {Q : Exit → Act → World → Prop} {E : Prop} (hT : ElemT P t e k bytes) (hgd : o.guard = none) (s x : Operand)
    (ho : o.op = .call { callee := .builtin .append, args := #[s, x], argTypes := #[t, t] }) (base : Nat)
    (a1 : Option Addr) (n c1 : Nat) (xs : List Value) (hs : a.eval s = .slice a1 n c1) (hown : w.ownsRow base e k (.slice a1 n c1) n xs)
    (ax : Option Addr) (m c : Nat) (news : List Value) (hxe : a.eval x = .slice ax m c) (hl : news.length = m * k) (hx : Lies w ax news) (h1 : ∀ u ∈ news, u.oneCell' = true)
    (h63 : n + m ≤ maxLen) (hbytes : (n + m) * bytes ≤ 140737488355328) (hbase : base ≤ w.heap.size)
    (h : ∀ a' c' w', w'.ownsRow base e k (.slice a' (n + m) c') (n + m) (xs ++ news) → w.grownBy w' (Value.ownBlock (.slice a1 n c1)) → (∀ b ∈ rowL (.slice a' (n + m) c'), b ∈ rowL (.slice a1 n c1) ∨ w.heap.size ≤ b) → K (a.put o.dst (.slice a' (n + m) c')) w') :
    if Region.wanted o (yielded ops a.tmps) = true then Oper.wp P o a w K Q else E := by
  have hw : Region.wanted o (yielded ops a.tmps) = true := by simp [Region.wanted, hgd]
  rw [if_pos hw]
  exact wp_append_sl w hT s x ho base a1 n c1 xs hs hown ax m c news hxe hl hx h1 h63 hbytes hbase h
end
end Go.Proofs.YtjmfgbbngocodaaGreat.Own

namespace Go.Proofs.YtjmfgbbngocodaaGreat.Apply
open Go.ChangeShapes Go.WideShapes Go.ChangeAt Go.RowKit
open Kit Point Turn
set_option linter.unusedVariables false
set_option linter.unusedSimpArgs false
set_option linter.unnecessarySimpa false
structure Three (w0 w : World) (q s dx dy x y : Int) : Prop where
  t : Four w w0.heap.size q s dx dy
  p : Two w (w0.heap.size + 1) x y
  r : Two w (w0.heap.size + 1 + 1) 0 0
  b : Below w0.heap.size w0 w
theorem Three.start (w : World) (q s dx dy x y : Int) (T T' : TypeId) : Three w (((w.alloc (.cells #[.int .i64 q, .int .i64 s, .int .i64 dx, .int .i64 dy] T)).alloc (.cells #[.int .i64 x, .int .i64 y] T')).alloc (.cells #[.int .i64 0, .int .i64 0] T')) q s dx dy x y := by
  refine ⟨((Four.new w T q s dx dy).alloc _).alloc _, ?_, ?_, by go_grown⟩
  · have := (Two.new (w.alloc (.cells #[.int .i64 q, .int .i64 s, .int .i64 dx, .int .i64 dy] T)) T' x y).alloc (.cells #[.int .i64 0, .int .i64 0] T')
    simpa using this
  · have := Two.new ((w.alloc (.cells #[.int .i64 q, .int .i64 s, .int .i64 dx, .int .i64 dy] T)).alloc (.cells #[.int .i64 x, .int .i64 y] T')) T' 0 0
    simpa using this
theorem Three.on {w0 w w' : World} {q s dx dy x y : Int} (h : Three w0 w q s dx dy x y) (hb : Below w.heap.size w w') : Three w0 w' q s dx dy x y :=
  ⟨h.t.keep hb h.t.lt, Two.keep h.p hb h.p.lt, Two.keep h.r hb h.r.lt, on_of h.b hb⟩
theorem Three.lay {w0 w : World} {q s dx dy x y : Int} (h : Three w0 w q s dx dy x y) :
    (w.cell? ⟨w0.heap.size, 0, none⟩ = some (.int .i64 q) ∧ w.cell? ⟨w0.heap.size, 1, none⟩ = some (.int .i64 s) ∧ w.cell? ⟨w0.heap.size, 2, none⟩ = some (.int .i64 dx) ∧ w.cell? ⟨w0.heap.size, 3, none⟩ = some (.int .i64 dy) ∧ (∀ o, w.frozen? ⟨w0.heap.size, o, none⟩ = false)) ∧
    (w.cell? ⟨w0.heap.size + 1, 0, none⟩ = some (.int .i64 x) ∧ w.cell? ⟨w0.heap.size + 1, 1, none⟩ = some (.int .i64 y) ∧ (∀ o, w.frozen? ⟨w0.heap.size + 1, o, none⟩ = false)) ∧
    (w.cell? ⟨w0.heap.size + 1 + 1, 0, none⟩ = some (.int .i64 0) ∧ w.cell? ⟨w0.heap.size + 1 + 1, 1, none⟩ = some (.int .i64 0) ∧ (∀ o, w.frozen? ⟨w0.heap.size + 1 + 1, o, none⟩ = false)) :=
  ⟨⟨h.t.c0, h.t.c1, h.t.c2, h.t.c3, h.t.fr⟩, ⟨h.p.c0, h.p.c1, h.p.fr⟩, ⟨h.r.c0, h.r.c1, h.r.fr⟩⟩
end Go.Proofs.YtjmfgbbngocodaaGreat.Apply

namespace Go.Proofs.YtjmfgbbngocodaaGreat.Join
open Go.ChangeShapes Go.WideShapes Go.ChangeAt Go.RowKit
open Kit Point Turn Apply
set_option linter.unusedVariables false
set_option linter.unusedSimpArgs false
set_option linter.unnecessarySimpa false
def jq (q r : Int) : Int := if q + r < 4 then q + r else q + r - 4
theorem jq_mod {q r : Int} (h : 0 ≤ q ∧ q ≤ 3) (k : 0 ≤ r ∧ r ≤ 3) : (q + r).tmod 4 = jq q r := by
  unfold jq; rw [Int.tmod_eq_emod_of_nonneg (by omega)]; split <;> omega
theorem im_zero (q s dx dy : Int) : imX q s dx 0 0 = dx ∧ imY q s dy 0 0 = dy := by
  simp [imX, imY, rotX, rotY]
theorem mul16 {s t : Int} (h : 1 ≤ s ∧ s ≤ 4) (k : 1 ≤ t ∧ t ≤ 4) : 1 ≤ s * t ∧ s * t ≤ 16 := by
  have : s = 1 ∨ s = 2 ∨ s = 3 ∨ s = 4 := by omega
  rcases this with rfl | rfl | rfl | rfl <;> omega
structure Pair (w0 w : World) (q s dx dy r t ex ey : Int) : Prop where
  a : Four w w0.heap.size q s dx dy
  b : Four w (w0.heap.size + 1) r t ex ey
  r : Four w (w0.heap.size + 1 + 1) 0 0 0 0
  g : Below w0.heap.size w0 w
theorem Pair.start (w : World) (q s dx dy r t ex ey : Int) (T : TypeId) : Pair w (((w.alloc (.cells #[.int .i64 q, .int .i64 s, .int .i64 dx, .int .i64 dy] T)).alloc (.cells #[.int .i64 r, .int .i64 t, .int .i64 ex, .int .i64 ey] T)).alloc (.cells #[.int .i64 0, .int .i64 0, .int .i64 0, .int .i64 0] T)) q s dx dy r t ex ey := by
  refine ⟨((Four.new w T q s dx dy).alloc _).alloc _, ?_, ?_, by go_grown⟩
  · have := (Four.new (w.alloc (.cells #[.int .i64 q, .int .i64 s, .int .i64 dx, .int .i64 dy] T)) T r t ex ey).alloc (.cells #[.int .i64 0, .int .i64 0, .int .i64 0, .int .i64 0] T)
    simpa using this
  · have := Four.new ((w.alloc (.cells #[.int .i64 q, .int .i64 s, .int .i64 dx, .int .i64 dy] T)).alloc (.cells #[.int .i64 r, .int .i64 t, .int .i64 ex, .int .i64 ey] T)) T 0 0 0 0
    simpa using this
theorem Pair.on {w0 w w' : World} {q s dx dy r t ex ey : Int} (h : Pair w0 w q s dx dy r t ex ey) (hb : Below w.heap.size w w') : Pair w0 w' q s dx dy r t ex ey :=
  ⟨h.a.keep hb h.a.lt, h.b.keep hb h.b.lt, h.r.keep hb h.r.lt, on_of h.g hb⟩
theorem image_impl_to (q s dx dy x y a b : Int) (w : World) (ht : tokB q s dx dy = true) (hx : -200 ≤ x ∧ x ≤ 200) (hy : -200 ≤ y ∧ y ≤ 200) (ha : imX q s dx x y = a) (hb : imY q s dy x y = b) :
    Calls Tryz.prog 162 #[.agg #[.int .i64 q, .int .i64 s, .int .i64 dx, .int .i64 dy], .agg #[.int .i64 x, .int .i64 y]] w fun e w' => e = .returned (.agg #[.int .i64 a, .int .i64 b]) ∧ Below w.heap.size w w' := by
  rw [← ha, ← hb]; exact image_impl q s dx dy x y w ht hx hy
theorem image_zero (q s dx dy : Int) (w : World) (ht : tokB q s dx dy = true) :
    Calls Tryz.prog 162 #[.agg #[.int .i64 q, .int .i64 s, .int .i64 dx, .int .i64 dy], .agg #[.int .i64 0, .int .i64 0]] w fun e w' => e = .returned (.agg #[.int .i64 dx, .int .i64 dy]) ∧ Below w.heap.size w w' :=
  image_impl_to q s dx dy 0 0 dx dy w ht (by omega) (by omega) (im_zero q s dx dy).1 (im_zero q s dx dy).2
set_option maxHeartbeats 2000000 in
theorem then_impl (q s dx dy r t ex ey a b Q S : Int) (w : World) (h1 : tokB q s dx dy = true) (h2 : tokB r t ex ey = true) (ha : imX r t ex dx dy = a) (hb : imY r t ey dx dy = b) (hQ : jq q r = Q) (hS : s * t = S) :
    Calls Tryz.prog 164 #[.agg #[.int .i64 q, .int .i64 s, .int .i64 dx, .int .i64 dy], .agg #[.int .i64 r, .int .i64 t, .int .i64 ex, .int .i64 ey]] w fun e w' => e = .returned (.agg #[.int .i64 Q, .int .i64 S, .int .i64 a, .int .i64 b]) ∧ Below w.heap.size w w' := by
  have F0 := Pair.start w q s dx dy r t ex ey 38
  have t1 := tok_true h1
  have t2 := tok_true h2
  have m1 := mul16 t1.2.1 t2.2.1
  have m2 := jq_mod t1.1 t2.1
  have HI := Lib.hid (And.intro ha hb)
  rw [hS] at m1
  rw [hQ] at m2
  clear ha hb
  go_enter Tryz.func164, Tryz.ntmps164
  go_upto_region 2 with fail
  go_wp2_with fail
  refine gen_world (fun W => Pair w W q s dx dy r t ex ey ∧ Four W (w.heap.size + 1 + 1 + 1) Q S 0 0) ⟨F0.on ((Below.refl _ _).alloc (Nat.le_refl _) _), Four.newAt _ 38 Q S 0 0 (by simp)⟩ ?_
  clear F0
  rintro W ⟨FW, FS⟩
  have hw := FW.g
  have hl : w.heap.size + 1 + 1 + 1 < W.heap.size := FS.lt
  have hl2 : w.heap.size + 1 + 1 < W.heap.size := by omega
  have hl1 : w.heap.size + 1 < W.heap.size := by omega
  have hl0 : w.heap.size < W.heap.size := by omega
  have hne0 : w.heap.size ≠ w.heap.size + 1 + 1 := by omega
  have hne1 : w.heap.size + 1 ≠ w.heap.size + 1 + 1 := by omega
  obtain ⟨a0, a1, a2, a3, a4⟩ := Four.lay FW.a
  obtain ⟨b0, b1, b2, b3, b4⟩ := Four.lay FW.b
  obtain ⟨c0, c1, c2, c3, c4⟩ := Four.lay FW.r
  obtain ⟨d0, d1, d2, d3, d4⟩ := Four.lay FS
  clear FW FS
  go_cut [4] (fun s4 wx => s4 = .pointer (some ⟨w.heap.size + 1 + 1, 0, none⟩) ∧ wx.cell? ⟨w.heap.size + 1 + 1, 0, none⟩ = some (.int .i64 Q) ∧ wx.cell? ⟨w.heap.size + 1 + 1, 1, none⟩ = some (.int .i64 S) ∧ wx.cell? ⟨w.heap.size + 1 + 1, 2, none⟩ = some (.int .i64 a) ∧ wx.cell? ⟨w.heap.size + 1 + 1, 3, none⟩ = some (.int .i64 b) ∧ Below w.heap.size w wx)
  case first =>
    go_region_held3 (fun w' => (∀ b o, b < W.heap.size → b ≠ w.heap.size + 1 + 1 → w'.cell? ⟨b, o, none⟩ = W.cell? ⟨b, o, none⟩) ∧ Below w.heap.size w w') (first | (refine keepR _ ?_ hw; go_grown; done) | (refine keepR4 ?_ hw (by omega) _ _ _ _; go_grown; done)) (first | (go_at_call 162; (first | (with_reducible refine (image_zero _ _ _ _ _ h1).mono ?_) | (with_reducible refine (image_impl_to _ _ _ _ _ _ _ _ _ h2 t1.2.2.1 t1.2.2.2 HI.out.1 HI.out.2).mono ?_)); rintro e w' ⟨rfl, hb⟩; have hB := on_of (W := W) (by go_grown) hb; obtain ⟨hc, hf, hz⟩ := bcell3 hB; have hs := hB.size; clear hb) | (go_at_call 166; (with_reducible refine (at_impl _ _ _ _ _ _ _).mono ?_); rintro e w' ⟨rfl, hb⟩; have hB := on_of (W := W) (by go_grown) hb; obtain ⟨hc, hf, hz⟩ := bcell3 hB; have hs := hB.size; clear hb))
    all_goals
      go_wp2_with fail
      go_meet
      have FR : Four w' (w.heap.size + 1 + 1) 0 0 0 0 := ⟨(hc _ _ hl2).trans c0, (hc _ _ hl2).trans c1, (hc _ _ hl2).trans c2, (hc _ _ hl2).trans c3, fun o => (hf _ o hl2).trans (c4 o)⟩
      have FN := FR.set Q S a b
      exact ⟨rfl, FN.c0, FN.c1, FN.c2, FN.c3, (keepR4 hB hw (by omega) _ _ _ _).2⟩
  case rest =>
    obtain ⟨rfl, k0, k1, k2, k3, hk⟩ := hcut
    go_wp2_with fail
    refine bodyPost_ret (by simp [results, Tryz.results164, go_sem, *]; try rfl) rfl ?_
    exact ⟨rfl, hk⟩
def jnB (q s dx dy r t ex ey : Int) : Bool := tokB q s dx dy && tokB r t ex ey && tokB (jq q r) (s * t) (imX r t ex dx dy) (imY r t ey dx dy)
def jnV (q s dx dy r t ex ey : Int) : Value :=
  .tuple #[.agg #[.int .i64 (sel (jnB q s dx dy r t ex ey) (jq q r)), .int .i64 (sel (jnB q s dx dy r t ex ey) (s * t)), .int .i64 (sel (jnB q s dx dy r t ex ey) (imX r t ex dx dy)), .int .i64 (sel (jnB q s dx dy r t ex ey) (imY r t ey dx dy))], .bool (jnB q s dx dy r t ex ey)]
theorem jn_no {q s dx dy r t ex ey : Int} (h : jnB q s dx dy r t ex ey = false) : Ending.returned (.tuple #[.agg #[.int .i64 0, .int .i64 0, .int .i64 0, .int .i64 0], .bool false]) = .returned (jnV q s dx dy r t ex ey) := by
  simp [jnV, h, sel]
theorem jn_no3 {q s dx dy r t ex ey a b Q S : Int} (ha : imX r t ex dx dy = a) (hb : imY r t ey dx dy = b) (hQ : jq q r = Q) (hS : s * t = S) (h3 : tokB Q S a b = false) : Ending.returned (.tuple #[.agg #[.int .i64 0, .int .i64 0, .int .i64 0, .int .i64 0], .bool false]) = .returned (jnV q s dx dy r t ex ey) :=
  jn_no (by simp only [jnB, ha, hb, hQ, hS, h3, Bool.and_false])
theorem jn_yes {q s dx dy r t ex ey a b Q S : Int} (h1 : tokB q s dx dy = true) (h2 : tokB r t ex ey = true) (ha : imX r t ex dx dy = a) (hb : imY r t ey dx dy = b) (hQ : jq q r = Q) (hS : s * t = S) (h3 : tokB Q S a b = true) : Ending.returned (.tuple #[.agg #[.int .i64 Q, .int .i64 S, .int .i64 a, .int .i64 b], .bool true]) = .returned (jnV q s dx dy r t ex ey) := by
  have : jnB q s dx dy r t ex ey = true := by simp only [jnB, h1, h2, ha, hb, hQ, hS, h3, Bool.and_self]
  simp [jnV, this, sel, ha, hb, hQ, hS]
set_option maxHeartbeats 2000000 in
theorem join_impl (q s dx dy r t ex ey : Int) (w : World) :
    Calls Tryz.prog 156 #[.agg #[.int .i64 q, .int .i64 s, .int .i64 dx, .int .i64 dy], .agg #[.int .i64 r, .int .i64 t, .int .i64 ex, .int .i64 ey]] w fun e w' => e = .returned (jnV q s dx dy r t ex ey) ∧ Below w.heap.size w w' := by
  have F0 := Lib.hid (Pair.start w q s dx dy r t ex ey 38)
  cases h1 : tokB q s dx dy
  · go_enter Tryz.func156, Tryz.ntmps156
    go_wp2_with fail
    (refine (turn_impl _ _ _ _ _).mono ?_; rintro e w1 ⟨rfl, hb1⟩)
    have F1 := F0.out.on hb1
    obtain ⟨a0, a1, a2, a3, a4⟩ := Four.lay F1.a
    obtain ⟨b0, b1, b2, b3, b4⟩ := Four.lay F1.b
    obtain ⟨c0, c1, c2, c3, c4⟩ := Four.lay F1.r
    have hB := F1.g
    clear F1 hb1
    go_wp2_with fail
    refine bodyPost_ret (by simp [results, Tryz.results156, go_sem, *]; try rfl) rfl ?_
    exact ⟨jn_no (by simp [jnB, h1]), by go_grown⟩
  · cases h2 : tokB r t ex ey
    · go_enter Tryz.func156, Tryz.ntmps156
      go_wp2_with fail
      (refine (turn_impl _ _ _ _ _).mono ?_; rintro e w1 ⟨rfl, hb1⟩)
      have F1 := F0.out.on hb1
      have G1 := Lib.hid F1
      obtain ⟨a0, a1, a2, a3, a4⟩ := Four.lay F1.a
      obtain ⟨b0, b1, b2, b3, b4⟩ := Four.lay F1.b
      clear F1 hb1
      go_wp2_with fail
      (refine (turn_impl _ _ _ _ _).mono ?_; rintro e w2 ⟨rfl, hb2⟩)
      have F2 := G1.out.on hb2
      obtain ⟨a0, a1, a2, a3, a4⟩ := Four.lay F2.a
      obtain ⟨b0, b1, b2, b3, b4⟩ := Four.lay F2.b
      obtain ⟨c0, c1, c2, c3, c4⟩ := Four.lay F2.r
      have hB := F2.g
      clear F2 hb2
      go_wp2_with fail
      refine bodyPost_ret (by simp [results, Tryz.results156, go_sem, *]; try rfl) rfl ?_
      exact ⟨jn_no (by simp [jnB, h2]), by go_grown⟩
    · obtain ⟨a, ha⟩ : ∃ a, imX r t ex dx dy = a := ⟨_, rfl⟩
      obtain ⟨b, hb⟩ : ∃ b, imY r t ey dx dy = b := ⟨_, rfl⟩
      obtain ⟨Q, hQ⟩ : ∃ Q, jq q r = Q := ⟨_, rfl⟩
      obtain ⟨S, hS⟩ : ∃ S, s * t = S := ⟨_, rfl⟩
      have HI := Lib.hid (And.intro (And.intro ha hb) (And.intro hQ hS))
      clear ha hb hQ hS
      cases h3 : tokB Q S a b
      all_goals
        go_enter Tryz.func156, Tryz.ntmps156
        go_wp2_with fail
        (refine (turn_impl _ _ _ _ _).mono ?_; rintro e w1 ⟨rfl, hb1⟩)
        have F1 := F0.out.on hb1
        have G1 := Lib.hid F1
        obtain ⟨a0, a1, a2, a3, a4⟩ := Four.lay F1.a
        obtain ⟨b0, b1, b2, b3, b4⟩ := Four.lay F1.b
        clear F1 hb1
        go_wp2_with fail
        (refine (turn_impl _ _ _ _ _).mono ?_; rintro e w2 ⟨rfl, hb2⟩)
        have F2 := G1.out.on hb2
        have G2 := Lib.hid F2
        obtain ⟨a0, a1, a2, a3, a4⟩ := Four.lay F2.a
        obtain ⟨b0, b1, b2, b3, b4⟩ := Four.lay F2.b
        clear F2 hb2
        go_wp2_with fail
        (refine (then_impl _ _ _ _ _ _ _ _ _ _ _ _ _ h1 h2 HI.out.1.1 HI.out.1.2 HI.out.2.1 HI.out.2.2).mono ?_; rintro e w3 ⟨rfl, hb3⟩)
        have F3 := (G2.out.on hb3).on ((Below.refl _ _).alloc (Nat.le_refl _) (.cells #[.int .i64 Q, .int .i64 S, .int .i64 a, .int .i64 b] 38))
        have P3 := Four.new w3 38 Q S a b
        have G3 := Lib.hid (And.intro F3 P3)
        have hs3 := hb3.size
        clear F3 P3 hb3
        go_wp2_with fail
        (refine (turn_impl _ _ _ _ _).mono ?_; rintro e w4 ⟨rfl, hb4⟩)
        have F4 := G3.out.1.on hb4
        have P4 := G3.out.2.keep hb4 G3.out.2.lt
        obtain ⟨c0, c1, c2, c3, c4⟩ := Four.lay F4.r
        obtain ⟨p0, p1, p2, p3, p4⟩ := Four.lay P4
        have hB := F4.g
        clear F4 P4 hb4
        go_wp2_with fail
        refine bodyPost_ret (by simp [results, Tryz.results156, go_sem, *]; try rfl) rfl ?_
      · exact ⟨jn_no3 HI.out.1.1 HI.out.1.2 HI.out.2.1 HI.out.2.2 h3, by go_grown⟩
      · exact ⟨jn_yes h1 h2 HI.out.1.1 HI.out.1.2 HI.out.2.1 HI.out.2.2 h3, by go_grown⟩
theorem image_spec_to (q s dx dy x y a b : Int) (w : World) (ht : tokB q s dx dy = true) (hx : -200 ≤ x ∧ x ≤ 200) (hy : -200 ≤ y ∧ y ≤ 200) (ha : imX q s dx x y = a) (hb : imY q s dy x y = b) :
    Calls Tryz.prog 66 #[.agg #[.int .i64 q, .int .i64 s, .int .i64 dx, .int .i64 dy], .agg #[.int .i64 x, .int .i64 y]] w fun e w' => e = .returned (.agg #[.int .i64 a, .int .i64 b]) ∧ Below w.heap.size w w' := by
  rw [← ha, ← hb]; exact image_spec q s dx dy x y w ht hx hy
set_option maxHeartbeats 2000000 in
theorem join_spec (q s dx dy r t ex ey : Int) (w : World) :
    Calls Tryz.prog 70 #[.agg #[.int .i64 q, .int .i64 s, .int .i64 dx, .int .i64 dy], .agg #[.int .i64 r, .int .i64 t, .int .i64 ex, .int .i64 ey]] w fun e w' => e = .returned (jnV q s dx dy r t ex ey) ∧ Below w.heap.size w w' := by
  have F0 := Lib.hid (Pair.start w q s dx dy r t ex ey 38)
  cases h1 : tokB q s dx dy
  · go_enter Tryz.func70, Tryz.ntmps70
    go_wp2_with fail
    (refine (turn_spec _ _ _ _ _).mono ?_; rintro e w1 ⟨rfl, hb1⟩)
    have F1 := F0.out.on hb1
    obtain ⟨a0, a1, a2, a3, a4⟩ := Four.lay F1.a
    obtain ⟨b0, b1, b2, b3, b4⟩ := Four.lay F1.b
    obtain ⟨c0, c1, c2, c3, c4⟩ := Four.lay F1.r
    have hB := F1.g
    clear F1 hb1
    go_wp2_with fail
    refine bodyPost_ret (by simp [results, Tryz.results70, go_sem, *]; try rfl) rfl ?_
    exact ⟨jn_no (by simp [jnB, h1]), by go_grown⟩
  · cases h2 : tokB r t ex ey
    · go_enter Tryz.func70, Tryz.ntmps70
      go_wp2_with fail
      (refine (turn_spec _ _ _ _ _).mono ?_; rintro e w1 ⟨rfl, hb1⟩)
      have F1 := F0.out.on hb1
      have G1 := Lib.hid F1
      obtain ⟨a0, a1, a2, a3, a4⟩ := Four.lay F1.a
      obtain ⟨b0, b1, b2, b3, b4⟩ := Four.lay F1.b
      clear F1 hb1
      go_wp2_with fail
      (refine (turn_spec _ _ _ _ _).mono ?_; rintro e w2 ⟨rfl, hb2⟩)
      have F2 := G1.out.on hb2
      obtain ⟨a0, a1, a2, a3, a4⟩ := Four.lay F2.a
      obtain ⟨b0, b1, b2, b3, b4⟩ := Four.lay F2.b
      obtain ⟨c0, c1, c2, c3, c4⟩ := Four.lay F2.r
      have hB := F2.g
      clear F2 hb2
      go_wp2_with fail
      refine bodyPost_ret (by simp [results, Tryz.results70, go_sem, *]; try rfl) rfl ?_
      exact ⟨jn_no (by simp [jnB, h2]), by go_grown⟩
    · obtain ⟨a, ha⟩ : ∃ a, imX r t ex dx dy = a := ⟨_, rfl⟩
      obtain ⟨b, hb⟩ : ∃ b, imY r t ey dx dy = b := ⟨_, rfl⟩
      obtain ⟨Q, hQ⟩ : ∃ Q, jq q r = Q := ⟨_, rfl⟩
      obtain ⟨S, hS⟩ : ∃ S, s * t = S := ⟨_, rfl⟩
      have HI := Lib.hid (And.intro (And.intro ha hb) (And.intro hQ hS))
      clear ha hb hQ hS
      cases h3 : tokB Q S a b
      all_goals
        have t1 := tok_true h1
        have t2 := tok_true h2
        have m1 := mul16 t1.2.1 t2.2.1
        have m2 := jq_mod t1.1 t2.1
        rw [HI.out.2.2] at m1
        rw [HI.out.2.1] at m2
        have hS := HI.out.2.2
        have T1 := Lib.hid t1
        go_enter Tryz.func70, Tryz.ntmps70
        go_wp2_with fail
        (refine (turn_spec _ _ _ _ _).mono ?_; rintro e w1 ⟨rfl, hb1⟩)
        have F1 := F0.out.on hb1
        have G1 := Lib.hid F1
        obtain ⟨a0, a1, a2, a3, a4⟩ := Four.lay F1.a
        obtain ⟨b0, b1, b2, b3, b4⟩ := Four.lay F1.b
        clear F1 hb1
        go_wp2_with fail
        (refine (turn_spec _ _ _ _ _).mono ?_; rintro e w2 ⟨rfl, hb2⟩)
        have F2 := G1.out.on hb2
        have G2 := Lib.hid F2
        obtain ⟨a0, a1, a2, a3, a4⟩ := Four.lay F2.a
        obtain ⟨b0, b1, b2, b3, b4⟩ := Four.lay F2.b
        clear F2 hb2
        go_wp2_with fail
        (refine (image_spec_to _ _ _ _ _ _ _ _ _ h2 T1.out.2.2.1 T1.out.2.2.2 HI.out.1.1 HI.out.1.2).mono ?_; rintro e w3 ⟨rfl, hb3⟩)
        have F3 := (G2.out.on hb3).on ((Below.refl _ _).alloc (Nat.le_refl _) (.cells #[.int .i64 a, .int .i64 b] 109))
        have P3 := Two.new w3 109 a b
        have G3 := Lib.hid (And.intro (F3.on ((Below.refl _ _).alloc (Nat.le_refl _) (.cells #[.int .i64 Q, .int .i64 S, .int .i64 a, .int .i64 b] 38))) (Four.newAt (b := w3.heap.size + 1) (w3.alloc (.cells #[.int .i64 a, .int .i64 b] 109)) 38 Q S a b (by simp)))
        obtain ⟨a0, a1, a2, a3, a4⟩ := Four.lay (G2.out.on hb3).a
        obtain ⟨b0, b1, b2, b3, b4⟩ := Four.lay (G2.out.on hb3).b
        have l0 := (G2.out.on hb3).a.lt
        have l1 := (G2.out.on hb3).b.lt
        clear F3 P3 hb3
        go_wp2_with fail
        (refine (turn_spec _ _ _ _ _).mono ?_; rintro e w4 ⟨rfl, hb4⟩)
        have F4 := G3.out.1.on hb4
        have P4 := G3.out.2.keep hb4 G3.out.2.lt
        obtain ⟨c0, c1, c2, c3, c4⟩ := Four.lay F4.r
        obtain ⟨p0, p1, p2, p3, p4⟩ := Four.lay P4
        have hB := F4.g
        clear F4 P4 hb4
        go_wp2_with fail
        refine bodyPost_ret (by simp [results, Tryz.results70, go_sem, *]; try rfl) rfl ?_
      · exact ⟨jn_no3 HI.out.1.1 HI.out.1.2 HI.out.2.1 HI.out.2.2 h3, by go_grown⟩
      · exact ⟨jn_yes h1 h2 HI.out.1.1 HI.out.1.2 HI.out.2.1 HI.out.2.2 h3, by go_grown⟩
end Go.Proofs.YtjmfgbbngocodaaGreat.Join

namespace Go.Proofs.YtjmfgbbngocodaaGreat.NameImpl
open Go.ChangeShapes Go.WideShapes Go.ChangeAt Go.RowKit
open Kit Scan
open Split (byt byt_in byt_end)
set_option linter.unusedVariables false
set_option linter.unusedSimpArgs false
set_option linter.unnecessarySimpa false
set_option maxRecDepth 100000
theorem rune_high (s : ByteArray) (pos : Nat) (h : pos < s.size) (hb : 128 ≤ (s[pos]'h).toNat) : 128 ≤ (Utf8.decode s pos).1 := by
  have e : s.get! pos = s[pos]'h := by
    show s.get! pos = _
    simp [ByteArray.get!, getElem!_pos, h]
    rfl
  rw [Lib.decode_at, e]
  unfold Lib.decodeN
  repeat' split
  all_goals first | (simp only; omega) | omega
theorem empty_size (s : ByteArray) : s.toList.isEmpty = decide (s.size = 0) := by
  rw [ByteArray.toList_eq]
  rw [Bool.eq_iff_iff, List.isEmpty_iff, decide_eq_true_eq, ← List.length_eq_zero_iff]
  simp
theorem name_impl (s : ByteArray) (w : World) (hs : s.size ≤ 281474976710656) : Calls Tryz.prog 80 #[.string s] w fun e w' => e = .returned (.bool (nameB s)) ∧ Below w.heap.size w w' := by
  by_cases h1 : s.size < 1
  · have h1' : s.toList.isEmpty = true := by rw [empty_size, decide_eq_true_eq]; omega
    go_enter Tryz.func80, Tryz.ntmps80
    go_wp2
    go_ret
    exact ⟨ret_bool (by simp [nameB]; omega), by go_grown⟩
  · by_cases h8 : 8 < s.size
    · have h8' : (8 : Int) < (s.size : Int) := by omega
      have h1' : s.toList.isEmpty = false := by rw [empty_size, decide_eq_false_iff_not]; omega
      go_enter Tryz.func80, Tryz.ntmps80
      go_wp2
      go_ret
      exact ⟨ret_bool (by simp [nameB]; omega), by go_grown⟩
    · have h8' : ¬ (8 : Int) < (s.size : Int) := by omega
      have h1' : s.toList.isEmpty = false := by rw [empty_size, decide_eq_false_iff_not]; omega
      go_enter Tryz.func80, Tryz.ntmps80
      go_wp2
      go_loopw [] (fun wr => ∃ k : Nat, k ≤ s.size ∧ Letters s k ∧ wr = w.iter s k) (fun wr => s.size - wr.iterPos w.heap.size)
      case atStart => exact ⟨0, Nat.zero_le _, fun j hj => by omega, rfl⟩
      case round =>
        obtain ⟨k, hk, hl, rfl⟩ := hrel
        have HL := Lib.hid hl
        clear hl
        by_cases hlt : k < s.size
        · have hb := byt_in s k hlt
          by_cases hhi : 128 ≤ (s[k]'hlt).toNat
          · have hnx := fun ty => run_next_any (P := Tryz.prog) w s k ty hlt
            have hr := rune_high s k hlt hhi
            have hr1 := Lib.rune_le s k
            have hno := nameB_no hlt (by omega)
            generalize (Utf8.decode s k).1 = r at hnx hr hr1
            generalize (Utf8.decode s k).2 = d at hnx
            have t1 : ¬ (r : Int) < 97 := by omega
            have t2 : (122 : Int) < (r : Int) := by omega
            clear hb
            go_wp2
            go_ret
            exact ⟨ret_bool (by first | rfl | exact hno.symm), by unfold World.iter; go_grown⟩
          · have hnx := fun ty => run_next_ascii (P := Tryz.prog) w s k ty hlt (by omega)
            by_cases h1 : ((s[k]'hlt).toNat : Int) < 97
            · have hno := nameB_no hlt (by omega)
              clear hb
              go_wp2
              go_ret
              exact ⟨ret_bool (by first | rfl | exact hno.symm), by unfold World.iter; go_grown⟩
            · by_cases h2 : (122 : Int) < ((s[k]'hlt).toNat : Int)
              · have hno := nameB_no hlt (by omega)
                clear hb
                go_wp2
                go_ret
                exact ⟨ret_bool (by first | rfl | exact hno.symm), by unfold World.iter; go_grown⟩
              · have hst : Letters s (k + 1) := by
                  intro j hj
                  by_cases e : j < k
                  · exact HL.out j e
                  · obtain rfl : j = k := by omega
                    omega
                have HS := Lib.hid hst
                clear hb hst
                go_wp2
                go_roundw
                case rel => exact ⟨k + 1, by omega, HS.out, rfl⟩
                case measure => simp; omega
        · have hnx := fun ty => run_next_end (P := Tryz.prog) w s k ty hlt
          obtain rfl : k = s.size := by omega
          go_wp2
          go_ret
          exact ⟨ret_bool (by rw [nameB_all HL.out]; simp; omega), by unfold World.iter; go_grown⟩
end Go.Proofs.YtjmfgbbngocodaaGreat.NameImpl

namespace Go.Proofs.YtjmfgbbngocodaaGreat.NameImpl
open Go.ChangeShapes Go.WideShapes Go.ChangeAt Go.RowKit
open Kit Scan
set_option linter.unusedVariables false
set_option linter.unusedSimpArgs false
set_option maxRecDepth 100000
theorem tok_impl (s : ByteArray) (n : Int) (w : World) (hs : s.size ≤ 281474976710656) : Calls Tryz.prog 37 #[.agg #[.string s, .int .i64 n]] w fun e w' => e = .returned (.bool (tkB s n)) ∧ Below w.heap.size w w' := by
  cases h : s.toList.isEmpty
  · have k1 : (w.alloc (.cells #[.string s, .int .i64 n] 50)).cell? ⟨w.heap.size, 1, none⟩ = some (.int .i64 n) := by simp [go_sem]
    have HK := Lib.hid k1
    clear k1
    cases h1 : nameB s
    all_goals
      go_enter Tryz.func37, Tryz.ntmps37
      go_wp2_with (go_at_call 80; (with_reducible refine (name_impl _ _ hs).mono ?_); rintro e w' ⟨rfl, hb⟩; have hB := on_of (W := w) (by go_grown) hb; have c1 := (hb.cell (p := ⟨w.heap.size, 1, none⟩) (by simp)).trans HK.out; clear hb)
      go_ret
      exact ⟨ret_bool (by simp [tkB, h, h1]; try rfl), hB⟩
  · by_cases h1 : (-999 : Int) ≤ n
    all_goals
      go_enter Tryz.func37, Tryz.ntmps37
      go_wp2
      go_ret
      exact ⟨ret_bool (by simp [tkB, h, h1]; try omega), by go_grown⟩
end Go.Proofs.YtjmfgbbngocodaaGreat.NameImpl

