/-
  Texts of this seat, laid together: ShI8, Mv10, ClB, ClC, Mo10, Dr9, Rl9, Dot, Ms10, MkO
-/
import Derived.Deep.RegionHeld3
import Derived.Deep.RegionWith
import Derived.WalkKit
import Derived.Deep.DeepCutAuto
import Derived.Deep.QuietTactic
import Derived.BigQuiet
import Derived.Handy
import Derived.Test.YtifmdgncgokikaaP29
import Derived.Test.YtifmdgncgokikaaP03
import Derived.Test.YtifmdgncgokikaaP18
import Derived.Test.YtifmdgncgokikaaP06
import Derived.Test.YtifmdgncgokikaaP26
import Derived.Test.YtifmdgncgokikaaP28
import Derived.Test.YtifmdgncgokikaaP05
import Derived.Test.YtifmdgncgokikaaP14
namespace Go.Proofs.Ytifmdgncgokikaa.Ins
open Go.ChangeShapes Go.WideShapes Go.ChangeAt Go.RowKit
open Kit Point Slabs
set_option linter.unusedVariables false
set_option linter.unusedSimpArgs false
set_option linter.unnecessarySimpa false
theorem all_sh (l : List Pt) (d : Pt) : l.all (shB d) = (ptsB l && ptsB (l.map (mv d))) := by
  rw [Bool.eq_iff_iff]
  simp only [Bool.and_eq_true, ptsB, List.all_eq_true, List.mem_map, shB, forall_exists_index, and_imp]
  constructor
  · intro h
    exact ⟨fun p hp => (h p hp).1, fun q p hp e => by subst e; exact (h p hp).2⟩
  · intro h p hp
    exact ⟨h.1 p hp, h.2 _ p hp rfl⟩
def ShI (w : World) (m : List Pt) (e : Ending) (w' : World) : Prop := ∃ v, e = .returned v ∧ w'.ownsRow w.heap.size 100 2 v m.length (cellsP m) ∧ Below w.heap.size w w'
theorem shi_none (w W : World) (h : Below w.heap.size w W) : ShI w [] (.returned (.slice none 0 0)) W :=
  ⟨_, rfl, ⟨by decide, .inl ⟨rfl, rfl⟩⟩, h⟩
end Go.Proofs.Ytifmdgncgokikaa.Ins
namespace Go.Proofs.Ytifmdgncgokikaa.Ins
open Go.ChangeShapes Go.WideShapes Go.ChangeAt Go.RowKit
open Kit Point
open Go.Proofs.Ytifmdgncgokikaa.Own (Blk Ob grayB)
set_option linter.unusedVariables false
set_option linter.unusedSimpArgs false
set_option linter.unnecessarySimpa false
set_option maxRecDepth 100000
def FgIs (w : World) (m : List Pt) (g x0 y0 x1 y1 : Int) (e : Ending) (w' : World) : Prop := ∃ va vc, e = .returned (.agg #[.slice va m.length vc, .int .i64 g, .int .i64 x0, .int .i64 y0, .int .i64 x1, .int .i64 y1]) ∧
  w'.ownsRow w.heap.size 100 2 (.slice va m.length vc) m.length (cellsP m) ∧ Below w.heap.size w w'
end Go.Proofs.Ytifmdgncgokikaa.Ins
namespace Go.Proofs.Ytifmdgncgokikaa.Own
open Go.ChangeShapes Go.WideShapes Go.ChangeAt Go.RowKit
open Kit Slabs Ints Stack Point Turn
set_option linter.unusedVariables false
set_option linter.unusedSimpArgs false
set_option linter.unnecessarySimpa false
set_option maxRecDepth 100000
attribute [local go_sem ↓] hload_Object hstore_Object
end Go.Proofs.Ytifmdgncgokikaa.Own
namespace Go.Proofs.Ytifmdgncgokikaa.Own
open Go.ChangeShapes Go.WideShapes Go.ChangeAt Go.RowKit
open Kit Slabs Ints Stack Point Turn
set_option linter.unusedVariables false
set_option linter.unusedSimpArgs false
set_option linter.unnecessarySimpa false
set_option maxRecDepth 100000
def NewSt (ks : List Kd) (ds : List Dt) (w : World) (e : Ending) (w' : World) : Prop := ∃ (R : Array Value) (f : List Nat), e = .returned (.agg R) ∧ OwnL w' ks R.toList ds f ∧ f.Nodup ∧ (∀ b ∈ f, w.heap.size ≤ b) ∧ Below w.heap.size w w'
attribute [local go_sem ↓] hload_Object hstore_Object
end Go.Proofs.Ytifmdgncgokikaa.Own
namespace Go.Proofs.Ytifmdgncgokikaa.Ins
open Go.ChangeShapes Go.WideShapes Go.ChangeAt Go.RowKit
open Kit Point Slabs
open Go.Proofs.Ytifmdgncgokikaa.Own (Blk Ob grayB OwnL LObject KPt dP dPt)
set_option linter.unusedVariables false
set_option linter.unusedSimpArgs false
set_option linter.unnecessarySimpa false
set_option maxRecDepth 100000
def mvO (o : Ob) (dx dy : Int) : Ob := ⟨shV o.path (dx, dy), o.gray, IntKind.i64.wrap (o.x0 + dx), IntKind.i64.wrap (o.y0 + dy), IntKind.i64.wrap (o.x1 + dx), IntKind.i64.wrap (o.y1 + dy)⟩
def mvB (o : Ob) (dx dy : Int) : Bool := Own.obB o && Own.obB (mvO o dx dy)
def mvR (o : Ob) (dx dy : Int) : Ob := if mvB o dx dy then mvO o dx dy else o
def MvIs (o : Ob) (r : Bool) (w : World) (e : Ending) (w' : World) : Prop := ∃ (R : Array Value) (f : List Nat), e = .returned (.tuple #[.agg R, .bool r]) ∧ OwnL w' LObject R.toList o.dt f ∧ f.Nodup ∧ (∀ b ∈ f, w.heap.size ≤ b) ∧ Below w.heap.size w w'
theorem ownL_set {w : World} {ks : List Own.Kd} {cs : List Value} {ds : List Own.Dt} {fp : List Nat} {b : Nat} (h : OwnL w ks cs ds fp) (hn : b ∉ fp) (o : Nat) (v : Value) : OwnL (w.setCell ⟨b, o, none⟩ v) ks cs ds fp :=
  OwnL.stays (by simp) h (fun x hx => Below.heap_setCell _ _ _ _ (fun e => hn (by have e' : x = b := e; rw [← e']; exact hx)))
theorem own_row10 {w : World} {B : Nat} {v : Value} {m : List Pt} (h : w.ownsRow B 100 2 v m.length (cellsP m)) : ∃ fp, Own.Own w (.sl KPt) [v] (.sl (dP m)) fp ∧ fp.Nodup ∧ ∀ b ∈ fp, B ≤ b := by
  have hs := slab_owns h
  refine ⟨_, Own.pts_own hs (Own.len_dP m) (fun i hi => ⟨pX m i, pY m i, ?_, rfl⟩), ?_, fun b hb => (hs.row b (by simpa using hb)).1⟩
  · have e : m.getD i (0, 0) = m[i] := by simp [List.getD, List.getElem?_eq_getElem hi]
    simp only [Own.at_, dP, List.getD_eq_getElem?_getD, List.getElem?_map, List.getElem?_eq_getElem hi, Option.map_some, Option.getD_some, dPt, pX, pY]
  · cases Slabs.rowOf m.length v <;> simp
theorem obj_open {w : World} {A : Array Value} {o : Ob} {fp : List Nat} (h : OwnL w LObject A.toList o.dt fp) :
    ∃ a c, A = #[.slice a o.path.length c, .int .i64 o.gray, .int .i64 o.x0, .int .i64 o.y0, .int .i64 o.x1, .int .i64 o.y1] ∧ PathAt w a o.path := by
  obtain ⟨a0, c0, f0, hA, hf, o0⟩ := Own.inv_Object_ h
  simp only [Own.len_dP] at hA o0
  refine ⟨a0, c0, ?_, (Own.path_of o0).2⟩
  apply Array.toList_inj.1
  simpa using hA
theorem obj_len {o : Ob} (hb : Own.bulkL o.dt ≤ 1048576) : o.path.length ≤ 1048576 := by
  simp only [Own.Ob.dt, Own.bulkL, Own.Dt.bulk, Own.len_dP, Own.bulk_dP] at hb; omega
theorem obj_close {w : World} {B : Nat} {va : Option Addr} {vc : Nat} {o : Ob} (h : w.ownsRow B 100 2 (.slice va o.path.length vc) o.path.length (cellsP o.path)) :
    ∃ f, OwnL w LObject [.slice va o.path.length vc, .int .i64 o.gray, .int .i64 o.x0, .int .i64 o.y0, .int .i64 o.x1, .int .i64 o.y1] o.dt f ∧ f.Nodup ∧ ∀ b ∈ f, B ≤ b := by
  obtain ⟨f, o0, n0, g0⟩ := own_row10 h
  exact ⟨f, Own.mk_ob o.gray o.x0 o.y0 o.x1 o.y1 o0, n0, g0⟩
structure MvS (W w : World) (GA GR GM : Nat) (cs ms : List Value) : Prop where
  A : Blk W GA cs
  R : Blk W GR [.slice none 0 0, .int .i64 0, .int .i64 0, .int .i64 0, .int .i64 0, .int .i64 0]
  M : Blk W GM ms
  B : Below w.heap.size w W
theorem MvS.on {W w V : World} {GA GR GM : Nat} {cs ms : List Value} (h : MvS W w GA GR GM cs ms) (hb : Below W.heap.size W V) : MvS V w GA GR GM cs ms :=
  ⟨h.A.keep hb, h.R.keep hb, h.M.keep hb, on_of h.B hb⟩
theorem six {W : World} {G : Nat} {v : Value} {g x0 y0 x1 y1 : Int} (h : Blk W G [v, .int .i64 g, .int .i64 x0, .int .i64 y0, .int .i64 x1, .int .i64 y1]) :
    W.cell? ⟨G, 0, none⟩ = some v ∧ W.cell? ⟨G, 1, none⟩ = some (.int .i64 g) ∧ W.cell? ⟨G, 2, none⟩ = some (.int .i64 x0) ∧ W.cell? ⟨G, 3, none⟩ = some (.int .i64 y0) ∧ W.cell? ⟨G, 4, none⟩ = some (.int .i64 x1) ∧ W.cell? ⟨G, 5, none⟩ = some (.int .i64 y1) ∧ (∀ o, W.frozen? ⟨G, o, none⟩ = false) ∧ G < W.heap.size :=
  ⟨h.1 0 _ rfl, h.1 1 _ rfl, h.1 2 _ rfl, h.1 3 _ rfl, h.1 4 _ rfl, h.1 5 _ rfl, h.2.1, h.2.2⟩
end Go.Proofs.Ytifmdgncgokikaa.Ins
namespace Go.Proofs.Ytifmdgncgokikaa.Ins
open Go.ChangeShapes Go.WideShapes Go.ChangeAt Go.RowKit
open Kit Point Slabs Draw
set_option linter.unusedVariables false
set_option linter.unusedSimpArgs false
set_option linter.unnecessarySimpa false
structure Drs (l : List Pt) : Prop where
  sep : Sep l
  few : l.length ≤ 4
  small : ∀ q ∈ l, 1 ≤ q.2 - q.1 ∧ q.2 - q.1 ≤ 6
theorem within5 {n r : Int} (h : Within n r) (hn : 0 < n) : 0 ≤ r ∧ r < n := ⟨h.1, h.2.1 hn⟩
theorem draws_drew {W w : World} {a : Option Addr} {len cap : Nat} {z : List Int} {b : Nat} (d : Draws W a len cap z b w) : Drawn W a len cap z b w w.drew :=
  ⟨⟨d.row, d.far, d.here, by obtain ⟨i, h, hi, hl, c⟩ := d.cur; exact ⟨i, h, hi, hl, c.c0, c.c1, c.c2, c.f1, c.f2⟩, ⟨d.below.os, d.below.tape, d.below.output, d.below.size, d.below.block⟩⟩, ⟨rfl, rfl, rfl, Nat.le_refl _, fun _ _ _ => rfl⟩⟩
theorem drs_snoc {l : List Pt} {y e x : Int} (h : Drs l) (hl : ∀ q ∈ l, q.2 < y) (h4 : l.length ≤ 3) (h1 : 1 ≤ e - y ∧ e - y ≤ 6) (hx : e < x) : Drs (l ++ [(y, e)]) ∧ ∀ q ∈ l ++ [(y, e)], q.2 < x := by
  refine ⟨⟨h.sep.snoc (by omega) hl, by simp; omega, fun q hq => ?_⟩, fun q hq => ?_⟩
  · rcases List.mem_append.1 hq with hq | hq
    · exact h.small q hq
    · rw [List.mem_singleton.1 hq]; exact h1
  · rcases List.mem_append.1 hq with hq | hq
    · have := hl q hq; omega
    · rw [List.mem_singleton.1 hq]; exact hx
end Go.Proofs.Ytifmdgncgokikaa.Ins
namespace Go.Proofs.Ytifmdgncgokikaa.Ins
open Go.ChangeShapes Go.WideShapes Go.ChangeAt Go.RowKit
open Kit Point
set_option linter.unusedVariables false
set_option linter.unusedSimpArgs false
set_option linter.unnecessarySimpa false
def sumD (l : List Pt) : Int := (l.map fun q => q.2 - q.1).sum
theorem sumD_nil : sumD [] = 0 := rfl
theorem sumD_cons (p : Pt) (l : List Pt) : sumD (p :: l) = p.2 - p.1 + sumD l := by simp [sumD]
theorem sumD_snoc (l : List Pt) (p : Pt) : sumD (l ++ [p]) = sumD l + (p.2 - p.1) := by simp [sumD]
theorem sumD_bd {l : List Pt} (h : ∀ q ∈ l, 0 ≤ q.2 - q.1 ∧ q.2 - q.1 ≤ 1000) : 0 ≤ sumD l ∧ sumD l ≤ 1000 * (l.length : Int) := by
  induction l with
  | nil => simp [sumD]
  | cons p r ih =>
    have h1 := h p (by simp)
    have h2 := ih fun q hq => h q (by simp [hq])
    rw [sumD_cons, List.length_cons]; omega
theorem take_snoc (l : List Pt) {k : Nat} (h : k < l.length) : l.take (k + 1) = l.take k ++ [(pX l k, pY l k)] := by
  rw [List.take_add_one, List.getElem?_eq_getElem h, getk l h]; rfl
theorem dtK_sum {l : List Pt} (h : ∀ q ∈ l, 0 ≤ q.2 - q.1 ∧ q.2 - q.1 ≤ 1000) (hl : l.length ≤ 1000) : ∀ k, k ≤ l.length → dtK l k = sumD (l.take k)
  | 0, _ => by simp [dtK, sumD]
  | k + 1, hk => by
    have hk' : k < l.length := by omega
    have ih := dtK_sum h hl k (by omega)
    have b := sumD_bd (l := l.take k) fun q hq => h q (List.mem_of_mem_take hq)
    have hlen : (l.take k).length ≤ 1000 := by rw [List.length_take]; omega
    have q := h _ (List.getElem_mem hk')
    rw [getk l hk'] at q
    dsimp only at q
    rw [take_snoc l hk', sumD_snoc, dtK, ih, IntKind.wrap_i64, IntKind.wrap_i64]
    dsimp only
    omega
theorem dtV_sum {l : List Pt} (h : ∀ q ∈ l, 0 ≤ q.2 - q.1 ∧ q.2 - q.1 ≤ 1000) (hl : l.length ≤ 1000) (hok : spB l = true) : dtV l = sumD l := by
  rw [dt_good hok, dtK_sum h hl _ (Nat.le_refl _), List.take_of_length_le (Nat.le_refl _)]
theorem cnt_iv : ∀ (n A B : Nat), A ≤ B → B ≤ n → (List.range n).countP (fun j => decide (A ≤ j ∧ j < B)) = B - A
  | 0, A, B, h1, h2 => by simp; omega
  | n + 1, A, B, h1, h2 => by
    rw [List.range_succ, List.countP_append, List.countP_singleton]
    by_cases hB : B ≤ n
    · rw [cnt_iv n A B h1 hB, decide_eq_false (show ¬ (A ≤ n ∧ n < B) by omega)]; simp
    · obtain rfl : B = n + 1 := by omega
      by_cases hA : A ≤ n
      · have e : (List.range n).countP (fun j => decide (A ≤ j ∧ j < n + 1)) = (List.range n).countP (fun j => decide (A ≤ j ∧ j < n)) :=
          List.countP_congr fun j hj => by have := List.mem_range.1 hj; simp; omega
        rw [e, cnt_iv n A n hA (Nat.le_refl _), decide_eq_true (show A ≤ n ∧ n < n + 1 by omega)]; simp; omega
      · have e : (List.range n).countP (fun j => decide (A ≤ j ∧ j < n + 1)) = 0 := by
          rw [List.countP_eq_zero]; intro j hj; have := List.mem_range.1 hj; simp; omega
        rw [e, decide_eq_false (show ¬ (A ≤ n ∧ n < n + 1) by omega)]; simp; omega
theorem cnt_or {α : Type} (f g : α → Bool) : ∀ L : List α, (∀ j ∈ L, ¬ (f j = true ∧ g j = true)) → L.countP (fun j => f j || g j) = L.countP f + L.countP g
  | [], _ => rfl
  | a :: L, h => by
    have ih := cnt_or f g L fun j hj => h j (by simp [hj])
    have ha := h a (by simp)
    rw [List.countP_cons, List.countP_cons, List.countP_cons, ih]
    cases hf : f a <;> cases hg : g a <;> simp [hf, hg] at ha ⊢ <;> omega
def cntS (l : List Pt) (k : Nat) : Nat := (List.range k).countP fun j : Nat => inS l ((j : Int) - 8)
theorem cntS_succ (l : List Pt) (k : Nat) : cntS l (k + 1) = cntS l k + if inS l ((k : Int) - 8) = true then 1 else 0 := by
  unfold cntS; rw [List.range_succ, List.countP_append, List.countP_singleton]
theorem cntS_le (l : List Pt) (k : Nat) : cntS l k ≤ k := by
  have := List.countP_le_length (p := fun j : Nat => inS l ((j : Int) - 8)) (l := List.range k); simpa [cntS] using this
theorem cntS_sum : ∀ {l : List Pt}, Sep l → (∀ q ∈ l, -8 ≤ q.1 ∧ q.2 ≤ 42) → ((cntS l 50 : Nat) : Int) = sumD l
  | [], _, _ => by simp [cntS, inS_nil, sumD]
  | p :: r, h, hb => by
    have ih := cntS_sum h.2.2 fun q hq => hb q (by simp [hq])
    have bp := hb p (by simp)
    have hp := h.1
    have e : cntS (p :: r) 50 = (List.range 50).countP (fun j : Nat => decide (p.1 ≤ (j : Int) - 8 ∧ (j : Int) - 8 < p.2)) + cntS r 50 := by
      unfold cntS
      simp only [inS_cons]
      refine cnt_or _ _ _ fun j _ hj => ?_
      obtain ⟨h1, h2⟩ := hj
      simp only [decide_eq_true_eq] at h1
      obtain ⟨q, hq, h3, h4⟩ := inS_true.1 h2
      have := h.2.1 q hq
      omega
    have e2 : (List.range 50).countP (fun j : Nat => decide (p.1 ≤ (j : Int) - 8 ∧ (j : Int) - 8 < p.2)) = (p.2 + 8).toNat - (p.1 + 8).toNat := by
      rw [← cnt_iv 50 (p.1 + 8).toNat (p.2 + 8).toNat (by omega) (by omega)]
      refine List.countP_congr fun j _ => ?_
      simp only [decide_eq_true_eq]; omega
    rw [e, e2, sumD_cons, ← ih]; omega
theorem shp_cols {l : List Pt} {y : Int} (h : Shp l) : ∀ d ∈ colsK l y l.length, -4 ≤ d ∧ d ≤ 36 :=
  cols_in l (X0 := -4) (X1 := 36) (by omega) (by omega) (fun k hk => by
    have := h _ (List.getElem_mem hk)
    rw [getp l hk] at this
    unfold Draw.InPage at this
    exact ⟨this.1.1, by have := this.1.2; omega⟩) l.length (Nat.le_refl _)
theorem shp_ends {l : List Pt} {y : Int} (h : Shp l) : ∀ q ∈ prs (colsK l y l.length), -4 ≤ q.1 ∧ q.2 ≤ 36 := fun q hq => by
  have := prs_mem _ q hq
  have h1 := shp_cols h q.1 this.1
  have h2 := shp_cols h q.2 this.2
  omega
theorem sps_good {l : List Pt} {y : Int} (hp : pathB l = true) (hy : inB y = true) : spsV l y = prs (colsK l y l.length) := by simp [spsV, hp, hy]
theorem sps_ins {l : List Pt} {x y : Int} (h : Shp l) (h6 : l.length ≤ 6) (hy : -1 ≤ y ∧ y ≤ 32) (hx : -8 ≤ x ∧ x < 42) : inpB l x y = inS (spsV l y) x := by
  have hp := shp_ok h (by omega)
  have hyB : inB y = true := by simp [inB]; omega
  have hxB : inB x = true := by simp [inB]; omega
  have hr : ∀ k, k < l.length → -200 ≤ pX l k ∧ pX l k ≤ 200 := fun k hk => by
    have := h _ (List.getElem_mem hk)
    rw [getp l hk] at this
    unfold Draw.InPage at this
    have := this.1; dsimp only at this; omega
  rw [sps_good hp hyB, sps_in (X0 := -200) (X1 := 200) (by omega) (by omega) hr, decide_eq_true (show -200 ≤ x ∧ x < 200 by omega)]
  simp [inpB, hp, hyB, hxB]
theorem sps_okB {l : List Pt} {y : Int} (h6 : l.length ≤ 6) : spB (spsV l y) = true := by
  have hl := spsV_len l y
  have hs : okS (spsV l y) = true := by
    unfold spsV; split
    · exact (sep_iff _).2 (prs_sep (cols_sorted l y _))
    · rfl
  simp [spB, hs]; omega
theorem sps_dots {l : List Pt} {y : Int} (h : Shp l) (h6 : l.length ≤ 6) (hy : -1 ≤ y ∧ y ≤ 32) : dtV (spsV l y) = ((cntS (spsV l y) 50 : Nat) : Int) := by
  have hp := shp_ok h (by omega)
  have hyB : inB y = true := by simp [inB]; omega
  have hl := spsV_len l y
  have hok := sps_okB (l := l) (y := y) h6
  rw [sps_good hp hyB] at *
  have he := shp_ends (y := y) h
  have hs := prs_sep (cols_sorted l y l.length)
  rw [cntS_sum hs fun q hq => by have := he q hq; omega]
  exact dtV_sum (fun q hq => by have := he q hq; have := hs.pos q hq; omega) (by omega) hok
/-! ### spans that are cut -/
theorem sep_lt {l : List Pt} (h : okS l = true) : ∀ {j k : Nat}, j < k → k < l.length → pY l j < pX l k := by
  intro j k hjk hk
  induction k with
  | zero => omega
  | succ k ih =>
    have h1 := okS_at h hk
    simp only [okK, Bool.and_eq_true, decide_eq_true_eq, Bool.or_eq_true, Nat.add_sub_cancel] at h1
    have h2 := okS_at h (k := k) (by omega)
    simp only [okK, Bool.and_eq_true, decide_eq_true_eq] at h2
    rcases h1.2 with h3 | h3
    · omega
    · by_cases e : j = k
      · subst e; exact h3
      · have := ih (by omega) (by omega); omega
structure MtOk (l : List Pt) (a b : Int) (k : Nat) : Prop where
  sep : Sep (mtK l a b k)
  ends : ∀ q ∈ mtK l a b k, ∃ j, j < k ∧ pX l j ≤ q.1 ∧ q.2 ≤ pY l j
  ins : ∀ x, inS (mtK l a b k) x = (inS (l.take k) x && (decide (a ≤ x) && decide (x < b)))
  sum : sumD (mtK l a b k) ≤ sumD (l.take k)
theorem mt_ok {l : List Pt} (h : okS l = true) (a b : Int) : ∀ k, k ≤ l.length → MtOk l a b k
  | 0, _ => ⟨trivial, by simp [mtK], by simp [mtK, inS_nil], by simp [mtK, sumD]⟩
  | k + 1, hk => by
    have hk' : k < l.length := by omega
    obtain ⟨h1, h2, h3, h4⟩ := mt_ok h a b k (by omega)
    have hp := okS_at h hk'
    simp only [okK, Bool.and_eq_true, decide_eq_true_eq] at hp
    have hlt : ∀ q ∈ mtK l a b k, q.2 < pX l k := fun q hq => by
      obtain ⟨j, hj, _, h6⟩ := h2 q hq
      have := sep_lt h hj hk'; omega
    have e : mtK l a b (k + 1) = if mx (pX l k) a < mn (pY l k) b then mtK l a b k ++ [(mx (pX l k) a, mn (pY l k) b)] else mtK l a b k := rfl
    have hmx : pX l k ≤ mx (pX l k) a ∧ a ≤ mx (pX l k) a ∧ (mx (pX l k) a = pX l k ∨ mx (pX l k) a = a) := by unfold mx; omega
    have hmn : mn (pY l k) b ≤ pY l k ∧ mn (pY l k) b ≤ b ∧ (mn (pY l k) b = pY l k ∨ mn (pY l k) b = b) := by unfold mn; omega
    generalize mx (pX l k) a = p at *
    generalize mn (pY l k) b = q at *
    have hcov : ∀ x, (decide (p ≤ x ∧ x < q)) = (decide (pX l k ≤ x ∧ x < pY l k) && (decide (a ≤ x) && decide (x < b))) := fun x => by
      rw [← Bool.decide_and, ← Bool.decide_and, decide_eq_decide]; omega
    by_cases hm : p < q
    · rw [if_pos hm] at e
      refine ⟨?_, ?_, ?_, ?_⟩ <;> rw [e]
      · exact h1.snoc hm fun q hq => by have := hlt q hq; omega
      · intro s hs
        rcases List.mem_append.1 hs with hs | hs
        · obtain ⟨j, hj, h5⟩ := h2 s hs; exact ⟨j, by omega, h5⟩
        · rw [List.mem_singleton.1 hs]; exact ⟨k, by omega, hmx.1, hmn.1⟩
      · intro x
        rw [take_snoc l hk', inS_app, inS_app, h3 x, inS_cons, inS_cons, inS_nil, Bool.or_false, Bool.or_false]
        dsimp only
        rw [hcov x, Bool.and_or_distrib_right]
      · rw [take_snoc l hk', sumD_snoc, sumD_snoc]; dsimp only; omega
    · rw [if_neg hm] at e
      refine ⟨?_, ?_, ?_, ?_⟩ <;> rw [e]
      · exact h1
      · intro s hs; obtain ⟨j, hj, h5⟩ := h2 s hs; exact ⟨j, by omega, h5⟩
      · intro x
        have hc := hcov x
        rw [decide_eq_false (show ¬ (p ≤ x ∧ x < q) by omega)] at hc
        rw [take_snoc l hk', inS_app, h3 x, inS_cons, inS_nil, Bool.or_false, Bool.and_or_distrib_right]
        dsimp only
        rw [← hc, Bool.or_false]
      · rw [take_snoc l hk', sumD_snoc]; dsimp only; omega
theorem drs_ok {l : List Pt} (h : Drs l) : spB l = true := by
  have := (sep_iff l).2 h.sep
  have := h.few
  simp [spB, *]; omega
theorem mt_in {l : List Pt} (h : Drs l) (a b x : Int) : inS (mtV l a b) x = (inS l x && (decide (a ≤ x) && decide (x < b))) := by
  have hk := (mt_ok ((sep_iff l).2 h.sep) a b l.length (Nat.le_refl _)).ins x
  rw [List.take_of_length_le (Nat.le_refl _)] at hk
  rw [mt_good a b (drs_ok h)]; exact hk
theorem mt_spB {l : List Pt} (h : Drs l) (a b : Int) : spB (mtV l a b) = true := by
  have hk := (mt_ok ((sep_iff l).2 h.sep) a b l.length (Nat.le_refl _)).sep
  have hl := mtV_len l a b
  have := h.few
  rw [mt_good a b (drs_ok h)] at *
  have := (sep_iff _).2 hk
  simp [spB, this]; omega
theorem mt_dots {l : List Pt} (h : Drs l) (a b : Int) : dtV (mtV l a b) ≤ dtV l := by
  have hM := mt_ok ((sep_iff l).2 h.sep) a b l.length (Nat.le_refl _)
  have hl := mtV_len l a b
  have hf := h.few
  have hok := mt_spB h a b
  rw [mt_good a b (drs_ok h)] at *
  have hs := hM.sum
  rw [List.take_of_length_le (Nat.le_refl _)] at hs
  have e1 : dtV (mtK l a b l.length) = sumD (mtK l a b l.length) := dtV_sum (fun q hq => by
    have h1 := hM.sep.pos q hq
    obtain ⟨j, hj, h2, h3⟩ := hM.ends q hq
    have h4 := h.small _ (List.getElem_mem hj)
    rw [getk l hj] at h4
    dsimp only at h4
    omega) (by omega) hok
  have e2 : dtV l = sumD l := dtV_sum (fun q hq => by have := h.small q hq; omega) (by omega) (drs_ok h)
  omega
end Go.Proofs.Ytifmdgncgokikaa.Ins
namespace Go.Proofs.Ytifmdgncgokikaa.Dot
open Go.ChangeShapes Go.WideShapes Go.ChangeAt Go.RowKit
open Kit Point Box
set_option linter.unusedVariables false
set_option linter.unusedSimpArgs false
set_option linter.unnecessarySimpa false
attribute [local go_sem ↓] run_mx run_mn
def inboxB (x0 y0 x1 y1 x y : Int) : Bool := bokB x0 y0 x1 y1 && decide (x0 ≤ x ∧ x < x1 ∧ y0 ≤ y ∧ y < y1)
theorem nxt_of (x : Int) (h : -9223372036854775808 ≤ x ∧ x ≤ 9223372036854775807) : (x < 9223372036854775807 ∧ wrap64 (x + 1) = x + 1) ∨ (x = 9223372036854775807 ∧ wrap64 (x + 1) = -9223372036854775808) := by
  by_cases hx : x < 9223372036854775807
  · exact .inl ⟨hx, IntWalk.wrap64_in _ (by omega)⟩
  · have : x = 9223372036854775807 := by omega
    subst this
    exact .inr ⟨rfl, by go_arith⟩
theorem inbox_iff {x0 y0 x1 y1 x y p q a b c d : Int} (hm : MeetOf x0 y0 x1 y1 x y p q a b c d)
    (kx : (x < 9223372036854775807 ∧ p = x + 1) ∨ (x = 9223372036854775807 ∧ p = -9223372036854775808)) (ky : (y < 9223372036854775807 ∧ q = y + 1) ∨ (y = 9223372036854775807 ∧ q = -9223372036854775808)) :
    (a = x ∧ b = y ∧ c = p ∧ d = q) ↔ inboxB x0 y0 x1 y1 x y = true := by
  simp only [inboxB, Bool.and_eq_true, decide_eq_true_eq, MeetOf, ← Bool.not_eq_true, bok_iff, mx, mn] at *
  omega
theorem run_eql_box (w : World) (a b c d x y p q : Int) : (binOp .eql 28 (.agg #[.int .i64 a, .int .i64 b, .int .i64 c, .int .i64 d]) (.agg #[.int .i64 x, .int .i64 y, .int .i64 p, .int .i64 q])).run Try.prog w = .ok (.bool (decide (a = x ∧ b = y ∧ c = p ∧ d = q))) w := by
  by_cases h1 : a = x <;> by_cases h2 : b = y <;> by_cases h3 : c = p <;> by_cases h4 : d = q
  all_goals simp [go_sem, *]
attribute [local go_sem ↓] run_eql_box
end Go.Proofs.Ytifmdgncgokikaa.Dot
namespace Go.Proofs.Ytifmdgncgokikaa.Ins
open Go.ChangeShapes Go.WideShapes Go.ChangeAt Go.RowKit
open Kit Point Slabs
open Go.Proofs.Ytifmdgncgokikaa.Own (Blk Ob grayB OwnL LObject KPt dP dPt)
set_option linter.unusedVariables false
set_option linter.unusedSimpArgs false
set_option linter.unnecessarySimpa false
set_option maxRecDepth 100000
structure MvT (W w : World) (GA GR : Nat) (cs : List Value) : Prop where
  A : Blk W GA cs
  R : Blk W GR [.slice none 0 0, .int .i64 0, .int .i64 0, .int .i64 0, .int .i64 0, .int .i64 0]
  B : Below w.heap.size w W
theorem MvT.on {W w V : World} {GA GR : Nat} {cs : List Value} (h : MvT W w GA GR cs) (hb : Below W.heap.size W V) : MvT V w GA GR cs :=
  ⟨h.A.keep hb, h.R.keep hb, on_of h.B hb⟩
theorem MvS.two {W w : World} {GA GR GM : Nat} {cs ms : List Value} (h : MvS W w GA GR GM cs ms) : MvT W w GA GR cs := ⟨h.A, h.R, h.B⟩
theorem shV_no {l : List Pt} {dx dy : Int} (h : (inB dx && inB dy) = false) : shV l (dx, dy) = [] := shV_far h
end Go.Proofs.Ytifmdgncgokikaa.Ins
namespace Go.Proofs.Ytifmdgncgokikaa.Own
open Go.ChangeShapes Go.WideShapes Go.ChangeAt Go.RowKit
open Kit Slabs Ints
set_option linter.unusedVariables false
set_option linter.unusedSimpArgs false
set_option linter.unnecessarySimpa false
set_option maxRecDepth 100000
set_option maxHeartbeats 4000000 in
theorem mark_Object (w : World) (N : Nat) {A : Array Value} {ds : List Dt} {fp : List Nat} (hb : bulkL ds ≤ 1048576) (h0 : 0 < N) (hN : N + cnt0L ds ≤ 1000000000) (h : OwnL w LObject A.toList ds fp) (hd : fp.Nodup) :
    Calls Try.prog 34 #[.agg A, .int .i64 (N : Int)] w fun e w' => e = .returned (.int .i64 ((N + cnt0L ds : Nat) : Int)) ∧ OwnL w' LObject A.toList (mk0L ds N) fp ∧ Turns w w' (fun b => b ∈ fp) := by
  obtain ⟨xa0, xc0, xs0, xx1_0, xx2_0, xx2_1, xx2_2, xx2_3, xF0, hA, rfl, rfl, ox0⟩ := inv_Object h
  obtain ⟨nd0, r0, x0⟩ := nodup_parts hd
  have hc : N + cnt0L (.sl xs0 :: (.int xx1_0 :: (.int xx2_0 :: (.int xx2_1 :: (.int xx2_2 :: (.int xx2_3 :: ([]))))))) = (N + cntL xs0) := by simp only [cnt0L_app, cnt0L, Dt.cnt0]; omega
  have hm : mk0L (.sl xs0 :: (.int xx1_0 :: (.int xx2_0 :: (.int xx2_1 :: (.int xx2_2 :: (.int xx2_3 :: ([]))))))) N = .sl (mkL xs0 N) :: (.int xx1_0 :: (.int xx2_0 :: (.int xx2_1 :: (.int xx2_2 :: (.int xx2_3 :: ([])))))) := by simp only [mk0L_app, mk0L, Dt.mk0, cnt0L_app, cnt0L, Dt.cnt0, Nat.add_zero, Nat.add_assoc]
  obtain ⟨M1, hM1⟩ : ∃ M, N + cntL xs0 = M := ⟨_, rfl⟩
  simp only [hM1] at hc hm
  rw [hc] at hN ⊢
  rw [hm]
  clear hc hm
  simp only [bulkL_app, bulkL, Dt.bulk] at hb
  have BA : Blk (w.alloc (.cells A 30)) w.heap.size A.toList := Blk.new w A 30 rfl
  have hT : Turns w (w.alloc (.cells A 30)) (fun b => b ∈ xF0 ++ ([])) := Turns.of_below (by go_grown)
  rw [hA] at BA ⊢
  have lt0 := ox0.lt
  have ne0 : ¬ (w.heap.size ∈ xF0) := fun hb => by have := lt0 _ hb; omega
  have p0 := ox0.under (w' := w.alloc (.cells A 30)) (by go_grown)
  have HO0 := Lib.hid (p0)
  have HA0 := Lib.hid BA
  have HT0 := Lib.hid hT
  have ca0 : A[0]? = some (.slice xa0 xs0.length xc0) := by rw [← Array.getElem?_toList, hA]; rfl
  clear ox0 hA BA hT h hd p0 lt0
  go_enter Try.func34, Try.ntmps34
  go_wp2_with fail
  ((with_reducible refine (mark_PointS _ N (by omega) (by omega) (by omega) (HO0.out) nd0).mono ?_); rintro e w1 ⟨rfl, o1, b1⟩)
  rw [hM1]
  have HO1 := Lib.hid (o1)
  have HA1 := Lib.hid (HA0.out.turned b1 ne0)
  have HT1 := Lib.hid (HT0.out.trans (b1.mono (fun _ hk => List.mem_append_left _ hk)))
  clear o1 b1 ca0
  go_wp2
  go_ret
  exact ⟨rfl, .cons (cs := [.slice xa0 xs0.length xc0]) (fp := xF0) (HO1.out) (.cons (cs := [.int .i64 xx1_0]) (fp := []) (.int xx1_0) (.cons (cs := [.int .i64 xx2_0]) (fp := []) (.int xx2_0) (.cons (cs := [.int .i64 xx2_1]) (fp := []) (.int xx2_1) (.cons (cs := [.int .i64 xx2_2]) (fp := []) (.int xx2_2) (.cons (cs := [.int .i64 xx2_3]) (fp := []) (.int xx2_3) (.nil)))))), HT1.out⟩
end Go.Proofs.Ytifmdgncgokikaa.Own
