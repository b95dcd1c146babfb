/-
  Texts of this seat, laid together: Rbo12, Rs12, Da13, DrawBox, Of12, Lw12, PlAll
-/
import Derived.Test.YtbdjnfnphilklaaM36
import Derived.Test.YtbdjnfnphilklaaM37
import Derived.Test.YtbdjnfnphilklaaM39
import Derived.Test.YtbdjnfnphilklaaM28
import Derived.Test.YtbdjnfnphilklaaM14
import Derived.Test.YtbdjnfnphilklaaM11
namespace Go.Proofs.Ytbdjnfnphilklaa.Own
open Go.ChangeShapes Go.WideShapes Go.ChangeAt Go.RowKit
open Kit Slabs Ints
set_option linter.unusedVariables false
set_option linter.unusedSimpArgs false
set_option linter.unnecessarySimpa false
theorem rbR_le (ht bd : Int) (l : List Ob) : (rbR ht bd l).length + tot (rbR ht bd l) ≤ 1048576 := by
  unfold rbR
  split
  · rename_i hb
    obtain ⟨b0, b1, b2, b3, b4, b5⟩ := bn_rows hb
    obtain ⟨h1, h2⟩ := foldF (bd * ht) l (whR_len ht) (whR_32 ht)
    rw [tot_32 h2, h1]; omega
  · simp [tot]
theorem impl_RenderBand_ (w : World) {a : Option Addr} {c : Nat} {es : List Dt} {fp : List Nat} (hb : es.length + bulkL es ≤ 1048576) (h : Own w (.sl KObject) [.slice a es.length c] (.sl es) fp) (ht bd : Int) {T : List (List Int)} {B : Bool} (hT : rbR ht bd (obsOf es) = T ∧ true = B) :
    Calls Try.prog 18 #[.slice a es.length c, .int .i64 ht, .int .i64 bd] w (SsNew T w) := by
  have h1 := render_impl w a c (obsOf es) ht bd (by simp [obsOf]; omega) (obl_of hb h)
  rw [hT.1, show (obsOf es).length = es.length by simp [obsOf]] at h1
  exact h1
end Go.Proofs.Ytbdjnfnphilklaa.Own
namespace Go.Proofs.Ytbdjnfnphilklaa.Own
open Go.ChangeShapes Go.WideShapes Go.ChangeAt Go.RowKit
open Kit Slabs Ints
open Go.Proofs.Ytbdjnfnphilklaa.Ins (Pt inS orow obK)
set_option linter.unusedVariables false
set_option linter.unusedSimpArgs false
set_option linter.unnecessarySimpa false
set_option maxRecDepth 100000
theorem pnF_bad {f : Int} {o : Ob} (h : okO o = false) (R : List (List Int)) : pnF f R o = R := by
  have hnone : ∀ k, rowsL o.path o.gray o.x0 o.y0 o.x1 o.y1 f k = [] := by
    intro k
    unfold rowsL Ins.orow
    rw [show Ins.obx o.path o.gray o.x0 o.y0 o.x1 o.y1 = ⟨0, 0, 0, 0⟩ from Ins.obx_no h, if_neg]
    rintro ⟨h1, h2⟩
    have h1' : (0 : Int) ≤ f + k := h1
    have h2' : f + (k : Int) < 0 := h2
    omega
  unfold pnF pntR pntK
  apply List.ext_getElem
  · simp
  · intro i h1 h2
    rw [List.getElem_mapIdx, if_pos h2, hnone i, pnt_nil]
theorem rowsB_pnF {f : Int} {R : List (List Int)} {o : Ob} (h : rowsB R = true) : rowsB (pnF f R o) = true := by
  cases ho : okO o
  · rw [pnF_bad ho]; exact h
  · have hg : grayB o.gray = true := by simp only [okO, Ins.obK, Bool.and_eq_true] at ho; exact ho.1.2
    simp only [rowsB, Bool.and_eq_true, decide_eq_true_eq, List.all_eq_true] at h ⊢
    refine ⟨by rw [pnF_len]; exact h.1, fun x hx => ?_⟩
    obtain ⟨i, hi, rfl⟩ := List.mem_iff_getElem.1 hx
    simp only [pnF, pntR, pntK, List.getElem_mapIdx]
    split
    · exact rowB_pnt hg (h.2 _ (List.getElem_mem _))
    · exact h.2 _ (List.getElem_mem _)
theorem rowsB_foldF (f : Int) (l : List Ob) : ∀ {R : List (List Int)}, rowsB R = true → rowsB (l.foldl (pnF f) R) = true := by
  induction l with
  | nil => intro R h; exact h
  | cons o l ih => intro R h; exact ih (rowsB_pnF h)
theorem whR_rows {ht : Int} (h : ht ≤ 32) : rowsB (whR ht) = true := by
  simp only [rowsB, Bool.and_eq_true, decide_eq_true_eq, List.all_eq_true]
  refine ⟨by rw [whR_len]; omega, fun x hx => ?_⟩
  rw [(List.mem_replicate.1 hx).2]; decide
theorem poR_F {f : Int} {R : List (List Int)} (o : Ob) (h : rowsB R = true) (hf : 0 ≤ f ∧ f ≤ 32) : poR R f o.path o.gray o.x0 o.y0 o.x1 o.y1 = pnF f R o := by
  cases ho : okO o
  · rw [pnF_bad ho]
    have : obK o.path o.gray o.x0 o.y0 o.x1 o.y1 = false := ho
    simp [poR, poB, this]
  · have : obK o.path o.gray o.x0 o.y0 o.x1 o.y1 = true := ho
    simp [poR, poB, this, h, hf, pnF]
theorem whitesh_spec (w : World) (ht : Int) (h : 0 < ht ∧ ht ≤ 32) : Calls Try.prog 46 #[.int .i64 ht] w (SsNew (whR ht) w) := by
  have := whites_spec w ht
  rw [if_pos (by omega)] at this
  exact this
end Go.Proofs.Ytbdjnfnphilklaa.Own
namespace Go.Proofs.Ytbdjnfnphilklaa.Own
open Go.ChangeShapes Go.WideShapes Go.ChangeAt Go.RowKit
open Kit Slabs Ints
set_option linter.unusedVariables false
set_option linter.unusedSimpArgs false
set_option linter.unnecessarySimpa false
theorem bulk_cells9 (l : List Ob) : l.length + bulkL (dO l) ≤ cellsN l := by
  induction l with
  | nil => simp [cellsN, dO, bulkL]
  | cons o l ih =>
    have e : cellsN (o :: l) = 2 + o.path.length + cellsN l := by simp [cellsN]
    have e2 : bulkL (dO (o :: l)) = o.path.length + bulkL (dO l) := by
      show bulkL (Dt.st o.dt :: dO l) = _
      simp only [bulkL, Dt.bulk, Ob.dt, len_dP, bulk_dP]; omega
    rw [e, e2, List.length_cons]; omega
theorem ok_path9 {o : Ob} (h : okO o = true) : o.path.length ≤ 8 := by
  simp only [okO, Ins.obK, Ins.pathB, Bool.and_eq_true, decide_eq_true_eq] at h
  exact h.1.1.2.1
theorem ok_size {b : Bd} (h : bdB b = true) : b.base.length + tot b.base + (b.objs.length + bulkL (dO b.objs)) ≤ 1048576 := by
  obtain ⟨p1, p2, p3, p4, p5⟩ := bd_parts h
  obtain ⟨r1, r2⟩ := rows32 p3
  have ht := tot_32 r2
  have := bulk_cells9 b.objs
  omega
theorem mgR_len9 (b : Bd) : (mgR b).length = b.base.length := by
  unfold mgR
  generalize b.base = R
  induction b.objs generalizing R with
  | nil => rfl
  | cons o l ih => rw [List.foldl_cons, ih, pnF_len]
theorem mgR_rows {b : Bd} (h : rowsB b.base = true) : rowsB (mgR b) = true := rowsB_foldF _ _ h
theorem mgD_valid {b : Bd} (h : bdB b = true) : bdB (mgD b) = true := by
  obtain ⟨p1, p2, p3, p4, p5⟩ := bd_parts h
  have e : mgD b = ⟨b.h, b.n, mgR b, []⟩ := by simp [mgD, h]
  rw [e]
  simp only [bdB, Bool.and_eq_true, decide_eq_true_eq]
  exact ⟨⟨⟨⟨p1, by rw [mgR_len9]; exact p2⟩, mgR_rows p3⟩, rfl⟩, by simp [cellsN]⟩
theorem adD_valid {b : Bd} (h : bdB b = true) (o : Ob) : bdB (adD b o) = true := by
  unfold adD
  split
  · rename_i h2
    simp only [adF, Bool.and_eq_true] at h2
    obtain ⟨p1, p2, p3, p4, p5⟩ := bd_parts h
    have hp := ok_path9 h2.1.2
    unfold adI
    split
    · rename_i hf
      simp only [bdB, Bool.and_eq_true, decide_eq_true_eq]
      exact ⟨⟨⟨⟨p1, p2⟩, p3⟩, by rw [List.all_append, p4]; simp [h2.1.2]⟩, by rw [cells_app, cells_one]; exact hf⟩
    · simp only [bdB, Bool.and_eq_true, decide_eq_true_eq]
      exact ⟨⟨⟨⟨p1, by rw [mgR_len9]; exact p2⟩, mgR_rows p3⟩, by simp [h2.1.2]⟩, by rw [cells_one]; omega⟩
  · exact h
theorem nbD_valid {h n : Int} (hb : bnB h n = true) : bdB (nbD h n) = true := by
  obtain ⟨b0, b1, b2, b3, b4, b5⟩ := bn_rows hb
  have e : nbD h n = ⟨h, n, whR h, []⟩ := by simp [nbD, hb]
  rw [e]
  simp only [bdB, Bool.and_eq_true, decide_eq_true_eq]
  exact ⟨⟨⟨⟨hb, by rw [whR_len]; omega⟩, whR_rows b2⟩, rfl⟩, by simp [cellsN]⟩
end Go.Proofs.Ytbdjnfnphilklaa.Own
namespace Go.Proofs.Ytbdjnfnphilklaa.Draw
open Go.ChangeShapes Go.WideShapes Go.ChangeAt Go.RowKit
open Kit
set_option linter.unusedVariables false
set_option linter.unusedSimpArgs false
set_option linter.unnecessarySimpa false
attribute [local go_sem ↓] run_mx run_mn
def BoxIn (x0 y0 x1 y1 : Int) : Prop := -4 ≤ x0 ∧ x0 ≤ x1 ∧ x1 ≤ 36 ∧ -4 ≤ y0 ∧ y0 ≤ y1 ∧ y1 ≤ 36
theorem box_in {x y u v : Int} (hx : InPage x) (hy : InPage y) (hu : InPage u) (hv : InPage v) : BoxIn (mn x u) (mn y v) (mx x u) (mx y v) := by
  unfold BoxIn mn mx; unfold InPage at *; omega
set_option maxHeartbeats 2000000 in
theorem box_on (W w0 w : World) (b : Nat) (a : Option Addr) (len cap : Nat) (z : List Int) (d : Drawn W a len cap z b w0 w) :
    Calls Try.prog 91 #[.pointer (some ⟨b, 0, none⟩)] w fun e w' => ∃ x0 y0 x1 y1 : Int, BoxIn x0 y0 x1 y1 ∧ e = .returned (.agg #[.int .i64 x0, .int .i64 y0, .int .i64 x1, .int .i64 y1]) ∧ Drawn W a len cap z b w0 w' := by
  have hne := d.ne
  have D := (d.alloc (.cells #[.int .i64 0, .int .i64 0, .int .i64 0, .int .i64 0] 38)).1.same
  have hW := Nat.le_trans d.1.far (Nat.le_of_lt d.1.here)
  have hw0 := d.2.size
  have HD := Lib.hid d
  clear d
  go_enter Try.func91, Try.ntmps91
  go_wp2_with fail
  (refine (point_on W _ _ b a len cap z D).mono ?_; rintro e w1 ⟨x, y, hx, hy, rfl, d1⟩)
  have hne1 := d1.ne
  have D1 := (d1.alloc (.cells #[.int .i64 x, .int .i64 y] 113)).1.same
  go_wp2_with fail
  (refine (point_on W _ _ b a len cap z D1).mono ?_; rintro e w2 ⟨u, v, hu, hv, rfl, d2⟩)
  obtain ⟨p0, p1, pf⟩ := Two.drawn (Two.new w1 113 x y) d2 hne1
  have d3 := (d1.alloc (.cells #[.int .i64 x, .int .i64 y] 113)).trans d2
  have r0 := d3.keeps (Four.newZero w 38 0 (by omega)) hne
  have r1 := d3.keeps (Four.newZero w 38 1 (by omega)) hne
  have r2 := d3.keeps (Four.newZero w 38 2 (by omega)) hne
  have r3 := d3.keeps (Four.newZero w 38 3 (by omega)) hne
  have rf : ∀ o, w2.frozen? ⟨w.heap.size, o, none⟩ = false := fun o => d3.thaws (by simp) (by simp [go_sem]) hne
  have hs1 : w.heap.size < w1.heap.size := by have := d1.2.size; simp at this; omega
  have hs2 : w1.heap.size < w2.heap.size := by have := d2.2.size; simp at this; omega
  have hs3 : w.heap.size < w2.heap.size := by omega
  have d4 := (HD.out.alloc (.cells #[.int .i64 0, .int .i64 0, .int .i64 0, .int .i64 0] 38)).trans d3
  clear d1 d2 d3 D D1
  go_wp2_with fail
  refine bodyPost_ret (by simp [results, Try.results91, go_sem, *]; try rfl) rfl ?_
  exact ⟨_, _, _, _, box_in hx hy hu hv, rfl, ((((d4.setNew hw0 hW hne _ _).setNew hw0 hW hne _ _).setNew hw0 hW hne _ _).setNew hw0 hW hne _ _).alloc _⟩
end Go.Proofs.Ytbdjnfnphilklaa.Draw
namespace Go.Proofs.Ytbdjnfnphilklaa.Own
open Go.ChangeShapes Go.WideShapes Go.ChangeAt Go.RowKit
open Kit Slabs Ints Point
open Go.Proofs.Ytbdjnfnphilklaa.Ins (Pt Bx obx obK gen_any9)
set_option linter.unusedVariables false
set_option linter.unusedSimpArgs false
set_option linter.unnecessarySimpa false
set_option maxRecDepth 100000
end Go.Proofs.Ytbdjnfnphilklaa.Own
namespace Go.Proofs.Ytbdjnfnphilklaa.Own
open Go.ChangeShapes Go.WideShapes Go.ChangeAt Go.RowKit
open Kit Slabs Ints
set_option linter.unusedVariables false
set_option linter.unusedSimpArgs false
set_option linter.unnecessarySimpa false
theorem impl_TouchesBand (w : World) {A : Array Value} {ds : List Dt} {fp : List Nat} (hb : bulkL ds ≤ 1048576) (h : OwnL w LObject A.toList ds fp) (ht bd : Int) :
    Calls Try.prog 36 #[.agg A, .int .i64 ht, .int .i64 bd] w fun e w' => e = .returned (.bool (tbO ht bd (obOf ds))) ∧ Below w.heap.size w w' := by
  have e := ob_dt h
  rw [e] at hb h
  obtain ⟨a, c, rfl, hp⟩ := Ins.obj_open h
  exact touch_impl w a c _ _ _ _ _ _ ht bd (Ins.obj_len hb) hp
theorem filter_bulk (p : Dt → Bool) : ∀ es : List Dt, (es.filter p).length + bulkL (es.filter p) ≤ es.length + bulkL es
  | [] => Nat.le_refl _
  | d :: es => by
    have ih := filter_bulk p es
    rw [List.filter_cons]
    split
    · simp only [List.length_cons, bulkL]; omega
    · simp only [List.length_cons, bulkL]; omega
theorem ofB_le {ht bd : Int} {es : List Dt} (hb : es.length + bulkL es ≤ 1048576) : (ofB ht bd es).length + bulkL (ofB ht bd es) ≤ 1048576 := by
  have := filter_bulk (tbD ht bd) es
  unfold ofB; omega
end Go.Proofs.Ytbdjnfnphilklaa.Own
namespace Go.Proofs.Ytbdjnfnphilklaa.PlAll
open Go.ChangeShapes Go.WideShapes Go.ChangeAt Go.RowKit
open Kit Draw Slabs Ints
set_option linter.unusedVariables false
set_option linter.unusedSimpArgs false
set_option linter.unnecessarySimpa false
set_option maxRecDepth 100000
def pt (X : Nat → Int) (n : Nat) (m : Int) (i : Nat) : Int := if i = n then m else X i
theorem pt_at (X : Nat → Int) (n : Nat) (m : Int) : pt X n m n = m := by simp [pt]
theorem pt_lt {X : Nat → Int} {n i : Nat} (m : Int) (h : i < n) : pt X n m i = X i := by simp [pt]; omega
theorem flat_ext {F G : Nat → List Value} {n : Nat} (h : ∀ i, i < n → F i = G i) : flat F n = flat G n := by
  induction n with
  | zero => rfl
  | succ n ih => rw [flat_succ, flat_succ, ih (fun i hi => h i (by omega)), h n (by omega)]
theorem flat_pt (X : Nat → Int) (n : Nat) (m : Int) : flat (ic X) n ++ [.int .i64 m] = flat (ic (pt X n m)) (n + 1) := by
  rw [flat_succ, flat_ext (F := ic (pt X n m)) (G := ic X) (fun i hi => by simp only [ic, pt_lt m hi])]
  simp only [ic, pt_at]
theorem info3 : (Try.prog.info? 3).map (fun i => (i.zero, i.size, i.bytes)) = some (some (.int .i64 0), 1, 8) := by kernel_rfl
set_option maxHeartbeats 1000000 in
theorem places_all (w : World) (a : Option Addr) (len cap : Nat) (z : List Int) (hr : IsRow .u8 w a len cap z) :
    Calls Try.prog 10 #[.slice a len cap] w fun e w' => ∃ (g c : Nat) (Q : Nat → Int), (∀ i, i < 12 → 0 ≤ Q i ∧ Q i < 10000) ∧ (∀ i, i < 12 → w'.cell? ⟨g, i, none⟩ = some (.int .i64 (Q i))) ∧ e = .returned (.slice (some ⟨g, 0, none⟩) 12 c) ∧ w.heap.size ≤ g ∧ g < w'.heap.size ∧ Below w.heap.size w w' := by
  obtain ⟨i0, hi0, hz0, hz1, hz2⟩ := info_parts info3
  have HR := Lib.hid hr
  clear hr
  go_enter Try.func10, Try.ntmps10
  go_wp2_with fail
  (refine (new_any w _ _ _ z HR.out).mono ?_; rintro e w1 ⟨rfl, dr⟩)
  have hd0 := dr.same
  have hs1 := dr.below.size
  have hs2 := dr.here
  go_wp2_with fail
  go_loopw [4, 5] (fun v i wr => ∃ (k : Nat) (X : Nat → Int), k ≤ 12 ∧ i = .int .i64 (k : Int) ∧ (∀ j, j < k → 0 ≤ X j ∧ X j < 10000) ∧ wr.ownsRow w1.heap.size 3 1 v k (flat (ic X) k) ∧ w1.heap.size ≤ wr.heap.size ∧ Drawn w a len cap z w.heap.size w1 wr) (fun _ i _ => 12 - (intOf i).toNat)
  case atStart => exact ⟨0, fun _ => 0, by omega, rfl, fun j hj => by omega, World.ownsRow_made w1 #[] 0 (Nat.le_refl _) (by decide) (by simp), by simp, hd0.alloc _⟩
  case round =>
    obtain ⟨k, X, hk, rfl, hX, hown, hws, hd⟩ := hrel
    have HX := Lib.hid hX
    clear hX
    by_cases hlt : k < 12
    · have hlt' : (k : Int) < 12 := by omega
      go_wp2_with (first
        | (go_at_call 30; refine (below_on w wr _ _ a len cap z 10000 hd.1.same).mono ?_; rintro e w2 ⟨x, hx, rfl, d1⟩; have hown1 := hown.kept d1.2 (.inr fun e => by have := (hown.lt _ e).1; omega); have hd1 := hd.trans d1; have hsz1 := d1.2.size; have hsz := hd.2.size)
        | (at_builtin; refine wpList_append_own _ rfl _ _ 27 rfl w1.heap.size 3 i0 (.int .i64 0) 1 8 Try.underlying27 hi0 hz0 hz1 hz2 rfl (by decide) _ _ _ rfl (hown1.alloc _) ⟨w2.heap.size, 0, none⟩ 1 1 [.int .i64 x] rfl rfl ?c1 ?c2 ?c3 ?c4 ?c5 ?_))
      case c1 => exact World.news_of_block (cs := #[.int .i64 x]) (t := 3) (fr := (0, 0)) (heap_alloc_new w2 _)
      case c2 => simp [Value.oneCell']
      case c3 => unfold maxLen; omega
      case c4 => omega
      case c5 => simp; omega
      intro v2 w3 hown2 hgrow _
      have hd2 := (hd1.alloc (.cells #[.int .i64 x] 3)).grown hgrow (fun q hq => by have := (hown1.lt q hq).1; omega)
      have hws2 : w1.heap.size ≤ w3.heap.size := by have := hgrow.size; simp at this; omega
      rw [flat_pt] at hown2
      have hx2 : ∀ j, j < k + 1 → 0 ≤ pt X k x j ∧ pt X k x j < 10000 := by
        intro j hj
        by_cases e : j < k
        · rw [pt_lt x e]; exact HX.out j e
        · obtain rfl : j = k := by omega
          rw [pt_at]; exact ⟨hx.1, hx.2.1 (by omega)⟩
      have HX2 := Lib.hid (And.intro hx2 (And.intro hown2 (And.intro hws2 hd2)))
      clear hown hown1 hown2 hd hd1 hgrow d1 hx2 hx hws2 hd2
      go_wp2
      go_roundw
      case rel => exact ⟨k + 1, _, by omega, by go_num, HX2.out.1, HX2.out.2.1, HX2.out.2.2.1, HX2.out.2.2.2⟩
      case measure => simp [intOf]; omega
    · obtain rfl : k = 12 := by omega
      rcases (Slab.of_owns hown (ic_len X)).writes with ⟨h0, _⟩ | ⟨g, c, hv, hg, W1⟩
      · omega
      subst hv
      have H := Lib.hid (And.intro W1 (And.intro hd.1.below HX.out))
      have hgl := W1.here
      clear W1 hd hown
      go_wp2
      go_ret
      exact ⟨g, c, X, H.out.2.2, fun i hi => ic_cell H.out.1 hi, rfl, by omega, hgl, H.out.2.1⟩
end Go.Proofs.Ytbdjnfnphilklaa.PlAll
