/-
  Texts of this seat, laid together: Lw11, Sp11, Ce13, Cl13, Mg13
-/
import Derived.Deep.RegionHeld3
import Derived.Deep.RegionLaw
import Derived.Test.YtbdjnfnphilklaaGreatV34
import Derived.Test.YtbdjnfnphilklaaGreatV15
import Derived.Test.YtbdjnfnphilklaaGreatV35
import Derived.Test.YtbdjnfnphilklaaGreatV33
import Derived.Test.YtbdjnfnphilklaaGreatV32
import Derived.Test.YtbdjnfnphilklaaGreatV31
import Derived.Test.YtbdjnfnphilklaaGreatV16
import Derived.Test.YtbdjnfnphilklaaGreatV30
namespace Go.Proofs.YtbdjnfnphilklaaGreat.Own
open Go.ChangeShapes Go.WideShapes Go.ChangeAt Go.RowKit
open Kit Slabs Ints
set_option linter.unusedVariables false
set_option linter.unusedSimpArgs false
set_option linter.unnecessarySimpa false
theorem rr_of {w : World} {a : Option Addr} {c : Nat} {R : List (List Int)} {fp : List Nat} (h : Own w KSS [.slice a R.length c] (.sl (dR R)) fp) : RR w a R := by
  obtain ⟨a', c', hv, hr, _⟩ := own_ss h
  simp only [Value.slice.injEq] at hv
  obtain ⟨rfl, _, rfl⟩ := hv
  exact hr
def obPB (R : List (List Int)) (first : Int) (o : Ob) : Bool := poB R first o.path o.gray o.x0 o.y0 o.x1 o.y1
def obPR (R : List (List Int)) (first : Int) (o : Ob) : List (List Int) := poR R first o.path o.gray o.x0 o.y0 o.x1 o.y1
theorem obPR_len (R : List (List Int)) (first : Int) (o : Ob) : (obPR R first o).length = R.length := poR_len _ _ _ _ _ _ _ _
theorem pntK_tot (g : Int) (L : Nat → List Ins.Pt) (R : List (List Int)) (k : Nat) : tot (pntK g L R k) = tot R := by
  have : (pntK g L R k).map List.length = R.map List.length := by
    apply List.ext_getElem
    · simp [pntK]
    · intro i h1 h2
      simp only [pntK, List.getElem_map, List.getElem_mapIdx]
      split
      · exact pnt_len _ _ _
      · rfl
  unfold tot; rw [this]
theorem obPR_tot (R : List (List Int)) (first : Int) (o : Ob) : tot (obPR R first o) = tot R := by
  unfold obPR poR
  split
  · exact pntK_tot _ _ _ _
  · rfl
def whN (n : Int) : List (List Int) := if 0 ≤ n ∧ n ≤ 32 then List.replicate n.toNat whiteR else []
theorem tot_rep (k : Nat) : tot (List.replicate k whiteR) = k * 32 := by
  induction k with
  | zero => rfl
  | succ k ih =>
    rw [List.replicate_succ]
    have : tot (whiteR :: List.replicate k whiteR) = whiteR.length + tot (List.replicate k whiteR) := by simp [tot]
    rw [this, ih, whiteR_len]; omega
theorem whN_le (n : Int) : (whN n).length + tot (whN n) ≤ 1048576 := by
  unfold whN; split
  · rw [tot_rep, List.length_replicate]; omega
  · simp [tot]
theorem spec_WhiteRows (w : World) (n : Int) {T : List (List Int)} (h : whN n = T) : Calls Tryz.prog 96 #[.int .i64 n] w (SsNew T w) := by rw [← h]; exact whites_spec w n
theorem spec_PaintObject (w : World) {ra : Option Addr} {rc : Nat} {R : List (List Int)} {rf : List Nat} (hr : R.length + tot R ≤ 1048576) (hR : Own w KSS [.slice ra R.length rc] (.sl (dR R)) rf) (first : Int) {A : Array Value} {ds : List Dt} {fp : List Nat} (hb : bulkL ds ≤ 1048576) (h : OwnL w LObject A.toList ds fp) :
    Calls Tryz.prog 45 #[.slice ra R.length rc, .int .i64 first, .agg A] w (PoNew (obPR R first (obOf ds)) (obPB R first (obOf ds)) w) := by
  have e := ob_dt h
  rw [e] at hb h
  obtain ⟨a, c, rfl, hp⟩ := Ins.obj_open h
  exact paintobj_spec w ra rc R first a c _ _ _ _ _ _ (Ins.obj_len hb) (by omega) (by omega) (rr_of hR) hp
theorem spec_PaintObject_ (w : World) {ra : Option Addr} {rc : Nat} {R : List (List Int)} {rf : List Nat} (hr : R.length + tot R ≤ 1048576) (hR : Own w KSS [.slice ra R.length rc] (.sl (dR R)) rf) (first : Int) {A : Array Value} {ds : List Dt} {fp : List Nat} (hb : bulkL ds ≤ 1048576) (h : OwnL w LObject A.toList ds fp) {T : List (List Int)} {B : Bool} (hT : obPR R first (obOf ds) = T ∧ obPB R first (obOf ds) = B) :
    Calls Tryz.prog 45 #[.slice ra R.length rc, .int .i64 first, .agg A] w (PoNew T B w) := by
  rw [← hT.1, ← hT.2]; exact spec_PaintObject w hr hR first hb h
theorem cnt0_top {w : World} {ks : List Kd} {cs : List Value} {ds : List Dt} {fp : List Nat} (h : OwnL w ks cs ds fp) (hk : wdL ks ≤ 100) (hb : bulkL ds ≤ 1048576) : cnt0L ds ≤ 104857700 := by
  have h1 := h.cnt_le
  have h2 := cnt0L_le ds
  have h3 := Nat.mul_le_mul_right (1 + bulkL ds) hk
  omega
theorem obPR_le (R : List (List Int)) (first : Int) (o : Ob) (h : R.length + tot R ≤ 1048576) : (obPR R first o).length + tot (obPR R first o) ≤ 1048576 := by
  rw [obPR_len, obPR_tot]; exact h
end Go.Proofs.YtbdjnfnphilklaaGreat.Own
namespace Go.Proofs.YtbdjnfnphilklaaGreat.Own
open Go.ChangeShapes Go.WideShapes Go.ChangeAt Go.RowKit
open Kit Slabs Ints
open Go.Proofs.YtbdjnfnphilklaaGreat.Ins (Pt inS orow obK)
set_option linter.unusedVariables false
set_option linter.unusedSimpArgs false
set_option linter.unnecessarySimpa false
set_option maxRecDepth 100000
theorem rowB_pnt {g : Int} {L : List Pt} {r : List Int} (hg : grayB g = true) (h : rowB r = true) : rowB (pnt g L r) = true := by
  simp only [rowB, Bool.and_eq_true, decide_eq_true_eq, List.all_eq_true] at h ⊢
  refine ⟨by rw [pnt_len]; exact h.1, fun x hx => ?_⟩
  obtain ⟨i, hi, rfl⟩ := List.mem_iff_getElem.1 hx
  simp only [pnt, List.getElem_mapIdx]
  split
  · exact hg
  · exact h.2 _ (List.getElem_mem _)
theorem rowsB_pnO {R : List (List Int)} {o : Ob} (ho : okO o = true) (h : rowsB R = true) : rowsB (pnO R o) = true := by
  have hg : grayB o.gray = true := by simp only [okO, Ins.obK, Bool.and_eq_true] at ho; exact ho.1.2
  simp only [rowsB, Bool.and_eq_true, decide_eq_true_eq, List.all_eq_true] at h ⊢
  refine ⟨by rw [pnO_len]; exact h.1, fun x hx => ?_⟩
  obtain ⟨i, hi, rfl⟩ := List.mem_iff_getElem.1 hx
  simp only [pnO, pntR, pntK, List.getElem_mapIdx]
  split
  · exact rowB_pnt hg (h.2 _ (List.getElem_mem _))
  · exact h.2 _ (List.getElem_mem _)
theorem rowsB_fold (l : List Ob) : ∀ {R : List (List Int)}, l.all okO = true → rowsB R = true → rowsB (l.foldl pnO R) = true := by
  induction l with
  | nil => intro R _ h; exact h
  | cons o l ih =>
    intro R ho h
    rw [List.all_cons, Bool.and_eq_true] at ho
    exact ih ho.2 (rowsB_pnO ho.1 h)
theorem white_rows : rowsB (List.replicate 32 whiteR) = true := by decide
theorem po_one {R : List (List Int)} {o : Ob} (ho : okO o = true) (h : rowsB R = true) : poB R 0 o.path o.gray o.x0 o.y0 o.x1 o.y1 = true ∧ poR R 0 o.path o.gray o.x0 o.y0 o.x1 o.y1 = pnO R o := by
  have h1 : poB R 0 o.path o.gray o.x0 o.y0 o.x1 o.y1 = true := by
    have : obK o.path o.gray o.x0 o.y0 o.x1 o.y1 = true := ho
    simp [poB, h, this]
  exact ⟨h1, by simp [poR, h1, pnO]⟩
theorem tot_32 {R : List (List Int)} (h : ∀ r ∈ R, r.length = 32) : tot R = R.length * 32 := by
  induction R with
  | nil => rfl
  | cons r R ih =>
    have e : tot (r :: R) = r.length + tot R := by simp [tot]
    rw [e, ih (fun x hx => h x (List.mem_cons_of_mem _ hx)), h r (List.mem_cons_self)]
    simp; omega
theorem whites32_spec (w : World) : Calls Tryz.prog 96 #[.int .i64 32] w (SsNew (List.replicate 32 whiteR) w) := by
  have := whites_spec w 32
  rw [if_pos (by omega)] at this
  exact this
/-! ### told of data -/
def obsOf (es : List Dt) : List Ob := es.map fun d => obOf (unS d)
theorem obl_of {w : World} {a : Option Addr} {c : Nat} {es : List Dt} {fp : List Nat} (hb : es.length + bulkL es ≤ 1048576) (h : Own w (.sl KObject) [.slice a es.length c] (.sl es) fp) : ObL w a (obsOf es) := by
  by_cases h0 : es.length = 0
  · have : es = [] := List.eq_nil_of_length_eq_zero h0
    subst this; exact .inl rfl
  · obtain ⟨_, hr⟩ := h.row
    obtain ⟨g, rfl, _⟩ := hr h0
    refine .inr ⟨g, rfl, (h.elt (i := 0) (by omega)).1, fun i hi => ?_⟩
    have hi' : i < es.length := by simpa [obsOf] using hi
    obtain ⟨_, _, cs, ds, fq, ed, od, ld, _, hcell⟩ := h.elt hi'
    have hbk := bulk_elt hi'
    rw [ed] at hbk
    have hbd : bulkL ds ≤ 1048576 := by simp only [Dt.bulk] at hbk; omega
    have e1 : (obsOf es).getD i ob0 = obOf ds := by
      simp only [obsOf, List.getD_eq_getElem?_getD, List.getElem?_map, List.getElem?_eq_getElem hi', Option.map_some, Option.getD_some, ed, unS]
    have e2 := ob_dt od
    have od' : OwnL w LObject cs.toArray.toList (obOf ds).dt fq := by rw [← e2]; simpa using od
    obtain ⟨pa, pc, hA, hp⟩ := Ins.obj_open od'
    rw [e2] at hbd
    refine ⟨pa, pc, fun j u hu => ?_, by rw [e1]; exact hp, by rw [e1]; exact Ins.obj_len hbd⟩
    have hcs : cs = sixo (obOf ds) pa pc := by
      have := congrArg Array.toList hA
      simpa [sixo, sixv] using this
    rw [e1, ← hcs] at hu
    exact hcell w (Below.refl _ _) j u hu
theorem paR_le (l : List Ob) : (paR l).length + tot (paR l) ≤ 1048576 := by
  unfold paR
  split
  · obtain ⟨h1, h2⟩ := fold_32 l white_32.1 white_32.2
    rw [tot_32 h2, h1]; omega
  · simp [tot]
theorem came_objs {w : World} {a : Option Addr} {n c : Nat} {d : Dt} (h : Came w (.sl (.st [.sl (.st [.int, .int]), .int, .st [.int, .int, .int, .int]])) [.slice a n c] d) : ∃ es : List Dt, es.length = n ∧ n ≤ maxLen ∧ Came w (.sl KObject) [.slice a n c] (.sl es) := by
  obtain ⟨d', h'⟩ := h.flatten
  have h2 : Came w (.sl KObject) [.slice a n c] d' := h'
  have hl : ∃ es : List Dt, d' = .sl es ∧ es.length = n ∧ n ≤ maxLen := by
    cases h2 with
    | nil a cap hm => exact ⟨[], rfl, rfl, Nat.zero_le _⟩
    | sl h1 h2 h3 h4 h5 h6 => exact ⟨_, rfl, h1, Nat.le_trans h3 h4⟩
  obtain ⟨es, rfl, h3, h4⟩ := hl
  exact ⟨es, h3, h4, h2⟩
theorem objs_cnt {w : World} {v : Value} {es : List Dt} {fp : List Nat} (h : Own w (.sl KObject) [v] (.sl es) fp) (hb : es.length + bulkL es ≤ 1048576) : 1 + cntL es ≤ 1000000000 := by
  have h1 := h.cnt_le
  have h2 : Kd.wd (.sl KObject) ≤ 100 := by decide
  have h3 := Nat.mul_le_mul_right (1 + (Dt.sl es).bulk) h2
  simp only [Dt.cnt, Dt.bulk] at h1 h3
  omega
end Go.Proofs.YtbdjnfnphilklaaGreat.Own
namespace Go.Proofs.YtbdjnfnphilklaaGreat.Own
open Go.ChangeShapes Go.WideShapes Go.ChangeAt Go.RowKit
open Kit Slabs Ints Point
open Go.Proofs.YtbdjnfnphilklaaGreat.Ins (obK gen_any9)
set_option linter.unusedVariables false
set_option linter.unusedSimpArgs false
set_option linter.unnecessarySimpa false
set_option maxRecDepth 100000
structure BdA (w : World) (b : Bd) (ra : Option Addr) (rc : Nat) (oa : Option Addr) (oc : Nat) : Prop where
  s : b.base.length + tot b.base + (b.objs.length + bulkL (dO b.objs)) ≤ 1048576
  r : RR w ra b.base
  o : ∃ f, Own w (.sl KObject) [.slice oa b.objs.length oc] (.sl (dO b.objs)) f
theorem BdA.on {w w' : World} {b : Bd} {ra oa : Option Addr} {rc oc : Nat} (h : BdA w b ra rc oa oc) (hb : Below w.heap.size w w') : BdA w' b ra rc oa oc := by
  obtain ⟨f, o⟩ := h.o
  exact ⟨h.s, h.r.on hb, f, o.under hb⟩
theorem BdA.obl {w : World} {b : Bd} {ra oa : Option Addr} {rc oc : Nat} (h : BdA w b ra rc oa oc) : ObL w oa b.objs := by
  obtain ⟨f, o⟩ := h.o
  have hs := h.s
  have := obl_of (es := dO b.objs) (c := oc) (by rw [len_dO]; omega) (by rw [len_dO]; exact o)
  rwa [show obsOf (dO b.objs) = b.objs from un_objs b.objs] at this
theorem cells_le (l : List Ob) : cellsN l ≤ 2 * (l.length + bulkL (dO l)) := by
  induction l with
  | nil => simp [cellsN]
  | cons o l ih =>
    have e : cellsN (o :: l) = 2 + o.path.length + cellsN l := by simp [cellsN]
    have e2 : bulkL (dO (o :: l)) = o.path.length + bulkL (dO l) := by
      show bulkL (Dt.st o.dt :: dO l) = _
      simp only [bulkL, Dt.bulk, Ob.dt, len_dP, bulk_dP]; omega
    rw [e, e2, List.length_cons]; omega
theorem cells_part (l : List Ob) (k : Nat) : cellsN (l.take k) ≤ cellsN l := by
  have : cellsN (l.take k ++ l.drop k) = cellsN (l.take k) + cellsN (l.drop k) := cells_app _ _
  rw [List.take_append_drop] at this; omega
theorem cells_impl (w : World) (pa : Option Addr) (pc : Nat) (n : Nat) (g x0 y0 x1 y1 : Int) (hn : n ≤ 1048576) :
    Calls Tryz.prog 38 #[.agg #[.slice pa n pc, .int .i64 g, .int .i64 x0, .int .i64 y0, .int .i64 x1, .int .i64 y1]] w fun e w' => e = .returned (.int .i64 (2 + (n : Int))) ∧ Below w.heap.size w w' := by
  go_enter Tryz.func38, Tryz.ntmps38
  go_wp2
  go_ret
  exact ⟨rfl, by go_grown⟩
set_option maxHeartbeats 2000000 in
theorem bcells_impl (w : World) (b : Bd) (ra : Option Addr) (rc : Nat) (oa : Option Addr) (oc : Nat) (h : BdA w b ra rc oa oc) :
    Calls Tryz.prog 11 #[.agg #[.int .i64 b.h, .int .i64 b.n, .slice ra b.base.length rc, .slice oa b.objs.length oc]] w fun e w' => e = .returned (.int .i64 (cellsN b.objs : Nat)) ∧ Below w.heap.size w w' := by
  have HP := Lib.hid h.obl
  have HM := Lib.hid (fun k => Nat.le_trans (cells_part b.objs k) (Nat.le_trans (cells_le b.objs) (show 2 * (b.objs.length + bulkL (dO b.objs)) ≤ 2097152 by have := h.s; omega)))
  have hn0 : b.objs.length ≤ 1048576 := by have := h.s; omega
  clear h
  generalize b.base.length = m
  generalize b.objs = l at *
  generalize b.h = ht
  generalize b.n = bd
  obtain ⟨n, hN⟩ : ∃ n, l.length = n := ⟨_, rfl⟩
  have HN := Lib.hid hN
  rw [hN] at hn0 ⊢
  clear hN
  go_enter Tryz.func11, Tryz.ntmps11
  go_wp2
  go_loopw [3, 9] (fun v3 v9 wr => ∃ (k y : Nat), k ≤ n ∧ v9 = .int .i64 (k : Int) ∧ v3 = .int .i64 (y : Int) ∧ y ≤ 2097152 ∧ Hid (cellsN (l.take k) = y) ∧ Below w.heap.size w wr) (fun v3 v9 _ => n - (intOf v9).toNat)
  case atStart => exact ⟨0, 0, Nat.zero_le _, rfl, rfl, by omega, Lib.hid rfl, by go_grown⟩
  case round =>
    obtain ⟨k, y, hk, rfl, rfl, hy, hY, hB⟩ := hrel
    by_cases hlt : k < n
    · have hkl : k < l.length := by rw [HN.out]; exact hlt
      obtain ⟨g, rfl, hg, hc⟩ := (HP.out.on hB).some (by rw [HN.out]; omega)
      obtain ⟨pa, pc, h6, hpa, hpl⟩ := hc k hkl
      have htk := cells_take hkl
      have hmx := HM.out (k + 1)
      obtain ⟨o, hx⟩ : ∃ o, l.getD k ob0 = o := ⟨_, rfl⟩
      rw [hx] at h6 hpa hpl htk
      rw [hY.out] at htk
      have q0 : wr.cell? ⟨g, k * 6, none⟩ = some (.slice pa o.path.length pc) := h6 0 _ rfl
      have q1 : wr.cell? ⟨g, k * 6 + 1, none⟩ = some (.int .i64 o.gray) := h6 1 _ rfl
      have q2 : wr.cell? ⟨g, k * 6 + 2, none⟩ = some (.int .i64 o.x0) := h6 2 _ rfl
      have q3 : wr.cell? ⟨g, k * 6 + 3, none⟩ = some (.int .i64 o.y0) := h6 3 _ rfl
      have q4 : wr.cell? ⟨g, k * 6 + 4, none⟩ = some (.int .i64 o.x1) := h6 4 _ rfl
      have q5 : wr.cell? ⟨g, k * 6 + 5, none⟩ = some (.int .i64 o.y1) := h6 5 _ rfl
      have i0 : (0 : Int) ≤ (k : Int) := by omega
      have i1 : (k : Int) < (n : Int) := by omega
      obtain ⟨pl, hp⟩ : ∃ pl, o.path.length = pl := ⟨_, rfl⟩
      rw [hp] at q0 hpl htk
      rw [htk] at hmx
      have HX := Lib.hid (And.intro htk (on_of hB (show Below wr.heap.size wr (wr.alloc (.cells #[.slice pa pl pc, .int .i64 o.gray, .int .i64 o.x0, .int .i64 o.y0, .int .i64 o.x1, .int .i64 o.y1] 53)) by go_grown)))
      clear hx hpa hc h6 hB htk hp
      go_wp2_with fail
      clear q0 q1 q2 q3 q4 q5
      ((with_reducible refine (cells_impl _ pa pc pl _ _ _ _ _ hpl).mono ?_); rintro e w1 ⟨rfl, bb⟩)
      have HB := Lib.hid (on_of HX.out.2 bb)
      have HE := Lib.hid (show cellsN (l.take (k + 1)) = y + (2 + pl) from HX.out.1)
      have e9 : IntKind.i64.wrap ((y : Int) + (2 + (pl : Int))) = ((y + (2 + pl) : Nat) : Int) := by rw [IntWalk.i64_in _ ⟨by omega, by omega⟩]; omega
      have hy2 : y + (2 + pl) ≤ 2097152 := hmx
      clear bb hmx
      go_wp2
      go_roundw
      case rel => exact ⟨k + 1, y + (2 + pl), by omega, by go_num, by simp [e9], hy2, HE, HB.out⟩
      case measure => simp [intOf]; omega
    · obtain rfl : k = n := by omega
      have HB := Lib.hid hB
      have HE := Lib.hid (show cellsN l = y by rw [← hY.out, ← HN.out, List.take_length])
      clear hB
      go_wp2
      go_ret
      exact ⟨ret_int (by rw [HE.out]), HB.out⟩
theorem bdB_eq (b : Bd) : bdB b = (bnB b.h b.n && decide ((b.base.length : Int) = b.h) && decide (cellsN b.objs ≤ 60) && rowsB b.base && b.objs.all okO) := by
  unfold bdB
  cases bnB b.h b.n <;> cases rowsB b.base <;> cases b.objs.all okO <;> simp [Bool.and_comm]
set_option maxHeartbeats 4000000 in
theorem bok_impl (w : World) (b : Bd) (ra : Option Addr) (rc : Nat) (oa : Option Addr) (oc : Nat) (h : BdA w b ra rc oa oc) :
    Calls Tryz.prog 10 #[.agg #[.int .i64 b.h, .int .i64 b.n, .slice ra b.base.length rc, .slice oa b.objs.length oc]] w fun e w' => e = .returned (.bool (bdB b)) ∧ Below w.heap.size w w' := by
  have hw0 : Below w.heap.size w (w.alloc (.cells #[.int .i64 b.h, .int .i64 b.n, .slice ra b.base.length rc, .slice oa b.objs.length oc] 27)) := by go_grown
  have hs := h.s
  have HI := Lib.hid (fun W => isband_impl b.h b.n W)
  have HC := Lib.hid (fun W (hW : Below w.heap.size w W) => bcells_impl W b ra rc oa oc (h.on hW))
  have HR := Lib.hid (fun W (hW : Below w.heap.size w W) => rowsok_impl W ra rc b.base (by omega) (by omega) (h.r.on hW))
  have HO := Lib.hid (fun W (hW : Below w.heap.size w W) => allob_impl W oa oc b.objs (by omega) (h.obl.on hW))
  have HV := Lib.hid (bdB_eq b)
  have hcm : cellsN b.objs ≤ 2097152 := by have := cells_le b.objs; omega
  have hm : b.base.length ≤ 1048576 := by omega
  have hn : b.objs.length ≤ 1048576 := by omega
  have HW0 := Lib.hid hw0
  generalize bdB b = V at *
  generalize bnB b.h b.n = t1 at *
  generalize rowsB b.base = t4 at *
  generalize b.objs.all okO = t5 at *
  generalize cellsN b.objs = cn at *
  generalize b.base.length = m at *
  generalize b.objs.length = n at *
  generalize b.h = ht at *
  generalize b.n = bd at *
  clear hs h hw0
  have hB : Blk (w.alloc (.cells #[.int .i64 ht, .int .i64 bd, .slice ra m rc, .slice oa n oc] 27)) w.heap.size [.int .i64 ht, .int .i64 bd, .slice ra m rc, .slice oa n oc] := Blk.new w _ _ rfl
  have HB0 := Lib.hid hB
  clear hB
  go_enter Tryz.func10, Tryz.ntmps10
  go_wp2_with fail
  ((with_reducible refine (HI.out _).mono ?_); rintro e w1 ⟨rfl, bb⟩)
  have HW1 := Lib.hid (on_of HW0.out bb)
  have HB1 := Lib.hid (HB0.out.keep bb)
  clear bb
  have c0 := HB1.out.1 0 _ rfl
  have c1 := HB1.out.1 1 _ rfl
  have c2 := HB1.out.1 2 _ rfl
  have c3 := HB1.out.1 3 _ rfl
  cases t1
  · go_wp2
    go_ret
    exact ⟨ret_bool (by rw [HV.out]; rfl), HW1.out⟩
  · by_cases e1 : (m : Int) = ht
    · have e2 : ((m : Int) == ht) = true := by simpa using e1
      go_wp2_with fail
      ((with_reducible refine (HC.out _ HW1.out).mono ?_); rintro e w2 ⟨rfl, bb⟩)
      have HW2 := Lib.hid (on_of HW1.out bb)
      have HB2 := Lib.hid (HB1.out.keep bb)
      clear bb c0 c1 c2 c3
      by_cases e3 : cn ≤ 60
      · have e4 : decide ((60 : Int) < (cn : Int)) = false := by simp; omega
        have c2 := HB2.out.1 2 _ rfl
        have c3 := HB2.out.1 3 _ rfl
        go_wp2_with fail
        ((with_reducible refine (HR.out _ HW2.out).mono ?_); rintro e w3 ⟨rfl, bb⟩)
        have HW3 := Lib.hid (on_of HW2.out bb)
        have HB3 := Lib.hid (HB2.out.keep bb)
        clear bb c2 c3
        have c3 := HB3.out.1 3 _ rfl
        cases t4
        · go_wp2
          go_ret
          exact ⟨ret_bool (by rw [HV.out]; simp), HW3.out⟩
        · go_wp2_with fail
          ((with_reducible refine (HO.out _ HW3.out).mono ?_); rintro e w4 ⟨rfl, bb⟩)
          have HW4 := Lib.hid (on_of HW3.out bb)
          clear bb c3
          go_wp2
          go_ret
          exact ⟨ret_bool (by rw [HV.out]; simp [e1, e3]), HW4.out⟩
      · have e4 : decide ((60 : Int) < (cn : Int)) = true := by simp; omega
        go_wp2
        go_ret
        exact ⟨ret_bool (by rw [HV.out]; simp [e3]), HW2.out⟩
    · have e2 : ((m : Int) == ht) = false := by simpa using e1
      go_wp2
      go_ret
      exact ⟨ret_bool (by rw [HV.out]; simp [e1]), HW1.out⟩
end Go.Proofs.YtbdjnfnphilklaaGreat.Own
namespace Go.Proofs.YtbdjnfnphilklaaGreat.Own
open Go.ChangeShapes Go.WideShapes Go.ChangeAt Go.RowKit
open Kit Slabs Ints Point
set_option linter.unusedVariables false
set_option linter.unusedSimpArgs false
set_option linter.unnecessarySimpa false
set_option maxRecDepth 100000
abbrev Z4 : Array Value := #[.int .i64 0, .int .i64 0, .slice none 0 0, .slice none 0 0]
theorem nd_two {f2 F3 : List Nat} {m : Nat} (h2 : f2.Nodup) (h3 : F3.Nodup) (l2 : ∀ x ∈ f2, x < m) (g3 : ∀ x ∈ F3, m ≤ x) : (f2 ++ F3).Nodup :=
  app_nodup h2 h3 (fun x hx hy => by have := l2 x hx; have := g3 x hy; omega)
attribute [local go_sem ↓] hload_Band hstore_Band
set_option maxHeartbeats 4000000 in
theorem bclone_impl (w : World) (b : Bd) (ra : Option Addr) (rc : Nat) (oa : Option Addr) (oc : Nat) (h : BdA w b ra rc oa oc) :
    Calls Tryz.prog 32 #[.agg #[.int .i64 b.h, .int .i64 b.n, .slice ra b.base.length rc, .slice oa b.objs.length oc]] w (BdNew b w) := by
  have hs := h.s
  have HB := Lib.hid h
  obtain ⟨fo, hoo⟩ := h.o
  have HOo := Lib.hid hoo
  clear h hoo
  have hw2 : ((w.alloc (.cells #[.int .i64 b.h, .int .i64 b.n, .slice ra b.base.length rc, .slice oa b.objs.length oc] 27)).alloc (.cells Z4 27)).heap.size = w.heap.size + 2 := by simp
  have BA : Blk ((w.alloc (.cells #[.int .i64 b.h, .int .i64 b.n, .slice ra b.base.length rc, .slice oa b.objs.length oc] 27)).alloc (.cells Z4 27)) w.heap.size [.int .i64 b.h, .int .i64 b.n, .slice ra b.base.length rc, .slice oa b.objs.length oc] := (Blk.new w _ 27 rfl).alloc _
  have BR : Blk ((w.alloc (.cells #[.int .i64 b.h, .int .i64 b.n, .slice ra b.base.length rc, .slice oa b.objs.length oc] 27)).alloc (.cells Z4 27)) (w.heap.size + 1) Z4.toList := Blk.new _ _ 27 (by simp)
  have hW : Below w.heap.size w ((w.alloc (.cells #[.int .i64 b.h, .int .i64 b.n, .slice ra b.base.length rc, .slice oa b.objs.length oc] 27)).alloc (.cells Z4 27)) := by go_grown
  have HS := Lib.hid (And.intro BA (And.intro BR (And.intro hW hw2)))
  clear BA BR hW hw2
  go_enter Tryz.func32, Tryz.ntmps32
  go_upto_region 1 with (fail)
  obtain ⟨W, hWe⟩ : ∃ W, W = ((w.alloc (.cells #[.int .i64 b.h, .int .i64 b.n, .slice ra b.base.length rc, .slice oa b.objs.length oc] 27)).alloc (.cells Z4 27)) := ⟨_, rfl⟩
  rw [← hWe] at HS ⊢
  clear hWe
  obtain ⟨GA, hGA⟩ : ∃ x, w.heap.size = x := ⟨_, rfl⟩
  obtain ⟨GR, hGR⟩ : ∃ x, w.heap.size + 1 = x := ⟨_, rfl⟩
  have HS2 : Hid (Blk W GA [.int .i64 b.h, .int .i64 b.n, .slice ra b.base.length rc, .slice oa b.objs.length oc] ∧ Blk W GR Z4.toList) := Lib.hid ⟨hGA ▸ HS.out.1, hGR ▸ HS.out.2.1⟩
  rw [hGR]
  have hWw := Lib.hid HS.out.2.2
  have gA : w.heap.size ≤ GA := by omega
  have gAR : GA < GR := by omega
  have gAW : GA < W.heap.size := by have := hWw.out.2; omega
  have gR : GR < W.heap.size := by have := hWw.out.2; omega
  rw [hGA]
  clear HS hGR
  have c2' := HS2.out.1.1 2 _ rfl
  have c3' := HS2.out.1.1 3 _ rfl
  have fz := HS2.out.1.2.1
  clear hGA
  have hWd := Lib.hid (show Below w.heap.size w W.drew from by have := hWw.out.1; go_grown)
  go_region_law (first
    | (go_simp; go_at_call 71; (with_reducible refine (copyrows_impl _ ra rc b.base (by omega) (by omega) (HB.out.r.on hWd.out)).mono ?_); rintro e w1 ⟨m2, d2, f2, rfl, o2, n2, g2, b1⟩; have b1 := on_of (W := W) (by go_grown) b1; have g2 : ∀ x ∈ f2, W.heap.size ≤ x := g2; have k3 := ((bcell b1).1 GA 3 gAW).trans c3'; have hz := b1.size; have HR0 := Lib.hid (And.intro o2 (And.intro n2 (And.intro g2 b1))); clear o2 n2 g2 b1)
    | (go_simp; go_at_call 72; (with_reducible refine (cobs_impl _ oa oc b.objs (by omega) (HOo.out.under (on_of hWw.out.1 HR0.out.2.2.2))).mono ?_); rintro e w2 ⟨m3, d3, F3, rfl, r3, b2⟩; have hz2 := b2.size; have ka := ((bcell b2).1 GA 2 (by omega)).trans (((bcell HR0.out.2.2.2).1 GA 2 gAW).trans c2'); have kb := ((bcell b2).1 GA 3 (by omega)).trans k3; have kf : ∀ o, w2.frozen? ⟨GA, o, none⟩ = false := fun o => ((bcell b2).2 GA o (by omega)).trans (((bcell HR0.out.2.2.2).2 GA o (by omega)).trans (fz o)); have HR5 := Lib.hid (And.intro r3 b2); clear r3 b2))
  all_goals
    have o2 := HR0.out.1.under HR5.out.2
    have l2 := HR0.out.1.lt
    have g2 := HR0.out.2.2.1
    have r3 := HR5.out.1
    have g3 := r3.ge
    have bW2 := on_of (on_of hWw.out.1 HR0.out.2.2.2) HR5.out.2
    have bV := (bW2.setCell (p := ⟨GA, 2, none⟩) gA (.slice m2 b.base.length d2)).setCell (p := ⟨GA, 3, none⟩) gA (.slice m3 b.objs.length d3)
    have BA2 := (HS2.out.1.keep HR0.out.2.2.2).keep HR5.out.2
    have BV := Blk.put (P := [.int .i64 b.h, .int .i64 b.n, .slice m2 b.base.length d2]) (R := []) (Blk.put (P := [.int .i64 b.h, .int .i64 b.n]) BA2 rfl (.slice m2 b.base.length d2)) rfl (.slice m3 b.objs.length d3)
    have BR2 := (((HS2.out.2.keep HR0.out.2.2.2).keep HR5.out.2).other (b' := GA) (by omega) 2 (.slice m2 b.base.length d2)).other (b' := GA) (by omega) 3 (.slice m3 b.objs.length d3)
    have tV : Turns w2 ((w2.setCell ⟨GA, 2, none⟩ (.slice m2 b.base.length d2)).setCell ⟨GA, 3, none⟩ (.slice m3 b.objs.length d3)) (fun x => x = GA) := Turns.one (Turns.one (Turns.refl w2 (fun x => x = GA)) 2 _) 3 _
    have sV := tV.size
    generalize ((w2.setCell ⟨GA, 2, none⟩ (.slice m2 b.base.length d2)).setCell ⟨GA, 3, none⟩ (.slice m3 b.objs.length d3)) = V at bV BV BR2 tV sV ⊢
    have gw : w.heap.size ≤ W.heap.size := hWw.out.1.size
    have nV := nd_two HR0.out.2.1 r3.nodup l2 g3
    have gV := mem2 (p := fun x => W.heap.size ≤ x) g2 (fun x hx => by have := g3 x hx; omega)
    have GV : BdRows V w.heap.size [.int .i64 b.h, .int .i64 b.n, .slice m2 b.base.length d2, .slice m3 b.objs.length d3] b (f2 ++ F3) := ⟨m2, d2, f2, m3, d3, F3, rfl, o2.turned tV (fun x hx e => by have e' : x = GA := e; have := g2 x hx; omega), (r3.turned tV (fun x hx e => by have e' : x = GA := e; have := g3 x hx; omega)).base (by omega), rfl, nV, fun x hx => by have := gV x hx; omega⟩
    obtain ⟨fV, oV, _, _⟩ := GV.own
    obtain ⟨R, E, s1, s2, s3, e4, tE, bE⟩ := hand_over (P := Tryz.prog) (T := 27) Tryz.isAgg27 Tryz.sizeOf27 BV BR2 rfl oV rfl bV (by omega) (by omega)
    have GE := GV.turned tE (fun x hx e => by have := gV x hx; have e' : x = GR := e; omega)
    have GE : BdRows E w.heap.size R.toList b (f2 ++ F3) := by rw [e4]; exact GE
    have HX := Lib.hid (And.intro GE (And.intro bE s3))
    clear o2 l2 g2 r3 g3 bV BV BR2 BA2 bW2 tV oV nV gV GV GE bE s3 ka kb kf k3 c2' c3' fz e4 tE sV
    go_wp2
    refine bodyPost_ret (v := .agg R) ?_ rfl ⟨R, _, rfl, HX.out.1, HX.out.2.1⟩
    exact results_h Tryz.results32 (by rfl) HX.out.2.2
end Go.Proofs.YtbdjnfnphilklaaGreat.Own
namespace Go.Proofs.YtbdjnfnphilklaaGreat.Own
open Go.ChangeShapes Go.WideShapes Go.ChangeAt Go.RowKit
open Kit Slabs Ints Point
open Go.Proofs.YtbdjnfnphilklaaGreat.Ins (gen_any9)
set_option linter.unusedVariables false
set_option linter.unusedSimpArgs false
set_option linter.unnecessarySimpa false
set_option maxRecDepth 100000
structure MgS (w wr : World) (X : Nat) (ht bd : Int) (ra : Option Addr) (m rc : Nat) (R : List (List Int)) (rf : List Nat) (oa : Option Addr) (n oc : Nat) (l : List Ob) (of : List Nat) : Prop where
  X : Blk wr X [.int .i64 ht, .int .i64 bd, .slice ra m rc, .slice oa n oc]
  R : Own wr KSS [.slice ra m rc] (.sl (dR R)) rf
  O : Own wr (.sl KObject) [.slice oa n oc] (.sl (dO l)) of
  T : Turns w wr (fun x => x ∈ rf)
theorem MgS.on {w wr w' : World} {X : Nat} {ht bd : Int} {ra : Option Addr} {m rc : Nat} {R : List (List Int)} {rf : List Nat} {oa : Option Addr} {n oc : Nat} {l : List Ob} {of : List Nat} (h : MgS w wr X ht bd ra m rc R rf oa n oc l of) (hb : Below wr.heap.size wr w') : MgS w w' X ht bd ra m rc R rf oa n oc l of :=
  ⟨h.X.keep hb, h.R.under hb, h.O.under hb, h.T.call hb⟩
theorem MgS.turn {w wr w' : World} {X : Nat} {ht bd : Int} {ra : Option Addr} {m rc : Nat} {R R' : List (List Int)} {rf : List Nat} {oa : Option Addr} {n oc : Nat} {l : List Ob} {of : List Nat} (h : MgS w wr X ht bd ra m rc R rf oa n oc l of) (hx : X ∉ rf) (hd : ∀ x ∈ of, x ∉ rf) (ht2 : Turns wr w' (fun x => x ∈ rf)) (ho : Own w' KSS [.slice ra m rc] (.sl (dR R')) rf) : MgS w w' X ht bd ra m rc R' rf oa n oc l of :=
  ⟨h.X.turned ht2 hx, ho, h.O.turned ht2 hd, h.T.trans ht2⟩
theorem own_obl {w : World} {oa : Option Addr} {n oc : Nat} {l : List Ob} {of : List Nat} (hn : l.length = n) (hb : l.length + bulkL (dO l) ≤ 1048576) (h : Own w (.sl KObject) [.slice oa n oc] (.sl (dO l)) of) : ObL w oa l := by
  subst hn
  have := obl_of (es := dO l) (c := oc) (by rw [len_dO]; omega) (by rw [len_dO]; exact h)
  rwa [show obsOf (dO l) = l from un_objs l] at this
theorem path_at_turn {w : World} {oa : Option Addr} {n oc : Nat} {l : List Ob} {of : List Nat} {k : Nat} (hn : l.length = n) (hb : l.length + bulkL (dO l) ≤ 1048576) (h : Own w (.sl KObject) [.slice oa n oc] (.sl (dO l)) of) (hk : k < l.length) :
    ∃ g pa pc fq, oa = some ⟨g, 0, none⟩ ∧ g < w.heap.size ∧ (∀ j u, (sixo (l.getD k ob0) pa pc)[j]? = some u → w.cell? ⟨g, k * 6 + j, none⟩ = some u) ∧ OwnL w LObject (sixo (l.getD k ob0) pa pc) (l.getD k ob0).dt fq ∧ (l.getD k ob0).path.length ≤ 1048576 ∧ (∀ x ∈ fq, x ∈ of) := by
  subst hn
  obtain ⟨_, hr⟩ := h.row
  obtain ⟨g, rfl, _⟩ := hr (by omega)
  have hk' : k < (dO l).length := by rw [len_dO]; exact hk
  obtain ⟨hg, hsub, cs, ds, fq, ed, od, ld, hfq, hcell⟩ := h.elt hk'
  have e3 : (dO l)[k] = .st (l.getD k ob0).dt := by simp [dO, List.getD, List.getElem?_eq_getElem hk]
  rw [e3] at ed
  injection ed with ed
  subst ed
  have hbk := bulk_elt hk'
  rw [e3] at hbk
  have hbd : bulkL (l.getD k ob0).dt ≤ 1048576 := by simp only [Dt.bulk] at hbk; omega
  have od' : OwnL w LObject cs.toArray.toList (l.getD k ob0).dt fq := by simpa using od
  obtain ⟨pa, pc, hA, hp⟩ := Ins.obj_open od'
  have hcs : cs = sixo (l.getD k ob0) pa pc := by
    have := congrArg Array.toList hA
    simpa [sixo, sixv] using this
  subst hcs
  exact ⟨g, pa, pc, fq, rfl, hg, fun j u hu => hcell w (Below.refl _ _) j u hu, od, Ins.obj_len hbd, hfq⟩
theorem six_path {w : World} {pa : Option Addr} {pc : Nat} {o : Ob} {fq : List Nat} (h : OwnL w LObject (sixo o pa pc) o.dt fq) : Ins.PathAt w pa o.path := by
  obtain ⟨a, c, hA, hp⟩ := Ins.obj_open (A := (sixo o pa pc).toArray) (by simpa using h)
  have := congrArg Array.toList hA
  simp only [sixo, sixv, List.toList_toArray, List.cons.injEq, Value.slice.injEq] at this
  obtain ⟨⟨rfl, _⟩, _⟩ := this
  exact hp
theorem three_cells {V : World} {X : Nat} {v0 v1 v2 v3 : Value} (h : Blk V X [v0, v1, v2, v3]) : V.cell? ⟨X, 0, none⟩ = some v0 ∧ V.cell? ⟨X, 1, none⟩ = some v1 ∧ V.cell? ⟨X, 2, none⟩ = some v2 ∧ V.cell? ⟨X, 3, none⟩ = some v3 ∧ (∀ o, V.frozen? ⟨X, o, none⟩ = false) ∧ X < V.heap.size :=
  ⟨h.1 0 _ rfl, h.1 1 _ rfl, h.1 2 _ rfl, h.1 3 _ rfl, h.2.1, h.2.2⟩
set_option maxHeartbeats 4000000 in
theorem merge_impl (w : World) (X : Nat) (b : Bd) (ra : Option Addr) (rc : Nat) (rf : List Nat) (oa : Option Addr) (oc : Nat) (of : List Nat) (hb : bdB b = true) (hs : b.objs.length + bulkL (dO b.objs) ≤ 1048576)
    (hX : Blk w X [.int .i64 b.h, .int .i64 b.n, .slice ra b.base.length rc, .slice oa b.objs.length oc]) (hR : Own w KSS [.slice ra b.base.length rc] (.sl (dR b.base)) rf) (hn : rf.Nodup) (hx : X ∉ rf) (hO : Own w (.sl KObject) [.slice oa b.objs.length oc] (.sl (dO b.objs)) of) (hd : ∀ x ∈ of, x ∉ rf) :
    Calls Tryz.prog 33 #[.pointer (some ⟨X, 0, none⟩)] w fun e w' => e = .returned (.tuple #[]) ∧ Blk w' X [.int .i64 b.h, .int .i64 b.n, .slice ra b.base.length rc, .slice none 0 0] ∧ Own w' KSS [.slice ra b.base.length rc] (.sl (dR (mgR b))) rf ∧ Turns w w' (fun x => x = X ∨ x ∈ rf) := by
  obtain ⟨p1, p2, p3, p4, p5⟩ := bd_parts hb
  obtain ⟨b0, b1, b2, b3, b4, b5⟩ := bn_rows p1
  have HT : Hid (mgR b = b.objs.foldl (pnF (b.n * b.h)) b.base) := Lib.hid rfl
  have hl0 : b.objs.length ≤ 1048576 := by omega
  have e1 : IntKind.i64.wrap (b.h * b.n) = b.n * b.h := by rw [Int.mul_comm]; exact IntWalk.i64_in _ ⟨by omega, by omega⟩
  obtain ⟨n, hN⟩ : ∃ n, b.objs.length = n := ⟨_, rfl⟩
  obtain ⟨m, hM⟩ : ∃ m, b.base.length = m := ⟨_, rfl⟩
  have h32 := (rows32 p3).2
  have hF : Hid (0 ≤ b.n * b.h ∧ b.n * b.h ≤ 32) := Lib.hid ⟨b3, by omega⟩
  have hm : m ≤ 32 := by omega
  rw [hM, hN] at hX
  rw [hM] at hR ⊢
  rw [hN] at hO
  have S0 : MgS w w X b.h b.n ra m rc b.base rf oa n oc b.objs of := ⟨hX, hR, hO, Turns.refl _ _⟩
  have HS0 := Lib.hid S0
  have HN := Lib.hid (And.intro hN (And.intro hM (And.intro hs (And.intro hn (And.intro hx (And.intro hd h32))))))
  rw [hN] at hl0
  generalize mgR b = T at *
  generalize b.n * b.h = f at *
  generalize b.base = R0 at *
  generalize b.objs = l at *
  generalize b.h = ht at *
  generalize b.n = bd at *
  obtain ⟨k0, k1, k2, k3, _, hzX⟩ := three_cells hX
  clear S0 hb hs hX hR hn hx hO hd p1 p2 p3 p4 p5 h32 hN hM b0 b1 b2 b3 b4 b5
  go_enter Tryz.func33, Tryz.ntmps33
  go_wp2
  clear k0 k1 k2 k3
  go_loopw [9] (fun v wr => ∃ k : Nat, k ≤ n ∧ v = .int .i64 (k : Int) ∧ Hid (MgS w wr X ht bd ra m rc ((l.take k).foldl (pnF f) R0) rf oa n oc l of)) (fun v _ => n - (intOf v).toNat)
  case atStart => exact ⟨0, Nat.zero_le _, rfl, HS0⟩
  case round =>
    obtain ⟨k, hk, rfl, hL⟩ := hrel
    by_cases hlt : k < n
    · have hkl : k < l.length := by rw [HN.out.1]; exact hlt
      obtain ⟨g, pa, pc, fq, rfl, hg, h6, hoo, hpl, hfq⟩ := path_at_turn HN.out.1 HN.out.2.2.1 hL.out.O hkl
      have htk : (l.take (k + 1)).foldl (pnF f) R0 = pnF f ((l.take k).foldl (pnF f) R0) (l.getD k ob0) := by
        rw [List.take_succ_eq_append_getElem hkl, List.foldl_append]
        simp [List.getD, List.getElem?_eq_getElem hkl]
      obtain ⟨f1, f2⟩ := foldF f (l.take k) HN.out.2.1 HN.out.2.2.2.2.2.2
      obtain ⟨o, hx⟩ : ∃ o, l.getD k ob0 = o := ⟨_, rfl⟩
      rw [hx] at h6 hoo hpl htk
      obtain ⟨R, hR⟩ : ∃ R, (l.take k).foldl (pnF f) R0 = R := ⟨_, rfl⟩
      rw [hR] at f1 f2 htk hL
      have q0 : wr.cell? ⟨g, k * 6, none⟩ = some (.slice pa o.path.length pc) := h6 0 _ rfl
      have q1 : wr.cell? ⟨g, k * 6 + 1, none⟩ = some (.int .i64 o.gray) := h6 1 _ rfl
      have q2 : wr.cell? ⟨g, k * 6 + 2, none⟩ = some (.int .i64 o.x0) := h6 2 _ rfl
      have q3 : wr.cell? ⟨g, k * 6 + 3, none⟩ = some (.int .i64 o.y0) := h6 3 _ rfl
      have q4 : wr.cell? ⟨g, k * 6 + 4, none⟩ = some (.int .i64 o.x1) := h6 4 _ rfl
      have q5 : wr.cell? ⟨g, k * 6 + 5, none⟩ = some (.int .i64 o.y1) := h6 5 _ rfl
      have i0 : (0 : Int) ≤ (k : Int) := by omega
      have i1 : (k : Int) < (n : Int) := by omega
      have hb1 : Below wr.heap.size wr (wr.alloc (.cells #[.slice pa o.path.length pc, .int .i64 o.gray, .int .i64 o.x0, .int .i64 o.y0, .int .i64 o.x1, .int .i64 o.y1] 53)) := by go_grown
      have hV0 := hL.out.on hb1
      have hV6 : Blk (wr.alloc (.cells #[.slice pa o.path.length pc, .int .i64 o.gray, .int .i64 o.x0, .int .i64 o.y0, .int .i64 o.x1, .int .i64 o.y1] 53)) wr.heap.size (sixo o pa pc) := Blk.new wr _ _ rfl
      have hoo1 := hoo.under hb1
      have HX := Lib.hid (And.intro htk (And.intro f1 (And.intro f2 (And.intro hfq (And.intro hpl (And.intro hoo1 (And.intro hV0 hV6)))))))
      have hrfl := HS0.out.R.lt
      have hsz := hL.out.T.size
      have hvr : wr.heap.size ∉ rf := fun hm => by have := hrfl _ hm; omega
      have HVR := Lib.hid hvr
      clear hx hR hpl h6 htk f1 f2 hfq hoo hoo1 hV0 hV6 hb1 hrfl hsz hvr
      go_upto_region 3 with (fail)
      clear q0 q1 q2 q3 q4 q5
      refine gen_any9 (fun V => MgS w V X ht bd ra m rc R rf (some ⟨g, 0, none⟩) n oc l of ∧ Blk V wr.heap.size (sixo o pa pc) ∧ OwnL V LObject (sixo o pa pc) o.dt fq) ⟨HX.out.2.2.2.2.2.2.1, HX.out.2.2.2.2.2.2.2, HX.out.2.2.2.2.2.1⟩ ?_
      rintro V ⟨hV, hV6, hVo⟩
      obtain ⟨GV, hGV⟩ : ∃ x, wr.heap.size = x := ⟨_, rfl⟩
      rw [hGV] at hV6 HVR ⊢
      have HVS := Lib.hid (And.intro hV (And.intro hV6 hVo))
      clear hV hV6 hVo
      obtain ⟨x0, x1, x2, x3, _, xz⟩ := three_cells HVS.out.1.X
      obtain ⟨k0, k1, k2, k3, k4, k5, kz⟩ := sixc HVS.out.2.1
      have HK : Hid (∀ W, Turns V W (fun x => x ∈ rf) → (W.cell? ⟨X, 0, none⟩ = some (.int .i64 ht) ∧ W.cell? ⟨X, 1, none⟩ = some (.int .i64 bd) ∧ W.cell? ⟨X, 2, none⟩ = some (.slice ra m rc)) ∧ W.cell? ⟨GV, 0, none⟩ = some (.slice pa o.path.length pc) ∧ W.cell? ⟨GV, 1, none⟩ = some (.int .i64 o.gray) ∧ W.cell? ⟨GV, 2, none⟩ = some (.int .i64 o.x0) ∧ W.cell? ⟨GV, 3, none⟩ = some (.int .i64 o.y0) ∧ W.cell? ⟨GV, 4, none⟩ = some (.int .i64 o.x1) ∧ W.cell? ⟨GV, 5, none⟩ = some (.int .i64 o.y1) ∧ GV < W.heap.size ∧ X < W.heap.size) := Lib.hid fun W hW => by
        obtain ⟨y0, y1, y2, y3, _, yz⟩ := three_cells (HVS.out.1.X.turned hW HN.out.2.2.2.2.1)
        obtain ⟨z0, z1, z2, z3, z4, z5, zz⟩ := sixc (HVS.out.2.1.turned hW HVR.out)
        exact ⟨⟨y0, y1, y2⟩, z0, z1, z2, z3, z4, z5, zz, yz⟩
      have hPt := fun (W : World) (hW : Below V.heap.size V W) => paint_any W ra rc R rf f pa pc o.path o.gray o.x0 o.y0 o.x1 o.y1 HX.out.2.2.2.2.1 (by rw [HX.out.2.1]; exact hm) HX.out.2.2.1 hF.out (by rw [HX.out.2.1]; exact HVS.out.1.R.under hW) HN.out.2.2.2.1 (fun W2 hW2 => six_path ((HVS.out.2.2.under hW).turned hW2 (fun x hx => HN.out.2.2.2.2.2.1 x (HX.out.2.2.2.1 x hx))))
      rw [HX.out.2.1] at hPt
      have HPt := Lib.hid hPt
      clear hPt
      go_region_held3 (fun w' => (w'.cell? ⟨X, 0, none⟩ = some (.int .i64 ht) ∧ w'.cell? ⟨X, 1, none⟩ = some (.int .i64 bd) ∧ w'.cell? ⟨X, 2, none⟩ = some (.slice ra m rc)) ∧ w'.cell? ⟨GV, 0, none⟩ = some (.slice pa o.path.length pc) ∧ w'.cell? ⟨GV, 1, none⟩ = some (.int .i64 o.gray) ∧ w'.cell? ⟨GV, 2, none⟩ = some (.int .i64 o.x0) ∧ w'.cell? ⟨GV, 3, none⟩ = some (.int .i64 o.y0) ∧ w'.cell? ⟨GV, 4, none⟩ = some (.int .i64 o.x1) ∧ w'.cell? ⟨GV, 5, none⟩ = some (.int .i64 o.y1) ∧ GV < w'.heap.size ∧ X < w'.heap.size) (first | exact HS9.out | exact HK.out _ (Turns.of_below (by go_grown)))
        ((go_at_call 73; (with_reducible refine (HPt.out _ (by first | exact Below.refl _ _ | go_grown)).mono ?_); rintro e w3 ⟨rfl, ho3, ht3⟩; have hB : Turns V w3 (fun x => x ∈ rf) := (Turns.of_below (by go_grown) : Turns V _ (fun x => x ∈ rf)).trans ht3; have HS9 := Lib.hid (HK.out _ hB); have HV := Lib.hid (HVS.out.1.turn HN.out.2.2.2.2.1 HN.out.2.2.2.2.2.1 hB ho3); clear ho3 ht3 hB))
      rw [show pntR o.gray (rowsL o.path o.gray o.x0 o.y0 o.x1 o.y1 f) R = (l.take (k + 1)).foldl (pnF f) R0 from HX.out.1.symm] at HV
      go_wp2
      go_roundw
      case rel => exact ⟨k + 1, by omega, by go_num, HV⟩
      case measure => simp [intOf]; omega
    · obtain rfl : k = n := by omega
      have htk : l.take k = l := by rw [← HN.out.1, List.take_length]
      rw [htk, ← HT.out] at hL
      obtain ⟨x0, x1, x2, x3, xf, xz⟩ := three_cells hL.out.X
      go_wp2
      refine bodyPost_end (results_none rfl _ _ _) rfl ?_
      refine ⟨rfl, Blk.put (P := [.int .i64 ht, .int .i64 bd, .slice ra m rc]) (R := []) hL.out.X rfl (.slice none 0 0), own_setN hL.out.R HN.out.2.2.2.2.1 3 _, turns_set (hL.out.T.mono (fun x hx => .inr hx)) (.inl rfl) 3 _⟩
end Go.Proofs.YtbdjnfnphilklaaGreat.Own
