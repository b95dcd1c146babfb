/-
  Texts of this seat, laid together: Lz13
-/
import Derived.Test.YtbdjnfnphilklaaGreatV42
import Derived.Test.YtbdjnfnphilklaaGreatV44
namespace Go.Proofs.YtbdjnfnphilklaaGreat.Own
open Go.ChangeShapes Go.WideShapes Go.ChangeAt Go.RowKit
open Kit Slabs Ints
set_option linter.unusedVariables false
set_option linter.unusedSimpArgs false
set_option linter.unnecessarySimpa false
theorem spec_MergeBand (w : World) {A : Array Value} {ds : List Dt} {fp : List Nat} (hb : bulkL ds ≤ 1048576) (h : OwnL w LBand A.toList ds fp) :
    Calls Tryz.prog 15 #[.agg A] w (BdOut (mgD (bdOf ds)).dt w) := by
  have e := bd_dt h
  rw [e] at hb h
  obtain ⟨ra, rc, oa, oc, rf, of, rfl, _, h2, h3⟩ := bd_four h
  exact (mergeband_spec w _ ra rc oa oc (bda_of hb h2 h3)).mono fun e w' h => bd_out h
theorem impl_MergeBand (w : World) {A : Array Value} {ds : List Dt} {fp : List Nat} (hb : bulkL ds ≤ 1048576) (h : OwnL w LBand A.toList ds fp) :
    Calls Tryz.prog 9 #[.agg A] w (BdOut (mgD (bdOf ds)).dt w) := by
  have e := bd_dt h
  rw [e] at hb h
  obtain ⟨ra, rc, oa, oc, rf, of, rfl, _, h2, h3⟩ := bd_four h
  exact (mergeband_impl w _ ra rc oa oc (bda_of hb h2 h3)).mono fun e w' h => bd_out h
theorem spec_RowsOfBand_ (w : World) {A : Array Value} {ds : List Dt} {fp : List Nat} (hb : bulkL ds ≤ 1048576) (h : OwnL w LBand A.toList ds fp) {T : List (List Int)} {B : Bool} (hT : rbD (bdOf ds) = T ∧ true = B) :
    Calls Tryz.prog 26 #[.agg A] w (SsNew T w) := by
  rw [← hT.1]
  have e := bd_dt h
  rw [e] at hb h
  obtain ⟨ra, rc, oa, oc, rf, of, rfl, _, h2, h3⟩ := bd_four h
  exact rowsband_spec w _ ra rc oa oc (bda_of hb h2 h3)
theorem impl_RowsOfBand_ (w : World) {A : Array Value} {ds : List Dt} {fp : List Nat} (hb : bulkL ds ≤ 1048576) (h : OwnL w LBand A.toList ds fp) {T : List (List Int)} {B : Bool} (hT : rbD (bdOf ds) = T ∧ true = B) :
    Calls Tryz.prog 13 #[.agg A] w (SsNew T w) := by
  rw [← hT.1]
  have e := bd_dt h
  rw [e] at hb h
  obtain ⟨ra, rc, oa, oc, rf, of, rfl, _, h2, h3⟩ := bd_four h
  exact rowsband_impl w _ ra rc oa oc (bda_of hb h2 h3)
theorem ob_six2 {w : World} {A : Array Value} {ds : List Dt} {fp : List Nat} (h : OwnL w LObject A.toList ds fp) : ∃ pa pc, A = #[.slice pa (obOf ds).path.length pc, .int .i64 (obOf ds).gray, .int .i64 (obOf ds).x0, .int .i64 (obOf ds).y0, .int .i64 (obOf ds).x1, .int .i64 (obOf ds).y1] ∧ OwnL w LObject (sixo (obOf ds) pa pc) (obOf ds).dt fp := by
  have e := ob_dt h
  rw [e] at h
  obtain ⟨a, c, hA⟩ := ob_six h
  rw [hA] at h
  exact ⟨a, c, hA, h⟩
theorem spec_AddToBand (w : World) {A : Array Value} {ds : List Dt} {fp : List Nat} (hb : bulkL ds ≤ 1048576) (h : OwnL w LBand A.toList ds fp) {A2 : Array Value} {ds2 : List Dt} {fp2 : List Nat} (hb2 : bulkL ds2 ≤ 1048576) (h2 : OwnL w LObject A2.toList ds2 fp2) :
    Calls Tryz.prog 21 #[.agg A, .agg A2] w (BdOut2 (adD (bdOf ds) (obOf ds2)).dt (adF (bdOf ds) (obOf ds2)) w) := by
  have e := bd_dt h
  rw [e] at hb h
  obtain ⟨ra, rc, oa, oc, rf, of, rfl, _, hr, ho⟩ := bd_four h
  obtain ⟨pa, pc, rfl, hE⟩ := ob_six2 h2
  exact (addband_spec w _ ra rc oa oc (bda_of hb hr ho) pa pc _ _ (by rw [← ob_dt h2]; exact hb2) hE).mono fun e w' h => bd_out2 h
theorem impl_AddToBand (w : World) {A : Array Value} {ds : List Dt} {fp : List Nat} (hb : bulkL ds ≤ 1048576) (h : OwnL w LBand A.toList ds fp) {A2 : Array Value} {ds2 : List Dt} {fp2 : List Nat} (hb2 : bulkL ds2 ≤ 1048576) (h2 : OwnL w LObject A2.toList ds2 fp2) :
    Calls Tryz.prog 23 #[.agg A, .agg A2] w (BdOut2 (adD (bdOf ds) (obOf ds2)).dt (adF (bdOf ds) (obOf ds2)) w) := by
  have e := bd_dt h
  rw [e] at hb h
  obtain ⟨ra, rc, oa, oc, rf, of, rfl, _, hr, ho⟩ := bd_four h
  obtain ⟨pa, pc, rfl, hE⟩ := ob_six2 h2
  exact (addband_impl w _ ra rc oa oc (bda_of hb hr ho) pa pc _ _ (by rw [← ob_dt h2]; exact hb2) hE).mono fun e w' h => bd_out2 h
theorem mgR_tot (b : Bd) : tot (mgR b) = tot b.base := by
  unfold mgR
  generalize b.base = R
  induction b.objs generalizing R with
  | nil => rfl
  | cons o l ih =>
    rw [List.foldl_cons, ih]
    unfold pnF pntR
    exact pntK_tot _ _ _ _
theorem mgD_le {ds : List Dt} (e : ds = (bdOf ds).dt) (hb : bulkL ds ≤ 1048576) : bulkL (mgD (bdOf ds)).dt ≤ 1048576 := by
  rw [e, bulk_dt] at hb
  rw [bulk_dt]
  unfold mgD
  split
  · show (mgR (bdOf ds)).length + tot (mgR (bdOf ds)) + (0 + 0) ≤ 1048576
    rw [mgR_len, mgR_tot]; omega
  · omega
theorem rbD_le {ds : List Dt} (e : ds = (bdOf ds).dt) (hb : bulkL ds ≤ 1048576) : (rbD (bdOf ds)).length + tot (rbD (bdOf ds)) ≤ 1048576 := by
  rw [e, bulk_dt] at hb
  unfold rbD
  split
  · rw [mgR_len, mgR_tot]; omega
  · simp [tot]
theorem bulk_cells (l : List Ob) : l.length + bulkL (dO l) ≤ cellsN l := by
  induction l with
  | nil => simp [cellsN, dO, bulkL]
  | cons o l ih =>
    have e : cellsN (o :: l) = 2 + o.path.length + cellsN l := by simp [cellsN]
    have e2 : bulkL (dO (o :: l)) = o.path.length + bulkL (dO l) := by
      show bulkL (Dt.st o.dt :: dO l) = _
      simp only [bulkL, Dt.bulk, Ob.dt, len_dP, bulk_dP]; omega
    rw [e, e2, List.length_cons]; omega
theorem ok_path {o : Ob} (h : okO o = true) : o.path.length ≤ 8 := by
  simp only [okO, Ins.obK, Ins.pathB, Bool.and_eq_true, decide_eq_true_eq] at h
  exact h.1.1.2.1
theorem adD_le {ds : List Dt} (e : ds = (bdOf ds).dt) (hb : bulkL ds ≤ 1048576) (o : Ob) : bulkL (adD (bdOf ds) o).dt ≤ 1048576 := by
  rw [e, bulk_dt] at hb
  rw [bulk_dt]
  generalize bdOf ds = b at *
  unfold adD
  split
  · rename_i h
    simp only [adF, Bool.and_eq_true] at h
    obtain ⟨⟨h1, h2⟩, h3⟩ := h
    obtain ⟨p1, p2, p3, p4, p5⟩ := bd_parts h1
    obtain ⟨r1, r2⟩ := rows32 p3
    have ht := tot_of32 r2
    have hp := ok_path h2
    unfold adI
    split
    · have h4 := bulk_cells (b.objs ++ [o])
      rw [cells_app, cells_one] at h4
      show b.base.length + tot b.base + ((b.objs ++ [o]).length + bulkL (dO (b.objs ++ [o]))) ≤ 1048576
      omega
    · have h4 := bulk_cells [o]
      rw [cells_one] at h4
      show (mgR b).length + tot (mgR b) + ([o].length + bulkL (dO [o])) ≤ 1048576
      rw [mgR_len, mgR_tot]; omega
  · omega
/-! ### What came in reads as a band -/
theorem pts_dtC {w : World} {a : Option Addr} {n c : Nat} {es : List Dt} (h : Came w (.sl KPt) [.slice a n c] (.sl es)) : es = dP (es.map unPt) := by
  refine map_same (all_of_at (p := fun d => dPt (unPt d) = d) fun i hi => ?_)
  obtain ⟨hl, hr⟩ := h.row
  obtain ⟨g, o, rfl, _⟩ := hr (by omega)
  obtain ⟨_, cs, ds, e, o', _, _⟩ := h.elt hi
  obtain ⟨q, cs1, ds1, rfl, rfl, _, h1⟩ := CameL.int o'
  obtain ⟨r, cs2, ds2, rfl, rfl, _, h2⟩ := CameL.int h1
  obtain ⟨rfl, rfl⟩ := CameL.end_ h2
  rw [e]; rfl
theorem ob_dtC {w : World} {cs : List Value} {ds : List Dt} (h : CameL w LObject cs ds) : ds = (obOf ds).dt := by
  obtain ⟨a0, c0, s0, q1, q2, q3, q4, q5, _, rfl, o0, _⟩ := invC_Object h
  simp only [Ob.dt, obOf, at_, unS, unI, List.getD_cons_zero, List.getD_cons_succ]
  rw [← pts_dtC o0]
theorem objs_dtC {w : World} {a : Option Addr} {n c : Nat} {es : List Dt} (h : Came w (.sl KObject) [.slice a n c] (.sl es)) : es = dO (unO es) := by
  refine map_same (f := fun d => obOf (unS d)) (g := fun g : Ob => Dt.st g.dt) (all_of_at (p := fun d => Dt.st (obOf (unS d)).dt = d) fun i hi => ?_)
  obtain ⟨hl, hr⟩ := h.row
  obtain ⟨g, o, rfl, _⟩ := hr (by omega)
  obtain ⟨_, cs, ds, e, o', _, _⟩ := h.elt hi
  rw [e, unS_st, ← ob_dtC o']
theorem bd_dtC {w : World} {cs : List Value} {ds : List Dt} (h : CameL w LBand cs ds) : ds = (bdOf ds).dt := by
  obtain ⟨a2, c2, a3, c3, q0, q1, s2, s3, _, rfl, ⟨o2, _⟩, ⟨o3, _⟩⟩ := invC_Band h
  obtain ⟨R, hR, _⟩ := came_ss o2
  simp only [Dt.sl.injEq] at hR
  subst hR
  show _ = [Dt.int q0, Dt.int q1, .sl (dR (unR (dR R))), .sl (dO (unO s3))]
  rw [un_rows, ← objs_dtC o3]
end Go.Proofs.YtbdjnfnphilklaaGreat.Own
