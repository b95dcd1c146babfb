/-
  Texts of this seat, laid together: Rb12, Lw11, Sp11, Rs12
-/
import Derived.Test.YtkabofbbioaapaaGreatV36
import Derived.Test.YtkabofbbioaapaaGreatV37
import Derived.Test.YtkabofbbioaapaaGreatV38
import Derived.Test.YtkabofbbioaapaaGreatV39
import Derived.Test.YtkabofbbioaapaaGreatV40
namespace Go.Proofs.YtkabofbbioaapaaGreat.Own
open Go.ChangeShapes Go.WideShapes Go.ChangeAt Go.RowKit
open Kit Slabs Ints
open Go.Proofs.YtkabofbbioaapaaGreat.Ins (Pt gen_any9 orow obK)
set_option linter.unusedVariables false
set_option linter.unusedSimpArgs false
set_option linter.unnecessarySimpa false
set_option maxRecDepth 100000
def pnF (f : Int) (R : List (List Int)) (o : Ob) : List (List Int) := pntR o.gray (rowsL o.path o.gray o.x0 o.y0 o.x1 o.y1 f) R
def whR (ht : Int) : List (List Int) := List.replicate ht.toNat whiteR
def rbR (ht bd : Int) (l : List Ob) : List (List Int) := if bnB ht bd then l.foldl (pnF (bd * ht)) (whR ht) else []
theorem pnF_len (f : Int) (R : List (List Int)) (o : Ob) : (pnF f R o).length = R.length := pntR_len _ _ _
theorem pnK_32 {g : Int} {L : Nat → List Pt} {R : List (List Int)} {k : Nat} (h : ∀ r ∈ R, r.length = 32) : ∀ r ∈ pntK g L R k, r.length = 32 := by
  intro r hr
  obtain ⟨i, hi, rfl⟩ := List.mem_iff_getElem.1 hr
  simp only [pntK, List.getElem_mapIdx]
  split
  · rw [pnt_len]; exact h _ (List.getElem_mem _)
  · exact h _ (List.getElem_mem _)
theorem foldF (f : Int) (l : List Ob) : ∀ {R : List (List Int)} {n : Nat}, R.length = n → (∀ r ∈ R, r.length = 32) → (l.foldl (pnF f) R).length = n ∧ ∀ r ∈ l.foldl (pnF f) R, r.length = 32 := by
  induction l with
  | nil => intro R n h1 h2; exact ⟨h1, h2⟩
  | cons o l ih => intro R n h1 h2; exact ih (by rw [pnF_len]; exact h1) (pnK_32 h2)
theorem whR_len (ht : Int) : (whR ht).length = ht.toNat := List.length_replicate
theorem whR_32 (ht : Int) : ∀ r ∈ whR ht, r.length = 32 := fun r hr => by rw [(List.mem_replicate.1 hr).2]; exact whiteR_len
theorem whitesh_impl (w : World) (ht : Int) (h : 0 < ht ∧ ht ≤ 32) : Calls Tryz.prog 29 #[.int .i64 ht] w (SsNew (whR ht) w) := by
  have := whites_impl w ht
  rw [if_pos (by omega)] at this
  exact this
set_option maxHeartbeats 4000000 in
theorem render_impl (w : World) (a : Option Addr) (c : Nat) (l : List Ob) (ht bd : Int) (hn : l.length ≤ 1048576) (h : ObL w a l) :
    Calls Tryz.prog 17 #[.slice a l.length c, .int .i64 ht, .int .i64 bd] w (SsNew (rbR ht bd l) w) := by
  have HP := Lib.hid h
  obtain ⟨n, hN⟩ : ∃ n, l.length = n := ⟨_, rfl⟩
  have HN := Lib.hid hN
  have HI := Lib.hid (fun W => isband_impl ht bd W)
  rw [hN] at hn ⊢
  clear hN h
  cases hb : bnB ht bd
  · rw [hb] at HI
    have HV := Lib.hid (show rbR ht bd l = [] from by simp [rbR, hb])
    clear hb
    go_enter Tryz.func17, Tryz.ntmps17
    go_wp2_with fail
    ((with_reducible refine (HI.out _).mono ?_); rintro e w1 ⟨rfl, bb⟩)
    have HB := Lib.hid bb
    clear bb
    go_wp2
    go_ret
    rw [HV.out]
    exact ss_nil _ _ _ _ HB.out
  · obtain ⟨b0, b1, b2, b3, b4, b5⟩ := bn_rows hb
    have e1 : IntKind.i64.wrap (bd * ht) = bd * ht := IntWalk.i64_in _ ⟨by omega, by omega⟩
    have HW := Lib.hid (fun W => whitesh_impl W ht ⟨b1, b2⟩)
    have HV := Lib.hid (show rbR ht bd l = l.foldl (pnF (bd * ht)) (whR ht) from by simp [rbR, hb])
    have HL := Lib.hid (And.intro (whR_len ht) (whR_32 ht))
    obtain ⟨m, rfl⟩ : ∃ m : Nat, ht = (m : Int) := ⟨ht.toNat, by omega⟩
    have hm : m ≤ 32 := by omega
    rw [hb] at HI
    generalize hf : bd * (m : Int) = f at *
    rw [Int.toNat_natCast] at HL
    generalize whR (m : Int) = R0 at *
    have HF := Lib.hid (show 0 ≤ f ∧ f ≤ 32 from ⟨b3, by omega⟩)
    clear hb
    go_enter Tryz.func17, Tryz.ntmps17
    go_wp2_with fail
    ((with_reducible refine (HI.out _).mono ?_); rintro e w1 ⟨rfl, bb⟩)
    have HB := Lib.hid bb
    clear bb
    go_wp2_with fail
    ((with_reducible refine (HW.out _).mono ?_); rintro e w2 ⟨ra, rc, fp, rfl, ho, hnd, hge, bb⟩)
    have hs1 := HB.out.size
    rw [HL.out.1] at ho ⊢
    have HO := Lib.hid (And.intro hnd (And.intro (show ∀ b ∈ fp, w.heap.size ≤ b from fun b hb => Nat.le_trans hs1 (hge b hb)) (And.intro ho (on_of HB.out bb))))
    clear ho hnd hge bb
    go_wp2
    go_loopw [18] (fun v18 wr => ∃ k : Nat, k ≤ n ∧ v18 = .int .i64 (k : Int) ∧ Hid (Own wr KSS [.slice ra m rc] (.sl (dR ((l.take k).foldl (pnF f) R0))) fp ∧ Below w.heap.size w wr)) (fun v18 _ => n - (intOf v18).toNat)
    case atStart => exact ⟨0, Nat.zero_le _, rfl, Lib.hid ⟨HO.out.2.2.1, HO.out.2.2.2⟩⟩
    case round =>
      obtain ⟨k, hk, rfl, hI⟩ := hrel
      by_cases hlt : k < n
      · have hkl : k < l.length := by rw [HN.out]; exact hlt
        obtain ⟨g, rfl, hg, hc⟩ := HP.out.some (by rw [HN.out]; omega)
        obtain ⟨pa, pc, h6, hpa, hpl⟩ := hc k hkl
        have htk : (l.take (k + 1)).foldl (pnF f) R0 = pnF f ((l.take k).foldl (pnF f) R0) (l.getD k ob0) := by
          rw [List.take_succ_eq_append_getElem hkl, List.foldl_append]
          simp [List.getD, List.getElem?_eq_getElem hkl]
        obtain ⟨f1, f2⟩ := foldF f (l.take k) HL.out.1 HL.out.2
        obtain ⟨o, hx⟩ : ∃ o, l.getD k ob0 = o := ⟨_, rfl⟩
        rw [hx] at h6 hpa hpl htk
        obtain ⟨R, hR⟩ : ∃ R, (l.take k).foldl (pnF f) R0 = R := ⟨_, rfl⟩
        rw [hR] at f1 f2 htk hI
        have up : ∀ j u, (sixo o pa pc)[j]? = some u → wr.cell? ⟨g, k * 6 + j, none⟩ = some u := fun j u hu => (hI.out.2.cell (p := ⟨g, k * 6 + j, none⟩) hg).trans (h6 j u hu)
        have q0 : wr.cell? ⟨g, k * 6, none⟩ = some (.slice pa o.path.length pc) := up 0 _ rfl
        have q1 : wr.cell? ⟨g, k * 6 + 1, none⟩ = some (.int .i64 o.gray) := up 1 _ rfl
        have q2 : wr.cell? ⟨g, k * 6 + 2, none⟩ = some (.int .i64 o.x0) := up 2 _ rfl
        have q3 : wr.cell? ⟨g, k * 6 + 3, none⟩ = some (.int .i64 o.y0) := up 3 _ rfl
        have q4 : wr.cell? ⟨g, k * 6 + 4, none⟩ = some (.int .i64 o.x1) := up 4 _ rfl
        have q5 : wr.cell? ⟨g, k * 6 + 5, none⟩ = some (.int .i64 o.y1) := up 5 _ rfl
        have hb1 : Below wr.heap.size wr (wr.alloc (.cells #[.slice pa o.path.length pc, .int .i64 o.gray, .int .i64 o.x0, .int .i64 o.y0, .int .i64 o.x1, .int .i64 o.y1] 52)) := by go_grown
        have hB2 := on_of hI.out.2 hb1
        have hPt := paint_any _ ra rc R fp f pa pc o.path o.gray o.x0 o.y0 o.x1 o.y1 hpl (by omega) f2 HF.out (by rw [f1]; exact hI.out.1.under hb1) HO.out.1 (fun W hW => hpa.on (hB2.trans (hW.below hB2.size HO.out.2.1)))
        rw [f1] at hPt
        have HPt := Lib.hid hPt
        have HX := Lib.hid (And.intro htk hB2)
        have i0 : (0 : Int) ≤ (k : Int) := by omega
        have i1 : (k : Int) < (n : Int) := by omega
        have hgl : g < wr.heap.size := Nat.lt_of_lt_of_le hg hI.out.2.size
        clear hx hR up hpa hpl h6 hc hb1 hB2 hPt f1 f2 htk
        go_wp2_with fail
        clear q0 q1 q2 q3 q4 q5
        ((with_reducible refine HPt.out.mono ?_); rintro e w3 ⟨rfl, ho3, ht3⟩)
        have HI2 := Lib.hid (show Own w3 KSS [.slice ra m rc] (.sl (dR ((l.take (k + 1)).foldl (pnF f) R0))) fp ∧ Below w.heap.size w w3 from ⟨by rw [HX.out.1]; exact ho3, HX.out.2.trans (ht3.below HX.out.2.size HO.out.2.1)⟩)
        clear ho3 ht3 HPt
        go_wp2
        go_roundw
        case rel => exact ⟨k + 1, by omega, by go_num, HI2⟩
        case measure => simp [intOf]; omega
      · obtain rfl : k = n := by omega
        have htk : l.take k = l := by rw [← HN.out, List.take_length]
        rw [htk] at hI
        have hl32 := (foldF f l HL.out.1 HL.out.2).1
        have HR := Lib.hid (show SsNew (rbR (m : Int) bd l) w (.returned (.slice ra m rc)) wr from by
          rw [HV.out]
          exact ⟨ra, rc, fp, by rw [hl32], by rw [hl32]; exact hI.out.1, HO.out.1, HO.out.2.1, hI.out.2⟩)
        clear hl32 htk
        go_wp2
        go_ret
        exact HR.out
end Go.Proofs.YtkabofbbioaapaaGreat.Own
namespace Go.Proofs.YtkabofbbioaapaaGreat.Own
open Go.ChangeShapes Go.WideShapes Go.ChangeAt Go.RowKit
open Kit Slabs Ints
set_option linter.unusedVariables false
set_option linter.unusedSimpArgs false
set_option linter.unnecessarySimpa false
theorem rr_of {w : World} {a : Option Addr} {c : Nat} {R : List (List Int)} {fp : List Nat} (h : Own w KSS [.slice a R.length c] (.sl (dR R)) fp) : RR w a R := by
  obtain ⟨a', c', hv, hr, _⟩ := own_ss h
  simp only [Value.slice.injEq] at hv
  obtain ⟨rfl, _, rfl⟩ := hv
  exact hr
def obPB (R : List (List Int)) (first : Int) (o : Ob) : Bool := poB R first o.path o.gray o.x0 o.y0 o.x1 o.y1
def obPR (R : List (List Int)) (first : Int) (o : Ob) : List (List Int) := poR R first o.path o.gray o.x0 o.y0 o.x1 o.y1
theorem obPR_len (R : List (List Int)) (first : Int) (o : Ob) : (obPR R first o).length = R.length := poR_len _ _ _ _ _ _ _ _
theorem pntK_tot (g : Int) (L : Nat → List Ins.Pt) (R : List (List Int)) (k : Nat) : tot (pntK g L R k) = tot R := by
  have : (pntK g L R k).map List.length = R.map List.length := by
    apply List.ext_getElem
    · simp [pntK]
    · intro i h1 h2
      simp only [pntK, List.getElem_map, List.getElem_mapIdx]
      split
      · exact pnt_len _ _ _
      · rfl
  unfold tot; rw [this]
theorem obPR_tot (R : List (List Int)) (first : Int) (o : Ob) : tot (obPR R first o) = tot R := by
  unfold obPR poR
  split
  · exact pntK_tot _ _ _ _
  · rfl
def whN (n : Int) : List (List Int) := if 0 ≤ n ∧ n ≤ 32 then List.replicate n.toNat whiteR else []
theorem tot_rep (k : Nat) : tot (List.replicate k whiteR) = k * 32 := by
  induction k with
  | zero => rfl
  | succ k ih =>
    rw [List.replicate_succ]
    have : tot (whiteR :: List.replicate k whiteR) = whiteR.length + tot (List.replicate k whiteR) := by simp [tot]
    rw [this, ih, whiteR_len]; omega
theorem whN_le (n : Int) : (whN n).length + tot (whN n) ≤ 1048576 := by
  unfold whN; split
  · rw [tot_rep, List.length_replicate]; omega
  · simp [tot]
theorem spec_WhiteRows (w : World) (n : Int) {T : List (List Int)} (h : whN n = T) : Calls Tryz.prog 41 #[.int .i64 n] w (SsNew T w) := by rw [← h]; exact whites_spec w n
theorem impl_WhiteRows (w : World) (n : Int) {T : List (List Int)} (h : whN n = T) : Calls Tryz.prog 29 #[.int .i64 n] w (SsNew T w) := by rw [← h]; exact whites_impl w n
theorem spec_PaintObject (w : World) {ra : Option Addr} {rc : Nat} {R : List (List Int)} {rf : List Nat} (hr : R.length + tot R ≤ 1048576) (hR : Own w KSS [.slice ra R.length rc] (.sl (dR R)) rf) (first : Int) {A : Array Value} {ds : List Dt} {fp : List Nat} (hb : bulkL ds ≤ 1048576) (h : OwnL w LObject A.toList ds fp) :
    Calls Tryz.prog 42 #[.slice ra R.length rc, .int .i64 first, .agg A] w (PoNew (obPR R first (obOf ds)) (obPB R first (obOf ds)) w) := by
  have e := ob_dt h
  rw [e] at hb h
  obtain ⟨a, c, rfl, hp⟩ := Ins.obj_open h
  exact paintobj_spec w ra rc R first a c _ _ _ _ _ _ (Ins.obj_len hb) (by omega) (by omega) (rr_of hR) hp
theorem spec_PaintObject_ (w : World) {ra : Option Addr} {rc : Nat} {R : List (List Int)} {rf : List Nat} (hr : R.length + tot R ≤ 1048576) (hR : Own w KSS [.slice ra R.length rc] (.sl (dR R)) rf) (first : Int) {A : Array Value} {ds : List Dt} {fp : List Nat} (hb : bulkL ds ≤ 1048576) (h : OwnL w LObject A.toList ds fp) {T : List (List Int)} {B : Bool} (hT : obPR R first (obOf ds) = T ∧ obPB R first (obOf ds) = B) :
    Calls Tryz.prog 42 #[.slice ra R.length rc, .int .i64 first, .agg A] w (PoNew T B w) := by
  rw [← hT.1, ← hT.2]; exact spec_PaintObject w hr hR first hb h
theorem cnt0_top {w : World} {ks : List Kd} {cs : List Value} {ds : List Dt} {fp : List Nat} (h : OwnL w ks cs ds fp) (hk : wdL ks ≤ 100) (hb : bulkL ds ≤ 1048576) : cnt0L ds ≤ 104857700 := by
  have h1 := h.cnt_le
  have h2 := cnt0L_le ds
  have h3 := Nat.mul_le_mul_right (1 + bulkL ds) hk
  omega
theorem obPR_le (R : List (List Int)) (first : Int) (o : Ob) (h : R.length + tot R ≤ 1048576) : (obPR R first o).length + tot (obPR R first o) ≤ 1048576 := by
  rw [obPR_len, obPR_tot]; exact h
end Go.Proofs.YtkabofbbioaapaaGreat.Own
namespace Go.Proofs.YtkabofbbioaapaaGreat.Own
open Go.ChangeShapes Go.WideShapes Go.ChangeAt Go.RowKit
open Kit Slabs Ints
open Go.Proofs.YtkabofbbioaapaaGreat.Ins (Pt inS orow obK)
set_option linter.unusedVariables false
set_option linter.unusedSimpArgs false
set_option linter.unnecessarySimpa false
set_option maxRecDepth 100000
theorem rowB_pnt {g : Int} {L : List Pt} {r : List Int} (hg : grayB g = true) (h : rowB r = true) : rowB (pnt g L r) = true := by
  simp only [rowB, Bool.and_eq_true, decide_eq_true_eq, List.all_eq_true] at h ⊢
  refine ⟨by rw [pnt_len]; exact h.1, fun x hx => ?_⟩
  obtain ⟨i, hi, rfl⟩ := List.mem_iff_getElem.1 hx
  simp only [pnt, List.getElem_mapIdx]
  split
  · exact hg
  · exact h.2 _ (List.getElem_mem _)
theorem rowsB_pnO {R : List (List Int)} {o : Ob} (ho : okO o = true) (h : rowsB R = true) : rowsB (pnO R o) = true := by
  have hg : grayB o.gray = true := by simp only [okO, Ins.obK, Bool.and_eq_true] at ho; exact ho.1.2
  simp only [rowsB, Bool.and_eq_true, decide_eq_true_eq, List.all_eq_true] at h ⊢
  refine ⟨by rw [pnO_len]; exact h.1, fun x hx => ?_⟩
  obtain ⟨i, hi, rfl⟩ := List.mem_iff_getElem.1 hx
  simp only [pnO, pntR, pntK, List.getElem_mapIdx]
  split
  · exact rowB_pnt hg (h.2 _ (List.getElem_mem _))
  · exact h.2 _ (List.getElem_mem _)
theorem rowsB_fold (l : List Ob) : ∀ {R : List (List Int)}, l.all okO = true → rowsB R = true → rowsB (l.foldl pnO R) = true := by
  induction l with
  | nil => intro R _ h; exact h
  | cons o l ih =>
    intro R ho h
    rw [List.all_cons, Bool.and_eq_true] at ho
    exact ih ho.2 (rowsB_pnO ho.1 h)
theorem white_rows : rowsB (List.replicate 32 whiteR) = true := by decide
theorem po_one {R : List (List Int)} {o : Ob} (ho : okO o = true) (h : rowsB R = true) : poB R 0 o.path o.gray o.x0 o.y0 o.x1 o.y1 = true ∧ poR R 0 o.path o.gray o.x0 o.y0 o.x1 o.y1 = pnO R o := by
  have h1 : poB R 0 o.path o.gray o.x0 o.y0 o.x1 o.y1 = true := by
    have : obK o.path o.gray o.x0 o.y0 o.x1 o.y1 = true := ho
    simp [poB, h, this]
  exact ⟨h1, by simp [poR, h1, pnO]⟩
theorem tot_32 {R : List (List Int)} (h : ∀ r ∈ R, r.length = 32) : tot R = R.length * 32 := by
  induction R with
  | nil => rfl
  | cons r R ih =>
    have e : tot (r :: R) = r.length + tot R := by simp [tot]
    rw [e, ih (fun x hx => h x (List.mem_cons_of_mem _ hx)), h r (List.mem_cons_self)]
    simp; omega
theorem whites32_spec (w : World) : Calls Tryz.prog 41 #[.int .i64 32] w (SsNew (List.replicate 32 whiteR) w) := by
  have := whites_spec w 32
  rw [if_pos (by omega)] at this
  exact this
/-! ### told of data -/
def obsOf (es : List Dt) : List Ob := es.map fun d => obOf (unS d)
theorem obl_of {w : World} {a : Option Addr} {c : Nat} {es : List Dt} {fp : List Nat} (hb : es.length + bulkL es ≤ 1048576) (h : Own w (.sl KObject) [.slice a es.length c] (.sl es) fp) : ObL w a (obsOf es) := by
  by_cases h0 : es.length = 0
  · have : es = [] := List.eq_nil_of_length_eq_zero h0
    subst this; exact .inl rfl
  · obtain ⟨_, hr⟩ := h.row
    obtain ⟨g, rfl, _⟩ := hr h0
    refine .inr ⟨g, rfl, (h.elt (i := 0) (by omega)).1, fun i hi => ?_⟩
    have hi' : i < es.length := by simpa [obsOf] using hi
    obtain ⟨_, _, cs, ds, fq, ed, od, ld, _, hcell⟩ := h.elt hi'
    have hbk := bulk_elt hi'
    rw [ed] at hbk
    have hbd : bulkL ds ≤ 1048576 := by simp only [Dt.bulk] at hbk; omega
    have e1 : (obsOf es).getD i ob0 = obOf ds := by
      simp only [obsOf, List.getD_eq_getElem?_getD, List.getElem?_map, List.getElem?_eq_getElem hi', Option.map_some, Option.getD_some, ed, unS]
    have e2 := ob_dt od
    have od' : OwnL w LObject cs.toArray.toList (obOf ds).dt fq := by rw [← e2]; simpa using od
    obtain ⟨pa, pc, hA, hp⟩ := Ins.obj_open od'
    rw [e2] at hbd
    refine ⟨pa, pc, fun j u hu => ?_, by rw [e1]; exact hp, by rw [e1]; exact Ins.obj_len hbd⟩
    have hcs : cs = sixo (obOf ds) pa pc := by
      have := congrArg Array.toList hA
      simpa [sixo, sixv] using this
    rw [e1, ← hcs] at hu
    exact hcell w (Below.refl _ _) j u hu
theorem paR_le (l : List Ob) : (paR l).length + tot (paR l) ≤ 1048576 := by
  unfold paR
  split
  · obtain ⟨h1, h2⟩ := fold_32 l white_32.1 white_32.2
    rw [tot_32 h2, h1]; omega
  · simp [tot]
theorem impl_PaintAll_ (w : World) {a : Option Addr} {c : Nat} {es : List Dt} {fp : List Nat} (hb : es.length + bulkL es ≤ 1048576) (h : Own w (.sl KObject) [.slice a es.length c] (.sl es) fp) {T : List (List Int)} {B : Bool} (hT : paR (obsOf es) = T ∧ paB (obsOf es) = B) :
    Calls Tryz.prog 9 #[.slice a es.length c] w (PoNew T B w) := by
  have h1 := paintall_impl w a c (obsOf es) (by simp [obsOf]; omega) (obl_of hb h)
  rw [hT.1, hT.2, show (obsOf es).length = es.length by simp [obsOf]] at h1
  exact h1
theorem came_objs {w : World} {a : Option Addr} {n c : Nat} {d : Dt} (h : Came w (.sl (.st [.sl (.st [.int, .int]), .int, .st [.int, .int, .int, .int]])) [.slice a n c] d) : ∃ es : List Dt, es.length = n ∧ n ≤ maxLen ∧ Came w (.sl KObject) [.slice a n c] (.sl es) := by
  obtain ⟨d', h'⟩ := h.flatten
  have h2 : Came w (.sl KObject) [.slice a n c] d' := h'
  have hl : ∃ es : List Dt, d' = .sl es ∧ es.length = n ∧ n ≤ maxLen := by
    cases h2 with
    | nil a cap hm => exact ⟨[], rfl, rfl, Nat.zero_le _⟩
    | sl h1 h2 h3 h4 h5 h6 => exact ⟨_, rfl, h1, Nat.le_trans h3 h4⟩
  obtain ⟨es, rfl, h3, h4⟩ := hl
  exact ⟨es, h3, h4, h2⟩
theorem objs_cnt {w : World} {v : Value} {es : List Dt} {fp : List Nat} (h : Own w (.sl KObject) [v] (.sl es) fp) (hb : es.length + bulkL es ≤ 1048576) : 1 + cntL es ≤ 1000000000 := by
  have h1 := h.cnt_le
  have h2 : Kd.wd (.sl KObject) ≤ 100 := by decide
  have h3 := Nat.mul_le_mul_right (1 + (Dt.sl es).bulk) h2
  simp only [Dt.cnt, Dt.bulk] at h1 h3
  omega
end Go.Proofs.YtkabofbbioaapaaGreat.Own
namespace Go.Proofs.YtkabofbbioaapaaGreat.Own
open Go.ChangeShapes Go.WideShapes Go.ChangeAt Go.RowKit
open Kit Slabs Ints
open Go.Proofs.YtkabofbbioaapaaGreat.Ins (Pt inS orow obK)
set_option linter.unusedVariables false
set_option linter.unusedSimpArgs false
set_option linter.unnecessarySimpa false
set_option maxRecDepth 100000
theorem pnF_bad {f : Int} {o : Ob} (h : okO o = false) (R : List (List Int)) : pnF f R o = R := by
  have hnone : ∀ k, rowsL o.path o.gray o.x0 o.y0 o.x1 o.y1 f k = [] := by
    intro k
    unfold rowsL Ins.orow
    rw [show Ins.obx o.path o.gray o.x0 o.y0 o.x1 o.y1 = ⟨0, 0, 0, 0⟩ from Ins.obx_no h, if_neg]
    rintro ⟨h1, h2⟩
    have h1' : (0 : Int) ≤ f + k := h1
    have h2' : f + (k : Int) < 0 := h2
    omega
  unfold pnF pntR pntK
  apply List.ext_getElem
  · simp
  · intro i h1 h2
    rw [List.getElem_mapIdx, if_pos h2, hnone i, pnt_nil]
theorem rowsB_pnF {f : Int} {R : List (List Int)} {o : Ob} (h : rowsB R = true) : rowsB (pnF f R o) = true := by
  cases ho : okO o
  · rw [pnF_bad ho]; exact h
  · have hg : grayB o.gray = true := by simp only [okO, Ins.obK, Bool.and_eq_true] at ho; exact ho.1.2
    simp only [rowsB, Bool.and_eq_true, decide_eq_true_eq, List.all_eq_true] at h ⊢
    refine ⟨by rw [pnF_len]; exact h.1, fun x hx => ?_⟩
    obtain ⟨i, hi, rfl⟩ := List.mem_iff_getElem.1 hx
    simp only [pnF, pntR, pntK, List.getElem_mapIdx]
    split
    · exact rowB_pnt hg (h.2 _ (List.getElem_mem _))
    · exact h.2 _ (List.getElem_mem _)
theorem rowsB_foldF (f : Int) (l : List Ob) : ∀ {R : List (List Int)}, rowsB R = true → rowsB (l.foldl (pnF f) R) = true := by
  induction l with
  | nil => intro R h; exact h
  | cons o l ih => intro R h; exact ih (rowsB_pnF h)
theorem whR_rows {ht : Int} (h : ht ≤ 32) : rowsB (whR ht) = true := by
  simp only [rowsB, Bool.and_eq_true, decide_eq_true_eq, List.all_eq_true]
  refine ⟨by rw [whR_len]; omega, fun x hx => ?_⟩
  rw [(List.mem_replicate.1 hx).2]; decide
theorem poR_F {f : Int} {R : List (List Int)} (o : Ob) (h : rowsB R = true) (hf : 0 ≤ f ∧ f ≤ 32) : poR R f o.path o.gray o.x0 o.y0 o.x1 o.y1 = pnF f R o := by
  cases ho : okO o
  · rw [pnF_bad ho]
    have : obK o.path o.gray o.x0 o.y0 o.x1 o.y1 = false := ho
    simp [poR, poB, this]
  · have : obK o.path o.gray o.x0 o.y0 o.x1 o.y1 = true := ho
    simp [poR, poB, this, h, hf, pnF]
theorem whitesh_spec (w : World) (ht : Int) (h : 0 < ht ∧ ht ≤ 32) : Calls Tryz.prog 41 #[.int .i64 ht] w (SsNew (whR ht) w) := by
  have := whites_spec w ht
  rw [if_pos (by omega)] at this
  exact this
set_option maxHeartbeats 4000000 in
theorem render_spec (w : World) (a : Option Addr) (c : Nat) (l : List Ob) (ht bd : Int) (hn : l.length ≤ 1048576) (h : ObL w a l) :
    Calls Tryz.prog 15 #[.slice a l.length c, .int .i64 ht, .int .i64 bd] w (SsNew (rbR ht bd l) w) := by
  have HP := Lib.hid h
  obtain ⟨n, hN⟩ : ∃ n, l.length = n := ⟨_, rfl⟩
  have HN := Lib.hid hN
  have HI := Lib.hid (fun W => l12ok_spec ht bd W)
  rw [hN] at hn ⊢
  clear hN h
  cases hb : bnB ht bd
  · rw [hb] at HI
    have HV := Lib.hid (show rbR ht bd l = [] from by simp [rbR, hb])
    clear hb
    go_enter Tryz.func15, Tryz.ntmps15
    go_wp2_with fail
    ((with_reducible refine (HI.out _).mono ?_); rintro e w1 ⟨rfl, bb⟩)
    have HB := Lib.hid bb
    clear bb
    go_wp2
    go_ret
    rw [HV.out]
    exact ss_nil _ _ _ _ (by have := HB.out; have := this.size; go_grown)
  · obtain ⟨b0, b1, b2, b3, b4, b5⟩ := bn_rows hb
    have e1 : IntKind.i64.wrap (bd * ht) = bd * ht := IntWalk.i64_in _ ⟨by omega, by omega⟩
    have HW := Lib.hid (fun W => whitesh_spec W ht ⟨b1, b2⟩)
    have HV := Lib.hid (show rbR ht bd l = l.foldl (pnF (bd * ht)) (whR ht) from by simp [rbR, hb])
    have HL := Lib.hid (And.intro (whR_len ht) (And.intro (whR_32 ht) (whR_rows b2)))
    obtain ⟨m, rfl⟩ : ∃ m : Nat, ht = (m : Int) := ⟨ht.toNat, by omega⟩
    have hm : m ≤ 32 := by omega
    rw [hb] at HI
    generalize hf : bd * (m : Int) = f at *
    rw [Int.toNat_natCast] at HL
    generalize whR (m : Int) = R0 at *
    have HF := Lib.hid (show 0 ≤ f ∧ f ≤ 32 from ⟨b3, by omega⟩)
    clear hb
    go_enter Tryz.func15, Tryz.ntmps15
    go_wp2_with fail
    ((with_reducible refine (HI.out _).mono ?_); rintro e w1 ⟨rfl, bb⟩)
    have HB := Lib.hid bb
    clear bb
    go_wp2_with fail
    ((with_reducible refine (HW.out _).mono ?_); rintro e w2 ⟨ra, rc, fp, rfl, ho, hnd, hge, bb⟩)
    have hs1 := HB.out.size
    rw [HL.out.1] at ho ⊢
    have HO := Lib.hid (And.intro hnd (And.intro (show ∀ b ∈ fp, w.heap.size ≤ b from fun b hb => Nat.le_trans hs1 (hge b hb)) (And.intro ho (on_of HB.out bb))))
    clear ho hnd hge bb
    go_wp2
    go_loopw [7, 8] (fun v7 v8 wr => ∃ (k : Nat) (ra : Option Addr) (rc : Nat) (fp : List Nat), k ≤ n ∧ v8 = .int .i64 (k : Int) ∧ v7 = .slice ra m rc ∧ Hid (Own wr KSS [.slice ra m rc] (.sl (dR ((l.take k).foldl (pnF f) R0))) fp ∧ fp.Nodup ∧ (∀ b ∈ fp, w.heap.size ≤ b) ∧ Below w.heap.size w wr)) (fun v7 v8 _ => n - (intOf v8).toNat)
    case atStart => exact ⟨0, ra, rc, fp, Nat.zero_le _, rfl, rfl, Lib.hid ⟨HO.out.2.2.1, HO.out.1, HO.out.2.1, HO.out.2.2.2⟩⟩
    case round =>
      obtain ⟨k, ra, rc, fp, hk, rfl, rfl, hI⟩ := hrel
      by_cases hlt : k < n
      · have hkl : k < l.length := by rw [HN.out]; exact hlt
        obtain ⟨g, rfl, hg, hc⟩ := HP.out.some (by rw [HN.out]; omega)
        obtain ⟨pa, pc, h6, hpa, hpl⟩ := hc k hkl
        have htk : (l.take (k + 1)).foldl (pnF f) R0 = pnF f ((l.take k).foldl (pnF f) R0) (l.getD k ob0) := by
          rw [List.take_succ_eq_append_getElem hkl, List.foldl_append]
          simp [List.getD, List.getElem?_eq_getElem hkl]
        obtain ⟨f1, f2⟩ := foldF f (l.take k) HL.out.1 HL.out.2.1
        have hrb := rowsB_foldF f (l.take k) HL.out.2.2
        obtain ⟨o, hx⟩ : ∃ o, l.getD k ob0 = o := ⟨_, rfl⟩
        rw [hx] at h6 hpa hpl htk
        obtain ⟨R, hR⟩ : ∃ R, (l.take k).foldl (pnF f) R0 = R := ⟨_, rfl⟩
        rw [hR] at f1 f2 htk hI hrb
        have htot := tot_32 f2
        have up : ∀ j u, (sixo o pa pc)[j]? = some u → wr.cell? ⟨g, k * 6 + j, none⟩ = some u := fun j u hu => (hI.out.2.2.2.cell (p := ⟨g, k * 6 + j, none⟩) hg).trans (h6 j u hu)
        have q0 : wr.cell? ⟨g, k * 6, none⟩ = some (.slice pa o.path.length pc) := up 0 _ rfl
        have q1 : wr.cell? ⟨g, k * 6 + 1, none⟩ = some (.int .i64 o.gray) := up 1 _ rfl
        have q2 : wr.cell? ⟨g, k * 6 + 2, none⟩ = some (.int .i64 o.x0) := up 2 _ rfl
        have q3 : wr.cell? ⟨g, k * 6 + 3, none⟩ = some (.int .i64 o.y0) := up 3 _ rfl
        have q4 : wr.cell? ⟨g, k * 6 + 4, none⟩ = some (.int .i64 o.x1) := up 4 _ rfl
        have q5 : wr.cell? ⟨g, k * 6 + 5, none⟩ = some (.int .i64 o.y1) := up 5 _ rfl
        have hPt := paintobj_spec wr ra rc R f pa pc o.path o.gray o.x0 o.y0 o.x1 o.y1 hpl (by omega) (by omega) (rr_of (c := rc) (fp := fp) (by rw [f1]; exact hI.out.1)) (hpa.on hI.out.2.2.2)
        rw [poR_F o hrb HF.out, f1] at hPt
        generalize poB R f o.path o.gray o.x0 o.y0 o.x1 o.y1 = okv at hPt
        have HPt := Lib.hid hPt
        have HX := Lib.hid (And.intro htk (show (pnF f R o).length = m by rw [pnF_len]; exact f1))
        have i0 : (0 : Int) ≤ (k : Int) := by omega
        have i1 : (k : Int) < (n : Int) := by omega
        have hgl : g < wr.heap.size := Nat.lt_of_lt_of_le hg hI.out.2.2.2.size
        clear hx hR up hpa hpl h6 hc hPt f1 f2 htk hrb htot
        go_wp2_with fail
        clear q0 q1 q2 q3 q4 q5
        ((with_reducible refine (HPt.out).mono ?_); rintro e w3 ⟨a3, c3, f3, rfl, ho3, hn3, hg3, bb⟩)
        rw [HX.out.2] at ho3 ⊢
        have hsz := hI.out.2.2.2.size
        have HI2 := Lib.hid (show Own w3 KSS [.slice a3 m c3] (.sl (dR ((l.take (k + 1)).foldl (pnF f) R0))) f3 ∧ f3.Nodup ∧ (∀ b ∈ f3, w.heap.size ≤ b) ∧ Below w.heap.size w w3 from ⟨by rw [HX.out.1]; exact ho3, hn3, fun b hb => Nat.le_trans hsz (hg3 b hb), on_of hI.out.2.2.2 bb⟩)
        clear ho3 hn3 hg3 bb HPt
        go_wp2
        go_roundw
        case rel => exact ⟨k + 1, a3, c3, f3, by omega, by go_num, rfl, HI2⟩
        case measure => simp [intOf]; omega
      · obtain rfl : k = n := by omega
        have htk : l.take k = l := by rw [← HN.out, List.take_length]
        rw [htk] at hI
        have hl32 := (foldF f l HL.out.1 HL.out.2.1).1
        have HR := Lib.hid (show SsNew (rbR (m : Int) bd l) w (.returned (.slice ra m rc)) wr from by
          rw [HV.out]
          exact ⟨ra, rc, fp, by rw [hl32], by rw [hl32]; exact hI.out.1, hI.out.2.1, hI.out.2.2.1, hI.out.2.2.2⟩)
        clear hl32 htk
        go_wp2
        go_ret
        exact HR.out
theorem rbR_le (ht bd : Int) (l : List Ob) : (rbR ht bd l).length + tot (rbR ht bd l) ≤ 1048576 := by
  unfold rbR
  split
  · rename_i hb
    obtain ⟨b0, b1, b2, b3, b4, b5⟩ := bn_rows hb
    obtain ⟨h1, h2⟩ := foldF (bd * ht) l (whR_len ht) (whR_32 ht)
    rw [tot_32 h2, h1]; omega
  · simp [tot]
theorem impl_RenderBand_ (w : World) {a : Option Addr} {c : Nat} {es : List Dt} {fp : List Nat} (hb : es.length + bulkL es ≤ 1048576) (h : Own w (.sl KObject) [.slice a es.length c] (.sl es) fp) (ht bd : Int) {T : List (List Int)} {B : Bool} (hT : rbR ht bd (obsOf es) = T ∧ true = B) :
    Calls Tryz.prog 17 #[.slice a es.length c, .int .i64 ht, .int .i64 bd] w (SsNew T w) := by
  have h1 := render_impl w a c (obsOf es) ht bd (by simp [obsOf]; omega) (obl_of hb h)
  rw [hT.1, show (obsOf es).length = es.length by simp [obsOf]] at h1
  exact h1
theorem spec_RenderBand_ (w : World) {a : Option Addr} {c : Nat} {es : List Dt} {fp : List Nat} (hb : es.length + bulkL es ≤ 1048576) (h : Own w (.sl KObject) [.slice a es.length c] (.sl es) fp) (ht bd : Int) {T : List (List Int)} {B : Bool} (hT : rbR ht bd (obsOf es) = T ∧ true = B) :
    Calls Tryz.prog 15 #[.slice a es.length c, .int .i64 ht, .int .i64 bd] w (SsNew T w) := by
  have h1 := render_spec w a c (obsOf es) ht bd (by simp [obsOf]; omega) (obl_of hb h)
  rw [hT.1, show (obsOf es).length = es.length by simp [obsOf]] at h1
  exact h1
end Go.Proofs.YtkabofbbioaapaaGreat.Own
