/-
  Texts of this seat, laid together: Lw11, Sp11, EqBO, SzBO
-/
import Derived.WalkKit
import Derived.Deep.DeepCutAuto
import Derived.Deep.QuietTactic
import Derived.BigQuiet
import Derived.Deep.RegionHeld3
import Derived.Handy
import Derived.Test.YtkabofbbioaapaaP36
import Derived.Test.YtkabofbbioaapaaP37
import Derived.Test.YtkabofbbioaapaaP32
namespace Go.Proofs.Ytkabofbbioaapaa.Own
open Go.ChangeShapes Go.WideShapes Go.ChangeAt Go.RowKit
open Kit Slabs Ints
set_option linter.unusedVariables false
set_option linter.unusedSimpArgs false
set_option linter.unnecessarySimpa false
theorem rr_of {w : World} {a : Option Addr} {c : Nat} {R : List (List Int)} {fp : List Nat} (h : Own w KSS [.slice a R.length c] (.sl (dR R)) fp) : RR w a R := by
  obtain ⟨a', c', hv, hr, _⟩ := own_ss h
  simp only [Value.slice.injEq] at hv
  obtain ⟨rfl, _, rfl⟩ := hv
  exact hr
def obPB (R : List (List Int)) (first : Int) (o : Ob) : Bool := poB R first o.path o.gray o.x0 o.y0 o.x1 o.y1
def obPR (R : List (List Int)) (first : Int) (o : Ob) : List (List Int) := poR R first o.path o.gray o.x0 o.y0 o.x1 o.y1
theorem obPR_len (R : List (List Int)) (first : Int) (o : Ob) : (obPR R first o).length = R.length := poR_len _ _ _ _ _ _ _ _
theorem pntK_tot (g : Int) (L : Nat → List Ins.Pt) (R : List (List Int)) (k : Nat) : tot (pntK g L R k) = tot R := by
  have : (pntK g L R k).map List.length = R.map List.length := by
    apply List.ext_getElem
    · simp [pntK]
    · intro i h1 h2
      simp only [pntK, List.getElem_map, List.getElem_mapIdx]
      split
      · exact pnt_len _ _ _
      · rfl
  unfold tot; rw [this]
theorem obPR_tot (R : List (List Int)) (first : Int) (o : Ob) : tot (obPR R first o) = tot R := by
  unfold obPR poR
  split
  · exact pntK_tot _ _ _ _
  · rfl
def whN (n : Int) : List (List Int) := if 0 ≤ n ∧ n ≤ 32 then List.replicate n.toNat whiteR else []
theorem tot_rep (k : Nat) : tot (List.replicate k whiteR) = k * 32 := by
  induction k with
  | zero => rfl
  | succ k ih =>
    rw [List.replicate_succ]
    have : tot (whiteR :: List.replicate k whiteR) = whiteR.length + tot (List.replicate k whiteR) := by simp [tot]
    rw [this, ih, whiteR_len]; omega
theorem whN_le (n : Int) : (whN n).length + tot (whN n) ≤ 1048576 := by
  unfold whN; split
  · rw [tot_rep, List.length_replicate]; omega
  · simp [tot]
theorem impl_WhiteRows (w : World) (n : Int) {T : List (List Int)} (h : whN n = T) : Calls Try.prog 16 #[.int .i64 n] w (SsNew T w) := by rw [← h]; exact whites_impl w n
theorem cnt0_top {w : World} {ks : List Kd} {cs : List Value} {ds : List Dt} {fp : List Nat} (h : OwnL w ks cs ds fp) (hk : wdL ks ≤ 100) (hb : bulkL ds ≤ 1048576) : cnt0L ds ≤ 104857700 := by
  have h1 := h.cnt_le
  have h2 := cnt0L_le ds
  have h3 := Nat.mul_le_mul_right (1 + bulkL ds) hk
  omega
theorem obPR_le (R : List (List Int)) (first : Int) (o : Ob) (h : R.length + tot R ≤ 1048576) : (obPR R first o).length + tot (obPR R first o) ≤ 1048576 := by
  rw [obPR_len, obPR_tot]; exact h
end Go.Proofs.Ytkabofbbioaapaa.Own
namespace Go.Proofs.Ytkabofbbioaapaa.Own
open Go.ChangeShapes Go.WideShapes Go.ChangeAt Go.RowKit
open Kit Slabs Ints
open Go.Proofs.Ytkabofbbioaapaa.Ins (Pt inS orow obK)
set_option linter.unusedVariables false
set_option linter.unusedSimpArgs false
set_option linter.unnecessarySimpa false
set_option maxRecDepth 100000
theorem rowB_pnt {g : Int} {L : List Pt} {r : List Int} (hg : grayB g = true) (h : rowB r = true) : rowB (pnt g L r) = true := by
  simp only [rowB, Bool.and_eq_true, decide_eq_true_eq, List.all_eq_true] at h ⊢
  refine ⟨by rw [pnt_len]; exact h.1, fun x hx => ?_⟩
  obtain ⟨i, hi, rfl⟩ := List.mem_iff_getElem.1 hx
  simp only [pnt, List.getElem_mapIdx]
  split
  · exact hg
  · exact h.2 _ (List.getElem_mem _)
theorem rowsB_pnO {R : List (List Int)} {o : Ob} (ho : okO o = true) (h : rowsB R = true) : rowsB (pnO R o) = true := by
  have hg : grayB o.gray = true := by simp only [okO, Ins.obK, Bool.and_eq_true] at ho; exact ho.1.2
  simp only [rowsB, Bool.and_eq_true, decide_eq_true_eq, List.all_eq_true] at h ⊢
  refine ⟨by rw [pnO_len]; exact h.1, fun x hx => ?_⟩
  obtain ⟨i, hi, rfl⟩ := List.mem_iff_getElem.1 hx
  simp only [pnO, pntR, pntK, List.getElem_mapIdx]
  split
  · exact rowB_pnt hg (h.2 _ (List.getElem_mem _))
  · exact h.2 _ (List.getElem_mem _)
theorem rowsB_fold (l : List Ob) : ∀ {R : List (List Int)}, l.all okO = true → rowsB R = true → rowsB (l.foldl pnO R) = true := by
  induction l with
  | nil => intro R _ h; exact h
  | cons o l ih =>
    intro R ho h
    rw [List.all_cons, Bool.and_eq_true] at ho
    exact ih ho.2 (rowsB_pnO ho.1 h)
theorem white_rows : rowsB (List.replicate 32 whiteR) = true := by decide
theorem po_one {R : List (List Int)} {o : Ob} (ho : okO o = true) (h : rowsB R = true) : poB R 0 o.path o.gray o.x0 o.y0 o.x1 o.y1 = true ∧ poR R 0 o.path o.gray o.x0 o.y0 o.x1 o.y1 = pnO R o := by
  have h1 : poB R 0 o.path o.gray o.x0 o.y0 o.x1 o.y1 = true := by
    have : obK o.path o.gray o.x0 o.y0 o.x1 o.y1 = true := ho
    simp [poB, h, this]
  exact ⟨h1, by simp [poR, h1, pnO]⟩
theorem tot_32 {R : List (List Int)} (h : ∀ r ∈ R, r.length = 32) : tot R = R.length * 32 := by
  induction R with
  | nil => rfl
  | cons r R ih =>
    have e : tot (r :: R) = r.length + tot R := by simp [tot]
    rw [e, ih (fun x hx => h x (List.mem_cons_of_mem _ hx)), h r (List.mem_cons_self)]
    simp; omega
/-! ### told of data -/
def obsOf (es : List Dt) : List Ob := es.map fun d => obOf (unS d)
theorem obl_of {w : World} {a : Option Addr} {c : Nat} {es : List Dt} {fp : List Nat} (hb : es.length + bulkL es ≤ 1048576) (h : Own w (.sl KObject) [.slice a es.length c] (.sl es) fp) : ObL w a (obsOf es) := by
  by_cases h0 : es.length = 0
  · have : es = [] := List.eq_nil_of_length_eq_zero h0
    subst this; exact .inl rfl
  · obtain ⟨_, hr⟩ := h.row
    obtain ⟨g, rfl, _⟩ := hr h0
    refine .inr ⟨g, rfl, (h.elt (i := 0) (by omega)).1, fun i hi => ?_⟩
    have hi' : i < es.length := by simpa [obsOf] using hi
    obtain ⟨_, _, cs, ds, fq, ed, od, ld, _, hcell⟩ := h.elt hi'
    have hbk := bulk_elt hi'
    rw [ed] at hbk
    have hbd : bulkL ds ≤ 1048576 := by simp only [Dt.bulk] at hbk; omega
    have e1 : (obsOf es).getD i ob0 = obOf ds := by
      simp only [obsOf, List.getD_eq_getElem?_getD, List.getElem?_map, List.getElem?_eq_getElem hi', Option.map_some, Option.getD_some, ed, unS]
    have e2 := ob_dt od
    have od' : OwnL w LObject cs.toArray.toList (obOf ds).dt fq := by rw [← e2]; simpa using od
    obtain ⟨pa, pc, hA, hp⟩ := Ins.obj_open od'
    rw [e2] at hbd
    refine ⟨pa, pc, fun j u hu => ?_, by rw [e1]; exact hp, by rw [e1]; exact Ins.obj_len hbd⟩
    have hcs : cs = sixo (obOf ds) pa pc := by
      have := congrArg Array.toList hA
      simpa [sixo, sixv] using this
    rw [e1, ← hcs] at hu
    exact hcell w (Below.refl _ _) j u hu
theorem paR_le (l : List Ob) : (paR l).length + tot (paR l) ≤ 1048576 := by
  unfold paR
  split
  · obtain ⟨h1, h2⟩ := fold_32 l white_32.1 white_32.2
    rw [tot_32 h2, h1]; omega
  · simp [tot]
theorem came_objs {w : World} {a : Option Addr} {n c : Nat} {d : Dt} (h : Came w (.sl (.st [.sl (.st [.int, .int]), .int, .st [.int, .int, .int, .int]])) [.slice a n c] d) : ∃ es : List Dt, es.length = n ∧ n ≤ maxLen ∧ Came w (.sl KObject) [.slice a n c] (.sl es) := by
  obtain ⟨d', h'⟩ := h.flatten
  have h2 : Came w (.sl KObject) [.slice a n c] d' := h'
  have hl : ∃ es : List Dt, d' = .sl es ∧ es.length = n ∧ n ≤ maxLen := by
    cases h2 with
    | nil a cap hm => exact ⟨[], rfl, rfl, Nat.zero_le _⟩
    | sl h1 h2 h3 h4 h5 h6 => exact ⟨_, rfl, h1, Nat.le_trans h3 h4⟩
  obtain ⟨es, rfl, h3, h4⟩ := hl
  exact ⟨es, h3, h4, h2⟩
theorem objs_cnt {w : World} {v : Value} {es : List Dt} {fp : List Nat} (h : Own w (.sl KObject) [v] (.sl es) fp) (hb : es.length + bulkL es ≤ 1048576) : 1 + cntL es ≤ 1000000000 := by
  have h1 := h.cnt_le
  have h2 : Kd.wd (.sl KObject) ≤ 100 := by decide
  have h3 := Nat.mul_le_mul_right (1 + (Dt.sl es).bulk) h2
  simp only [Dt.cnt, Dt.bulk] at h1 h3
  omega
end Go.Proofs.Ytkabofbbioaapaa.Own
namespace Go.Proofs.Ytkabofbbioaapaa.Own
open Go.ChangeShapes Go.WideShapes Go.ChangeAt Go.RowKit
open Kit Slabs Ints
set_option linter.unusedVariables false
set_option linter.unusedSimpArgs false
set_option linter.unnecessarySimpa false
set_option maxRecDepth 100000
attribute [local go_sem ↓] hload_Object
set_option maxHeartbeats 4000000 in
theorem eq_ObjectS (w : World) {a1 a2 : Option Addr} {n1 n2 p1 p2 : Nat} {es : List Dt} {f1 f2 : List Nat} (hb : es.length + bulkL es ≤ 1048576) (h1 : Own w (.sl KObject) [.slice a1 n1 p1] (.sl es) f1) (h2 : Own w (.sl KObject) [.slice a2 n2 p2] (.sl es) f2) :
    Calls Try.prog 27 #[.slice a1 n1 p1, .slice a2 n2 p2] w fun e w' => e = .returned (.bool true) ∧ Below w.heap.size w w' := by
  obtain ⟨e1, r1⟩ := h1.row
  obtain ⟨e2, r2⟩ := h2.row
  obtain ⟨n, hn⟩ : ∃ n, es.length = n := ⟨_, rfl⟩
  obtain rfl : n1 = n := e1.symm.trans hn
  obtain rfl : n2 = n1 := e2.symm.trans hn
  by_cases h0 : n2 = 0
  · subst h0
    clear h1 h2 r1 r2
    go_enter Try.func27, Try.ntmps27
    go_wp2
    go_loopw [5] (fun i wr => i = .int .i64 0 ∧ Below w.heap.size w wr) (fun _ _ => 0)
    case atStart => exact ⟨rfl, Below.refl _ _⟩
    case round =>
      obtain ⟨rfl, hbel⟩ := hrel
      go_wp2
      go_ret
      exact ⟨rfl, hbel⟩
  · obtain ⟨g1, rfl, _⟩ := r1 h0
    obtain ⟨g2, rfl, _⟩ := r2 h0
    have H := Lib.hid (And.intro h1 h2)
    have hn2 : n2 ≤ 1048576 := by omega
    have HN := Lib.hid (And.intro hn hb)
    clear h1 h2 r1 r2 e1 e2 hb hn
    go_enter Try.func27, Try.ntmps27
    go_wp2
    go_loopw [5] (fun i wr => ∃ k : Nat, k ≤ n2 ∧ i = .int .i64 (k : Int) ∧ Below w.heap.size w wr) (fun i _ => n2 - (intOf i).toNat)
    case atStart => exact ⟨0, Nat.zero_le _, rfl, Below.refl _ _⟩
    case round =>
      obtain ⟨k, hk, rfl, hbel⟩ := hrel
      by_cases hlt : k < n2
      · have hke : k < es.length := by rw [HN.out.1]; exact hlt
        obtain ⟨hg1, _, c1, d1, q1, ed1, o1, l1, _, s1⟩ := H.out.1.elt hke
        obtain ⟨hg2, _, c2, d2, q2, ed2, o2, l2, _, s2⟩ := H.out.2.elt hke
        rw [ed1] at ed2
        injection ed2 with ed2
        subst ed2
        have hbk := bulk_elt hke
        rw [ed1] at hbk
        have hbk2 : bulkL d1 ≤ 1048576 := by simp only [Dt.bulk] at hbk; have := HN.out.2; omega
        have L1 := Lib.hid (fun W hW => hload_run (P := Try.prog) (t := 28) Try.isAgg28 Try.sizeOf28 (w := W) (b := g1) (o := k * 6) (us := c1) (s1 W hW) l1)
        have L2 := Lib.hid (fun W hW => hload_run (P := Try.prog) (t := 28) Try.isAgg28 Try.sizeOf28 (w := W) (b := g2) (o := k * 6) (us := c2) (s2 W hW) l2)
        have HE := Lib.hid (And.intro o1 o2)
        have i0 : (0 : Int) ≤ (k : Int) := by omega
        have i1 : (k : Int) < (n2 : Int) := by omega
        obtain ⟨C1, hC1⟩ : ∃ C, c1.toArray = C := ⟨_, rfl⟩
        obtain ⟨C2, hC2⟩ : ∃ C, c2.toArray = C := ⟨_, rfl⟩
        rw [hC1] at L1
        rw [hC2] at L2
        have t1 : C1.toList = c1 := by rw [← hC1]
        have t2 : C2.toList = c2 := by rw [← hC2]
        rw [← t1, ← t2] at HE
        clear o1 o2 s1 s2 ed1 hbk l1 l2 hC1 hC2 t1 t2 hg1 hg2 hke
        go_wp2_with fail
        go_region_held3 (fun w' => (hload 28 ⟨g1, k * 6, none⟩).run Try.prog w' = .ok (.agg C1) w' ∧ (hload 28 ⟨g2, k * 6, none⟩).run Try.prog w' = .ok (.agg C2) w' ∧ Below w.heap.size w w') (first | exact ⟨L1.out _ hB, L2.out _ hB, hB⟩ | exact ⟨L1.out _ (by go_grown), L2.out _ (by go_grown), by go_grown⟩)
          ((go_at_call 23; (with_reducible refine (eq_Object _ hbk2 (HE.out.1.under (by go_grown)) (HE.out.2.under (by go_grown))).mono ?_); rintro e w' ⟨rfl, hb⟩; have hB := on_of (W := w) (by go_grown) hb))
        go_wp2
        go_roundw
        case rel => exact ⟨k + 1, by omega, by go_num, hB⟩
        case measure => simp [intOf]; omega
      · obtain rfl : k = n2 := by omega
        go_wp2
        go_ret
        exact ⟨rfl, hbel⟩
end Go.Proofs.Ytkabofbbioaapaa.Own
namespace Go.Proofs.Ytkabofbbioaapaa.Own
open Go.ChangeShapes Go.WideShapes Go.ChangeAt Go.RowKit
open Kit Slabs Ints
set_option linter.unusedVariables false
set_option linter.unusedSimpArgs false
set_option linter.unnecessarySimpa false
set_option maxRecDepth 100000
attribute [local go_sem ↓] hloadL_Object
set_option maxHeartbeats 4000000 in
theorem sz_ObjectS (w : World) {a : Option Addr} {c : Nat} {es : List Dt} (h : Came w (.sl KObject) [.slice a es.length c] (.sl es)) (hm : es.length ≤ maxLen) (l : Int) (l0 : 0 ≤ l) (l1 : l ≤ 1048576) :
    Calls Try.prog 24 #[.slice a es.length c, .int .i64 l] w fun e w' => e = .returned (.int .i64 (szv l (es.length + bulkL es))) ∧ Below w.heap.size w w' := by
  obtain ⟨_, hr⟩ := h.row
  obtain ⟨n, hn⟩ : ∃ n, es.length = n := ⟨_, rfl⟩
  rw [hn] at hr hm h ⊢
  have hm2 : n ≤ 9223372036854775807 := by unfold maxLen at hm; omega
  clear hm
  by_cases c0 : l - (n : Int) < 0
  · have hz : szv l n = -1 := by unfold szv; rw [if_pos c0]
    have HZ := Lib.hid (szv_neg (b := bulkL es) l0 (by rw [hz]; omega))
    clear hr h hz
    go_enter Try.func24, Try.ntmps24
    go_wp2
    go_ret
    exact ⟨ret_int HZ.out.symm, Below.refl _ _⟩
  · have hz : szv l n = l - (n : Int) := by unfold szv; rw [if_neg c0]
    have H := Lib.hid h
    have HN := Lib.hid hn
    have hn1 : n ≤ 1048576 := by omega
    have HR : n ≠ 0 → ∃ g o, a = some ⟨g, o, none⟩ ∧ g < w.heap.size := hr
    have ha : n = 0 ∨ ∃ g o, a = some ⟨g, o, none⟩ := by
      by_cases h0 : n = 0
      · exact .inl h0
      · obtain ⟨g, o, h1, _⟩ := hr h0; exact .inr ⟨g, o, h1⟩
    have HZ := Lib.hid hz
    clear h hr hz HR hn
    rcases ha with rfl | ⟨g, o, rfl⟩
    · have hes : es = [] := List.eq_nil_of_length_eq_zero HN.out
      subst hes
      have HT := Lib.hid (show szv l (0 + bulkL []) = l by simp [szv, bulkL]; omega)
      clear H HN HZ
      go_enter Try.func24, Try.ntmps24
      go_wp2
      go_rounds 1
      go_ret
      exact ⟨ret_int (by rw [HT.out]), Below.refl _ _⟩
    · go_enter Try.func24, Try.ntmps24
      go_wp2
      go_loopw [1, 5] (fun v1 i wr => ∃ (k : Nat) (y : Int), k ≤ n ∧ i = .int .i64 (k : Int) ∧ v1 = .int .i64 y ∧ 0 ≤ y ∧ y ≤ 1048576 ∧ szv l (n + bulkL (es.take k)) = y ∧ Below w.heap.size w wr) (fun _ i _ => n - (intOf i).toNat)
      case atStart => exact ⟨0, l - (n : Int), Nat.zero_le _, rfl, rfl, by omega, by omega, by rw [List.take_zero]; simp only [bulkL, Nat.add_zero]; exact HZ.out, Below.refl _ _⟩
      case round =>
        obtain ⟨k, y, hk, rfl, rfl, y0, y1, hy, hbel⟩ := hrel
        by_cases hlt : k < n
        · have hke : k < es.length := by rw [HN.out]; exact hlt
          obtain ⟨hg, cs, ds, ed, od, ld, sd⟩ := H.out.elt hke
          have htk := take_bulk hke
          rw [ed] at htk
          simp only [Dt.bulk] at htk
          have hpart := bulk_parts es (k + 1)
          obtain ⟨C, hC⟩ : ∃ C, cs.toArray = C := ⟨_, rfl⟩
          have tC : C.toList = cs := by rw [← hC]
          have L1 := hload_run (P := Try.prog) (t := 43) Try.isAgg43 Try.sizeOf43 (w := wr) (b := g) (o := o + k * 6) (us := cs) (sd wr hbel) ld
          rw [hC] at L1
          rw [← tC] at od
          have HO := Lib.hid (od.on hbel)
          have i0 : (0 : Int) ≤ (k : Int) := by omega
          have i1 : (k : Int) < (n : Int) := by omega
          obtain ⟨z, hz⟩ : ∃ z, szv y (bulkL ds) = z := ⟨_, rfl⟩
          have hz2 : szv l (n + bulkL (es.take (k + 1))) = z := by rw [htk, ← Nat.add_assoc, ← szv_add (by rw [hy]; exact y0), hy, hz]
          have hzl : z ≤ 1048576 := by have := szv_le (a := bulkL ds) y0; omega
          have hneg : z < 0 → szv l (n + bulkL es) = -1 := fun hc => by rw [hpart, ← Nat.add_assoc]; exact szv_neg l0 (by rw [hz2]; exact hc)
          have hm1 : z < 0 → z = -1 := fun hc => by rw [← hz] at hc ⊢; unfold szv at hc ⊢; split at hc <;> first | rfl | omega
          have HF := Lib.hid (And.intro hz (And.intro hz2 (And.intro hneg hm1)))
          clear od sd ed ld hke hC tC htk hpart hz hz2 hneg hm1 hy
          by_cases c1 : z < 0
          · go_wp2_with (go_at_call 20; (with_reducible refine (sz_Object _ HO.out y y0 y1).mono ?_); rintro e w' ⟨rfl, hb⟩; rw [HF.out.1]; have hB := on_of hbel hb; clear hb)
            go_ret
            exact ⟨ret_int (HF.out.2.2.1 c1).symm, hB⟩
          · have z0 : 0 ≤ z := by omega
            go_wp2_with (go_at_call 20; (with_reducible refine (sz_Object _ HO.out y y0 y1).mono ?_); rintro e w' ⟨rfl, hb⟩; rw [HF.out.1]; have hB := on_of hbel hb; clear hb)
            go_roundw
            case rel => exact ⟨k + 1, z, by omega, by go_num, rfl, z0, hzl, HF.out.2.1, hB⟩
            case measure => simp [intOf]; omega
        · obtain rfl : k = n := by omega
          have HY := Lib.hid (show szv l (k + bulkL es) = y by rw [← hy, ← HN.out, List.take_length])
          clear hy
          go_wp2
          go_ret
          exact ⟨ret_int HY.out.symm, hbel⟩
end Go.Proofs.Ytkabofbbioaapaa.Own
