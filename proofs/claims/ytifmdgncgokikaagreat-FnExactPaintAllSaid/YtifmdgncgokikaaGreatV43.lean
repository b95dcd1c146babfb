/-
  Texts of this seat, laid together: Lw11, Sp11
-/
import Derived.Test.YtifmdgncgokikaaGreatV39
import Derived.Test.YtifmdgncgokikaaGreatV40
import Derived.Test.YtifmdgncgokikaaGreatV41
import Derived.Test.YtifmdgncgokikaaGreatV38
namespace Go.Proofs.YtifmdgncgokikaaGreat.Own
open Go.ChangeShapes Go.WideShapes Go.ChangeAt Go.RowKit
open Kit Slabs Ints
set_option linter.unusedVariables false
set_option linter.unusedSimpArgs false
set_option linter.unnecessarySimpa false
theorem rr_of {w : World} {a : Option Addr} {c : Nat} {R : List (List Int)} {fp : List Nat} (h : Own w KSS [.slice a R.length c] (.sl (dR R)) fp) : RR w a R := by
  obtain ⟨a', c', hv, hr, _⟩ := own_ss h
  simp only [Value.slice.injEq] at hv
  obtain ⟨rfl, _, rfl⟩ := hv
  exact hr
def obPB (R : List (List Int)) (first : Int) (o : Ob) : Bool := poB R first o.path o.gray o.x0 o.y0 o.x1 o.y1
def obPR (R : List (List Int)) (first : Int) (o : Ob) : List (List Int) := poR R first o.path o.gray o.x0 o.y0 o.x1 o.y1
theorem obPR_len (R : List (List Int)) (first : Int) (o : Ob) : (obPR R first o).length = R.length := poR_len _ _ _ _ _ _ _ _
theorem pntK_tot (g : Int) (L : Nat → List Ins.Pt) (R : List (List Int)) (k : Nat) : tot (pntK g L R k) = tot R := by
  have : (pntK g L R k).map List.length = R.map List.length := by
    apply List.ext_getElem
    · simp [pntK]
    · intro i h1 h2
      simp only [pntK, List.getElem_map, List.getElem_mapIdx]
      split
      · exact pnt_len _ _ _
      · rfl
  unfold tot; rw [this]
theorem obPR_tot (R : List (List Int)) (first : Int) (o : Ob) : tot (obPR R first o) = tot R := by
  unfold obPR poR
  split
  · exact pntK_tot _ _ _ _
  · rfl
def whN (n : Int) : List (List Int) := if 0 ≤ n ∧ n ≤ 32 then List.replicate n.toNat whiteR else []
theorem tot_rep (k : Nat) : tot (List.replicate k whiteR) = k * 32 := by
  induction k with
  | zero => rfl
  | succ k ih =>
    rw [List.replicate_succ]
    have : tot (whiteR :: List.replicate k whiteR) = whiteR.length + tot (List.replicate k whiteR) := by simp [tot]
    rw [this, ih, whiteR_len]; omega
theorem whN_le (n : Int) : (whN n).length + tot (whN n) ≤ 1048576 := by
  unfold whN; split
  · rw [tot_rep, List.length_replicate]; omega
  · simp [tot]
theorem spec_WhiteRows (w : World) (n : Int) {T : List (List Int)} (h : whN n = T) : Calls Tryz.prog 15 #[.int .i64 n] w (SsNew T w) := by rw [← h]; exact whites_spec w n
theorem impl_WhiteRows (w : World) (n : Int) {T : List (List Int)} (h : whN n = T) : Calls Tryz.prog 20 #[.int .i64 n] w (SsNew T w) := by rw [← h]; exact whites_impl w n
theorem spec_PaintObject (w : World) {ra : Option Addr} {rc : Nat} {R : List (List Int)} {rf : List Nat} (hr : R.length + tot R ≤ 1048576) (hR : Own w KSS [.slice ra R.length rc] (.sl (dR R)) rf) (first : Int) {A : Array Value} {ds : List Dt} {fp : List Nat} (hb : bulkL ds ≤ 1048576) (h : OwnL w LObject A.toList ds fp) :
    Calls Tryz.prog 16 #[.slice ra R.length rc, .int .i64 first, .agg A] w (PoNew (obPR R first (obOf ds)) (obPB R first (obOf ds)) w) := by
  have e := ob_dt h
  rw [e] at hb h
  obtain ⟨a, c, rfl, hp⟩ := Ins.obj_open h
  exact paintobj_spec w ra rc R first a c _ _ _ _ _ _ (Ins.obj_len hb) (by omega) (by omega) (rr_of hR) hp
theorem spec_PaintObject_ (w : World) {ra : Option Addr} {rc : Nat} {R : List (List Int)} {rf : List Nat} (hr : R.length + tot R ≤ 1048576) (hR : Own w KSS [.slice ra R.length rc] (.sl (dR R)) rf) (first : Int) {A : Array Value} {ds : List Dt} {fp : List Nat} (hb : bulkL ds ≤ 1048576) (h : OwnL w LObject A.toList ds fp) {T : List (List Int)} {B : Bool} (hT : obPR R first (obOf ds) = T ∧ obPB R first (obOf ds) = B) :
    Calls Tryz.prog 16 #[.slice ra R.length rc, .int .i64 first, .agg A] w (PoNew T B w) := by
  rw [← hT.1, ← hT.2]; exact spec_PaintObject w hr hR first hb h
theorem cnt0_top {w : World} {ks : List Kd} {cs : List Value} {ds : List Dt} {fp : List Nat} (h : OwnL w ks cs ds fp) (hk : wdL ks ≤ 100) (hb : bulkL ds ≤ 1048576) : cnt0L ds ≤ 104857700 := by
  have h1 := h.cnt_le
  have h2 := cnt0L_le ds
  have h3 := Nat.mul_le_mul_right (1 + bulkL ds) hk
  omega
theorem obPR_le (R : List (List Int)) (first : Int) (o : Ob) (h : R.length + tot R ≤ 1048576) : (obPR R first o).length + tot (obPR R first o) ≤ 1048576 := by
  rw [obPR_len, obPR_tot]; exact h
end Go.Proofs.YtifmdgncgokikaaGreat.Own
namespace Go.Proofs.YtifmdgncgokikaaGreat.Own
open Go.ChangeShapes Go.WideShapes Go.ChangeAt Go.RowKit
open Kit Slabs Ints
open Go.Proofs.YtifmdgncgokikaaGreat.Ins (Pt inS orow obK)
set_option linter.unusedVariables false
set_option linter.unusedSimpArgs false
set_option linter.unnecessarySimpa false
set_option maxRecDepth 100000
theorem rowB_pnt {g : Int} {L : List Pt} {r : List Int} (hg : grayB g = true) (h : rowB r = true) : rowB (pnt g L r) = true := by
  simp only [rowB, Bool.and_eq_true, decide_eq_true_eq, List.all_eq_true] at h ⊢
  refine ⟨by rw [pnt_len]; exact h.1, fun x hx => ?_⟩
  obtain ⟨i, hi, rfl⟩ := List.mem_iff_getElem.1 hx
  simp only [pnt, List.getElem_mapIdx]
  split
  · exact hg
  · exact h.2 _ (List.getElem_mem _)
theorem rowsB_pnO {R : List (List Int)} {o : Ob} (ho : okO o = true) (h : rowsB R = true) : rowsB (pnO R o) = true := by
  have hg : grayB o.gray = true := by simp only [okO, Ins.obK, Bool.and_eq_true] at ho; exact ho.1.2
  simp only [rowsB, Bool.and_eq_true, decide_eq_true_eq, List.all_eq_true] at h ⊢
  refine ⟨by rw [pnO_len]; exact h.1, fun x hx => ?_⟩
  obtain ⟨i, hi, rfl⟩ := List.mem_iff_getElem.1 hx
  simp only [pnO, pntR, pntK, List.getElem_mapIdx]
  split
  · exact rowB_pnt hg (h.2 _ (List.getElem_mem _))
  · exact h.2 _ (List.getElem_mem _)
theorem rowsB_fold (l : List Ob) : ∀ {R : List (List Int)}, l.all okO = true → rowsB R = true → rowsB (l.foldl pnO R) = true := by
  induction l with
  | nil => intro R _ h; exact h
  | cons o l ih =>
    intro R ho h
    rw [List.all_cons, Bool.and_eq_true] at ho
    exact ih ho.2 (rowsB_pnO ho.1 h)
theorem white_rows : rowsB (List.replicate 32 whiteR) = true := by decide
theorem po_one {R : List (List Int)} {o : Ob} (ho : okO o = true) (h : rowsB R = true) : poB R 0 o.path o.gray o.x0 o.y0 o.x1 o.y1 = true ∧ poR R 0 o.path o.gray o.x0 o.y0 o.x1 o.y1 = pnO R o := by
  have h1 : poB R 0 o.path o.gray o.x0 o.y0 o.x1 o.y1 = true := by
    have : obK o.path o.gray o.x0 o.y0 o.x1 o.y1 = true := ho
    simp [poB, h, this]
  exact ⟨h1, by simp [poR, h1, pnO]⟩
theorem tot_32 {R : List (List Int)} (h : ∀ r ∈ R, r.length = 32) : tot R = R.length * 32 := by
  induction R with
  | nil => rfl
  | cons r R ih =>
    have e : tot (r :: R) = r.length + tot R := by simp [tot]
    rw [e, ih (fun x hx => h x (List.mem_cons_of_mem _ hx)), h r (List.mem_cons_self)]
    simp; omega
theorem whites32_spec (w : World) : Calls Tryz.prog 15 #[.int .i64 32] w (SsNew (List.replicate 32 whiteR) w) := by
  have := whites_spec w 32
  rw [if_pos (by omega)] at this
  exact this
set_option maxHeartbeats 2000000 in
theorem objs_spec (w : World) (a : Option Addr) (c : Nat) (l : List Ob) (hn : l.length ≤ 1048576) (h : ObL w a l) :
    Calls Tryz.prog 14 #[.slice a l.length c] w fun e w' => e = .returned (.bool (paB l)) ∧ Below w.heap.size w w' := by
  have HP := Lib.hid h
  obtain ⟨n, hN⟩ : ∃ n, l.length = n := ⟨_, rfl⟩
  have HN := Lib.hid hN
  rw [hN] at hn ⊢
  clear hN h
  go_enter Tryz.func14, Tryz.ntmps14
  go_wp2
  go_loopw [3] (fun v9 wr => ∃ k : Nat, k ≤ n ∧ v9 = .int .i64 (k : Int) ∧ Hid (∀ i, i < k → okO (l.getD i ob0) = true) ∧ Below w.heap.size w wr) (fun v9 _ => n - (intOf v9).toNat)
  case atStart => exact ⟨0, Nat.zero_le _, rfl, Lib.hid (fun i hi => absurd hi (Nat.not_lt_zero i)), Below.refl _ _⟩
  case round =>
    obtain ⟨k, hk, rfl, hb, hB⟩ := hrel
    by_cases hlt : k < n
    · obtain ⟨g, rfl, hg, hc⟩ := (HP.out.on hB).some (by rw [HN.out]; omega)
      obtain ⟨pa, pc, h6, hpa, hpl⟩ := hc k (by rw [HN.out]; exact hlt)
      obtain ⟨o, hx⟩ : ∃ o, l.getD k ob0 = o := ⟨_, rfl⟩
      rw [hx] at h6 hpa hpl
      have q0 : wr.cell? ⟨g, k * 6, none⟩ = some (.slice pa o.path.length pc) := h6 0 _ rfl
      have q1 : wr.cell? ⟨g, k * 6 + 1, none⟩ = some (.int .i64 o.gray) := h6 1 _ rfl
      have q2 : wr.cell? ⟨g, k * 6 + 2, none⟩ = some (.int .i64 o.x0) := h6 2 _ rfl
      have q3 : wr.cell? ⟨g, k * 6 + 3, none⟩ = some (.int .i64 o.y0) := h6 3 _ rfl
      have q4 : wr.cell? ⟨g, k * 6 + 4, none⟩ = some (.int .i64 o.x1) := h6 4 _ rfl
      have q5 : wr.cell? ⟨g, k * 6 + 5, none⟩ = some (.int .i64 o.y1) := h6 5 _ rfl
      have i0 : (0 : Int) ≤ (k : Int) := by omega
      have i1 : (k : Int) < (n : Int) := by omega
      have HX := Lib.hid (And.intro hx (And.intro hpa (And.intro hpl hB)))
      clear hx hpa hpl hc h6 hB
      go_wp2_with fail
      clear q0 q1 q2 q3 q4 q5
      ((with_reducible refine (Ins.ok_spec _ pa pc o.path o.gray o.x0 o.y0 o.x1 o.y1 HX.out.2.2.1 HX.out.2.1).mono ?_); rintro e w1 ⟨rfl, bb⟩)
      have HB1 := Lib.hid (on_of HX.out.2.2.2 bb)
      have HK9 := Lib.hid (show okO o = obK o.path o.gray o.x0 o.y0 o.x1 o.y1 from rfl)
      clear bb
      cases hp : obK o.path o.gray o.x0 o.y0 o.x1 o.y1
      · have HS := Lib.hid (all_no (p := okO) (l := l) (z := ob0) (k := k) (by rw [HN.out]; exact hlt) (by rw [HX.out.1, HK9.out]; exact hp))
        clear hp
        go_wp2
        go_ret
        exact ⟨ret_bool (by simp [paB, HS.out]), HB1.out⟩
      · have hyes : ∀ i, i < k + 1 → okO (l.getD i ob0) = true := fun i hi => by
          by_cases e : i = k
          · subst e; rw [HX.out.1, HK9.out]; exact hp
          · exact hb.out i (by omega)
        have HS := Lib.hid hyes
        clear hyes hp
        go_wp2
        go_roundw
        case rel => exact ⟨k + 1, by omega, by go_num, HS, HB1.out⟩
        case measure => simp [intOf]; omega
    · obtain rfl : k = n := by omega
      have HB := Lib.hid hB
      have HV : Hid (paB l = decide ((k : Int) ≤ 12)) := Lib.hid (by
        have := all_yes (p := okO) (l := l) (z := ob0) (fun i hi => hb.out i (by rw [← HN.out]; exact hi))
        rw [paB, this, Bool.and_true, HN.out]
        apply decide_eq_decide.2; omega)
      clear hB
      go_wp2
      go_ret
      exact ⟨ret_bool HV.out.symm, HB.out⟩
set_option maxHeartbeats 4000000 in
theorem paintall_spec (w : World) (a : Option Addr) (c : Nat) (l : List Ob) (hn : l.length ≤ 1048576) (h : ObL w a l) :
    Calls Tryz.prog 5 #[.slice a l.length c] w (PoNew (paR l) (paB l) w) := by
  have HP := Lib.hid h
  obtain ⟨n, hN⟩ : ∃ n, l.length = n := ⟨_, rfl⟩
  have HN := Lib.hid hN
  have HC := Lib.hid (objs_spec w a c l hn h)
  rw [hN] at hn HC ⊢
  clear hN h
  obtain ⟨q, hq⟩ : ∃ q, paB l = q := ⟨_, rfl⟩
  rw [hq] at HC
  cases q
  · have HV := Lib.hid hq
    clear hq
    go_enter Tryz.func5, Tryz.ntmps5
    go_wp2_with fail
    ((with_reducible refine HC.out.mono ?_); rintro e w1 ⟨rfl, bb⟩)
    have HB := Lib.hid bb
    clear bb
    go_wp2
    go_ret2
    have e : paR l = [] := by simp [paR, HV.out]
    rw [e, HV.out]
    exact ⟨_, _, [], rfl, .nil _ _, List.nodup_nil, fun b hb => absurd hb List.not_mem_nil, by have := HB.out; have := this.size; go_grown⟩
  · have HV := Lib.hid hq
    have hall : l.all okO = true := by simp only [paB, Bool.and_eq_true] at hq; exact hq.2
    have HA := Lib.hid hall
    clear hq hall
    go_enter Tryz.func5, Tryz.ntmps5
    go_wp2_with fail
    ((with_reducible refine HC.out.mono ?_); rintro e w1 ⟨rfl, bb⟩)
    have HB := Lib.hid bb
    clear bb HC
    go_wp2_with fail
    ((with_reducible refine (whites32_spec _).mono ?_); rintro e w2 ⟨ra, rc, fp, rfl, ho, hnd, hge, bb⟩)
    have hs1 := HB.out.size
    have HO := Lib.hid (And.intro hnd (And.intro (show ∀ b ∈ fp, w.heap.size ≤ b from fun b hb => Nat.le_trans hs1 (hge b hb)) (And.intro ho (on_of HB.out bb))))
    rw [show (List.replicate 32 whiteR).length = 32 from List.length_replicate]
    clear ho hnd hge bb
    go_wp2
    go_loopw [4, 5] (fun v4 v5 wr => ∃ (k : Nat) (ra : Option Addr) (rc : Nat) (fp : List Nat), k ≤ n ∧ v5 = .int .i64 (k : Int) ∧ v4 = .slice ra 32 rc ∧ Hid (Own wr KSS [.slice ra 32 rc] (.sl (dR ((l.take k).foldl pnO (List.replicate 32 whiteR)))) fp ∧ fp.Nodup ∧ (∀ b ∈ fp, w.heap.size ≤ b) ∧ Below w.heap.size w wr)) (fun v4 v5 _ => n - (intOf v5).toNat)
    case atStart => exact ⟨0, ra, rc, fp, Nat.zero_le _, rfl, rfl, Lib.hid ⟨by have := HO.out.2.2.1; rw [show (List.replicate 32 whiteR).length = 32 from List.length_replicate] at this; exact this, HO.out.1, HO.out.2.1, HO.out.2.2.2⟩⟩
    case round =>
      obtain ⟨k, ra, rc, fp, hk, rfl, rfl, hI⟩ := hrel
      by_cases hlt : k < n
      · have hkl : k < l.length := by rw [HN.out]; exact hlt
        obtain ⟨g, rfl, hg, hc⟩ := HP.out.some (by rw [HN.out]; omega)
        obtain ⟨pa, pc, h6, hpa, hpl⟩ := hc k hkl
        have htk : (l.take (k + 1)).foldl pnO (List.replicate 32 whiteR) = pnO ((l.take k).foldl pnO (List.replicate 32 whiteR)) (l.getD k ob0) := by
          rw [List.take_succ_eq_append_getElem hkl, List.foldl_append]
          simp [List.getD, List.getElem?_eq_getElem hkl]
        obtain ⟨f1, f2⟩ := fold_32 (l.take k) white_32.1 white_32.2
        have hok : okO (l.getD k ob0) = true := by
          rw [List.getD_eq_getElem?_getD, List.getElem?_eq_getElem hkl, Option.getD_some]
          exact List.all_eq_true.1 HA.out _ (List.getElem_mem hkl)
        have hrb := rowsB_fold (l.take k) (R := List.replicate 32 whiteR) (List.all_eq_true.2 (fun o ho => List.all_eq_true.1 HA.out o (List.mem_of_mem_take ho))) white_rows
        obtain ⟨o, hx⟩ : ∃ o, l.getD k ob0 = o := ⟨_, rfl⟩
        rw [hx] at h6 hpa hpl htk hok
        obtain ⟨R, hR⟩ : ∃ R, (l.take k).foldl pnO (List.replicate 32 whiteR) = R := ⟨_, rfl⟩
        rw [hR] at f1 f2 htk hI hrb
        obtain ⟨hp1, hp2⟩ := po_one hok hrb
        have htot := tot_32 f2
        have up : ∀ j u, (sixo o pa pc)[j]? = some u → wr.cell? ⟨g, k * 6 + j, none⟩ = some u := fun j u hu => (hI.out.2.2.2.cell (p := ⟨g, k * 6 + j, none⟩) hg).trans (h6 j u hu)
        have q0 : wr.cell? ⟨g, k * 6, none⟩ = some (.slice pa o.path.length pc) := up 0 _ rfl
        have q1 : wr.cell? ⟨g, k * 6 + 1, none⟩ = some (.int .i64 o.gray) := up 1 _ rfl
        have q2 : wr.cell? ⟨g, k * 6 + 2, none⟩ = some (.int .i64 o.x0) := up 2 _ rfl
        have q3 : wr.cell? ⟨g, k * 6 + 3, none⟩ = some (.int .i64 o.y0) := up 3 _ rfl
        have q4 : wr.cell? ⟨g, k * 6 + 4, none⟩ = some (.int .i64 o.x1) := up 4 _ rfl
        have q5 : wr.cell? ⟨g, k * 6 + 5, none⟩ = some (.int .i64 o.y1) := up 5 _ rfl
        have hPt := paintobj_spec wr ra rc R 0 pa pc o.path o.gray o.x0 o.y0 o.x1 o.y1 hpl (by omega) (by omega) (rr_of (c := rc) (fp := fp) (by rw [f1]; exact hI.out.1)) (hpa.on hI.out.2.2.2)
        rw [hp1, hp2, f1] at hPt
        have HPt := Lib.hid hPt
        have HX := Lib.hid (And.intro htk (show (pnO R o).length = 32 by rw [pnO_len]; exact f1))
        have i0 : (0 : Int) ≤ (k : Int) := by omega
        have i1 : (k : Int) < (n : Int) := by omega
        have hgl : g < wr.heap.size := Nat.lt_of_lt_of_le hg hI.out.2.2.2.size
        clear hx hR up hpa hpl h6 hc hPt f1 f2 htk hok hrb hp1 hp2 htot
        go_wp2_with fail
        clear q0 q1 q2 q3 q4 q5
        ((with_reducible refine HPt.out.mono ?_); rintro e w3 ⟨a3, c3, f3, rfl, ho3, hn3, hg3, bb⟩)
        rw [HX.out.2] at ho3 ⊢
        have hsz := hI.out.2.2.2.size
        have HI := Lib.hid (show Own w3 KSS [.slice a3 32 c3] (.sl (dR ((l.take (k + 1)).foldl pnO (List.replicate 32 whiteR)))) f3 ∧ f3.Nodup ∧ (∀ b ∈ f3, w.heap.size ≤ b) ∧ Below w.heap.size w w3 from ⟨by rw [HX.out.1]; exact ho3, hn3, fun b hb => Nat.le_trans hsz (hg3 b hb), on_of hI.out.2.2.2 bb⟩)
        clear ho3 hn3 hg3 bb HPt
        go_wp2
        go_roundw
        case rel => exact ⟨k + 1, a3, c3, f3, by omega, by go_num, rfl, HI⟩
        case measure => simp [intOf]; omega
      · obtain rfl : k = n := by omega
        have htk : l.take k = l := by rw [← HN.out, List.take_length]
        rw [htk] at hI
        go_wp2
        go_ret2
        have e : paR l = l.foldl pnO (List.replicate 32 whiteR) := by simp [paR, HV.out]
        obtain ⟨hl32, _⟩ := fold_32 l white_32.1 white_32.2
        rw [e, HV.out]
        exact ⟨ra, rc, fp, by rw [hl32]; rfl, by rw [hl32]; exact hI.out.1, hI.out.2.1, hI.out.2.2.1, hI.out.2.2.2⟩
/-! ### told of data -/
def obsOf (es : List Dt) : List Ob := es.map fun d => obOf (unS d)
theorem obl_of {w : World} {a : Option Addr} {c : Nat} {es : List Dt} {fp : List Nat} (hb : es.length + bulkL es ≤ 1048576) (h : Own w (.sl KObject) [.slice a es.length c] (.sl es) fp) : ObL w a (obsOf es) := by
  by_cases h0 : es.length = 0
  · have : es = [] := List.eq_nil_of_length_eq_zero h0
    subst this; exact .inl rfl
  · obtain ⟨_, hr⟩ := h.row
    obtain ⟨g, rfl, _⟩ := hr h0
    refine .inr ⟨g, rfl, (h.elt (i := 0) (by omega)).1, fun i hi => ?_⟩
    have hi' : i < es.length := by simpa [obsOf] using hi
    obtain ⟨_, _, cs, ds, fq, ed, od, ld, _, hcell⟩ := h.elt hi'
    have hbk := bulk_elt hi'
    rw [ed] at hbk
    have hbd : bulkL ds ≤ 1048576 := by simp only [Dt.bulk] at hbk; omega
    have e1 : (obsOf es).getD i ob0 = obOf ds := by
      simp only [obsOf, List.getD_eq_getElem?_getD, List.getElem?_map, List.getElem?_eq_getElem hi', Option.map_some, Option.getD_some, ed, unS]
    have e2 := ob_dt od
    have od' : OwnL w LObject cs.toArray.toList (obOf ds).dt fq := by rw [← e2]; simpa using od
    obtain ⟨pa, pc, hA, hp⟩ := Ins.obj_open od'
    rw [e2] at hbd
    refine ⟨pa, pc, fun j u hu => ?_, by rw [e1]; exact hp, by rw [e1]; exact Ins.obj_len hbd⟩
    have hcs : cs = sixo (obOf ds) pa pc := by
      have := congrArg Array.toList hA
      simpa [sixo, sixv] using this
    rw [e1, ← hcs] at hu
    exact hcell w (Below.refl _ _) j u hu
theorem paR_le (l : List Ob) : (paR l).length + tot (paR l) ≤ 1048576 := by
  unfold paR
  split
  · obtain ⟨h1, h2⟩ := fold_32 l white_32.1 white_32.2
    rw [tot_32 h2, h1]; omega
  · simp [tot]
theorem spec_PaintAll_ (w : World) {a : Option Addr} {c : Nat} {es : List Dt} {fp : List Nat} (hb : es.length + bulkL es ≤ 1048576) (h : Own w (.sl KObject) [.slice a es.length c] (.sl es) fp) {T : List (List Int)} {B : Bool} (hT : paR (obsOf es) = T ∧ paB (obsOf es) = B) :
    Calls Tryz.prog 5 #[.slice a es.length c] w (PoNew T B w) := by
  have h1 := paintall_spec w a c (obsOf es) (by simp [obsOf]; omega) (obl_of hb h)
  rw [hT.1, hT.2, show (obsOf es).length = es.length by simp [obsOf]] at h1
  exact h1
theorem impl_PaintAll_ (w : World) {a : Option Addr} {c : Nat} {es : List Dt} {fp : List Nat} (hb : es.length + bulkL es ≤ 1048576) (h : Own w (.sl KObject) [.slice a es.length c] (.sl es) fp) {T : List (List Int)} {B : Bool} (hT : paR (obsOf es) = T ∧ paB (obsOf es) = B) :
    Calls Tryz.prog 7 #[.slice a es.length c] w (PoNew T B w) := by
  have h1 := paintall_impl w a c (obsOf es) (by simp [obsOf]; omega) (obl_of hb h)
  rw [hT.1, hT.2, show (obsOf es).length = es.length by simp [obsOf]] at h1
  exact h1
theorem came_objs {w : World} {a : Option Addr} {n c : Nat} {d : Dt} (h : Came w (.sl (.st [.sl (.st [.int, .int]), .int, .st [.int, .int, .int, .int]])) [.slice a n c] d) : ∃ es : List Dt, es.length = n ∧ n ≤ maxLen ∧ Came w (.sl KObject) [.slice a n c] (.sl es) := by
  obtain ⟨d', h'⟩ := h.flatten
  have h2 : Came w (.sl KObject) [.slice a n c] d' := h'
  have hl : ∃ es : List Dt, d' = .sl es ∧ es.length = n ∧ n ≤ maxLen := by
    cases h2 with
    | nil a cap hm => exact ⟨[], rfl, rfl, Nat.zero_le _⟩
    | sl h1 h2 h3 h4 h5 h6 => exact ⟨_, rfl, h1, Nat.le_trans h3 h4⟩
  obtain ⟨es, rfl, h3, h4⟩ := hl
  exact ⟨es, h3, h4, h2⟩
theorem objs_cnt {w : World} {v : Value} {es : List Dt} {fp : List Nat} (h : Own w (.sl KObject) [v] (.sl es) fp) (hb : es.length + bulkL es ≤ 1048576) : 1 + cntL es ≤ 1000000000 := by
  have h1 := h.cnt_le
  have h2 : Kd.wd (.sl KObject) ≤ 100 := by decide
  have h3 := Nat.mul_le_mul_right (1 + (Dt.sl es).bulk) h2
  simp only [Dt.cnt, Dt.bulk] at h1 h3
  omega
end Go.Proofs.YtifmdgncgokikaaGreat.Own
