/-
  Texts of this seat, laid together: Po11, Pa11, EqBO
-/
import Derived.WalkKit
import Derived.Deep.DeepCutAuto
import Derived.Deep.QuietTactic
import Derived.BigQuiet
import Derived.Deep.RegionHeld3
import Derived.Handy
import Derived.Test.YtbdjnfnphilklaaGreatV30
import Derived.Test.YtbdjnfnphilklaaGreatV14
namespace Go.Proofs.YtbdjnfnphilklaaGreat.Own
open Go.ChangeShapes Go.WideShapes Go.ChangeAt Go.RowKit
open Kit Slabs Ints
open Go.Proofs.YtbdjnfnphilklaaGreat.Ins (Pt gen_any9 orow obK)
set_option linter.unusedVariables false
set_option linter.unusedSimpArgs false
set_option linter.unnecessarySimpa false
set_option maxRecDepth 100000
theorem paint_none (w : World) (ra : Option Addr) (rc : Nat) (first : Int) (a : Option Addr) (n c : Nat) (gr x0 y0 x1 y1 : Int) :
    Calls Tryz.prog 73 #[.slice ra 0 rc, .int .i64 first, .agg #[.slice a n c, .int .i64 gr, .int .i64 x0, .int .i64 y0, .int .i64 x1, .int .i64 y1]] w fun e w' => e = .returned (.tuple #[]) ∧ Below w.heap.size w w' := by
  go_enter Tryz.func73, Tryz.ntmps73
  go_wp2
  go_rounds 1
  refine bodyPost_end (results_none rfl _ _ _) rfl ?_
  exact ⟨rfl, by go_grown⟩
theorem paint_any (w : World) (ra : Option Addr) (rc : Nat) (R : List (List Int)) (fp : List Nat) (first : Int) (a : Option Addr) (c : Nat) (l : List Pt) (gr x0 y0 x1 y1 : Int)
    (hn : l.length ≤ 1048576) (hR : R.length ≤ 32) (h32 : ∀ r ∈ R, r.length = 32) (hf : 0 ≤ first ∧ first ≤ 32)
    (ho : Own w KSS [.slice ra R.length rc] (.sl (dR R)) fp) (hd : fp.Nodup) (hpa : ∀ W, Turns w W (fun b => b ∈ fp) → Ins.PathAt W a l) :
    Calls Tryz.prog 73 #[.slice ra R.length rc, .int .i64 first, .agg #[.slice a l.length c, .int .i64 gr, .int .i64 x0, .int .i64 y0, .int .i64 x1, .int .i64 y1]] w fun e w' =>
      e = .returned (.tuple #[]) ∧ Own w' KSS [.slice ra R.length rc] (.sl (dR (pntR gr (rowsL l gr x0 y0 x1 y1 first) R))) fp ∧ Turns w w' (fun b => b ∈ fp) := by
  by_cases h0 : R.length = 0
  · have hR : R = [] := List.eq_nil_of_length_eq_zero h0
    subst hR
    refine (paint_none w ra rc first a l.length c gr x0 y0 x1 y1).mono fun e w' ⟨h1, h2⟩ => ⟨h1, ho.under h2, Turns.of_below h2⟩
  · obtain ⟨a9, c9, hv, _, hG⟩ := own_ss ho
    simp only [Value.slice.injEq] at hv
    obtain ⟨rfl, _, rfl⟩ := hv
    obtain ⟨g, P, fq, rfl, _⟩ := hG h0
    exact paint_impl w g rc R fp first a c l gr x0 y0 x1 y1 hn hR h32 hf h0 ho hd hpa
theorem rows32 {R : List (List Int)} (h : rowsB R = true) : R.length ≤ 32 ∧ ∀ r ∈ R, r.length = 32 := by
  simp only [rowsB, Bool.and_eq_true, decide_eq_true_eq, List.all_eq_true] at h
  refine ⟨h.1, fun r hr => ?_⟩
  have := h.2 r hr
  simp only [rowB, Bool.and_eq_true, decide_eq_true_eq] at this
  exact this.1
def poB (R : List (List Int)) (first : Int) (l : List Pt) (gr x0 y0 x1 y1 : Int) : Bool := rowsB R && obK l gr x0 y0 x1 y1 && decide (0 ≤ first ∧ first ≤ 32)
def poR (R : List (List Int)) (first : Int) (l : List Pt) (gr x0 y0 x1 y1 : Int) : List (List Int) := if poB R first l gr x0 y0 x1 y1 then pntR gr (rowsL l gr x0 y0 x1 y1 first) R else R
theorem poR_len (R : List (List Int)) (first : Int) (l : List Pt) (gr x0 y0 x1 y1 : Int) : (poR R first l gr x0 y0 x1 y1).length = R.length := by
  unfold poR; split
  · exact pntR_len _ _ _
  · rfl
def PoNew (R : List (List Int)) (b : Bool) (w : World) (e : Ending) (w' : World) : Prop := ∃ a c fp, e = .returned (.tuple #[.slice a R.length c, .bool b]) ∧ Own w' KSS [.slice a R.length c] (.sl (dR R)) fp ∧ fp.Nodup ∧ (∀ b ∈ fp, w.heap.size ≤ b) ∧ Below w.heap.size w w'
structure PoS (w W : World) (X : Nat) (a' : Option Addr) (c' : Nat) (R : List (List Int)) (fp : List Nat) (six : List Value) : Prop where
  X : Blk W X six
  O : Own W KSS [.slice a' R.length c'] (.sl (dR R)) fp
  B : Below w.heap.size w W
theorem PoS.on {w W V : World} {X : Nat} {a' : Option Addr} {c' : Nat} {R : List (List Int)} {fp : List Nat} {six : List Value} (h : PoS w W X a' c' R fp six) (hb : Below W.heap.size W V) : PoS w V X a' c' R fp six :=
  ⟨h.X.keep hb, h.O.under hb, on_of h.B hb⟩
end Go.Proofs.YtbdjnfnphilklaaGreat.Own
namespace Go.Proofs.YtbdjnfnphilklaaGreat.Own
open Go.ChangeShapes Go.WideShapes Go.ChangeAt Go.RowKit
open Kit Slabs Ints
open Go.Proofs.YtbdjnfnphilklaaGreat.Ins (Pt gen_any9 orow obK)
set_option linter.unusedVariables false
set_option linter.unusedSimpArgs false
set_option linter.unnecessarySimpa false
set_option maxRecDepth 100000
def sixo (o : Ob) (pa : Option Addr) (pc : Nat) : List Value := sixv pa o.path.length pc o.gray o.x0 o.y0 o.x1 o.y1
def ob0 : Ob := ⟨[], 0, 0, 0, 0, 0⟩
def ObL (w : World) (a : Option Addr) (l : List Ob) : Prop := l = [] ∨ ∃ g, a = some ⟨g, 0, none⟩ ∧ g < w.heap.size ∧ ∀ i, i < l.length → ∃ pa pc, (∀ j u, (sixo (l.getD i ob0) pa pc)[j]? = some u → w.cell? ⟨g, i * 6 + j, none⟩ = some u) ∧ Ins.PathAt w pa (l.getD i ob0).path ∧ (l.getD i ob0).path.length ≤ 1048576
theorem ObL.on {w w' : World} {a : Option Addr} {l : List Ob} (h : ObL w a l) (hb : Below w.heap.size w w') : ObL w' a l := by
  rcases h with h | ⟨g, rfl, hg, hc⟩
  · exact .inl h
  · refine .inr ⟨g, rfl, Nat.lt_of_lt_of_le hg hb.size, fun i hi => ?_⟩
    obtain ⟨pa, pc, h1, h2, h3⟩ := hc i hi
    exact ⟨pa, pc, fun j u hu => (hb.cell (p := ⟨g, i * 6 + j, none⟩) hg).trans (h1 j u hu), h2.on hb, h3⟩
theorem ObL.some {w : World} {a : Option Addr} {l : List Ob} (h : ObL w a l) (h0 : l.length ≠ 0) : ∃ g, a = some ⟨g, 0, none⟩ ∧ g < w.heap.size ∧ ∀ i, i < l.length → ∃ pa pc, (∀ j u, (sixo (l.getD i ob0) pa pc)[j]? = some u → w.cell? ⟨g, i * 6 + j, none⟩ = some u) ∧ Ins.PathAt w pa (l.getD i ob0).path ∧ (l.getD i ob0).path.length ≤ 1048576 := by
  rcases h with rfl | h
  · exact absurd rfl h0
  · exact h
def okO (o : Ob) : Bool := obK o.path o.gray o.x0 o.y0 o.x1 o.y1
set_option maxHeartbeats 2000000 in
theorem allob_impl (w : World) (a : Option Addr) (c : Nat) (l : List Ob) (hn : l.length ≤ 1048576) (h : ObL w a l) :
    Calls Tryz.prog 36 #[.slice a l.length c, .func (.func 37) #[] #[]] w fun e w' => e = .returned (.bool (l.all okO)) ∧ Below w.heap.size w w' := by
  have HP := Lib.hid h
  obtain ⟨n, hN⟩ : ∃ n, l.length = n := ⟨_, rfl⟩
  have HN := Lib.hid hN
  rw [hN] at hn ⊢
  clear hN h
  go_enter Tryz.func36, Tryz.ntmps36
  go_wp2
  go_loopw [9] (fun v9 wr => ∃ k : Nat, k ≤ n ∧ v9 = .int .i64 (k : Int) ∧ Hid (∀ i, i < k → okO (l.getD i ob0) = true) ∧ Below w.heap.size w wr) (fun v9 _ => n - (intOf v9).toNat)
  case atStart => exact ⟨0, Nat.zero_le _, rfl, Lib.hid (fun i hi => absurd hi (Nat.not_lt_zero i)), Below.refl _ _⟩
  case round =>
    obtain ⟨k, hk, rfl, hb, hB⟩ := hrel
    by_cases hlt : k < n
    · obtain ⟨g, rfl, hg, hc⟩ := (HP.out.on hB).some (by rw [HN.out]; omega)
      obtain ⟨pa, pc, h6, hpa, hpl⟩ := hc k (by rw [HN.out]; exact hlt)
      obtain ⟨o, hx⟩ : ∃ o, l.getD k ob0 = o := ⟨_, rfl⟩
      rw [hx] at h6 hpa hpl
      have q0 : wr.cell? ⟨g, k * 6, none⟩ = some (.slice pa o.path.length pc) := h6 0 _ rfl
      have q1 : wr.cell? ⟨g, k * 6 + 1, none⟩ = some (.int .i64 o.gray) := h6 1 _ rfl
      have q2 : wr.cell? ⟨g, k * 6 + 2, none⟩ = some (.int .i64 o.x0) := h6 2 _ rfl
      have q3 : wr.cell? ⟨g, k * 6 + 3, none⟩ = some (.int .i64 o.y0) := h6 3 _ rfl
      have q4 : wr.cell? ⟨g, k * 6 + 4, none⟩ = some (.int .i64 o.x1) := h6 4 _ rfl
      have q5 : wr.cell? ⟨g, k * 6 + 5, none⟩ = some (.int .i64 o.y1) := h6 5 _ rfl
      have i0 : (0 : Int) ≤ (k : Int) := by omega
      have i1 : (k : Int) < (n : Int) := by omega
      have hb1 : Below wr.heap.size wr (wr.alloc (.cells #[.slice pa o.path.length pc, .int .i64 o.gray, .int .i64 o.x0, .int .i64 o.y0, .int .i64 o.x1, .int .i64 o.y1] 53)) := by go_grown
      have HX := Lib.hid (And.intro hx (And.intro (hpa.on hb1) (And.intro hpl (on_of hB hb1))))
      clear hx hpa hpl hc h6 hB hb1
      go_wp2_with fail
      clear q0 q1 q2 q3 q4 q5
      ((with_reducible refine (Ins.ok_impl _ pa pc o.path o.gray o.x0 o.y0 o.x1 o.y1 HX.out.2.2.1 HX.out.2.1).mono ?_); rintro e w1 ⟨rfl, bb⟩)
      have HB1 := Lib.hid (on_of HX.out.2.2.2 bb)
      have HK9 := Lib.hid (show okO o = obK o.path o.gray o.x0 o.y0 o.x1 o.y1 from rfl)
      clear bb
      cases hp : obK o.path o.gray o.x0 o.y0 o.x1 o.y1
      · have HS := Lib.hid (all_no (p := okO) (l := l) (z := ob0) (k := k) (by rw [HN.out]; exact hlt) (by rw [HX.out.1, HK9.out]; exact hp))
        clear hp
        go_wp2
        go_ret
        exact ⟨ret_bool HS.out.symm, HB1.out⟩
      · have hyes : ∀ i, i < k + 1 → okO (l.getD i ob0) = true := fun i hi => by
          by_cases e : i = k
          · subst e; rw [HX.out.1, HK9.out]; exact hp
          · exact hb.out i (by omega)
        have HS := Lib.hid hyes
        clear hyes hp
        go_wp2
        go_roundw
        case rel => exact ⟨k + 1, by omega, by go_num, HS, HB1.out⟩
        case measure => simp [intOf]; omega
    · obtain rfl : k = n := by omega
      have HB := Lib.hid hB
      clear hB
      go_wp2
      go_ret
      exact ⟨ret_bool (all_yes (z := ob0) (fun i hi => hb.out i (by rw [← HN.out]; exact hi))).symm, HB.out⟩
def paB (l : List Ob) : Bool := decide (l.length ≤ 12) && l.all okO
def pnO (R : List (List Int)) (o : Ob) : List (List Int) := pntR o.gray (rowsL o.path o.gray o.x0 o.y0 o.x1 o.y1 0) R
def paR (l : List Ob) : List (List Int) := if paB l then l.foldl pnO (List.replicate 32 whiteR) else []
theorem pnO_len (R : List (List Int)) (o : Ob) : (pnO R o).length = R.length := pntR_len _ _ _
theorem pntK_32 {g : Int} {L : Nat → List Pt} {R : List (List Int)} {k : Nat} (h : ∀ r ∈ R, r.length = 32) : ∀ r ∈ pntK g L R k, r.length = 32 := by
  intro r hr
  obtain ⟨i, hi, rfl⟩ := List.mem_iff_getElem.1 hr
  simp only [pntK, List.getElem_mapIdx]
  split
  · rw [pnt_len]; exact h _ (List.getElem_mem _)
  · exact h _ (List.getElem_mem _)
theorem fold_32 (l : List Ob) : ∀ {R : List (List Int)}, R.length = 32 → (∀ r ∈ R, r.length = 32) → (l.foldl pnO R).length = 32 ∧ ∀ r ∈ l.foldl pnO R, r.length = 32 := by
  induction l with
  | nil => intro R h1 h2; exact ⟨h1, h2⟩
  | cons o l ih => intro R h1 h2; exact ih (by rw [pnO_len]; exact h1) (pntK_32 h2)
theorem white_32 : (List.replicate 32 whiteR).length = 32 ∧ ∀ r ∈ List.replicate 32 whiteR, r.length = 32 :=
  ⟨List.length_replicate, fun r hr => by rw [(List.mem_replicate.1 hr).2]; exact whiteR_len⟩
end Go.Proofs.YtbdjnfnphilklaaGreat.Own
namespace Go.Proofs.YtbdjnfnphilklaaGreat.Own
open Go.ChangeShapes Go.WideShapes Go.ChangeAt Go.RowKit
open Kit Slabs Ints
set_option linter.unusedVariables false
set_option linter.unusedSimpArgs false
set_option linter.unnecessarySimpa false
set_option maxRecDepth 100000
attribute [local go_sem ↓] hload_Object
set_option maxHeartbeats 4000000 in
theorem eq_ObjectS (w : World) {a1 a2 : Option Addr} {n1 n2 p1 p2 : Nat} {es : List Dt} {f1 f2 : List Nat} (hb : es.length + bulkL es ≤ 1048576) (h1 : Own w (.sl KObject) [.slice a1 n1 p1] (.sl es) f1) (h2 : Own w (.sl KObject) [.slice a2 n2 p2] (.sl es) f2) :
    Calls Tryz.prog 48 #[.slice a1 n1 p1, .slice a2 n2 p2] w fun e w' => e = .returned (.bool true) ∧ Below w.heap.size w w' := by
  obtain ⟨e1, r1⟩ := h1.row
  obtain ⟨e2, r2⟩ := h2.row
  obtain ⟨n, hn⟩ : ∃ n, es.length = n := ⟨_, rfl⟩
  obtain rfl : n1 = n := e1.symm.trans hn
  obtain rfl : n2 = n1 := e2.symm.trans hn
  by_cases h0 : n2 = 0
  · subst h0
    clear h1 h2 r1 r2
    go_enter Tryz.func48, Tryz.ntmps48
    go_wp2
    go_loopw [5] (fun i wr => i = .int .i64 0 ∧ Below w.heap.size w wr) (fun _ _ => 0)
    case atStart => exact ⟨rfl, Below.refl _ _⟩
    case round =>
      obtain ⟨rfl, hbel⟩ := hrel
      go_wp2
      go_ret
      exact ⟨rfl, hbel⟩
  · obtain ⟨g1, rfl, _⟩ := r1 h0
    obtain ⟨g2, rfl, _⟩ := r2 h0
    have H := Lib.hid (And.intro h1 h2)
    have hn2 : n2 ≤ 1048576 := by omega
    have HN := Lib.hid (And.intro hn hb)
    clear h1 h2 r1 r2 e1 e2 hb hn
    go_enter Tryz.func48, Tryz.ntmps48
    go_wp2
    go_loopw [5] (fun i wr => ∃ k : Nat, k ≤ n2 ∧ i = .int .i64 (k : Int) ∧ Below w.heap.size w wr) (fun i _ => n2 - (intOf i).toNat)
    case atStart => exact ⟨0, Nat.zero_le _, rfl, Below.refl _ _⟩
    case round =>
      obtain ⟨k, hk, rfl, hbel⟩ := hrel
      by_cases hlt : k < n2
      · have hke : k < es.length := by rw [HN.out.1]; exact hlt
        obtain ⟨hg1, _, c1, d1, q1, ed1, o1, l1, _, s1⟩ := H.out.1.elt hke
        obtain ⟨hg2, _, c2, d2, q2, ed2, o2, l2, _, s2⟩ := H.out.2.elt hke
        rw [ed1] at ed2
        injection ed2 with ed2
        subst ed2
        have hbk := bulk_elt hke
        rw [ed1] at hbk
        have hbk2 : bulkL d1 ≤ 1048576 := by simp only [Dt.bulk] at hbk; have := HN.out.2; omega
        have L1 := Lib.hid (fun W hW => hload_run (P := Tryz.prog) (t := 53) Tryz.isAgg53 Tryz.sizeOf53 (w := W) (b := g1) (o := k * 6) (us := c1) (s1 W hW) l1)
        have L2 := Lib.hid (fun W hW => hload_run (P := Tryz.prog) (t := 53) Tryz.isAgg53 Tryz.sizeOf53 (w := W) (b := g2) (o := k * 6) (us := c2) (s2 W hW) l2)
        have HE := Lib.hid (And.intro o1 o2)
        have i0 : (0 : Int) ≤ (k : Int) := by omega
        have i1 : (k : Int) < (n2 : Int) := by omega
        obtain ⟨C1, hC1⟩ : ∃ C, c1.toArray = C := ⟨_, rfl⟩
        obtain ⟨C2, hC2⟩ : ∃ C, c2.toArray = C := ⟨_, rfl⟩
        rw [hC1] at L1
        rw [hC2] at L2
        have t1 : C1.toList = c1 := by rw [← hC1]
        have t2 : C2.toList = c2 := by rw [← hC2]
        rw [← t1, ← t2] at HE
        clear o1 o2 s1 s2 ed1 hbk l1 l2 hC1 hC2 t1 t2 hg1 hg2 hke
        go_wp2_with fail
        go_region_held3 (fun w' => (hload 53 ⟨g1, k * 6, none⟩).run Tryz.prog w' = .ok (.agg C1) w' ∧ (hload 53 ⟨g2, k * 6, none⟩).run Tryz.prog w' = .ok (.agg C2) w' ∧ Below w.heap.size w w') (first | exact ⟨L1.out _ hB, L2.out _ hB, hB⟩ | exact ⟨L1.out _ (by go_grown), L2.out _ (by go_grown), by go_grown⟩)
          ((go_at_call 24; (with_reducible refine (eq_Object _ hbk2 (HE.out.1.under (by go_grown)) (HE.out.2.under (by go_grown))).mono ?_); rintro e w' ⟨rfl, hb⟩; have hB := on_of (W := w) (by go_grown) hb))
        go_wp2
        go_roundw
        case rel => exact ⟨k + 1, by omega, by go_num, hB⟩
        case measure => simp [intOf]; omega
      · obtain rfl : k = n2 := by omega
        go_wp2
        go_ret
        exact ⟨rfl, hbel⟩
end Go.Proofs.YtbdjnfnphilklaaGreat.Own
