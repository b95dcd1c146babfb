/-
  Texts of this seat, laid together: InvB, Lw11, Sp11
-/
import Derived.Test.YtbdjnfnphilklaaM12
import Derived.Test.YtbdjnfnphilklaaM35
import Derived.Test.YtbdjnfnphilklaaM17
import Derived.Test.YtbdjnfnphilklaaM38
namespace Go.Proofs.Ytbdjnfnphilklaa.Own
open Go.ChangeShapes Go.WideShapes Go.ChangeAt Go.RowKit
open Kit Slabs
set_option linter.unusedVariables false
set_option linter.unusedSimpArgs false
set_option linter.unnecessarySimpa false
abbrev LBand : List Kd := [.int, .int, .sl (.sl .int), .sl KObject]
abbrev KBand : Kd := .st LBand
theorem inv_Band {w : World} {cs : List Value} {ds : List Dt} {fp : List Nat} (h : OwnL w LBand cs ds fp) : ∃ (xa2 : Option Addr) (xc2 : Nat) (xa3 : Option Addr) (xc3 : Nat) (xx0_0 : Int) (xx1_0 : Int) (xs2 : List Dt) (xs3 : List Dt) (xF2 : List Nat) (xF3 : List Nat), cs = .int .i64 xx0_0 :: (.int .i64 xx1_0 :: (.slice xa2 xs2.length xc2 :: (.slice xa3 xs3.length xc3 :: ([])))) ∧ ds = .int xx0_0 :: (.int xx1_0 :: (.sl xs2 :: (.sl xs3 :: ([])))) ∧ fp = xF2 ++ (xF3 ++ ([])) ∧ Own w (.sl (.sl .int)) [.slice xa2 xs2.length xc2] (.sl xs2) xF2 ∧ Own w (.sl KObject) [.slice xa3 xs3.length xc3] (.sl xs3) xF3 := by
  obtain ⟨xx0_0, r1, d1, rfl, rfl, h1⟩ := OwnL.int h
  obtain ⟨xx1_0, r2, d2, rfl, rfl, h2⟩ := OwnL.int h1
  obtain ⟨xa2, xc2, xs2, xF2, r3, d3, q3, rfl, rfl, rfl, ox2, h3⟩ := OwnL.sl h2
  obtain ⟨xa3, xc3, xs3, xF3, r4, d4, q4, rfl, rfl, rfl, ox3, h4⟩ := OwnL.sl h3
  obtain ⟨rfl, rfl, rfl⟩ := OwnL.end_ h4
  exact ⟨xa2, xc2, xa3, xc3, xx0_0, xx1_0, xs2, xs3, xF2, xF3, rfl, rfl, rfl, ox2, ox3⟩
theorem inv_Band_ {w : World} {cs : List Value} {fp : List Nat} {xx0_0 : Int} {xx1_0 : Int} {xs2 : List Dt} {xs3 : List Dt}  (h : OwnL w LBand cs (.int xx0_0 :: (.int xx1_0 :: (.sl xs2 :: (.sl xs3 :: ([]))))) fp) : ∃ (ya2 : Option Addr) (yc2 : Nat) (ya3 : Option Addr) (yc3 : Nat) (yF2 : List Nat) (yF3 : List Nat), cs = .int .i64 xx0_0 :: (.int .i64 xx1_0 :: (.slice ya2 xs2.length yc2 :: (.slice ya3 xs3.length yc3 :: ([])))) ∧ fp = yF2 ++ (yF3 ++ ([])) ∧ Own w (.sl (.sl .int)) [.slice ya2 xs2.length yc2] (.sl xs2) yF2 ∧ Own w (.sl KObject) [.slice ya3 xs3.length yc3] (.sl xs3) yF3 := by
  obtain ⟨r1, rfl, h1⟩ := OwnL.int_ h
  obtain ⟨r2, rfl, h2⟩ := OwnL.int_ h1
  obtain ⟨ya2, yc2, yF2, r3, q3, rfl, rfl, oy2, h3⟩ := OwnL.sl_ h2
  obtain ⟨ya3, yc3, yF3, r4, q4, rfl, rfl, oy3, h4⟩ := OwnL.sl_ h3
  obtain ⟨rfl, _, rfl⟩ := OwnL.end_ h4
  exact ⟨ya2, yc2, ya3, yc3, yF2, yF3, rfl, rfl, oy2, oy3⟩
theorem invC_Band {w : World} {cs : List Value} {ds : List Dt} (h : CameL w LBand cs ds) : ∃ (xa2 : Option Addr) (xc2 : Nat) (xa3 : Option Addr) (xc3 : Nat) (xx0_0 : Int) (xx1_0 : Int) (xs2 : List Dt) (xs3 : List Dt), cs = .int .i64 xx0_0 :: (.int .i64 xx1_0 :: (.slice xa2 xs2.length xc2 :: (.slice xa3 xs3.length xc3 :: ([])))) ∧ ds = .int xx0_0 :: (.int xx1_0 :: (.sl xs2 :: (.sl xs3 :: ([])))) ∧ (Came w (.sl (.sl .int)) [.slice xa2 xs2.length xc2] (.sl xs2) ∧ xs2.length ≤ maxLen) ∧ (Came w (.sl KObject) [.slice xa3 xs3.length xc3] (.sl xs3) ∧ xs3.length ≤ maxLen) := by
  obtain ⟨xx0_0, r1, d1, rfl, rfl, _, h1⟩ := CameL.int h
  obtain ⟨xx1_0, r2, d2, rfl, rfl, _, h2⟩ := CameL.int h1
  obtain ⟨xa2, xc2, xs2, r3, d3, rfl, rfl, m3, ox2, h3⟩ := CameL.sl h2
  obtain ⟨xa3, xc3, xs3, r4, d4, rfl, rfl, m4, ox3, h4⟩ := CameL.sl h3
  obtain ⟨rfl, rfl⟩ := CameL.end_ h4
  exact ⟨xa2, xc2, xa3, xc3, xx0_0, xx1_0, xs2, xs3, rfl, rfl, ⟨ox2, m3⟩, ⟨ox3, m4⟩⟩
theorem hload_Band (a : Addr) : loadVar 32 a = hload 32 a := hload_of _ _
theorem hloadL_Band (a : Addr) : loadVar 51 a = hload 51 a := hload_of _ _
theorem hstore_Band (a : Addr) (v : Value) : storeVar 32 a v = hstore 32 a v := hstore_of _ _ _
end Go.Proofs.Ytbdjnfnphilklaa.Own
namespace Go.Proofs.Ytbdjnfnphilklaa.Own
open Go.ChangeShapes Go.WideShapes Go.ChangeAt Go.RowKit
open Kit Slabs Ints
set_option linter.unusedVariables false
set_option linter.unusedSimpArgs false
set_option linter.unnecessarySimpa false
theorem rr_of {w : World} {a : Option Addr} {c : Nat} {R : List (List Int)} {fp : List Nat} (h : Own w KSS [.slice a R.length c] (.sl (dR R)) fp) : RR w a R := by
  obtain ⟨a', c', hv, hr, _⟩ := own_ss h
  simp only [Value.slice.injEq] at hv
  obtain ⟨rfl, _, rfl⟩ := hv
  exact hr
def obPB (R : List (List Int)) (first : Int) (o : Ob) : Bool := poB R first o.path o.gray o.x0 o.y0 o.x1 o.y1
def obPR (R : List (List Int)) (first : Int) (o : Ob) : List (List Int) := poR R first o.path o.gray o.x0 o.y0 o.x1 o.y1
theorem obPR_len (R : List (List Int)) (first : Int) (o : Ob) : (obPR R first o).length = R.length := poR_len _ _ _ _ _ _ _ _
theorem pntK_tot (g : Int) (L : Nat → List Ins.Pt) (R : List (List Int)) (k : Nat) : tot (pntK g L R k) = tot R := by
  have : (pntK g L R k).map List.length = R.map List.length := by
    apply List.ext_getElem
    · simp [pntK]
    · intro i h1 h2
      simp only [pntK, List.getElem_map, List.getElem_mapIdx]
      split
      · exact pnt_len _ _ _
      · rfl
  unfold tot; rw [this]
theorem obPR_tot (R : List (List Int)) (first : Int) (o : Ob) : tot (obPR R first o) = tot R := by
  unfold obPR poR
  split
  · exact pntK_tot _ _ _ _
  · rfl
def whN (n : Int) : List (List Int) := if 0 ≤ n ∧ n ≤ 32 then List.replicate n.toNat whiteR else []
theorem tot_rep (k : Nat) : tot (List.replicate k whiteR) = k * 32 := by
  induction k with
  | zero => rfl
  | succ k ih =>
    rw [List.replicate_succ]
    have : tot (whiteR :: List.replicate k whiteR) = whiteR.length + tot (List.replicate k whiteR) := by simp [tot]
    rw [this, ih, whiteR_len]; omega
theorem whN_le (n : Int) : (whN n).length + tot (whN n) ≤ 1048576 := by
  unfold whN; split
  · rw [tot_rep, List.length_replicate]; omega
  · simp [tot]
theorem spec_WhiteRows (w : World) (n : Int) {T : List (List Int)} (h : whN n = T) : Calls Try.prog 46 #[.int .i64 n] w (SsNew T w) := by rw [← h]; exact whites_spec w n
theorem impl_WhiteRows (w : World) (n : Int) {T : List (List Int)} (h : whN n = T) : Calls Try.prog 33 #[.int .i64 n] w (SsNew T w) := by rw [← h]; exact whites_impl w n
theorem cnt0_top {w : World} {ks : List Kd} {cs : List Value} {ds : List Dt} {fp : List Nat} (h : OwnL w ks cs ds fp) (hk : wdL ks ≤ 100) (hb : bulkL ds ≤ 1048576) : cnt0L ds ≤ 104857700 := by
  have h1 := h.cnt_le
  have h2 := cnt0L_le ds
  have h3 := Nat.mul_le_mul_right (1 + bulkL ds) hk
  omega
theorem obPR_le (R : List (List Int)) (first : Int) (o : Ob) (h : R.length + tot R ≤ 1048576) : (obPR R first o).length + tot (obPR R first o) ≤ 1048576 := by
  rw [obPR_len, obPR_tot]; exact h
end Go.Proofs.Ytbdjnfnphilklaa.Own
namespace Go.Proofs.Ytbdjnfnphilklaa.Own
open Go.ChangeShapes Go.WideShapes Go.ChangeAt Go.RowKit
open Kit Slabs Ints
open Go.Proofs.Ytbdjnfnphilklaa.Ins (Pt inS orow obK)
set_option linter.unusedVariables false
set_option linter.unusedSimpArgs false
set_option linter.unnecessarySimpa false
set_option maxRecDepth 100000
theorem rowB_pnt {g : Int} {L : List Pt} {r : List Int} (hg : grayB g = true) (h : rowB r = true) : rowB (pnt g L r) = true := by
  simp only [rowB, Bool.and_eq_true, decide_eq_true_eq, List.all_eq_true] at h ⊢
  refine ⟨by rw [pnt_len]; exact h.1, fun x hx => ?_⟩
  obtain ⟨i, hi, rfl⟩ := List.mem_iff_getElem.1 hx
  simp only [pnt, List.getElem_mapIdx]
  split
  · exact hg
  · exact h.2 _ (List.getElem_mem _)
theorem rowsB_pnO {R : List (List Int)} {o : Ob} (ho : okO o = true) (h : rowsB R = true) : rowsB (pnO R o) = true := by
  have hg : grayB o.gray = true := by simp only [okO, Ins.obK, Bool.and_eq_true] at ho; exact ho.1.2
  simp only [rowsB, Bool.and_eq_true, decide_eq_true_eq, List.all_eq_true] at h ⊢
  refine ⟨by rw [pnO_len]; exact h.1, fun x hx => ?_⟩
  obtain ⟨i, hi, rfl⟩ := List.mem_iff_getElem.1 hx
  simp only [pnO, pntR, pntK, List.getElem_mapIdx]
  split
  · exact rowB_pnt hg (h.2 _ (List.getElem_mem _))
  · exact h.2 _ (List.getElem_mem _)
theorem rowsB_fold (l : List Ob) : ∀ {R : List (List Int)}, l.all okO = true → rowsB R = true → rowsB (l.foldl pnO R) = true := by
  induction l with
  | nil => intro R _ h; exact h
  | cons o l ih =>
    intro R ho h
    rw [List.all_cons, Bool.and_eq_true] at ho
    exact ih ho.2 (rowsB_pnO ho.1 h)
theorem white_rows : rowsB (List.replicate 32 whiteR) = true := by decide
theorem po_one {R : List (List Int)} {o : Ob} (ho : okO o = true) (h : rowsB R = true) : poB R 0 o.path o.gray o.x0 o.y0 o.x1 o.y1 = true ∧ poR R 0 o.path o.gray o.x0 o.y0 o.x1 o.y1 = pnO R o := by
  have h1 : poB R 0 o.path o.gray o.x0 o.y0 o.x1 o.y1 = true := by
    have : obK o.path o.gray o.x0 o.y0 o.x1 o.y1 = true := ho
    simp [poB, h, this]
  exact ⟨h1, by simp [poR, h1, pnO]⟩
theorem tot_32 {R : List (List Int)} (h : ∀ r ∈ R, r.length = 32) : tot R = R.length * 32 := by
  induction R with
  | nil => rfl
  | cons r R ih =>
    have e : tot (r :: R) = r.length + tot R := by simp [tot]
    rw [e, ih (fun x hx => h x (List.mem_cons_of_mem _ hx)), h r (List.mem_cons_self)]
    simp; omega
theorem whites32_spec (w : World) : Calls Try.prog 46 #[.int .i64 32] w (SsNew (List.replicate 32 whiteR) w) := by
  have := whites_spec w 32
  rw [if_pos (by omega)] at this
  exact this
/-! ### told of data -/
def obsOf (es : List Dt) : List Ob := es.map fun d => obOf (unS d)
theorem obl_of {w : World} {a : Option Addr} {c : Nat} {es : List Dt} {fp : List Nat} (hb : es.length + bulkL es ≤ 1048576) (h : Own w (.sl KObject) [.slice a es.length c] (.sl es) fp) : ObL w a (obsOf es) := by
  by_cases h0 : es.length = 0
  · have : es = [] := List.eq_nil_of_length_eq_zero h0
    subst this; exact .inl rfl
  · obtain ⟨_, hr⟩ := h.row
    obtain ⟨g, rfl, _⟩ := hr h0
    refine .inr ⟨g, rfl, (h.elt (i := 0) (by omega)).1, fun i hi => ?_⟩
    have hi' : i < es.length := by simpa [obsOf] using hi
    obtain ⟨_, _, cs, ds, fq, ed, od, ld, _, hcell⟩ := h.elt hi'
    have hbk := bulk_elt hi'
    rw [ed] at hbk
    have hbd : bulkL ds ≤ 1048576 := by simp only [Dt.bulk] at hbk; omega
    have e1 : (obsOf es).getD i ob0 = obOf ds := by
      simp only [obsOf, List.getD_eq_getElem?_getD, List.getElem?_map, List.getElem?_eq_getElem hi', Option.map_some, Option.getD_some, ed, unS]
    have e2 := ob_dt od
    have od' : OwnL w LObject cs.toArray.toList (obOf ds).dt fq := by rw [← e2]; simpa using od
    obtain ⟨pa, pc, hA, hp⟩ := Ins.obj_open od'
    rw [e2] at hbd
    refine ⟨pa, pc, fun j u hu => ?_, by rw [e1]; exact hp, by rw [e1]; exact Ins.obj_len hbd⟩
    have hcs : cs = sixo (obOf ds) pa pc := by
      have := congrArg Array.toList hA
      simpa [sixo, sixv] using this
    rw [e1, ← hcs] at hu
    exact hcell w (Below.refl _ _) j u hu
theorem paR_le (l : List Ob) : (paR l).length + tot (paR l) ≤ 1048576 := by
  unfold paR
  split
  · obtain ⟨h1, h2⟩ := fold_32 l white_32.1 white_32.2
    rw [tot_32 h2, h1]; omega
  · simp [tot]
theorem came_objs {w : World} {a : Option Addr} {n c : Nat} {d : Dt} (h : Came w (.sl (.st [.sl (.st [.int, .int]), .int, .st [.int, .int, .int, .int]])) [.slice a n c] d) : ∃ es : List Dt, es.length = n ∧ n ≤ maxLen ∧ Came w (.sl KObject) [.slice a n c] (.sl es) := by
  obtain ⟨d', h'⟩ := h.flatten
  have h2 : Came w (.sl KObject) [.slice a n c] d' := h'
  have hl : ∃ es : List Dt, d' = .sl es ∧ es.length = n ∧ n ≤ maxLen := by
    cases h2 with
    | nil a cap hm => exact ⟨[], rfl, rfl, Nat.zero_le _⟩
    | sl h1 h2 h3 h4 h5 h6 => exact ⟨_, rfl, h1, Nat.le_trans h3 h4⟩
  obtain ⟨es, rfl, h3, h4⟩ := hl
  exact ⟨es, h3, h4, h2⟩
theorem objs_cnt {w : World} {v : Value} {es : List Dt} {fp : List Nat} (h : Own w (.sl KObject) [v] (.sl es) fp) (hb : es.length + bulkL es ≤ 1048576) : 1 + cntL es ≤ 1000000000 := by
  have h1 := h.cnt_le
  have h2 : Kd.wd (.sl KObject) ≤ 100 := by decide
  have h3 := Nat.mul_le_mul_right (1 + (Dt.sl es).bulk) h2
  simp only [Dt.cnt, Dt.bulk] at h1 h3
  omega
end Go.Proofs.Ytbdjnfnphilklaa.Own
