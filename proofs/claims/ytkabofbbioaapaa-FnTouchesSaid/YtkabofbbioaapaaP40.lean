/-
  Texts of this seat, laid together: Rb12, ToBO
-/
import Derived.WalkKit
import Derived.Deep.DeepCutAuto
import Derived.Deep.QuietTactic
import Derived.BigQuiet
import Derived.Deep.RegionHeld3
import Derived.Handy
import Derived.Test.YtkabofbbioaapaaP35
import Derived.Test.YtkabofbbioaapaaP36
import Derived.Test.YtkabofbbioaapaaP38
namespace Go.Proofs.Ytkabofbbioaapaa.Own
open Go.ChangeShapes Go.WideShapes Go.ChangeAt Go.RowKit
open Kit Slabs Ints
open Go.Proofs.Ytkabofbbioaapaa.Ins (Pt gen_any9 orow obK)
set_option linter.unusedVariables false
set_option linter.unusedSimpArgs false
set_option linter.unnecessarySimpa false
set_option maxRecDepth 100000
def pnF (f : Int) (R : List (List Int)) (o : Ob) : List (List Int) := pntR o.gray (rowsL o.path o.gray o.x0 o.y0 o.x1 o.y1 f) R
def whR (ht : Int) : List (List Int) := List.replicate ht.toNat whiteR
def rbR (ht bd : Int) (l : List Ob) : List (List Int) := if bnB ht bd then l.foldl (pnF (bd * ht)) (whR ht) else []
theorem pnF_len (f : Int) (R : List (List Int)) (o : Ob) : (pnF f R o).length = R.length := pntR_len _ _ _
theorem pnK_32 {g : Int} {L : Nat → List Pt} {R : List (List Int)} {k : Nat} (h : ∀ r ∈ R, r.length = 32) : ∀ r ∈ pntK g L R k, r.length = 32 := by
  intro r hr
  obtain ⟨i, hi, rfl⟩ := List.mem_iff_getElem.1 hr
  simp only [pntK, List.getElem_mapIdx]
  split
  · rw [pnt_len]; exact h _ (List.getElem_mem _)
  · exact h _ (List.getElem_mem _)
theorem foldF (f : Int) (l : List Ob) : ∀ {R : List (List Int)} {n : Nat}, R.length = n → (∀ r ∈ R, r.length = 32) → (l.foldl (pnF f) R).length = n ∧ ∀ r ∈ l.foldl (pnF f) R, r.length = 32 := by
  induction l with
  | nil => intro R n h1 h2; exact ⟨h1, h2⟩
  | cons o l ih => intro R n h1 h2; exact ih (by rw [pnF_len]; exact h1) (pnK_32 h2)
theorem whR_len (ht : Int) : (whR ht).length = ht.toNat := List.length_replicate
theorem whR_32 (ht : Int) : ∀ r ∈ whR ht, r.length = 32 := fun r hr => by rw [(List.mem_replicate.1 hr).2]; exact whiteR_len
theorem whitesh_impl (w : World) (ht : Int) (h : 0 < ht ∧ ht ≤ 32) : Calls Try.prog 16 #[.int .i64 ht] w (SsNew (whR ht) w) := by
  have := whites_impl w ht
  rw [if_pos (by omega)] at this
  exact this
set_option maxHeartbeats 4000000 in
theorem render_impl (w : World) (a : Option Addr) (c : Nat) (l : List Ob) (ht bd : Int) (hn : l.length ≤ 1048576) (h : ObL w a l) :
    Calls Try.prog 13 #[.slice a l.length c, .int .i64 ht, .int .i64 bd] w (SsNew (rbR ht bd l) w) := by
  have HP := Lib.hid h
  obtain ⟨n, hN⟩ : ∃ n, l.length = n := ⟨_, rfl⟩
  have HN := Lib.hid hN
  have HI := Lib.hid (fun W => isband_impl ht bd W)
  rw [hN] at hn ⊢
  clear hN h
  cases hb : bnB ht bd
  · rw [hb] at HI
    have HV := Lib.hid (show rbR ht bd l = [] from by simp [rbR, hb])
    clear hb
    go_enter Try.func13, Try.ntmps13
    go_wp2_with fail
    ((with_reducible refine (HI.out _).mono ?_); rintro e w1 ⟨rfl, bb⟩)
    have HB := Lib.hid bb
    clear bb
    go_wp2
    go_ret
    rw [HV.out]
    exact ss_nil _ _ _ _ HB.out
  · obtain ⟨b0, b1, b2, b3, b4, b5⟩ := bn_rows hb
    have e1 : IntKind.i64.wrap (bd * ht) = bd * ht := IntWalk.i64_in _ ⟨by omega, by omega⟩
    have HW := Lib.hid (fun W => whitesh_impl W ht ⟨b1, b2⟩)
    have HV := Lib.hid (show rbR ht bd l = l.foldl (pnF (bd * ht)) (whR ht) from by simp [rbR, hb])
    have HL := Lib.hid (And.intro (whR_len ht) (whR_32 ht))
    obtain ⟨m, rfl⟩ : ∃ m : Nat, ht = (m : Int) := ⟨ht.toNat, by omega⟩
    have hm : m ≤ 32 := by omega
    rw [hb] at HI
    generalize hf : bd * (m : Int) = f at *
    rw [Int.toNat_natCast] at HL
    generalize whR (m : Int) = R0 at *
    have HF := Lib.hid (show 0 ≤ f ∧ f ≤ 32 from ⟨b3, by omega⟩)
    clear hb
    go_enter Try.func13, Try.ntmps13
    go_wp2_with fail
    ((with_reducible refine (HI.out _).mono ?_); rintro e w1 ⟨rfl, bb⟩)
    have HB := Lib.hid bb
    clear bb
    go_wp2_with fail
    ((with_reducible refine (HW.out _).mono ?_); rintro e w2 ⟨ra, rc, fp, rfl, ho, hnd, hge, bb⟩)
    have hs1 := HB.out.size
    rw [HL.out.1] at ho ⊢
    have HO := Lib.hid (And.intro hnd (And.intro (show ∀ b ∈ fp, w.heap.size ≤ b from fun b hb => Nat.le_trans hs1 (hge b hb)) (And.intro ho (on_of HB.out bb))))
    clear ho hnd hge bb
    go_wp2
    go_loopw [18] (fun v18 wr => ∃ k : Nat, k ≤ n ∧ v18 = .int .i64 (k : Int) ∧ Hid (Own wr KSS [.slice ra m rc] (.sl (dR ((l.take k).foldl (pnF f) R0))) fp ∧ Below w.heap.size w wr)) (fun v18 _ => n - (intOf v18).toNat)
    case atStart => exact ⟨0, Nat.zero_le _, rfl, Lib.hid ⟨HO.out.2.2.1, HO.out.2.2.2⟩⟩
    case round =>
      obtain ⟨k, hk, rfl, hI⟩ := hrel
      by_cases hlt : k < n
      · have hkl : k < l.length := by rw [HN.out]; exact hlt
        obtain ⟨g, rfl, hg, hc⟩ := HP.out.some (by rw [HN.out]; omega)
        obtain ⟨pa, pc, h6, hpa, hpl⟩ := hc k hkl
        have htk : (l.take (k + 1)).foldl (pnF f) R0 = pnF f ((l.take k).foldl (pnF f) R0) (l.getD k ob0) := by
          rw [List.take_succ_eq_append_getElem hkl, List.foldl_append]
          simp [List.getD, List.getElem?_eq_getElem hkl]
        obtain ⟨f1, f2⟩ := foldF f (l.take k) HL.out.1 HL.out.2
        obtain ⟨o, hx⟩ : ∃ o, l.getD k ob0 = o := ⟨_, rfl⟩
        rw [hx] at h6 hpa hpl htk
        obtain ⟨R, hR⟩ : ∃ R, (l.take k).foldl (pnF f) R0 = R := ⟨_, rfl⟩
        rw [hR] at f1 f2 htk hI
        have up : ∀ j u, (sixo o pa pc)[j]? = some u → wr.cell? ⟨g, k * 6 + j, none⟩ = some u := fun j u hu => (hI.out.2.cell (p := ⟨g, k * 6 + j, none⟩) hg).trans (h6 j u hu)
        have q0 : wr.cell? ⟨g, k * 6, none⟩ = some (.slice pa o.path.length pc) := up 0 _ rfl
        have q1 : wr.cell? ⟨g, k * 6 + 1, none⟩ = some (.int .i64 o.gray) := up 1 _ rfl
        have q2 : wr.cell? ⟨g, k * 6 + 2, none⟩ = some (.int .i64 o.x0) := up 2 _ rfl
        have q3 : wr.cell? ⟨g, k * 6 + 3, none⟩ = some (.int .i64 o.y0) := up 3 _ rfl
        have q4 : wr.cell? ⟨g, k * 6 + 4, none⟩ = some (.int .i64 o.x1) := up 4 _ rfl
        have q5 : wr.cell? ⟨g, k * 6 + 5, none⟩ = some (.int .i64 o.y1) := up 5 _ rfl
        have hb1 : Below wr.heap.size wr (wr.alloc (.cells #[.slice pa o.path.length pc, .int .i64 o.gray, .int .i64 o.x0, .int .i64 o.y0, .int .i64 o.x1, .int .i64 o.y1] 28)) := by go_grown
        have hB2 := on_of hI.out.2 hb1
        have hPt := paint_any _ ra rc R fp f pa pc o.path o.gray o.x0 o.y0 o.x1 o.y1 hpl (by omega) f2 HF.out (by rw [f1]; exact hI.out.1.under hb1) HO.out.1 (fun W hW => hpa.on (hB2.trans (hW.below hB2.size HO.out.2.1)))
        rw [f1] at hPt
        have HPt := Lib.hid hPt
        have HX := Lib.hid (And.intro htk hB2)
        have i0 : (0 : Int) ≤ (k : Int) := by omega
        have i1 : (k : Int) < (n : Int) := by omega
        have hgl : g < wr.heap.size := Nat.lt_of_lt_of_le hg hI.out.2.size
        clear hx hR up hpa hpl h6 hc hb1 hB2 hPt f1 f2 htk
        go_wp2_with fail
        clear q0 q1 q2 q3 q4 q5
        ((with_reducible refine HPt.out.mono ?_); rintro e w3 ⟨rfl, ho3, ht3⟩)
        have HI2 := Lib.hid (show Own w3 KSS [.slice ra m rc] (.sl (dR ((l.take (k + 1)).foldl (pnF f) R0))) fp ∧ Below w.heap.size w w3 from ⟨by rw [HX.out.1]; exact ho3, HX.out.2.trans (ht3.below HX.out.2.size HO.out.2.1)⟩)
        clear ho3 ht3 HPt
        go_wp2
        go_roundw
        case rel => exact ⟨k + 1, by omega, by go_num, HI2⟩
        case measure => simp [intOf]; omega
      · obtain rfl : k = n := by omega
        have htk : l.take k = l := by rw [← HN.out, List.take_length]
        rw [htk] at hI
        have hl32 := (foldF f l HL.out.1 HL.out.2).1
        have HR := Lib.hid (show SsNew (rbR (m : Int) bd l) w (.returned (.slice ra m rc)) wr from by
          rw [HV.out]
          exact ⟨ra, rc, fp, by rw [hl32], by rw [hl32]; exact hI.out.1, HO.out.1, HO.out.2.1, hI.out.2⟩)
        clear hl32 htk
        go_wp2
        go_ret
        exact HR.out
end Go.Proofs.Ytkabofbbioaapaa.Own
namespace Go.Proofs.Ytkabofbbioaapaa.Own
open Go.ChangeShapes Go.WideShapes Go.ChangeAt Go.RowKit
open Kit Slabs Ints
set_option linter.unusedVariables false
set_option linter.unusedSimpArgs false
set_option linter.unnecessarySimpa false
set_option maxRecDepth 100000
attribute [local go_sem ↓] hstore_Object
attribute [local go_sem ↓] hloadL_Object
theorem info_Object : (Try.prog.info? 28).map (fun i => (i.zero, i.size, i.bytes)) = some (some (.agg #[.slice none 0 0, .int .i64 0, .int .i64 0, .int .i64 0, .int .i64 0, .int .i64 0]), 6, 64) := by kernel_rfl
set_option maxHeartbeats 4000000 in
theorem to_ObjectS (w : World) (a : Option Addr) (n c : Nat) (es : List Dt) (hb : n + bulkL es ≤ 1048576) (h : Came w (.sl KObject) [.slice a n c] (.sl es)) :
    Calls Try.prog 26 #[.slice a n c] w fun e w' => ∃ (a' : Option Addr) (c' : Nat) (fp : List Nat), e = .returned (.slice a' n c') ∧ Own w' (.sl KObject) [.slice a' n c'] (.sl es) fp ∧ fp.Nodup ∧ (∀ b ∈ fp, w.heap.size ≤ b) ∧ Below w.heap.size w w' := by
  obtain ⟨i0, hi0, hz0, hz1, hz2⟩ := info_parts info_Object
  have hmk : ∀ W : World, (Instr.makeSlice 34 (.int .i64 (n : Int)) (.int .i64 (n : Int))).run Try.prog W = .ok (.slice (some ⟨W.heap.size, 0, none⟩) n n) (W.alloc (.cells (madeCells (Value.agg #[.slice none 0 0, .int .i64 0, .int .i64 0, .int .i64 0, .int .i64 0, .int .i64 0]).cells (n * i0.size)) 28)) := fun W =>
    run_make_rowN 34 28 i0 _ Try.underlying34 hi0 hz0 .i64 .i64 n n (Nat.le_refl _) (by rw [hz2]; omega) (by omega) W
  obtain ⟨Z0, hZ0⟩ : ∃ Z0 : List Value, madeCells (Value.agg #[.slice none 0 0, .int .i64 0, .int .i64 0, .int .i64 0, .int .i64 0, .int .i64 0]).cells (n * i0.size) = Z0.toArray := ⟨(madeCells (Value.agg #[.slice none 0 0, .int .i64 0, .int .i64 0, .int .i64 0, .int .i64 0, .int .i64 0]).cells (n * i0.size)).toList, by simp⟩
  have hZl : Z0.length = n * 6 := by have := size_madeCells (Value.agg #[.slice none 0 0, .int .i64 0, .int .i64 0, .int .i64 0, .int .i64 0, .int .i64 0]).cells (n * i0.size); rw [hZ0, hz1] at this; simpa using this
  rw [hZ0] at hmk
  clear hZ0 hi0 hz0 hz1 hz2
  obtain ⟨hl, hr⟩ := h.row
  by_cases h0 : n = 0
  · subst h0
    have hes : es = [] := List.eq_nil_of_length_eq_zero hl
    subst hes
    simp only [Int.natCast_zero, Int.ofNat_zero, show ((0 : Nat) : Int) = 0 from rfl] at hmk
    clear h hr
    go_enter Try.func26, Try.ntmps26
    go_wp2
    go_rounds 1
    go_ret
    exact ⟨_, _, [], rfl, .nil _ _, List.nodup_nil, fun b hb => absurd hb List.not_mem_nil, by go_grown⟩
  · obtain ⟨g, o, rfl, hg⟩ := hr h0
    have H := Lib.hid (And.intro h (And.intro hl hb))
    have hn1 : n ≤ 1048576 := by omega
    have B0 := Lib.hid (show Blk (w.alloc (.cells Z0.toArray 28)) w.heap.size Z0 from by have := Blk.new w Z0.toArray 28 rfl; simpa using this)
    have HZl := Lib.hid hZl
    clear h hr hl hb hZl
    go_enter Try.func26, Try.ntmps26
    go_wp2
    go_loopw [4] (fun v4 wr => ∃ (k : Nat) (P1 Z : List Value) (f1 : List Nat), k ≤ n ∧ v4 = .int .i64 (k : Int) ∧ Blk wr w.heap.size (P1 ++ Z) ∧ P1.length = k * 6 ∧ Z.length = (n - k) * 6 ∧ OwnL wr (List.replicate k KObject) P1 (es.take k) f1 ∧ f1.Nodup ∧ (∀ b ∈ f1, w.heap.size + 1 ≤ b) ∧ Below w.heap.size w wr) (fun v4 _ => n - (intOf v4).toNat)
    case atStart => exact ⟨0, [], Z0, [], Nat.zero_le _, rfl, B0.out, by simp, by simpa using HZl.out, .nil, List.nodup_nil, fun b hb => absurd hb List.not_mem_nil, by go_grown⟩
    case round =>
      obtain ⟨k, P1, Z, f1, hk, rfl, hB, hP1, hZ, hO, hnd, hge, hbel⟩ := hrel
      by_cases hlt : k < n
      · have hke : k < es.length := by rw [H.out.2.1]; exact hlt
        obtain ⟨_, cs, ds, ed, od, ld, sd⟩ := H.out.1.elt hke
        have hbk := bulk_elt hke
        rw [ed] at hbk
        have hbk2 : bulkL ds ≤ 1048576 := by simp only [Dt.bulk] at hbk; have := H.out.2.2; omega
        have htk : es.take (k + 1) = es.take k ++ [.st ds] := by rw [List.take_succ_eq_append_getElem hke, ed]
        obtain ⟨C, hC⟩ : ∃ C, cs.toArray = C := ⟨_, rfl⟩
        have tC : C.toList = cs := by rw [← hC]
        have L1 := hload_run (P := Try.prog) (t := 43) Try.isAgg43 Try.sizeOf43 (w := wr) (b := g) (o := o + k * 6) (us := cs) (sd wr hbel) ld
        rw [hC] at L1
        rw [← tC] at od
        have HO := Lib.hid (od.on hbel)
        have hZm : 6 ≤ Z.length := by rw [hZ]; exact Nat.le_mul_of_pos_left _ (by omega)
        obtain ⟨Z1, Z2, rfl, hZ1⟩ : ∃ Z1 Z2, Z = Z1 ++ Z2 ∧ Z1.length = 6 := ⟨Z.take 6, Z.drop 6, (List.take_append_drop _ _).symm, by rw [List.length_take]; omega⟩
        clear hZm
        have hZ2 : Z2.length = (n - (k + 1)) * 6 := by
          have e : n - k = (n - (k + 1)) + 1 := by omega
          rw [List.length_append, hZ1, e, Nat.succ_mul] at hZ
          omega
        have i0 : (0 : Int) ≤ (k : Int) := by omega
        have i1 : (k : Int) < (n : Int) := by omega
        have hws := hbel.size
        have hGl := hB.2.2
        have HF := Lib.hid (And.intro hB (And.intro hO (And.intro hnd (And.intro hge (And.intro hP1 (And.intro hZ2 (And.intro htk hZ1)))))))
        clear od sd ed ld hke hC tC hbk hB hO hnd hge hP1 hZ hZ2 htk hZ1
        go_wp2_with fail
        ((with_reducible refine (to_Object _ hbk2 HO.out).mono ?_); rintro e w1 ⟨R, fq, rfl, oR, nR, gR, bb⟩)
        have hRl : R.toList.length = 6 := oR.len
        have hs2 := bb.size
        have B1 := HF.out.1.keep bb
        have st := hstore_run (P := Try.prog) (t := 28) Try.sizeOf28 (w := w1) (b := w.heap.size) (o := k * 6) (A := P1) (us := Z1) (R := Z2) (vs := R.toList) (by simpa using B1) HF.out.2.2.2.2.1 (by rw [hRl, HF.out.2.2.2.2.2.2.2]) hRl (fun v hv => oR.one v hv)
        have est : R.toList.toArray = R := by simp
        rw [est] at st
        have B2 : Blk (w1.setCells w.heap.size (k * 6) R.toList) w.heap.size ((P1 ++ R.toList) ++ Z2) := by have := Blk.sets (P := P1) (us := Z1) (vs := R.toList) (R := Z2) (w := w1) (b := w.heap.size) (o := k * 6) (by simpa using B1) HF.out.2.2.2.2.1 (by rw [hRl, HF.out.2.2.2.2.2.2.2]); simpa using this
        have q1 : OwnL (w1.setCells w.heap.size (k * 6) R.toList) (List.replicate k KObject) P1 (es.take k) f1 := ownL_sets (HF.out.2.1.under bb) (fun x hx e => by have := HF.out.2.2.2.1 x hx; omega) _ _
        have q2 : OwnL (w1.setCells w.heap.size (k * 6) R.toList) LObject R.toList ds fq := ownL_sets oR (fun x hx e => by have := gR x hx; omega) _ _
        have q3 : OwnL (w1.setCells w.heap.size (k * 6) R.toList) (List.replicate (k + 1) KObject) (P1 ++ R.toList) (es.take (k + 1)) (f1 ++ fq) := by rw [List.replicate_succ', HF.out.2.2.2.2.2.2.1]; exact q1.snoc (.st q2)
        have q4 : (f1 ++ fq).Nodup := List.nodup_append.2 ⟨HF.out.2.2.1, nR, fun x hx y hy e => by have := HF.out.2.1.lt x hx; have := gR y hy; omega⟩
        have q5 : ∀ b ∈ f1 ++ fq, w.heap.size + 1 ≤ b := fun b hx => (List.mem_append.1 hx).elim (fun h => HF.out.2.2.2.1 b h) (fun h => by have := gR b h; omega)
        have q6 : Below w.heap.size w (w1.setCells w.heap.size (k * 6) R.toList) := Below.setCells (Nat.le_refl _) R.toList (k * 6) (on_of hbel bb)
        have q7 : (P1 ++ R.toList).length = (k + 1) * 6 := by rw [List.length_append, HF.out.2.2.2.2.1, hRl, Nat.succ_mul]
        have HE := Lib.hid (And.intro B2 (And.intro q3 (And.intro q4 (And.intro q5 (And.intro q6 q7)))))
        clear B2 q1 q2 q3 q4 q5 q6 q7 oR B1 est hRl nR gR bb
        go_wp2
        go_roundw
        case rel => exact ⟨k + 1, P1 ++ R.toList, Z2, f1 ++ fq, by omega, by go_num, HE.out.1, HE.out.2.2.2.2.2, HF.out.2.2.2.2.2.1, HE.out.2.1, HE.out.2.2.1, HE.out.2.2.2.1, HE.out.2.2.2.2.1⟩
        case measure => simp [intOf]; omega
      · obtain rfl : k = n := by omega
        have hZe : Z = [] := List.eq_nil_of_length_eq_zero (by rw [hZ]; simp)
        subst hZe
        rw [List.append_nil] at hB
        have hes : es.take k = es := by rw [← H.out.2.1, List.take_length]
        rw [hes] at hO
        have x1 : (w.heap.size :: f1).Nodup := List.nodup_cons.2 ⟨fun (hm : w.heap.size ∈ f1) => by have := hge _ hm; omega, hnd⟩
        have x2 : ∀ b ∈ w.heap.size :: f1, w.heap.size ≤ b := fun b hm => by
          rcases List.mem_cons.1 hm with e | h
          · omega
          · have := hge b h; omega
        have HE := Lib.hid (And.intro (own_sl (n := k) (cap := k) hB hO (fun q hq => (List.mem_replicate.1 hq).2) H.out.2.1 h0 (Nat.le_refl _)) (And.intro x1 (And.intro x2 hbel)))
        clear x1 x2
        clear hB hO hnd hge hbel hes
        go_wp2
        go_ret
        exact ⟨_, _, _, rfl, HE.out.1, HE.out.2.1, HE.out.2.2.1, HE.out.2.2.2⟩
end Go.Proofs.Ytkabofbbioaapaa.Own
