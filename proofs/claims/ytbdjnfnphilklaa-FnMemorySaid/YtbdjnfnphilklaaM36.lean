/-
  Texts of this seat, laid together: Oa12, Rb12
-/
import Derived.Test.YtbdjnfnphilklaaM34
import Derived.Test.YtbdjnfnphilklaaM35
import Derived.Test.YtbdjnfnphilklaaM17
namespace Go.Proofs.Ytbdjnfnphilklaa.Own
open Go.ChangeShapes Go.WideShapes Go.ChangeAt Go.RowKit
open Kit Slabs Ints Point
open Go.Proofs.Ytbdjnfnphilklaa.Ins (Pt Bx obx obK gen_any9)
set_option linter.unusedVariables false
set_option linter.unusedSimpArgs false
set_option linter.unnecessarySimpa false
set_option maxRecDepth 100000
def Apo (w wr : World) (a : Option Addr) (n c : Nat) (es : List Dt) : Prop := es.length = n ∧ ∃ P fq, wr.ownsRow w.heap.size 40 6 (.slice a n c) n P ∧ OwnL wr (List.replicate n KObject) P es fq ∧ fq.Nodup ∧ (∀ b ∈ fq, w.heap.size ≤ b ∧ b ∉ rowL (.slice a n c)) ∧ Below w.heap.size w wr
theorem Apo.nil {w wr : World} (h : Below w.heap.size w wr) : Apo w wr none 0 0 [] :=
  ⟨rfl, [], [], World.ownsRow_nil _ _ _ _, .nil, List.nodup_nil, fun b hb => absurd hb List.not_mem_nil, h⟩
theorem Apo.start (w : World) : Apo w (w.alloc (.cells #[] 40)) (some ⟨w.heap.size, 0, none⟩) 0 0 [] :=
  ⟨rfl, [], [], World.ownsRow_made w #[] (e := 40) (size := 6) 0 (Nat.le_refl _) (by decide) (by simp), .nil, List.nodup_nil, fun b hb => absurd hb List.not_mem_nil, (Below.refl _ _).alloc (Nat.le_refl _) _⟩
theorem Apo.below {w wr : World} {a : Option Addr} {n c : Nat} {R : List Dt} (h : Apo w wr a n c R) : Below w.heap.size w wr := by
  obtain ⟨_, _, _, _, _, _, _, h⟩ := h; exact h
theorem Apo.len {w wr : World} {a : Option Addr} {n c : Nat} {R : List Dt} (h : Apo w wr a n c R) : R.length = n := h.1
theorem Apo.on {w wr w1 : World} {a : Option Addr} {n c : Nat} {R : List Dt} (h : Apo w wr a n c R) (hb : Below wr.heap.size wr w1) : Apo w w1 a n c R := by
  obtain ⟨h0, P, fq, h1, h2, h3, h4, h5⟩ := h
  exact ⟨h0, P, fq, row_on h1 hb, h2.under hb, h3, h4, on_of h5 hb⟩
theorem Apo.row {w wr : World} {a : Option Addr} {n c : Nat} {R : List Dt} (h : Apo w wr a n c R) : ∃ P, wr.ownsRow w.heap.size 40 6 (.slice a n c) n P ∧ ∀ (w1 w' : World) (a' : Option Addr) (c' : Nat) (us : List Value) (ds : List Dt) (f : List Nat),
    Below wr.heap.size wr w1 → OwnL w1 LObject us ds f → f.Nodup → (∀ b ∈ f, wr.heap.size ≤ b) → w'.ownsRow w.heap.size 40 6 (.slice a' (n + 1) c') (n + 1) (P ++ us) → w1.grownBy w' (Value.ownBlock (.slice a n c)) → (∀ b ∈ rowL (.slice a' (n + 1) c'), b ∈ rowL (.slice a n c) ∨ w1.heap.size ≤ b) →
    Apo w w' a' (n + 1) c' (R ++ [.st ds]) := by
  obtain ⟨h0, P, fq, h1, h2, h3, h4, h5⟩ := h
  refine ⟨P, h1, fun w1 w' a' c' us ds f hb ho hn hf hown hg hnew => ⟨by simp [h0], P ++ us, fq ++ f, hown, ?_, app_nodup h3 hn (fun x hx hy => by have := hf x hy; have := h2.lt x hx; omega), ?_, ?_⟩⟩
  · rw [List.replicate_succ']
    have ht := Turns.of_grown hg
    have hlt := rowL_ge h1
    refine OwnL.snoc ((h2.under hb).turned ht (fun b hb e => (h4 b hb).2 (by simp [rowL, e]))) (.st (ho.turned ht (fun b hb e => ?_)))
    have := hlt b (by simp [rowL, e])
    have := hf b hb
    omega
  · intro b hb2
    have hlt := rowL_ge h1
    rcases List.mem_append.1 hb2 with h | h
    · refine ⟨(h4 b h).1, fun hm => ?_⟩
      rcases hnew b hm with h6 | h6
      · exact (h4 b h).2 h6
      · have := h2.lt b h; have := hb.size; omega
    · have hge := hf b h
      refine ⟨by have := h5.size; omega, fun hm => ?_⟩
      rcases hnew b hm with h6 | h6
      · have := hlt b h6; omega
      · have := ho.lt b h; omega
  · have hlt := rowL_ge h1
    refine (on_of h5 hb).trans ((Turns.of_grown hg).below ?_ (fun k hk => ?_))
    · have := (on_of h5 hb).size; omega
    · exact (hlt k (by simp [rowL, hk])).1
def NewOs (es : List Dt) (w : World) (e : Ending) (w' : World) : Prop := ∃ (a : Option Addr) (c : Nat) (fp : List Nat), e = .returned (.slice a es.length c) ∧ Own w' (.sl KObject) [.slice a es.length c] (.sl es) fp ∧ fp.Nodup ∧ (∀ b ∈ fp, w.heap.size ≤ b) ∧ Below w.heap.size w w'
theorem Apo.done {w wr : World} {a : Option Addr} {n c : Nat} {R : List Dt} (h : Apo w wr a n c R) : NewOs R w (.returned (.slice a n c)) wr := by
  obtain ⟨h0, P, fq, h1, h2, h3, h4, h5⟩ := h
  subst h0
  refine ⟨a, c, _, rfl, row_own2 h1 h2, rowF_nodup h3 (fun b hb hm => (h4 b hm).2 hb), fun b hb => ?_, h5⟩
  rcases rowF_sub b hb with h | h
  · exact (rowL_ge h1 b h).1
  · exact (h4 b h).1
theorem objs_elt {w : World} {a : Option Addr} {c : Nat} {es : List Dt} {fp : List Nat} (hb : es.length + bulkL es ≤ 1048576) (h : Own w (.sl KObject) [.slice a es.length c] (.sl es) fp) {k : Nat} (hk : k < es.length) :
    ∃ g pa pc o fq, a = some ⟨g, 0, none⟩ ∧ g < w.heap.size ∧ es[k]? = some (.st o.dt) ∧ (∀ W, Below w.heap.size w W → ∀ j u, (sixo o pa pc)[j]? = some u → W.cell? ⟨g, k * 6 + j, none⟩ = some u) ∧ OwnL w LObject (sixo o pa pc) o.dt fq ∧ Ins.PathAt w pa o.path ∧ o.path.length ≤ 1048576 ∧ bulkL o.dt ≤ 1048576 := by
  obtain ⟨_, hr⟩ := h.row
  obtain ⟨g, rfl, _⟩ := hr (by omega)
  obtain ⟨hg, _, cs, ds, fq, ed, od, ld, _, hcell⟩ := h.elt hk
  have hbk := bulk_elt hk
  rw [ed] at hbk
  have hbd : bulkL ds ≤ 1048576 := by simp only [Dt.bulk] at hbk; omega
  have e2 := ob_dt od
  have od' : OwnL w LObject cs.toArray.toList (obOf ds).dt fq := by rw [← e2]; simpa using od
  obtain ⟨pa, pc, hA, hp⟩ := Ins.obj_open od'
  have hcs : cs = sixo (obOf ds) pa pc := by
    have := congrArg Array.toList hA
    simpa [sixo, sixv] using this
  rw [e2] at hbd
  refine ⟨g, pa, pc, obOf ds, fq, rfl, hg, by rw [List.getElem?_eq_getElem hk, ed, ← e2], fun W hW j u hu => ?_, ?_, hp, Ins.obj_len hbd, hbd⟩
  · rw [← hcs] at hu; exact hcell W hW j u hu
  · rw [← hcs]; simpa using od'
def tbO (ht bd : Int) (o : Ob) : Bool := tbB o.path o.gray o.x0 o.y0 o.x1 o.y1 ht bd
def tbD (ht bd : Int) (d : Dt) : Bool := tbO ht bd (obOf (unS d))
theorem tbD_st (ht bd : Int) (o : Ob) : tbD ht bd (.st o.dt) = tbO ht bd o := by
  show tbO ht bd (obOf o.dt) = _
  rw [ob_un]
def ofB (ht bd : Int) (es : List Dt) : List Dt := es.filter (tbD ht bd)
theorem ofB_next {ht bd : Int} {es : List Dt} {k : Nat} {o : Ob} (h : es[k]? = some (.st o.dt)) : ofB ht bd (es.take (k + 1)) = ofB ht bd (es.take k) ++ (if tbO ht bd o then [.st o.dt] else []) := by
  have hk : k < es.length := by
    rcases Nat.lt_or_ge k es.length with h1 | h1
    · exact h1
    · rw [List.getElem?_eq_none h1] at h; cases h
  rw [List.getElem?_eq_getElem hk, Option.some.injEq] at h
  rw [List.take_succ_eq_append_getElem hk, ofB, List.filter_append, h]
  rw [List.filter_cons, List.filter_nil, tbD_st]
  rfl
theorem sixo_one (o : Ob) (pa : Option Addr) (pc : Nat) : ∀ u ∈ sixo o pa pc, u.oneCell' = true := by
  intro u hu
  simp only [sixo, sixv, List.mem_cons, List.not_mem_nil, or_false] at hu
  rcases hu with rfl | rfl | rfl | rfl | rfl | rfl <;> rfl
theorem ob_six {w : World} {R : Array Value} {o : Ob} {F : List Nat} (h : OwnL w LObject R.toList o.dt F) : ∃ a c, R = #[.slice a o.path.length c, .int .i64 o.gray, .int .i64 o.x0, .int .i64 o.y0, .int .i64 o.x1, .int .i64 o.y1] := by
  obtain ⟨a0, c0, f0, hA, hf, o0⟩ := inv_Object_ h
  simp only [len_dP] at hA
  exact ⟨a0, c0, Array.toList_inj.1 hA⟩
end Go.Proofs.Ytbdjnfnphilklaa.Own
namespace Go.Proofs.Ytbdjnfnphilklaa.Own
open Go.ChangeShapes Go.WideShapes Go.ChangeAt Go.RowKit
open Kit Slabs Ints
open Go.Proofs.Ytbdjnfnphilklaa.Ins (Pt gen_any9 orow obK)
set_option linter.unusedVariables false
set_option linter.unusedSimpArgs false
set_option linter.unnecessarySimpa false
set_option maxRecDepth 100000
def pnF (f : Int) (R : List (List Int)) (o : Ob) : List (List Int) := pntR o.gray (rowsL o.path o.gray o.x0 o.y0 o.x1 o.y1 f) R
def whR (ht : Int) : List (List Int) := List.replicate ht.toNat whiteR
def rbR (ht bd : Int) (l : List Ob) : List (List Int) := if bnB ht bd then l.foldl (pnF (bd * ht)) (whR ht) else []
theorem pnF_len (f : Int) (R : List (List Int)) (o : Ob) : (pnF f R o).length = R.length := pntR_len _ _ _
theorem pnK_32 {g : Int} {L : Nat → List Pt} {R : List (List Int)} {k : Nat} (h : ∀ r ∈ R, r.length = 32) : ∀ r ∈ pntK g L R k, r.length = 32 := by
  intro r hr
  obtain ⟨i, hi, rfl⟩ := List.mem_iff_getElem.1 hr
  simp only [pntK, List.getElem_mapIdx]
  split
  · rw [pnt_len]; exact h _ (List.getElem_mem _)
  · exact h _ (List.getElem_mem _)
theorem foldF (f : Int) (l : List Ob) : ∀ {R : List (List Int)} {n : Nat}, R.length = n → (∀ r ∈ R, r.length = 32) → (l.foldl (pnF f) R).length = n ∧ ∀ r ∈ l.foldl (pnF f) R, r.length = 32 := by
  induction l with
  | nil => intro R n h1 h2; exact ⟨h1, h2⟩
  | cons o l ih => intro R n h1 h2; exact ih (by rw [pnF_len]; exact h1) (pnK_32 h2)
theorem whR_len (ht : Int) : (whR ht).length = ht.toNat := List.length_replicate
theorem whR_32 (ht : Int) : ∀ r ∈ whR ht, r.length = 32 := fun r hr => by rw [(List.mem_replicate.1 hr).2]; exact whiteR_len
theorem whitesh_impl (w : World) (ht : Int) (h : 0 < ht ∧ ht ≤ 32) : Calls Try.prog 33 #[.int .i64 ht] w (SsNew (whR ht) w) := by
  have := whites_impl w ht
  rw [if_pos (by omega)] at this
  exact this
set_option maxHeartbeats 4000000 in
theorem render_impl (w : World) (a : Option Addr) (c : Nat) (l : List Ob) (ht bd : Int) (hn : l.length ≤ 1048576) (h : ObL w a l) :
    Calls Try.prog 18 #[.slice a l.length c, .int .i64 ht, .int .i64 bd] w (SsNew (rbR ht bd l) w) := by
  have HP := Lib.hid h
  obtain ⟨n, hN⟩ : ∃ n, l.length = n := ⟨_, rfl⟩
  have HN := Lib.hid hN
  have HI := Lib.hid (fun W => isband_impl ht bd W)
  rw [hN] at hn ⊢
  clear hN h
  cases hb : bnB ht bd
  · rw [hb] at HI
    have HV := Lib.hid (show rbR ht bd l = [] from by simp [rbR, hb])
    clear hb
    go_enter Try.func18, Try.ntmps18
    go_wp2_with fail
    ((with_reducible refine (HI.out _).mono ?_); rintro e w1 ⟨rfl, bb⟩)
    have HB := Lib.hid bb
    clear bb
    go_wp2
    go_ret
    rw [HV.out]
    exact ss_nil _ _ _ _ HB.out
  · obtain ⟨b0, b1, b2, b3, b4, b5⟩ := bn_rows hb
    have e1 : IntKind.i64.wrap (bd * ht) = bd * ht := IntWalk.i64_in _ ⟨by omega, by omega⟩
    have HW := Lib.hid (fun W => whitesh_impl W ht ⟨b1, b2⟩)
    have HV := Lib.hid (show rbR ht bd l = l.foldl (pnF (bd * ht)) (whR ht) from by simp [rbR, hb])
    have HL := Lib.hid (And.intro (whR_len ht) (whR_32 ht))
    obtain ⟨m, rfl⟩ : ∃ m : Nat, ht = (m : Int) := ⟨ht.toNat, by omega⟩
    have hm : m ≤ 32 := by omega
    rw [hb] at HI
    generalize hf : bd * (m : Int) = f at *
    rw [Int.toNat_natCast] at HL
    generalize whR (m : Int) = R0 at *
    have HF := Lib.hid (show 0 ≤ f ∧ f ≤ 32 from ⟨b3, by omega⟩)
    clear hb
    go_enter Try.func18, Try.ntmps18
    go_wp2_with fail
    ((with_reducible refine (HI.out _).mono ?_); rintro e w1 ⟨rfl, bb⟩)
    have HB := Lib.hid bb
    clear bb
    go_wp2_with fail
    ((with_reducible refine (HW.out _).mono ?_); rintro e w2 ⟨ra, rc, fp, rfl, ho, hnd, hge, bb⟩)
    have hs1 := HB.out.size
    rw [HL.out.1] at ho ⊢
    have HO := Lib.hid (And.intro hnd (And.intro (show ∀ b ∈ fp, w.heap.size ≤ b from fun b hb => Nat.le_trans hs1 (hge b hb)) (And.intro ho (on_of HB.out bb))))
    clear ho hnd hge bb
    go_wp2
    go_loopw [18] (fun v18 wr => ∃ k : Nat, k ≤ n ∧ v18 = .int .i64 (k : Int) ∧ Hid (Own wr KSS [.slice ra m rc] (.sl (dR ((l.take k).foldl (pnF f) R0))) fp ∧ Below w.heap.size w wr)) (fun v18 _ => n - (intOf v18).toNat)
    case atStart => exact ⟨0, Nat.zero_le _, rfl, Lib.hid ⟨HO.out.2.2.1, HO.out.2.2.2⟩⟩
    case round =>
      obtain ⟨k, hk, rfl, hI⟩ := hrel
      by_cases hlt : k < n
      · have hkl : k < l.length := by rw [HN.out]; exact hlt
        obtain ⟨g, rfl, hg, hc⟩ := HP.out.some (by rw [HN.out]; omega)
        obtain ⟨pa, pc, h6, hpa, hpl⟩ := hc k hkl
        have htk : (l.take (k + 1)).foldl (pnF f) R0 = pnF f ((l.take k).foldl (pnF f) R0) (l.getD k ob0) := by
          rw [List.take_succ_eq_append_getElem hkl, List.foldl_append]
          simp [List.getD, List.getElem?_eq_getElem hkl]
        obtain ⟨f1, f2⟩ := foldF f (l.take k) HL.out.1 HL.out.2
        obtain ⟨o, hx⟩ : ∃ o, l.getD k ob0 = o := ⟨_, rfl⟩
        rw [hx] at h6 hpa hpl htk
        obtain ⟨R, hR⟩ : ∃ R, (l.take k).foldl (pnF f) R0 = R := ⟨_, rfl⟩
        rw [hR] at f1 f2 htk hI
        have up : ∀ j u, (sixo o pa pc)[j]? = some u → wr.cell? ⟨g, k * 6 + j, none⟩ = some u := fun j u hu => (hI.out.2.cell (p := ⟨g, k * 6 + j, none⟩) hg).trans (h6 j u hu)
        have q0 : wr.cell? ⟨g, k * 6, none⟩ = some (.slice pa o.path.length pc) := up 0 _ rfl
        have q1 : wr.cell? ⟨g, k * 6 + 1, none⟩ = some (.int .i64 o.gray) := up 1 _ rfl
        have q2 : wr.cell? ⟨g, k * 6 + 2, none⟩ = some (.int .i64 o.x0) := up 2 _ rfl
        have q3 : wr.cell? ⟨g, k * 6 + 3, none⟩ = some (.int .i64 o.y0) := up 3 _ rfl
        have q4 : wr.cell? ⟨g, k * 6 + 4, none⟩ = some (.int .i64 o.x1) := up 4 _ rfl
        have q5 : wr.cell? ⟨g, k * 6 + 5, none⟩ = some (.int .i64 o.y1) := up 5 _ rfl
        have hb1 : Below wr.heap.size wr (wr.alloc (.cells #[.slice pa o.path.length pc, .int .i64 o.gray, .int .i64 o.x0, .int .i64 o.y0, .int .i64 o.x1, .int .i64 o.y1] 40)) := by go_grown
        have hB2 := on_of hI.out.2 hb1
        have hPt := paint_any _ ra rc R fp f pa pc o.path o.gray o.x0 o.y0 o.x1 o.y1 hpl (by omega) f2 HF.out (by rw [f1]; exact hI.out.1.under hb1) HO.out.1 (fun W hW => hpa.on (hB2.trans (hW.below hB2.size HO.out.2.1)))
        rw [f1] at hPt
        have HPt := Lib.hid hPt
        have HX := Lib.hid (And.intro htk hB2)
        have i0 : (0 : Int) ≤ (k : Int) := by omega
        have i1 : (k : Int) < (n : Int) := by omega
        have hgl : g < wr.heap.size := Nat.lt_of_lt_of_le hg hI.out.2.size
        clear hx hR up hpa hpl h6 hc hb1 hB2 hPt f1 f2 htk
        go_wp2_with fail
        clear q0 q1 q2 q3 q4 q5
        ((with_reducible refine HPt.out.mono ?_); rintro e w3 ⟨rfl, ho3, ht3⟩)
        have HI2 := Lib.hid (show Own w3 KSS [.slice ra m rc] (.sl (dR ((l.take (k + 1)).foldl (pnF f) R0))) fp ∧ Below w.heap.size w w3 from ⟨by rw [HX.out.1]; exact ho3, HX.out.2.trans (ht3.below HX.out.2.size HO.out.2.1)⟩)
        clear ho3 ht3 HPt
        go_wp2
        go_roundw
        case rel => exact ⟨k + 1, by omega, by go_num, HI2⟩
        case measure => simp [intOf]; omega
      · obtain rfl : k = n := by omega
        have htk : l.take k = l := by rw [← HN.out, List.take_length]
        rw [htk] at hI
        have hl32 := (foldF f l HL.out.1 HL.out.2).1
        have HR := Lib.hid (show SsNew (rbR (m : Int) bd l) w (.returned (.slice ra m rc)) wr from by
          rw [HV.out]
          exact ⟨ra, rc, fp, by rw [hl32], by rw [hl32]; exact hI.out.1, HO.out.1, HO.out.2.1, hI.out.2⟩)
        clear hl32 htk
        go_wp2
        go_ret
        exact HR.out
end Go.Proofs.Ytbdjnfnphilklaa.Own
