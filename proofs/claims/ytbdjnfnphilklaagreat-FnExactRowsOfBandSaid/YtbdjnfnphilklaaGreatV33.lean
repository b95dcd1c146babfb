/-
  Texts of this seat, laid together: Ms10, Lw10, Oa12, Rb12, Bd13
-/
import Derived.Test.YtbdjnfnphilklaaGreatV16
import Derived.Test.YtbdjnfnphilklaaGreatV14
import Derived.Test.YtbdjnfnphilklaaGreatV27
import Derived.Test.YtbdjnfnphilklaaGreatV13
import Derived.Test.YtbdjnfnphilklaaGreatV26
import Derived.Test.YtbdjnfnphilklaaGreatV31
import Derived.Test.YtbdjnfnphilklaaGreatV32
import Derived.Test.YtbdjnfnphilklaaGreatV15
namespace Go.Proofs.YtbdjnfnphilklaaGreat.Ins
open Go.ChangeShapes Go.WideShapes Go.ChangeAt Go.RowKit
open Kit Point Slabs
open Go.Proofs.YtbdjnfnphilklaaGreat.Own (Blk Ob grayB OwnL LObject KPt dP dPt)
set_option linter.unusedVariables false
set_option linter.unusedSimpArgs false
set_option linter.unnecessarySimpa false
set_option maxRecDepth 100000
structure MvT (W w : World) (GA GR : Nat) (cs : List Value) : Prop where
  A : Blk W GA cs
  R : Blk W GR [.slice none 0 0, .int .i64 0, .int .i64 0, .int .i64 0, .int .i64 0, .int .i64 0]
  B : Below w.heap.size w W
theorem MvT.on {W w V : World} {GA GR : Nat} {cs : List Value} (h : MvT W w GA GR cs) (hb : Below W.heap.size W V) : MvT V w GA GR cs :=
  ⟨h.A.keep hb, h.R.keep hb, on_of h.B hb⟩
theorem MvS.two {W w : World} {GA GR GM : Nat} {cs ms : List Value} (h : MvS W w GA GR GM cs ms) : MvT W w GA GR cs := ⟨h.A, h.R, h.B⟩
theorem shV_no {l : List Pt} {dx dy : Int} (h : (inB dx && inB dy) = false) : shV l (dx, dy) = [] := shV_far h
end Go.Proofs.YtbdjnfnphilklaaGreat.Ins
namespace Go.Proofs.YtbdjnfnphilklaaGreat.Own
open Go.ChangeShapes Go.WideShapes Go.ChangeAt Go.RowKit
open Kit Slabs
set_option linter.unusedVariables false
set_option linter.unusedSimpArgs false
set_option linter.unnecessarySimpa false
theorem spec_ObjectOk (w : World) {A : Array Value} {ds : List Dt} {fp : List Nat} (hb : bulkL ds ≤ 1048576) (h : OwnL w LObject A.toList ds fp) : Calls Tryz.prog 52 #[.agg A] w fun e w' => e = .returned (.bool (obB (obOf ds))) ∧ Below w.heap.size w w' := by
  have e := ob_dt h
  rw [e] at hb h
  obtain ⟨a, c, rfl, hp⟩ := Ins.obj_open h
  exact Ins.ok_spec w a c _ _ _ _ _ _ (Ins.obj_len hb) hp
theorem impl_ObjectOk (w : World) {A : Array Value} {ds : List Dt} {fp : List Nat} (hb : bulkL ds ≤ 1048576) (h : OwnL w LObject A.toList ds fp) : Calls Tryz.prog 37 #[.agg A] w fun e w' => e = .returned (.bool (obB (obOf ds))) ∧ Below w.heap.size w w' := by
  have e := ob_dt h
  rw [e] at hb h
  obtain ⟨a, c, rfl, hp⟩ := Ins.obj_open h
  exact Ins.ok_impl w a c _ _ _ _ _ _ (Ins.obj_len hb) hp
def obD (o : Ob) : Int := Ins.odV o.path o.gray o.x0 o.y0 o.x1 o.y1
def obX (o : Ob) : Ins.Bx := Ins.obx o.path o.gray o.x0 o.y0 o.x1 o.y1
theorem spec_ObjectBox (w : World) {A : Array Value} {ds : List Dt} {fp : List Nat} (hb : bulkL ds ≤ 1048576) (h : OwnL w LObject A.toList ds fp) {p0 p1 p2 p3 : Int} (hX : obX (obOf ds) = ⟨p0, p1, p2, p3⟩) : Calls Tryz.prog 87 #[.agg A] w fun e w' => e = .returned (.agg #[.int .i64 p0, .int .i64 p1, .int .i64 p2, .int .i64 p3]) ∧ Below w.heap.size w w' := by
  have e := ob_dt h
  rw [e] at hb h
  obtain ⟨a, c, rfl, hp⟩ := Ins.obj_open h
  have := Ins.obox_spec w a c _ (obOf ds).gray (obOf ds).x0 (obOf ds).y0 (obOf ds).x1 (obOf ds).y1 (Ins.obj_len hb) hp
  rw [show Ins.obx (obOf ds).path (obOf ds).gray (obOf ds).x0 (obOf ds).y0 (obOf ds).x1 (obOf ds).y1 = ⟨p0, p1, p2, p3⟩ from hX] at this
  exact this
theorem impl_ObjectBox (w : World) {A : Array Value} {ds : List Dt} {fp : List Nat} (hb : bulkL ds ≤ 1048576) (h : OwnL w LObject A.toList ds fp) {p0 p1 p2 p3 : Int} (hX : obX (obOf ds) = ⟨p0, p1, p2, p3⟩) : Calls Tryz.prog 91 #[.agg A] w fun e w' => e = .returned (.agg #[.int .i64 p0, .int .i64 p1, .int .i64 p2, .int .i64 p3]) ∧ Below w.heap.size w w' := by
  have e := ob_dt h
  rw [e] at hb h
  obtain ⟨a, c, rfl, hp⟩ := Ins.obj_open h
  have := Ins.obox_impl w a c _ (obOf ds).gray (obOf ds).x0 (obOf ds).y0 (obOf ds).x1 (obOf ds).y1 (Ins.obj_len hb) hp
  rw [show Ins.obx (obOf ds).path (obOf ds).gray (obOf ds).x0 (obOf ds).y0 (obOf ds).x1 (obOf ds).y1 = ⟨p0, p1, p2, p3⟩ from hX] at this
  exact this
def obS (o : Ob) (y : Int) : List (Int × Int) := Ins.orow o.path o.gray o.x0 o.y0 o.x1 o.y1 y
theorem obS_le (ds : List Dt) (hd : ds = (obOf ds).dt) (hb : bulkL ds ≤ 1048576) (y : Int) : (dP (obS (obOf ds) y)).length ≤ 1048576 := by
  rw [len_dP]
  rw [hd] at hb
  exact Nat.le_trans (Ins.orow_len _ _ _ _ _ _ _) (Ins.obj_len hb)
theorem own_spans {w : World} {B : Nat} {v : Value} {m : List (Int × Int)} (h : w.ownsRow B 105 2 v m.length (Ins.cellsP m)) : ∃ fp, Own w (.sl KPt) [v] (.sl (dP m)) fp ∧ fp.Nodup ∧ ∀ b ∈ fp, B ≤ b := by
  have hs := Ins.slab_owns9 h
  refine ⟨_, pts_own hs (len_dP m) (fun i hi => ⟨Ins.pX m i, Ins.pY m i, ?_, rfl⟩), ?_, fun b hb => (hs.row b (by simpa using hb)).1⟩
  · simp only [at_, dP, List.getD_eq_getElem?_getD, List.getElem?_map, List.getElem?_eq_getElem hi, Option.map_some, Option.getD_some, dPt, Ins.pX, Ins.pY]
  · cases rowOf m.length v <;> simp
theorem spec_ObjectRow (w : World) {A : Array Value} {ds : List Dt} {fp : List Nat} (hb : bulkL ds ≤ 1048576) (h : OwnL w LObject A.toList ds fp) (y : Int) : Calls Tryz.prog 83 #[.agg A, .int .i64 y] w fun e w' => ∃ (u : Value) (fp : List Nat), e = .returned u ∧ Own w' (.sl KPt) [u] (.sl (dP (obS (obOf ds) y))) fp ∧ fp.Nodup ∧ (∀ b ∈ fp, w.heap.size ≤ b) ∧ Below w.heap.size w w' := by
  have e := ob_dt h
  rw [e] at hb h
  obtain ⟨a, c, rfl, hp⟩ := Ins.obj_open h
  refine (Ins.orow_spec w a c _ (obOf ds).gray (obOf ds).x0 (obOf ds).y0 (obOf ds).x1 (obOf ds).y1 y (Ins.obj_len hb) hp).mono fun e w' ⟨u, he, ho, hb⟩ => ?_
  obtain ⟨f, h1, h2, h3⟩ := own_spans ho
  exact ⟨u, f, he, h1, h2, h3, hb⟩
theorem impl_ObjectRow (w : World) {A : Array Value} {ds : List Dt} {fp : List Nat} (hb : bulkL ds ≤ 1048576) (h : OwnL w LObject A.toList ds fp) (y : Int) : Calls Tryz.prog 104 #[.agg A, .int .i64 y] w fun e w' => ∃ (u : Value) (fp : List Nat), e = .returned u ∧ Own w' (.sl KPt) [u] (.sl (dP (obS (obOf ds) y))) fp ∧ fp.Nodup ∧ (∀ b ∈ fp, w.heap.size ≤ b) ∧ Below w.heap.size w w' := by
  have e := ob_dt h
  rw [e] at hb h
  obtain ⟨a, c, rfl, hp⟩ := Ins.obj_open h
  refine (Ins.orow_impl w a c _ (obOf ds).gray (obOf ds).x0 (obOf ds).y0 (obOf ds).x1 (obOf ds).y1 y (Ins.obj_len hb) hp).mono fun e w' ⟨u, he, ho, hb⟩ => ?_
  obtain ⟨f, h1, h2, h3⟩ := own_spans ho
  exact ⟨u, f, he, h1, h2, h3, hb⟩
theorem bulk_ob (o : Ob) : bulkL o.dt = o.path.length := by simp only [Ob.dt, bulkL, Dt.bulk, len_dP, bulk_dP]; omega
end Go.Proofs.YtbdjnfnphilklaaGreat.Own
namespace Go.Proofs.YtbdjnfnphilklaaGreat.Own
open Go.ChangeShapes Go.WideShapes Go.ChangeAt Go.RowKit
open Kit Slabs Ints Point
open Go.Proofs.YtbdjnfnphilklaaGreat.Ins (Pt Bx obx obK gen_any9)
set_option linter.unusedVariables false
set_option linter.unusedSimpArgs false
set_option linter.unnecessarySimpa false
set_option maxRecDepth 100000
def Apo (w wr : World) (a : Option Addr) (n c : Nat) (es : List Dt) : Prop := es.length = n ∧ ∃ P fq, wr.ownsRow w.heap.size 53 6 (.slice a n c) n P ∧ OwnL wr (List.replicate n KObject) P es fq ∧ fq.Nodup ∧ (∀ b ∈ fq, w.heap.size ≤ b ∧ b ∉ rowL (.slice a n c)) ∧ Below w.heap.size w wr
theorem Apo.nil {w wr : World} (h : Below w.heap.size w wr) : Apo w wr none 0 0 [] :=
  ⟨rfl, [], [], World.ownsRow_nil _ _ _ _, .nil, List.nodup_nil, fun b hb => absurd hb List.not_mem_nil, h⟩
theorem Apo.start (w : World) : Apo w (w.alloc (.cells #[] 53)) (some ⟨w.heap.size, 0, none⟩) 0 0 [] :=
  ⟨rfl, [], [], World.ownsRow_made w #[] (e := 53) (size := 6) 0 (Nat.le_refl _) (by decide) (by simp), .nil, List.nodup_nil, fun b hb => absurd hb List.not_mem_nil, (Below.refl _ _).alloc (Nat.le_refl _) _⟩
theorem Apo.below {w wr : World} {a : Option Addr} {n c : Nat} {R : List Dt} (h : Apo w wr a n c R) : Below w.heap.size w wr := by
  obtain ⟨_, _, _, _, _, _, _, h⟩ := h; exact h
theorem Apo.len {w wr : World} {a : Option Addr} {n c : Nat} {R : List Dt} (h : Apo w wr a n c R) : R.length = n := h.1
theorem Apo.on {w wr w1 : World} {a : Option Addr} {n c : Nat} {R : List Dt} (h : Apo w wr a n c R) (hb : Below wr.heap.size wr w1) : Apo w w1 a n c R := by
  obtain ⟨h0, P, fq, h1, h2, h3, h4, h5⟩ := h
  exact ⟨h0, P, fq, row_on h1 hb, h2.under hb, h3, h4, on_of h5 hb⟩
theorem Apo.row {w wr : World} {a : Option Addr} {n c : Nat} {R : List Dt} (h : Apo w wr a n c R) : ∃ P, wr.ownsRow w.heap.size 53 6 (.slice a n c) n P ∧ ∀ (w1 w' : World) (a' : Option Addr) (c' : Nat) (us : List Value) (ds : List Dt) (f : List Nat),
    Below wr.heap.size wr w1 → OwnL w1 LObject us ds f → f.Nodup → (∀ b ∈ f, wr.heap.size ≤ b) → w'.ownsRow w.heap.size 53 6 (.slice a' (n + 1) c') (n + 1) (P ++ us) → w1.grownBy w' (Value.ownBlock (.slice a n c)) → (∀ b ∈ rowL (.slice a' (n + 1) c'), b ∈ rowL (.slice a n c) ∨ w1.heap.size ≤ b) →
    Apo w w' a' (n + 1) c' (R ++ [.st ds]) := by
  obtain ⟨h0, P, fq, h1, h2, h3, h4, h5⟩ := h
  refine ⟨P, h1, fun w1 w' a' c' us ds f hb ho hn hf hown hg hnew => ⟨by simp [h0], P ++ us, fq ++ f, hown, ?_, app_nodup h3 hn (fun x hx hy => by have := hf x hy; have := h2.lt x hx; omega), ?_, ?_⟩⟩
  · rw [List.replicate_succ']
    have ht := Turns.of_grown hg
    have hlt := rowL_ge h1
    refine OwnL.snoc ((h2.under hb).turned ht (fun b hb e => (h4 b hb).2 (by simp [rowL, e]))) (.st (ho.turned ht (fun b hb e => ?_)))
    have := hlt b (by simp [rowL, e])
    have := hf b hb
    omega
  · intro b hb2
    have hlt := rowL_ge h1
    rcases List.mem_append.1 hb2 with h | h
    · refine ⟨(h4 b h).1, fun hm => ?_⟩
      rcases hnew b hm with h6 | h6
      · exact (h4 b h).2 h6
      · have := h2.lt b h; have := hb.size; omega
    · have hge := hf b h
      refine ⟨by have := h5.size; omega, fun hm => ?_⟩
      rcases hnew b hm with h6 | h6
      · have := hlt b h6; omega
      · have := ho.lt b h; omega
  · have hlt := rowL_ge h1
    refine (on_of h5 hb).trans ((Turns.of_grown hg).below ?_ (fun k hk => ?_))
    · have := (on_of h5 hb).size; omega
    · exact (hlt k (by simp [rowL, hk])).1
def NewOs (es : List Dt) (w : World) (e : Ending) (w' : World) : Prop := ∃ (a : Option Addr) (c : Nat) (fp : List Nat), e = .returned (.slice a es.length c) ∧ Own w' (.sl KObject) [.slice a es.length c] (.sl es) fp ∧ fp.Nodup ∧ (∀ b ∈ fp, w.heap.size ≤ b) ∧ Below w.heap.size w w'
theorem Apo.done {w wr : World} {a : Option Addr} {n c : Nat} {R : List Dt} (h : Apo w wr a n c R) : NewOs R w (.returned (.slice a n c)) wr := by
  obtain ⟨h0, P, fq, h1, h2, h3, h4, h5⟩ := h
  subst h0
  refine ⟨a, c, _, rfl, row_own2 h1 h2, rowF_nodup h3 (fun b hb hm => (h4 b hm).2 hb), fun b hb => ?_, h5⟩
  rcases rowF_sub b hb with h | h
  · exact (rowL_ge h1 b h).1
  · exact (h4 b h).1
theorem objs_elt {w : World} {a : Option Addr} {c : Nat} {es : List Dt} {fp : List Nat} (hb : es.length + bulkL es ≤ 1048576) (h : Own w (.sl KObject) [.slice a es.length c] (.sl es) fp) {k : Nat} (hk : k < es.length) :
    ∃ g pa pc o fq, a = some ⟨g, 0, none⟩ ∧ g < w.heap.size ∧ es[k]? = some (.st o.dt) ∧ (∀ W, Below w.heap.size w W → ∀ j u, (sixo o pa pc)[j]? = some u → W.cell? ⟨g, k * 6 + j, none⟩ = some u) ∧ OwnL w LObject (sixo o pa pc) o.dt fq ∧ Ins.PathAt w pa o.path ∧ o.path.length ≤ 1048576 ∧ bulkL o.dt ≤ 1048576 := by
  obtain ⟨_, hr⟩ := h.row
  obtain ⟨g, rfl, _⟩ := hr (by omega)
  obtain ⟨hg, _, cs, ds, fq, ed, od, ld, _, hcell⟩ := h.elt hk
  have hbk := bulk_elt hk
  rw [ed] at hbk
  have hbd : bulkL ds ≤ 1048576 := by simp only [Dt.bulk] at hbk; omega
  have e2 := ob_dt od
  have od' : OwnL w LObject cs.toArray.toList (obOf ds).dt fq := by rw [← e2]; simpa using od
  obtain ⟨pa, pc, hA, hp⟩ := Ins.obj_open od'
  have hcs : cs = sixo (obOf ds) pa pc := by
    have := congrArg Array.toList hA
    simpa [sixo, sixv] using this
  rw [e2] at hbd
  refine ⟨g, pa, pc, obOf ds, fq, rfl, hg, by rw [List.getElem?_eq_getElem hk, ed, ← e2], fun W hW j u hu => ?_, ?_, hp, Ins.obj_len hbd, hbd⟩
  · rw [← hcs] at hu; exact hcell W hW j u hu
  · rw [← hcs]; simpa using od'
def tbO (ht bd : Int) (o : Ob) : Bool := tbB o.path o.gray o.x0 o.y0 o.x1 o.y1 ht bd
def tbD (ht bd : Int) (d : Dt) : Bool := tbO ht bd (obOf (unS d))
theorem tbD_st (ht bd : Int) (o : Ob) : tbD ht bd (.st o.dt) = tbO ht bd o := by
  show tbO ht bd (obOf o.dt) = _
  rw [ob_un]
def ofB (ht bd : Int) (es : List Dt) : List Dt := es.filter (tbD ht bd)
theorem ofB_next {ht bd : Int} {es : List Dt} {k : Nat} {o : Ob} (h : es[k]? = some (.st o.dt)) : ofB ht bd (es.take (k + 1)) = ofB ht bd (es.take k) ++ (if tbO ht bd o then [.st o.dt] else []) := by
  have hk : k < es.length := by
    rcases Nat.lt_or_ge k es.length with h1 | h1
    · exact h1
    · rw [List.getElem?_eq_none h1] at h; cases h
  rw [List.getElem?_eq_getElem hk, Option.some.injEq] at h
  rw [List.take_succ_eq_append_getElem hk, ofB, List.filter_append, h]
  rw [List.filter_cons, List.filter_nil, tbD_st]
  rfl
theorem sixo_one (o : Ob) (pa : Option Addr) (pc : Nat) : ∀ u ∈ sixo o pa pc, u.oneCell' = true := by
  intro u hu
  simp only [sixo, sixv, List.mem_cons, List.not_mem_nil, or_false] at hu
  rcases hu with rfl | rfl | rfl | rfl | rfl | rfl <;> rfl
theorem ob_six {w : World} {R : Array Value} {o : Ob} {F : List Nat} (h : OwnL w LObject R.toList o.dt F) : ∃ a c, R = #[.slice a o.path.length c, .int .i64 o.gray, .int .i64 o.x0, .int .i64 o.y0, .int .i64 o.x1, .int .i64 o.y1] := by
  obtain ⟨a0, c0, f0, hA, hf, o0⟩ := inv_Object_ h
  simp only [len_dP] at hA
  exact ⟨a0, c0, Array.toList_inj.1 hA⟩
end Go.Proofs.YtbdjnfnphilklaaGreat.Own
namespace Go.Proofs.YtbdjnfnphilklaaGreat.Own
open Go.ChangeShapes Go.WideShapes Go.ChangeAt Go.RowKit
open Kit Slabs Ints
open Go.Proofs.YtbdjnfnphilklaaGreat.Ins (Pt gen_any9 orow obK)
set_option linter.unusedVariables false
set_option linter.unusedSimpArgs false
set_option linter.unnecessarySimpa false
set_option maxRecDepth 100000
def pnF (f : Int) (R : List (List Int)) (o : Ob) : List (List Int) := pntR o.gray (rowsL o.path o.gray o.x0 o.y0 o.x1 o.y1 f) R
def whR (ht : Int) : List (List Int) := List.replicate ht.toNat whiteR
def rbR (ht bd : Int) (l : List Ob) : List (List Int) := if bnB ht bd then l.foldl (pnF (bd * ht)) (whR ht) else []
theorem pnF_len (f : Int) (R : List (List Int)) (o : Ob) : (pnF f R o).length = R.length := pntR_len _ _ _
theorem pnK_32 {g : Int} {L : Nat → List Pt} {R : List (List Int)} {k : Nat} (h : ∀ r ∈ R, r.length = 32) : ∀ r ∈ pntK g L R k, r.length = 32 := by
  intro r hr
  obtain ⟨i, hi, rfl⟩ := List.mem_iff_getElem.1 hr
  simp only [pntK, List.getElem_mapIdx]
  split
  · rw [pnt_len]; exact h _ (List.getElem_mem _)
  · exact h _ (List.getElem_mem _)
theorem foldF (f : Int) (l : List Ob) : ∀ {R : List (List Int)} {n : Nat}, R.length = n → (∀ r ∈ R, r.length = 32) → (l.foldl (pnF f) R).length = n ∧ ∀ r ∈ l.foldl (pnF f) R, r.length = 32 := by
  induction l with
  | nil => intro R n h1 h2; exact ⟨h1, h2⟩
  | cons o l ih => intro R n h1 h2; exact ih (by rw [pnF_len]; exact h1) (pnK_32 h2)
theorem whR_len (ht : Int) : (whR ht).length = ht.toNat := List.length_replicate
theorem whR_32 (ht : Int) : ∀ r ∈ whR ht, r.length = 32 := fun r hr => by rw [(List.mem_replicate.1 hr).2]; exact whiteR_len
end Go.Proofs.YtbdjnfnphilklaaGreat.Own
namespace Go.Proofs.YtbdjnfnphilklaaGreat.Own
open Go.ChangeShapes Go.WideShapes Go.ChangeAt Go.RowKit
open Kit Slabs Ints Point
set_option linter.unusedVariables false
set_option linter.unusedSimpArgs false
set_option linter.unnecessarySimpa false
structure Bd where
  h : Int
  n : Int
  base : List (List Int)
  objs : List Ob
def Bd.dt (b : Bd) : List Dt := [.int b.h, .int b.n, .sl (dR b.base), .sl (dO b.objs)]
def unR (es : List Dt) : List (List Int) := es.map fun d => (unS d).map unI
def unO (es : List Dt) : List Ob := es.map fun d => obOf (unS d)
def bdOf (ds : List Dt) : Bd := ⟨unI (at_ ds 0), unI (at_ ds 1), unR (unS (at_ ds 2)), unO (unS (at_ ds 3))⟩
theorem ownl_nth {w : World} {e : Kd} : ∀ {n : Nat} {P : List Value} {es : List Dt} {fq : List Nat}, OwnL w (List.replicate n e) P es fq → ∀ d ∈ es, ∃ cs f, Own w e cs d f
  | 0, _, _, _, h, d, hd => by cases h; simp at hd
  | n + 1, _, _, _, h, d, hd => by
    rw [List.replicate_succ] at h
    cases h with
    | cons h r =>
      rcases List.mem_cons.1 hd with rfl | hd
      · exact ⟨_, _, h⟩
      · exact ownl_nth r d hd
theorem rows_dt {w : World} {v : Value} {es : List Dt} {fp : List Nat} (h : Own w KSS [v] (.sl es) fp) : es = dR (unR es) := by
  refine map_same (f := fun d => (unS d).map unI) (g := fun r : List Int => Dt.sl (dI r)) fun d hd => ?_
  have key : ∃ cs f, Own w (.sl .int) cs d f := by
    rcases h.sl_is with ⟨a, cap, rfl, hdn, hf⟩ | ⟨g, n, cap, es', P, fq, rfl, hdn, hf, hl, hn, hnc, hP, ho, hb⟩
    · simp only [Dt.sl.injEq] at hdn
      subst hdn; simp at hd
    · simp only [Dt.sl.injEq] at hdn
      subst hdn
      exact ownl_nth ho d hd
  obtain ⟨cs, f, ho⟩ := key
  have hl := ho.len
  obtain ⟨v, rfl⟩ : ∃ v, cs = [v] := by
    match cs, hl with
    | [v], _ => exact ⟨v, rfl⟩
  obtain ⟨es', rfl⟩ : ∃ es', d = .sl es' := by cases ho <;> exact ⟨_, rfl⟩
  rw [unS_sl, ← ints_dt ho]
theorem bd_dt {w : World} {cs : List Value} {ds : List Dt} {fp : List Nat} (h : OwnL w LBand cs ds fp) : ds = (bdOf ds).dt := by
  obtain ⟨a2, c2, a3, c3, q0, q1, s2, s3, f2, f3, _, rfl, _, o2, o3⟩ := inv_Band h
  show _ = [Dt.int q0, Dt.int q1, .sl (dR (unR s2)), .sl (dO (s3.map fun d => obOf (unS d)))]
  rw [← rows_dt o2, ← obs_dt o3]
theorem un_rows (R : List (List Int)) : unR (dR R) = R := by
  simp only [unR, dR, List.map_map]
  exact List.map_id'' (fun r => by simp [unS, un_ints]) _
theorem un_objs (l : List Ob) : unO (dO l) = l := by
  simp only [unO, dO, List.map_map]
  exact List.map_id'' (fun g => by simp [unS, ob_un]) _
theorem bd_un (b : Bd) : bdOf b.dt = b := by
  simp only [Bd.dt, bdOf, at_, unS, unI, List.getD_cons_zero, List.getD_cons_succ, un_rows, un_objs]
/-! ### What the functions answer -/
def cellsN (l : List Ob) : Nat := (l.map fun o => 2 + o.path.length).sum
theorem cells_nil : cellsN [] = 0 := rfl
theorem cells_app (l m : List Ob) : cellsN (l ++ m) = cellsN l + cellsN m := by simp [cellsN]
theorem cells_one (o : Ob) : cellsN [o] = 2 + o.path.length := by simp [cellsN]
theorem cells_take {l : List Ob} {k : Nat} (hk : k < l.length) : cellsN (l.take (k + 1)) = cellsN (l.take k) + (2 + (l.getD k ob0).path.length) := by
  rw [List.take_succ_eq_append_getElem hk, cells_app, cells_one]
  simp [List.getD, List.getElem?_eq_getElem hk]
def bdB (b : Bd) : Bool := bnB b.h b.n && decide ((b.base.length : Int) = b.h) && rowsB b.base && b.objs.all okO && decide (cellsN b.objs ≤ 60)
def mgR (b : Bd) : List (List Int) := b.objs.foldl (pnF (b.n * b.h)) b.base
def mgD (b : Bd) : Bd := if bdB b then ⟨b.h, b.n, mgR b, []⟩ else b
def adF (b : Bd) (o : Ob) : Bool := bdB b && okO o
def adI (b : Bd) (o : Ob) : Bd := if cellsN b.objs + (2 + o.path.length) ≤ 60 then ⟨b.h, b.n, b.base, b.objs ++ [o]⟩ else ⟨b.h, b.n, mgR b, [o]⟩
def adD (b : Bd) (o : Ob) : Bd := if adF b o && tbO b.h b.n o then adI b o else b
def rbD (b : Bd) : List (List Int) := if bdB b then mgR b else []
def bd0 : Bd := ⟨0, 0, [], []⟩
def nbD (h n : Int) : Bd := if bnB h n then ⟨h, n, whR h, []⟩ else bd0
theorem bd_parts {b : Bd} (h : bdB b = true) : bnB b.h b.n = true ∧ (b.base.length : Int) = b.h ∧ rowsB b.base = true ∧ b.objs.all okO = true ∧ cellsN b.objs ≤ 60 := by
  simp only [bdB, Bool.and_eq_true, decide_eq_true_eq] at h
  exact ⟨h.1.1.1.1, h.1.1.1.2, h.1.1.2, h.1.2, h.2⟩
/-! ### Memory -/
def BdRows (w : World) (B : Nat) (R : List Value) (b : Bd) (F : List Nat) : Prop := ∃ (ra : Option Addr) (rc : Nat) (rf : List Nat) (oa : Option Addr) (oc : Nat) (F2 : List Nat),
  R = [.int .i64 b.h, .int .i64 b.n, .slice ra b.base.length rc, .slice oa b.objs.length oc] ∧ Own w KSS [.slice ra b.base.length rc] (.sl (dR b.base)) rf ∧ ObsRow w B oa oc b.objs F2 ∧ F = rf ++ F2 ∧ F.Nodup ∧ ∀ x ∈ F, B ≤ x
theorem mk_bd {w : World} {ra oa : Option Addr} {rc oc : Nat} {b : Bd} {rf of : List Nat} (o2 : Own w KSS [.slice ra b.base.length rc] (.sl (dR b.base)) rf) (o3 : Own w (.sl KObject) [.slice oa b.objs.length oc] (.sl (dO b.objs)) of) :
    OwnL w LBand [.int .i64 b.h, .int .i64 b.n, .slice ra b.base.length rc, .slice oa b.objs.length oc] b.dt (rf ++ of) := by
  have := OwnL.cons (cs := [.int .i64 b.h]) (fp := []) (.int b.h) (.cons (cs := [.int .i64 b.n]) (fp := []) (.int b.n) (.cons o2 (.cons o3 .nil)))
  simp only [List.cons_append, List.nil_append, List.append_nil] at this
  exact this
theorem BdRows.own {w : World} {B : Nat} {R : List Value} {b : Bd} {F : List Nat} (h : BdRows w B R b F) : ∃ f, OwnL w LBand R b.dt f ∧ f.Nodup ∧ ∀ x ∈ f, x ∈ F := by
  obtain ⟨ra, rc, rf, oa, oc, F2, rfl, o2, o3, rfl, hn, hB⟩ := h
  obtain ⟨f3, q3, m3, s3⟩ := o3.own
  obtain ⟨n1, n2, d⟩ := nodup_parts hn
  refine ⟨_, mk_bd o2 q3, app_nodup n1 m3 (fun x hx hy => d x hx (s3 x hy)), fun x hx => ?_⟩
  rcases List.mem_append.1 hx with h | h
  · exact List.mem_append_left _ h
  · exact List.mem_append_right _ (s3 x h)
theorem BdRows.lt {w : World} {B : Nat} {R : List Value} {b : Bd} {F : List Nat} (h : BdRows w B R b F) : ∀ x ∈ F, x < w.heap.size := by
  obtain ⟨ra, rc, rf, oa, oc, F2, rfl, o2, o3, rfl, hn, hB⟩ := h
  exact mem2 (p := fun b => b < w.heap.size) o2.lt o3.lt
theorem BdRows.ge {w : World} {B : Nat} {R : List Value} {b : Bd} {F : List Nat} (h : BdRows w B R b F) : ∀ x ∈ F, B ≤ x := by
  obtain ⟨ra, rc, rf, oa, oc, F2, rfl, o2, o3, rfl, hn, hB⟩ := h; exact hB
theorem BdRows.stays {w w' : World} {B : Nat} {R : List Value} {b : Bd} {F : List Nat} (h : BdRows w B R b F) (hs : w.heap.size ≤ w'.heap.size) (hb : ∀ x ∈ F, w'.heap[x]? = w.heap[x]?) : BdRows w' B R b F := by
  obtain ⟨ra, rc, rf, oa, oc, F2, rfl, o2, o3, rfl, hn, hB⟩ := h
  exact ⟨ra, rc, rf, oa, oc, F2, rfl, o2.stays hs (fun x hm => hb x (by simp [hm])), o3.stays hs (fun x hm => hb x (by simp [hm])), rfl, hn, hB⟩
theorem BdRows.under {w w' : World} {B : Nat} {R : List Value} {b : Bd} {F : List Nat} (h : BdRows w B R b F) (hb : Below w.heap.size w w') : BdRows w' B R b F := h.stays hb.size (fun x hm => hb.block x (h.lt x hm))
theorem BdRows.turned {w w' : World} {B : Nat} {R : List Value} {b : Bd} {F : List Nat} {S : Nat → Prop} (h : BdRows w B R b F) (ht : Turns w w' S) (hS : ∀ x ∈ F, ¬ S x) : BdRows w' B R b F := h.stays ht.size (fun x hm => ht.block x (h.lt x hm) (hS x hm))
theorem BdRows.low {w : World} {B C : Nat} {R : List Value} {b : Bd} {F : List Nat} (h : BdRows w B R b F) (hC : C ≤ B) : BdRows w C R b F := by
  obtain ⟨ra, rc, rf, oa, oc, F2, rfl, o2, o3, rfl, hn, hB⟩ := h
  exact ⟨ra, rc, rf, oa, oc, F2, rfl, o2, o3.base hC, rfl, hn, fun x hx => Nat.le_trans hC (hB x hx)⟩
def BdNew (b : Bd) (w : World) (e : Ending) (w' : World) : Prop := ∃ (R : Array Value) (F : List Nat), e = .returned (.agg R) ∧ BdRows w' w.heap.size R.toList b F ∧ Below w.heap.size w w'
theorem bd_four {w : World} {R : Array Value} {b : Bd} {F : List Nat} (h : OwnL w LBand R.toList b.dt F) : ∃ ra rc oa oc rf of, R = #[.int .i64 b.h, .int .i64 b.n, .slice ra b.base.length rc, .slice oa b.objs.length oc] ∧ F = rf ++ of ∧ Own w KSS [.slice ra b.base.length rc] (.sl (dR b.base)) rf ∧ Own w (.sl KObject) [.slice oa b.objs.length oc] (.sl (dO b.objs)) of := by
  obtain ⟨a2, c2, a3, c3, f2, f3, hA, hf, o2, o3⟩ := inv_Band_ h
  simp only [len_dR, len_dO] at hA o2 o3
  exact ⟨a2, c2, a3, c3, f2, f3, Array.toList_inj.1 (by rw [hA]), by simpa using hf, o2, o3⟩
end Go.Proofs.YtbdjnfnphilklaaGreat.Own
