/-
  Texts of this seat, laid together: PgM
-/
import Derived.Test.YtbdjnfnphilklaaM12
import Derived.Test.YtbdjnfnphilklaaM14
import Derived.Test.YtbdjnfnphilklaaM05
namespace Go.Proofs.Ytbdjnfnphilklaa.Own
open Go.ChangeShapes Go.WideShapes Go.ChangeAt Go.RowKit
open Kit Slabs Ints Stack Point Turn
set_option linter.unusedVariables false
set_option linter.unusedSimpArgs false
set_option linter.unnecessarySimpa false
structure Gr where
  st : List Int
  q : Int
  s : Int
  dx : Int
  dy : Int
  path : List (Int × Int)
  gray : Int
  x0 : Int
  y0 : Int
  x1 : Int
  y1 : Int
structure Ob where
  path : List (Int × Int)
  gray : Int
  x0 : Int
  y0 : Int
  x1 : Int
  y1 : Int
structure Pg where
  now : Gr
  saved : List Gr
  objs : List Ob
def dI (l : List Int) : List Dt := l.map .int
def dPt (p : Int × Int) : Dt := .st [.int p.1, .int p.2]
def dP (l : List (Int × Int)) : List Dt := l.map dPt
def Gr.dt (g : Gr) : List Dt := [.sl (dI g.st), .int g.q, .int g.s, .int g.dx, .int g.dy, .sl (dP g.path), .int g.gray, .int g.x0, .int g.y0, .int g.x1, .int g.y1]
def Ob.dt (o : Ob) : List Dt := [.sl (dP o.path), .int o.gray, .int o.x0, .int o.y0, .int o.x1, .int o.y1]
def dG (l : List Gr) : List Dt := l.map fun g => .st g.dt
def dO (l : List Ob) : List Dt := l.map fun o => .st o.dt
def Pg.dt (p : Pg) : List Dt := p.now.dt ++ [.sl (dG p.saved), .sl (dO p.objs)]
/-! ### From what is read back to the data -/
def unI : Dt → Int
  | .int n => n
  | _ => 0
def unS : Dt → List Dt
  | .sl es => es
  | .st es => es
  | _ => []
theorem unS_sl (es : List Dt) : unS (.sl es) = es := rfl
theorem unS_st (es : List Dt) : unS (.st es) = es := rfl
def unPt (d : Dt) : Int × Int := (unI (at_ (unS d) 0), unI (at_ (unS d) 1))
def grOf (ds : List Dt) : Gr := ⟨(unS (at_ ds 0)).map unI, unI (at_ ds 1), unI (at_ ds 2), unI (at_ ds 3), unI (at_ ds 4), (unS (at_ ds 5)).map unPt, unI (at_ ds 6), unI (at_ ds 7), unI (at_ ds 8), unI (at_ ds 9), unI (at_ ds 10)⟩
def obOf (ds : List Dt) : Ob := ⟨(unS (at_ ds 0)).map unPt, unI (at_ ds 1), unI (at_ ds 2), unI (at_ ds 3), unI (at_ ds 4), unI (at_ ds 5)⟩
def pgOf (ds : List Dt) : Pg := ⟨grOf ds, (unS (at_ ds 11)).map (fun d => grOf (unS d)), (unS (at_ ds 12)).map (fun d => obOf (unS d))⟩
theorem map_same {α : Type} {f : Dt → α} {g : α → Dt} : ∀ {es : List Dt}, (∀ d ∈ es, g (f d) = d) → es = (es.map f).map g
  | [], _ => rfl
  | d :: r, h => by
    rw [List.map_cons, List.map_cons, h d List.mem_cons_self, ← map_same (fun x hx => h x (List.mem_cons_of_mem _ hx))]
theorem all_of_at {es : List Dt} {p : Dt → Prop} (h : ∀ i (hi : i < es.length), p es[i]) : ∀ d ∈ es, p d := by
  intro d hd
  obtain ⟨i, hi, rfl⟩ := List.getElem_of_mem hd
  exact h i hi
theorem ints_dt {w : World} {v : Value} {es : List Dt} {fp : List Nat} (h : Own w (.sl .int) [v] (.sl es) fp) : es = dI (es.map unI) := by
  refine map_same (all_of_at (p := fun d => Dt.int (unI d) = d) fun i hi => ?_)
  obtain ⟨_, _, hk⟩ := slab_of_own (e := .int) rfl h (B := 0) (fun b _ => Nat.zero_le b)
  obtain ⟨q, hq⟩ := int_at (hk i hi)
  rw [at_eq hi] at hq
  rw [hq]; rfl
theorem pts_dt {w : World} {v : Value} {es : List Dt} {fp : List Nat} (h : Own w (.sl KPt) [v] (.sl es) fp) : es = dP (es.map unPt) := by
  refine map_same (all_of_at (p := fun d => dPt (unPt d) = d) fun i hi => ?_)
  obtain ⟨_, _, hk⟩ := slab_of_own (e := KPt) rfl h (B := 0) (fun b _ => Nat.zero_le b)
  obtain ⟨x, y, hq⟩ := pt_at (hk i hi)
  rw [at_eq hi] at hq
  rw [hq]; rfl
theorem gr_dt {w : World} {cs : List Value} {ds : List Dt} {fp : List Nat} (h : OwnL w LGraphics cs ds fp) : ds = (grOf ds).dt := by
  obtain ⟨a0, c0, a5, c5, s0, q1, q2, q3, q4, s5, q6, q7, q8, q9, q10, f0, f5, _, rfl, _, o0, o5⟩ := inv_Graphics h
  simp only [Gr.dt, grOf, at_, unS, unI, List.getD_cons_zero, List.getD_cons_succ]
  rw [← ints_dt o0, ← pts_dt o5]
theorem ob_dt {w : World} {cs : List Value} {ds : List Dt} {fp : List Nat} (h : OwnL w LObject cs ds fp) : ds = (obOf ds).dt := by
  obtain ⟨a0, c0, s0, q1, q2, q3, q4, q5, f0, _, rfl, _, o0⟩ := inv_Object h
  simp only [Ob.dt, obOf, at_, unS, unI, List.getD_cons_zero, List.getD_cons_succ]
  rw [← pts_dt o0]
theorem elts_st {w : World} {ks : List Kd} {a : Option Addr} {n c : Nat} {es : List Dt} {fp : List Nat} (h : Own w (.sl (.st ks)) [.slice a n c] (.sl es) fp) {i : Nat} (hi : i < es.length) : ∃ cs ds fq, es[i] = .st ds ∧ OwnL w ks cs ds fq := by
  obtain ⟨hl, hr⟩ := h.row
  obtain ⟨g, rfl, _⟩ := hr (by omega)
  obtain ⟨_, _, cs, ds, fq, e, o, _⟩ := h.elt hi
  exact ⟨cs, ds, fq, e, o⟩
theorem grs_dt {w : World} {a : Option Addr} {n c : Nat} {es : List Dt} {fp : List Nat} (h : Own w (.sl KGraphics) [.slice a n c] (.sl es) fp) : es = dG (es.map fun d => grOf (unS d)) := by
  refine map_same (g := fun g : Gr => Dt.st g.dt) (all_of_at (p := fun d => Dt.st (grOf (unS d)).dt = d) fun i hi => ?_)
  obtain ⟨cs, ds, fq, e, o⟩ := elts_st h hi
  rw [e]; simp only [unS]; rw [← gr_dt o]
theorem obs_dt {w : World} {a : Option Addr} {n c : Nat} {es : List Dt} {fp : List Nat} (h : Own w (.sl KObject) [.slice a n c] (.sl es) fp) : es = dO (es.map fun d => obOf (unS d)) := by
  refine map_same (g := fun g : Ob => Dt.st g.dt) (all_of_at (p := fun d => Dt.st (obOf (unS d)).dt = d) fun i hi => ?_)
  obtain ⟨cs, ds, fq, e, o⟩ := elts_st h hi
  rw [e]; simp only [unS]; rw [← ob_dt o]
theorem at_app1 {a b : List Dt} {i : Nat} (h : i < a.length) : at_ (a ++ b) i = at_ a i := by
  simp [at_, List.getD, List.getElem?_append_left h]
theorem at_app2 {a b : List Dt} {i : Nat} : at_ (a ++ b) (a.length + i) = at_ b i := by
  simp only [at_, List.getD_eq_getElem?_getD]; rw [List.getElem?_append_right (by omega)]; congr 2; omega
theorem pg_dt {w : World} {cs : List Value} {ds : List Dt} {fp : List Nat} (h : OwnL w LPage cs ds fp) : ds = (pgOf ds).dt := by
  obtain ⟨G, a11, c11, a12, c12, D, s11, s12, f0, f11, f12, _, rfl, _, o0, o11, o12⟩ := inv_Page h
  have hl : D.length = 11 := o0.dlen
  have e1 : grOf (D ++ [.sl s11, .sl s12]) = grOf D := by
    simp only [grOf]
    rw [at_app1 (by omega), at_app1 (by omega), at_app1 (by omega), at_app1 (by omega), at_app1 (by omega), at_app1 (by omega), at_app1 (by omega), at_app1 (by omega), at_app1 (by omega), at_app1 (by omega), at_app1 (by omega)]
  have e2 : at_ (D ++ [.sl s11, .sl s12]) 11 = .sl s11 := by have := at_app2 (a := D) (b := [.sl s11, .sl s12]) (i := 0); rw [hl] at this; rw [this]; rfl
  have e3 : at_ (D ++ [.sl s11, .sl s12]) 12 = .sl s12 := by have := at_app2 (a := D) (b := [.sl s11, .sl s12]) (i := 1); rw [hl] at this; rw [this]; rfl
  show D ++ [Dt.sl s11, Dt.sl s12] = (pgOf (D ++ [Dt.sl s11, Dt.sl s12])).dt
  simp only [Pg.dt, pgOf]
  rw [e1, e2, e3, unS_sl, unS_sl]
  rw [← grs_dt o11, ← obs_dt o12, ← gr_dt o0]
theorem un_ints (l : List Int) : (dI l).map unI = l := by simp [dI, unI, Function.comp_def]
theorem un_pts (l : List (Int × Int)) : (dP l).map unPt = l := by
  simp only [dP, List.map_map]
  exact List.map_id'' (fun p => rfl) l
theorem gr_un (g : Gr) : grOf g.dt = g := by
  simp only [Gr.dt, grOf, at_, unS, unI, List.getD_cons_zero, List.getD_cons_succ, un_ints, un_pts]
theorem gr_un_app (g : Gr) (b : List Dt) : grOf (g.dt ++ b) = g := by
  simp only [Gr.dt, grOf, at_, unS, unI, List.cons_append, List.nil_append, List.getD_cons_zero, List.getD_cons_succ, un_ints, un_pts]
theorem ob_un (o : Ob) : obOf o.dt = o := by
  simp only [Ob.dt, obOf, at_, unS, unI, List.getD_cons_zero, List.getD_cons_succ, un_pts]
theorem pg_un (p : Pg) : pgOf p.dt = p := by
  simp only [Pg.dt, pgOf, gr_un_app]
  have e1 : at_ (p.now.dt ++ [.sl (dG p.saved), .sl (dO p.objs)]) 11 = .sl (dG p.saved) := rfl
  have e2 : at_ (p.now.dt ++ [.sl (dG p.saved), .sl (dO p.objs)]) 12 = .sl (dO p.objs) := rfl
  rw [e1, e2, unS_sl, unS_sl]
  simp only [dG, dO, List.map_map]
  have h1 : p.saved.map ((fun d => grOf (unS d)) ∘ fun g => Dt.st g.dt) = p.saved := List.map_id'' (fun g => by simp [unS, gr_un]) _
  have h2 : p.objs.map ((fun d => obOf (unS d)) ∘ fun g => Dt.st g.dt) = p.objs := List.map_id'' (fun g => by simp [unS, ob_un]) _
  rw [h1, h2]
/-! ### Valid pages -/
def xI (l : List Int) (i : Nat) : Int := l.getD i 0
def pX (l : List (Int × Int)) (i : Nat) : Int := (l.getD i (0, 0)).1
def pY (l : List (Int × Int)) (i : Nat) : Int := (l.getD i (0, 0)).2
def ptsB (l : List (Int × Int)) : Bool := l.all fun p => pokB p.1 p.2
def pathB (l : List (Int × Int)) : Bool := decide (l.length ≤ 8) && ptsB l
def grayB (n : Int) : Bool := decide (0 ≤ n ∧ n ≤ 255)
def grB (g : Gr) : Bool := stB (xI g.st) g.st.length && tokB g.q g.s g.dx g.dy && bokB g.x0 g.y0 g.x1 g.y1 && pathB g.path && grayB g.gray
def obB (o : Ob) : Bool := decide (3 ≤ o.path.length) && pathB o.path && grayB o.gray && bokB o.x0 o.y0 o.x1 o.y1
def pgB (p : Pg) : Bool := grB p.now && decide (p.saved.length ≤ 4) && decide (p.objs.length ≤ 12) && p.saved.all grB && p.objs.all obB
def newP : Pg := ⟨⟨[], 0, 1, 0, 0, [], 0, 0, 0, 32, 32⟩, [], []⟩
/-! ### Ints and points as the other chapters' contracts read them -/
theorem at_dI (l : List Int) {i : Nat} (h : i < l.length) : at_ (dI l) i = .int (xI l i) := by
  rw [at_eq (by simpa [dI] using h)]; simp [dI, xI, List.getD, List.getElem?_eq_getElem h]
theorem at_dP (l : List (Int × Int)) {i : Nat} (h : i < l.length) : at_ (dP l) i = .st [.int (pX l i), .int (pY l i)] := by
  rw [at_eq (by simpa [dP] using h)]; simp [dP, dPt, pX, pY, List.getD, List.getElem?_eq_getElem h]
theorem len_dI (l : List Int) : (dI l).length = l.length := by simp [dI]
theorem len_dP (l : List (Int × Int)) : (dP l).length = l.length := by simp [dP]
theorem len_dG (l : List Gr) : (dG l).length = l.length := by simp [dG]
theorem len_dO (l : List Ob) : (dO l).length = l.length := by simp [dO]
theorem rd_of {w : World} {v : Value} {l : List Int} {fp : List Nat} (h : Own w (.sl .int) [v] (.sl (dI l)) fp) : Rd w v l.length (xI l) := by
  obtain ⟨hs, _, _⟩ := slab_of_own (e := .int) rfl h (B := 0) (fun b _ => Nat.zero_le b)
  rw [len_dI] at hs
  exact Rd.of_slab (hs.same fun i hi => by rw [at_dI l hi]; rfl)
theorem bulk_dI (l : List Int) : bulkL (dI l) = 0 := by
  induction l with
  | nil => rfl
  | cons x r ih => simp only [dI, List.map_cons, bulkL, Dt.bulk] at *; omega
theorem bulk_dP (l : List (Int × Int)) : bulkL (dP l) = 0 := by
  induction l with
  | nil => rfl
  | cons x r ih => simp only [dP, dPt, List.map_cons, bulkL, Dt.bulk] at *; omega
def PathAt (w : World) (a : Option Addr) (l : List (Int × Int)) : Prop := l = [] ∨ ∃ g, a = some ⟨g, 0, none⟩ ∧ g < w.heap.size ∧ ∀ i, i < l.length → w.cell? ⟨g, i * 2, none⟩ = some (.int .i64 (pX l i)) ∧ w.cell? ⟨g, i * 2 + 1, none⟩ = some (.int .i64 (pY l i))
theorem path_of {w : World} {a : Option Addr} {n c : Nat} {l : List (Int × Int)} {fp : List Nat} (h : Own w (.sl KPt) [.slice a n c] (.sl (dP l)) fp) : n = l.length ∧ PathAt w a l := by
  obtain ⟨hl, hr⟩ := h.row
  rw [len_dP] at hl
  refine ⟨hl.symm, ?_⟩
  by_cases h0 : n = 0
  · exact .inl (List.eq_nil_of_length_eq_zero (by omega))
  · obtain ⟨g, rfl, _⟩ := hr h0
    refine .inr ⟨g, rfl, ?_, fun i hi => ?_⟩
    · exact (h.elt (i := 0) (by rw [len_dP]; omega)).1
    · obtain ⟨_, _, cs, ds, fq, e, o, _, _, hc⟩ := h.elt (i := i) (by rw [len_dP]; exact hi)
      rw [← at_eq (by rw [len_dP]; exact hi), at_dP l hi] at e
      injection e with e
      subst e
      obtain ⟨rfl, _, _⟩ := o.flat rfl
      have h1 := hc w (Below.refl _ _) 0 (.int .i64 (pX l i)) rfl
      have h2 := hc w (Below.refl _ _) 1 (.int .i64 (pY l i)) rfl
      exact ⟨by simpa [szL, Kd.sz] using h1, by simpa [szL, Kd.sz] using h2⟩
theorem PathAt.on {w w' : World} {a : Option Addr} {l : List (Int × Int)} (h : PathAt w a l) (hb : Below w.heap.size w w') : PathAt w' a l := by
  rcases h with h | ⟨g, ha, hg, h⟩
  · exact .inl h
  · exact .inr ⟨g, ha, Nat.lt_of_lt_of_le hg hb.size, fun i hi => ⟨(hb.cell (p := ⟨g, _, none⟩) hg).trans (h i hi).1, (hb.cell (p := ⟨g, _, none⟩) hg).trans (h i hi).2⟩⟩
theorem ptsB_bad {l : List (Int × Int)} {k : Nat} (hk : k < l.length) (h : pokB (pX l k) (pY l k) = false) : ptsB l = false := by
  rw [ptsB, List.all_eq_false]
  refine ⟨l[k], List.getElem_mem hk, ?_⟩
  have e : l.getD k (0, 0) = l[k] := by simp [List.getD, List.getElem?_eq_getElem hk]
  simp only [pX, pY, e] at h
  simp [h]
theorem ptsB_good {l : List (Int × Int)} (h : ∀ k, k < l.length → pokB (pX l k) (pY l k) = true) : ptsB l = true := by
  rw [ptsB, List.all_eq_true]
  intro p hp
  obtain ⟨k, hk, rfl⟩ := List.getElem_of_mem hp
  have e : l.getD k (0, 0) = l[k] := by simp [List.getD, List.getElem?_eq_getElem hk]
  have := h k hk
  simpa only [pX, pY, e] using this
theorem all_bad {α : Type} {l : List α} {f : α → Bool} {k : Nat} (hk : k < l.length) (h : f l[k] = false) : l.all f = false := by
  rw [List.all_eq_false]; exact ⟨l[k], List.getElem_mem hk, by simp [h]⟩
theorem all_good {α : Type} {l : List α} {f : α → Bool} (h : ∀ k (hk : k < l.length), f l[k] = true) : l.all f = true := by
  rw [List.all_eq_true]; intro p hp; obtain ⟨k, hk, rfl⟩ := List.getElem_of_mem hp; exact h k hk
end Go.Proofs.Ytbdjnfnphilklaa.Own
