/-
  Texts of this seat, laid together: PgM, OkA
-/
import Derived.WalkKit
import Derived.Handy
import Derived.Laws.EntriesVeiled
import Derived.Lib.Hide
import Derived.Test.YtjmfgbbngocodaaGreatZ09
import Derived.Test.YtjmfgbbngocodaaGreatZ24
import Derived.Test.YtjmfgbbngocodaaGreatZ21
namespace Go.Proofs.YtjmfgbbngocodaaGreat.Own
open Go.ChangeShapes Go.WideShapes Go.ChangeAt Go.RowKit
open Kit Slabs Ints Stack Point Turn
set_option linter.unusedVariables false
set_option linter.unusedSimpArgs false
set_option linter.unnecessarySimpa false
structure Gr where
  st : List Int
  q : Int
  s : Int
  dx : Int
  dy : Int
  path : List (Int × Int)
  gray : Int
  x0 : Int
  y0 : Int
  x1 : Int
  y1 : Int
structure Ob where
  path : List (Int × Int)
  gray : Int
  x0 : Int
  y0 : Int
  x1 : Int
  y1 : Int
structure Pg where
  now : Gr
  saved : List Gr
  objs : List Ob
def dI (l : List Int) : List Dt := l.map .int
def dPt (p : Int × Int) : Dt := .st [.int p.1, .int p.2]
def dP (l : List (Int × Int)) : List Dt := l.map dPt
def Gr.dt (g : Gr) : List Dt := [.sl (dI g.st), .int g.q, .int g.s, .int g.dx, .int g.dy, .sl (dP g.path), .int g.gray, .int g.x0, .int g.y0, .int g.x1, .int g.y1]
def Ob.dt (o : Ob) : List Dt := [.sl (dP o.path), .int o.gray, .int o.x0, .int o.y0, .int o.x1, .int o.y1]
def dG (l : List Gr) : List Dt := l.map fun g => .st g.dt
def dO (l : List Ob) : List Dt := l.map fun o => .st o.dt
def Pg.dt (p : Pg) : List Dt := p.now.dt ++ [.sl (dG p.saved), .sl (dO p.objs)]
/-! ### From what is read back to the data -/
def unI : Dt → Int
  | .int n => n
  | _ => 0
def unS : Dt → List Dt
  | .sl es => es
  | .st es => es
  | _ => []
theorem unS_sl (es : List Dt) : unS (.sl es) = es := rfl
def unPt (d : Dt) : Int × Int := (unI (at_ (unS d) 0), unI (at_ (unS d) 1))
def grOf (ds : List Dt) : Gr := ⟨(unS (at_ ds 0)).map unI, unI (at_ ds 1), unI (at_ ds 2), unI (at_ ds 3), unI (at_ ds 4), (unS (at_ ds 5)).map unPt, unI (at_ ds 6), unI (at_ ds 7), unI (at_ ds 8), unI (at_ ds 9), unI (at_ ds 10)⟩
def obOf (ds : List Dt) : Ob := ⟨(unS (at_ ds 0)).map unPt, unI (at_ ds 1), unI (at_ ds 2), unI (at_ ds 3), unI (at_ ds 4), unI (at_ ds 5)⟩
def pgOf (ds : List Dt) : Pg := ⟨grOf ds, (unS (at_ ds 11)).map (fun d => grOf (unS d)), (unS (at_ ds 12)).map (fun d => obOf (unS d))⟩
theorem map_same {α : Type} {f : Dt → α} {g : α → Dt} : ∀ {es : List Dt}, (∀ d ∈ es, g (f d) = d) → es = (es.map f).map g
  | [], _ => rfl
  | d :: r, h => by
    rw [List.map_cons, List.map_cons, h d List.mem_cons_self, ← map_same (fun x hx => h x (List.mem_cons_of_mem _ hx))]
theorem all_of_at {es : List Dt} {p : Dt → Prop} (h : ∀ i (hi : i < es.length), p es[i]) : ∀ d ∈ es, p d := by
  intro d hd
  obtain ⟨i, hi, rfl⟩ := List.getElem_of_mem hd
  exact h i hi
theorem ints_dt {w : World} {v : Value} {es : List Dt} {fp : List Nat} (h : Own w (.sl .int) [v] (.sl es) fp) : es = dI (es.map unI) := by
  refine map_same (all_of_at (p := fun d => Dt.int (unI d) = d) fun i hi => ?_)
  obtain ⟨_, _, hk⟩ := slab_of_own (e := .int) rfl h (B := 0) (fun b _ => Nat.zero_le b)
  obtain ⟨q, hq⟩ := int_at (hk i hi)
  rw [at_eq hi] at hq
  rw [hq]; rfl
theorem pts_dt {w : World} {v : Value} {es : List Dt} {fp : List Nat} (h : Own w (.sl KPt) [v] (.sl es) fp) : es = dP (es.map unPt) := by
  refine map_same (all_of_at (p := fun d => dPt (unPt d) = d) fun i hi => ?_)
  obtain ⟨_, _, hk⟩ := slab_of_own (e := KPt) rfl h (B := 0) (fun b _ => Nat.zero_le b)
  obtain ⟨x, y, hq⟩ := pt_at (hk i hi)
  rw [at_eq hi] at hq
  rw [hq]; rfl
theorem gr_dt {w : World} {cs : List Value} {ds : List Dt} {fp : List Nat} (h : OwnL w LGraphics cs ds fp) : ds = (grOf ds).dt := by
  obtain ⟨a0, c0, a5, c5, s0, q1, q2, q3, q4, s5, q6, q7, q8, q9, q10, f0, f5, _, rfl, _, o0, o5⟩ := inv_Graphics h
  simp only [Gr.dt, grOf, at_, unS, unI, List.getD_cons_zero, List.getD_cons_succ]
  rw [← ints_dt o0, ← pts_dt o5]
theorem ob_dt {w : World} {cs : List Value} {ds : List Dt} {fp : List Nat} (h : OwnL w LObject cs ds fp) : ds = (obOf ds).dt := by
  obtain ⟨a0, c0, s0, q1, q2, q3, q4, q5, f0, _, rfl, _, o0⟩ := inv_Object h
  simp only [Ob.dt, obOf, at_, unS, unI, List.getD_cons_zero, List.getD_cons_succ]
  rw [← pts_dt o0]
theorem elts_st {w : World} {ks : List Kd} {a : Option Addr} {n c : Nat} {es : List Dt} {fp : List Nat} (h : Own w (.sl (.st ks)) [.slice a n c] (.sl es) fp) {i : Nat} (hi : i < es.length) : ∃ cs ds fq, es[i] = .st ds ∧ OwnL w ks cs ds fq := by
  obtain ⟨hl, hr⟩ := h.row
  obtain ⟨g, rfl, _⟩ := hr (by omega)
  obtain ⟨_, _, cs, ds, fq, e, o, _⟩ := h.elt hi
  exact ⟨cs, ds, fq, e, o⟩
theorem grs_dt {w : World} {a : Option Addr} {n c : Nat} {es : List Dt} {fp : List Nat} (h : Own w (.sl KGraphics) [.slice a n c] (.sl es) fp) : es = dG (es.map fun d => grOf (unS d)) := by
  refine map_same (g := fun g : Gr => Dt.st g.dt) (all_of_at (p := fun d => Dt.st (grOf (unS d)).dt = d) fun i hi => ?_)
  obtain ⟨cs, ds, fq, e, o⟩ := elts_st h hi
  rw [e]; simp only [unS]; rw [← gr_dt o]
theorem obs_dt {w : World} {a : Option Addr} {n c : Nat} {es : List Dt} {fp : List Nat} (h : Own w (.sl KObject) [.slice a n c] (.sl es) fp) : es = dO (es.map fun d => obOf (unS d)) := by
  refine map_same (g := fun g : Ob => Dt.st g.dt) (all_of_at (p := fun d => Dt.st (obOf (unS d)).dt = d) fun i hi => ?_)
  obtain ⟨cs, ds, fq, e, o⟩ := elts_st h hi
  rw [e]; simp only [unS]; rw [← ob_dt o]
theorem at_app1 {a b : List Dt} {i : Nat} (h : i < a.length) : at_ (a ++ b) i = at_ a i := by
  simp [at_, List.getD, List.getElem?_append_left h]
theorem at_app2 {a b : List Dt} {i : Nat} : at_ (a ++ b) (a.length + i) = at_ b i := by
  simp only [at_, List.getD_eq_getElem?_getD]; rw [List.getElem?_append_right (by omega)]; congr 2; omega
theorem pg_dt {w : World} {cs : List Value} {ds : List Dt} {fp : List Nat} (h : OwnL w LPage cs ds fp) : ds = (pgOf ds).dt := by
  obtain ⟨G, a11, c11, a12, c12, D, s11, s12, f0, f11, f12, _, rfl, _, o0, o11, o12⟩ := inv_Page h
  have hl : D.length = 11 := o0.dlen
  have e1 : grOf (D ++ [.sl s11, .sl s12]) = grOf D := by
    simp only [grOf]
    rw [at_app1 (by omega), at_app1 (by omega), at_app1 (by omega), at_app1 (by omega), at_app1 (by omega), at_app1 (by omega), at_app1 (by omega), at_app1 (by omega), at_app1 (by omega), at_app1 (by omega), at_app1 (by omega)]
  have e2 : at_ (D ++ [.sl s11, .sl s12]) 11 = .sl s11 := by have := at_app2 (a := D) (b := [.sl s11, .sl s12]) (i := 0); rw [hl] at this; rw [this]; rfl
  have e3 : at_ (D ++ [.sl s11, .sl s12]) 12 = .sl s12 := by have := at_app2 (a := D) (b := [.sl s11, .sl s12]) (i := 1); rw [hl] at this; rw [this]; rfl
  show D ++ [Dt.sl s11, Dt.sl s12] = (pgOf (D ++ [Dt.sl s11, Dt.sl s12])).dt
  simp only [Pg.dt, pgOf]
  rw [e1, e2, e3, unS_sl, unS_sl]
  rw [← grs_dt o11, ← obs_dt o12, ← gr_dt o0]
def xI (l : List Int) (i : Nat) : Int := l.getD i 0
def pX (l : List (Int × Int)) (i : Nat) : Int := (l.getD i (0, 0)).1
def pY (l : List (Int × Int)) (i : Nat) : Int := (l.getD i (0, 0)).2
def ptsB (l : List (Int × Int)) : Bool := l.all fun p => pokB p.1 p.2
def pathB (l : List (Int × Int)) : Bool := decide (l.length ≤ 8) && ptsB l
def grayB (n : Int) : Bool := decide (0 ≤ n ∧ n ≤ 255)
def grB (g : Gr) : Bool := stB (xI g.st) g.st.length && tokB g.q g.s g.dx g.dy && bokB g.x0 g.y0 g.x1 g.y1 && pathB g.path && grayB g.gray
def obB (o : Ob) : Bool := decide (3 ≤ o.path.length) && pathB o.path && grayB o.gray && bokB o.x0 o.y0 o.x1 o.y1
def pgB (p : Pg) : Bool := grB p.now && decide (p.saved.length ≤ 4) && decide (p.objs.length ≤ 12) && p.saved.all grB && p.objs.all obB
theorem at_dI (l : List Int) {i : Nat} (h : i < l.length) : at_ (dI l) i = .int (xI l i) := by
  rw [at_eq (by simpa [dI] using h)]; simp [dI, xI, List.getD, List.getElem?_eq_getElem h]
theorem at_dP (l : List (Int × Int)) {i : Nat} (h : i < l.length) : at_ (dP l) i = .st [.int (pX l i), .int (pY l i)] := by
  rw [at_eq (by simpa [dP] using h)]; simp [dP, dPt, pX, pY, List.getD, List.getElem?_eq_getElem h]
theorem len_dI (l : List Int) : (dI l).length = l.length := by simp [dI]
theorem len_dP (l : List (Int × Int)) : (dP l).length = l.length := by simp [dP]
theorem len_dG (l : List Gr) : (dG l).length = l.length := by simp [dG]
theorem len_dO (l : List Ob) : (dO l).length = l.length := by simp [dO]
theorem rd_of {w : World} {v : Value} {l : List Int} {fp : List Nat} (h : Own w (.sl .int) [v] (.sl (dI l)) fp) : Rd w v l.length (xI l) := by
  obtain ⟨hs, _, _⟩ := slab_of_own (e := .int) rfl h (B := 0) (fun b _ => Nat.zero_le b)
  rw [len_dI] at hs
  exact Rd.of_slab (hs.same fun i hi => by rw [at_dI l hi]; rfl)
theorem bulk_dI (l : List Int) : bulkL (dI l) = 0 := by
  induction l with
  | nil => rfl
  | cons x r ih => simp only [dI, List.map_cons, bulkL, Dt.bulk] at *; omega
theorem bulk_dP (l : List (Int × Int)) : bulkL (dP l) = 0 := by
  induction l with
  | nil => rfl
  | cons x r ih => simp only [dP, dPt, List.map_cons, bulkL, Dt.bulk] at *; omega
def PathAt (w : World) (a : Option Addr) (l : List (Int × Int)) : Prop := l = [] ∨ ∃ g, a = some ⟨g, 0, none⟩ ∧ g < w.heap.size ∧ ∀ i, i < l.length → w.cell? ⟨g, i * 2, none⟩ = some (.int .i64 (pX l i)) ∧ w.cell? ⟨g, i * 2 + 1, none⟩ = some (.int .i64 (pY l i))
theorem path_of {w : World} {a : Option Addr} {n c : Nat} {l : List (Int × Int)} {fp : List Nat} (h : Own w (.sl KPt) [.slice a n c] (.sl (dP l)) fp) : n = l.length ∧ PathAt w a l := by
  obtain ⟨hl, hr⟩ := h.row
  rw [len_dP] at hl
  refine ⟨hl.symm, ?_⟩
  by_cases h0 : n = 0
  · exact .inl (List.eq_nil_of_length_eq_zero (by omega))
  · obtain ⟨g, rfl, _⟩ := hr h0
    refine .inr ⟨g, rfl, ?_, fun i hi => ?_⟩
    · exact (h.elt (i := 0) (by rw [len_dP]; omega)).1
    · obtain ⟨_, _, cs, ds, fq, e, o, _, _, hc⟩ := h.elt (i := i) (by rw [len_dP]; exact hi)
      rw [← at_eq (by rw [len_dP]; exact hi), at_dP l hi] at e
      injection e with e
      subst e
      obtain ⟨rfl, _, _⟩ := o.flat rfl
      have h1 := hc w (Below.refl _ _) 0 (.int .i64 (pX l i)) rfl
      have h2 := hc w (Below.refl _ _) 1 (.int .i64 (pY l i)) rfl
      exact ⟨by simpa [szL, Kd.sz] using h1, by simpa [szL, Kd.sz] using h2⟩
theorem PathAt.on {w w' : World} {a : Option Addr} {l : List (Int × Int)} (h : PathAt w a l) (hb : Below w.heap.size w w') : PathAt w' a l := by
  rcases h with h | ⟨g, ha, hg, h⟩
  · exact .inl h
  · exact .inr ⟨g, ha, Nat.lt_of_lt_of_le hg hb.size, fun i hi => ⟨(hb.cell (p := ⟨g, _, none⟩) hg).trans (h i hi).1, (hb.cell (p := ⟨g, _, none⟩) hg).trans (h i hi).2⟩⟩
theorem ptsB_bad {l : List (Int × Int)} {k : Nat} (hk : k < l.length) (h : pokB (pX l k) (pY l k) = false) : ptsB l = false := by
  rw [ptsB, List.all_eq_false]
  refine ⟨l[k], List.getElem_mem hk, ?_⟩
  have e : l.getD k (0, 0) = l[k] := by simp [List.getD, List.getElem?_eq_getElem hk]
  simp only [pX, pY, e] at h
  simp [h]
theorem ptsB_good {l : List (Int × Int)} (h : ∀ k, k < l.length → pokB (pX l k) (pY l k) = true) : ptsB l = true := by
  rw [ptsB, List.all_eq_true]
  intro p hp
  obtain ⟨k, hk, rfl⟩ := List.getElem_of_mem hp
  have e : l.getD k (0, 0) = l[k] := by simp [List.getD, List.getElem?_eq_getElem hk]
  have := h k hk
  simpa only [pX, pY, e] using this
theorem all_bad {α : Type} {l : List α} {f : α → Bool} {k : Nat} (hk : k < l.length) (h : f l[k] = false) : l.all f = false := by
  rw [List.all_eq_false]; exact ⟨l[k], List.getElem_mem hk, by simp [h]⟩
theorem all_good {α : Type} {l : List α} {f : α → Bool} (h : ∀ k (hk : k < l.length), f l[k] = true) : l.all f = true := by
  rw [List.all_eq_true]; intro p hp; obtain ⟨k, hk, rfl⟩ := List.getElem_of_mem hp; exact h k hk
end Go.Proofs.YtjmfgbbngocodaaGreat.Own

namespace Go.Proofs.YtjmfgbbngocodaaGreat.Own
open Go.ChangeShapes Go.WideShapes Go.ChangeAt Go.RowKit
open Kit Slabs Ints Stack Point Turn
set_option linter.unusedVariables false
set_option linter.unusedSimpArgs false
set_option linter.unnecessarySimpa false
set_option maxRecDepth 100000
theorem gray_impl (n : Int) (w : World) : Calls Tryz.prog 116 #[.int .i64 n] w fun e w' => e = .returned (.bool (grayB n)) ∧ w = w' := by
  by_cases h1 : 0 ≤ n <;> by_cases h2 : n ≤ 255
  all_goals
    go_enter Tryz.func116, Tryz.ntmps116
    go_wp2
    go_ret
    exact ⟨ret_bool (by simp [grayB, h1, h2]), rfl⟩
set_option maxHeartbeats 1000000 in
theorem pts_spec (w : World) (a : Option Addr) (c : Nat) (l : List (Int × Int)) (hn : l.length ≤ 1048576) (h : PathAt w a l) :
    Calls Tryz.prog 109 #[.slice a l.length c] w fun e w' => e = .returned (.bool (pathB l)) ∧ Below w.heap.size w w' := by
  have HP := Lib.hid h
  rcases h with rfl | ⟨g, rfl, hg, _⟩
  · go_enter Tryz.func109, Tryz.ntmps109
    go_wp2
    go_rounds 1
    go_ret
    exact ⟨rfl, Below.refl _ _⟩
  · obtain ⟨n, hN⟩ : ∃ n, l.length = n := ⟨_, rfl⟩
    have HN := Lib.hid hN
    rw [hN] at hn ⊢
    clear hN
    go_enter Tryz.func109, Tryz.ntmps109
    go_wp2
    go_loopw [3] (fun v3 wr => ∃ k : Nat, k ≤ n ∧ v3 = .int .i64 (k : Int) ∧ Hid (∀ i, i < k → pokB (pX l i) (pY l i) = true) ∧ Below w.heap.size w wr) (fun v3 _ => n - (intOf v3).toNat)
    case atStart => exact ⟨0, Nat.zero_le _, rfl, Lib.hid (fun i hi => absurd hi (Nat.not_lt_zero i)), Below.refl _ _⟩
    case round =>
      obtain ⟨k, hk, rfl, hb, hB⟩ := hrel
      by_cases hlt : k < n
      · have hP := HP.out.on hB
        rcases hP with he | ⟨g', hg', hlg, hc⟩
        · have := HN.out; rw [he] at this; simp at this; omega
        · injection hg' with hg'
          injection hg' with hg'
          subst hg'
          have q := hc k (by rw [HN.out]; exact hlt)
          obtain ⟨q1, q2⟩ := q
          obtain ⟨x, hx⟩ : ∃ x, pX l k = x := ⟨_, rfl⟩
          obtain ⟨y, hy⟩ : ∃ y, pY l k = y := ⟨_, rfl⟩
          rw [hx] at q1; rw [hy] at q2
          have i0 : (0 : Int) ≤ (k : Int) := by omega
          have i1 : (k : Int) < (n : Int) := by omega
          have HX := Lib.hid (And.intro hx hy)
          clear hx hy hc
          have HB := Lib.hid hB
          clear hB
          go_wp2_with fail
          ((with_reducible refine (pok_spec x y _).mono ?_); rintro e w1 ⟨rfl, bb⟩)
          have hB1 := on_of HB.out bb
          have HB1 := Lib.hid hB1
          clear hB1 bb
          cases hp : pokB x y
          · have hno : pathB l = false := by rw [pathB, ptsB_bad (by rw [HN.out]; exact hlt) (by rw [HX.out.1, HX.out.2]; exact hp)]; simp
            have HS := Lib.hid hno
            clear hno hp
            go_wp2
            go_ret
            exact ⟨ret_bool HS.out.symm, HB1.out⟩
          · have hyes : ∀ i, i < k + 1 → pokB (pX l i) (pY l i) = true := fun i hi => by
              by_cases e : i = k
              · subst e; rw [HX.out.1, HX.out.2]; exact hp
              · exact hb.out i (by omega)
            have HS := Lib.hid hyes
            clear hyes hp
            go_wp2
            go_roundw
            case rel => exact ⟨k + 1, by omega, by go_num, HS, HB1.out⟩
            case measure => simp [intOf]; omega
      · obtain rfl : k = n := by omega
        have HB := Lib.hid hB
        clear hB
        go_wp2
        go_ret
        refine ⟨ret_bool ?_, HB.out⟩
        rw [pathB, ptsB_good (fun i hi => hb.out i (by rw [← HN.out]; exact hi)), HN.out, Bool.and_true]
        first | rfl | (apply decide_eq_decide.2; omega)
set_option maxHeartbeats 1000000 in
theorem allpts_impl (w : World) (a : Option Addr) (c : Nat) (l : List (Int × Int)) (hn : l.length ≤ 1048576) (h : PathAt w a l) :
    Calls Tryz.prog 144 #[.slice a l.length c, .func (.func 143) #[] #[]] w fun e w' => e = .returned (.bool (ptsB l)) ∧ Below w.heap.size w w' := by
  have HP := Lib.hid h
  rcases h with rfl | ⟨g, rfl, hg, _⟩
  · go_enter Tryz.func144, Tryz.ntmps144
    go_wp2
    go_rounds 1
    go_ret
    exact ⟨rfl, Below.refl _ _⟩
  · obtain ⟨n, hN⟩ : ∃ n, l.length = n := ⟨_, rfl⟩
    have HN := Lib.hid hN
    rw [hN] at hn ⊢
    clear hN
    go_enter Tryz.func144, Tryz.ntmps144
    go_wp2
    go_loopw [9] (fun v9 wr => ∃ k : Nat, k ≤ n ∧ v9 = .int .i64 (k : Int) ∧ Hid (∀ i, i < k → pokB (pX l i) (pY l i) = true) ∧ Below w.heap.size w wr) (fun v9 _ => n - (intOf v9).toNat)
    case atStart => exact ⟨0, Nat.zero_le _, rfl, Lib.hid (fun i hi => absurd hi (Nat.not_lt_zero i)), Below.refl _ _⟩
    case round =>
      obtain ⟨k, hk, rfl, hb, hB⟩ := hrel
      by_cases hlt : k < n
      · have hP := HP.out.on hB
        rcases hP with he | ⟨g', hg', hlg, hc⟩
        · have := HN.out; rw [he] at this; simp at this; omega
        · injection hg' with hg'
          injection hg' with hg'
          subst hg'
          have q := hc k (by rw [HN.out]; exact hlt)
          obtain ⟨q1, q2⟩ := q
          obtain ⟨x, hx⟩ : ∃ x, pX l k = x := ⟨_, rfl⟩
          obtain ⟨y, hy⟩ : ∃ y, pY l k = y := ⟨_, rfl⟩
          rw [hx] at q1; rw [hy] at q2
          have i0 : (0 : Int) ≤ (k : Int) := by omega
          have i1 : (k : Int) < (n : Int) := by omega
          have HX := Lib.hid (And.intro hx hy)
          clear hx hy hc
          have HB := Lib.hid hB
          clear hB
          go_wp2_with fail
          ((with_reducible refine (pok_impl x y _).mono ?_); rintro e w1 ⟨rfl, bb⟩)
          have hB1 := on_of (HB.out.alloc HB.out.size _) bb
          have HB1 := Lib.hid hB1
          clear hB1 bb
          cases hp : pokB x y
          · have hno : ptsB l = false := by exact ptsB_bad (by rw [HN.out]; exact hlt) (by rw [HX.out.1, HX.out.2]; exact hp)
            have HS := Lib.hid hno
            clear hno hp
            go_wp2
            go_ret
            exact ⟨ret_bool HS.out.symm, HB1.out⟩
          · have hyes : ∀ i, i < k + 1 → pokB (pX l i) (pY l i) = true := fun i hi => by
              by_cases e : i = k
              · subst e; rw [HX.out.1, HX.out.2]; exact hp
              · exact hb.out i (by omega)
            have HS := Lib.hid hyes
            clear hyes hp
            go_wp2
            go_roundw
            case rel => exact ⟨k + 1, by omega, by go_num, HS, HB1.out⟩
            case measure => simp [intOf]; omega
      · obtain rfl : k = n := by omega
        have HB := Lib.hid hB
        clear hB
        go_wp2
        go_ret
        exact ⟨ret_bool (ptsB_good (fun i hi => hb.out i (by rw [← HN.out]; exact hi))).symm, HB.out⟩
theorem path_impl (w : World) (a : Option Addr) (c : Nat) (l : List (Int × Int)) (hn : l.length ≤ 1048576) (h : PathAt w a l) :
    Calls Tryz.prog 115 #[.slice a l.length c] w fun e w' => e = .returned (.bool (pathB l)) ∧ Below w.heap.size w w' := by
  by_cases h8 : l.length ≤ 8
  · obtain ⟨n, hN⟩ : ∃ n, l.length = n := ⟨_, rfl⟩
    have H := Lib.hid (And.intro h (And.intro hN hn))
    have h8' : (n : Int) ≤ 8 := by omega
    rw [hN]
    clear h hN hn
    go_enter Tryz.func115, Tryz.ntmps115
    go_wp2_with fail
    rw [← H.out.2.1]
    ((with_reducible refine (allpts_impl w a c l H.out.2.2 H.out.1).mono ?_); rintro e w1 ⟨rfl, bb⟩)
    have HB := Lib.hid bb
    clear bb
    go_wp2
    go_ret
    exact ⟨ret_bool (by simp [pathB, h8]), HB.out⟩
  · have h8' : ¬ (l.length : Int) ≤ 8 := by omega
    clear h
    go_enter Tryz.func115, Tryz.ntmps115
    go_wp2
    go_ret
    exact ⟨ret_bool (by simp [pathB, h8]), Below.refl _ _⟩
end Go.Proofs.YtjmfgbbngocodaaGreat.Own

