/-
  Texts of this seat, laid together: TokO, PgM, OkA
-/
import Derived.WalkKit
import Derived.Handy
import Derived.Laws.EntriesVeiled
import Derived.Lib.Hide
import Derived.Test.YtjmfgbbngocodaaGreatV09
import Derived.Test.YtjmfgbbngocodaaGreatV16
import Derived.Test.YtjmfgbbngocodaaGreatV07
import Derived.Test.YtjmfgbbngocodaaGreatV18
namespace Go.Proofs.YtjmfgbbngocodaaGreat.Own
open Go.ChangeShapes Go.WideShapes Go.ChangeAt Go.RowKit
open Kit Slabs
open Marking (mt)
open Recs
set_option linter.unusedVariables false
set_option linter.unusedSimpArgs false
set_option linter.unnecessarySimpa false
set_option maxRecDepth 100000
abbrev KToken : Kd := .st [.str, .int]
theorem tok_at {w : World} {cs : List Value} {d : Dt} (h : Own w KToken cs d []) : ∃ s n, d = .st [.str s, .int n] := by
  cases h with
  | st h =>
    obtain ⟨x, _, _, rfl, rfl, h1⟩ := h.str
    obtain ⟨y, _, _, rfl, rfl, h2⟩ := h1.int
    obtain ⟨rfl, rfl, _⟩ := h2.end_
    exact ⟨x, y, rfl⟩
theorem own_tok (w : World) (s : ByteArray) (n : Int) : Own w KToken [.string s, .int .i64 n] (.st [.str s, .int n]) [] :=
  .st (.cons (cs := [.string s]) (fp := []) (.str s) (.cons (cs := [.int .i64 n]) (fp := []) (.int n) .nil))
theorem toks_slab {w : World} {v : Value} {es : List Dt} {fp : List Nat} (h : Own w (.sl KToken) [v] (.sl es) fp) {B : Nat} (hB : ∀ b ∈ fp, B ≤ b) :
    Slab w B v es.length 2 (fun i => (at_ es i).cells) ∧ fp = (rowOf es.length v).toList ∧ (∀ i, i < es.length → ∃ s n, at_ es i = .st [.str s, .int n]) ∧ (∀ i, i < es.length → (at_ es i).cnt = 2) := by
  obtain ⟨h1, h2, h3⟩ := slab_of_own (e := KToken) rfl h hB
  have key : ∀ i, i < es.length → ∃ s n, at_ es i = .st [.str s, .int n] := fun i hi => tok_at (h3 i hi)
  exact ⟨h1, h2, key, fun i hi => by obtain ⟨x, y, e⟩ := key i hi; rw [e]; rfl⟩
theorem toks_own {w : World} {B : Nat} {v : Value} {es : List Dt} {F : Nat → List Value} {n : Nat} (h : Slab w B v n 2 F) (hn : es.length = n) (hF : ∀ i, i < n → ∃ s m, at_ es i = .st [.str s, .int m] ∧ F i = [.string s, .int .i64 m]) : Own w (.sl KToken) [v] (.sl es) (rowOf n v).toList :=
  own_of_at (e := KToken) h hn (fun i hi => by obtain ⟨x, y, e1, e2⟩ := hF i hi; rw [e1, e2]; exact own_tok w x y)
def tkD (es : List Dt) (i : Nat) : List Value := match at_ es i with
  | .st [.str s, .int n] => [.string s, .int .i64 n]
  | _ => [.string ⟨#[]⟩, .int .i64 0]
theorem tkD_len (es : List Dt) (i : Nat) : (tkD es i).length = 2 := by unfold tkD; split <;> rfl
theorem eq_TokenS (w : World) {v1 v2 : Value} {es : List Dt} {f1 f2 : List Nat} (hn : es.length ≤ 1048576) (h1 : Own w (.sl KToken) [v1] (.sl es) f1) (h2 : Own w (.sl KToken) [v2] (.sl es) f2) :
    Calls Tryz.prog 18 #[v1, v2] w fun e w' => e = .returned (.bool true) ∧ Below w.heap.size w w' := by
  obtain ⟨s1, _, k1, _⟩ := toks_slab h1 (B := 0) (fun _ _ => Nat.zero_le _)
  obtain ⟨s2, _, _, _⟩ := toks_slab h2 (B := 0) (fun _ _ => Nat.zero_le _)
  exact Tokens.eqS_same w 0 0 v1 v2 es.length _ hn s1 s2 (fun i hi => by obtain ⟨x, y, e⟩ := k1 i hi; exact ⟨x, y, by rw [e]; rfl⟩)
theorem mark_TokenS1 (w : World) {v : Value} {es : List Dt} {fp : List Nat} (hn : es.length ≤ 1048576) (h : Own w (.sl KToken) [v] (.sl es) fp) :
    Calls Tryz.prog 19 #[v, .int .i64 1] w fun e w' => e = .returned (.int .i64 ((1 + cntL es : Nat) : Int)) ∧ Own w' (.sl KToken) [v] (.sl (mkL es 1)) fp ∧ Turns w w' (fun b => b ∈ fp) := by
  obtain ⟨hs, hf, hk, hc⟩ := toks_slab h (B := 0) (fun _ _ => Nat.zero_le _)
  have hs2 : Slab w 0 v es.length 2 (tkD es) := hs.same (fun i hi => by obtain ⟨x, y, e⟩ := hk i hi; simp only [tkD, e]; rfl)
  refine (Tokens.markS_any w 0 1 es.length v _ (by omega) (by omega) (by omega) (Nat.zero_le _) hs2 (fun i hi => by obtain ⟨x, y, e⟩ := hk i hi; exact ⟨x, y, by simp only [tkD, e]⟩) (tkD_len es)).mono fun e w' ⟨he, hs', _, hg⟩ => ?_
  refine ⟨by rw [he, cnt_all es 2 hc], ?_, turns_row hg hf⟩
  rw [hf]
  exact toks_own hs' (mkL_length es 1) (fun i hi => by
    obtain ⟨x, y, e⟩ := hk i hi
    exact ⟨mt (1 + i * 2), ((1 + i * 2 + 1 : Nat) : Int), by rw [mk_at es 2 1 hc i hi, e]; rfl, rfl⟩)
def tkE (z : Nat → Nat → Value) (i : Nat) : Dt := match z i 0, z i 1 with
  | .string s, .int _ m => .st [.str s, .int m]
  | _, _ => .st [.str ⟨#[]⟩, .int 0]
def tkEs (z : Nat → Nat → Value) : Nat → List Dt
  | 0 => []
  | n + 1 => tkEs z n ++ [tkE z n]
theorem tkEs_len (z : Nat → Nat → Value) : ∀ n, (tkEs z n).length = n
  | 0 => rfl
  | n + 1 => by rw [tkEs, List.length_append, tkEs_len z n]; rfl
theorem tkEs_at (z : Nat → Nat → Value) : ∀ n i, i < n → at_ (tkEs z n) i = tkE z i
  | n + 1, i, h => by
    rw [tkEs]
    by_cases hi : i < n
    · rw [← tkEs_at z n i hi]; unfold at_; rw [List.getD_eq_getElem?_getD, List.getD_eq_getElem?_getD, List.getElem?_append_left (by rw [tkEs_len]; exact hi)]
    · have : i = n := by omega
      subst this
      unfold at_; rw [List.getD_eq_getElem?_getD, List.getElem?_append_right (by rw [tkEs_len]; omega), tkEs_len]; simp
theorem tkEs_bulk {z : Nat → Nat → Value} : ∀ n, (∀ i, i < n → ∃ (x0 : ByteArray) (x1 : Int), z i 0 = .string x0 ∧ z i 1 = .int .i64 x1) → bulkL (tkEs z n) = Tokens.total z n
  | 0, _ => rfl
  | n + 1, h => by
    obtain ⟨x, y, e1, e2⟩ := h n (by omega)
    rw [tkEs, bulkL_app, tkEs_bulk n (fun i hi => h i (by omega)), Tokens.total]
    simp only [tkE, e1, e2, bulkL, Dt.bulk, Tokens.strSize]; omega
theorem recs_keep {w W' : World} {a : Option Addr} {n cap : Nat} {z : Nat → Nat → Value} (hr : IsRecs Tokens.kl w a n cap z) (hb : Below w.heap.size w W') : IsRecs Tokens.kl W' a n cap z := by
  obtain ⟨h1, h2, h3⟩ := hr
  refine ⟨h1, h2, ?_⟩
  rcases h3 with h3 | ⟨g, o, ha, hg, h4⟩
  · exact .inl h3
  · exact .inr ⟨g, o, ha, Nat.lt_of_lt_of_le hg hb.size, fun i hi j kd hk => ⟨(hb.cell (p := ⟨g, _, none⟩) hg).trans (h4 i hi j kd hk).1, (h4 i hi j kd hk).2⟩⟩
theorem to_TokenS (w : World) {a : Option Addr} {n cap : Nat} {z : Nat → Nat → Value} (hn : n ≤ 1048576) (hr : IsRecs Tokens.kl w a n cap z) :
    Calls Tryz.prog 16 #[.slice a n cap] w fun e w' => ∃ (v : Value) (fp : List Nat), e = .returned v ∧ Own w' (.sl KToken) [v] (.sl (tkEs z n)) fp ∧ fp.Nodup ∧ (∀ b ∈ fp, w.heap.size ≤ b) ∧ Below w.heap.size w w' :=
  (Tokens.toS_any a n cap z w hn hr).mono fun e w' ⟨v, he, hs, hb⟩ => ⟨v, _, he, toks_own hs (tkEs_len z n) (fun i hi => by
    obtain ⟨x, y, e1, e2⟩ := Tokens.rec_at hr hi
    exact ⟨x, y, by rw [tkEs_at z n i hi]; simp only [tkE, e1, e2], by simp only [e1, e2]⟩), by cases rowOf n v <;> simp, fun b hb' => (hs.row b (by simpa using hb')).1, hb⟩
end Go.Proofs.YtjmfgbbngocodaaGreat.Own

namespace Go.Proofs.YtjmfgbbngocodaaGreat.Own
open Go.ChangeShapes Go.WideShapes Go.ChangeAt Go.RowKit
open Kit Slabs Ints Stack Point Turn
set_option linter.unusedVariables false
set_option linter.unusedSimpArgs false
set_option linter.unnecessarySimpa false
structure Gr where
  st : List Int
  q : Int
  s : Int
  dx : Int
  dy : Int
  path : List (Int × Int)
  gray : Int
  x0 : Int
  y0 : Int
  x1 : Int
  y1 : Int
structure Ob where
  path : List (Int × Int)
  gray : Int
  x0 : Int
  y0 : Int
  x1 : Int
  y1 : Int
structure Pg where
  now : Gr
  saved : List Gr
  objs : List Ob
def dI (l : List Int) : List Dt := l.map .int
def dPt (p : Int × Int) : Dt := .st [.int p.1, .int p.2]
def dP (l : List (Int × Int)) : List Dt := l.map dPt
def Gr.dt (g : Gr) : List Dt := [.sl (dI g.st), .int g.q, .int g.s, .int g.dx, .int g.dy, .sl (dP g.path), .int g.gray, .int g.x0, .int g.y0, .int g.x1, .int g.y1]
def Ob.dt (o : Ob) : List Dt := [.sl (dP o.path), .int o.gray, .int o.x0, .int o.y0, .int o.x1, .int o.y1]
def dG (l : List Gr) : List Dt := l.map fun g => .st g.dt
def dO (l : List Ob) : List Dt := l.map fun o => .st o.dt
def Pg.dt (p : Pg) : List Dt := p.now.dt ++ [.sl (dG p.saved), .sl (dO p.objs)]
/-! ### From what is read back to the data -/
def xI (l : List Int) (i : Nat) : Int := l.getD i 0
def pX (l : List (Int × Int)) (i : Nat) : Int := (l.getD i (0, 0)).1
def pY (l : List (Int × Int)) (i : Nat) : Int := (l.getD i (0, 0)).2
def ptsB (l : List (Int × Int)) : Bool := l.all fun p => pokB p.1 p.2
def pathB (l : List (Int × Int)) : Bool := decide (l.length ≤ 8) && ptsB l
def grayB (n : Int) : Bool := decide (0 ≤ n ∧ n ≤ 255)
def grB (g : Gr) : Bool := stB (xI g.st) g.st.length && tokB g.q g.s g.dx g.dy && bokB g.x0 g.y0 g.x1 g.y1 && pathB g.path && grayB g.gray
def obB (o : Ob) : Bool := decide (3 ≤ o.path.length) && pathB o.path && grayB o.gray && bokB o.x0 o.y0 o.x1 o.y1
def pgB (p : Pg) : Bool := grB p.now && decide (p.saved.length ≤ 4) && decide (p.objs.length ≤ 12) && p.saved.all grB && p.objs.all obB
def newP : Pg := ⟨⟨[], 0, 1, 0, 0, [], 0, 0, 0, 32, 32⟩, [], []⟩
/-! ### Ints and points as the other chapters' contracts read them -/
theorem at_dI (l : List Int) {i : Nat} (h : i < l.length) : at_ (dI l) i = .int (xI l i) := by
  rw [at_eq (by simpa [dI] using h)]; simp [dI, xI, List.getD, List.getElem?_eq_getElem h]
theorem at_dP (l : List (Int × Int)) {i : Nat} (h : i < l.length) : at_ (dP l) i = .st [.int (pX l i), .int (pY l i)] := by
  rw [at_eq (by simpa [dP] using h)]; simp [dP, dPt, pX, pY, List.getD, List.getElem?_eq_getElem h]
theorem len_dI (l : List Int) : (dI l).length = l.length := by simp [dI]
theorem len_dP (l : List (Int × Int)) : (dP l).length = l.length := by simp [dP]
theorem len_dG (l : List Gr) : (dG l).length = l.length := by simp [dG]
theorem len_dO (l : List Ob) : (dO l).length = l.length := by simp [dO]
theorem rd_of {w : World} {v : Value} {l : List Int} {fp : List Nat} (h : Own w (.sl .int) [v] (.sl (dI l)) fp) : Rd w v l.length (xI l) := by
  obtain ⟨hs, _, _⟩ := slab_of_own (e := .int) rfl h (B := 0) (fun b _ => Nat.zero_le b)
  rw [len_dI] at hs
  exact Rd.of_slab (hs.same fun i hi => by rw [at_dI l hi]; rfl)
theorem bulk_dI (l : List Int) : bulkL (dI l) = 0 := by
  induction l with
  | nil => rfl
  | cons x r ih => simp only [dI, List.map_cons, bulkL, Dt.bulk] at *; omega
theorem bulk_dP (l : List (Int × Int)) : bulkL (dP l) = 0 := by
  induction l with
  | nil => rfl
  | cons x r ih => simp only [dP, dPt, List.map_cons, bulkL, Dt.bulk] at *; omega
def PathAt (w : World) (a : Option Addr) (l : List (Int × Int)) : Prop := l = [] ∨ ∃ g, a = some ⟨g, 0, none⟩ ∧ g < w.heap.size ∧ ∀ i, i < l.length → w.cell? ⟨g, i * 2, none⟩ = some (.int .i64 (pX l i)) ∧ w.cell? ⟨g, i * 2 + 1, none⟩ = some (.int .i64 (pY l i))
theorem path_of {w : World} {a : Option Addr} {n c : Nat} {l : List (Int × Int)} {fp : List Nat} (h : Own w (.sl KPt) [.slice a n c] (.sl (dP l)) fp) : n = l.length ∧ PathAt w a l := by
  obtain ⟨hl, hr⟩ := h.row
  rw [len_dP] at hl
  refine ⟨hl.symm, ?_⟩
  by_cases h0 : n = 0
  · exact .inl (List.eq_nil_of_length_eq_zero (by omega))
  · obtain ⟨g, rfl, _⟩ := hr h0
    refine .inr ⟨g, rfl, ?_, fun i hi => ?_⟩
    · exact (h.elt (i := 0) (by rw [len_dP]; omega)).1
    · obtain ⟨_, _, cs, ds, fq, e, o, _, _, hc⟩ := h.elt (i := i) (by rw [len_dP]; exact hi)
      rw [← at_eq (by rw [len_dP]; exact hi), at_dP l hi] at e
      injection e with e
      subst e
      obtain ⟨rfl, _, _⟩ := o.flat rfl
      have h1 := hc w (Below.refl _ _) 0 (.int .i64 (pX l i)) rfl
      have h2 := hc w (Below.refl _ _) 1 (.int .i64 (pY l i)) rfl
      exact ⟨by simpa [szL, Kd.sz] using h1, by simpa [szL, Kd.sz] using h2⟩
theorem PathAt.on {w w' : World} {a : Option Addr} {l : List (Int × Int)} (h : PathAt w a l) (hb : Below w.heap.size w w') : PathAt w' a l := by
  rcases h with h | ⟨g, ha, hg, h⟩
  · exact .inl h
  · exact .inr ⟨g, ha, Nat.lt_of_lt_of_le hg hb.size, fun i hi => ⟨(hb.cell (p := ⟨g, _, none⟩) hg).trans (h i hi).1, (hb.cell (p := ⟨g, _, none⟩) hg).trans (h i hi).2⟩⟩
theorem ptsB_bad {l : List (Int × Int)} {k : Nat} (hk : k < l.length) (h : pokB (pX l k) (pY l k) = false) : ptsB l = false := by
  rw [ptsB, List.all_eq_false]
  refine ⟨l[k], List.getElem_mem hk, ?_⟩
  have e : l.getD k (0, 0) = l[k] := by simp [List.getD, List.getElem?_eq_getElem hk]
  simp only [pX, pY, e] at h
  simp [h]
theorem ptsB_good {l : List (Int × Int)} (h : ∀ k, k < l.length → pokB (pX l k) (pY l k) = true) : ptsB l = true := by
  rw [ptsB, List.all_eq_true]
  intro p hp
  obtain ⟨k, hk, rfl⟩ := List.getElem_of_mem hp
  have e : l.getD k (0, 0) = l[k] := by simp [List.getD, List.getElem?_eq_getElem hk]
  have := h k hk
  simpa only [pX, pY, e] using this
theorem all_bad {α : Type} {l : List α} {f : α → Bool} {k : Nat} (hk : k < l.length) (h : f l[k] = false) : l.all f = false := by
  rw [List.all_eq_false]; exact ⟨l[k], List.getElem_mem hk, by simp [h]⟩
theorem all_good {α : Type} {l : List α} {f : α → Bool} (h : ∀ k (hk : k < l.length), f l[k] = true) : l.all f = true := by
  rw [List.all_eq_true]; intro p hp; obtain ⟨k, hk, rfl⟩ := List.getElem_of_mem hp; exact h k hk
end Go.Proofs.YtjmfgbbngocodaaGreat.Own

namespace Go.Proofs.YtjmfgbbngocodaaGreat.Own
open Go.ChangeShapes Go.WideShapes Go.ChangeAt Go.RowKit
open Kit Slabs Ints Stack Point Turn
set_option linter.unusedVariables false
set_option linter.unusedSimpArgs false
set_option linter.unnecessarySimpa false
set_option maxRecDepth 100000
theorem gray_impl (n : Int) (w : World) : Calls Tryz.prog 116 #[.int .i64 n] w fun e w' => e = .returned (.bool (grayB n)) ∧ w = w' := by
  by_cases h1 : 0 ≤ n <;> by_cases h2 : n ≤ 255
  all_goals
    go_enter Tryz.func116, Tryz.ntmps116
    go_wp2
    go_ret
    exact ⟨ret_bool (by simp [grayB, h1, h2]), rfl⟩
set_option maxHeartbeats 1000000 in
theorem pts_spec (w : World) (a : Option Addr) (c : Nat) (l : List (Int × Int)) (hn : l.length ≤ 1048576) (h : PathAt w a l) :
    Calls Tryz.prog 109 #[.slice a l.length c] w fun e w' => e = .returned (.bool (pathB l)) ∧ Below w.heap.size w w' := by
  have HP := Lib.hid h
  rcases h with rfl | ⟨g, rfl, hg, _⟩
  · go_enter Tryz.func109, Tryz.ntmps109
    go_wp2
    go_rounds 1
    go_ret
    exact ⟨rfl, Below.refl _ _⟩
  · obtain ⟨n, hN⟩ : ∃ n, l.length = n := ⟨_, rfl⟩
    have HN := Lib.hid hN
    rw [hN] at hn ⊢
    clear hN
    go_enter Tryz.func109, Tryz.ntmps109
    go_wp2
    go_loopw [3] (fun v3 wr => ∃ k : Nat, k ≤ n ∧ v3 = .int .i64 (k : Int) ∧ Hid (∀ i, i < k → pokB (pX l i) (pY l i) = true) ∧ Below w.heap.size w wr) (fun v3 _ => n - (intOf v3).toNat)
    case atStart => exact ⟨0, Nat.zero_le _, rfl, Lib.hid (fun i hi => absurd hi (Nat.not_lt_zero i)), Below.refl _ _⟩
    case round =>
      obtain ⟨k, hk, rfl, hb, hB⟩ := hrel
      by_cases hlt : k < n
      · have hP := HP.out.on hB
        rcases hP with he | ⟨g', hg', hlg, hc⟩
        · have := HN.out; rw [he] at this; simp at this; omega
        · injection hg' with hg'
          injection hg' with hg'
          subst hg'
          have q := hc k (by rw [HN.out]; exact hlt)
          obtain ⟨q1, q2⟩ := q
          obtain ⟨x, hx⟩ : ∃ x, pX l k = x := ⟨_, rfl⟩
          obtain ⟨y, hy⟩ : ∃ y, pY l k = y := ⟨_, rfl⟩
          rw [hx] at q1; rw [hy] at q2
          have i0 : (0 : Int) ≤ (k : Int) := by omega
          have i1 : (k : Int) < (n : Int) := by omega
          have HX := Lib.hid (And.intro hx hy)
          clear hx hy hc
          have HB := Lib.hid hB
          clear hB
          go_wp2_with fail
          ((with_reducible refine (pok_spec x y _).mono ?_); rintro e w1 ⟨rfl, bb⟩)
          have hB1 := on_of HB.out bb
          have HB1 := Lib.hid hB1
          clear hB1 bb
          cases hp : pokB x y
          · have hno : pathB l = false := by rw [pathB, ptsB_bad (by rw [HN.out]; exact hlt) (by rw [HX.out.1, HX.out.2]; exact hp)]; simp
            have HS := Lib.hid hno
            clear hno hp
            go_wp2
            go_ret
            exact ⟨ret_bool HS.out.symm, HB1.out⟩
          · have hyes : ∀ i, i < k + 1 → pokB (pX l i) (pY l i) = true := fun i hi => by
              by_cases e : i = k
              · subst e; rw [HX.out.1, HX.out.2]; exact hp
              · exact hb.out i (by omega)
            have HS := Lib.hid hyes
            clear hyes hp
            go_wp2
            go_roundw
            case rel => exact ⟨k + 1, by omega, by go_num, HS, HB1.out⟩
            case measure => simp [intOf]; omega
      · obtain rfl : k = n := by omega
        have HB := Lib.hid hB
        clear hB
        go_wp2
        go_ret
        refine ⟨ret_bool ?_, HB.out⟩
        rw [pathB, ptsB_good (fun i hi => hb.out i (by rw [← HN.out]; exact hi)), HN.out, Bool.and_true]
        first | rfl | (apply decide_eq_decide.2; omega)
set_option maxHeartbeats 1000000 in
theorem allpts_impl (w : World) (a : Option Addr) (c : Nat) (l : List (Int × Int)) (hn : l.length ≤ 1048576) (h : PathAt w a l) :
    Calls Tryz.prog 144 #[.slice a l.length c, .func (.func 143) #[] #[]] w fun e w' => e = .returned (.bool (ptsB l)) ∧ Below w.heap.size w w' := by
  have HP := Lib.hid h
  rcases h with rfl | ⟨g, rfl, hg, _⟩
  · go_enter Tryz.func144, Tryz.ntmps144
    go_wp2
    go_rounds 1
    go_ret
    exact ⟨rfl, Below.refl _ _⟩
  · obtain ⟨n, hN⟩ : ∃ n, l.length = n := ⟨_, rfl⟩
    have HN := Lib.hid hN
    rw [hN] at hn ⊢
    clear hN
    go_enter Tryz.func144, Tryz.ntmps144
    go_wp2
    go_loopw [9] (fun v9 wr => ∃ k : Nat, k ≤ n ∧ v9 = .int .i64 (k : Int) ∧ Hid (∀ i, i < k → pokB (pX l i) (pY l i) = true) ∧ Below w.heap.size w wr) (fun v9 _ => n - (intOf v9).toNat)
    case atStart => exact ⟨0, Nat.zero_le _, rfl, Lib.hid (fun i hi => absurd hi (Nat.not_lt_zero i)), Below.refl _ _⟩
    case round =>
      obtain ⟨k, hk, rfl, hb, hB⟩ := hrel
      by_cases hlt : k < n
      · have hP := HP.out.on hB
        rcases hP with he | ⟨g', hg', hlg, hc⟩
        · have := HN.out; rw [he] at this; simp at this; omega
        · injection hg' with hg'
          injection hg' with hg'
          subst hg'
          have q := hc k (by rw [HN.out]; exact hlt)
          obtain ⟨q1, q2⟩ := q
          obtain ⟨x, hx⟩ : ∃ x, pX l k = x := ⟨_, rfl⟩
          obtain ⟨y, hy⟩ : ∃ y, pY l k = y := ⟨_, rfl⟩
          rw [hx] at q1; rw [hy] at q2
          have i0 : (0 : Int) ≤ (k : Int) := by omega
          have i1 : (k : Int) < (n : Int) := by omega
          have HX := Lib.hid (And.intro hx hy)
          clear hx hy hc
          have HB := Lib.hid hB
          clear hB
          go_wp2_with fail
          ((with_reducible refine (pok_impl x y _).mono ?_); rintro e w1 ⟨rfl, bb⟩)
          have hB1 := on_of (HB.out.alloc HB.out.size _) bb
          have HB1 := Lib.hid hB1
          clear hB1 bb
          cases hp : pokB x y
          · have hno : ptsB l = false := by exact ptsB_bad (by rw [HN.out]; exact hlt) (by rw [HX.out.1, HX.out.2]; exact hp)
            have HS := Lib.hid hno
            clear hno hp
            go_wp2
            go_ret
            exact ⟨ret_bool HS.out.symm, HB1.out⟩
          · have hyes : ∀ i, i < k + 1 → pokB (pX l i) (pY l i) = true := fun i hi => by
              by_cases e : i = k
              · subst e; rw [HX.out.1, HX.out.2]; exact hp
              · exact hb.out i (by omega)
            have HS := Lib.hid hyes
            clear hyes hp
            go_wp2
            go_roundw
            case rel => exact ⟨k + 1, by omega, by go_num, HS, HB1.out⟩
            case measure => simp [intOf]; omega
      · obtain rfl : k = n := by omega
        have HB := Lib.hid hB
        clear hB
        go_wp2
        go_ret
        exact ⟨ret_bool (ptsB_good (fun i hi => hb.out i (by rw [← HN.out]; exact hi))).symm, HB.out⟩
theorem path_impl (w : World) (a : Option Addr) (c : Nat) (l : List (Int × Int)) (hn : l.length ≤ 1048576) (h : PathAt w a l) :
    Calls Tryz.prog 115 #[.slice a l.length c] w fun e w' => e = .returned (.bool (pathB l)) ∧ Below w.heap.size w w' := by
  by_cases h8 : l.length ≤ 8
  · obtain ⟨n, hN⟩ : ∃ n, l.length = n := ⟨_, rfl⟩
    have H := Lib.hid (And.intro h (And.intro hN hn))
    have h8' : (n : Int) ≤ 8 := by omega
    rw [hN]
    clear h hN hn
    go_enter Tryz.func115, Tryz.ntmps115
    go_wp2_with fail
    rw [← H.out.2.1]
    ((with_reducible refine (allpts_impl w a c l H.out.2.2 H.out.1).mono ?_); rintro e w1 ⟨rfl, bb⟩)
    have HB := Lib.hid bb
    clear bb
    go_wp2
    go_ret
    exact ⟨ret_bool (by simp [pathB, h8]), HB.out⟩
  · have h8' : ¬ (l.length : Int) ≤ 8 := by omega
    clear h
    go_enter Tryz.func115, Tryz.ntmps115
    go_wp2
    go_ret
    exact ⟨ret_bool (by simp [pathB, h8]), Below.refl _ _⟩
end Go.Proofs.YtjmfgbbngocodaaGreat.Own

