/-
  Texts of this seat, laid together: OwnTo, Fb9, Tc9
-/
import Derived.Test.YtkabofbbioaapaaP06
import Derived.Test.YtkabofbbioaapaaP12
import Derived.Test.YtkabofbbioaapaaP13
import Derived.Test.YtkabofbbioaapaaP23
import Derived.Test.YtkabofbbioaapaaP21
namespace Go.Proofs.Ytkabofbbioaapaa.Own
open Go.ChangeShapes Go.WideShapes Go.ChangeAt Go.RowKit
open Kit Slabs Ints
open Draw (IsRow)
set_option linter.unusedVariables false
set_option linter.unusedSimpArgs false
set_option linter.unnecessarySimpa false
set_option maxRecDepth 100000
def Copied (w : World) (k : Kd) (v : Value) (d : Dt) (w' : World) : Prop := ∃ fp, Own w' k v.cells.toList d fp ∧ fp.Nodup ∧ (∀ b ∈ fp, w.heap.size ≤ b) ∧ Below w.heap.size w w'
theorem ints_of {w : World} {a : Option Addr} {n cap : Nat} {d : Dt} (h : Came w (.sl .int) [.slice a n cap] d) : ∃ es : List Dt, d = .sl es ∧ es.length = n ∧ es = (List.range n).map (fun i => Dt.int ((es.map Dt.num).getD i 0)) ∧
    (n ≠ 0 → ∃ g o, a = some ⟨g, o, none⟩ ∧ g < w.heap.size ∧ ∀ i, i < n → w.cell? ⟨g, o + i, none⟩ = some (.int .i64 ((es.map Dt.num).getD i 0))) := by
  cases h with
  | nil a cap hm => exact ⟨[], rfl, rfl, rfl, fun h => absurd rfl h⟩
  | @sl _ g o n cap es hl hn hnc hm hg hr =>
    have key : ∀ i (h : i < es.length), es[i] = .int ((es.map Dt.num).getD i 0) ∧ w.cell? ⟨g, o + i, none⟩ = some (.int .i64 ((es.map Dt.num).getD i 0)) := by
      intro i hi
      obtain ⟨cs, h1, h3⟩ := camer_at hr i hi
      have hgd : (es.map Dt.num).getD i 0 = (es[i]).num := by simp [List.getD, List.getElem?_eq_getElem hi]
      rw [hgd]
      generalize es[i] = x at h1 ⊢
      cases h1 with
      | int m hw => exact ⟨rfl, by have := h3 0 _ rfl; simpa [Kd.sz, Dt.num] using this⟩
    refine ⟨es, rfl, hl, ?_, fun _ => ⟨g, o, rfl, hg, fun i hi => (key i (by omega)).2⟩⟩
    apply List.ext_getElem
    · simp [hl]
    · intro i h1 h2
      simp only [List.getElem_map, List.getElem_range]
      exact (key i h1).1
abbrev KPt : Kd := .st [.int, .int]
abbrev K4 : Kd := .st [.int, .int, .int, .int]
abbrev KGr : Kd := .st [.sl .int, K4, .sl KPt, .int, K4]
theorem pt_is {w : World} {cs : List Value} {d : Dt} (h : Came w KPt cs d) : ∃ x y : Int, cs = [.int .i64 x, .int .i64 y] ∧ d = .st [.int x, .int y] ∧ (Lit.int .i64 x).wf = true ∧ (Lit.int .i64 y).wf = true := by
  cases h with
  | st h =>
    cases h with
    | cons h1 h =>
      cases h1 with
      | int x hx =>
        cases h with
        | cons h2 h =>
          cases h2 with
          | int y hy => cases h; exact ⟨x, y, rfl, rfl, hx, hy⟩
def ptV (d : Dt) (j : Nat) : Value := match d with
  | .st [.int x, .int y] => if j = 0 then .int .i64 x else .int .i64 y
  | _ => undef
theorem own_pt (w : World) (x y : Int) : Own w KPt [.int .i64 x, .int .i64 y] (.st [.int x, .int y]) [] :=
  .st (.cons (cs := [.int .i64 x]) (fp := []) (.int x) (.cons (cs := [.int .i64 y]) (fp := []) (.int y) .nil))
theorem points_of {w : World} {a : Option Addr} {n cap : Nat} {d : Dt} (h : Came w (.sl KPt) [.slice a n cap] d) : ∃ es : List Dt, d = .sl es ∧ es.length = n ∧ (∀ i, i < n → ∃ x y : Int, es.getD i (.int 0) = .st [.int x, .int y]) ∧ Recs.IsRecs [.int .i64, .int .i64] w a n cap (fun i j => ptV (es.getD i (.int 0)) j) := by
  cases h with
  | nil a cap hm => exact ⟨[], rfl, rfl, fun i hi => by omega, Nat.zero_le _, hm, .inl rfl⟩
  | @sl _ g o n cap es hl hn hnc hm hg hr =>
    have key : ∀ i (h : i < es.length), ∃ x y : Int, es.getD i (.int 0) = .st [.int x, .int y] ∧ w.cell? ⟨g, o + (i * 2 + 0), none⟩ = some (.int .i64 x) ∧ w.cell? ⟨g, o + (i * 2 + 1), none⟩ = some (.int .i64 y) ∧ (Lit.int .i64 x).wf = true ∧ (Lit.int .i64 y).wf = true := by
      intro i hi
      obtain ⟨cs, h1, h3⟩ := camer_at hr i hi
      have hgd : es.getD i (.int 0) = es[i] := by simp [List.getD, List.getElem?_eq_getElem hi]
      rw [hgd]
      obtain ⟨x, y, rfl, hd, hx, hy⟩ := pt_is h1
      refine ⟨x, y, hd, ?_, ?_, hx, hy⟩
      · have := h3 0 _ rfl; rw [← Nat.add_assoc]; exact this
      · have := h3 1 _ rfl; rw [← Nat.add_assoc]; exact this
    refine ⟨es, rfl, hl, fun i hi => ?_, hnc, hm, .inr ⟨g, o, rfl, hg, fun i hi j kd hk => ?_⟩⟩
    · obtain ⟨x, y, h, _⟩ := key i (by omega); exact ⟨x, y, h⟩
    · obtain ⟨x, y, h, c0, c1, hx, hy⟩ := key i (by omega)
      have hj : j = 0 ∨ j = 1 := by
        have := (List.getElem?_eq_some_iff.1 hk).1
        simp at this; omega
      rcases hj with rfl | rfl
      · simp only [List.getElem?_cons_zero, Option.some.injEq] at hk
        subst hk
        simp only [h, ptV]
        exact ⟨c0, x, rfl, hx⟩
      · simp only [List.getElem?_cons_succ, List.getElem?_cons_zero, Option.some.injEq] at hk
        subst hk
        simp only [h, ptV]
        exact ⟨c1, y, rfl, hy⟩
theorem toP_came (w : World) (a : Option Addr) (n cap : Nat) (d : Dt) (hn : n ≤ 1048576) (h : Came w (.sl KPt) [.slice a n cap] d) :
    Calls Try.prog 46 #[.slice a n cap] w fun e w' => ∃ (a' : Option Addr) (c' : Nat) (fp : List Nat), e = .returned (.slice a' n c') ∧ Own w' (.sl KPt) [.slice a' n c'] d fp ∧ fp.Nodup ∧ (∀ b ∈ fp, w.heap.size ≤ b) ∧ Below w.heap.size w w' := by
  obtain ⟨es, rfl, hl, hs, hr⟩ := points_of h
  refine (Points.toS_any a n cap _ w hn hr).mono fun e w' ⟨v, hv, hsl, hb⟩ => ?_
  have ho := own_of_slab (e := KPt) (D := fun i => es.getD i (.int 0)) hsl rfl (fun i hi => by
    obtain ⟨x, y, h⟩ := hs i hi
    simp only [h, ptV]
    exact own_pt _ x y)
  have he : (List.range n).map (fun i => es.getD i (.int 0)) = es := by
    apply List.ext_getElem
    · simp [hl]
    · intro i h1 h2
      simp [List.getD, List.getElem?_eq_getElem h2]
  rw [he] at ho
  have hrow := hsl.row
  obtain ⟨a', c', rfl, _⟩ := hsl
  exact ⟨a', c', _, hv, ho, nodup_row _, fun b hbm => (hrow b (by simpa using hbm)).1, hb⟩
end Go.Proofs.Ytkabofbbioaapaa.Own
namespace Go.Proofs.Ytkabofbbioaapaa.Ins
open Go.ChangeShapes Go.WideShapes Go.ChangeAt Go.RowKit
open Kit Point
set_option linter.unusedVariables false
set_option linter.unusedSimpArgs false
set_option linter.unnecessarySimpa false
theorem cnt_split {q : Nat → Bool} {n k : Nat} (hk : k ≤ n) (h1 : ∀ t, t < k → q t = true) (h2 : ∀ t, k ≤ t → t < n → q t = false) : (List.range n).countP q = k := by
  have e := cnt_edge q n (fun a b hab hb hp => by
    rcases Nat.lt_or_ge b k with h | h
    · exact h1 a (by omega)
    · rw [h2 b h hb] at hp; cases hp)
  have hle : (List.range n).countP q ≤ n := by have := List.countP_le_length (p := q) (l := List.range n); simpa using this
  rcases Nat.lt_trichotomy ((List.range n).countP q) k with h | h | h
  · have := (e _ (by omega)).1 (h1 _ h); omega
  · exact h
  · have := (e k (by omega)).2 h; rw [h2 k (Nat.le_refl _) (by omega)] at this; cases this
theorem fnb_split {ax ay bx b1 y : Int} {k : Nat} (hk : k ≤ 401) (h1 : ∀ t : Nat, t < k → psV ax ay bx b1 ((t : Int) - 200) y = 2) (h2 : ∀ t : Nat, k ≤ t → t < 401 → psV ax ay bx b1 ((t : Int) - 200) y ≠ 2) : fnb ax ay bx b1 y = (k : Int) - 200 := by
  unfold fnb
  rw [cnt_split hk (fun t ht => by simpa using h1 t ht) (fun t h3 h4 => by simpa using h2 t h3 h4)]
set_option maxHeartbeats 1000000 in
theorem clo_impl (ax ay bx b1 y : Int) (g0 g1 : Nat) (i : Int) (w : World) (F : Four w g0 ax ay bx b1) (hc : w.cell? ⟨g1, 0, none⟩ = some (.int .i64 y)) (ha : pokB ax ay = true) (hb : pokB bx b1 = true) (hy : inB y = true) (hi : 0 ≤ i ∧ i ≤ 400) :
    Calls Try.prog 111 #[.int .i64 i, .pointer (some ⟨g0, 0, none⟩), .pointer (some ⟨g1, 0, none⟩)] w fun e w' => e = .returned (.bool (decide (psV ax ay bx b1 (i - 200) y ≠ 2))) ∧ Below w.heap.size w w' := by
  obtain ⟨c0, c1, c2, c3, _⟩ := F
  have hx : inB (i - 200) = true := by simp [inB]; omega
  have hw : IntKind.i64.wrap (i - 200) = i - 200 := by rw [IntKind.wrap_i64]; omega
  have HP := Lib.hid (And.intro ha (And.intro hb (And.intro hy hx)))
  clear ha hb hy hx
  go_enter Try.func111, Try.ntmps111
  go_wp2_with fail
  ((with_reducible refine (ps_impl ax ay bx b1 (i - 200) y _ HP.out.1 HP.out.2.1 HP.out.2.2.2 HP.out.2.2.1).mono ?_); rintro e w1 ⟨rfl, bb⟩)
  obtain ⟨r, hr⟩ : ∃ r, psV ax ay bx b1 (i - 200) y = r := ⟨_, rfl⟩
  have HR := Lib.hid hr
  rw [hr]
  clear c0 c1 c2 c3 hc hr
  go_wp2
  go_ret
  exact ⟨ret_bool (by rw [HR.out]; by_cases h : r = 2 <;> simp [h]), bb⟩
set_option maxHeartbeats 1000000 in
theorem srch_impl (ax ay bx b1 y : Int) (g0 g1 : Nat) (w : World) (F : Four w g0 ax ay bx b1) (hc : w.cell? ⟨g1, 0, none⟩ = some (.int .i64 y)) (ha : pokB ax ay = true) (hb : pokB bx b1 = true) (hy : inB y = true) :
    Calls Try.prog 110 #[.int .i64 401, .func (.func 111) #[] #[.pointer (some ⟨g0, 0, none⟩), .pointer (some ⟨g1, 0, none⟩)]] w fun e w' => ∃ k : Nat, e = .returned (.int .i64 (k : Int)) ∧ fnb ax ay bx b1 y = (k : Int) - 200 ∧ k ≤ 401 ∧ Below w.heap.size w w' := by
  have HP := Lib.hid (And.intro F (And.intro hc (And.intro ha (And.intro hb hy))))
  have hl0 := F.lt
  have hl1 := World.block_lt_of_cell? w _ hc
  have HL := Lib.hid (And.intro hl0 hl1)
  clear F hc ha hb hy hl0 hl1
  go_enter Try.func110, Try.ntmps110
  go_wp2
  go_loopw [5, 6] (fun s5 s6 wr => ∃ (lo hi : Nat), s5 = .int .i64 (lo : Int) ∧ s6 = .int .i64 (hi : Int) ∧ lo ≤ hi ∧ hi ≤ 401 ∧ Below w.heap.size w wr ∧
    Hid ((∀ t : Nat, t < lo → psV ax ay bx b1 ((t : Int) - 200) y = 2) ∧ (∀ t : Nat, hi ≤ t → t < 401 → psV ax ay bx b1 ((t : Int) - 200) y ≠ 2))) (fun s5 s6 _ => (intOf s6).toNat - (intOf s5).toNat)
  case atStart => exact ⟨0, 401, rfl, rfl, by omega, by omega, Below.refl _ _, Lib.hid ⟨fun t ht => by omega, fun t h1 h2 => by omega⟩⟩
  case round =>
    obtain ⟨lo, hi, rfl, rfl, hlh, hin, hB, I⟩ := hrel
    have HB := Lib.hid hB
    clear hB
    by_cases hlt : lo < hi
    · have hlti : (lo : Int) < (hi : Int) := by omega
      go_wp2_with fail
      have hcl := clo_impl ax ay bx b1 y g0 g1 (((lo + hi) / 2 : Nat) : Int) wr (HP.out.1.keep HB.out HL.out.1) ((HB.out.cell (p := ⟨g1, 0, none⟩) HL.out.2).trans HP.out.2.1) HP.out.2.2.1 HP.out.2.2.2.1 HP.out.2.2.2.2 (by omega)
      rw [show (((lo + hi) / 2 : Nat) : Int) = ((lo : Int) + (hi : Int)) / 2 by omega] at hcl
      refine hcl.mono ?_
      rintro e w1 ⟨rfl, bb⟩
      clear hcl
      have HB1 := Lib.hid (on_of HB.out bb)
      clear bb
      have HM : Hid (psV ax ay bx b1 (((lo : Int) + (hi : Int)) / 2 - 200) y = psV ax ay bx b1 (((((lo + hi) / 2 : Nat)) : Int) - 200) y) := Lib.hid (by rw [show (((lo + hi) / 2 : Nat) : Int) = ((lo : Int) + (hi : Int)) / 2 by omega])
      generalize psV ax ay bx b1 (((lo : Int) + (hi : Int)) / 2 - 200) y = r at *
      by_cases hr : r = 2
      · have HR := Lib.hid (HM.out.symm.trans hr)
        clear HM
        simp only [hr, ne_eq, not_true, decide_false]
        go_wp2
        go_roundw
        case rel =>
          refine ⟨(lo + hi) / 2 + 1, hi, by rw [show ((((lo + hi) / 2 + 1 : Nat)) : Int) = ((lo : Int) + (hi : Int)) / 2 + 1 by omega], rfl, by omega, hin, HB1.out, Lib.hid ⟨fun t ht => ps_mono (show (t : Int) - 200 ≤ ((((lo + hi) / 2 : Nat)) : Int) - 200 by omega) HR.out, I.out.2⟩⟩
        case measure => simp [intOf]; omega
      · have HR := Lib.hid (show psV ax ay bx b1 (((((lo + hi) / 2 : Nat)) : Int) - 200) y ≠ 2 by rw [← HM.out]; exact hr)
        clear HM
        simp only [hr, ne_eq, not_false_eq_true, decide_true]
        go_wp2
        go_roundw
        case rel =>
          refine ⟨lo, (lo + hi) / 2, rfl, by rw [show ((((lo + hi) / 2 : Nat)) : Int) = ((lo : Int) + (hi : Int)) / 2 by omega], by omega, by omega, HB1.out, Lib.hid ⟨I.out.1, fun t h1 h2 h3 => HR.out (ps_mono (by omega) h3)⟩⟩
        case measure => simp [intOf]; omega
    · obtain rfl : lo = hi := by omega
      go_wp2
      go_ret
      exact ⟨lo, rfl, fnb_split hin I.out.1 I.out.2, hin, HB.out⟩
set_option maxHeartbeats 1000000 in
theorem fnb_impl (ax ay bx b1 y : Int) (w : World) (ha : pokB ax ay = true) (hb : pokB bx b1 = true) (hy : inB y = true) :
    Calls Try.prog 106 #[.agg #[.int .i64 ax, .int .i64 ay, .int .i64 bx, .int .i64 b1], .int .i64 y] w fun e w' => e = .returned (.int .i64 (fnb ax ay bx b1 y)) ∧ Below w.heap.size w w' := by
  have HP := Lib.hid (And.intro ha (And.intro hb hy))
  clear ha hb hy
  go_enter Try.func106, Try.ntmps106
  go_wp2_with fail
  refine (srch_impl ax ay bx b1 y w.heap.size (w.heap.size + 1) _ ?_ ?_ HP.out.1 HP.out.2.1 HP.out.2.2).mono ?_
  · exact Four.alloc (Four.new w _ _ _ _ _) _
  · simp [go_sem]
  · rintro e w1 ⟨k, rfl, hk, hk1, bb⟩
    have HB1 := Lib.hid (on_of (W := w) (by go_grown) bb)
    have hw : IntKind.i64.wrap ((k : Int) - 200) = (k : Int) - 200 := by rw [IntKind.wrap_i64]; omega
    have HK := Lib.hid hk
    clear bb hk
    go_wp2
    go_ret
    exact ⟨by rw [HK.out]; rfl, HB1.out⟩
end Go.Proofs.Ytkabofbbioaapaa.Ins
namespace Go.Proofs.Ytkabofbbioaapaa.Ins
open Go.ChangeShapes Go.WideShapes Go.ChangeAt Go.RowKit
open Kit Point Slabs
set_option linter.unusedVariables false
set_option linter.unusedSimpArgs false
set_option linter.unnecessarySimpa false
theorem colsK_no {l : List Pt} {y : Int} {k : Nat} (h : psg (sdk l k) y = false) : colsK l y (k + 1) = colsK l y k := by rw [colsK, h]; simp
theorem colsK_yes {l : List Pt} {y : Int} {k : Nat} (h : psg (sdk l k) y = true) : colsK l y (k + 1) = tog (colsK l y k) (fnb (sdk l k).1.1 (sdk l k).1.2 (sdk l k).2.1 (sdk l k).2.2 y) := by rw [colsK, h]; simp
set_option maxHeartbeats 2000000 in
theorem tc_impl (w : World) (a : Option Addr) (c : Nat) (l : List Pt) (y : Int) (hn : l.length ≤ 100000) (h : PathAt w a l) (hpts : ptsB l = true) (hy : inB y = true) :
    Calls Try.prog 101 #[.slice a l.length c, .int .i64 y] w fun e w' => ∃ v, e = .returned v ∧ Cols w' w.heap.size v (colsK l y l.length) ∧ Below w.heap.size w w' := by
  have H := Lib.hid (And.intro h (And.intro hn (And.intro hpts hy)))
  clear h hn hpts hy
  go_enter Try.func101, Try.ntmps101
  go_wp2_with fail
  (refine (sd_impl _ _ _ _ (by have := H.out.2.1; omega) H.out.1).mono ?_; rintro e w3 ⟨v, rfl, hS, hB3⟩)
  have HB3 := Lib.hid hB3
  clear hB3
  obtain ⟨n, hN⟩ : ∃ n, l.length = n := ⟨_, rfl⟩
  have HN := Lib.hid hN
  have hn := H.out.2.1
  rw [hN] at hS hn ⊢
  clear hN
  rcases hS.writes with ⟨h0, a1, c1, rfl⟩ | ⟨g, c1, rfl, _, W1⟩
  · subst h0
    clear hS
    go_wp2
    go_rounds 1
    go_ret
    refine ⟨_, rfl, ?_, HB3.out⟩
    rw [HN.out]
    exact Cols.nil _ _
  · have HW := Lib.hid W1
    clear hS W1
    go_wp2
    go_loopw [5, 11] (fun v5 v11 wr => ∃ k : Nat, k ≤ n ∧ v11 = .int .i64 (k : Int) ∧ Cols wr w3.heap.size v5 (colsK l y k) ∧ Below w3.heap.size w3 wr) (fun v5 v11 _ => n - (intOf v11).toNat)
    case atStart => exact ⟨0, Nat.zero_le _, rfl, Cols.nil _ _, Below.refl _ _⟩
    case round =>
      obtain ⟨k, hk, rfl, hC, hB⟩ := hrel
      by_cases hlt : k < n
      · have W2 := HW.out.on hB
        obtain ⟨m, hm⟩ : ∃ m, (k + 1) % n = m := ⟨_, rfl⟩
        have hmn : m < n := by rw [← hm]; exact Nat.mod_lt _ (by omega)
        have hp1 := ptsB_at H.out.2.2.1 (k := k) (by rw [HN.out]; exact hlt)
        have hp2 := ptsB_at H.out.2.2.1 (k := m) (by rw [HN.out]; exact hmn)
        have hf : sdF l k = [.int .i64 (pX l k), .int .i64 (pY l k), .int .i64 (pX l m), .int .i64 (pY l m)] := by unfold sdF; rw [HN.out, hm]
        have hs : sdk l k = ((pX l k, pY l k), (pX l m, pY l m)) := by unfold sdk; rw [HN.out, hm]
        generalize pX l k = ax at hf hp1 hs
        generalize pY l k = ay at hf hp1 hs
        generalize pX l m = bx at hf hp2 hs
        generalize pY l m = b1 at hf hp2 hs
        obtain ⟨q1, q2, q3, q4⟩ := cells4_of W2.cell hlt hf
        have hgl := W2.here
        have HS := Lib.hid hs
        have HQ := Lib.hid (And.intro hp1 hp2)
        have HB := Lib.hid hB
        have HC := Lib.hid hC
        clear hs hp1 hp2 hf W2 hm hB hC
        have i0 : (0 : Int) ≤ (k : Int) := by omega
        have i1 : (k : Int) < (n : Int) := by omega
        go_wp2_with fail
        ((with_reducible refine (ps_impl ax ay bx b1 0 y _ HQ.out.1 HQ.out.2 (by decide) H.out.2.2.2).mono ?_); rintro e w4 ⟨rfl, bb⟩)
        have hB4 := on_of (HB.out.alloc HB.out.size _) bb
        have HB4 := Lib.hid hB4
        have hbb := (Below.refl wr.heap.size wr).alloc (Nat.le_refl _) (.cells #[.int .i64 ax, .int .i64 ay, .int .i64 bx, .int .i64 b1] 134)
        have hWr4 := on_of hbb bb
        have HC4 := Lib.hid (HC.out.keep hWr4)
        have F4 := Four.keep (Four.new wr 134 ax ay bx b1) bb (by rw [World.size_alloc]; omega)
        obtain ⟨f0, f1, f2, f3, ff⟩ := F4.lay
        clear hB4 bb q1 q2 q3 q4 hbb hWr4 HC F4
        have hz := ps_zero ax ay bx b1 0 y
        obtain ⟨r, hr⟩ : ∃ r, psV ax ay bx b1 0 y = r := ⟨_, rfl⟩
        rw [hr] at hz ⊢
        clear hr
        by_cases hr0 : r = 0
        · subst hr0
          have e := colsK_no (l := l) (y := y) (k := k) (by rw [HS.out]; exact hz.1 rfl)
          have HE := Lib.hid e
          clear e hz f0 f1 f2 f3 ff
          go_wp2
          go_roundw
          case rel => exact ⟨k + 1, by omega, by go_num, by rw [HE.out]; exact HC4.out, HB4.out⟩
          case measure => simp [intOf]; omega
        · have e := colsK_yes (l := l) (y := y) (k := k) (by
            rw [HS.out]; cases hp : psg ((ax, ay), (bx, b1)) y
            · exact absurd (hz.2 hp) hr0
            · rfl)
          rw [HS.out] at e
          have HE := Lib.hid e
          clear e hz
          go_wp2_with fail
          ((with_reducible refine (fnb_impl ax ay bx b1 y _ HQ.out.1 HQ.out.2 H.out.2.2.2).mono ?_); rintro e w5 ⟨rfl, bb⟩)
          clear f0 f1 f2 f3 ff
          have HB5 := Lib.hid (on_of HB4.out bb)
          have HC5 := Lib.hid (HC4.out.keep bb)
          clear bb
          go_wp2_with fail
          refine (tog_impl w5 w3.heap.size _ _ (fnb ax ay bx b1 y) HC5.out HB5.out.size (by have := cols_len l y k; omega) (cols_sorted l y k)).mono ?_
          rintro e w6 ⟨u, rfl, hC6, hB6⟩
          have HB6 := Lib.hid (HB5.out.trans hB6)
          have HC6 := Lib.hid hC6
          clear hC6 hB6
          go_wp2
          go_roundw
          case rel => exact ⟨k + 1, by omega, by go_num, by rw [HE.out]; exact HC6.out, HB6.out⟩
          case measure => simp [intOf]; omega
      · obtain rfl : k = n := by omega
        have HB := Lib.hid hB
        have HC := Lib.hid hC
        clear hB hC
        go_wp2
        go_ret
        refine ⟨_, rfl, ?_, HB3.out.trans (HB.out.mono HB3.out.size)⟩
        rw [HN.out]
        rcases HC.out with ⟨h1, h2⟩ | ⟨g2, c2, f2, h1, h2, h3⟩
        · exact .inl ⟨h1, h2⟩
        · exact .inr ⟨g2, c2, f2, h1, Nat.le_trans HB3.out.size h2, h3⟩
end Go.Proofs.Ytkabofbbioaapaa.Ins
