/-
  Texts of this seat, laid together: Rs11, Lw10, SzBO
-/
import Derived.WalkKit
import Derived.Deep.DeepCutAuto
import Derived.Deep.QuietTactic
import Derived.BigQuiet
import Derived.Deep.RegionHeld3
import Derived.Handy
import Derived.Test.YtkabofbbioaapaaGreatV33
import Derived.Test.YtkabofbbioaapaaGreatV42
import Derived.Test.YtkabofbbioaapaaGreatV27
import Derived.Test.YtkabofbbioaapaaGreatV41
import Derived.Test.YtkabofbbioaapaaGreatV25
namespace Go.Proofs.YtkabofbbioaapaaGreat.Own
open Go.ChangeShapes Go.WideShapes Go.ChangeAt Go.RowKit
open Kit Slabs Ints
set_option linter.unusedVariables false
set_option linter.unusedSimpArgs false
set_option linter.unnecessarySimpa false
set_option maxRecDepth 100000
def sameB (R S : List (List Int)) : Bool := decide (R = S)
theorem ext_getD {α : Type} {l m : List α} {z : α} (hl : l.length = m.length) (h : ∀ i, i < l.length → l.getD i z = m.getD i z) : l = m := by
  apply List.ext_getElem hl
  intro i h1 h2
  have := h i h1
  simpa [List.getD, List.getElem?_eq_getElem h1, List.getElem?_eq_getElem h2] using this
theorem ne_getD {α : Type} {l m : List α} {z : α} (i : Nat) (h : l.getD i z ≠ m.getD i z) : l ≠ m := fun e => h (by rw [e])
set_option maxHeartbeats 1000000 in
theorem equal_impl (w : World) (a b : Option Addr) (c d : Nat) (r s : List Int) (hn : r.length ≤ 1048576) (hm : s.length ≤ 1048576) (h : Lies w a (ivs r)) (h2 : Lies w b (ivs s)) :
    Calls Tryz.prog 38 #[.slice a r.length c, .slice b s.length d] w fun e w' => e = .returned (.bool (decide (r = s))) ∧ Below w.heap.size w w' := by
  by_cases hl : r.length = s.length
  · have HP := Lib.hid (And.intro h h2)
    obtain ⟨n, hN⟩ : ∃ n, r.length = n := ⟨_, rfl⟩
    have hN2 : s.length = n := by omega
    have HN := Lib.hid (And.intro hN hN2)
    rw [hN] at hn ⊢
    rw [hN2]
    clear hN hN2 h h2 hm hl
    go_enter Tryz.func38, Tryz.ntmps38
    go_wp2
    go_loopw [13] (fun v9 wr => ∃ k : Nat, k ≤ n ∧ v9 = .int .i64 (k : Int) ∧ Hid (∀ i, i < k → r.getD i 0 = s.getD i 0) ∧ Below w.heap.size w wr) (fun v9 _ => n - (intOf v9).toNat)
    case atStart => exact ⟨0, Nat.zero_le _, rfl, Lib.hid (fun i hi => absurd hi (Nat.not_lt_zero i)), Below.refl _ _⟩
    case round =>
      obtain ⟨k, hk, rfl, hb, hB⟩ := hrel
      by_cases hlt : k < n
      · obtain ⟨g, o, rfl, hg, hc⟩ := lies_at (HP.out.1.on hB) (by rw [HN.out.1]; omega)
        obtain ⟨g2, o2, rfl, hg2, hc2⟩ := lies_at (HP.out.2.on hB) (by rw [HN.out.2]; omega)
        have q := hc k (by rw [HN.out.1]; exact hlt)
        have q2 := hc2 k (by rw [HN.out.2]; exact hlt)
        obtain ⟨x, hx⟩ : ∃ x, r.getD k 0 = x := ⟨_, rfl⟩
        obtain ⟨y, hy⟩ : ∃ y, s.getD k 0 = y := ⟨_, rfl⟩
        rw [hx] at q
        rw [hy] at q2
        have i0 : (0 : Int) ≤ (k : Int) := by omega
        have i1 : (k : Int) < (n : Int) := by omega
        have HX := Lib.hid (And.intro hx hy)
        have HB := Lib.hid hB
        clear hx hy hB hc hc2
        by_cases he : x = y
        · have e9 : (x == y) = true := by simpa using he
          have hyes : ∀ i, i < k + 1 → r.getD i 0 = s.getD i 0 := fun i hi => by
            by_cases e : i = k
            · subst e; rw [HX.out.1, HX.out.2]; exact he
            · exact hb.out i (by omega)
          have HS := Lib.hid hyes
          clear hyes he
          go_wp2
          go_quiet (fail)
          go_wp2
          refine ⟨⟨k + 1, by omega, by go_num, HS, drewN_below HB.out _⟩, by simp [intOf]; omega⟩
        · have e9 : (x == y) = false := by simpa using he
          have HS : Hid (r ≠ s) := Lib.hid (ne_getD (z := 0) k (by rw [HX.out.1, HX.out.2]; exact he))
          clear he
          go_wp2
          go_quiet (fail)
          go_wp2
          go_ret
          exact ⟨ret_bool (by simp [HS.out]), drewN_below HB.out _⟩
      · obtain rfl : k = n := by omega
        have HB := Lib.hid hB
        have HS : Hid (r = s) := Lib.hid (ext_getD (z := 0) (by rw [HN.out.1, HN.out.2]) (fun i hi => hb.out i (by rw [← HN.out.1]; exact hi)))
        clear hB
        go_wp2
        go_ret
        exact ⟨ret_bool (by simp [HS.out]), HB.out⟩
  · have HS : Hid (r ≠ s) := Lib.hid (fun e => hl (by rw [e]))
    have h1' : ((r.length : Int) == (s.length : Int)) = false := by simp; omega
    clear h h2 hl
    go_enter Tryz.func38, Tryz.ntmps38
    go_wp2
    go_ret
    exact ⟨ret_bool (by simp [HS.out]), Below.refl _ _⟩
set_option maxHeartbeats 1000000 in
theorem eqfunc_impl (w : World) (a b : Option Addr) (c d : Nat) (R S : List (List Int)) (hn : R.length ≤ 1048576) (hm : S.length ≤ 1048576) (tr : tot R ≤ 1048576) (ts : tot S ≤ 1048576) (h : RR w a R) (h2 : RR w b S) :
    Calls Tryz.prog 37 #[.slice a R.length c, .slice b S.length d, .func (.func 38) #[] #[]] w fun e w' => e = .returned (.bool (sameB R S)) ∧ Below w.heap.size w w' := by
  by_cases hl : R.length = S.length
  · have HP := Lib.hid (And.intro h h2)
    obtain ⟨n, hN⟩ : ∃ n, R.length = n := ⟨_, rfl⟩
    have hN2 : S.length = n := by omega
    have HN := Lib.hid (And.intro hN (And.intro hN2 (And.intro tr ts)))
    rw [hN] at hn ⊢
    rw [hN2]
    clear hN hN2 h h2 hm hl tr ts
    go_enter Tryz.func37, Tryz.ntmps37
    go_wp2
    go_loopw [17] (fun v9 wr => ∃ k : Nat, k ≤ n ∧ v9 = .int .i64 (k : Int) ∧ Hid (∀ i, i < k → R.getD i [] = S.getD i []) ∧ Below w.heap.size w wr) (fun v9 _ => n - (intOf v9).toNat)
    case atStart => exact ⟨0, Nat.zero_le _, rfl, Lib.hid (fun i hi => absurd hi (Nat.not_lt_zero i)), Below.refl _ _⟩
    case round =>
      obtain ⟨k, hk, rfl, hb, hB⟩ := hrel
      by_cases hlt : k < n
      · obtain ⟨g, o, rfl, hg, hc⟩ := (HP.out.1.on hB).some (by rw [HN.out.1]; omega)
        obtain ⟨g2, o2, rfl, hg2, hc2⟩ := (HP.out.2.on hB).some (by rw [HN.out.2.1]; omega)
        obtain ⟨a', c', q, hl⟩ := hc k (by rw [HN.out.1]; exact hlt)
        obtain ⟨b', d', q2, hl2⟩ := hc2 k (by rw [HN.out.2.1]; exact hlt)
        have hx0 := tot_at (R := R) (k := k) (by rw [HN.out.1]; exact hlt)
        have hy0 := tot_at (R := S) (k := k) (by rw [HN.out.2.1]; exact hlt)
        obtain ⟨x, hx⟩ : ∃ x, R.getD k [] = x := ⟨_, rfl⟩
        obtain ⟨y, hy⟩ : ∃ y, S.getD k [] = y := ⟨_, rfl⟩
        rw [hx] at q hl hx0
        rw [hy] at q2 hl2 hy0
        have i0 : (0 : Int) ≤ (k : Int) := by omega
        have i1 : (k : Int) < (n : Int) := by omega
        have HX := Lib.hid (And.intro hx hy)
        have HB := Lib.hid hB
        have HL := Lib.hid (And.intro hl (And.intro hl2 (And.intro (show x.length ≤ 1048576 by have := HN.out.2.2.1; omega) (show y.length ≤ 1048576 by have := HN.out.2.2.2; omega))))
        clear hx hy hB hc hc2 hl hl2 hx0 hy0
        go_wp2_with fail
        ((with_reducible refine (equal_impl _ _ _ _ _ x y HL.out.2.2.1 HL.out.2.2.2 HL.out.1 HL.out.2.1).mono ?_); rintro e w1 ⟨rfl, bb⟩)
        have HB1 := Lib.hid (on_of HB.out bb)
        clear bb
        by_cases he : x = y
        · have e9 : decide (x = y) = true := by simpa using he
          have hyes : ∀ i, i < k + 1 → R.getD i [] = S.getD i [] := fun i hi => by
            by_cases e : i = k
            · subst e; rw [HX.out.1, HX.out.2]; exact he
            · exact hb.out i (by omega)
          have HS := Lib.hid hyes
          rw [e9]
          clear hyes he e9
          go_wp2
          go_roundw
          case rel => exact ⟨k + 1, by omega, by go_num, HS, HB1.out⟩
          case measure => simp [intOf]; omega
        · have e9 : decide (x = y) = false := by simpa using he
          have HS : Hid (R ≠ S) := Lib.hid (ne_getD (z := []) k (by rw [HX.out.1, HX.out.2]; exact he))
          rw [e9]
          clear he e9
          go_wp2
          go_ret
          exact ⟨ret_bool (by simp [sameB, HS.out]), HB1.out⟩
      · obtain rfl : k = n := by omega
        have HB := Lib.hid hB
        have HS : Hid (R = S) := Lib.hid (ext_getD (z := []) (by rw [HN.out.1, HN.out.2.1]) (fun i hi => hb.out i (by rw [← HN.out.1]; exact hi)))
        clear hB
        go_wp2
        go_ret
        exact ⟨ret_bool (by simp [sameB, HS.out]), HB.out⟩
  · have HS : Hid (R ≠ S) := Lib.hid (fun e => hl (by rw [e]))
    have h1' : ((R.length : Int) == (S.length : Int)) = false := by simp; omega
    clear h h2 hl
    go_enter Tryz.func37, Tryz.ntmps37
    go_wp2
    go_ret
    exact ⟨ret_bool (by simp [sameB, HS.out]), Below.refl _ _⟩
theorem same_impl (w : World) (a b : Option Addr) (c d : Nat) (R S : List (List Int)) (hn : R.length ≤ 1048576) (hm : S.length ≤ 1048576) (tr : tot R ≤ 1048576) (ts : tot S ≤ 1048576) (h : RR w a R) (h2 : RR w b S) :
    Calls Tryz.prog 13 #[.slice a R.length c, .slice b S.length d] w fun e w' => e = .returned (.bool (sameB R S)) ∧ Below w.heap.size w w' := by
  have HC := Lib.hid (eqfunc_impl w a b c d R S hn hm tr ts h h2)
  clear h h2
  go_enter Tryz.func13, Tryz.ntmps13
  go_wp2_with fail
  ((with_reducible refine HC.out.mono ?_); rintro e w1 ⟨rfl, bb⟩)
  go_wp2
  go_ret
  exact ⟨rfl, bb⟩
def cnt1 (v : Int) (r : List Int) : Nat := (r.map fun x => if x = v then 1 else 0).sum
def cntR (v : Int) (R : List (List Int)) : Nat := (R.map (cnt1 v)).sum
theorem cnt1_le (v : Int) (r : List Int) : cnt1 v r ≤ r.length := by
  induction r with
  | nil => simp [cnt1]
  | cons x r ih => simp only [cnt1, List.map_cons, List.sum_cons, List.length_cons] at *; split <;> omega
theorem cntR_le (v : Int) (R : List (List Int)) : cntR v R ≤ tot R := by
  induction R with
  | nil => simp [cntR, tot]
  | cons r R ih => have := cnt1_le v r; simp only [cntR, tot, List.map_cons, List.sum_cons] at *; omega
theorem cnt1_take {v : Int} {r : List Int} {k : Nat} (h : k < r.length) : cnt1 v (r.take (k + 1)) = cnt1 v (r.take k) + (if r.getD k 0 = v then 1 else 0) := by
  rw [List.take_succ_eq_append_getElem h]
  simp only [cnt1, List.map_append, List.sum_append, List.map_cons, List.map_nil, List.sum_cons, List.sum_nil, Nat.add_zero]
  simp [List.getD, List.getElem?_eq_getElem h]
theorem cntR_take {v : Int} {R : List (List Int)} {k : Nat} (h : k < R.length) : cntR v (R.take (k + 1)) = cntR v (R.take k) + cnt1 v (R.getD k []) := by
  rw [List.take_succ_eq_append_getElem h]
  simp only [cntR, List.map_append, List.sum_append, List.map_cons, List.map_nil, List.sum_cons, List.sum_nil, Nat.add_zero]
  simp [List.getD, List.getElem?_eq_getElem h]
theorem cnt1_upto (v : Int) (r : List Int) (k : Nat) : cnt1 v (r.take k) ≤ cnt1 v r := by
  have : cnt1 v r = cnt1 v (r.take k) + cnt1 v (r.drop k) := by
    have : cnt1 v (r.take k ++ r.drop k) = cnt1 v (r.take k) + cnt1 v (r.drop k) := by simp only [cnt1, List.map_append, List.sum_append]
    rw [← this, List.take_append_drop]
  omega
theorem cntR_upto (v : Int) (R : List (List Int)) (k : Nat) : cntR v (R.take k) ≤ cntR v R := by
  have : cntR v R = cntR v (R.take k) + cntR v (R.drop k) := by
    have : cntR v (R.take k ++ R.drop k) = cntR v (R.take k) + cntR v (R.drop k) := by simp only [cntR, List.map_append, List.sum_append]
    rw [← this, List.take_append_drop]
  omega
end Go.Proofs.YtkabofbbioaapaaGreat.Own
namespace Go.Proofs.YtkabofbbioaapaaGreat.Own
open Go.ChangeShapes Go.WideShapes Go.ChangeAt Go.RowKit
open Kit Slabs
set_option linter.unusedVariables false
set_option linter.unusedSimpArgs false
set_option linter.unnecessarySimpa false
theorem spec_ObjectOk (w : World) {A : Array Value} {ds : List Dt} {fp : List Nat} (hb : bulkL ds ≤ 1048576) (h : OwnL w LObject A.toList ds fp) : Calls Tryz.prog 83 #[.agg A] w fun e w' => e = .returned (.bool (obB (obOf ds))) ∧ Below w.heap.size w w' := by
  have e := ob_dt h
  rw [e] at hb h
  obtain ⟨a, c, rfl, hp⟩ := Ins.obj_open h
  exact Ins.ok_spec w a c _ _ _ _ _ _ (Ins.obj_len hb) hp
theorem impl_ObjectOk (w : World) {A : Array Value} {ds : List Dt} {fp : List Nat} (hb : bulkL ds ≤ 1048576) (h : OwnL w LObject A.toList ds fp) : Calls Tryz.prog 28 #[.agg A] w fun e w' => e = .returned (.bool (obB (obOf ds))) ∧ Below w.heap.size w w' := by
  have e := ob_dt h
  rw [e] at hb h
  obtain ⟨a, c, rfl, hp⟩ := Ins.obj_open h
  exact Ins.ok_impl w a c _ _ _ _ _ _ (Ins.obj_len hb) hp
def obD (o : Ob) : Int := Ins.odV o.path o.gray o.x0 o.y0 o.x1 o.y1
def obX (o : Ob) : Ins.Bx := Ins.obx o.path o.gray o.x0 o.y0 o.x1 o.y1
theorem spec_ObjectBox (w : World) {A : Array Value} {ds : List Dt} {fp : List Nat} (hb : bulkL ds ≤ 1048576) (h : OwnL w LObject A.toList ds fp) {p0 p1 p2 p3 : Int} (hX : obX (obOf ds) = ⟨p0, p1, p2, p3⟩) : Calls Tryz.prog 116 #[.agg A] w fun e w' => e = .returned (.agg #[.int .i64 p0, .int .i64 p1, .int .i64 p2, .int .i64 p3]) ∧ Below w.heap.size w w' := by
  have e := ob_dt h
  rw [e] at hb h
  obtain ⟨a, c, rfl, hp⟩ := Ins.obj_open h
  have := Ins.obox_spec w a c _ (obOf ds).gray (obOf ds).x0 (obOf ds).y0 (obOf ds).x1 (obOf ds).y1 (Ins.obj_len hb) hp
  rw [show Ins.obx (obOf ds).path (obOf ds).gray (obOf ds).x0 (obOf ds).y0 (obOf ds).x1 (obOf ds).y1 = ⟨p0, p1, p2, p3⟩ from hX] at this
  exact this
theorem impl_ObjectBox (w : World) {A : Array Value} {ds : List Dt} {fp : List Nat} (hb : bulkL ds ≤ 1048576) (h : OwnL w LObject A.toList ds fp) {p0 p1 p2 p3 : Int} (hX : obX (obOf ds) = ⟨p0, p1, p2, p3⟩) : Calls Tryz.prog 101 #[.agg A] w fun e w' => e = .returned (.agg #[.int .i64 p0, .int .i64 p1, .int .i64 p2, .int .i64 p3]) ∧ Below w.heap.size w w' := by
  have e := ob_dt h
  rw [e] at hb h
  obtain ⟨a, c, rfl, hp⟩ := Ins.obj_open h
  have := Ins.obox_impl w a c _ (obOf ds).gray (obOf ds).x0 (obOf ds).y0 (obOf ds).x1 (obOf ds).y1 (Ins.obj_len hb) hp
  rw [show Ins.obx (obOf ds).path (obOf ds).gray (obOf ds).x0 (obOf ds).y0 (obOf ds).x1 (obOf ds).y1 = ⟨p0, p1, p2, p3⟩ from hX] at this
  exact this
def obS (o : Ob) (y : Int) : List (Int × Int) := Ins.orow o.path o.gray o.x0 o.y0 o.x1 o.y1 y
theorem obS_le (ds : List Dt) (hd : ds = (obOf ds).dt) (hb : bulkL ds ≤ 1048576) (y : Int) : (dP (obS (obOf ds) y)).length ≤ 1048576 := by
  rw [len_dP]
  rw [hd] at hb
  exact Nat.le_trans (Ins.orow_len _ _ _ _ _ _ _) (Ins.obj_len hb)
theorem own_spans {w : World} {B : Nat} {v : Value} {m : List (Int × Int)} (h : w.ownsRow B 94 2 v m.length (Ins.cellsP m)) : ∃ fp, Own w (.sl KPt) [v] (.sl (dP m)) fp ∧ fp.Nodup ∧ ∀ b ∈ fp, B ≤ b := by
  have hs := Ins.slab_owns9 h
  refine ⟨_, pts_own hs (len_dP m) (fun i hi => ⟨Ins.pX m i, Ins.pY m i, ?_, rfl⟩), ?_, fun b hb => (hs.row b (by simpa using hb)).1⟩
  · simp only [at_, dP, List.getD_eq_getElem?_getD, List.getElem?_map, List.getElem?_eq_getElem hi, Option.map_some, Option.getD_some, dPt, Ins.pX, Ins.pY]
  · cases rowOf m.length v <;> simp
theorem spec_ObjectRow (w : World) {A : Array Value} {ds : List Dt} {fp : List Nat} (hb : bulkL ds ≤ 1048576) (h : OwnL w LObject A.toList ds fp) (y : Int) : Calls Tryz.prog 84 #[.agg A, .int .i64 y] w fun e w' => ∃ (u : Value) (fp : List Nat), e = .returned u ∧ Own w' (.sl KPt) [u] (.sl (dP (obS (obOf ds) y))) fp ∧ fp.Nodup ∧ (∀ b ∈ fp, w.heap.size ≤ b) ∧ Below w.heap.size w w' := by
  have e := ob_dt h
  rw [e] at hb h
  obtain ⟨a, c, rfl, hp⟩ := Ins.obj_open h
  refine (Ins.orow_spec w a c _ (obOf ds).gray (obOf ds).x0 (obOf ds).y0 (obOf ds).x1 (obOf ds).y1 y (Ins.obj_len hb) hp).mono fun e w' ⟨u, he, ho, hb⟩ => ?_
  obtain ⟨f, h1, h2, h3⟩ := own_spans ho
  exact ⟨u, f, he, h1, h2, h3, hb⟩
theorem impl_ObjectRow (w : World) {A : Array Value} {ds : List Dt} {fp : List Nat} (hb : bulkL ds ≤ 1048576) (h : OwnL w LObject A.toList ds fp) (y : Int) : Calls Tryz.prog 57 #[.agg A, .int .i64 y] w fun e w' => ∃ (u : Value) (fp : List Nat), e = .returned u ∧ Own w' (.sl KPt) [u] (.sl (dP (obS (obOf ds) y))) fp ∧ fp.Nodup ∧ (∀ b ∈ fp, w.heap.size ≤ b) ∧ Below w.heap.size w w' := by
  have e := ob_dt h
  rw [e] at hb h
  obtain ⟨a, c, rfl, hp⟩ := Ins.obj_open h
  refine (Ins.orow_impl w a c _ (obOf ds).gray (obOf ds).x0 (obOf ds).y0 (obOf ds).x1 (obOf ds).y1 y (Ins.obj_len hb) hp).mono fun e w' ⟨u, he, ho, hb⟩ => ?_
  obtain ⟨f, h1, h2, h3⟩ := own_spans ho
  exact ⟨u, f, he, h1, h2, h3, hb⟩
theorem bulk_ob (o : Ob) : bulkL o.dt = o.path.length := by simp only [Ob.dt, bulkL, Dt.bulk, len_dP, bulk_dP]; omega
end Go.Proofs.YtkabofbbioaapaaGreat.Own
namespace Go.Proofs.YtkabofbbioaapaaGreat.Own
open Go.ChangeShapes Go.WideShapes Go.ChangeAt Go.RowKit
open Kit Slabs Ints
set_option linter.unusedVariables false
set_option linter.unusedSimpArgs false
set_option linter.unnecessarySimpa false
set_option maxRecDepth 100000
attribute [local go_sem ↓] hloadL_Object
set_option maxHeartbeats 4000000 in
theorem sz_ObjectS (w : World) {a : Option Addr} {c : Nat} {es : List Dt} (h : Came w (.sl KObject) [.slice a es.length c] (.sl es)) (hm : es.length ≤ maxLen) (l : Int) (l0 : 0 ≤ l) (l1 : l ≤ 1048576) :
    Calls Tryz.prog 14 #[.slice a es.length c, .int .i64 l] w fun e w' => e = .returned (.int .i64 (szv l (es.length + bulkL es))) ∧ Below w.heap.size w w' := by
  obtain ⟨_, hr⟩ := h.row
  obtain ⟨n, hn⟩ : ∃ n, es.length = n := ⟨_, rfl⟩
  rw [hn] at hr hm h ⊢
  have hm2 : n ≤ 9223372036854775807 := by unfold maxLen at hm; omega
  clear hm
  by_cases c0 : l - (n : Int) < 0
  · have hz : szv l n = -1 := by unfold szv; rw [if_pos c0]
    have HZ := Lib.hid (szv_neg (b := bulkL es) l0 (by rw [hz]; omega))
    clear hr h hz
    go_enter Tryz.func14, Tryz.ntmps14
    go_wp2
    go_ret
    exact ⟨ret_int HZ.out.symm, Below.refl _ _⟩
  · have hz : szv l n = l - (n : Int) := by unfold szv; rw [if_neg c0]
    have H := Lib.hid h
    have HN := Lib.hid hn
    have hn1 : n ≤ 1048576 := by omega
    have HR : n ≠ 0 → ∃ g o, a = some ⟨g, o, none⟩ ∧ g < w.heap.size := hr
    have ha : n = 0 ∨ ∃ g o, a = some ⟨g, o, none⟩ := by
      by_cases h0 : n = 0
      · exact .inl h0
      · obtain ⟨g, o, h1, _⟩ := hr h0; exact .inr ⟨g, o, h1⟩
    have HZ := Lib.hid hz
    clear h hr hz HR hn
    rcases ha with rfl | ⟨g, o, rfl⟩
    · have hes : es = [] := List.eq_nil_of_length_eq_zero HN.out
      subst hes
      have HT := Lib.hid (show szv l (0 + bulkL []) = l by simp [szv, bulkL]; omega)
      clear H HN HZ
      go_enter Tryz.func14, Tryz.ntmps14
      go_wp2
      go_rounds 1
      go_ret
      exact ⟨ret_int (by rw [HT.out]), Below.refl _ _⟩
    · go_enter Tryz.func14, Tryz.ntmps14
      go_wp2
      go_loopw [1, 5] (fun v1 i wr => ∃ (k : Nat) (y : Int), k ≤ n ∧ i = .int .i64 (k : Int) ∧ v1 = .int .i64 y ∧ 0 ≤ y ∧ y ≤ 1048576 ∧ szv l (n + bulkL (es.take k)) = y ∧ Below w.heap.size w wr) (fun _ i _ => n - (intOf i).toNat)
      case atStart => exact ⟨0, l - (n : Int), Nat.zero_le _, rfl, rfl, by omega, by omega, by rw [List.take_zero]; simp only [bulkL, Nat.add_zero]; exact HZ.out, Below.refl _ _⟩
      case round =>
        obtain ⟨k, y, hk, rfl, rfl, y0, y1, hy, hbel⟩ := hrel
        by_cases hlt : k < n
        · have hke : k < es.length := by rw [HN.out]; exact hlt
          obtain ⟨hg, cs, ds, ed, od, ld, sd⟩ := H.out.elt hke
          have htk := take_bulk hke
          rw [ed] at htk
          simp only [Dt.bulk] at htk
          have hpart := bulk_parts es (k + 1)
          obtain ⟨C, hC⟩ : ∃ C, cs.toArray = C := ⟨_, rfl⟩
          have tC : C.toList = cs := by rw [← hC]
          have L1 := hload_run (P := Tryz.prog) (t := 77) Tryz.isAgg77 Tryz.sizeOf77 (w := wr) (b := g) (o := o + k * 6) (us := cs) (sd wr hbel) ld
          rw [hC] at L1
          rw [← tC] at od
          have HO := Lib.hid (od.on hbel)
          have i0 : (0 : Int) ≤ (k : Int) := by omega
          have i1 : (k : Int) < (n : Int) := by omega
          obtain ⟨z, hz⟩ : ∃ z, szv y (bulkL ds) = z := ⟨_, rfl⟩
          have hz2 : szv l (n + bulkL (es.take (k + 1))) = z := by rw [htk, ← Nat.add_assoc, ← szv_add (by rw [hy]; exact y0), hy, hz]
          have hzl : z ≤ 1048576 := by have := szv_le (a := bulkL ds) y0; omega
          have hneg : z < 0 → szv l (n + bulkL es) = -1 := fun hc => by rw [hpart, ← Nat.add_assoc]; exact szv_neg l0 (by rw [hz2]; exact hc)
          have hm1 : z < 0 → z = -1 := fun hc => by rw [← hz] at hc ⊢; unfold szv at hc ⊢; split at hc <;> first | rfl | omega
          have HF := Lib.hid (And.intro hz (And.intro hz2 (And.intro hneg hm1)))
          clear od sd ed ld hke hC tC htk hpart hz hz2 hneg hm1 hy
          by_cases c1 : z < 0
          · go_wp2_with (go_at_call 39; (with_reducible refine (sz_Object _ HO.out y y0 y1).mono ?_); rintro e w' ⟨rfl, hb⟩; rw [HF.out.1]; have hB := on_of hbel hb; clear hb)
            go_ret
            exact ⟨ret_int (HF.out.2.2.1 c1).symm, hB⟩
          · have z0 : 0 ≤ z := by omega
            go_wp2_with (go_at_call 39; (with_reducible refine (sz_Object _ HO.out y y0 y1).mono ?_); rintro e w' ⟨rfl, hb⟩; rw [HF.out.1]; have hB := on_of hbel hb; clear hb)
            go_roundw
            case rel => exact ⟨k + 1, z, by omega, by go_num, rfl, z0, hzl, HF.out.2.1, hB⟩
            case measure => simp [intOf]; omega
        · obtain rfl : k = n := by omega
          have HY := Lib.hid (show szv l (k + bulkL es) = y by rw [← hy, ← HN.out, List.take_length])
          clear hy
          go_wp2
          go_ret
          exact ⟨ret_int HY.out.symm, hbel⟩
end Go.Proofs.YtkabofbbioaapaaGreat.Own
