/-
  Texts of this seat, laid together: Cb13, Rs11, MkSO
-/
import Derived.Deep.RegionHeld3
import Derived.WalkKit
import Derived.Deep.DeepCutAuto
import Derived.Deep.QuietTactic
import Derived.BigQuiet
import Derived.Handy
import Derived.Test.YtbdjnfnphilklaaP15
import Derived.Test.YtbdjnfnphilklaaP27
import Derived.Test.YtbdjnfnphilklaaP11
namespace Go.Proofs.Ytbdjnfnphilklaa.Own
open Go.ChangeShapes Go.WideShapes Go.ChangeAt Go.RowKit
open Kit Slabs Ints Point
set_option linter.unusedVariables false
set_option linter.unusedSimpArgs false
set_option linter.unnecessarySimpa false
set_option maxRecDepth 100000
def Rpo (l : List Ob) (P0 : List Value) (b : Option Addr) (d : Nat) (w : World) (j : Nat) (wr : World) : Prop := ∃ (U : List Value) (fu : List Nat),
  U.length = j * 6 ∧ wr.ownsRow w.heap.size 40 6 (.slice b l.length d) l.length (U ++ P0.drop (j * 6)) ∧ OwnL wr (List.replicate j KObject) U ((dO l).take j) fu ∧ (rowL (.slice b l.length d) ++ fu).Nodup ∧ (∀ x ∈ fu, w.heap.size ≤ x) ∧ Below w.heap.size w wr
theorem Rpo.start {l : List Ob} {P0 : List Value} {b : Option Addr} {d : Nat} {w wr : World} (h : wr.ownsRow w.heap.size 40 6 (.slice b l.length d) l.length P0) (hb : Below w.heap.size w wr) : Rpo l P0 b d w 0 wr :=
  ⟨[], [], rfl, by simpa using h, .nil, by simpa using rowL_nodup _, by simp, hb⟩
theorem Rpo.on {l : List Ob} {P0 : List Value} {b : Option Addr} {d : Nat} {w wr w' : World} {j : Nat} (h : Rpo l P0 b d w j wr) (hb : Below wr.heap.size wr w') : Rpo l P0 b d w j w' := by
  obtain ⟨U, fu, e, r, o, n, hf, bw⟩ := h
  exact ⟨U, fu, e, row_on r hb, o.under hb, n, hf, on_of bw hb⟩
theorem Rpo.below {l : List Ob} {P0 : List Value} {b : Option Addr} {d : Nat} {w wr : World} {j : Nat} (h : Rpo l P0 b d w j wr) : Below w.heap.size w wr := by
  obtain ⟨U, fu, e, r, o, n, hf, bw⟩ := h; exact bw
theorem Rpo.done {l : List Ob} {P0 : List Value} {b : Option Addr} {d : Nat} {w wr : World} {j : Nat} (h : Rpo l P0 b d w j wr) (hj : j = l.length) (hP : P0.length = l.length * 6) : ObsNew l w (.returned (.slice b l.length d)) wr := by
  subst hj
  obtain ⟨U, fu, e, r, o, n, hf, bw⟩ := h
  rw [← hP, List.drop_length, List.append_nil] at r
  rw [← len_dO, List.take_length, len_dO] at o
  exact ⟨b, d, _, rfl, ⟨U, fu, r, o, rfl, n, mem2 (p := fun x => w.heap.size ≤ x) (fun x hx => (rowL_ge r x hx).1) hf⟩, bw⟩
theorem Rpo.one {l : List Ob} {P0 : List Value} {b : Option Addr} {d : Nat} {w wr : World} {j : Nat} (h : Rpo l P0 b d w j wr) {q : List Nat} (O : OwnL w (List.replicate l.length KObject) P0 (dO l) q) (hk : j < l.length) :
    ∃ g C f, b = some ⟨g, 0, none⟩ ∧ w.heap.size ≤ g ∧ g < wr.heap.size ∧ OwnL w LObject C.toList l[j].dt f ∧ (hload 40 ⟨g, j * 6, none⟩).run Try.prog wr = .ok (.agg C) wr ∧
      ∀ (w5 : World) (R : Array Value) (F : List Nat), Below wr.heap.size wr w5 → OwnL w5 LObject R.toList l[j].dt F → F.Nodup → (∀ x ∈ F, wr.heap.size ≤ x) →
        ∃ V, (hstore 40 ⟨g, j * 6, none⟩ (.agg R)).run Try.prog w5 = .ok () V ∧ Rpo l P0 b d w (j + 1) V := by
  obtain ⟨U, fu, e2, r12, o12, nd, hf, bw⟩ := h
  have hke : j < (dO l).length := by rw [len_dO]; exact hk
  obtain ⟨A, cs, D, ds, f', hP, lA, lc, he, oc, _⟩ := pick_rep O hke
  have e3 : (dO l)[j] = .st l[j].dt := by simp [dO]
  rw [e3] at he
  injection he with he
  subst he
  have lA' : A.length = j * 6 := lA
  have lc' : cs.length = 6 := lc
  have hd : P0.drop (j * 6) = cs ++ D := by rw [hP, ← lA', List.drop_left]
  have hd2 : P0.drop ((j + 1) * 6) = D := by
    rw [hP, ← List.append_assoc, show (j + 1) * 6 = (A ++ cs).length by rw [List.length_append, lA', lc', Nat.succ_mul], List.drop_left]
  rw [hd] at r12
  obtain ⟨g, rfl, hg, bg, cg, hnc, hcm⟩ := row_cap r12 (by omega)
  have hgr : rowL (.slice (some ⟨g, 0, none⟩) l.length d) = [g] := rfl
  have hgl := bg.2.2
  rw [hgr] at nd
  have gn : g ∉ fu := fun hm => (List.nodup_cons.1 nd).1 hm
  refine ⟨g, cs.toArray, f', rfl, hg, hgl, by simpa using oc, ?_, fun w5 R F hb oR nR gR => ?_⟩
  · exact hload_run (P := Try.prog) (t := 40) Try.isAgg40 Try.sizeOf40 (w := wr) (b := g) (o := j * 6) (us := cs) (Blk.part bg e2) lc
  · have b5 := bg.keep hb
    have lR : R.toList.length = 6 := oR.len
    have st := hstore_run (P := Try.prog) (t := 40) Try.sizeOf40 (w := w5) (b := g) (o := j * 6) (A := U) (us := cs) (R := D) (vs := R.toList) b5 e2 (by rw [lR, lc']) lR (fun v hv => oR.one v hv)
    have est : R.toList.toArray = R := by simp
    rw [est] at st
    have BS := Blk.sets (P := U) (us := cs) (vs := R.toList) (R := D) (w := w5) (b := g) (o := j * 6) b5 e2 (by rw [lR, lc'])
    have cS := (cg.keep hb).sets R.toList (j * 6)
    have tS := turns_sets (S := fun b => b = g) g rfl R.toList (j * 6) w5
    generalize w5.setCells g (j * 6) R.toList = V at st BS cS tS
    have hsz := bw.size
    have hsz5 := hb.size
    refine ⟨V, st, U ++ R.toList, fu ++ F, by rw [List.length_append, e2, lR, Nat.succ_mul], (by rw [hd2]; exact (cap_row (by simpa using BS) cS (by have h2 := r12.1; simp only [List.length_append, e2, lc', lR] at h2 ⊢; omega) hnc hcm hg)), (by rw [List.take_succ_eq_append_getElem hke, e3, List.replicate_succ']; exact ((o12.under hb).turned tS (fun b hm e => gn (by have e' : b = g := e; rw [← e']; exact hm))).snoc (.st (oR.turned tS (fun b hm e => by have e' : b = g := e; have := gR b hm; omega)))), ?_, ?_, ?_⟩
    · rw [hgr, ← List.append_assoc]
      exact app_nodup nd nR (fun x hx hy => by
        have := gR x hy
        rcases List.mem_append.1 hx with h | h
        · have : x = g := by simpa using h
          omega
        · have := o12.lt x h; omega)
    · intro x hm
      rcases List.mem_append.1 hm with h | h
      · exact hf x h
      · have := gR x h; omega
    · exact (on_of bw hb).trans (tS.below (by omega) (fun x e => by have e' : x = g := e; omega))
attribute [local go_sem ↓] hload_Object hstore_Object
set_option maxHeartbeats 4000000 in
theorem cobs_impl (w : World) (a : Option Addr) (c : Nat) (l : List Ob) {fp : List Nat} (hb : l.length + bulkL (dO l) ≤ 1048576) (h : Own w (.sl KObject) [.slice a l.length c] (.sl (dO l)) fp) :
    Calls Try.prog 65 #[.slice a l.length c] w (ObsNew l w) := by
  obtain ⟨P, q, L, hl, O, _, h1, _, _⟩ := own_lies h
  have hl' : P.length = l.length * 6 := by simpa [Kd.sz, szL] using hl
  have HP := Lib.hid (And.intro L (And.intro hl' (And.intro O (And.intro h1 hb))))
  obtain ⟨n, hN⟩ : ∃ n, l.length = n := ⟨_, rfl⟩
  have HN := Lib.hid hN
  have hn : n ≤ 1048576 := by omega
  have HC := Lib.hid (cop_obs w a n c P hn (by rw [hl', hN]) h1 L)
  rw [hN]
  clear L hl hl' O h1 hb h hN
  go_enter Try.func65, Try.ntmps65
  go_wp2_with fail
  ((with_reducible refine HC.out.mono ?_); rintro e w1 ⟨b, d, rfl, r1, bb⟩)
  have HR := Lib.hid (Rpo.start (P0 := P) (b := b) (d := d) (l := l) (by rw [HN.out]; exact r1) bb)
  clear r1 bb HC
  go_wp2
  go_loopw [10] (fun v wr => ∃ k : Nat, k ≤ n ∧ v = .int .i64 (k : Int) ∧ Hid (Rpo l P b d w k wr)) (fun v _ => n - (intOf v).toNat)
  case atStart => exact ⟨0, Nat.zero_le _, rfl, HR⟩
  case round =>
    obtain ⟨k, hk, rfl, hL⟩ := hrel
    by_cases hlt : k < n
    · have hkl : k < l.length := by rw [HN.out]; exact hlt
      obtain ⟨g, C, f, rfl, hgB, hgl, oC, hld, hput⟩ := hL.out.one HP.out.2.2.1 hkl
      have hbk : bulkL l[k].dt ≤ 1048576 := by
        have h1 := bulk_elt (es := dO l) (i := k) (by rw [len_dO]; exact hkl)
        have e3 : (dO l)[k]'(by rw [len_dO]; exact hkl) = .st l[k].dt := by simp [dO]
        rw [e3] at h1
        simp only [Dt.bulk] at h1
        have := HP.out.2.2.2.2
        omega
      have i0 : (0 : Int) ≤ (k : Int) := by omega
      have i1 : (k : Int) < (n : Int) := by omega
      obtain ⟨E, st, BX, cx, zx⟩ := var_new (P := Try.prog) (T := 40) Try.sizeOf40 wr #[.slice none 0 0, .int .i64 0, .int .i64 0, .int .i64 0, .int .i64 0, .int .i64 0] rfl oC rfl
      have lv := var_load (P := Try.prog) Try.isAgg40 Try.sizeOf40 BX oC rfl
      have HX := Lib.hid (And.intro hput (And.intro (oC.under (on_of hL.out.below cx)) (And.intro hbk (And.intro cx hgB))))
      clear hput oC hbk BX cx
      go_wp2_with fail
      clear hld st lv
      ((with_reducible refine (clone_Object E HX.out.2.2.1 HX.out.2.1).mono ?_); rintro e w5 ⟨R, F, rfl, oR, nR, gF, bb⟩)
      have hs := HX.out.2.2.2.1.size
      obtain ⟨V, st, hV⟩ := HX.out.1 w5 R F (on_of HX.out.2.2.2.1 bb) oR nR (fun x hx => by have := gF x hx; omega)
      have HV := Lib.hid hV
      clear oR nR gF bb hV
      go_wp2
      go_roundw
      case rel => exact ⟨k + 1, by omega, by go_num, HV⟩
      case measure => simp [intOf]; omega
    · obtain rfl : k = n := by omega
      go_wp2
      go_ret
      have h9 := hL.out.done HN.out.symm HP.out.2.1
      rw [HN.out] at h9
      exact h9
end Go.Proofs.Ytbdjnfnphilklaa.Own
namespace Go.Proofs.Ytbdjnfnphilklaa.Own
open Go.ChangeShapes Go.WideShapes Go.ChangeAt Go.RowKit
open Kit Slabs Ints
set_option linter.unusedVariables false
set_option linter.unusedSimpArgs false
set_option linter.unnecessarySimpa false
set_option maxRecDepth 100000
def sameB (R S : List (List Int)) : Bool := decide (R = S)
theorem ext_getD {α : Type} {l m : List α} {z : α} (hl : l.length = m.length) (h : ∀ i, i < l.length → l.getD i z = m.getD i z) : l = m := by
  apply List.ext_getElem hl
  intro i h1 h2
  have := h i h1
  simpa [List.getD, List.getElem?_eq_getElem h1, List.getElem?_eq_getElem h2] using this
theorem ne_getD {α : Type} {l m : List α} {z : α} (i : Nat) (h : l.getD i z ≠ m.getD i z) : l ≠ m := fun e => h (by rw [e])
set_option maxHeartbeats 1000000 in
theorem equal_impl (w : World) (a b : Option Addr) (c d : Nat) (r s : List Int) (hn : r.length ≤ 1048576) (hm : s.length ≤ 1048576) (h : Lies w a (ivs r)) (h2 : Lies w b (ivs s)) :
    Calls Try.prog 42 #[.slice a r.length c, .slice b s.length d] w fun e w' => e = .returned (.bool (decide (r = s))) ∧ Below w.heap.size w w' := by
  by_cases hl : r.length = s.length
  · have HP := Lib.hid (And.intro h h2)
    obtain ⟨n, hN⟩ : ∃ n, r.length = n := ⟨_, rfl⟩
    have hN2 : s.length = n := by omega
    have HN := Lib.hid (And.intro hN hN2)
    rw [hN] at hn ⊢
    rw [hN2]
    clear hN hN2 h h2 hm hl
    go_enter Try.func42, Try.ntmps42
    go_wp2
    go_loopw [13] (fun v9 wr => ∃ k : Nat, k ≤ n ∧ v9 = .int .i64 (k : Int) ∧ Hid (∀ i, i < k → r.getD i 0 = s.getD i 0) ∧ Below w.heap.size w wr) (fun v9 _ => n - (intOf v9).toNat)
    case atStart => exact ⟨0, Nat.zero_le _, rfl, Lib.hid (fun i hi => absurd hi (Nat.not_lt_zero i)), Below.refl _ _⟩
    case round =>
      obtain ⟨k, hk, rfl, hb, hB⟩ := hrel
      by_cases hlt : k < n
      · obtain ⟨g, o, rfl, hg, hc⟩ := lies_at (HP.out.1.on hB) (by rw [HN.out.1]; omega)
        obtain ⟨g2, o2, rfl, hg2, hc2⟩ := lies_at (HP.out.2.on hB) (by rw [HN.out.2]; omega)
        have q := hc k (by rw [HN.out.1]; exact hlt)
        have q2 := hc2 k (by rw [HN.out.2]; exact hlt)
        obtain ⟨x, hx⟩ : ∃ x, r.getD k 0 = x := ⟨_, rfl⟩
        obtain ⟨y, hy⟩ : ∃ y, s.getD k 0 = y := ⟨_, rfl⟩
        rw [hx] at q
        rw [hy] at q2
        have i0 : (0 : Int) ≤ (k : Int) := by omega
        have i1 : (k : Int) < (n : Int) := by omega
        have HX := Lib.hid (And.intro hx hy)
        have HB := Lib.hid hB
        clear hx hy hB hc hc2
        by_cases he : x = y
        · have e9 : (x == y) = true := by simpa using he
          have hyes : ∀ i, i < k + 1 → r.getD i 0 = s.getD i 0 := fun i hi => by
            by_cases e : i = k
            · subst e; rw [HX.out.1, HX.out.2]; exact he
            · exact hb.out i (by omega)
          have HS := Lib.hid hyes
          clear hyes he
          go_wp2
          go_quiet (fail)
          go_wp2
          refine ⟨⟨k + 1, by omega, by go_num, HS, drewN_below HB.out _⟩, by simp [intOf]; omega⟩
        · have e9 : (x == y) = false := by simpa using he
          have HS : Hid (r ≠ s) := Lib.hid (ne_getD (z := 0) k (by rw [HX.out.1, HX.out.2]; exact he))
          clear he
          go_wp2
          go_quiet (fail)
          go_wp2
          go_ret
          exact ⟨ret_bool (by simp [HS.out]), drewN_below HB.out _⟩
      · obtain rfl : k = n := by omega
        have HB := Lib.hid hB
        have HS : Hid (r = s) := Lib.hid (ext_getD (z := 0) (by rw [HN.out.1, HN.out.2]) (fun i hi => hb.out i (by rw [← HN.out.1]; exact hi)))
        clear hB
        go_wp2
        go_ret
        exact ⟨ret_bool (by simp [HS.out]), HB.out⟩
  · have HS : Hid (r ≠ s) := Lib.hid (fun e => hl (by rw [e]))
    have h1' : ((r.length : Int) == (s.length : Int)) = false := by simp; omega
    clear h h2 hl
    go_enter Try.func42, Try.ntmps42
    go_wp2
    go_ret
    exact ⟨ret_bool (by simp [HS.out]), Below.refl _ _⟩
set_option maxHeartbeats 1000000 in
theorem eqfunc_impl (w : World) (a b : Option Addr) (c d : Nat) (R S : List (List Int)) (hn : R.length ≤ 1048576) (hm : S.length ≤ 1048576) (tr : tot R ≤ 1048576) (ts : tot S ≤ 1048576) (h : RR w a R) (h2 : RR w b S) :
    Calls Try.prog 41 #[.slice a R.length c, .slice b S.length d, .func (.func 42) #[] #[]] w fun e w' => e = .returned (.bool (sameB R S)) ∧ Below w.heap.size w w' := by
  by_cases hl : R.length = S.length
  · have HP := Lib.hid (And.intro h h2)
    obtain ⟨n, hN⟩ : ∃ n, R.length = n := ⟨_, rfl⟩
    have hN2 : S.length = n := by omega
    have HN := Lib.hid (And.intro hN (And.intro hN2 (And.intro tr ts)))
    rw [hN] at hn ⊢
    rw [hN2]
    clear hN hN2 h h2 hm hl tr ts
    go_enter Try.func41, Try.ntmps41
    go_wp2
    go_loopw [17] (fun v9 wr => ∃ k : Nat, k ≤ n ∧ v9 = .int .i64 (k : Int) ∧ Hid (∀ i, i < k → R.getD i [] = S.getD i []) ∧ Below w.heap.size w wr) (fun v9 _ => n - (intOf v9).toNat)
    case atStart => exact ⟨0, Nat.zero_le _, rfl, Lib.hid (fun i hi => absurd hi (Nat.not_lt_zero i)), Below.refl _ _⟩
    case round =>
      obtain ⟨k, hk, rfl, hb, hB⟩ := hrel
      by_cases hlt : k < n
      · obtain ⟨g, o, rfl, hg, hc⟩ := (HP.out.1.on hB).some (by rw [HN.out.1]; omega)
        obtain ⟨g2, o2, rfl, hg2, hc2⟩ := (HP.out.2.on hB).some (by rw [HN.out.2.1]; omega)
        obtain ⟨a', c', q, hl⟩ := hc k (by rw [HN.out.1]; exact hlt)
        obtain ⟨b', d', q2, hl2⟩ := hc2 k (by rw [HN.out.2.1]; exact hlt)
        have hx0 := tot_at (R := R) (k := k) (by rw [HN.out.1]; exact hlt)
        have hy0 := tot_at (R := S) (k := k) (by rw [HN.out.2.1]; exact hlt)
        obtain ⟨x, hx⟩ : ∃ x, R.getD k [] = x := ⟨_, rfl⟩
        obtain ⟨y, hy⟩ : ∃ y, S.getD k [] = y := ⟨_, rfl⟩
        rw [hx] at q hl hx0
        rw [hy] at q2 hl2 hy0
        have i0 : (0 : Int) ≤ (k : Int) := by omega
        have i1 : (k : Int) < (n : Int) := by omega
        have HX := Lib.hid (And.intro hx hy)
        have HB := Lib.hid hB
        have HL := Lib.hid (And.intro hl (And.intro hl2 (And.intro (show x.length ≤ 1048576 by have := HN.out.2.2.1; omega) (show y.length ≤ 1048576 by have := HN.out.2.2.2; omega))))
        clear hx hy hB hc hc2 hl hl2 hx0 hy0
        go_wp2_with fail
        ((with_reducible refine (equal_impl _ _ _ _ _ x y HL.out.2.2.1 HL.out.2.2.2 HL.out.1 HL.out.2.1).mono ?_); rintro e w1 ⟨rfl, bb⟩)
        have HB1 := Lib.hid (on_of HB.out bb)
        clear bb
        by_cases he : x = y
        · have e9 : decide (x = y) = true := by simpa using he
          have hyes : ∀ i, i < k + 1 → R.getD i [] = S.getD i [] := fun i hi => by
            by_cases e : i = k
            · subst e; rw [HX.out.1, HX.out.2]; exact he
            · exact hb.out i (by omega)
          have HS := Lib.hid hyes
          rw [e9]
          clear hyes he e9
          go_wp2
          go_roundw
          case rel => exact ⟨k + 1, by omega, by go_num, HS, HB1.out⟩
          case measure => simp [intOf]; omega
        · have e9 : decide (x = y) = false := by simpa using he
          have HS : Hid (R ≠ S) := Lib.hid (ne_getD (z := []) k (by rw [HX.out.1, HX.out.2]; exact he))
          rw [e9]
          clear he e9
          go_wp2
          go_ret
          exact ⟨ret_bool (by simp [sameB, HS.out]), HB1.out⟩
      · obtain rfl : k = n := by omega
        have HB := Lib.hid hB
        have HS : Hid (R = S) := Lib.hid (ext_getD (z := []) (by rw [HN.out.1, HN.out.2.1]) (fun i hi => hb.out i (by rw [← HN.out.1]; exact hi)))
        clear hB
        go_wp2
        go_ret
        exact ⟨ret_bool (by simp [sameB, HS.out]), HB.out⟩
  · have HS : Hid (R ≠ S) := Lib.hid (fun e => hl (by rw [e]))
    have h1' : ((R.length : Int) == (S.length : Int)) = false := by simp; omega
    clear h h2 hl
    go_enter Try.func41, Try.ntmps41
    go_wp2
    go_ret
    exact ⟨ret_bool (by simp [sameB, HS.out]), Below.refl _ _⟩
theorem same_impl (w : World) (a b : Option Addr) (c d : Nat) (R S : List (List Int)) (hn : R.length ≤ 1048576) (hm : S.length ≤ 1048576) (tr : tot R ≤ 1048576) (ts : tot S ≤ 1048576) (h : RR w a R) (h2 : RR w b S) :
    Calls Try.prog 16 #[.slice a R.length c, .slice b S.length d] w fun e w' => e = .returned (.bool (sameB R S)) ∧ Below w.heap.size w w' := by
  have HC := Lib.hid (eqfunc_impl w a b c d R S hn hm tr ts h h2)
  clear h h2
  go_enter Try.func16, Try.ntmps16
  go_wp2_with fail
  ((with_reducible refine HC.out.mono ?_); rintro e w1 ⟨rfl, bb⟩)
  go_wp2
  go_ret
  exact ⟨rfl, bb⟩
def cnt1 (v : Int) (r : List Int) : Nat := (r.map fun x => if x = v then 1 else 0).sum
def cntR (v : Int) (R : List (List Int)) : Nat := (R.map (cnt1 v)).sum
theorem cnt1_le (v : Int) (r : List Int) : cnt1 v r ≤ r.length := by
  induction r with
  | nil => simp [cnt1]
  | cons x r ih => simp only [cnt1, List.map_cons, List.sum_cons, List.length_cons] at *; split <;> omega
theorem cntR_le (v : Int) (R : List (List Int)) : cntR v R ≤ tot R := by
  induction R with
  | nil => simp [cntR, tot]
  | cons r R ih => have := cnt1_le v r; simp only [cntR, tot, List.map_cons, List.sum_cons] at *; omega
theorem cnt1_take {v : Int} {r : List Int} {k : Nat} (h : k < r.length) : cnt1 v (r.take (k + 1)) = cnt1 v (r.take k) + (if r.getD k 0 = v then 1 else 0) := by
  rw [List.take_succ_eq_append_getElem h]
  simp only [cnt1, List.map_append, List.sum_append, List.map_cons, List.map_nil, List.sum_cons, List.sum_nil, Nat.add_zero]
  simp [List.getD, List.getElem?_eq_getElem h]
theorem cntR_take {v : Int} {R : List (List Int)} {k : Nat} (h : k < R.length) : cntR v (R.take (k + 1)) = cntR v (R.take k) + cnt1 v (R.getD k []) := by
  rw [List.take_succ_eq_append_getElem h]
  simp only [cntR, List.map_append, List.sum_append, List.map_cons, List.map_nil, List.sum_cons, List.sum_nil, Nat.add_zero]
  simp [List.getD, List.getElem?_eq_getElem h]
theorem cnt1_upto (v : Int) (r : List Int) (k : Nat) : cnt1 v (r.take k) ≤ cnt1 v r := by
  have : cnt1 v r = cnt1 v (r.take k) + cnt1 v (r.drop k) := by
    have : cnt1 v (r.take k ++ r.drop k) = cnt1 v (r.take k) + cnt1 v (r.drop k) := by simp only [cnt1, List.map_append, List.sum_append]
    rw [← this, List.take_append_drop]
  omega
theorem cntR_upto (v : Int) (R : List (List Int)) (k : Nat) : cntR v (R.take k) ≤ cntR v R := by
  have : cntR v R = cntR v (R.take k) + cntR v (R.drop k) := by
    have : cntR v (R.take k ++ R.drop k) = cntR v (R.take k) + cntR v (R.drop k) := by simp only [cntR, List.map_append, List.sum_append]
    rw [← this, List.take_append_drop]
  omega
end Go.Proofs.Ytbdjnfnphilklaa.Own
namespace Go.Proofs.Ytbdjnfnphilklaa.Own
open Go.ChangeShapes Go.WideShapes Go.ChangeAt Go.RowKit
open Kit Slabs Ints
set_option linter.unusedVariables false
set_option linter.unusedSimpArgs false
set_option linter.unnecessarySimpa false
set_option maxRecDepth 100000
set_option maxHeartbeats 16000000 in
theorem mark_ObjectS (w : World) (N : Nat) {a : Option Addr} {n c : Nat} {es : List Dt} {fp : List Nat} (hn : es.length + bulkL es ≤ 1048576) (h0 : 0 < N) (hN : N + cntL es ≤ 1000000000) (h : Own w (.sl KObject) [.slice a n c] (.sl es) fp) (hd : fp.Nodup) :
    Calls Try.prog 50 #[.slice a n c, .int .i64 (N : Int)] w fun e w' => e = .returned (.int .i64 ((N + cntL es : Nat) : Int)) ∧ Own w' (.sl KObject) [.slice a n c] (.sl (mkL es N)) fp ∧ Turns w w' (fun b => b ∈ fp) := by
  obtain ⟨hl, hr⟩ := h.row
  by_cases hz : n = 0
  · subst hz
    have hes : es = [] := List.eq_nil_of_length_eq_zero hl
    subst hes
    have HH := Lib.hid h
    clear h hr hd
    go_enter Try.func50, Try.ntmps50
    go_wp2
    go_rounds 1
    go_ret
    exact ⟨ret_int (by simp [cntL]), HH.out, Turns.refl _ _⟩
  · obtain ⟨g, rfl, hgf⟩ := hr hz
    have H := Lib.hid (And.intro h (And.intro hd (And.intro hl hgf)))
    have hn1 : n ≤ 1048576 := by omega
    have HB := Lib.hid (And.intro hn hN)
    clear h hr hl hd hn hN hgf
    go_enter Try.func50, Try.ntmps50
    go_wp2
    go_loopw [1, 5] (fun v1 i wr => ∃ k : Nat, k ≤ n ∧ i = .int .i64 (k : Int) ∧ v1 = .int .i64 ((N + cntL (es.take k) : Nat) : Int) ∧ Own wr (.sl KObject) [.slice (some ⟨g, 0, none⟩) n c] (.sl (mkL (es.take k) N ++ es.drop k)) fp ∧ Turns w wr (fun b => b ∈ fp)) (fun _ i _ => n - (intOf i).toNat)
    case atStart => exact ⟨0, Nat.zero_le _, rfl, by simp [cntL], by simpa [mkL] using H.out.1, Turns.refl _ _⟩
    case round =>
      obtain ⟨k, hk, rfl, rfl, hown, htn⟩ := hrel
      by_cases hlt : k < n
      · have hke : k < es.length := by rw [H.out.2.2.1]; exact hlt
        have hks : (es.take k).length = k := by rw [List.length_take]; omega
        have hks2 : (mkL (es.take k) N).length = k := by rw [mkL_length, hks]
        rw [drop_elt hke] at hown
        obtain ⟨P1, cs, P2, f1, fq, f2, ds, ed, hfp, hP1, B0, O1, OE, O2, hnn, hnc⟩ := hown.pick
        rw [hks2] at hP1
        have hP1n : P1.length = k * 6 := hP1
        have htk := take_cnt hke
        have hpart := cnt_parts es (k + 1)
        have hbk := bulk_elt hke
        have hmke := take_mk (N := N) hke
        rw [ed] at htk hbk hmke
        obtain ⟨xa0, xc0, xs0, xx1_0, xx2_0, xx2_1, xx2_2, xx2_3, xF0, rfl, rfl, rfl, ox0⟩ := inv_Object OE
        obtain ⟨M0, hM0⟩ : ∃ M, N + cntL (es.take k) = M := ⟨_, rfl⟩
        rw [hM0] at hmke ⊢
        obtain ⟨M1, hM1⟩ : ∃ M, M0 + cntL xs0 = M := ⟨_, rfl⟩
        obtain ⟨M2, hM2⟩ : ∃ M, M1 + 1 = M := ⟨_, rfl⟩
        obtain ⟨M3, hM3⟩ : ∃ M, M2 + 1 = M := ⟨_, rfl⟩
        obtain ⟨M4, hM4⟩ : ∃ M, M3 + 1 = M := ⟨_, rfl⟩
        obtain ⟨M5, hM5⟩ : ∃ M, M4 + 1 = M := ⟨_, rfl⟩
        obtain ⟨M6, hM6⟩ : ∃ M, M5 + 1 = M := ⟨_, rfl⟩
        simp only [Dt.mk, mkL, Dt.cnt, hM1, hM2, hM3, hM4, hM5, hM6] at hmke
        have hM : N + cntL (es.take (k + 1)) = M6 := by rw [htk, ← Nat.add_assoc, hM0]; simp only [Dt.cnt, cntL]; omega
        simp only [Dt.bulk, bulkL] at hbk
        have hMb : M6 ≤ 1000000000 := by have := HB.out.2; omega
        have hMp : 0 < M0 := by omega
        have u0 : xs0.length + bulkL xs0 ≤ 1048576 := by have := HB.out.1; omega
        have hnd : (g :: (f1 ++ ((xF0 ++ ([])) ++ f2))).Nodup := hfp ▸ H.out.2.1
        have hnd2 := (List.nodup_cons.1 hnd).2
        have hng := (List.nodup_cons.1 hnd).1
        have hnd3 : (f1 ++ (xF0 ++ f2)).Nodup := by simpa using hnd2
        have hng3 : g ∉ (f1 ++ (xF0 ++ f2)) := by simpa using hng
        obtain ⟨nd0, r0, x0⟩ := nodup_parts hnd3
        obtain ⟨nd1, r1, x1⟩ := nodup_parts r0
        have nd2 := r1
        have d0_1 : ∀ b ∈ f1, b ∉ xF0 := fun b ha hb => x0 b ha (List.mem_append_left _ hb)
        have d1_0 : ∀ b ∈ xF0, b ∉ f1 := fun b ha hb => d0_1 b hb ha
        have d0_2 : ∀ b ∈ f1, b ∉ f2 := fun b ha hb => x0 b ha (List.mem_append_right _ (hb))
        have d2_0 : ∀ b ∈ f2, b ∉ f1 := fun b ha hb => d0_2 b hb ha
        have d1_2 : ∀ b ∈ xF0, b ∉ f2 := fun b ha hb => x1 b ha (hb)
        have d2_1 : ∀ b ∈ f2, b ∉ xF0 := fun b ha hb => d1_2 b hb ha
        have ng0 : g ∉ f1 := fun hb => hng3 (List.mem_append_left _ hb)
        have sb0 : ∀ b ∈ f1, b ∈ fp := fun b hb => by rw [hfp]; simp [hb]
        have ng1 : g ∉ xF0 := fun hb => hng3 (List.mem_append_right _ (List.mem_append_left _ hb))
        have sb1 : ∀ b ∈ xF0, b ∈ fp := fun b hb => by rw [hfp]; simp [hb]
        have ng2 : g ∉ f2 := fun hb => hng3 (List.mem_append_right _ (List.mem_append_right _ (hb)))
        have sb2 : ∀ b ∈ f2, b ∈ fp := fun b hb => by rw [hfp]; simp [hb]
        have sg : g ∈ fp := by rw [hfp]; simp
        have HM := Lib.hid (And.intro hM (And.intro hmke (And.intro hfp (And.intro hnn (And.intro hnc hks2)))))
        have HP := Lib.hid B0
        have HQ0 := Lib.hid (And.intro O1 (And.intro O2 ox0))
        have HT0 := Lib.hid htn
        have b0 : M0 ≤ 1000000000 := by omega
        have p0 : 0 < M0 := by omega
        have s0 : M0 + cntL xs0 ≤ 1000000000 := by omega
        have e2 : (M1 : Int) + 1 = (M2 : Int) := by omega
        have b1 : M1 ≤ 1000000000 := by omega
        have e3 : (M2 : Int) + 1 = (M3 : Int) := by omega
        have b2 : M2 ≤ 1000000000 := by omega
        have e4 : (M3 : Int) + 1 = (M4 : Int) := by omega
        have b3 : M3 ≤ 1000000000 := by omega
        have e5 : (M4 : Int) + 1 = (M5 : Int) := by omega
        have b4 : M4 ≤ 1000000000 := by omega
        have e6 : (M5 : Int) + 1 = (M6 : Int) := by omega
        have b5 : M5 ≤ 1000000000 := by omega
        have i0 : (0 : Int) ≤ (k : Int) := by omega
        have i1 : (k : Int) < (n : Int) := by omega
        have HPn := Lib.hid hP1n
        clear hown OE O1 O2 B0 htn hP1 hP1n htk hpart hmke hM hM0 hbk hke hks hks2 hnd hnd2 hnd3 hng hng3 hnn hnc ed hfp ox0 r0 x0 x1
        have ca0 : wr.cell? ⟨g, k * 6, none⟩ = some (.slice xa0 xs0.length xc0) := by have := HP.out.1 (k * 6 + 0) (.slice xa0 xs0.length xc0) (by rw [List.getElem?_append_right (by rw [HPn.out]; omega), HPn.out, Nat.add_sub_cancel_left]; rfl); exact this
        go_wp2_with fail
        ((with_reducible refine (mark_PointS _ M0 u0 p0 s0 (HQ0.out.2.2) nd1).mono ?_); rintro e w1 ⟨rfl, oo, bb⟩)
        rw [hM1]
        have HQ1 := Lib.hid (And.intro ((HQ0.out.1).turned bb d0_1) (And.intro ((HQ0.out.2.1).turned bb d2_1) oo))
        have HP1 := Lib.hid (HP.out.turned bb ng1)
        have HT1 := Lib.hid (HT0.out.trans (bb.mono sb1))
        clear oo bb ca0
        have fz : ∀ o, w1.frozen? ⟨g, o, none⟩ = false := HP1.out.2.1
        have ca1 : w1.cell? ⟨g, k * 6 + 1, none⟩ = some (.int .i64 xx1_0) := by have := HP1.out.1 (k * 6 + 1) (.int .i64 xx1_0) (by rw [List.getElem?_append_right (by rw [HPn.out]; omega), HPn.out, Nat.add_sub_cancel_left]; rfl); exact this
        have ca2 : w1.cell? ⟨g, k * 6 + 2, none⟩ = some (.int .i64 xx2_0) := by have := HP1.out.1 (k * 6 + 2) (.int .i64 xx2_0) (by rw [List.getElem?_append_right (by rw [HPn.out]; omega), HPn.out, Nat.add_sub_cancel_left]; rfl); exact this
        have ca3 : w1.cell? ⟨g, k * 6 + 3, none⟩ = some (.int .i64 xx2_1) := by have := HP1.out.1 (k * 6 + 3) (.int .i64 xx2_1) (by rw [List.getElem?_append_right (by rw [HPn.out]; omega), HPn.out, Nat.add_sub_cancel_left]; rfl); exact this
        have ca4 : w1.cell? ⟨g, k * 6 + 4, none⟩ = some (.int .i64 xx2_2) := by have := HP1.out.1 (k * 6 + 4) (.int .i64 xx2_2) (by rw [List.getElem?_append_right (by rw [HPn.out]; omega), HPn.out, Nat.add_sub_cancel_left]; rfl); exact this
        have ca5 : w1.cell? ⟨g, k * 6 + 5, none⟩ = some (.int .i64 xx2_3) := by have := HP1.out.1 (k * 6 + 5) (.int .i64 xx2_3) (by rw [List.getElem?_append_right (by rw [HPn.out]; omega), HPn.out, Nat.add_sub_cancel_left]; rfl); exact this
        have bs1 : Blk (w1.setCell ⟨g, k * 6 + 1, none⟩ (.int .i64 (M1 : Int))) g (P1 ++ (.slice xa0 xs0.length xc0 :: (.int .i64 (M1 : Int) :: (.int .i64 xx2_0 :: (.int .i64 xx2_1 :: (.int .i64 xx2_2 :: (.int .i64 xx2_3 :: P2))))))) := by have := Blk.put (P := P1 ++ [.slice xa0 xs0.length xc0]) (o := k * 6 + 1) (w := w1) (R := .int .i64 xx2_0 :: (.int .i64 xx2_1 :: (.int .i64 xx2_2 :: (.int .i64 xx2_3 :: P2)))) (x := .int .i64 xx1_0) (by simpa using HP1.out) (by simp [HPn.out]) (.int .i64 (M1 : Int)); simpa using this
        have bs2 : Blk ((w1.setCell ⟨g, k * 6 + 1, none⟩ (.int .i64 (M1 : Int))).setCell ⟨g, k * 6 + 2, none⟩ (.int .i64 (M2 : Int))) g (P1 ++ (.slice xa0 xs0.length xc0 :: (.int .i64 (M1 : Int) :: (.int .i64 (M2 : Int) :: (.int .i64 xx2_1 :: (.int .i64 xx2_2 :: (.int .i64 xx2_3 :: P2))))))) := by have := Blk.put (P := P1 ++ [.slice xa0 xs0.length xc0, .int .i64 (M1 : Int)]) (o := k * 6 + 2) (w := (w1.setCell ⟨g, k * 6 + 1, none⟩ (.int .i64 (M1 : Int)))) (R := .int .i64 xx2_1 :: (.int .i64 xx2_2 :: (.int .i64 xx2_3 :: P2))) (x := .int .i64 xx2_0) (by simpa using bs1) (by simp [HPn.out]) (.int .i64 (M2 : Int)); simpa using this
        have bs3 : Blk (((w1.setCell ⟨g, k * 6 + 1, none⟩ (.int .i64 (M1 : Int))).setCell ⟨g, k * 6 + 2, none⟩ (.int .i64 (M2 : Int))).setCell ⟨g, k * 6 + 3, none⟩ (.int .i64 (M3 : Int))) g (P1 ++ (.slice xa0 xs0.length xc0 :: (.int .i64 (M1 : Int) :: (.int .i64 (M2 : Int) :: (.int .i64 (M3 : Int) :: (.int .i64 xx2_2 :: (.int .i64 xx2_3 :: P2))))))) := by have := Blk.put (P := P1 ++ [.slice xa0 xs0.length xc0, .int .i64 (M1 : Int), .int .i64 (M2 : Int)]) (o := k * 6 + 3) (w := ((w1.setCell ⟨g, k * 6 + 1, none⟩ (.int .i64 (M1 : Int))).setCell ⟨g, k * 6 + 2, none⟩ (.int .i64 (M2 : Int)))) (R := .int .i64 xx2_2 :: (.int .i64 xx2_3 :: P2)) (x := .int .i64 xx2_1) (by simpa using bs2) (by simp [HPn.out]) (.int .i64 (M3 : Int)); simpa using this
        have bs4 : Blk ((((w1.setCell ⟨g, k * 6 + 1, none⟩ (.int .i64 (M1 : Int))).setCell ⟨g, k * 6 + 2, none⟩ (.int .i64 (M2 : Int))).setCell ⟨g, k * 6 + 3, none⟩ (.int .i64 (M3 : Int))).setCell ⟨g, k * 6 + 4, none⟩ (.int .i64 (M4 : Int))) g (P1 ++ (.slice xa0 xs0.length xc0 :: (.int .i64 (M1 : Int) :: (.int .i64 (M2 : Int) :: (.int .i64 (M3 : Int) :: (.int .i64 (M4 : Int) :: (.int .i64 xx2_3 :: P2))))))) := by have := Blk.put (P := P1 ++ [.slice xa0 xs0.length xc0, .int .i64 (M1 : Int), .int .i64 (M2 : Int), .int .i64 (M3 : Int)]) (o := k * 6 + 4) (w := (((w1.setCell ⟨g, k * 6 + 1, none⟩ (.int .i64 (M1 : Int))).setCell ⟨g, k * 6 + 2, none⟩ (.int .i64 (M2 : Int))).setCell ⟨g, k * 6 + 3, none⟩ (.int .i64 (M3 : Int)))) (R := .int .i64 xx2_3 :: P2) (x := .int .i64 xx2_2) (by simpa using bs3) (by simp [HPn.out]) (.int .i64 (M4 : Int)); simpa using this
        have bs5 : Blk (((((w1.setCell ⟨g, k * 6 + 1, none⟩ (.int .i64 (M1 : Int))).setCell ⟨g, k * 6 + 2, none⟩ (.int .i64 (M2 : Int))).setCell ⟨g, k * 6 + 3, none⟩ (.int .i64 (M3 : Int))).setCell ⟨g, k * 6 + 4, none⟩ (.int .i64 (M4 : Int))).setCell ⟨g, k * 6 + 5, none⟩ (.int .i64 (M5 : Int))) g (P1 ++ (.slice xa0 xs0.length xc0 :: (.int .i64 (M1 : Int) :: (.int .i64 (M2 : Int) :: (.int .i64 (M3 : Int) :: (.int .i64 (M4 : Int) :: (.int .i64 (M5 : Int) :: P2))))))) := by have := Blk.put (P := P1 ++ [.slice xa0 xs0.length xc0, .int .i64 (M1 : Int), .int .i64 (M2 : Int), .int .i64 (M3 : Int), .int .i64 (M4 : Int)]) (o := k * 6 + 5) (w := ((((w1.setCell ⟨g, k * 6 + 1, none⟩ (.int .i64 (M1 : Int))).setCell ⟨g, k * 6 + 2, none⟩ (.int .i64 (M2 : Int))).setCell ⟨g, k * 6 + 3, none⟩ (.int .i64 (M3 : Int))).setCell ⟨g, k * 6 + 4, none⟩ (.int .i64 (M4 : Int)))) (R := P2) (x := .int .i64 xx2_3) (by simpa using bs4) (by simp [HPn.out]) (.int .i64 (M5 : Int)); simpa using this
        have HQ2 := Lib.hid (show OwnL (((((w1.setCell ⟨g, k * 6 + 1, none⟩ (.int .i64 (M1 : Int))).setCell ⟨g, k * 6 + 2, none⟩ (.int .i64 (M2 : Int))).setCell ⟨g, k * 6 + 3, none⟩ (.int .i64 (M3 : Int))).setCell ⟨g, k * 6 + 4, none⟩ (.int .i64 (M4 : Int))).setCell ⟨g, k * 6 + 5, none⟩ (.int .i64 (M5 : Int))) (List.replicate (mkL (es.take k) N).length KObject) P1 (mkL (es.take k) N) f1 ∧ OwnL (((((w1.setCell ⟨g, k * 6 + 1, none⟩ (.int .i64 (M1 : Int))).setCell ⟨g, k * 6 + 2, none⟩ (.int .i64 (M2 : Int))).setCell ⟨g, k * 6 + 3, none⟩ (.int .i64 (M3 : Int))).setCell ⟨g, k * 6 + 4, none⟩ (.int .i64 (M4 : Int))).setCell ⟨g, k * 6 + 5, none⟩ (.int .i64 (M5 : Int))) (List.replicate (es.drop (k + 1)).length KObject) P2 (es.drop (k + 1)) f2 ∧ Own (((((w1.setCell ⟨g, k * 6 + 1, none⟩ (.int .i64 (M1 : Int))).setCell ⟨g, k * 6 + 2, none⟩ (.int .i64 (M2 : Int))).setCell ⟨g, k * 6 + 3, none⟩ (.int .i64 (M3 : Int))).setCell ⟨g, k * 6 + 4, none⟩ (.int .i64 (M4 : Int))).setCell ⟨g, k * 6 + 5, none⟩ (.int .i64 (M5 : Int))) (.sl KPt) [.slice xa0 xs0.length xc0] (.sl (mkL xs0 M0)) xF0 from And.intro (ownL_set ((ownL_set ((ownL_set ((ownL_set ((ownL_set (HQ1.out.1) ng0 _ (.int .i64 (M1 : Int)))) ng0 _ (.int .i64 (M2 : Int)))) ng0 _ (.int .i64 (M3 : Int)))) ng0 _ (.int .i64 (M4 : Int)))) ng0 _ (.int .i64 (M5 : Int))) (And.intro (ownL_set ((ownL_set ((ownL_set ((ownL_set ((ownL_set (HQ1.out.2.1) ng2 _ (.int .i64 (M1 : Int)))) ng2 _ (.int .i64 (M2 : Int)))) ng2 _ (.int .i64 (M3 : Int)))) ng2 _ (.int .i64 (M4 : Int)))) ng2 _ (.int .i64 (M5 : Int))) (own_setN ((own_setN ((own_setN ((own_setN ((own_setN (HQ1.out.2.2) ng1 _ (.int .i64 (M1 : Int)))) ng1 _ (.int .i64 (M2 : Int)))) ng1 _ (.int .i64 (M3 : Int)))) ng1 _ (.int .i64 (M4 : Int)))) ng1 _ (.int .i64 (M5 : Int)))))
        have HP2 := Lib.hid bs5
        have HT2 := Lib.hid (show Turns w (((((w1.setCell ⟨g, k * 6 + 1, none⟩ (.int .i64 (M1 : Int))).setCell ⟨g, k * 6 + 2, none⟩ (.int .i64 (M2 : Int))).setCell ⟨g, k * 6 + 3, none⟩ (.int .i64 (M3 : Int))).setCell ⟨g, k * 6 + 4, none⟩ (.int .i64 (M4 : Int))).setCell ⟨g, k * 6 + 5, none⟩ (.int .i64 (M5 : Int))) (fun b => b ∈ fp) from (turns_set (turns_set (turns_set (turns_set (turns_set HT1.out sg _ (.int .i64 (M1 : Int))) sg _ (.int .i64 (M2 : Int))) sg _ (.int .i64 (M3 : Int))) sg _ (.int .i64 (M4 : Int))) sg _ (.int .i64 (M5 : Int))))
        clear bs1 bs2 bs3 bs4 bs5
        have HU := Lib.hid (Own.unpick (n := n) (c := c) HP2.out (HQ2.out.1) (show OwnL _ LObject (.slice xa0 xs0.length xc0 :: (.int .i64 (M1 : Int) :: (.int .i64 (M2 : Int) :: (.int .i64 (M3 : Int) :: (.int .i64 (M4 : Int) :: (.int .i64 (M5 : Int) :: [])))))) (.sl (mkL xs0 M0) :: (.int ((M1 : Nat) : Int) :: (.int ((M2 : Nat) : Int) :: (.int ((M3 : Nat) : Int) :: (.int ((M4 : Nat) : Int) :: (.int ((M5 : Nat) : Int) :: ([]))))))) (xF0 ++ ([])) from .cons (cs := [.slice xa0 xs0.length xc0]) (fp := xF0) (HQ2.out.2.2) (.cons (cs := [.int .i64 (M1 : Int)]) (fp := []) (.int (M1 : Int)) (.cons (cs := [.int .i64 (M2 : Int)]) (fp := []) (.int (M2 : Int)) (.cons (cs := [.int .i64 (M3 : Int)]) (fp := []) (.int (M3 : Int)) (.cons (cs := [.int .i64 (M4 : Int)]) (fp := []) (.int (M4 : Int)) (.cons (cs := [.int .i64 (M5 : Int)]) (fp := []) (.int (M5 : Int)) (.nil))))))) (HQ2.out.2.1) HM.out.2.2.2.1 HM.out.2.2.2.2.1)
        go_wp2
        go_roundw
        case rel => exact ⟨k + 1, by omega, by go_num, by rw [HM.out.1], by rw [HM.out.2.1, HM.out.2.2.1, List.append_assoc]; exact HU.out, HT2.out⟩
        case measure => simp [intOf]; omega
      · obtain rfl : k = n := by omega
        have HY := Lib.hid (And.intro (show es.take k = es by rw [← H.out.2.2.1, List.take_length]) (show es.drop k = [] by rw [← H.out.2.2.1, List.drop_length]))
        have HH := Lib.hid (And.intro hown htn)
        clear hown htn
        go_wp2
        go_ret
        exact ⟨ret_int (by rw [HY.out.1]), by have := HH.out.1; rw [HY.out.1, HY.out.2, List.append_nil] at this; exact this, HH.out.2⟩
end Go.Proofs.Ytbdjnfnphilklaa.Own
