/-
  Texts of this seat, laid together: Lw13, EqBd, SzBO, SzBd, Da13
-/
import Derived.WalkKit
import Derived.Deep.DeepCutAuto
import Derived.Deep.QuietTactic
import Derived.BigQuiet
import Derived.Deep.RegionHeld3
import Derived.Handy
import Derived.Test.YtbdjnfnphilklaaGreatV43
import Derived.Test.YtbdjnfnphilklaaGreatV36
import Derived.Test.YtbdjnfnphilklaaGreatV32
import Derived.Test.YtbdjnfnphilklaaGreatV26
import Derived.Test.YtbdjnfnphilklaaGreatV13
import Derived.Test.YtbdjnfnphilklaaGreatV40
namespace Go.Proofs.YtbdjnfnphilklaaGreat.Own
open Go.ChangeShapes Go.WideShapes Go.ChangeAt Go.RowKit
open Kit Slabs Ints
set_option linter.unusedVariables false
set_option linter.unusedSimpArgs false
set_option linter.unnecessarySimpa false
theorem bda_of {w : World} {ra oa : Option Addr} {rc oc : Nat} {b : Bd} {rf of : List Nat} (hb : bulkL b.dt ≤ 1048576) (h2 : Own w KSS [.slice ra b.base.length rc] (.sl (dR b.base)) rf) (h3 : Own w (.sl KObject) [.slice oa b.objs.length oc] (.sl (dO b.objs)) of) : BdA w b ra rc oa oc := by
  refine ⟨?_, rr_of h2, of, h3⟩
  simp only [Bd.dt, bulkL, Dt.bulk, len_dR, len_dO, bulk_dR] at hb
  omega
theorem spec_BandOk (w : World) {A : Array Value} {ds : List Dt} {fp : List Nat} (hb : bulkL ds ≤ 1048576) (h : OwnL w LBand A.toList ds fp) :
    Calls Tryz.prog 44 #[.agg A] w fun e w' => e = .returned (.bool (bdB (bdOf ds))) ∧ Below w.heap.size w w' := by
  have e := bd_dt h
  rw [e] at hb h
  obtain ⟨ra, rc, oa, oc, rf, of, rfl, _, h2, h3⟩ := bd_four h
  exact bok_spec w _ ra rc oa oc (bda_of hb h2 h3)
theorem impl_BandOk (w : World) {A : Array Value} {ds : List Dt} {fp : List Nat} (hb : bulkL ds ≤ 1048576) (h : OwnL w LBand A.toList ds fp) :
    Calls Tryz.prog 10 #[.agg A] w fun e w' => e = .returned (.bool (bdB (bdOf ds))) ∧ Below w.heap.size w w' := by
  have e := bd_dt h
  rw [e] at hb h
  obtain ⟨ra, rc, oa, oc, rf, of, rfl, _, h2, h3⟩ := bd_four h
  exact bok_impl w _ ra rc oa oc (bda_of hb h2 h3)
theorem spec_BandCells (w : World) {A : Array Value} {ds : List Dt} {fp : List Nat} (hb : bulkL ds ≤ 1048576) (h : OwnL w LBand A.toList ds fp) :
    Calls Tryz.prog 54 #[.agg A] w fun e w' => e = .returned (.int .i64 (cellsN (bdOf ds).objs : Nat)) ∧ Below w.heap.size w w' := by
  have e := bd_dt h
  rw [e] at hb h
  obtain ⟨ra, rc, oa, oc, rf, of, rfl, _, h2, h3⟩ := bd_four h
  exact bcells_spec w _ ra rc oa oc (bda_of hb h2 h3)
theorem impl_BandCells (w : World) {A : Array Value} {ds : List Dt} {fp : List Nat} (hb : bulkL ds ≤ 1048576) (h : OwnL w LBand A.toList ds fp) :
    Calls Tryz.prog 11 #[.agg A] w fun e w' => e = .returned (.int .i64 (cellsN (bdOf ds).objs : Nat)) ∧ Below w.heap.size w w' := by
  have e := bd_dt h
  rw [e] at hb h
  obtain ⟨ra, rc, oa, oc, rf, of, rfl, _, h2, h3⟩ := bd_four h
  exact bcells_impl w _ ra rc oa oc (bda_of hb h2 h3)
def BdOut (ds : List Dt) (w : World) (e : Ending) (w' : World) : Prop := ∃ (R : Array Value) (f : List Nat), e = .returned (.agg R) ∧ OwnL w' LBand R.toList ds f ∧ f.Nodup ∧ (∀ b ∈ f, w.heap.size ≤ b) ∧ Below w.heap.size w w'
def BdOut2 (ds : List Dt) (q : Bool) (w : World) (e : Ending) (w' : World) : Prop := ∃ (R : Array Value) (f : List Nat), e = .returned (.tuple #[.agg R, .bool q]) ∧ OwnL w' LBand R.toList ds f ∧ f.Nodup ∧ (∀ b ∈ f, w.heap.size ≤ b) ∧ Below w.heap.size w w'
theorem bd_out {b : Bd} {w : World} {e : Ending} {w' : World} (h : BdNew b w e w') : BdOut b.dt w e w' := by
  obtain ⟨R, F, rfl, hR, bb⟩ := h
  obtain ⟨f, o, n, s⟩ := hR.own
  exact ⟨R, f, rfl, o, n, fun x hx => hR.ge x (s x hx), bb⟩
theorem bd_out2 {b : Bd} {q : Bool} {w : World} {e : Ending} {w' : World} (h : BdNew2 b q w e w') : BdOut2 b.dt q w e w' := by
  obtain ⟨R, F, rfl, hR, bb⟩ := h
  obtain ⟨f, o, n, s⟩ := hR.own
  exact ⟨R, f, rfl, o, n, fun x hx => hR.ge x (s x hx), bb⟩
theorem spec_NewBand (w : World) (h n : Int) : Calls Tryz.prog 67 #[.int .i64 h, .int .i64 n] w (BdOut2 (nbD h n).dt (bnB h n) w) := (newband_spec w h n).mono fun e w' h => bd_out2 h
theorem bulk_dt (b : Bd) : bulkL b.dt = b.base.length + tot b.base + (b.objs.length + bulkL (dO b.objs)) := by
  simp only [Bd.dt, bulkL, Dt.bulk, len_dR, len_dO, bulk_dR]; omega
theorem tot_of32 {R : List (List Int)} (h : ∀ r ∈ R, r.length = 32) : tot R = R.length * 32 := by
  induction R with
  | nil => rfl
  | cons r R ih =>
    have e : tot (r :: R) = r.length + tot R := by simp [tot]
    rw [e, ih (fun x hx => h x (List.mem_cons_of_mem _ hx)), h r List.mem_cons_self, List.length_cons]; omega
theorem nbD_le (h n : Int) : bulkL (nbD h n).dt ≤ 1048576 := by
  rw [bulk_dt]
  unfold nbD
  split
  · rename_i hb
    obtain ⟨b0, b1, b2, b3, b4, b5⟩ := bn_rows hb
    show (whR h).length + tot (whR h) + (0 + 0) ≤ 1048576
    rw [tot_of32 (whR_32 h), whR_len]; omega
  · show 0 + tot [] + (0 + 0) ≤ 1048576
    simp [tot]
end Go.Proofs.YtbdjnfnphilklaaGreat.Own
namespace Go.Proofs.YtbdjnfnphilklaaGreat.Own
open Go.ChangeShapes Go.WideShapes Go.ChangeAt Go.RowKit
open Kit Slabs Ints
attribute [local go_sem ↓] hload_Band hstore_Band hloadL_Band
set_option linter.unusedVariables false
set_option linter.unusedSimpArgs false
set_option linter.unnecessarySimpa false
set_option maxRecDepth 100000
set_option maxHeartbeats 4000000 in
theorem eq_Band (w : World) {A B : Array Value} {ds : List Dt} {f1 f2 : List Nat} (hb : bulkL ds ≤ 1048576) (h1 : OwnL w LBand A.toList ds f1) (h2 : OwnL w LBand B.toList ds f2) :
    Calls Tryz.prog 17 #[.agg A, .agg B] w fun e w' => e = .returned (.bool true) ∧ Below w.heap.size w w' := by
  obtain ⟨xa2, xc2, xa3, xc3, xx0_0, xx1_0, xs2, xs3, xF2, xF3, hA, rfl, rfl, ox2, ox3⟩ := inv_Band h1
  obtain ⟨ya2, yc2, ya3, yc3, yF2, yF3, hB, rfl, oy2, oy3⟩ := inv_Band_ h2
  simp only [bulkL_app, bulkL, Dt.bulk] at hb
  have BA : Blk ((w.alloc (.cells A 27)).alloc (.cells B 27)) w.heap.size A.toList := (Blk.new w A 27 rfl).alloc _
  have BB : Blk ((w.alloc (.cells A 27)).alloc (.cells B 27)) (w.heap.size + 1) B.toList := Blk.new _ B 27 (by simp)
  have hW : Below w.heap.size w ((w.alloc (.cells A 27)).alloc (.cells B 27)) := by go_grown
  rw [hA] at BA
  rw [hB] at BB
  have HO := Lib.hid (And.intro ox2 (And.intro ox3 (And.intro oy2 oy3)))
  have HA0 := Lib.hid BA
  have HB0 := Lib.hid BB
  have HW0 := Lib.hid hW
  have ca0 : A[0]? = some (.int .i64 xx0_0) := by rw [← Array.getElem?_toList, hA]; rfl
  have cb0 : B[0]? = some (.int .i64 xx0_0) := by rw [← Array.getElem?_toList, hB]; rfl
  have ca1 : A[1]? = some (.int .i64 xx1_0) := by rw [← Array.getElem?_toList, hA]; rfl
  have cb1 : B[1]? = some (.int .i64 xx1_0) := by rw [← Array.getElem?_toList, hB]; rfl
  have ca2 : A[2]? = some (.slice xa2 xs2.length xc2) := by rw [← Array.getElem?_toList, hA]; rfl
  have cb2 : B[2]? = some (.slice ya2 xs2.length yc2) := by rw [← Array.getElem?_toList, hB]; rfl
  clear ox2 ox3 oy2 oy3 hA hB BA BB hW h1 h2
  go_enter Tryz.func17, Tryz.ntmps17
  go_wp2_with fail
  ((with_reducible refine (eq_IntSS _ (by omega) ((HO.out.1).under HW0.out) ((HO.out.2.2.1).under HW0.out)).mono ?_); rintro e w1 ⟨rfl, b1⟩)
  have HW1 := Lib.hid (on_of HW0.out b1)
  have HA1 := Lib.hid (HA0.out.keep b1)
  have HB1 := Lib.hid (HB0.out.keep b1)
  clear b1 ca0 cb0 ca1 cb1 ca2 cb2
  have ca3 := HA1.out.1 3 (.slice xa3 xs3.length xc3) (by rfl)
  have cb3 := HB1.out.1 3 (.slice ya3 xs3.length yc3) (by rfl)
  go_wp2_with fail
  ((with_reducible refine (eq_ObjectS _ (by omega) ((HO.out.2.1).under HW1.out) ((HO.out.2.2.2).under HW1.out)).mono ?_); rintro e w2 ⟨rfl, b2⟩)
  have HW2 := Lib.hid (on_of HW1.out b2)
  have HA2 := Lib.hid (HA1.out.keep b2)
  have HB2 := Lib.hid (HB1.out.keep b2)
  clear b2 ca3 cb3
  go_wp2
  go_ret
  exact ⟨rfl, HW2.out⟩
end Go.Proofs.YtbdjnfnphilklaaGreat.Own
namespace Go.Proofs.YtbdjnfnphilklaaGreat.Own
open Go.ChangeShapes Go.WideShapes Go.ChangeAt Go.RowKit
open Kit Slabs Ints
set_option linter.unusedVariables false
set_option linter.unusedSimpArgs false
set_option linter.unnecessarySimpa false
set_option maxRecDepth 100000
attribute [local go_sem ↓] hloadL_Object
set_option maxHeartbeats 4000000 in
theorem sz_ObjectS (w : World) {a : Option Addr} {c : Nat} {es : List Dt} (h : Came w (.sl KObject) [.slice a es.length c] (.sl es)) (hm : es.length ≤ maxLen) (l : Int) (l0 : 0 ≤ l) (l1 : l ≤ 1048576) :
    Calls Tryz.prog 42 #[.slice a es.length c, .int .i64 l] w fun e w' => e = .returned (.int .i64 (szv l (es.length + bulkL es))) ∧ Below w.heap.size w w' := by
  obtain ⟨_, hr⟩ := h.row
  obtain ⟨n, hn⟩ : ∃ n, es.length = n := ⟨_, rfl⟩
  rw [hn] at hr hm h ⊢
  have hm2 : n ≤ 9223372036854775807 := by unfold maxLen at hm; omega
  clear hm
  by_cases c0 : l - (n : Int) < 0
  · have hz : szv l n = -1 := by unfold szv; rw [if_pos c0]
    have HZ := Lib.hid (szv_neg (b := bulkL es) l0 (by rw [hz]; omega))
    clear hr h hz
    go_enter Tryz.func42, Tryz.ntmps42
    go_wp2
    go_ret
    exact ⟨ret_int HZ.out.symm, Below.refl _ _⟩
  · have hz : szv l n = l - (n : Int) := by unfold szv; rw [if_neg c0]
    have H := Lib.hid h
    have HN := Lib.hid hn
    have hn1 : n ≤ 1048576 := by omega
    have HR : n ≠ 0 → ∃ g o, a = some ⟨g, o, none⟩ ∧ g < w.heap.size := hr
    have ha : n = 0 ∨ ∃ g o, a = some ⟨g, o, none⟩ := by
      by_cases h0 : n = 0
      · exact .inl h0
      · obtain ⟨g, o, h1, _⟩ := hr h0; exact .inr ⟨g, o, h1⟩
    have HZ := Lib.hid hz
    clear h hr hz HR hn
    rcases ha with rfl | ⟨g, o, rfl⟩
    · have hes : es = [] := List.eq_nil_of_length_eq_zero HN.out
      subst hes
      have HT := Lib.hid (show szv l (0 + bulkL []) = l by simp [szv, bulkL]; omega)
      clear H HN HZ
      go_enter Tryz.func42, Tryz.ntmps42
      go_wp2
      go_rounds 1
      go_ret
      exact ⟨ret_int (by rw [HT.out]), Below.refl _ _⟩
    · go_enter Tryz.func42, Tryz.ntmps42
      go_wp2
      go_loopw [1, 5] (fun v1 i wr => ∃ (k : Nat) (y : Int), k ≤ n ∧ i = .int .i64 (k : Int) ∧ v1 = .int .i64 y ∧ 0 ≤ y ∧ y ≤ 1048576 ∧ szv l (n + bulkL (es.take k)) = y ∧ Below w.heap.size w wr) (fun _ i _ => n - (intOf i).toNat)
      case atStart => exact ⟨0, l - (n : Int), Nat.zero_le _, rfl, rfl, by omega, by omega, by rw [List.take_zero]; simp only [bulkL, Nat.add_zero]; exact HZ.out, Below.refl _ _⟩
      case round =>
        obtain ⟨k, y, hk, rfl, rfl, y0, y1, hy, hbel⟩ := hrel
        by_cases hlt : k < n
        · have hke : k < es.length := by rw [HN.out]; exact hlt
          obtain ⟨hg, cs, ds, ed, od, ld, sd⟩ := H.out.elt hke
          have htk := take_bulk hke
          rw [ed] at htk
          simp only [Dt.bulk] at htk
          have hpart := bulk_parts es (k + 1)
          obtain ⟨C, hC⟩ : ∃ C, cs.toArray = C := ⟨_, rfl⟩
          have tC : C.toList = cs := by rw [← hC]
          have L1 := hload_run (P := Tryz.prog) (t := 46) Tryz.isAgg46 Tryz.sizeOf46 (w := wr) (b := g) (o := o + k * 6) (us := cs) (sd wr hbel) ld
          rw [hC] at L1
          rw [← tC] at od
          have HO := Lib.hid (od.on hbel)
          have i0 : (0 : Int) ≤ (k : Int) := by omega
          have i1 : (k : Int) < (n : Int) := by omega
          obtain ⟨z, hz⟩ : ∃ z, szv y (bulkL ds) = z := ⟨_, rfl⟩
          have hz2 : szv l (n + bulkL (es.take (k + 1))) = z := by rw [htk, ← Nat.add_assoc, ← szv_add (by rw [hy]; exact y0), hy, hz]
          have hzl : z ≤ 1048576 := by have := szv_le (a := bulkL ds) y0; omega
          have hneg : z < 0 → szv l (n + bulkL es) = -1 := fun hc => by rw [hpart, ← Nat.add_assoc]; exact szv_neg l0 (by rw [hz2]; exact hc)
          have hm1 : z < 0 → z = -1 := fun hc => by rw [← hz] at hc ⊢; unfold szv at hc ⊢; split at hc <;> first | rfl | omega
          have HF := Lib.hid (And.intro hz (And.intro hz2 (And.intro hneg hm1)))
          clear od sd ed ld hke hC tC htk hpart hz hz2 hneg hm1 hy
          by_cases c1 : z < 0
          · go_wp2_with (go_at_call 20; (with_reducible refine (sz_Object _ HO.out y y0 y1).mono ?_); rintro e w' ⟨rfl, hb⟩; rw [HF.out.1]; have hB := on_of hbel hb; clear hb)
            go_ret
            exact ⟨ret_int (HF.out.2.2.1 c1).symm, hB⟩
          · have z0 : 0 ≤ z := by omega
            go_wp2_with (go_at_call 20; (with_reducible refine (sz_Object _ HO.out y y0 y1).mono ?_); rintro e w' ⟨rfl, hb⟩; rw [HF.out.1]; have hB := on_of hbel hb; clear hb)
            go_roundw
            case rel => exact ⟨k + 1, z, by omega, by go_num, rfl, z0, hzl, HF.out.2.1, hB⟩
            case measure => simp [intOf]; omega
        · obtain rfl : k = n := by omega
          have HY := Lib.hid (show szv l (k + bulkL es) = y by rw [← hy, ← HN.out, List.take_length])
          clear hy
          go_wp2
          go_ret
          exact ⟨ret_int HY.out.symm, hbel⟩
end Go.Proofs.YtbdjnfnphilklaaGreat.Own
namespace Go.Proofs.YtbdjnfnphilklaaGreat.Own
open Go.ChangeShapes Go.WideShapes Go.ChangeAt Go.RowKit
open Kit Slabs Ints
attribute [local go_sem ↓] hload_Band hstore_Band hloadL_Band
set_option linter.unusedVariables false
set_option linter.unusedSimpArgs false
set_option linter.unnecessarySimpa false
set_option maxRecDepth 100000
set_option maxHeartbeats 4000000 in
theorem sz_Band (w : World) {A : Array Value} {ds : List Dt} (h : CameL w LBand A.toList ds) (l : Int) (l0 : 0 ≤ l) (l1 : l ≤ 1048576) :
    Calls Tryz.prog 14 #[.agg A, .int .i64 l] w fun e w' => e = .returned (.int .i64 (szv l (bulkL ds))) ∧ Below w.heap.size w w' := by
  obtain ⟨xa2, xc2, xa3, xc3, xx0_0, xx1_0, xs2, xs3, hA, rfl, ⟨ox2, mox2⟩, ⟨ox3, mox3⟩⟩ := invC_Band h
  have hbk : bulkL (.int xx0_0 :: (.int xx1_0 :: (.sl xs2 :: (.sl xs3 :: ([]))))) = ((xs2.length + bulkL xs2) + (xs3.length + bulkL xs3)) := by simp only [bulkL_app, bulkL, Dt.bulk]; omega
  rw [hbk]
  obtain ⟨y1, q1⟩ : ∃ x, szv l (xs2.length + bulkL xs2) = x := ⟨_, rfl⟩
  obtain ⟨y2, q2⟩ : ∃ x, szv y1 (xs3.length + bulkL xs3) = x := ⟨_, rfl⟩
  have BA : Blk (w.alloc (.cells A 36)) w.heap.size A.toList := Blk.new w A 36 rfl
  have hW : Below w.heap.size w (w.alloc (.cells A 36)) := by go_grown
  rw [hA] at BA
  have HO := Lib.hid (And.intro ox2 ox3)
  have HA0 := Lib.hid BA
  have HW0 := Lib.hid hW
  by_cases c1 : y1 < 0
  · have t2 : szv l ((xs2.length + bulkL xs2) + (xs3.length + bulkL xs3)) = -1 := szv_neg l0 (by rw [q1]; omega)
    have HZ := Lib.hid t2
    have ca0 : A[0]? = some (.int .i64 xx0_0) := by rw [← Array.getElem?_toList, hA]; rfl
    have ca1 : A[1]? = some (.int .i64 xx1_0) := by rw [← Array.getElem?_toList, hA]; rfl
    have ca2 : A[2]? = some (.slice xa2 xs2.length xc2) := by rw [← Array.getElem?_toList, hA]; rfl
    clear ox2 ox3 hA BA hW h hbk
    go_enter Tryz.func14, Tryz.ntmps14
    go_wp2_with fail
    ((with_reducible refine (sz_IntSS _ ((HO.out.1).on HW0.out) mox2 l (by omega) (by omega)).mono ?_); rintro e w1 ⟨rfl, b1⟩)
    rw [q1]
    have HW1 := Lib.hid (on_of HW0.out b1)
    have HA1 := Lib.hid (HA0.out.keep b1)
    clear b1 ca0 ca1 ca2
    clear q1 q2
    go_wp2
    go_ret
    exact ⟨ret_int HZ.out.symm, HW1.out⟩
  · have d1 : 0 ≤ y1 := by omega
    have e1 : y1 ≤ 1048576 := by have := szv_le (a := (xs2.length + bulkL xs2)) (show 0 ≤ l by omega); rw [q1] at this; omega
    by_cases c2 : y2 < 0
    · have s2 : szv l ((xs2.length + bulkL xs2) + (xs3.length + bulkL xs3)) = y2 := by rw [← szv_add (by rw [q1]; omega), q1, q2]
      have u : y2 = -1 := by rw [← q2] at c2 ⊢; unfold szv at c2 ⊢; split at c2 <;> first | rfl | omega
      have HZ := Lib.hid (s2.trans u)
      clear u
      have ca0 : A[0]? = some (.int .i64 xx0_0) := by rw [← Array.getElem?_toList, hA]; rfl
      have ca1 : A[1]? = some (.int .i64 xx1_0) := by rw [← Array.getElem?_toList, hA]; rfl
      have ca2 : A[2]? = some (.slice xa2 xs2.length xc2) := by rw [← Array.getElem?_toList, hA]; rfl
      clear ox2 ox3 hA BA hW h hbk
      go_enter Tryz.func14, Tryz.ntmps14
      go_wp2_with fail
      ((with_reducible refine (sz_IntSS _ ((HO.out.1).on HW0.out) mox2 l (by omega) (by omega)).mono ?_); rintro e w1 ⟨rfl, b1⟩)
      rw [q1]
      have HW1 := Lib.hid (on_of HW0.out b1)
      have HA1 := Lib.hid (HA0.out.keep b1)
      clear b1 ca0 ca1 ca2
      have ca3 := HA1.out.1 3 (.slice xa3 xs3.length xc3) (by rfl)
      go_wp2_with fail
      ((with_reducible refine (sz_ObjectS _ ((HO.out.2).on HW1.out) mox3 y1 (by omega) (by omega)).mono ?_); rintro e w2 ⟨rfl, b2⟩)
      rw [q2]
      have HW2 := Lib.hid (on_of HW1.out b2)
      have HA2 := Lib.hid (HA1.out.keep b2)
      clear b2 ca3
      clear q1 q2
      go_wp2
      go_ret
      exact ⟨ret_int HZ.out.symm, HW2.out⟩
    · have d2 : 0 ≤ y2 := by omega
      have e2 : y2 ≤ 1048576 := by have := szv_le (a := (xs3.length + bulkL xs3)) (show 0 ≤ y1 by omega); rw [q2] at this; omega
      have s2 : szv l ((xs2.length + bulkL xs2) + (xs3.length + bulkL xs3)) = y2 := by rw [← szv_add (by rw [q1]; omega), q1, q2]
      have HZ := Lib.hid s2
      have ca0 : A[0]? = some (.int .i64 xx0_0) := by rw [← Array.getElem?_toList, hA]; rfl
      have ca1 : A[1]? = some (.int .i64 xx1_0) := by rw [← Array.getElem?_toList, hA]; rfl
      have ca2 : A[2]? = some (.slice xa2 xs2.length xc2) := by rw [← Array.getElem?_toList, hA]; rfl
      clear ox2 ox3 hA BA hW h hbk
      go_enter Tryz.func14, Tryz.ntmps14
      go_wp2_with fail
      ((with_reducible refine (sz_IntSS _ ((HO.out.1).on HW0.out) mox2 l (by omega) (by omega)).mono ?_); rintro e w1 ⟨rfl, b1⟩)
      rw [q1]
      have HW1 := Lib.hid (on_of HW0.out b1)
      have HA1 := Lib.hid (HA0.out.keep b1)
      clear b1 ca0 ca1 ca2
      have ca3 := HA1.out.1 3 (.slice xa3 xs3.length xc3) (by rfl)
      go_wp2_with fail
      ((with_reducible refine (sz_ObjectS _ ((HO.out.2).on HW1.out) mox3 y1 (by omega) (by omega)).mono ?_); rintro e w2 ⟨rfl, b2⟩)
      rw [q2]
      have HW2 := Lib.hid (on_of HW1.out b2)
      have HA2 := Lib.hid (HA1.out.keep b2)
      clear b2 ca3
      clear q1 q2
      go_wp2
      go_ret
      exact ⟨ret_int HZ.out.symm, HW2.out⟩
end Go.Proofs.YtbdjnfnphilklaaGreat.Own
namespace Go.Proofs.YtbdjnfnphilklaaGreat.Own
open Go.ChangeShapes Go.WideShapes Go.ChangeAt Go.RowKit
open Kit Slabs Ints
set_option linter.unusedVariables false
set_option linter.unusedSimpArgs false
set_option linter.unnecessarySimpa false
theorem bulk_cells9 (l : List Ob) : l.length + bulkL (dO l) ≤ cellsN l := by
  induction l with
  | nil => simp [cellsN, dO, bulkL]
  | cons o l ih =>
    have e : cellsN (o :: l) = 2 + o.path.length + cellsN l := by simp [cellsN]
    have e2 : bulkL (dO (o :: l)) = o.path.length + bulkL (dO l) := by
      show bulkL (Dt.st o.dt :: dO l) = _
      simp only [bulkL, Dt.bulk, Ob.dt, len_dP, bulk_dP]; omega
    rw [e, e2, List.length_cons]; omega
theorem ok_path9 {o : Ob} (h : okO o = true) : o.path.length ≤ 8 := by
  simp only [okO, Ins.obK, Ins.pathB, Bool.and_eq_true, decide_eq_true_eq] at h
  exact h.1.1.2.1
theorem ok_size {b : Bd} (h : bdB b = true) : b.base.length + tot b.base + (b.objs.length + bulkL (dO b.objs)) ≤ 1048576 := by
  obtain ⟨p1, p2, p3, p4, p5⟩ := bd_parts h
  obtain ⟨r1, r2⟩ := rows32 p3
  have ht := tot_32 r2
  have := bulk_cells9 b.objs
  omega
theorem mgR_len9 (b : Bd) : (mgR b).length = b.base.length := by
  unfold mgR
  generalize b.base = R
  induction b.objs generalizing R with
  | nil => rfl
  | cons o l ih => rw [List.foldl_cons, ih, pnF_len]
theorem mgR_rows {b : Bd} (h : rowsB b.base = true) : rowsB (mgR b) = true := rowsB_foldF _ _ h
theorem mgD_valid {b : Bd} (h : bdB b = true) : bdB (mgD b) = true := by
  obtain ⟨p1, p2, p3, p4, p5⟩ := bd_parts h
  have e : mgD b = ⟨b.h, b.n, mgR b, []⟩ := by simp [mgD, h]
  rw [e]
  simp only [bdB, Bool.and_eq_true, decide_eq_true_eq]
  exact ⟨⟨⟨⟨p1, by rw [mgR_len9]; exact p2⟩, mgR_rows p3⟩, rfl⟩, by simp [cellsN]⟩
theorem adD_valid {b : Bd} (h : bdB b = true) (o : Ob) : bdB (adD b o) = true := by
  unfold adD
  split
  · rename_i h2
    simp only [adF, Bool.and_eq_true] at h2
    obtain ⟨p1, p2, p3, p4, p5⟩ := bd_parts h
    have hp := ok_path9 h2.1.2
    unfold adI
    split
    · rename_i hf
      simp only [bdB, Bool.and_eq_true, decide_eq_true_eq]
      exact ⟨⟨⟨⟨p1, p2⟩, p3⟩, by rw [List.all_append, p4]; simp [h2.1.2]⟩, by rw [cells_app, cells_one]; exact hf⟩
    · simp only [bdB, Bool.and_eq_true, decide_eq_true_eq]
      exact ⟨⟨⟨⟨p1, by rw [mgR_len9]; exact p2⟩, mgR_rows p3⟩, by simp [h2.1.2]⟩, by rw [cells_one]; omega⟩
  · exact h
theorem nbD_valid {h n : Int} (hb : bnB h n = true) : bdB (nbD h n) = true := by
  obtain ⟨b0, b1, b2, b3, b4, b5⟩ := bn_rows hb
  have e : nbD h n = ⟨h, n, whR h, []⟩ := by simp [nbD, hb]
  rw [e]
  simp only [bdB, Bool.and_eq_true, decide_eq_true_eq]
  exact ⟨⟨⟨⟨hb, by rw [whR_len]; omega⟩, whR_rows b2⟩, rfl⟩, by simp [cellsN]⟩
end Go.Proofs.YtbdjnfnphilklaaGreat.Own
