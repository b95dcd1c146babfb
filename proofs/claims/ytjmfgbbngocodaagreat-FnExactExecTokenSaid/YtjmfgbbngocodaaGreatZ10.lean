/-
  Texts of this seat, laid together: MkA, ToB, SpE
-/
import Derived.WalkKit
import Derived.Deep.DeepCutAuto
import Derived.Deep.QuietTactic
import Derived.BigQuiet
import Derived.Deep.RegionHeld3
import Derived.Handy
import Derived.Test.YtjmfgbbngocodaaGreatZ09
import Derived.Test.YtjmfgbbngocodaaGreatZ14
import Derived.Test.YtjmfgbbngocodaaGreatZ18
namespace Go.Proofs.YtjmfgbbngocodaaGreat.Own
open Go.ChangeShapes Go.WideShapes Go.ChangeAt Go.RowKit
open Kit Slabs Ints
set_option linter.unusedVariables false
set_option linter.unusedSimpArgs false
set_option linter.unnecessarySimpa false
set_option maxRecDepth 100000
set_option maxHeartbeats 4000000 in
theorem mark_Graphics (w : World) (N : Nat) {A : Array Value} {ds : List Dt} {fp : List Nat} (hb : bulkL ds ≤ 1048576) (h0 : 0 < N) (hN : N + cnt0L ds ≤ 1000000000) (h : OwnL w LGraphics A.toList ds fp) (hd : fp.Nodup) :
    Calls Tryz.prog 43 #[.agg A, .int .i64 (N : Int)] w fun e w' => e = .returned (.int .i64 ((N + cnt0L ds : Nat) : Int)) ∧ OwnL w' LGraphics A.toList (mk0L ds N) fp ∧ Turns w w' (fun b => b ∈ fp) := by
  obtain ⟨xa0, xc0, xa5, xc5, xs0, xx1_0, xx1_1, xx1_2, xx1_3, xs5, xx6_0, xx7_0, xx7_1, xx7_2, xx7_3, xF0, xF5, hA, rfl, rfl, ox0, ox5⟩ := inv_Graphics h
  obtain ⟨nd0, r0, x0⟩ := nodup_parts hd
  obtain ⟨nd1, r1, x1⟩ := nodup_parts r0
  have d0_1 : ∀ b ∈ xF0, b ∉ xF5 := fun b ha hb => x0 b ha (List.mem_append_left _ hb)
  have d1_0 : ∀ b ∈ xF5, b ∉ xF0 := fun b ha hb => d0_1 b hb ha
  have hc : N + cnt0L (.sl xs0 :: (.int xx1_0 :: (.int xx1_1 :: (.int xx1_2 :: (.int xx1_3 :: (.sl xs5 :: (.int xx6_0 :: (.int xx7_0 :: (.int xx7_1 :: (.int xx7_2 :: (.int xx7_3 :: ([])))))))))))) = ((N + cntL xs0) + cntL xs5) := by simp only [cnt0L_app, cnt0L, Dt.cnt0]; omega
  have hm : mk0L (.sl xs0 :: (.int xx1_0 :: (.int xx1_1 :: (.int xx1_2 :: (.int xx1_3 :: (.sl xs5 :: (.int xx6_0 :: (.int xx7_0 :: (.int xx7_1 :: (.int xx7_2 :: (.int xx7_3 :: ([])))))))))))) N = .sl (mkL xs0 N) :: (.int xx1_0 :: (.int xx1_1 :: (.int xx1_2 :: (.int xx1_3 :: (.sl (mkL xs5 (N + cntL xs0)) :: (.int xx6_0 :: (.int xx7_0 :: (.int xx7_1 :: (.int xx7_2 :: (.int xx7_3 :: ([]))))))))))) := by simp only [mk0L_app, mk0L, Dt.mk0, cnt0L_app, cnt0L, Dt.cnt0, Nat.add_zero, Nat.add_assoc]
  obtain ⟨M1, hM1⟩ : ∃ M, N + cntL xs0 = M := ⟨_, rfl⟩
  simp only [hM1] at hc hm
  obtain ⟨M2, hM2⟩ : ∃ M, M1 + cntL xs5 = M := ⟨_, rfl⟩
  simp only [hM2] at hc hm
  rw [hc] at hN ⊢
  rw [hm]
  clear hc hm
  simp only [bulkL_app, bulkL, Dt.bulk] at hb
  have BA : Blk (w.alloc (.cells A 42)) w.heap.size A.toList := Blk.new w A 42 rfl
  have hT : Turns w (w.alloc (.cells A 42)) (fun b => b ∈ xF0 ++ (xF5 ++ ([]))) := Turns.of_below (by go_grown)
  rw [hA] at BA ⊢
  have lt0 := ox0.lt
  have ne0 : ¬ (w.heap.size ∈ xF0) := fun hb => by have := lt0 _ hb; omega
  have p0 := ox0.under (w' := w.alloc (.cells A 42)) (by go_grown)
  have lt1 := ox5.lt
  have ne1 : ¬ (w.heap.size ∈ xF5) := fun hb => by have := lt1 _ hb; omega
  have p1 := ox5.under (w' := w.alloc (.cells A 42)) (by go_grown)
  have HO0 := Lib.hid (And.intro p0 p1)
  have HA0 := Lib.hid BA
  have HT0 := Lib.hid hT
  have ca0 : A[0]? = some (.slice xa0 xs0.length xc0) := by rw [← Array.getElem?_toList, hA]; rfl
  clear ox0 ox5 hA BA hT h hd p0 lt0 p1 lt1
  go_enter Tryz.func43, Tryz.ntmps43
  go_wp2_with fail
  ((with_reducible refine (mark_IntS _ N (by omega) (by omega) (by omega) (HO0.out.1) nd0).mono ?_); rintro e w1 ⟨rfl, o1, b1⟩)
  rw [hM1]
  have HO1 := Lib.hid (And.intro o1 ((HO0.out.2).turned b1 d1_0))
  have HA1 := Lib.hid (HA0.out.turned b1 ne0)
  have HT1 := Lib.hid (HT0.out.trans (b1.mono (fun _ hk => List.mem_append_left _ hk)))
  clear o1 b1 ca0
  have ca1 := HA1.out.1 1 (.int .i64 xx1_0) (by rfl)
  have ca2 := HA1.out.1 2 (.int .i64 xx1_1) (by rfl)
  have ca3 := HA1.out.1 3 (.int .i64 xx1_2) (by rfl)
  have ca4 := HA1.out.1 4 (.int .i64 xx1_3) (by rfl)
  have ca5 := HA1.out.1 5 (.slice xa5 xs5.length xc5) (by rfl)
  go_wp2_with fail
  ((with_reducible refine (mark_PointS _ M1 (by omega) (by omega) (by omega) (HO1.out.2) nd1).mono ?_); rintro e w2 ⟨rfl, o2, b2⟩)
  rw [hM2]
  have HO2 := Lib.hid (And.intro ((HO1.out.1).turned b2 d0_1) o2)
  have HA2 := Lib.hid (HA1.out.turned b2 ne1)
  have HT2 := Lib.hid (HT1.out.trans (b2.mono (fun _ hk => List.mem_append_right _ (List.mem_append_left _ hk))))
  clear o2 b2 ca1 ca2 ca3 ca4 ca5
  go_wp2
  go_ret
  exact ⟨rfl, .cons (cs := [.slice xa0 xs0.length xc0]) (fp := xF0) (HO2.out.1) (.cons (cs := [.int .i64 xx1_0]) (fp := []) (.int xx1_0) (.cons (cs := [.int .i64 xx1_1]) (fp := []) (.int xx1_1) (.cons (cs := [.int .i64 xx1_2]) (fp := []) (.int xx1_2) (.cons (cs := [.int .i64 xx1_3]) (fp := []) (.int xx1_3) (.cons (cs := [.slice xa5 xs5.length xc5]) (fp := xF5) (HO2.out.2) (.cons (cs := [.int .i64 xx6_0]) (fp := []) (.int xx6_0) (.cons (cs := [.int .i64 xx7_0]) (fp := []) (.int xx7_0) (.cons (cs := [.int .i64 xx7_1]) (fp := []) (.int xx7_1) (.cons (cs := [.int .i64 xx7_2]) (fp := []) (.int xx7_2) (.cons (cs := [.int .i64 xx7_3]) (fp := []) (.int xx7_3) (.nil))))))))))), HT2.out⟩
set_option maxHeartbeats 4000000 in
theorem held_Graphics (w : World) (N : Nat) {A : Array Value} {ds : List Dt} {cs0 : List Value} {fp fq : List Nat} {w0 : World} (hb : bulkL ds ≤ 1048576) (h0 : 0 < N) (hN : N + cnt0L ds ≤ 1000000000) (hs : OwnL w0 LGraphics cs0 ds fq) (h : OwnL w LGraphics A.toList (mk0L ds N) fp) :
    Calls Tryz.prog 46 #[.agg A, .int .i64 (N : Int)] w fun e w' => e = .returned (.int .i64 ((N + cnt0L ds : Nat) : Int)) ∧ Below w.heap.size w w' := by
  obtain ⟨xa0, xc0, xa5, xc5, xs0, xx1_0, xx1_1, xx1_2, xx1_3, xs5, xx6_0, xx7_0, xx7_1, xx7_2, xx7_3, xF0, xF5, _, rfl, _, ox0, ox5⟩ := inv_Graphics hs
  have hc : N + cnt0L (.sl xs0 :: (.int xx1_0 :: (.int xx1_1 :: (.int xx1_2 :: (.int xx1_3 :: (.sl xs5 :: (.int xx6_0 :: (.int xx7_0 :: (.int xx7_1 :: (.int xx7_2 :: (.int xx7_3 :: ([])))))))))))) = ((N + cntL xs0) + cntL xs5) := by simp only [cnt0L_app, cnt0L, Dt.cnt0]; omega
  have hm : mk0L (.sl xs0 :: (.int xx1_0 :: (.int xx1_1 :: (.int xx1_2 :: (.int xx1_3 :: (.sl xs5 :: (.int xx6_0 :: (.int xx7_0 :: (.int xx7_1 :: (.int xx7_2 :: (.int xx7_3 :: ([])))))))))))) N = .sl (mkL xs0 N) :: (.int xx1_0 :: (.int xx1_1 :: (.int xx1_2 :: (.int xx1_3 :: (.sl (mkL xs5 (N + cntL xs0)) :: (.int xx6_0 :: (.int xx7_0 :: (.int xx7_1 :: (.int xx7_2 :: (.int xx7_3 :: ([]))))))))))) := by simp only [mk0L_app, mk0L, Dt.mk0, cnt0L_app, cnt0L, Dt.cnt0, Nat.add_zero, Nat.add_assoc]
  obtain ⟨M1, hM1⟩ : ∃ M, N + cntL xs0 = M := ⟨_, rfl⟩
  simp only [hM1] at hc hm
  obtain ⟨M2, hM2⟩ : ∃ M, M1 + cntL xs5 = M := ⟨_, rfl⟩
  simp only [hM2] at hc hm
  rw [hc] at hN ⊢
  rw [hm] at h
  clear hc hm
  simp only [bulkL_app, bulkL, Dt.bulk] at hb
  obtain ⟨ya0, yc0, ya5, yc5, yF0, yF5, hA, rfl, oy0, oy5⟩ := inv_Graphics_ h
  simp only [mkL_length] at hA oy0 oy5
  have BA : Blk (w.alloc (.cells A 42)) w.heap.size A.toList := Blk.new w A 42 rfl
  have hW : Below w.heap.size w (w.alloc (.cells A 42)) := by go_grown
  rw [hA] at BA
  have HS := Lib.hid (And.intro ox0 ox5)
  have HO := Lib.hid (And.intro oy0 oy5)
  have HA0 := Lib.hid BA
  have HW0 := Lib.hid hW
  have ca0 : A[0]? = some (.slice ya0 xs0.length yc0) := by rw [← Array.getElem?_toList, hA]; rfl
  clear ox0 ox5 oy0 oy5 hA BA hW h hs
  go_enter Tryz.func46, Tryz.ntmps46
  go_wp2_with fail
  ((with_reducible refine (held_IntS _ N (by omega) (by omega) (by omega) (HS.out.1) ((HO.out.1).under HW0.out)).mono ?_); rintro e w1 ⟨rfl, b1⟩)
  rw [hM1]
  have HW1 := Lib.hid (on_of HW0.out b1)
  have HA1 := Lib.hid (HA0.out.keep b1)
  have g1 : ¬ (((M1 : Nat) : Int) < 0) := by omega
  clear b1 ca0
  have ca1 := HA1.out.1 1 (.int .i64 xx1_0) (by rfl)
  have ca2 := HA1.out.1 2 (.int .i64 xx1_1) (by rfl)
  have ca3 := HA1.out.1 3 (.int .i64 xx1_2) (by rfl)
  have ca4 := HA1.out.1 4 (.int .i64 xx1_3) (by rfl)
  have ca5 := HA1.out.1 5 (.slice ya5 xs5.length yc5) (by rfl)
  go_wp2_with fail
  ((with_reducible refine (held_PointS _ M1 (by omega) (by omega) (by omega) (HS.out.2) ((HO.out.2).under HW1.out)).mono ?_); rintro e w2 ⟨rfl, b2⟩)
  rw [hM2]
  have HW2 := Lib.hid (on_of HW1.out b2)
  have HA2 := Lib.hid (HA1.out.keep b2)
  have g2 : ¬ (((M2 : Nat) : Int) < 0) := by omega
  clear b2 ca1 ca2 ca3 ca4 ca5
  go_wp2
  go_ret
  exact ⟨rfl, HW2.out⟩
end Go.Proofs.YtjmfgbbngocodaaGreat.Own

namespace Go.Proofs.YtjmfgbbngocodaaGreat.Own
open Go.ChangeShapes Go.WideShapes Go.ChangeAt Go.RowKit
open Kit Slabs Ints
set_option linter.unusedVariables false
set_option linter.unusedSimpArgs false
set_option linter.unnecessarySimpa false
set_option maxRecDepth 100000
attribute [local go_sem ↓] hstore_Object
attribute [local go_sem ↓] hstore_Graphics
attribute [local go_sem ↓] hloadL_Graphics
attribute [local go_sem ↓] hloadL_Object
theorem info_Object : (Tryz.prog.info? 101).map (fun i => (i.zero, i.size, i.bytes)) = some (some (.agg #[.slice none 0 0, .int .i64 0, .int .i64 0, .int .i64 0, .int .i64 0, .int .i64 0]), 6, 64) := by kernel_rfl
set_option maxHeartbeats 4000000 in
theorem to_ObjectS (w : World) (a : Option Addr) (n c : Nat) (es : List Dt) (hb : n + bulkL es ≤ 1048576) (h : Came w (.sl KObject) [.slice a n c] (.sl es)) :
    Calls Tryz.prog 35 #[.slice a n c] w fun e w' => ∃ (a' : Option Addr) (c' : Nat) (fp : List Nat), e = .returned (.slice a' n c') ∧ Own w' (.sl KObject) [.slice a' n c'] (.sl es) fp ∧ fp.Nodup ∧ (∀ b ∈ fp, w.heap.size ≤ b) ∧ Below w.heap.size w w' := by
  obtain ⟨i0, hi0, hz0, hz1, hz2⟩ := info_parts info_Object
  have hmk : ∀ W : World, (Instr.makeSlice 44 (.int .i64 (n : Int)) (.int .i64 (n : Int))).run Tryz.prog W = .ok (.slice (some ⟨W.heap.size, 0, none⟩) n n) (W.alloc (.cells (madeCells (Value.agg #[.slice none 0 0, .int .i64 0, .int .i64 0, .int .i64 0, .int .i64 0, .int .i64 0]).cells (n * i0.size)) 101)) := fun W =>
    run_make_rowN 44 101 i0 _ Tryz.underlying44 hi0 hz0 .i64 .i64 n n (Nat.le_refl _) (by rw [hz2]; omega) (by omega) W
  obtain ⟨Z0, hZ0⟩ : ∃ Z0 : List Value, madeCells (Value.agg #[.slice none 0 0, .int .i64 0, .int .i64 0, .int .i64 0, .int .i64 0, .int .i64 0]).cells (n * i0.size) = Z0.toArray := ⟨(madeCells (Value.agg #[.slice none 0 0, .int .i64 0, .int .i64 0, .int .i64 0, .int .i64 0, .int .i64 0]).cells (n * i0.size)).toList, by simp⟩
  have hZl : Z0.length = n * 6 := by have := size_madeCells (Value.agg #[.slice none 0 0, .int .i64 0, .int .i64 0, .int .i64 0, .int .i64 0, .int .i64 0]).cells (n * i0.size); rw [hZ0, hz1] at this; simpa using this
  rw [hZ0] at hmk
  clear hZ0 hi0 hz0 hz1 hz2
  obtain ⟨hl, hr⟩ := h.row
  by_cases h0 : n = 0
  · subst h0
    have hes : es = [] := List.eq_nil_of_length_eq_zero hl
    subst hes
    simp only [Int.natCast_zero, Int.ofNat_zero, show ((0 : Nat) : Int) = 0 from rfl] at hmk
    clear h hr
    go_enter Tryz.func35, Tryz.ntmps35
    go_wp2
    go_rounds 1
    go_ret
    exact ⟨_, _, [], rfl, .nil _ _, List.nodup_nil, fun b hb => absurd hb List.not_mem_nil, by go_grown⟩
  · obtain ⟨g, o, rfl, hg⟩ := hr h0
    have H := Lib.hid (And.intro h (And.intro hl hb))
    have hn1 : n ≤ 1048576 := by omega
    have B0 := Lib.hid (show Blk (w.alloc (.cells Z0.toArray 101)) w.heap.size Z0 from by have := Blk.new w Z0.toArray 101 rfl; simpa using this)
    have HZl := Lib.hid hZl
    clear h hr hl hb hZl
    go_enter Tryz.func35, Tryz.ntmps35
    go_wp2
    go_loopw [4] (fun v4 wr => ∃ (k : Nat) (P1 Z : List Value) (f1 : List Nat), k ≤ n ∧ v4 = .int .i64 (k : Int) ∧ Blk wr w.heap.size (P1 ++ Z) ∧ P1.length = k * 6 ∧ Z.length = (n - k) * 6 ∧ OwnL wr (List.replicate k KObject) P1 (es.take k) f1 ∧ f1.Nodup ∧ (∀ b ∈ f1, w.heap.size + 1 ≤ b) ∧ Below w.heap.size w wr) (fun v4 _ => n - (intOf v4).toNat)
    case atStart => exact ⟨0, [], Z0, [], Nat.zero_le _, rfl, B0.out, by simp, by simpa using HZl.out, .nil, List.nodup_nil, fun b hb => absurd hb List.not_mem_nil, by go_grown⟩
    case round =>
      obtain ⟨k, P1, Z, f1, hk, rfl, hB, hP1, hZ, hO, hnd, hge, hbel⟩ := hrel
      by_cases hlt : k < n
      · have hke : k < es.length := by rw [H.out.2.1]; exact hlt
        obtain ⟨_, cs, ds, ed, od, ld, sd⟩ := H.out.1.elt hke
        have hbk := bulk_elt hke
        rw [ed] at hbk
        have hbk2 : bulkL ds ≤ 1048576 := by simp only [Dt.bulk] at hbk; have := H.out.2.2; omega
        have htk : es.take (k + 1) = es.take k ++ [.st ds] := by rw [List.take_succ_eq_append_getElem hke, ed]
        obtain ⟨C, hC⟩ : ∃ C, cs.toArray = C := ⟨_, rfl⟩
        have tC : C.toList = cs := by rw [← hC]
        have L1 := hload_run (P := Tryz.prog) (t := 97) Tryz.isAgg97 Tryz.sizeOf97 (w := wr) (b := g) (o := o + k * 6) (us := cs) (sd wr hbel) ld
        rw [hC] at L1
        rw [← tC] at od
        have HO := Lib.hid (od.on hbel)
        have hZm : 6 ≤ Z.length := by rw [hZ]; exact Nat.le_mul_of_pos_left _ (by omega)
        obtain ⟨Z1, Z2, rfl, hZ1⟩ : ∃ Z1 Z2, Z = Z1 ++ Z2 ∧ Z1.length = 6 := ⟨Z.take 6, Z.drop 6, (List.take_append_drop _ _).symm, by rw [List.length_take]; omega⟩
        clear hZm
        have hZ2 : Z2.length = (n - (k + 1)) * 6 := by
          have e : n - k = (n - (k + 1)) + 1 := by omega
          rw [List.length_append, hZ1, e, Nat.succ_mul] at hZ
          omega
        have i0 : (0 : Int) ≤ (k : Int) := by omega
        have i1 : (k : Int) < (n : Int) := by omega
        have hws := hbel.size
        have hGl := hB.2.2
        have HF := Lib.hid (And.intro hB (And.intro hO (And.intro hnd (And.intro hge (And.intro hP1 (And.intro hZ2 (And.intro htk hZ1)))))))
        clear od sd ed ld hke hC tC hbk hB hO hnd hge hP1 hZ hZ2 htk hZ1
        go_wp2_with fail
        ((with_reducible refine (to_Object _ hbk2 HO.out).mono ?_); rintro e w1 ⟨R, fq, rfl, oR, nR, gR, bb⟩)
        have hRl : R.toList.length = 6 := oR.len
        have hs2 := bb.size
        have B1 := HF.out.1.keep bb
        have st := hstore_run (P := Tryz.prog) (t := 101) Tryz.sizeOf101 (w := w1) (b := w.heap.size) (o := k * 6) (A := P1) (us := Z1) (R := Z2) (vs := R.toList) (by simpa using B1) HF.out.2.2.2.2.1 (by rw [hRl, HF.out.2.2.2.2.2.2.2]) hRl (fun v hv => oR.one v hv)
        have est : R.toList.toArray = R := by simp
        rw [est] at st
        have B2 : Blk (w1.setCells w.heap.size (k * 6) R.toList) w.heap.size ((P1 ++ R.toList) ++ Z2) := by have := Blk.sets (P := P1) (us := Z1) (vs := R.toList) (R := Z2) (w := w1) (b := w.heap.size) (o := k * 6) (by simpa using B1) HF.out.2.2.2.2.1 (by rw [hRl, HF.out.2.2.2.2.2.2.2]); simpa using this
        have q1 : OwnL (w1.setCells w.heap.size (k * 6) R.toList) (List.replicate k KObject) P1 (es.take k) f1 := ownL_sets (HF.out.2.1.under bb) (fun x hx e => by have := HF.out.2.2.2.1 x hx; omega) _ _
        have q2 : OwnL (w1.setCells w.heap.size (k * 6) R.toList) LObject R.toList ds fq := ownL_sets oR (fun x hx e => by have := gR x hx; omega) _ _
        have q3 : OwnL (w1.setCells w.heap.size (k * 6) R.toList) (List.replicate (k + 1) KObject) (P1 ++ R.toList) (es.take (k + 1)) (f1 ++ fq) := by rw [List.replicate_succ', HF.out.2.2.2.2.2.2.1]; exact q1.snoc (.st q2)
        have q4 : (f1 ++ fq).Nodup := List.nodup_append.2 ⟨HF.out.2.2.1, nR, fun x hx y hy e => by have := HF.out.2.1.lt x hx; have := gR y hy; omega⟩
        have q5 : ∀ b ∈ f1 ++ fq, w.heap.size + 1 ≤ b := fun b hx => (List.mem_append.1 hx).elim (fun h => HF.out.2.2.2.1 b h) (fun h => by have := gR b h; omega)
        have q6 : Below w.heap.size w (w1.setCells w.heap.size (k * 6) R.toList) := Below.setCells (Nat.le_refl _) R.toList (k * 6) (on_of hbel bb)
        have q7 : (P1 ++ R.toList).length = (k + 1) * 6 := by rw [List.length_append, HF.out.2.2.2.2.1, hRl, Nat.succ_mul]
        have HE := Lib.hid (And.intro B2 (And.intro q3 (And.intro q4 (And.intro q5 (And.intro q6 q7)))))
        clear B2 q1 q2 q3 q4 q5 q6 q7 oR B1 est hRl nR gR bb
        go_wp2
        go_roundw
        case rel => exact ⟨k + 1, P1 ++ R.toList, Z2, f1 ++ fq, by omega, by go_num, HE.out.1, HE.out.2.2.2.2.2, HF.out.2.2.2.2.2.1, HE.out.2.1, HE.out.2.2.1, HE.out.2.2.2.1, HE.out.2.2.2.2.1⟩
        case measure => simp [intOf]; omega
      · obtain rfl : k = n := by omega
        have hZe : Z = [] := List.eq_nil_of_length_eq_zero (by rw [hZ]; simp)
        subst hZe
        rw [List.append_nil] at hB
        have hes : es.take k = es := by rw [← H.out.2.1, List.take_length]
        rw [hes] at hO
        have x1 : (w.heap.size :: f1).Nodup := List.nodup_cons.2 ⟨fun (hm : w.heap.size ∈ f1) => by have := hge _ hm; omega, hnd⟩
        have x2 : ∀ b ∈ w.heap.size :: f1, w.heap.size ≤ b := fun b hm => by
          rcases List.mem_cons.1 hm with e | h
          · omega
          · have := hge b h; omega
        have HE := Lib.hid (And.intro (own_sl (n := k) (cap := k) hB hO (fun q hq => (List.mem_replicate.1 hq).2) H.out.2.1 h0 (Nat.le_refl _)) (And.intro x1 (And.intro x2 hbel)))
        clear x1 x2
        clear hB hO hnd hge hbel hes
        go_wp2
        go_ret
        exact ⟨_, _, _, rfl, HE.out.1, HE.out.2.1, HE.out.2.2.1, HE.out.2.2.2⟩
theorem info_Graphics : (Tryz.prog.info? 42).map (fun i => (i.zero, i.size, i.bytes)) = some (some (.agg #[.slice none 0 0, .int .i64 0, .int .i64 0, .int .i64 0, .int .i64 0, .slice none 0 0, .int .i64 0, .int .i64 0, .int .i64 0, .int .i64 0, .int .i64 0]), 11, 120) := by kernel_rfl
set_option maxHeartbeats 4000000 in
theorem to_GraphicsS (w : World) (a : Option Addr) (n c : Nat) (es : List Dt) (hb : n + bulkL es ≤ 1048576) (h : Came w (.sl KGraphics) [.slice a n c] (.sl es)) :
    Calls Tryz.prog 34 #[.slice a n c] w fun e w' => ∃ (a' : Option Addr) (c' : Nat) (fp : List Nat), e = .returned (.slice a' n c') ∧ Own w' (.sl KGraphics) [.slice a' n c'] (.sl es) fp ∧ fp.Nodup ∧ (∀ b ∈ fp, w.heap.size ≤ b) ∧ Below w.heap.size w w' := by
  obtain ⟨i0, hi0, hz0, hz1, hz2⟩ := info_parts info_Graphics
  have hmk : ∀ W : World, (Instr.makeSlice 43 (.int .i64 (n : Int)) (.int .i64 (n : Int))).run Tryz.prog W = .ok (.slice (some ⟨W.heap.size, 0, none⟩) n n) (W.alloc (.cells (madeCells (Value.agg #[.slice none 0 0, .int .i64 0, .int .i64 0, .int .i64 0, .int .i64 0, .slice none 0 0, .int .i64 0, .int .i64 0, .int .i64 0, .int .i64 0, .int .i64 0]).cells (n * i0.size)) 42)) := fun W =>
    run_make_rowN 43 42 i0 _ Tryz.underlying43 hi0 hz0 .i64 .i64 n n (Nat.le_refl _) (by rw [hz2]; omega) (by omega) W
  obtain ⟨Z0, hZ0⟩ : ∃ Z0 : List Value, madeCells (Value.agg #[.slice none 0 0, .int .i64 0, .int .i64 0, .int .i64 0, .int .i64 0, .slice none 0 0, .int .i64 0, .int .i64 0, .int .i64 0, .int .i64 0, .int .i64 0]).cells (n * i0.size) = Z0.toArray := ⟨(madeCells (Value.agg #[.slice none 0 0, .int .i64 0, .int .i64 0, .int .i64 0, .int .i64 0, .slice none 0 0, .int .i64 0, .int .i64 0, .int .i64 0, .int .i64 0, .int .i64 0]).cells (n * i0.size)).toList, by simp⟩
  have hZl : Z0.length = n * 11 := by have := size_madeCells (Value.agg #[.slice none 0 0, .int .i64 0, .int .i64 0, .int .i64 0, .int .i64 0, .slice none 0 0, .int .i64 0, .int .i64 0, .int .i64 0, .int .i64 0, .int .i64 0]).cells (n * i0.size); rw [hZ0, hz1] at this; simpa using this
  rw [hZ0] at hmk
  clear hZ0 hi0 hz0 hz1 hz2
  obtain ⟨hl, hr⟩ := h.row
  by_cases h0 : n = 0
  · subst h0
    have hes : es = [] := List.eq_nil_of_length_eq_zero hl
    subst hes
    simp only [Int.natCast_zero, Int.ofNat_zero, show ((0 : Nat) : Int) = 0 from rfl] at hmk
    clear h hr
    go_enter Tryz.func34, Tryz.ntmps34
    go_wp2
    go_rounds 1
    go_ret
    exact ⟨_, _, [], rfl, .nil _ _, List.nodup_nil, fun b hb => absurd hb List.not_mem_nil, by go_grown⟩
  · obtain ⟨g, o, rfl, hg⟩ := hr h0
    have H := Lib.hid (And.intro h (And.intro hl hb))
    have hn1 : n ≤ 1048576 := by omega
    have B0 := Lib.hid (show Blk (w.alloc (.cells Z0.toArray 42)) w.heap.size Z0 from by have := Blk.new w Z0.toArray 42 rfl; simpa using this)
    have HZl := Lib.hid hZl
    clear h hr hl hb hZl
    go_enter Tryz.func34, Tryz.ntmps34
    go_wp2
    go_loopw [4] (fun v4 wr => ∃ (k : Nat) (P1 Z : List Value) (f1 : List Nat), k ≤ n ∧ v4 = .int .i64 (k : Int) ∧ Blk wr w.heap.size (P1 ++ Z) ∧ P1.length = k * 11 ∧ Z.length = (n - k) * 11 ∧ OwnL wr (List.replicate k KGraphics) P1 (es.take k) f1 ∧ f1.Nodup ∧ (∀ b ∈ f1, w.heap.size + 1 ≤ b) ∧ Below w.heap.size w wr) (fun v4 _ => n - (intOf v4).toNat)
    case atStart => exact ⟨0, [], Z0, [], Nat.zero_le _, rfl, B0.out, by simp, by simpa using HZl.out, .nil, List.nodup_nil, fun b hb => absurd hb List.not_mem_nil, by go_grown⟩
    case round =>
      obtain ⟨k, P1, Z, f1, hk, rfl, hB, hP1, hZ, hO, hnd, hge, hbel⟩ := hrel
      by_cases hlt : k < n
      · have hke : k < es.length := by rw [H.out.2.1]; exact hlt
        obtain ⟨_, cs, ds, ed, od, ld, sd⟩ := H.out.1.elt hke
        have hbk := bulk_elt hke
        rw [ed] at hbk
        have hbk2 : bulkL ds ≤ 1048576 := by simp only [Dt.bulk] at hbk; have := H.out.2.2; omega
        have htk : es.take (k + 1) = es.take k ++ [.st ds] := by rw [List.take_succ_eq_append_getElem hke, ed]
        obtain ⟨C, hC⟩ : ∃ C, cs.toArray = C := ⟨_, rfl⟩
        have tC : C.toList = cs := by rw [← hC]
        have L1 := hload_run (P := Tryz.prog) (t := 29) Tryz.isAgg29 Tryz.sizeOf29 (w := wr) (b := g) (o := o + k * 11) (us := cs) (sd wr hbel) ld
        rw [hC] at L1
        rw [← tC] at od
        have HO := Lib.hid (od.on hbel)
        have hZm : 11 ≤ Z.length := by rw [hZ]; exact Nat.le_mul_of_pos_left _ (by omega)
        obtain ⟨Z1, Z2, rfl, hZ1⟩ : ∃ Z1 Z2, Z = Z1 ++ Z2 ∧ Z1.length = 11 := ⟨Z.take 11, Z.drop 11, (List.take_append_drop _ _).symm, by rw [List.length_take]; omega⟩
        clear hZm
        have hZ2 : Z2.length = (n - (k + 1)) * 11 := by
          have e : n - k = (n - (k + 1)) + 1 := by omega
          rw [List.length_append, hZ1, e, Nat.succ_mul] at hZ
          omega
        have i0 : (0 : Int) ≤ (k : Int) := by omega
        have i1 : (k : Int) < (n : Int) := by omega
        have hws := hbel.size
        have hGl := hB.2.2
        have HF := Lib.hid (And.intro hB (And.intro hO (And.intro hnd (And.intro hge (And.intro hP1 (And.intro hZ2 (And.intro htk hZ1)))))))
        clear od sd ed ld hke hC tC hbk hB hO hnd hge hP1 hZ hZ2 htk hZ1
        go_wp2_with fail
        ((with_reducible refine (to_Graphics _ hbk2 HO.out).mono ?_); rintro e w1 ⟨R, fq, rfl, oR, nR, gR, bb⟩)
        have hRl : R.toList.length = 11 := oR.len
        have hs2 := bb.size
        have B1 := HF.out.1.keep bb
        have st := hstore_run (P := Tryz.prog) (t := 42) Tryz.sizeOf42 (w := w1) (b := w.heap.size) (o := k * 11) (A := P1) (us := Z1) (R := Z2) (vs := R.toList) (by simpa using B1) HF.out.2.2.2.2.1 (by rw [hRl, HF.out.2.2.2.2.2.2.2]) hRl (fun v hv => oR.one v hv)
        have est : R.toList.toArray = R := by simp
        rw [est] at st
        have B2 : Blk (w1.setCells w.heap.size (k * 11) R.toList) w.heap.size ((P1 ++ R.toList) ++ Z2) := by have := Blk.sets (P := P1) (us := Z1) (vs := R.toList) (R := Z2) (w := w1) (b := w.heap.size) (o := k * 11) (by simpa using B1) HF.out.2.2.2.2.1 (by rw [hRl, HF.out.2.2.2.2.2.2.2]); simpa using this
        have q1 : OwnL (w1.setCells w.heap.size (k * 11) R.toList) (List.replicate k KGraphics) P1 (es.take k) f1 := ownL_sets (HF.out.2.1.under bb) (fun x hx e => by have := HF.out.2.2.2.1 x hx; omega) _ _
        have q2 : OwnL (w1.setCells w.heap.size (k * 11) R.toList) LGraphics R.toList ds fq := ownL_sets oR (fun x hx e => by have := gR x hx; omega) _ _
        have q3 : OwnL (w1.setCells w.heap.size (k * 11) R.toList) (List.replicate (k + 1) KGraphics) (P1 ++ R.toList) (es.take (k + 1)) (f1 ++ fq) := by rw [List.replicate_succ', HF.out.2.2.2.2.2.2.1]; exact q1.snoc (.st q2)
        have q4 : (f1 ++ fq).Nodup := List.nodup_append.2 ⟨HF.out.2.2.1, nR, fun x hx y hy e => by have := HF.out.2.1.lt x hx; have := gR y hy; omega⟩
        have q5 : ∀ b ∈ f1 ++ fq, w.heap.size + 1 ≤ b := fun b hx => (List.mem_append.1 hx).elim (fun h => HF.out.2.2.2.1 b h) (fun h => by have := gR b h; omega)
        have q6 : Below w.heap.size w (w1.setCells w.heap.size (k * 11) R.toList) := Below.setCells (Nat.le_refl _) R.toList (k * 11) (on_of hbel bb)
        have q7 : (P1 ++ R.toList).length = (k + 1) * 11 := by rw [List.length_append, HF.out.2.2.2.2.1, hRl, Nat.succ_mul]
        have HE := Lib.hid (And.intro B2 (And.intro q3 (And.intro q4 (And.intro q5 (And.intro q6 q7)))))
        clear B2 q1 q2 q3 q4 q5 q6 q7 oR B1 est hRl nR gR bb
        go_wp2
        go_roundw
        case rel => exact ⟨k + 1, P1 ++ R.toList, Z2, f1 ++ fq, by omega, by go_num, HE.out.1, HE.out.2.2.2.2.2, HF.out.2.2.2.2.2.1, HE.out.2.1, HE.out.2.2.1, HE.out.2.2.2.1, HE.out.2.2.2.2.1⟩
        case measure => simp [intOf]; omega
      · obtain rfl : k = n := by omega
        have hZe : Z = [] := List.eq_nil_of_length_eq_zero (by rw [hZ]; simp)
        subst hZe
        rw [List.append_nil] at hB
        have hes : es.take k = es := by rw [← H.out.2.1, List.take_length]
        rw [hes] at hO
        have x1 : (w.heap.size :: f1).Nodup := List.nodup_cons.2 ⟨fun (hm : w.heap.size ∈ f1) => by have := hge _ hm; omega, hnd⟩
        have x2 : ∀ b ∈ w.heap.size :: f1, w.heap.size ≤ b := fun b hm => by
          rcases List.mem_cons.1 hm with e | h
          · omega
          · have := hge b h; omega
        have HE := Lib.hid (And.intro (own_sl (n := k) (cap := k) hB hO (fun q hq => (List.mem_replicate.1 hq).2) H.out.2.1 h0 (Nat.le_refl _)) (And.intro x1 (And.intro x2 hbel)))
        clear x1 x2
        clear hB hO hnd hge hbel hes
        go_wp2
        go_ret
        exact ⟨_, _, _, rfl, HE.out.1, HE.out.2.1, HE.out.2.2.1, HE.out.2.2.2⟩
end Go.Proofs.YtjmfgbbngocodaaGreat.Own

namespace Go.Proofs.YtjmfgbbngocodaaGreat.Own
open Go.ChangeShapes Go.WideShapes Go.ChangeAt Go.RowKit
open Kit Slabs Ints Stack Point Turn Join Pts Box Push Take Opn SOp
set_option linter.unusedVariables false
set_option linter.unusedSimpArgs false
set_option linter.unnecessarySimpa false
set_option maxRecDepth 100000
attribute [local go_sem ↓] hload_Graphics hload_Object hstore_Graphics hstore_Object hload_Page hstore_Page
theorem PgFl.clipG {w w' : World} {B X : Nat} {p : Pg} {a0 : Option Addr} {c0 : Nat} {f0 : List Nat} {a5 : Option Addr} {c5 : Nat} {P5 : List Value} {a11 : Option Addr} {c11 : Nat} {P11 : List Value} {f11 : List Nat} {a12 : Option Addr} {c12 : Nat} {P12 : List Value} {f12 : List Nat}
    (h : PgFl w B X p a0 c0 f0 a5 c5 P5 a11 c11 P11 f11 a12 c12 P12 f12) (hb : Below w.heap.size w w') (hB : B ≤ w.heap.size) (hX : B ≤ X) (x0 y0 x1 y1 : Int) (v5 : Option Addr) (k5 : Nat) :
    OpRes B X (some { p with now := { p.now with path := [], x0 := x0, y0 := y0, x1 := x1, y1 := y1 } }) w (.returned (.bool true)) ((w'.setCells X 7 [.int .i64 x0, .int .i64 y0, .int .i64 x1, .int .i64 y1]).setCell ⟨X, 5, none⟩ (.slice v5 0 k5)) := by
  have hXl := h.blk.2.2
  obtain ⟨nX, nX5, _⟩ := h.apart
  have BX := Blk.put (o := 5) (P := [_, _, _, _, _]) (Blk.sets (P := [_, _, _, _, _, _, _]) (us := [_, _, _, _]) (vs := [.int .i64 x0, .int .i64 y0, .int .i64 x1, .int .i64 y1]) (h.blk.keep hb) rfl rfl) rfl (.slice v5 0 k5)
  have tt : Turns w' ((w'.setCells X 7 [.int .i64 x0, .int .i64 y0, .int .i64 x1, .int .i64 y1]).setCell ⟨X, 5, none⟩ (.slice v5 0 k5)) (fun b => b = X) := turns_set (S := fun b => b = X) (turns_sets (S := fun b => b = X) X rfl _ _ _) rfl _ _
  generalize (w'.setCells X 7 [.int .i64 x0, .int .i64 y0, .int .i64 x1, .int .i64 y1]).setCell ⟨X, 5, none⟩ (.slice v5 0 k5) = V at *
  have zb := hb.size
  refine ⟨rfl, (hb.mono hB).trans (tt.below (by omega) (fun k e => e ▸ hX)), fun P' hP => ?_⟩
  injection hP with hP
  subst hP
  refine h.close (by have := tt.size; omega) (fun b hb' => ?_) (g := { p.now with path := [], x0 := x0, y0 := y0, x1 := x1, y1 := y1 }) rfl (a5' := v5) (c5' := k5) BX (.nil v5 k5) List.nodup_nil hXl hB (fun b hb => absurd hb List.not_mem_nil)
  have lb := h.lt b hb'
  rw [tt.block b (by omega) (fun (e : b = X) => nX (e ▸ hb'))]
  exact hb.block b lb
set_option maxHeartbeats 4000000 in
theorem sp_clip {w : World} {B X : Nat} {P : Pg} (h : PgAt w B X P) (hB : B ≤ w.heap.size) (hX : B ≤ X) (hl : P.now.path.length ≤ 8) (s : ByteArray) (hk : opN s = some 6) (u : Value) :
    Calls Tryz.prog 31 #[.pointer (some ⟨X, 0, none⟩), .string s, u] w (OpRes B X (if P.now.path.length = 0 then none else some (cliM P)) w) := by
  obtain ⟨a0, c0, f0, a5, c5, P5, a11, c11, P11, f11, a12, c12, P12, f12, h⟩ := h.flat
  obtain ⟨q0, q1, q2, q3, q4, q5, q6, q7, q8, q9, q10, q11⟩ := nm12 hk
  have hXl := h.blk.2.2
  obtain ⟨n, hN⟩ : ∃ n, P.now.path.length = n := ⟨_, rfl⟩
  have k5 := h.blk.1 5 _ rfl
  rw [hN] at k5 hl ⊢
  by_cases h0 : n = 0
  · subst h0
    have HN : Hid (OpRes B X none w (.returned (.bool false)) w) := Lib.hid ⟨rfl, (Below.refl _ _).mono hB, fun P' hP => by cases hP⟩
    clear h hk hN
    go_enter Tryz.func31, Tryz.ntmps31
    go_wp2
    go_ret
    exact HN.out
  · rw [if_neg h0]
    obtain ⟨_, hp⟩ := path_of (row_own2 h.r5 (h.o5 w))
    have hp : ∃ g, a5 = some ⟨g, 0, none⟩ ∧ g < w.heap.size ∧ PtsAt w g n (pX P.now.path) (pY P.now.path) := by
      rcases hp with hp | ⟨g, e, hg, hp⟩
      · exact absurd (by rw [← hN, hp]; rfl) h0
      · exact ⟨g, e, hg, fun i hi => hp i (by rw [hN]; exact hi)⟩
    obtain ⟨g, rfl, hg, hp⟩ := hp
    obtain ⟨m0, hm0⟩ : ∃ x, sel (clB P.now) (mx P.now.x0 (bx0 P.now.path)) = x := ⟨_, rfl⟩
    obtain ⟨m1, hm1⟩ : ∃ x, sel (clB P.now) (mx P.now.y0 (bx1 P.now.path)) = x := ⟨_, rfl⟩
    obtain ⟨m2, hm2⟩ : ∃ x, sel (clB P.now) (mn P.now.x1 (bx2 P.now.path)) = x := ⟨_, rfl⟩
    obtain ⟨m3, hm3⟩ : ∃ x, sel (clB P.now) (mn P.now.y1 (bx3 P.now.path)) = x := ⟨_, rfl⟩
    have hM : ∀ w : World, Calls Tryz.prog 67 #[.agg #[.int .i64 P.now.x0, .int .i64 P.now.y0, .int .i64 P.now.x1, .int .i64 P.now.y1], .agg #[.int .i64 (bx0 P.now.path), .int .i64 (bx1 P.now.path), .int .i64 (bx2 P.now.path), .int .i64 (bx3 P.now.path)]] w fun e w' => e = .returned (.agg #[.int .i64 m0, .int .i64 m1, .int .i64 m2, .int .i64 m3]) ∧ Below w.heap.size w w' := fun w => by
      subst hm0 hm1 hm2 hm3
      exact meet_spec P.now.x0 P.now.y0 P.now.x1 P.now.y1 (bx0 P.now.path) (bx1 P.now.path) (bx2 P.now.path) (bx3 P.now.path) w
    have HF := Lib.hid (fun (W : World) (hb : Below w.heap.size w W) => (show OpRes B X (some (cliM P)) w (.returned (.bool true)) ((W.setCells X 7 [.int .i64 m0, .int .i64 m1, .int .i64 m2, .int .i64 m3]).setCell ⟨X, 5, none⟩ (.slice (some ⟨W.heap.size, 0, none⟩) 0 0)) from by
      have := h.clipG hb hB hX m0 m1 m2 m3 (some ⟨W.heap.size, 0, none⟩) 0
      subst hm0 hm1 hm2 hm3
      exact this))
    have hBx : Calls Tryz.prog 68 #[.slice (some ⟨g, 0, none⟩) n c5] w.drew fun e w' => e = .returned (.agg #[.int .i64 (bx0 P.now.path), .int .i64 (bx1 P.now.path), .int .i64 (bx2 P.now.path), .int .i64 (bx3 P.now.path)]) ∧ Below w.heap.size w w' := by
      refine (boxof_spec g n c5 (pX P.now.path) (pY P.now.path) w.drew (by omega) (by simpa using hg) hp).mono ?_
      rintro e w' ⟨rfl, hb⟩
      refine ⟨?_, on_of (show Below w.heap.size w w.drew from by go_grown) hb⟩
      simp only [boxofV, bx0, bx1, bx2, bx3, bxB, hN]
    obtain ⟨b0, hb0⟩ : ∃ x, bx0 P.now.path = x := ⟨_, rfl⟩
    obtain ⟨b1, hb1⟩ : ∃ x, bx1 P.now.path = x := ⟨_, rfl⟩
    obtain ⟨b2, hb2⟩ : ∃ x, bx2 P.now.path = x := ⟨_, rfl⟩
    obtain ⟨b3, hb3⟩ : ∃ x, bx3 P.now.path = x := ⟨_, rfl⟩
    rw [hb0, hb1, hb2, hb3] at hBx
    simp only [hb0, hb1, hb2, hb3] at hM
    have HM := Lib.hid hM
    have HBx := Lib.hid hBx
    have n0 : ((n : Int) == 0) = false := by simp; omega
    have HK := Lib.hid (fun (W : World) (hb : Below w.heap.size w W) => (show (W.cell? ⟨X, 7, none⟩ = some (.int .i64 P.now.x0) ∧ W.cell? ⟨X, 8, none⟩ = some (.int .i64 P.now.y0) ∧ W.cell? ⟨X, 9, none⟩ = some (.int .i64 P.now.x1) ∧ W.cell? ⟨X, 10, none⟩ = some (.int .i64 P.now.y1)) ∧ W.cell? ⟨X, 5, none⟩ = some (.slice (some ⟨g, 0, none⟩) n c5) ∧ (∀ o, W.frozen? ⟨X, o, none⟩ = false) from by
      have k := h.blk.keep hb
      rw [← hN]
      exact ⟨⟨k.1 7 _ rfl, k.1 8 _ rfl, k.1 9 _ rfl, k.1 10 _ rfl⟩, k.1 5 _ rfl, k.2.1⟩))
    obtain ⟨⟨k7, k8, k9, k10⟩, _, fz⟩ := HK.out w (Below.refl _ _)
    clear h hk hN h0 hp hM hBx hm0 hm1 hm2 hm3 hb0 hb1 hb2 hb3
    go_enter Tryz.func31, Tryz.ntmps31
    go_upto_region 28 with (fail)
    go_region_law (first
      | (go_simp; go_at_call 68; (with_reducible refine (HBx.out).mono ?_); rintro e w5 ⟨rfl, b5⟩; have H5 := Lib.hid b5; obtain ⟨⟨j7, j8, j9, j10⟩, j5, fj⟩ := HK.out w5 b5; clear b5)
      | (go_simp; go_at_call 67; (with_reducible refine (HM.out _).mono ?_); rintro e w6 ⟨rfl, b6⟩; have b6 := on_of H5.out b6; have H6 := Lib.hid b6; obtain ⟨⟨i7, i8, i9, i10⟩, i5, fi⟩ := HK.out w6 b6; have lX := (show X < w6.heap.size from by have := b6.size; omega); clear b6))
    all_goals
      go_wp2
      go_ret
      exact (HF.out _ H6.out).alloc (by have := H6.out.size; have e := (turns_sets (S := fun b => b = X) X rfl [.int .i64 m0, .int .i64 m1, .int .i64 m2, .int .i64 m3] 7 w6).size; simp; omega) _
end Go.Proofs.YtjmfgbbngocodaaGreat.Own

