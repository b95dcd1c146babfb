/-
  Texts of this seat, laid together: ToB, SzB
-/
import Derived.WalkKit
import Derived.Deep.DeepCutAuto
import Derived.Deep.QuietTactic
import Derived.BigQuiet
import Derived.Deep.RegionHeld3
import Derived.Handy
import Derived.Test.YtaapofbccanjhaaGreatZ11
import Derived.Test.YtaapofbccanjhaaGreatZ14
namespace Go.Proofs.YtaapofbccanjhaaGreat.Own
open Go.ChangeShapes Go.WideShapes Go.ChangeAt Go.RowKit
open Kit Slabs Ints
set_option linter.unusedVariables false
set_option linter.unusedSimpArgs false
set_option linter.unnecessarySimpa false
set_option maxRecDepth 100000
attribute [local go_sem ↓] hstore_Object
attribute [local go_sem ↓] hstore_Graphics
attribute [local go_sem ↓] hloadL_Graphics
attribute [local go_sem ↓] hloadL_Object
theorem info_Object : (Tryz.prog.info? 101).map (fun i => (i.zero, i.size, i.bytes)) = some (some (.agg #[.slice none 0 0, .int .i64 0, .int .i64 0, .int .i64 0, .int .i64 0, .int .i64 0]), 6, 64) := by kernel_rfl
set_option maxHeartbeats 4000000 in
theorem to_ObjectS (w : World) (a : Option Addr) (n c : Nat) (es : List Dt) (hb : n + bulkL es ≤ 1048576) (h : Came w (.sl KObject) [.slice a n c] (.sl es)) :
    Calls Tryz.prog 35 #[.slice a n c] w fun e w' => ∃ (a' : Option Addr) (c' : Nat) (fp : List Nat), e = .returned (.slice a' n c') ∧ Own w' (.sl KObject) [.slice a' n c'] (.sl es) fp ∧ fp.Nodup ∧ (∀ b ∈ fp, w.heap.size ≤ b) ∧ Below w.heap.size w w' := by
  obtain ⟨i0, hi0, hz0, hz1, hz2⟩ := info_parts info_Object
  have hmk : ∀ W : World, (Instr.makeSlice 44 (.int .i64 (n : Int)) (.int .i64 (n : Int))).run Tryz.prog W = .ok (.slice (some ⟨W.heap.size, 0, none⟩) n n) (W.alloc (.cells (madeCells (Value.agg #[.slice none 0 0, .int .i64 0, .int .i64 0, .int .i64 0, .int .i64 0, .int .i64 0]).cells (n * i0.size)) 101)) := fun W =>
    run_make_rowN 44 101 i0 _ Tryz.underlying44 hi0 hz0 .i64 .i64 n n (Nat.le_refl _) (by rw [hz2]; omega) (by omega) W
  obtain ⟨Z0, hZ0⟩ : ∃ Z0 : List Value, madeCells (Value.agg #[.slice none 0 0, .int .i64 0, .int .i64 0, .int .i64 0, .int .i64 0, .int .i64 0]).cells (n * i0.size) = Z0.toArray := ⟨(madeCells (Value.agg #[.slice none 0 0, .int .i64 0, .int .i64 0, .int .i64 0, .int .i64 0, .int .i64 0]).cells (n * i0.size)).toList, by simp⟩
  have hZl : Z0.length = n * 6 := by have := size_madeCells (Value.agg #[.slice none 0 0, .int .i64 0, .int .i64 0, .int .i64 0, .int .i64 0, .int .i64 0]).cells (n * i0.size); rw [hZ0, hz1] at this; simpa using this
  rw [hZ0] at hmk
  clear hZ0 hi0 hz0 hz1 hz2
  obtain ⟨hl, hr⟩ := h.row
  by_cases h0 : n = 0
  · subst h0
    have hes : es = [] := List.eq_nil_of_length_eq_zero hl
    subst hes
    simp only [Int.natCast_zero, Int.ofNat_zero, show ((0 : Nat) : Int) = 0 from rfl] at hmk
    clear h hr
    go_enter Tryz.func35, Tryz.ntmps35
    go_wp2
    go_rounds 1
    go_ret
    exact ⟨_, _, [], rfl, .nil _ _, List.nodup_nil, fun b hb => absurd hb List.not_mem_nil, by go_grown⟩
  · obtain ⟨g, o, rfl, hg⟩ := hr h0
    have H := Lib.hid (And.intro h (And.intro hl hb))
    have hn1 : n ≤ 1048576 := by omega
    have B0 := Lib.hid (show Blk (w.alloc (.cells Z0.toArray 101)) w.heap.size Z0 from by have := Blk.new w Z0.toArray 101 rfl; simpa using this)
    have HZl := Lib.hid hZl
    clear h hr hl hb hZl
    go_enter Tryz.func35, Tryz.ntmps35
    go_wp2
    go_loopw [4] (fun v4 wr => ∃ (k : Nat) (P1 Z : List Value) (f1 : List Nat), k ≤ n ∧ v4 = .int .i64 (k : Int) ∧ Blk wr w.heap.size (P1 ++ Z) ∧ P1.length = k * 6 ∧ Z.length = (n - k) * 6 ∧ OwnL wr (List.replicate k KObject) P1 (es.take k) f1 ∧ f1.Nodup ∧ (∀ b ∈ f1, w.heap.size + 1 ≤ b) ∧ Below w.heap.size w wr) (fun v4 _ => n - (intOf v4).toNat)
    case atStart => exact ⟨0, [], Z0, [], Nat.zero_le _, rfl, B0.out, by simp, by simpa using HZl.out, .nil, List.nodup_nil, fun b hb => absurd hb List.not_mem_nil, by go_grown⟩
    case round =>
      obtain ⟨k, P1, Z, f1, hk, rfl, hB, hP1, hZ, hO, hnd, hge, hbel⟩ := hrel
      by_cases hlt : k < n
      · have hke : k < es.length := by rw [H.out.2.1]; exact hlt
        obtain ⟨_, cs, ds, ed, od, ld, sd⟩ := H.out.1.elt hke
        have hbk := bulk_elt hke
        rw [ed] at hbk
        have hbk2 : bulkL ds ≤ 1048576 := by simp only [Dt.bulk] at hbk; have := H.out.2.2; omega
        have htk : es.take (k + 1) = es.take k ++ [.st ds] := by rw [List.take_succ_eq_append_getElem hke, ed]
        obtain ⟨C, hC⟩ : ∃ C, cs.toArray = C := ⟨_, rfl⟩
        have tC : C.toList = cs := by rw [← hC]
        have L1 := hload_run (P := Tryz.prog) (t := 97) Tryz.isAgg97 Tryz.sizeOf97 (w := wr) (b := g) (o := o + k * 6) (us := cs) (sd wr hbel) ld
        rw [hC] at L1
        rw [← tC] at od
        have HO := Lib.hid (od.on hbel)
        have hZm : 6 ≤ Z.length := by rw [hZ]; exact Nat.le_mul_of_pos_left _ (by omega)
        obtain ⟨Z1, Z2, rfl, hZ1⟩ : ∃ Z1 Z2, Z = Z1 ++ Z2 ∧ Z1.length = 6 := ⟨Z.take 6, Z.drop 6, (List.take_append_drop _ _).symm, by rw [List.length_take]; omega⟩
        clear hZm
        have hZ2 : Z2.length = (n - (k + 1)) * 6 := by
          have e : n - k = (n - (k + 1)) + 1 := by omega
          rw [List.length_append, hZ1, e, Nat.succ_mul] at hZ
          omega
        have i0 : (0 : Int) ≤ (k : Int) := by omega
        have i1 : (k : Int) < (n : Int) := by omega
        have hws := hbel.size
        have hGl := hB.2.2
        have HF := Lib.hid (And.intro hB (And.intro hO (And.intro hnd (And.intro hge (And.intro hP1 (And.intro hZ2 (And.intro htk hZ1)))))))
        clear od sd ed ld hke hC tC hbk hB hO hnd hge hP1 hZ hZ2 htk hZ1
        go_wp2_with fail
        ((with_reducible refine (to_Object _ hbk2 HO.out).mono ?_); rintro e w1 ⟨R, fq, rfl, oR, nR, gR, bb⟩)
        have hRl : R.toList.length = 6 := oR.len
        have hs2 := bb.size
        have B1 := HF.out.1.keep bb
        have st := hstore_run (P := Tryz.prog) (t := 101) Tryz.sizeOf101 (w := w1) (b := w.heap.size) (o := k * 6) (A := P1) (us := Z1) (R := Z2) (vs := R.toList) (by simpa using B1) HF.out.2.2.2.2.1 (by rw [hRl, HF.out.2.2.2.2.2.2.2]) hRl (fun v hv => oR.one v hv)
        have est : R.toList.toArray = R := by simp
        rw [est] at st
        have B2 : Blk (w1.setCells w.heap.size (k * 6) R.toList) w.heap.size ((P1 ++ R.toList) ++ Z2) := by have := Blk.sets (P := P1) (us := Z1) (vs := R.toList) (R := Z2) (w := w1) (b := w.heap.size) (o := k * 6) (by simpa using B1) HF.out.2.2.2.2.1 (by rw [hRl, HF.out.2.2.2.2.2.2.2]); simpa using this
        have q1 : OwnL (w1.setCells w.heap.size (k * 6) R.toList) (List.replicate k KObject) P1 (es.take k) f1 := ownL_sets (HF.out.2.1.under bb) (fun x hx e => by have := HF.out.2.2.2.1 x hx; omega) _ _
        have q2 : OwnL (w1.setCells w.heap.size (k * 6) R.toList) LObject R.toList ds fq := ownL_sets oR (fun x hx e => by have := gR x hx; omega) _ _
        have q3 : OwnL (w1.setCells w.heap.size (k * 6) R.toList) (List.replicate (k + 1) KObject) (P1 ++ R.toList) (es.take (k + 1)) (f1 ++ fq) := by rw [List.replicate_succ', HF.out.2.2.2.2.2.2.1]; exact q1.snoc (.st q2)
        have q4 : (f1 ++ fq).Nodup := List.nodup_append.2 ⟨HF.out.2.2.1, nR, fun x hx y hy e => by have := HF.out.2.1.lt x hx; have := gR y hy; omega⟩
        have q5 : ∀ b ∈ f1 ++ fq, w.heap.size + 1 ≤ b := fun b hx => (List.mem_append.1 hx).elim (fun h => HF.out.2.2.2.1 b h) (fun h => by have := gR b h; omega)
        have q6 : Below w.heap.size w (w1.setCells w.heap.size (k * 6) R.toList) := Below.setCells (Nat.le_refl _) R.toList (k * 6) (on_of hbel bb)
        have q7 : (P1 ++ R.toList).length = (k + 1) * 6 := by rw [List.length_append, HF.out.2.2.2.2.1, hRl, Nat.succ_mul]
        have HE := Lib.hid (And.intro B2 (And.intro q3 (And.intro q4 (And.intro q5 (And.intro q6 q7)))))
        clear B2 q1 q2 q3 q4 q5 q6 q7 oR B1 est hRl nR gR bb
        go_wp2
        go_roundw
        case rel => exact ⟨k + 1, P1 ++ R.toList, Z2, f1 ++ fq, by omega, by go_num, HE.out.1, HE.out.2.2.2.2.2, HF.out.2.2.2.2.2.1, HE.out.2.1, HE.out.2.2.1, HE.out.2.2.2.1, HE.out.2.2.2.2.1⟩
        case measure => simp [intOf]; omega
      · obtain rfl : k = n := by omega
        have hZe : Z = [] := List.eq_nil_of_length_eq_zero (by rw [hZ]; simp)
        subst hZe
        rw [List.append_nil] at hB
        have hes : es.take k = es := by rw [← H.out.2.1, List.take_length]
        rw [hes] at hO
        have x1 : (w.heap.size :: f1).Nodup := List.nodup_cons.2 ⟨fun (hm : w.heap.size ∈ f1) => by have := hge _ hm; omega, hnd⟩
        have x2 : ∀ b ∈ w.heap.size :: f1, w.heap.size ≤ b := fun b hm => by
          rcases List.mem_cons.1 hm with e | h
          · omega
          · have := hge b h; omega
        have HE := Lib.hid (And.intro (own_sl (n := k) (cap := k) hB hO (fun q hq => (List.mem_replicate.1 hq).2) H.out.2.1 h0 (Nat.le_refl _)) (And.intro x1 (And.intro x2 hbel)))
        clear x1 x2
        clear hB hO hnd hge hbel hes
        go_wp2
        go_ret
        exact ⟨_, _, _, rfl, HE.out.1, HE.out.2.1, HE.out.2.2.1, HE.out.2.2.2⟩
theorem info_Graphics : (Tryz.prog.info? 42).map (fun i => (i.zero, i.size, i.bytes)) = some (some (.agg #[.slice none 0 0, .int .i64 0, .int .i64 0, .int .i64 0, .int .i64 0, .slice none 0 0, .int .i64 0, .int .i64 0, .int .i64 0, .int .i64 0, .int .i64 0]), 11, 120) := by kernel_rfl
set_option maxHeartbeats 4000000 in
theorem to_GraphicsS (w : World) (a : Option Addr) (n c : Nat) (es : List Dt) (hb : n + bulkL es ≤ 1048576) (h : Came w (.sl KGraphics) [.slice a n c] (.sl es)) :
    Calls Tryz.prog 34 #[.slice a n c] w fun e w' => ∃ (a' : Option Addr) (c' : Nat) (fp : List Nat), e = .returned (.slice a' n c') ∧ Own w' (.sl KGraphics) [.slice a' n c'] (.sl es) fp ∧ fp.Nodup ∧ (∀ b ∈ fp, w.heap.size ≤ b) ∧ Below w.heap.size w w' := by
  obtain ⟨i0, hi0, hz0, hz1, hz2⟩ := info_parts info_Graphics
  have hmk : ∀ W : World, (Instr.makeSlice 43 (.int .i64 (n : Int)) (.int .i64 (n : Int))).run Tryz.prog W = .ok (.slice (some ⟨W.heap.size, 0, none⟩) n n) (W.alloc (.cells (madeCells (Value.agg #[.slice none 0 0, .int .i64 0, .int .i64 0, .int .i64 0, .int .i64 0, .slice none 0 0, .int .i64 0, .int .i64 0, .int .i64 0, .int .i64 0, .int .i64 0]).cells (n * i0.size)) 42)) := fun W =>
    run_make_rowN 43 42 i0 _ Tryz.underlying43 hi0 hz0 .i64 .i64 n n (Nat.le_refl _) (by rw [hz2]; omega) (by omega) W
  obtain ⟨Z0, hZ0⟩ : ∃ Z0 : List Value, madeCells (Value.agg #[.slice none 0 0, .int .i64 0, .int .i64 0, .int .i64 0, .int .i64 0, .slice none 0 0, .int .i64 0, .int .i64 0, .int .i64 0, .int .i64 0, .int .i64 0]).cells (n * i0.size) = Z0.toArray := ⟨(madeCells (Value.agg #[.slice none 0 0, .int .i64 0, .int .i64 0, .int .i64 0, .int .i64 0, .slice none 0 0, .int .i64 0, .int .i64 0, .int .i64 0, .int .i64 0, .int .i64 0]).cells (n * i0.size)).toList, by simp⟩
  have hZl : Z0.length = n * 11 := by have := size_madeCells (Value.agg #[.slice none 0 0, .int .i64 0, .int .i64 0, .int .i64 0, .int .i64 0, .slice none 0 0, .int .i64 0, .int .i64 0, .int .i64 0, .int .i64 0, .int .i64 0]).cells (n * i0.size); rw [hZ0, hz1] at this; simpa using this
  rw [hZ0] at hmk
  clear hZ0 hi0 hz0 hz1 hz2
  obtain ⟨hl, hr⟩ := h.row
  by_cases h0 : n = 0
  · subst h0
    have hes : es = [] := List.eq_nil_of_length_eq_zero hl
    subst hes
    simp only [Int.natCast_zero, Int.ofNat_zero, show ((0 : Nat) : Int) = 0 from rfl] at hmk
    clear h hr
    go_enter Tryz.func34, Tryz.ntmps34
    go_wp2
    go_rounds 1
    go_ret
    exact ⟨_, _, [], rfl, .nil _ _, List.nodup_nil, fun b hb => absurd hb List.not_mem_nil, by go_grown⟩
  · obtain ⟨g, o, rfl, hg⟩ := hr h0
    have H := Lib.hid (And.intro h (And.intro hl hb))
    have hn1 : n ≤ 1048576 := by omega
    have B0 := Lib.hid (show Blk (w.alloc (.cells Z0.toArray 42)) w.heap.size Z0 from by have := Blk.new w Z0.toArray 42 rfl; simpa using this)
    have HZl := Lib.hid hZl
    clear h hr hl hb hZl
    go_enter Tryz.func34, Tryz.ntmps34
    go_wp2
    go_loopw [4] (fun v4 wr => ∃ (k : Nat) (P1 Z : List Value) (f1 : List Nat), k ≤ n ∧ v4 = .int .i64 (k : Int) ∧ Blk wr w.heap.size (P1 ++ Z) ∧ P1.length = k * 11 ∧ Z.length = (n - k) * 11 ∧ OwnL wr (List.replicate k KGraphics) P1 (es.take k) f1 ∧ f1.Nodup ∧ (∀ b ∈ f1, w.heap.size + 1 ≤ b) ∧ Below w.heap.size w wr) (fun v4 _ => n - (intOf v4).toNat)
    case atStart => exact ⟨0, [], Z0, [], Nat.zero_le _, rfl, B0.out, by simp, by simpa using HZl.out, .nil, List.nodup_nil, fun b hb => absurd hb List.not_mem_nil, by go_grown⟩
    case round =>
      obtain ⟨k, P1, Z, f1, hk, rfl, hB, hP1, hZ, hO, hnd, hge, hbel⟩ := hrel
      by_cases hlt : k < n
      · have hke : k < es.length := by rw [H.out.2.1]; exact hlt
        obtain ⟨_, cs, ds, ed, od, ld, sd⟩ := H.out.1.elt hke
        have hbk := bulk_elt hke
        rw [ed] at hbk
        have hbk2 : bulkL ds ≤ 1048576 := by simp only [Dt.bulk] at hbk; have := H.out.2.2; omega
        have htk : es.take (k + 1) = es.take k ++ [.st ds] := by rw [List.take_succ_eq_append_getElem hke, ed]
        obtain ⟨C, hC⟩ : ∃ C, cs.toArray = C := ⟨_, rfl⟩
        have tC : C.toList = cs := by rw [← hC]
        have L1 := hload_run (P := Tryz.prog) (t := 29) Tryz.isAgg29 Tryz.sizeOf29 (w := wr) (b := g) (o := o + k * 11) (us := cs) (sd wr hbel) ld
        rw [hC] at L1
        rw [← tC] at od
        have HO := Lib.hid (od.on hbel)
        have hZm : 11 ≤ Z.length := by rw [hZ]; exact Nat.le_mul_of_pos_left _ (by omega)
        obtain ⟨Z1, Z2, rfl, hZ1⟩ : ∃ Z1 Z2, Z = Z1 ++ Z2 ∧ Z1.length = 11 := ⟨Z.take 11, Z.drop 11, (List.take_append_drop _ _).symm, by rw [List.length_take]; omega⟩
        clear hZm
        have hZ2 : Z2.length = (n - (k + 1)) * 11 := by
          have e : n - k = (n - (k + 1)) + 1 := by omega
          rw [List.length_append, hZ1, e, Nat.succ_mul] at hZ
          omega
        have i0 : (0 : Int) ≤ (k : Int) := by omega
        have i1 : (k : Int) < (n : Int) := by omega
        have hws := hbel.size
        have hGl := hB.2.2
        have HF := Lib.hid (And.intro hB (And.intro hO (And.intro hnd (And.intro hge (And.intro hP1 (And.intro hZ2 (And.intro htk hZ1)))))))
        clear od sd ed ld hke hC tC hbk hB hO hnd hge hP1 hZ hZ2 htk hZ1
        go_wp2_with fail
        ((with_reducible refine (to_Graphics _ hbk2 HO.out).mono ?_); rintro e w1 ⟨R, fq, rfl, oR, nR, gR, bb⟩)
        have hRl : R.toList.length = 11 := oR.len
        have hs2 := bb.size
        have B1 := HF.out.1.keep bb
        have st := hstore_run (P := Tryz.prog) (t := 42) Tryz.sizeOf42 (w := w1) (b := w.heap.size) (o := k * 11) (A := P1) (us := Z1) (R := Z2) (vs := R.toList) (by simpa using B1) HF.out.2.2.2.2.1 (by rw [hRl, HF.out.2.2.2.2.2.2.2]) hRl (fun v hv => oR.one v hv)
        have est : R.toList.toArray = R := by simp
        rw [est] at st
        have B2 : Blk (w1.setCells w.heap.size (k * 11) R.toList) w.heap.size ((P1 ++ R.toList) ++ Z2) := by have := Blk.sets (P := P1) (us := Z1) (vs := R.toList) (R := Z2) (w := w1) (b := w.heap.size) (o := k * 11) (by simpa using B1) HF.out.2.2.2.2.1 (by rw [hRl, HF.out.2.2.2.2.2.2.2]); simpa using this
        have q1 : OwnL (w1.setCells w.heap.size (k * 11) R.toList) (List.replicate k KGraphics) P1 (es.take k) f1 := ownL_sets (HF.out.2.1.under bb) (fun x hx e => by have := HF.out.2.2.2.1 x hx; omega) _ _
        have q2 : OwnL (w1.setCells w.heap.size (k * 11) R.toList) LGraphics R.toList ds fq := ownL_sets oR (fun x hx e => by have := gR x hx; omega) _ _
        have q3 : OwnL (w1.setCells w.heap.size (k * 11) R.toList) (List.replicate (k + 1) KGraphics) (P1 ++ R.toList) (es.take (k + 1)) (f1 ++ fq) := by rw [List.replicate_succ', HF.out.2.2.2.2.2.2.1]; exact q1.snoc (.st q2)
        have q4 : (f1 ++ fq).Nodup := List.nodup_append.2 ⟨HF.out.2.2.1, nR, fun x hx y hy e => by have := HF.out.2.1.lt x hx; have := gR y hy; omega⟩
        have q5 : ∀ b ∈ f1 ++ fq, w.heap.size + 1 ≤ b := fun b hx => (List.mem_append.1 hx).elim (fun h => HF.out.2.2.2.1 b h) (fun h => by have := gR b h; omega)
        have q6 : Below w.heap.size w (w1.setCells w.heap.size (k * 11) R.toList) := Below.setCells (Nat.le_refl _) R.toList (k * 11) (on_of hbel bb)
        have q7 : (P1 ++ R.toList).length = (k + 1) * 11 := by rw [List.length_append, HF.out.2.2.2.2.1, hRl, Nat.succ_mul]
        have HE := Lib.hid (And.intro B2 (And.intro q3 (And.intro q4 (And.intro q5 (And.intro q6 q7)))))
        clear B2 q1 q2 q3 q4 q5 q6 q7 oR B1 est hRl nR gR bb
        go_wp2
        go_roundw
        case rel => exact ⟨k + 1, P1 ++ R.toList, Z2, f1 ++ fq, by omega, by go_num, HE.out.1, HE.out.2.2.2.2.2, HF.out.2.2.2.2.2.1, HE.out.2.1, HE.out.2.2.1, HE.out.2.2.2.1, HE.out.2.2.2.2.1⟩
        case measure => simp [intOf]; omega
      · obtain rfl : k = n := by omega
        have hZe : Z = [] := List.eq_nil_of_length_eq_zero (by rw [hZ]; simp)
        subst hZe
        rw [List.append_nil] at hB
        have hes : es.take k = es := by rw [← H.out.2.1, List.take_length]
        rw [hes] at hO
        have x1 : (w.heap.size :: f1).Nodup := List.nodup_cons.2 ⟨fun (hm : w.heap.size ∈ f1) => by have := hge _ hm; omega, hnd⟩
        have x2 : ∀ b ∈ w.heap.size :: f1, w.heap.size ≤ b := fun b hm => by
          rcases List.mem_cons.1 hm with e | h
          · omega
          · have := hge b h; omega
        have HE := Lib.hid (And.intro (own_sl (n := k) (cap := k) hB hO (fun q hq => (List.mem_replicate.1 hq).2) H.out.2.1 h0 (Nat.le_refl _)) (And.intro x1 (And.intro x2 hbel)))
        clear x1 x2
        clear hB hO hnd hge hbel hes
        go_wp2
        go_ret
        exact ⟨_, _, _, rfl, HE.out.1, HE.out.2.1, HE.out.2.2.1, HE.out.2.2.2⟩
end Go.Proofs.YtaapofbccanjhaaGreat.Own
namespace Go.Proofs.YtaapofbccanjhaaGreat.Own
open Go.ChangeShapes Go.WideShapes Go.ChangeAt Go.RowKit
open Kit Slabs Ints
set_option linter.unusedVariables false
set_option linter.unusedSimpArgs false
set_option linter.unnecessarySimpa false
set_option maxRecDepth 100000
attribute [local go_sem ↓] hloadL_Graphics
attribute [local go_sem ↓] hloadL_Object
set_option maxHeartbeats 4000000 in
theorem sz_GraphicsS (w : World) {a : Option Addr} {c : Nat} {es : List Dt} (h : Came w (.sl KGraphics) [.slice a es.length c] (.sl es)) (hm : es.length ≤ maxLen) (l : Int) (l0 : 0 ≤ l) (l1 : l ≤ 1048576) :
    Calls Tryz.prog 21 #[.slice a es.length c, .int .i64 l] w fun e w' => e = .returned (.int .i64 (szv l (es.length + bulkL es))) ∧ Below w.heap.size w w' := by
  obtain ⟨_, hr⟩ := h.row
  obtain ⟨n, hn⟩ : ∃ n, es.length = n := ⟨_, rfl⟩
  rw [hn] at hr hm h ⊢
  have hm2 : n ≤ 9223372036854775807 := by unfold maxLen at hm; omega
  clear hm
  by_cases c0 : l - (n : Int) < 0
  · have hz : szv l n = -1 := by unfold szv; rw [if_pos c0]
    have HZ := Lib.hid (szv_neg (b := bulkL es) l0 (by rw [hz]; omega))
    clear hr h hz
    go_enter Tryz.func21, Tryz.ntmps21
    go_wp2
    go_ret
    exact ⟨ret_int HZ.out.symm, Below.refl _ _⟩
  · have hz : szv l n = l - (n : Int) := by unfold szv; rw [if_neg c0]
    have H := Lib.hid h
    have HN := Lib.hid hn
    have hn1 : n ≤ 1048576 := by omega
    have HR : n ≠ 0 → ∃ g o, a = some ⟨g, o, none⟩ ∧ g < w.heap.size := hr
    have ha : n = 0 ∨ ∃ g o, a = some ⟨g, o, none⟩ := by
      by_cases h0 : n = 0
      · exact .inl h0
      · obtain ⟨g, o, h1, _⟩ := hr h0; exact .inr ⟨g, o, h1⟩
    have HZ := Lib.hid hz
    clear h hr hz HR hn
    rcases ha with rfl | ⟨g, o, rfl⟩
    · have hes : es = [] := List.eq_nil_of_length_eq_zero HN.out
      subst hes
      have HT := Lib.hid (show szv l (0 + bulkL []) = l by simp [szv, bulkL]; omega)
      clear H HN HZ
      go_enter Tryz.func21, Tryz.ntmps21
      go_wp2
      go_rounds 1
      go_ret
      exact ⟨ret_int (by rw [HT.out]), Below.refl _ _⟩
    · go_enter Tryz.func21, Tryz.ntmps21
      go_wp2
      go_loopw [1, 5] (fun v1 i wr => ∃ (k : Nat) (y : Int), k ≤ n ∧ i = .int .i64 (k : Int) ∧ v1 = .int .i64 y ∧ 0 ≤ y ∧ y ≤ 1048576 ∧ szv l (n + bulkL (es.take k)) = y ∧ Below w.heap.size w wr) (fun _ i _ => n - (intOf i).toNat)
      case atStart => exact ⟨0, l - (n : Int), Nat.zero_le _, rfl, rfl, by omega, by omega, by rw [List.take_zero]; simp only [bulkL, Nat.add_zero]; exact HZ.out, Below.refl _ _⟩
      case round =>
        obtain ⟨k, y, hk, rfl, rfl, y0, y1, hy, hbel⟩ := hrel
        by_cases hlt : k < n
        · have hke : k < es.length := by rw [HN.out]; exact hlt
          obtain ⟨hg, cs, ds, ed, od, ld, sd⟩ := H.out.elt hke
          have htk := take_bulk hke
          rw [ed] at htk
          simp only [Dt.bulk] at htk
          have hpart := bulk_parts es (k + 1)
          obtain ⟨C, hC⟩ : ∃ C, cs.toArray = C := ⟨_, rfl⟩
          have tC : C.toList = cs := by rw [← hC]
          have L1 := hload_run (P := Tryz.prog) (t := 29) Tryz.isAgg29 Tryz.sizeOf29 (w := wr) (b := g) (o := o + k * 11) (us := cs) (sd wr hbel) ld
          rw [hC] at L1
          rw [← tC] at od
          have HO := Lib.hid (od.on hbel)
          have i0 : (0 : Int) ≤ (k : Int) := by omega
          have i1 : (k : Int) < (n : Int) := by omega
          obtain ⟨z, hz⟩ : ∃ z, szv y (bulkL ds) = z := ⟨_, rfl⟩
          have hz2 : szv l (n + bulkL (es.take (k + 1))) = z := by rw [htk, ← Nat.add_assoc, ← szv_add (by rw [hy]; exact y0), hy, hz]
          have hzl : z ≤ 1048576 := by have := szv_le (a := bulkL ds) y0; omega
          have hneg : z < 0 → szv l (n + bulkL es) = -1 := fun hc => by rw [hpart, ← Nat.add_assoc]; exact szv_neg l0 (by rw [hz2]; exact hc)
          have hm1 : z < 0 → z = -1 := fun hc => by rw [← hz] at hc ⊢; unfold szv at hc ⊢; split at hc <;> first | rfl | omega
          have HF := Lib.hid (And.intro hz (And.intro hz2 (And.intro hneg hm1)))
          clear od sd ed ld hke hC tC htk hpart hz hz2 hneg hm1 hy
          by_cases c1 : z < 0
          · go_wp2_with (go_at_call 20; (with_reducible refine (sz_Graphics _ HO.out y y0 y1).mono ?_); rintro e w' ⟨rfl, hb⟩; rw [HF.out.1]; have hB := on_of hbel hb; clear hb)
            go_ret
            exact ⟨ret_int (HF.out.2.2.1 c1).symm, hB⟩
          · have z0 : 0 ≤ z := by omega
            go_wp2_with (go_at_call 20; (with_reducible refine (sz_Graphics _ HO.out y y0 y1).mono ?_); rintro e w' ⟨rfl, hb⟩; rw [HF.out.1]; have hB := on_of hbel hb; clear hb)
            go_roundw
            case rel => exact ⟨k + 1, z, by omega, by go_num, rfl, z0, hzl, HF.out.2.1, hB⟩
            case measure => simp [intOf]; omega
        · obtain rfl : k = n := by omega
          have HY := Lib.hid (show szv l (k + bulkL es) = y by rw [← hy, ← HN.out, List.take_length])
          clear hy
          go_wp2
          go_ret
          exact ⟨ret_int HY.out.symm, hbel⟩
set_option maxHeartbeats 4000000 in
theorem sz_ObjectS (w : World) {a : Option Addr} {c : Nat} {es : List Dt} (h : Came w (.sl KObject) [.slice a es.length c] (.sl es)) (hm : es.length ≤ maxLen) (l : Int) (l0 : 0 ≤ l) (l1 : l ≤ 1048576) :
    Calls Tryz.prog 22 #[.slice a es.length c, .int .i64 l] w fun e w' => e = .returned (.int .i64 (szv l (es.length + bulkL es))) ∧ Below w.heap.size w w' := by
  obtain ⟨_, hr⟩ := h.row
  obtain ⟨n, hn⟩ : ∃ n, es.length = n := ⟨_, rfl⟩
  rw [hn] at hr hm h ⊢
  have hm2 : n ≤ 9223372036854775807 := by unfold maxLen at hm; omega
  clear hm
  by_cases c0 : l - (n : Int) < 0
  · have hz : szv l n = -1 := by unfold szv; rw [if_pos c0]
    have HZ := Lib.hid (szv_neg (b := bulkL es) l0 (by rw [hz]; omega))
    clear hr h hz
    go_enter Tryz.func22, Tryz.ntmps22
    go_wp2
    go_ret
    exact ⟨ret_int HZ.out.symm, Below.refl _ _⟩
  · have hz : szv l n = l - (n : Int) := by unfold szv; rw [if_neg c0]
    have H := Lib.hid h
    have HN := Lib.hid hn
    have hn1 : n ≤ 1048576 := by omega
    have HR : n ≠ 0 → ∃ g o, a = some ⟨g, o, none⟩ ∧ g < w.heap.size := hr
    have ha : n = 0 ∨ ∃ g o, a = some ⟨g, o, none⟩ := by
      by_cases h0 : n = 0
      · exact .inl h0
      · obtain ⟨g, o, h1, _⟩ := hr h0; exact .inr ⟨g, o, h1⟩
    have HZ := Lib.hid hz
    clear h hr hz HR hn
    rcases ha with rfl | ⟨g, o, rfl⟩
    · have hes : es = [] := List.eq_nil_of_length_eq_zero HN.out
      subst hes
      have HT := Lib.hid (show szv l (0 + bulkL []) = l by simp [szv, bulkL]; omega)
      clear H HN HZ
      go_enter Tryz.func22, Tryz.ntmps22
      go_wp2
      go_rounds 1
      go_ret
      exact ⟨ret_int (by rw [HT.out]), Below.refl _ _⟩
    · go_enter Tryz.func22, Tryz.ntmps22
      go_wp2
      go_loopw [1, 5] (fun v1 i wr => ∃ (k : Nat) (y : Int), k ≤ n ∧ i = .int .i64 (k : Int) ∧ v1 = .int .i64 y ∧ 0 ≤ y ∧ y ≤ 1048576 ∧ szv l (n + bulkL (es.take k)) = y ∧ Below w.heap.size w wr) (fun _ i _ => n - (intOf i).toNat)
      case atStart => exact ⟨0, l - (n : Int), Nat.zero_le _, rfl, rfl, by omega, by omega, by rw [List.take_zero]; simp only [bulkL, Nat.add_zero]; exact HZ.out, Below.refl _ _⟩
      case round =>
        obtain ⟨k, y, hk, rfl, rfl, y0, y1, hy, hbel⟩ := hrel
        by_cases hlt : k < n
        · have hke : k < es.length := by rw [HN.out]; exact hlt
          obtain ⟨hg, cs, ds, ed, od, ld, sd⟩ := H.out.elt hke
          have htk := take_bulk hke
          rw [ed] at htk
          simp only [Dt.bulk] at htk
          have hpart := bulk_parts es (k + 1)
          obtain ⟨C, hC⟩ : ∃ C, cs.toArray = C := ⟨_, rfl⟩
          have tC : C.toList = cs := by rw [← hC]
          have L1 := hload_run (P := Tryz.prog) (t := 97) Tryz.isAgg97 Tryz.sizeOf97 (w := wr) (b := g) (o := o + k * 6) (us := cs) (sd wr hbel) ld
          rw [hC] at L1
          rw [← tC] at od
          have HO := Lib.hid (od.on hbel)
          have i0 : (0 : Int) ≤ (k : Int) := by omega
          have i1 : (k : Int) < (n : Int) := by omega
          obtain ⟨z, hz⟩ : ∃ z, szv y (bulkL ds) = z := ⟨_, rfl⟩
          have hz2 : szv l (n + bulkL (es.take (k + 1))) = z := by rw [htk, ← Nat.add_assoc, ← szv_add (by rw [hy]; exact y0), hy, hz]
          have hzl : z ≤ 1048576 := by have := szv_le (a := bulkL ds) y0; omega
          have hneg : z < 0 → szv l (n + bulkL es) = -1 := fun hc => by rw [hpart, ← Nat.add_assoc]; exact szv_neg l0 (by rw [hz2]; exact hc)
          have hm1 : z < 0 → z = -1 := fun hc => by rw [← hz] at hc ⊢; unfold szv at hc ⊢; split at hc <;> first | rfl | omega
          have HF := Lib.hid (And.intro hz (And.intro hz2 (And.intro hneg hm1)))
          clear od sd ed ld hke hC tC htk hpart hz hz2 hneg hm1 hy
          by_cases c1 : z < 0
          · go_wp2_with (go_at_call 57; (with_reducible refine (sz_Object _ HO.out y y0 y1).mono ?_); rintro e w' ⟨rfl, hb⟩; rw [HF.out.1]; have hB := on_of hbel hb; clear hb)
            go_ret
            exact ⟨ret_int (HF.out.2.2.1 c1).symm, hB⟩
          · have z0 : 0 ≤ z := by omega
            go_wp2_with (go_at_call 57; (with_reducible refine (sz_Object _ HO.out y y0 y1).mono ?_); rintro e w' ⟨rfl, hb⟩; rw [HF.out.1]; have hB := on_of hbel hb; clear hb)
            go_roundw
            case rel => exact ⟨k + 1, z, by omega, by go_num, rfl, z0, hzl, HF.out.2.1, hB⟩
            case measure => simp [intOf]; omega
        · obtain rfl : k = n := by omega
          have HY := Lib.hid (show szv l (k + bulkL es) = y by rw [← hy, ← HN.out, List.take_length])
          clear hy
          go_wp2
          go_ret
          exact ⟨ret_int HY.out.symm, hbel⟩
set_option maxHeartbeats 4000000 in
theorem sz_Page (w : World) {A : Array Value} {ds : List Dt} (h : CameL w LPage A.toList ds) (l : Int) (l0 : 0 ≤ l) (l1 : l ≤ 1048576) :
    Calls Tryz.prog 5 #[.agg A, .int .i64 l] w fun e w' => e = .returned (.int .i64 (szv l (bulkL ds))) ∧ Below w.heap.size w w' := by
  obtain ⟨xG0, xa11, xc11, xa12, xc12, xD0, xs11, xs12, hA, rfl, ox0, ⟨ox11, mox11⟩, ⟨ox12, mox12⟩⟩ := invC_Page h
  have nxG0 : xG0.length = 11 := ox0.len
  have hbk : bulkL (xD0 ++ (.sl xs11 :: (.sl xs12 :: ([])))) = (((bulkL xD0) + (xs11.length + bulkL xs11)) + (xs12.length + bulkL xs12)) := by simp only [bulkL_app, bulkL, Dt.bulk]; omega
  rw [hbk]
  obtain ⟨y1, q1⟩ : ∃ x, szv l (bulkL xD0) = x := ⟨_, rfl⟩
  obtain ⟨y2, q2⟩ : ∃ x, szv y1 (xs11.length + bulkL xs11) = x := ⟨_, rfl⟩
  obtain ⟨y3, q3⟩ : ∃ x, szv y2 (xs12.length + bulkL xs12) = x := ⟨_, rfl⟩
  have BA : Blk (w.alloc (.cells A 33)) w.heap.size A.toList := Blk.new w A 33 rfl
  have hW : Below w.heap.size w (w.alloc (.cells A 33)) := by go_grown
  rw [hA] at BA
  have HO := Lib.hid (And.intro ox0 (And.intro ox11 ox12))
  have HA0 := Lib.hid BA
  have HW0 := Lib.hid hW
  by_cases c1 : y1 < 0
  · have t2 : szv l ((bulkL xD0) + (xs11.length + bulkL xs11)) = -1 := szv_neg l0 (by rw [q1]; omega)
    have t3 : szv l (((bulkL xD0) + (xs11.length + bulkL xs11)) + (xs12.length + bulkL xs12)) = -1 := szv_neg l0 (by rw [t2]; omega)
    have HZ := Lib.hid t3
    have ra := hload_run (P := Tryz.prog) (t := 29) Tryz.isAgg29 Tryz.sizeOf29 (w := w.alloc (.cells A 33)) (b := w.heap.size) (o := 0) (us := xG0) (Blk.part (P := []) HA0.out rfl) nxG0
    clear ox0 ox11 ox12 hA BA hW h hbk
    go_enter Tryz.func5, Tryz.ntmps5
    go_wp2_with fail
    ((with_reducible refine (sz_Graphics _ (ds := xD0) (by simpa using (HO.out.1).on HW0.out) l (by omega) (by omega)).mono ?_); rintro e w1 ⟨rfl, b1⟩)
    rw [q1]
    have HW1 := Lib.hid (on_of HW0.out b1)
    have HA1 := Lib.hid (HA0.out.keep b1)
    clear b1  ra
    clear q1 q2 q3
    go_wp2
    go_ret
    exact ⟨ret_int HZ.out.symm, HW1.out⟩
  · have d1 : 0 ≤ y1 := by omega
    have e1 : y1 ≤ 1048576 := by have := szv_le (a := (bulkL xD0)) (show 0 ≤ l by omega); rw [q1] at this; omega
    by_cases c2 : y2 < 0
    · have s2 : szv l ((bulkL xD0) + (xs11.length + bulkL xs11)) = y2 := by rw [← szv_add (by rw [q1]; omega), q1, q2]
      have t3 : szv l (((bulkL xD0) + (xs11.length + bulkL xs11)) + (xs12.length + bulkL xs12)) = -1 := szv_neg l0 (by rw [s2]; omega)
      have HZ := Lib.hid t3
      have ra := hload_run (P := Tryz.prog) (t := 29) Tryz.isAgg29 Tryz.sizeOf29 (w := w.alloc (.cells A 33)) (b := w.heap.size) (o := 0) (us := xG0) (Blk.part (P := []) HA0.out rfl) nxG0
      clear ox0 ox11 ox12 hA BA hW h hbk
      go_enter Tryz.func5, Tryz.ntmps5
      go_wp2_with fail
      ((with_reducible refine (sz_Graphics _ (ds := xD0) (by simpa using (HO.out.1).on HW0.out) l (by omega) (by omega)).mono ?_); rintro e w1 ⟨rfl, b1⟩)
      rw [q1]
      have HW1 := Lib.hid (on_of HW0.out b1)
      have HA1 := Lib.hid (HA0.out.keep b1)
      clear b1  ra
      have ca11 := HA1.out.1 11 (.slice xa11 xs11.length xc11) (by simp [nxG0])
      go_wp2_with fail
      ((with_reducible refine (sz_GraphicsS _ ((HO.out.2.1).on HW1.out) mox11 y1 (by omega) (by omega)).mono ?_); rintro e w2 ⟨rfl, b2⟩)
      rw [q2]
      have HW2 := Lib.hid (on_of HW1.out b2)
      have HA2 := Lib.hid (HA1.out.keep b2)
      clear b2 ca11
      clear q1 q2 q3
      go_wp2
      go_ret
      exact ⟨ret_int HZ.out.symm, HW2.out⟩
    · have d2 : 0 ≤ y2 := by omega
      have e2 : y2 ≤ 1048576 := by have := szv_le (a := (xs11.length + bulkL xs11)) (show 0 ≤ y1 by omega); rw [q2] at this; omega
      by_cases c3 : y3 < 0
      · have s2 : szv l ((bulkL xD0) + (xs11.length + bulkL xs11)) = y2 := by rw [← szv_add (by rw [q1]; omega), q1, q2]
        have s3 : szv l (((bulkL xD0) + (xs11.length + bulkL xs11)) + (xs12.length + bulkL xs12)) = y3 := by rw [← szv_add (by rw [s2]; omega), s2, q3]
        have u : y3 = -1 := by rw [← q3] at c3 ⊢; unfold szv at c3 ⊢; split at c3 <;> first | rfl | omega
        have HZ := Lib.hid (s3.trans u)
        clear u
        have ra := hload_run (P := Tryz.prog) (t := 29) Tryz.isAgg29 Tryz.sizeOf29 (w := w.alloc (.cells A 33)) (b := w.heap.size) (o := 0) (us := xG0) (Blk.part (P := []) HA0.out rfl) nxG0
        clear ox0 ox11 ox12 hA BA hW h hbk
        go_enter Tryz.func5, Tryz.ntmps5
        go_wp2_with fail
        ((with_reducible refine (sz_Graphics _ (ds := xD0) (by simpa using (HO.out.1).on HW0.out) l (by omega) (by omega)).mono ?_); rintro e w1 ⟨rfl, b1⟩)
        rw [q1]
        have HW1 := Lib.hid (on_of HW0.out b1)
        have HA1 := Lib.hid (HA0.out.keep b1)
        clear b1  ra
        have ca11 := HA1.out.1 11 (.slice xa11 xs11.length xc11) (by simp [nxG0])
        go_wp2_with fail
        ((with_reducible refine (sz_GraphicsS _ ((HO.out.2.1).on HW1.out) mox11 y1 (by omega) (by omega)).mono ?_); rintro e w2 ⟨rfl, b2⟩)
        rw [q2]
        have HW2 := Lib.hid (on_of HW1.out b2)
        have HA2 := Lib.hid (HA1.out.keep b2)
        clear b2 ca11
        have ca12 := HA2.out.1 12 (.slice xa12 xs12.length xc12) (by simp [nxG0])
        go_wp2_with fail
        ((with_reducible refine (sz_ObjectS _ ((HO.out.2.2).on HW2.out) mox12 y2 (by omega) (by omega)).mono ?_); rintro e w3 ⟨rfl, b3⟩)
        rw [q3]
        have HW3 := Lib.hid (on_of HW2.out b3)
        have HA3 := Lib.hid (HA2.out.keep b3)
        clear b3 ca12
        clear q1 q2 q3
        go_wp2
        go_ret
        exact ⟨ret_int HZ.out.symm, HW3.out⟩
      · have d3 : 0 ≤ y3 := by omega
        have e3 : y3 ≤ 1048576 := by have := szv_le (a := (xs12.length + bulkL xs12)) (show 0 ≤ y2 by omega); rw [q3] at this; omega
        have s2 : szv l ((bulkL xD0) + (xs11.length + bulkL xs11)) = y2 := by rw [← szv_add (by rw [q1]; omega), q1, q2]
        have s3 : szv l (((bulkL xD0) + (xs11.length + bulkL xs11)) + (xs12.length + bulkL xs12)) = y3 := by rw [← szv_add (by rw [s2]; omega), s2, q3]
        have HZ := Lib.hid s3
        have ra := hload_run (P := Tryz.prog) (t := 29) Tryz.isAgg29 Tryz.sizeOf29 (w := w.alloc (.cells A 33)) (b := w.heap.size) (o := 0) (us := xG0) (Blk.part (P := []) HA0.out rfl) nxG0
        clear ox0 ox11 ox12 hA BA hW h hbk
        go_enter Tryz.func5, Tryz.ntmps5
        go_wp2_with fail
        ((with_reducible refine (sz_Graphics _ (ds := xD0) (by simpa using (HO.out.1).on HW0.out) l (by omega) (by omega)).mono ?_); rintro e w1 ⟨rfl, b1⟩)
        rw [q1]
        have HW1 := Lib.hid (on_of HW0.out b1)
        have HA1 := Lib.hid (HA0.out.keep b1)
        clear b1  ra
        have ca11 := HA1.out.1 11 (.slice xa11 xs11.length xc11) (by simp [nxG0])
        go_wp2_with fail
        ((with_reducible refine (sz_GraphicsS _ ((HO.out.2.1).on HW1.out) mox11 y1 (by omega) (by omega)).mono ?_); rintro e w2 ⟨rfl, b2⟩)
        rw [q2]
        have HW2 := Lib.hid (on_of HW1.out b2)
        have HA2 := Lib.hid (HA1.out.keep b2)
        clear b2 ca11
        have ca12 := HA2.out.1 12 (.slice xa12 xs12.length xc12) (by simp [nxG0])
        go_wp2_with fail
        ((with_reducible refine (sz_ObjectS _ ((HO.out.2.2).on HW2.out) mox12 y2 (by omega) (by omega)).mono ?_); rintro e w3 ⟨rfl, b3⟩)
        rw [q3]
        have HW3 := Lib.hid (on_of HW2.out b3)
        have HA3 := Lib.hid (HA2.out.keep b3)
        clear b3 ca12
        clear q1 q2 q3
        go_wp2
        go_ret
        exact ⟨ret_int HZ.out.symm, HW3.out⟩
end Go.Proofs.YtaapofbccanjhaaGreat.Own
