/-
  Texts of this seat, laid together: Rd11, ToBO
-/
import Derived.Laws.Entries
import Derived.BigQuiet
import Derived.Deep.QuietTactic
import Derived.Deep.RegionHeld3
import Derived.WalkKit
import Derived.Deep.DeepCutAuto
import Derived.Handy
import Derived.Test.YtifmdgncgokikaaGreatV31
import Derived.Test.YtifmdgncgokikaaGreatV42
namespace Go.Proofs.YtifmdgncgokikaaGreat.Own
open Go.ChangeShapes Go.WideShapes Go.ChangeAt Go.RowKit
open Kit Slabs Ints
set_option linter.unusedVariables false
set_option linter.unusedSimpArgs false
set_option linter.unnecessarySimpa false
set_option maxRecDepth 100000
theorem all_yes {α : Type} {p : α → Bool} {l : List α} {z : α} (h : ∀ i, i < l.length → p (l.getD i z) = true) : l.all p = true := by
  rw [List.all_eq_true]
  intro x hx
  obtain ⟨i, hi, rfl⟩ := List.mem_iff_getElem.1 hx
  have := h i hi
  simpa [List.getD, List.getElem?_eq_getElem hi] using this
theorem all_no {α : Type} {p : α → Bool} {l : List α} {z : α} {k : Nat} (hk : k < l.length) (h : p (l.getD k z) = false) : l.all p = false := by
  rw [List.all_eq_false]
  refine ⟨l[k], List.getElem_mem hk, ?_⟩
  simp only [List.getD, List.getElem?_eq_getElem hk, Option.getD_some] at h
  rw [h]; simp
def rowB (r : List Int) : Bool := decide (r.length = 32) && r.all grayB
def rowsB (R : List (List Int)) : Bool := decide (R.length ≤ 32) && R.all rowB
theorem row_spec (w : World) (a : Option Addr) (c : Nat) (r : List Int) (hn : r.length ≤ 1048576) (h : Lies w a (ivs r)) :
    Calls Tryz.prog 42 #[.slice a r.length c] w fun e w' => e = .returned (.bool (rowB r)) ∧ Below w.heap.size w w' := by
  have HP := Lib.hid h
  obtain ⟨n, hN⟩ : ∃ n, r.length = n := ⟨_, rfl⟩
  have HN := Lib.hid hN
  rw [hN] at hn ⊢
  clear hN h
  go_enter Tryz.func42, Tryz.ntmps42
  go_wp2
  go_loopw [3] (fun v9 wr => ∃ k : Nat, k ≤ n ∧ v9 = .int .i64 (k : Int) ∧ Hid (∀ i, i < k → grayB (r.getD i 0) = true) ∧ Below w.heap.size w wr) (fun v9 _ => n - (intOf v9).toNat)
  case atStart => exact ⟨0, Nat.zero_le _, rfl, Lib.hid (fun i hi => absurd hi (Nat.not_lt_zero i)), Below.refl _ _⟩
  case round =>
    obtain ⟨k, hk, rfl, hb, hB⟩ := hrel
    by_cases hlt : k < n
    · obtain ⟨g, o, rfl, hg, hc⟩ := lies_at (HP.out.on hB) (by rw [HN.out]; omega)
      have q := hc k (by rw [HN.out]; exact hlt)
      obtain ⟨x, hx⟩ : ∃ x, r.getD k 0 = x := ⟨_, rfl⟩
      rw [hx] at q
      have i0 : (0 : Int) ≤ (k : Int) := by omega
      have i1 : (k : Int) < (n : Int) := by omega
      have HX := Lib.hid hx
      have HB := Lib.hid hB
      clear hx hB hc
      go_wp2_with fail
      ((with_reducible refine (Ins.gray_spec x _).mono ?_); rintro e w1 ⟨rfl, bb⟩)
      have HB1 := Lib.hid (on_of HB.out bb)
      clear bb
      cases hp : grayB x
      · have HS := Lib.hid (all_no (p := grayB) (l := r) (z := 0) (k := k) (by rw [HN.out]; exact hlt) (by rw [HX.out]; exact hp))
        clear hp
        go_wp2
        go_ret
        exact ⟨ret_bool (by simp [rowB, HS.out]), HB1.out⟩
      · have hyes : ∀ i, i < k + 1 → grayB (r.getD i 0) = true := fun i hi => by
          by_cases e : i = k
          · subst e; rw [HX.out]; exact hp
          · exact hb.out i (by omega)
        have HS := Lib.hid hyes
        clear hyes hp
        go_wp2
        go_roundw
        case rel => exact ⟨k + 1, by omega, by go_num, HS, HB1.out⟩
        case measure => simp [intOf]; omega
    · obtain rfl : k = n := by omega
      have HB := Lib.hid hB
      have HV : Hid (rowB r = ((k : Int) == 32)) := Lib.hid (by
        have := all_yes (p := grayB) (l := r) (z := 0) (fun i hi => hb.out i (by rw [← HN.out]; exact hi))
        rw [rowB, this, Bool.and_true, HN.out]
        by_cases e : k = 32
        · subst e; rfl
        · rw [decide_eq_false e]; symm; simp; omega)
      clear hB
      go_wp2
      go_ret
      exact ⟨ret_bool HV.out.symm, HB.out⟩
set_option maxHeartbeats 1000000 in
theorem rowsok_spec (w : World) (a : Option Addr) (c : Nat) (R : List (List Int)) (hn : R.length ≤ 1048576) (ht : tot R ≤ 1048576) (h : RR w a R) :
    Calls Tryz.prog 30 #[.slice a R.length c] w fun e w' => e = .returned (.bool (rowsB R)) ∧ Below w.heap.size w w' := by
  have HP := Lib.hid h
  obtain ⟨n, hN⟩ : ∃ n, R.length = n := ⟨_, rfl⟩
  have HN := Lib.hid (And.intro hN ht)
  rw [hN] at hn ⊢
  clear hN h ht
  go_enter Tryz.func30, Tryz.ntmps30
  go_wp2
  go_loopw [3] (fun v9 wr => ∃ k : Nat, k ≤ n ∧ v9 = .int .i64 (k : Int) ∧ Hid (∀ i, i < k → rowB (R.getD i []) = true) ∧ Below w.heap.size w wr) (fun v9 _ => n - (intOf v9).toNat)
  case atStart => exact ⟨0, Nat.zero_le _, rfl, Lib.hid (fun i hi => absurd hi (Nat.not_lt_zero i)), Below.refl _ _⟩
  case round =>
    obtain ⟨k, hk, rfl, hb, hB⟩ := hrel
    by_cases hlt : k < n
    · obtain ⟨g, o, rfl, hg, hc⟩ := (HP.out.on hB).some (by rw [HN.out.1]; omega)
      obtain ⟨a', c', q, hl⟩ := hc k (by rw [HN.out.1]; exact hlt)
      have hx0 := tot_at (R := R) (k := k) (by rw [HN.out.1]; exact hlt)
      obtain ⟨x, hx⟩ : ∃ x, R.getD k [] = x := ⟨_, rfl⟩
      rw [hx] at q hl hx0
      have i0 : (0 : Int) ≤ (k : Int) := by omega
      have i1 : (k : Int) < (n : Int) := by omega
      have HX := Lib.hid hx
      have HL := Lib.hid (And.intro hl (show x.length ≤ 1048576 by have := HN.out.2; omega))
      have HB := Lib.hid hB
      clear hx hB hc hl hx0
      go_wp2_with fail
      ((with_reducible refine (row_spec _ _ _ x HL.out.2 HL.out.1).mono ?_); rintro e w1 ⟨rfl, bb⟩)
      have HB1 := Lib.hid (on_of HB.out bb)
      clear bb
      cases hp : rowB x
      · have HS := Lib.hid (all_no (p := rowB) (l := R) (z := []) (k := k) (by rw [HN.out.1]; exact hlt) (by rw [HX.out]; exact hp))
        clear hp
        go_wp2
        go_ret
        exact ⟨ret_bool (by simp [rowsB, HS.out]), HB1.out⟩
      · have hyes : ∀ i, i < k + 1 → rowB (R.getD i []) = true := fun i hi => by
          by_cases e : i = k
          · subst e; rw [HX.out]; exact hp
          · exact hb.out i (by omega)
        have HS := Lib.hid hyes
        clear hyes hp
        go_wp2
        go_roundw
        case rel => exact ⟨k + 1, by omega, by go_num, HS, HB1.out⟩
        case measure => simp [intOf]; omega
    · obtain rfl : k = n := by omega
      have HB := Lib.hid hB
      have HV : Hid (rowsB R = decide ((k : Int) ≤ 32)) := Lib.hid (by
        have := all_yes (p := rowB) (l := R) (z := []) (fun i hi => hb.out i (by rw [← HN.out.1]; exact hi))
        rw [rowsB, this, Bool.and_true, HN.out.1]
        apply decide_eq_decide.2; omega)
      clear hB
      go_wp2
      go_ret
      exact ⟨ret_bool HV.out.symm, HB.out⟩
end Go.Proofs.YtifmdgncgokikaaGreat.Own
namespace Go.Proofs.YtifmdgncgokikaaGreat.Own
open Go.ChangeShapes Go.WideShapes Go.ChangeAt Go.RowKit
open Kit Slabs Ints
set_option linter.unusedVariables false
set_option linter.unusedSimpArgs false
set_option linter.unnecessarySimpa false
set_option maxRecDepth 100000
attribute [local go_sem ↓] hstore_Object
attribute [local go_sem ↓] hloadL_Object
theorem info_Object : (Tryz.prog.info? 46).map (fun i => (i.zero, i.size, i.bytes)) = some (some (.agg #[.slice none 0 0, .int .i64 0, .int .i64 0, .int .i64 0, .int .i64 0, .int .i64 0]), 6, 64) := by kernel_rfl
set_option maxHeartbeats 4000000 in
theorem to_ObjectS (w : World) (a : Option Addr) (n c : Nat) (es : List Dt) (hb : n + bulkL es ≤ 1048576) (h : Came w (.sl KObject) [.slice a n c] (.sl es)) :
    Calls Tryz.prog 6 #[.slice a n c] w fun e w' => ∃ (a' : Option Addr) (c' : Nat) (fp : List Nat), e = .returned (.slice a' n c') ∧ Own w' (.sl KObject) [.slice a' n c'] (.sl es) fp ∧ fp.Nodup ∧ (∀ b ∈ fp, w.heap.size ≤ b) ∧ Below w.heap.size w w' := by
  obtain ⟨i0, hi0, hz0, hz1, hz2⟩ := info_parts info_Object
  have hmk : ∀ W : World, (Instr.makeSlice 27 (.int .i64 (n : Int)) (.int .i64 (n : Int))).run Tryz.prog W = .ok (.slice (some ⟨W.heap.size, 0, none⟩) n n) (W.alloc (.cells (madeCells (Value.agg #[.slice none 0 0, .int .i64 0, .int .i64 0, .int .i64 0, .int .i64 0, .int .i64 0]).cells (n * i0.size)) 46)) := fun W =>
    run_make_rowN 27 46 i0 _ Tryz.underlying27 hi0 hz0 .i64 .i64 n n (Nat.le_refl _) (by rw [hz2]; omega) (by omega) W
  obtain ⟨Z0, hZ0⟩ : ∃ Z0 : List Value, madeCells (Value.agg #[.slice none 0 0, .int .i64 0, .int .i64 0, .int .i64 0, .int .i64 0, .int .i64 0]).cells (n * i0.size) = Z0.toArray := ⟨(madeCells (Value.agg #[.slice none 0 0, .int .i64 0, .int .i64 0, .int .i64 0, .int .i64 0, .int .i64 0]).cells (n * i0.size)).toList, by simp⟩
  have hZl : Z0.length = n * 6 := by have := size_madeCells (Value.agg #[.slice none 0 0, .int .i64 0, .int .i64 0, .int .i64 0, .int .i64 0, .int .i64 0]).cells (n * i0.size); rw [hZ0, hz1] at this; simpa using this
  rw [hZ0] at hmk
  clear hZ0 hi0 hz0 hz1 hz2
  obtain ⟨hl, hr⟩ := h.row
  by_cases h0 : n = 0
  · subst h0
    have hes : es = [] := List.eq_nil_of_length_eq_zero hl
    subst hes
    simp only [Int.natCast_zero, Int.ofNat_zero, show ((0 : Nat) : Int) = 0 from rfl] at hmk
    clear h hr
    go_enter Tryz.func6, Tryz.ntmps6
    go_wp2
    go_rounds 1
    go_ret
    exact ⟨_, _, [], rfl, .nil _ _, List.nodup_nil, fun b hb => absurd hb List.not_mem_nil, by go_grown⟩
  · obtain ⟨g, o, rfl, hg⟩ := hr h0
    have H := Lib.hid (And.intro h (And.intro hl hb))
    have hn1 : n ≤ 1048576 := by omega
    have B0 := Lib.hid (show Blk (w.alloc (.cells Z0.toArray 46)) w.heap.size Z0 from by have := Blk.new w Z0.toArray 46 rfl; simpa using this)
    have HZl := Lib.hid hZl
    clear h hr hl hb hZl
    go_enter Tryz.func6, Tryz.ntmps6
    go_wp2
    go_loopw [4] (fun v4 wr => ∃ (k : Nat) (P1 Z : List Value) (f1 : List Nat), k ≤ n ∧ v4 = .int .i64 (k : Int) ∧ Blk wr w.heap.size (P1 ++ Z) ∧ P1.length = k * 6 ∧ Z.length = (n - k) * 6 ∧ OwnL wr (List.replicate k KObject) P1 (es.take k) f1 ∧ f1.Nodup ∧ (∀ b ∈ f1, w.heap.size + 1 ≤ b) ∧ Below w.heap.size w wr) (fun v4 _ => n - (intOf v4).toNat)
    case atStart => exact ⟨0, [], Z0, [], Nat.zero_le _, rfl, B0.out, by simp, by simpa using HZl.out, .nil, List.nodup_nil, fun b hb => absurd hb List.not_mem_nil, by go_grown⟩
    case round =>
      obtain ⟨k, P1, Z, f1, hk, rfl, hB, hP1, hZ, hO, hnd, hge, hbel⟩ := hrel
      by_cases hlt : k < n
      · have hke : k < es.length := by rw [H.out.2.1]; exact hlt
        obtain ⟨_, cs, ds, ed, od, ld, sd⟩ := H.out.1.elt hke
        have hbk := bulk_elt hke
        rw [ed] at hbk
        have hbk2 : bulkL ds ≤ 1048576 := by simp only [Dt.bulk] at hbk; have := H.out.2.2; omega
        have htk : es.take (k + 1) = es.take k ++ [.st ds] := by rw [List.take_succ_eq_append_getElem hke, ed]
        obtain ⟨C, hC⟩ : ∃ C, cs.toArray = C := ⟨_, rfl⟩
        have tC : C.toList = cs := by rw [← hC]
        have L1 := hload_run (P := Tryz.prog) (t := 39) Tryz.isAgg39 Tryz.sizeOf39 (w := wr) (b := g) (o := o + k * 6) (us := cs) (sd wr hbel) ld
        rw [hC] at L1
        rw [← tC] at od
        have HO := Lib.hid (od.on hbel)
        have hZm : 6 ≤ Z.length := by rw [hZ]; exact Nat.le_mul_of_pos_left _ (by omega)
        obtain ⟨Z1, Z2, rfl, hZ1⟩ : ∃ Z1 Z2, Z = Z1 ++ Z2 ∧ Z1.length = 6 := ⟨Z.take 6, Z.drop 6, (List.take_append_drop _ _).symm, by rw [List.length_take]; omega⟩
        clear hZm
        have hZ2 : Z2.length = (n - (k + 1)) * 6 := by
          have e : n - k = (n - (k + 1)) + 1 := by omega
          rw [List.length_append, hZ1, e, Nat.succ_mul] at hZ
          omega
        have i0 : (0 : Int) ≤ (k : Int) := by omega
        have i1 : (k : Int) < (n : Int) := by omega
        have hws := hbel.size
        have hGl := hB.2.2
        have HF := Lib.hid (And.intro hB (And.intro hO (And.intro hnd (And.intro hge (And.intro hP1 (And.intro hZ2 (And.intro htk hZ1)))))))
        clear od sd ed ld hke hC tC hbk hB hO hnd hge hP1 hZ hZ2 htk hZ1
        go_wp2_with fail
        ((with_reducible refine (to_Object _ hbk2 HO.out).mono ?_); rintro e w1 ⟨R, fq, rfl, oR, nR, gR, bb⟩)
        have hRl : R.toList.length = 6 := oR.len
        have hs2 := bb.size
        have B1 := HF.out.1.keep bb
        have st := hstore_run (P := Tryz.prog) (t := 46) Tryz.sizeOf46 (w := w1) (b := w.heap.size) (o := k * 6) (A := P1) (us := Z1) (R := Z2) (vs := R.toList) (by simpa using B1) HF.out.2.2.2.2.1 (by rw [hRl, HF.out.2.2.2.2.2.2.2]) hRl (fun v hv => oR.one v hv)
        have est : R.toList.toArray = R := by simp
        rw [est] at st
        have B2 : Blk (w1.setCells w.heap.size (k * 6) R.toList) w.heap.size ((P1 ++ R.toList) ++ Z2) := by have := Blk.sets (P := P1) (us := Z1) (vs := R.toList) (R := Z2) (w := w1) (b := w.heap.size) (o := k * 6) (by simpa using B1) HF.out.2.2.2.2.1 (by rw [hRl, HF.out.2.2.2.2.2.2.2]); simpa using this
        have q1 : OwnL (w1.setCells w.heap.size (k * 6) R.toList) (List.replicate k KObject) P1 (es.take k) f1 := ownL_sets (HF.out.2.1.under bb) (fun x hx e => by have := HF.out.2.2.2.1 x hx; omega) _ _
        have q2 : OwnL (w1.setCells w.heap.size (k * 6) R.toList) LObject R.toList ds fq := ownL_sets oR (fun x hx e => by have := gR x hx; omega) _ _
        have q3 : OwnL (w1.setCells w.heap.size (k * 6) R.toList) (List.replicate (k + 1) KObject) (P1 ++ R.toList) (es.take (k + 1)) (f1 ++ fq) := by rw [List.replicate_succ', HF.out.2.2.2.2.2.2.1]; exact q1.snoc (.st q2)
        have q4 : (f1 ++ fq).Nodup := List.nodup_append.2 ⟨HF.out.2.2.1, nR, fun x hx y hy e => by have := HF.out.2.1.lt x hx; have := gR y hy; omega⟩
        have q5 : ∀ b ∈ f1 ++ fq, w.heap.size + 1 ≤ b := fun b hx => (List.mem_append.1 hx).elim (fun h => HF.out.2.2.2.1 b h) (fun h => by have := gR b h; omega)
        have q6 : Below w.heap.size w (w1.setCells w.heap.size (k * 6) R.toList) := Below.setCells (Nat.le_refl _) R.toList (k * 6) (on_of hbel bb)
        have q7 : (P1 ++ R.toList).length = (k + 1) * 6 := by rw [List.length_append, HF.out.2.2.2.2.1, hRl, Nat.succ_mul]
        have HE := Lib.hid (And.intro B2 (And.intro q3 (And.intro q4 (And.intro q5 (And.intro q6 q7)))))
        clear B2 q1 q2 q3 q4 q5 q6 q7 oR B1 est hRl nR gR bb
        go_wp2
        go_roundw
        case rel => exact ⟨k + 1, P1 ++ R.toList, Z2, f1 ++ fq, by omega, by go_num, HE.out.1, HE.out.2.2.2.2.2, HF.out.2.2.2.2.2.1, HE.out.2.1, HE.out.2.2.1, HE.out.2.2.2.1, HE.out.2.2.2.2.1⟩
        case measure => simp [intOf]; omega
      · obtain rfl : k = n := by omega
        have hZe : Z = [] := List.eq_nil_of_length_eq_zero (by rw [hZ]; simp)
        subst hZe
        rw [List.append_nil] at hB
        have hes : es.take k = es := by rw [← H.out.2.1, List.take_length]
        rw [hes] at hO
        have x1 : (w.heap.size :: f1).Nodup := List.nodup_cons.2 ⟨fun (hm : w.heap.size ∈ f1) => by have := hge _ hm; omega, hnd⟩
        have x2 : ∀ b ∈ w.heap.size :: f1, w.heap.size ≤ b := fun b hm => by
          rcases List.mem_cons.1 hm with e | h
          · omega
          · have := hge b h; omega
        have HE := Lib.hid (And.intro (own_sl (n := k) (cap := k) hB hO (fun q hq => (List.mem_replicate.1 hq).2) H.out.2.1 h0 (Nat.le_refl _)) (And.intro x1 (And.intro x2 hbel)))
        clear x1 x2
        clear hB hO hnd hge hbel hes
        go_wp2
        go_ret
        exact ⟨_, _, _, rfl, HE.out.1, HE.out.2.1, HE.out.2.2.1, HE.out.2.2.2⟩
end Go.Proofs.YtifmdgncgokikaaGreat.Own
