/-
  Texts of this seat, laid together: Sc13
-/
import Derived.Test.YtbdjnfnphilklaaGreatV37
import Derived.Test.YtbdjnfnphilklaaGreatV30
namespace Go.Proofs.YtbdjnfnphilklaaGreat.Own
open Go.ChangeShapes Go.WideShapes Go.ChangeAt Go.RowKit
open Kit Slabs Ints Point
open Go.Proofs.YtbdjnfnphilklaaGreat.Ins (obK gen_any9)
set_option linter.unusedVariables false
set_option linter.unusedSimpArgs false
set_option linter.unnecessarySimpa false
set_option maxRecDepth 100000
set_option maxHeartbeats 2000000 in
theorem bcells_spec (w : World) (b : Bd) (ra : Option Addr) (rc : Nat) (oa : Option Addr) (oc : Nat) (h : BdA w b ra rc oa oc) :
    Calls Tryz.prog 54 #[.agg #[.int .i64 b.h, .int .i64 b.n, .slice ra b.base.length rc, .slice oa b.objs.length oc]] w fun e w' => e = .returned (.int .i64 (cellsN b.objs : Nat)) ∧ Below w.heap.size w w' := by
  have hb0 : Below w.heap.size w (w.alloc (.cells #[.int .i64 b.h, .int .i64 b.n, .slice ra b.base.length rc, .slice oa b.objs.length oc] 27)) := by go_grown
  have HP := Lib.hid h.obl
  have HM := Lib.hid (fun k => Nat.le_trans (cells_part b.objs k) (Nat.le_trans (cells_le b.objs) (show 2 * (b.objs.length + bulkL (dO b.objs)) ≤ 2097152 by have := h.s; omega)))
  have hn0 : b.objs.length ≤ 1048576 := by have := h.s; omega
  clear h
  generalize b.base.length = m at *
  generalize b.objs = l at *
  generalize b.h = ht at *
  generalize b.n = bd at *
  obtain ⟨n, hN⟩ : ∃ n, l.length = n := ⟨_, rfl⟩
  have HN := Lib.hid hN
  rw [hN] at hn0 hb0 ⊢
  have HS := Lib.hid (And.intro (Blk.new w #[.int .i64 ht, .int .i64 bd, .slice ra m rc, .slice oa n oc] 27 rfl) hb0)
  clear hN hb0
  go_enter Tryz.func54, Tryz.ntmps54
  go_wp2
  go_loopw [3, 4] (fun v3 v4 wr => ∃ (k y : Nat), k ≤ n ∧ v4 = .int .i64 (k : Int) ∧ v3 = .int .i64 (y : Int) ∧ y ≤ 2097152 ∧ Hid (cellsN (l.take k) = y) ∧ Hid (Blk wr w.heap.size [.int .i64 ht, .int .i64 bd, .slice ra m rc, .slice oa n oc] ∧ Below w.heap.size w wr)) (fun v3 v4 _ => n - (intOf v4).toNat)
  case atStart => exact ⟨0, 0, Nat.zero_le _, rfl, rfl, by omega, Lib.hid rfl, HS⟩
  case round =>
    obtain ⟨k, y, hk, rfl, rfl, hy, hY, hB⟩ := hrel
    obtain ⟨_, _, _, x3, _, xz⟩ := three_cells hB.out.1
    by_cases hlt : k < n
    · have hkl : k < l.length := by rw [HN.out]; exact hlt
      obtain ⟨g, rfl, hg, hc⟩ := (HP.out.on hB.out.2).some (by rw [HN.out]; omega)
      obtain ⟨pa, pc, h6, hpa, hpl⟩ := hc k hkl
      have htk := cells_take hkl
      have hmx := HM.out (k + 1)
      obtain ⟨o, hx⟩ : ∃ o, l.getD k ob0 = o := ⟨_, rfl⟩
      rw [hx] at h6 hpa hpl htk
      rw [hY.out] at htk
      have q0 : wr.cell? ⟨g, k * 6, none⟩ = some (.slice pa o.path.length pc) := h6 0 _ rfl
      have i0 : (0 : Int) ≤ (k : Int) := by omega
      have i1 : (k : Int) < (n : Int) := by omega
      obtain ⟨pl, hp⟩ : ∃ pl, o.path.length = pl := ⟨_, rfl⟩
      rw [hp] at q0 hpl htk
      rw [htk] at hmx
      have HE := Lib.hid htk
      have e9 : IntKind.i64.wrap ((y : Int) + 2 + (pl : Int)) = ((y + (2 + pl) : Nat) : Int) := by rw [IntWalk.i64_in _ ⟨by omega, by omega⟩]; omega
      have e8 : IntKind.i64.wrap ((y : Int) + 2) = (y : Int) + 2 := IntWalk.i64_in _ ⟨by omega, by omega⟩
      clear hx hpa hc h6 htk hp
      go_wp2
      go_roundw
      case rel => exact ⟨k + 1, y + (2 + pl), by omega, by go_num, by simp [e9], hmx, HE, hB⟩
      case measure => simp [intOf]; omega
    · obtain rfl : k = n := by omega
      have HE := Lib.hid (show cellsN l = y by rw [← hY.out, ← HN.out, List.take_length])
      go_wp2
      go_ret
      exact ⟨ret_int (by rw [HE.out]), hB.out.2⟩
theorem bdB_spec (b : Bd) : bdB b = (b.objs.all okO && (bnB b.h b.n && decide ((b.base.length : Int) = b.h) && rowsB b.base && decide (cellsN b.objs ≤ 60))) := by
  unfold bdB
  cases bnB b.h b.n <;> cases rowsB b.base <;> cases b.objs.all okO <;> simp
set_option maxHeartbeats 4000000 in
theorem bok_spec (w : World) (b : Bd) (ra : Option Addr) (rc : Nat) (oa : Option Addr) (oc : Nat) (h : BdA w b ra rc oa oc) :
    Calls Tryz.prog 44 #[.agg #[.int .i64 b.h, .int .i64 b.n, .slice ra b.base.length rc, .slice oa b.objs.length oc]] w fun e w' => e = .returned (.bool (bdB b)) ∧ Below w.heap.size w w' := by
  have hw0 : Below w.heap.size w (w.alloc (.cells #[.int .i64 b.h, .int .i64 b.n, .slice ra b.base.length rc, .slice oa b.objs.length oc] 27)) := by go_grown
  have hs := h.s
  have HI := Lib.hid (fun W => l12ok_spec b.h b.n W)
  have HC := Lib.hid (fun W (hW : Below w.heap.size w W) => bcells_spec W b ra rc oa oc (h.on hW))
  have HR := Lib.hid (fun W (hW : Below w.heap.size w W) => rowsok_spec W ra rc b.base (by omega) (by omega) (h.r.on hW))
  have HP := Lib.hid h.obl
  have HV := Lib.hid (bdB_spec b)
  have hcm : cellsN b.objs ≤ 2097152 := by have := cells_le b.objs; omega
  have hm : b.base.length ≤ 1048576 := by omega
  have hn : b.objs.length ≤ 1048576 := by omega
  obtain ⟨n, hN⟩ : ∃ n, b.objs.length = n := ⟨_, rfl⟩
  have HN := Lib.hid hN
  rw [hN] at hn hw0 HC ⊢
  have HS0 := Lib.hid (And.intro (Blk.new w #[.int .i64 b.h, .int .i64 b.n, .slice ra b.base.length rc, .slice oa n oc] 27 rfl) hw0)
  generalize bdB b = V at *
  generalize bnB b.h b.n = t1 at *
  generalize rowsB b.base = t4 at *
  generalize cellsN b.objs = cn at *
  generalize b.base.length = m at *
  generalize b.h = ht at *
  generalize b.n = bd at *
  generalize b.objs = l at *
  clear hs h hw0 hN
  go_enter Tryz.func44, Tryz.ntmps44
  go_wp2
  go_loopw [3] (fun v3 wr => ∃ k : Nat, k ≤ n ∧ v3 = .int .i64 (k : Int) ∧ Hid (∀ i, i < k → okO (l.getD i ob0) = true) ∧ Hid (Blk wr w.heap.size [.int .i64 ht, .int .i64 bd, .slice ra m rc, .slice oa n oc] ∧ Below w.heap.size w wr)) (fun v3 _ => n - (intOf v3).toNat)
  case atStart => exact ⟨0, Nat.zero_le _, rfl, Lib.hid (fun i hi => absurd hi (Nat.not_lt_zero i)), HS0⟩
  case round =>
    obtain ⟨k, hk, rfl, hb, hB⟩ := hrel
    obtain ⟨_, _, _, x3, _, xz⟩ := three_cells hB.out.1
    by_cases hlt : k < n
    · obtain ⟨g, rfl, hg, hc⟩ := (HP.out.on hB.out.2).some (by rw [HN.out]; omega)
      obtain ⟨pa, pc, h6, hpa, hpl⟩ := hc k (by rw [HN.out]; exact hlt)
      obtain ⟨o, hx⟩ : ∃ o, l.getD k ob0 = o := ⟨_, rfl⟩
      rw [hx] at h6 hpa hpl
      have q0 : wr.cell? ⟨g, k * 6, none⟩ = some (.slice pa o.path.length pc) := h6 0 _ rfl
      have q1 : wr.cell? ⟨g, k * 6 + 1, none⟩ = some (.int .i64 o.gray) := h6 1 _ rfl
      have q2 : wr.cell? ⟨g, k * 6 + 2, none⟩ = some (.int .i64 o.x0) := h6 2 _ rfl
      have q3 : wr.cell? ⟨g, k * 6 + 3, none⟩ = some (.int .i64 o.y0) := h6 3 _ rfl
      have q4 : wr.cell? ⟨g, k * 6 + 4, none⟩ = some (.int .i64 o.x1) := h6 4 _ rfl
      have q5 : wr.cell? ⟨g, k * 6 + 5, none⟩ = some (.int .i64 o.y1) := h6 5 _ rfl
      have i0 : (0 : Int) ≤ (k : Int) := by omega
      have i1 : (k : Int) < (n : Int) := by omega
      have HX := Lib.hid (And.intro hx (And.intro hpa hpl))
      clear hx hpa hpl hc h6
      go_wp2_with fail
      clear q0 q1 q2 q3 q4 q5 x3 xz
      ((with_reducible refine (Ins.ok_spec _ pa pc o.path o.gray o.x0 o.y0 o.x1 o.y1 HX.out.2.2 HX.out.2.1).mono ?_); rintro e w1 ⟨rfl, bb⟩)
      have HB1 := Lib.hid (And.intro (hB.out.1.keep bb) (on_of hB.out.2 bb))
      have HK9 := Lib.hid (show okO o = obK o.path o.gray o.x0 o.y0 o.x1 o.y1 from rfl)
      clear bb
      cases hp : obK o.path o.gray o.x0 o.y0 o.x1 o.y1
      · have HS := Lib.hid (all_no (p := okO) (l := l) (z := ob0) (k := k) (by rw [HN.out]; exact hlt) (by rw [HX.out.1, HK9.out]; exact hp))
        clear hp
        go_wp2
        go_ret
        exact ⟨ret_bool (by rw [HV.out, HS.out]; rfl), HB1.out.2⟩
      · have hyes : ∀ i, i < k + 1 → okO (l.getD i ob0) = true := fun i hi => by
          by_cases e : i = k
          · subst e; rw [HX.out.1, HK9.out]; exact hp
          · exact hb.out i (by omega)
        have HS := Lib.hid hyes
        clear hyes hp
        go_wp2
        go_roundw
        case rel => exact ⟨k + 1, by omega, by go_num, HS, HB1⟩
        case measure => simp [intOf]; omega
    · obtain rfl : k = n := by omega
      have HV := Lib.hid (show V = (t1 && decide ((m : Int) = ht) && t4 && decide (cn ≤ 60)) from by
        rw [HV.out, all_yes (z := ob0) (fun i hi => hb.out i (by rw [← HN.out]; exact hi)), Bool.true_and])
      obtain ⟨x0, x1, _, _, _, _⟩ := three_cells hB.out.1
      go_wp2_with fail
      clear x0 x1 x3 xz
      ((with_reducible refine (HI.out _).mono ?_); rintro e w1 ⟨rfl, bb⟩)
      have HW1 := Lib.hid (on_of hB.out.2 bb)
      have HB1 := Lib.hid (hB.out.1.keep bb)
      clear bb
      obtain ⟨c0, c1, c2, c3, _, xz⟩ := three_cells HB1.out
      cases t1
      · go_wp2
        go_ret
        exact ⟨ret_bool (by rw [HV.out]; rfl), HW1.out⟩
      · by_cases e1 : (m : Int) = ht
        · have e2 : ((m : Int) == ht) = true := by simpa using e1
          go_wp2_with fail
          ((with_reducible refine (HR.out _ HW1.out).mono ?_); rintro e w2 ⟨rfl, bb⟩)
          have HW2 := Lib.hid (on_of HW1.out bb)
          have HB2 := Lib.hid (HB1.out.keep bb)
          clear bb c0 c1 c2 c3 xz
          cases t4
          · go_wp2
            go_ret
            exact ⟨ret_bool (by rw [HV.out]; simp), HW2.out⟩
          · obtain ⟨c0, c1, c2, c3, _, xz⟩ := three_cells HB2.out
            go_wp2_with fail
            ((with_reducible refine (HC.out _ HW2.out).mono ?_); rintro e w3 ⟨rfl, bb⟩)
            have HW3 := Lib.hid (on_of HW2.out bb)
            clear bb c0 c1 c2 c3 xz
            have e4 : decide ((cn : Int) ≤ (60 : Int)) = decide (cn ≤ 60) := decide_eq_decide.2 (by omega)
            go_wp2
            go_ret
            exact ⟨ret_bool (by rw [HV.out]; simp [e1]; try omega), HW3.out⟩
        · have e2 : ((m : Int) == ht) = false := by simpa using e1
          go_wp2
          go_ret
          exact ⟨ret_bool (by rw [HV.out]; simp [e1]), HW1.out⟩
end Go.Proofs.YtbdjnfnphilklaaGreat.Own
