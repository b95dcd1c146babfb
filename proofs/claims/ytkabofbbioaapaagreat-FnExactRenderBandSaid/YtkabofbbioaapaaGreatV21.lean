/-
  Texts of this seat, laid together: Ins8, PsI8
-/
import Derived.StillTailTactics
import Derived.Deep.RegionHeld3
import Derived.Deep.QuietTactic
import Derived.BigQuiet
import Derived.IntWalk
import Derived.Deep.Cut
import Derived.Test.YtkabofbbioaapaaGreatV04
import Derived.Test.YtkabofbbioaapaaGreatV10
namespace Go.Proofs.YtkabofbbioaapaaGreat.Ins
open Go.ChangeShapes Go.WideShapes Go.ChangeAt Go.RowKit
open Kit Point
set_option linter.unusedVariables false
set_option linter.unusedSimpArgs false
set_option linter.unnecessarySimpa false
def insK (l : List Pt) (x y : Int) (k : Nat) : Bool := odd (((sides l).take k).map fun s => crs s.1 s.2 x y)
theorem insK_zero (l : List Pt) (x y : Int) : insK l x y 0 = false := by simp [insK, odd]
theorem insK_all (l : List Pt) (x y : Int) : insK l x y l.length = insP l x y := by
  unfold insK insP; rw [List.take_of_length_le (by rw [sides_len]; omega)]
theorem getp (l : List Pt) {k : Nat} (h : k < l.length) : l[k] = (pX l k, pY l k) := by
  simp [pX, pY, List.getD, List.getElem?_eq_getElem h]
theorem insK_succ (l : List Pt) (x y : Int) {k : Nat} (h : k < l.length) :
    insK l x y (k + 1) = (insK l x y k != crs (pX l k, pY l k) (pX l ((k + 1) % l.length), pY l ((k + 1) % l.length)) x y) := by
  unfold insK
  rw [List.take_add_one, sides_get l k h, List.map_append, odd_app]
  rw [getp l h, getp l (Nat.mod_lt (k + 1) (by omega))]
  simp [odd]
theorem ptsB_at {l : List Pt} (h : ptsB l = true) {k : Nat} (hk : k < l.length) : pokB (pX l k) (pY l k) = true := by
  rw [ptsB, List.all_eq_true] at h
  have := h _ (List.getElem_mem hk)
  rwa [getp l hk] at this
set_option maxRecDepth 100000 in
set_option maxHeartbeats 1000000 in
theorem in_spec (w : World) (a : Option Addr) (c : Nat) (l : List Pt) (x y : Int) (hn : l.length ≤ 1048576) (h : PathAt w a l) (hok : ptsB l = true) (hx : inB x = true) (hy : inB y = true) :
    Calls Tryz.prog 137 #[.slice a l.length c, .int .i64 x, .int .i64 y] w fun e w' => e = .returned (.bool (insP l x y)) ∧ Below w.heap.size w w' := by
  have HP := Lib.hid h
  have HO := Lib.hid (And.intro hok (And.intro hx hy))
  clear hok hx hy
  rcases h with rfl | ⟨g, rfl, hg, _⟩
  · go_enter Tryz.func137, Tryz.ntmps137
    go_wp2
    go_rounds 1
    go_ret
    exact ⟨rfl, Below.refl _ _⟩
  · obtain ⟨n, hN⟩ : ∃ n, l.length = n := ⟨_, rfl⟩
    have HN := Lib.hid hN
    rw [hN] at hn ⊢
    clear hN
    go_enter Tryz.func137, Tryz.ntmps137
    go_wp2
    go_loopw [7, 8] (fun v7 v8 wr => ∃ k : Nat, k ≤ n ∧ v8 = .int .i64 (k : Int) ∧ v7 = .bool (insK l x y k) ∧ Below w.heap.size w wr) (fun v7 v8 _ => n - (intOf v8).toNat)
    case atStart => exact ⟨0, Nat.zero_le _, rfl, by rw [insK_zero], Below.refl _ _⟩
    case round =>
      obtain ⟨k, hk, rfl, rfl, hB⟩ := hrel
      by_cases hlt : k < n
      · have hP := HP.out.on hB
        rcases hP with he | ⟨g', hg', hlg, hc⟩
        · have := HN.out; rw [he] at this; simp at this; omega
        · injection hg' with hg'
          injection hg' with hg'
          subst hg'
          obtain ⟨m, hm⟩ : ∃ m, (k + 1) % n = m := ⟨_, rfl⟩
          have hmn : m < n := by rw [← hm]; exact Nat.mod_lt _ (by omega)
          obtain ⟨q1, q2⟩ := hc k (by rw [HN.out]; exact hlt)
          obtain ⟨q3, q4⟩ := hc m (by rw [HN.out]; exact hmn)
          have hp1 := ptsB_at HO.out.1 (k := k) (by rw [HN.out]; exact hlt)
          have hp2 := ptsB_at HO.out.1 (k := m) (by rw [HN.out]; exact hmn)
          have hs := insK_succ l x y (k := k) (by rw [HN.out]; exact hlt)
          rw [HN.out, hm] at hs
          generalize pX l k = ax at q1 hp1 hs
          generalize pY l k = ay at q2 hp1 hs
          generalize pX l m = bx at q3 hp2 hs
          generalize pY l m = b1 at q4 hp2 hs
          have HS := Lib.hid hs
          have HQ := Lib.hid (And.intro hp1 hp2)
          clear hs hp1 hp2 hc
          have i0 : (0 : Int) ≤ (k : Int) := by omega
          have i1 : (k : Int) < (n : Int) := by omega
          have i2 : (0 : Int) ≤ (m : Int) := by omega
          have i3 : (m : Int) < (n : Int) := by omega
          have hn0 : ¬ n = 0 := by omega
          have j1 : IntKind.i64.wrap ((k : Int) + 1) = (k : Int) + 1 := IntWalk.i64_in _ (by omega)
          have j2 : ((k : Int) + 1).tmod (n : Int) = (m : Int) := by
            rw [← hm, show ((k : Int) + 1) = ((k + 1 : Nat) : Int) by omega, Int.ofNat_tmod]
          have j3 : IntKind.i64.wrap (m : Int) = (m : Int) := IntWalk.i64_in _ (by omega)
          have HB := Lib.hid hB
          clear hB hm
          go_upto_region 5 with (fail)
          refine wp_region_still_tail 14 (by kernel_rfl) (by kernel_rfl) ?_
          change wpStill _ _ wr.drew (fun a' => wpList _ _ _ _ a' wr.drew) _ _
          have z1 : Below w.heap.size w wr.drew := HB.out.trans ⟨rfl, rfl, rfl, Nat.le_refl _, fun _ _ => rfl⟩
          have hlg : g < wr.drew.heap.size := hlg
          have q1 : wr.drew.cell? ⟨g, k * 2, none⟩ = some (.int .i64 ax) := q1
          have q2 : wr.drew.cell? ⟨g, k * 2 + 1, none⟩ = some (.int .i64 ay) := q2
          have q3 : wr.drew.cell? ⟨g, m * 2, none⟩ = some (.int .i64 bx) := q3
          have q4 : wr.drew.cell? ⟨g, m * 2 + 1, none⟩ = some (.int .i64 b1) := q4
          have HZ := Lib.hid z1
          clear z1
          generalize wr.drew = wd at *
          simp only [List.take_succ_cons, List.take_zero, List.drop_succ_cons, List.drop_zero]
          repeat still_step
          refine wpStill_nil ?_
          clear i0 i1 i2 i3 hn0 j1 j2 j3
          go_wp2_with fail
          ((with_reducible refine (cr_spec ax ay bx b1 x y _ HQ.out.1 HQ.out.2 HO.out.2.1 HO.out.2.2).mono ?_); rintro e w1 ⟨rfl, bb⟩)
          have hB1 := on_of HZ.out bb
          have HB1 := Lib.hid hB1
          clear hB1 bb q1 q2 q3 q4
          generalize crs (ax, ay) (bx, b1) x y = r at *
          cases r
          · have e := HS.out
            simp only [Bool.bne_false] at e
            rw [← e]
            have i1 : (k : Int) < (n : Int) := by omega
            clear e
            go_wp2
            go_roundw
            case rel => exact ⟨k + 1, by omega, by go_num, rfl, HB1.out⟩
            case measure => simp [intOf]; omega
          · have e : insK l x y (k + 1) = !(insK l x y k) := by rw [HS.out]; simp
            have HE := Lib.hid e
            clear e
            generalize insK l x y k = b at *
            have i1 : (k : Int) < (n : Int) := by omega
            go_wp2
            go_roundw
            case rel => exact ⟨k + 1, by omega, by go_num, by rw [HE.out], HB1.out⟩
            case measure => simp [intOf]; omega
      · obtain rfl : k = n := by omega
        have HB := Lib.hid hB
        clear hB
        go_wp2
        go_ret
        exact ⟨ret_bool (by rw [← HN.out, insK_all]), HB.out⟩
end Go.Proofs.YtkabofbbioaapaaGreat.Ins
namespace Go.Proofs.YtkabofbbioaapaaGreat.Ins
open Go.ChangeShapes Go.WideShapes Go.ChangeAt Go.RowKit
open Kit Point
set_option linter.unusedVariables false
set_option linter.unusedSimpArgs false
set_option linter.unnecessarySimpa false
def byd (lx ly hx hy x y : Int) : Int := (2 * (lx - x) - 1) * (hy - ly) + (2 * (y - ly) + 1) * (hx - lx)
def psL (lx ly hx hy x y : Int) : Int := if y < ly ∨ hy ≤ y then 0 else if 0 < byd lx ly hx hy x y then 2 else 1
def psV (ax ay bx b1 x y : Int) : Int := if b1 < ay then psL bx b1 ax ay x y else psL ax ay bx b1 x y
theorem byd_lt (lx ly hx hy x y : Int) : 0 < byd lx ly hx hy x y ↔ (2 * x + 1 - 2 * lx) * 2 * (hy - ly) < (2 * y + 1 - 2 * ly) * 2 * (hx - lx) := by
  unfold byd
  have e1 : (2 * x + 1 - 2 * lx) * 2 * (hy - ly) = -(2 * ((2 * (lx - x) - 1) * (hy - ly))) := by
    rw [show (2 * x + 1 - 2 * lx) * 2 = -(2 * (2 * (lx - x) - 1)) by omega, Int.neg_mul, Int.mul_assoc]
  have e2 : (2 * y + 1 - 2 * ly) * 2 * (hx - lx) = 2 * ((2 * (y - ly) + 1) * (hx - lx)) := by
    rw [show (2 * y + 1 - 2 * ly) * 2 = 2 * (2 * (y - ly) + 1) by omega, Int.mul_assoc]
  rw [e1, e2]; omega
theorem psL_two (lx ly hx hy x y : Int) : psL lx ly hx hy x y = 2 ↔ ly ≤ y ∧ y < hy ∧ 0 < byd lx ly hx hy x y := by
  unfold psL
  by_cases h : y < ly ∨ hy ≤ y
  · rw [if_pos h]; omega
  · rw [if_neg h]; by_cases h2 : 0 < byd lx ly hx hy x y
    · rw [if_pos h2]; omega
    · rw [if_neg h2]; omega
theorem ps_crs (ax ay bx b1 x y : Int) : decide (psV ax ay bx b1 x y = 2) = crs (ax, ay) (bx, b1) x y := by
  unfold psV crs
  by_cases hl : b1 < ay
  · rw [if_pos hl]
    simp only [psL_two, byd_lt]
    by_cases h : (decide (2 * y + 1 < 2 * ay) == decide (2 * y + 1 < 2 * b1)) = true
    · rw [if_pos h, decide_eq_false_iff_not]; simp only [beq_iff_eq, decide_eq_decide] at h; omega
    · rw [if_neg h, if_pos hl, decide_eq_decide]; simp only [beq_iff_eq, decide_eq_decide] at h
      refine ⟨fun k => k.2.2, fun k => ⟨by omega, by omega, k⟩⟩
  · rw [if_neg hl]
    simp only [psL_two, byd_lt]
    by_cases h : (decide (2 * y + 1 < 2 * ay) == decide (2 * y + 1 < 2 * b1)) = true
    · rw [if_pos h, decide_eq_false_iff_not]; simp only [beq_iff_eq, decide_eq_decide] at h; omega
    · rw [if_neg h, if_neg hl, decide_eq_decide]; simp only [beq_iff_eq, decide_eq_decide] at h
      refine ⟨fun k => k.2.2, fun k => ⟨by omega, by omega, k⟩⟩
set_option maxHeartbeats 1000000 in
theorem ps_impl (ax ay bx b1 x y : Int) (w : World) (ha : pokB ax ay = true) (hb : pokB bx b1 = true) (hx : inB x = true) (hy : inB y = true) :
    Calls Tryz.prog 153 #[.agg #[.int .i64 ax, .int .i64 ay, .int .i64 bx, .int .i64 b1], .int .i64 x, .int .i64 y] w fun e w' => e = .returned (.int .i64 (psV ax ay bx b1 x y)) ∧ Below w.heap.size w w' := by
  simp only [pokB, Bool.and_eq_true] at ha hb
  obtain ⟨a0, a1⟩ := ha
  obtain ⟨c0, c1⟩ := hb
  have a2 := inB_true a0; have a3 := inB_true a1; have c2 := inB_true c0; have c3 := inB_true c1; have x2 := inB_true hx; have y2 := inB_true hy
  clear a0 a1 c0 c1 hx hy
  by_cases hl : b1 < ay
  · have HV : psV ax ay bx b1 x y = psL bx b1 ax ay x y := by simp [psV, hl]
    rw [HV]
    clear HV
    obtain ⟨m0, m1⟩ := @mul_bd (2 * (bx - x) - 1) (ay - b1) 802 400 (by omega) (by omega)
    obtain ⟨m2, m3⟩ := @mul_bd (2 * (y - b1) + 1) (ax - bx) 802 400 (by omega) (by omega)
    rcases (show y < b1 ∨ (b1 ≤ y ∧ ay ≤ y) ∨ (b1 ≤ y ∧ y < ay) by omega) with h | ⟨h, h2⟩ | ⟨h, h2⟩
    · rw [show psL bx b1 ax ay x y = 0 by simp [psL, h]]
      go_enter Tryz.func153, Tryz.ntmps153
      go_upto_region 1 with (fail)
      go_region
      all_goals
        go_wp2
        go_ret
        exact ⟨rfl, by go_grown⟩
    · rw [show psL bx b1 ax ay x y = 0 by simp [psL, h2]]
      go_enter Tryz.func153, Tryz.ntmps153
      go_upto_region 1 with (fail)
      go_region
      all_goals
        go_wp2
        go_ret
        exact ⟨rfl, by go_grown⟩
    · have HL : psL bx b1 ax ay x y = if 0 < byd bx b1 ax ay x y then 2 else 1 := by
        unfold psL; rw [if_neg (by omega)]
      rw [HL]; clear HL
      by_cases hz : 0 < byd bx b1 ax ay x y
      · rw [if_pos hz]; unfold byd at hz
        go_enter Tryz.func153, Tryz.ntmps153
        go_upto_region 1 with (fail)
        go_region
        all_goals
          go_wp2
          go_ret
          exact ⟨rfl, by go_grown⟩
      · rw [if_neg hz]; unfold byd at hz
        go_enter Tryz.func153, Tryz.ntmps153
        go_upto_region 1 with (fail)
        go_region
        all_goals
          go_wp2
          go_ret
          exact ⟨rfl, by go_grown⟩
  · have HV : psV ax ay bx b1 x y = psL ax ay bx b1 x y := by simp [psV, hl]
    have hl : ay ≤ b1 := by omega
    rw [HV]
    clear HV
    obtain ⟨m0, m1⟩ := @mul_bd (2 * (ax - x) - 1) (b1 - ay) 802 400 (by omega) (by omega)
    obtain ⟨m2, m3⟩ := @mul_bd (2 * (y - ay) + 1) (bx - ax) 802 400 (by omega) (by omega)
    rcases (show y < ay ∨ (ay ≤ y ∧ b1 ≤ y) ∨ (ay ≤ y ∧ y < b1) by omega) with h | ⟨h, h2⟩ | ⟨h, h2⟩
    · rw [show psL ax ay bx b1 x y = 0 by simp [psL, h]]
      go_enter Tryz.func153, Tryz.ntmps153
      go_upto_region 1 with (fail)
      go_region
      all_goals
        go_wp2
        go_ret
        exact ⟨rfl, by go_grown⟩
    · rw [show psL ax ay bx b1 x y = 0 by simp [psL, h2]]
      go_enter Tryz.func153, Tryz.ntmps153
      go_upto_region 1 with (fail)
      go_region
      all_goals
        go_wp2
        go_ret
        exact ⟨rfl, by go_grown⟩
    · have HL : psL ax ay bx b1 x y = if 0 < byd ax ay bx b1 x y then 2 else 1 := by
        unfold psL; rw [if_neg (by omega)]
      rw [HL]; clear HL
      by_cases hz : 0 < byd ax ay bx b1 x y
      · rw [if_pos hz]; unfold byd at hz
        go_enter Tryz.func153, Tryz.ntmps153
        go_upto_region 1 with (fail)
        go_region
        all_goals
          go_wp2
          go_ret
          exact ⟨rfl, by go_grown⟩
      · rw [if_neg hz]; unfold byd at hz
        go_enter Tryz.func153, Tryz.ntmps153
        go_upto_region 1 with (fail)
        go_region
        all_goals
          go_wp2
          go_ret
          exact ⟨rfl, by go_grown⟩
end Go.Proofs.YtkabofbbioaapaaGreat.Ins
