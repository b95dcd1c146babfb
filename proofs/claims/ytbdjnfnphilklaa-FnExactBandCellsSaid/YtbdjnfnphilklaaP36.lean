/-
  Texts of this seat, laid together: Sc13, ToBd
-/
import Derived.WalkKit
import Derived.Deep.DeepCutAuto
import Derived.Deep.QuietTactic
import Derived.BigQuiet
import Derived.Deep.RegionHeld3
import Derived.Handy
import Derived.Test.YtbdjnfnphilklaaP35
import Derived.Test.YtbdjnfnphilklaaP28
import Derived.Test.YtbdjnfnphilklaaP39
import Derived.Test.YtbdjnfnphilklaaP32
import Derived.Test.YtbdjnfnphilklaaP12
namespace Go.Proofs.Ytbdjnfnphilklaa.Own
open Go.ChangeShapes Go.WideShapes Go.ChangeAt Go.RowKit
open Kit Slabs Ints Point
open Go.Proofs.Ytbdjnfnphilklaa.Ins (obK gen_any9)
set_option linter.unusedVariables false
set_option linter.unusedSimpArgs false
set_option linter.unnecessarySimpa false
set_option maxRecDepth 100000
set_option maxHeartbeats 2000000 in
theorem bcells_spec (w : World) (b : Bd) (ra : Option Addr) (rc : Nat) (oa : Option Addr) (oc : Nat) (h : BdA w b ra rc oa oc) :
    Calls Try.prog 26 #[.agg #[.int .i64 b.h, .int .i64 b.n, .slice ra b.base.length rc, .slice oa b.objs.length oc]] w fun e w' => e = .returned (.int .i64 (cellsN b.objs : Nat)) ∧ Below w.heap.size w w' := by
  have hb0 : Below w.heap.size w (w.alloc (.cells #[.int .i64 b.h, .int .i64 b.n, .slice ra b.base.length rc, .slice oa b.objs.length oc] 32)) := by go_grown
  have HP := Lib.hid h.obl
  have HM := Lib.hid (fun k => Nat.le_trans (cells_part b.objs k) (Nat.le_trans (cells_le b.objs) (show 2 * (b.objs.length + bulkL (dO b.objs)) ≤ 2097152 by have := h.s; omega)))
  have hn0 : b.objs.length ≤ 1048576 := by have := h.s; omega
  clear h
  generalize b.base.length = m at *
  generalize b.objs = l at *
  generalize b.h = ht at *
  generalize b.n = bd at *
  obtain ⟨n, hN⟩ : ∃ n, l.length = n := ⟨_, rfl⟩
  have HN := Lib.hid hN
  rw [hN] at hn0 hb0 ⊢
  have HS := Lib.hid (And.intro (Blk.new w #[.int .i64 ht, .int .i64 bd, .slice ra m rc, .slice oa n oc] 32 rfl) hb0)
  clear hN hb0
  go_enter Try.func26, Try.ntmps26
  go_wp2
  go_loopw [3, 4] (fun v3 v4 wr => ∃ (k y : Nat), k ≤ n ∧ v4 = .int .i64 (k : Int) ∧ v3 = .int .i64 (y : Int) ∧ y ≤ 2097152 ∧ Hid (cellsN (l.take k) = y) ∧ Hid (Blk wr w.heap.size [.int .i64 ht, .int .i64 bd, .slice ra m rc, .slice oa n oc] ∧ Below w.heap.size w wr)) (fun v3 v4 _ => n - (intOf v4).toNat)
  case atStart => exact ⟨0, 0, Nat.zero_le _, rfl, rfl, by omega, Lib.hid rfl, HS⟩
  case round =>
    obtain ⟨k, y, hk, rfl, rfl, hy, hY, hB⟩ := hrel
    obtain ⟨_, _, _, x3, _, xz⟩ := three_cells hB.out.1
    by_cases hlt : k < n
    · have hkl : k < l.length := by rw [HN.out]; exact hlt
      obtain ⟨g, rfl, hg, hc⟩ := (HP.out.on hB.out.2).some (by rw [HN.out]; omega)
      obtain ⟨pa, pc, h6, hpa, hpl⟩ := hc k hkl
      have htk := cells_take hkl
      have hmx := HM.out (k + 1)
      obtain ⟨o, hx⟩ : ∃ o, l.getD k ob0 = o := ⟨_, rfl⟩
      rw [hx] at h6 hpa hpl htk
      rw [hY.out] at htk
      have q0 : wr.cell? ⟨g, k * 6, none⟩ = some (.slice pa o.path.length pc) := h6 0 _ rfl
      have i0 : (0 : Int) ≤ (k : Int) := by omega
      have i1 : (k : Int) < (n : Int) := by omega
      obtain ⟨pl, hp⟩ : ∃ pl, o.path.length = pl := ⟨_, rfl⟩
      rw [hp] at q0 hpl htk
      rw [htk] at hmx
      have HE := Lib.hid htk
      have e9 : IntKind.i64.wrap ((y : Int) + 2 + (pl : Int)) = ((y + (2 + pl) : Nat) : Int) := by rw [IntWalk.i64_in _ ⟨by omega, by omega⟩]; omega
      have e8 : IntKind.i64.wrap ((y : Int) + 2) = (y : Int) + 2 := IntWalk.i64_in _ ⟨by omega, by omega⟩
      clear hx hpa hc h6 htk hp
      go_wp2
      go_roundw
      case rel => exact ⟨k + 1, y + (2 + pl), by omega, by go_num, by simp [e9], hmx, HE, hB⟩
      case measure => simp [intOf]; omega
    · obtain rfl : k = n := by omega
      have HE := Lib.hid (show cellsN l = y by rw [← hY.out, ← HN.out, List.take_length])
      go_wp2
      go_ret
      exact ⟨ret_int (by rw [HE.out]), hB.out.2⟩
theorem bdB_spec (b : Bd) : bdB b = (b.objs.all okO && (bnB b.h b.n && decide ((b.base.length : Int) = b.h) && rowsB b.base && decide (cellsN b.objs ≤ 60))) := by
  unfold bdB
  cases bnB b.h b.n <;> cases rowsB b.base <;> cases b.objs.all okO <;> simp
set_option maxHeartbeats 4000000 in
theorem bok_spec (w : World) (b : Bd) (ra : Option Addr) (rc : Nat) (oa : Option Addr) (oc : Nat) (h : BdA w b ra rc oa oc) :
    Calls Try.prog 24 #[.agg #[.int .i64 b.h, .int .i64 b.n, .slice ra b.base.length rc, .slice oa b.objs.length oc]] w fun e w' => e = .returned (.bool (bdB b)) ∧ Below w.heap.size w w' := by
  have hw0 : Below w.heap.size w (w.alloc (.cells #[.int .i64 b.h, .int .i64 b.n, .slice ra b.base.length rc, .slice oa b.objs.length oc] 32)) := by go_grown
  have hs := h.s
  have HI := Lib.hid (fun W => l12ok_spec b.h b.n W)
  have HC := Lib.hid (fun W (hW : Below w.heap.size w W) => bcells_spec W b ra rc oa oc (h.on hW))
  have HR := Lib.hid (fun W (hW : Below w.heap.size w W) => rowsok_spec W ra rc b.base (by omega) (by omega) (h.r.on hW))
  have HP := Lib.hid h.obl
  have HV := Lib.hid (bdB_spec b)
  have hcm : cellsN b.objs ≤ 2097152 := by have := cells_le b.objs; omega
  have hm : b.base.length ≤ 1048576 := by omega
  have hn : b.objs.length ≤ 1048576 := by omega
  obtain ⟨n, hN⟩ : ∃ n, b.objs.length = n := ⟨_, rfl⟩
  have HN := Lib.hid hN
  rw [hN] at hn hw0 HC ⊢
  have HS0 := Lib.hid (And.intro (Blk.new w #[.int .i64 b.h, .int .i64 b.n, .slice ra b.base.length rc, .slice oa n oc] 32 rfl) hw0)
  generalize bdB b = V at *
  generalize bnB b.h b.n = t1 at *
  generalize rowsB b.base = t4 at *
  generalize cellsN b.objs = cn at *
  generalize b.base.length = m at *
  generalize b.h = ht at *
  generalize b.n = bd at *
  generalize b.objs = l at *
  clear hs h hw0 hN
  go_enter Try.func24, Try.ntmps24
  go_wp2
  go_loopw [3] (fun v3 wr => ∃ k : Nat, k ≤ n ∧ v3 = .int .i64 (k : Int) ∧ Hid (∀ i, i < k → okO (l.getD i ob0) = true) ∧ Hid (Blk wr w.heap.size [.int .i64 ht, .int .i64 bd, .slice ra m rc, .slice oa n oc] ∧ Below w.heap.size w wr)) (fun v3 _ => n - (intOf v3).toNat)
  case atStart => exact ⟨0, Nat.zero_le _, rfl, Lib.hid (fun i hi => absurd hi (Nat.not_lt_zero i)), HS0⟩
  case round =>
    obtain ⟨k, hk, rfl, hb, hB⟩ := hrel
    obtain ⟨_, _, _, x3, _, xz⟩ := three_cells hB.out.1
    by_cases hlt : k < n
    · obtain ⟨g, rfl, hg, hc⟩ := (HP.out.on hB.out.2).some (by rw [HN.out]; omega)
      obtain ⟨pa, pc, h6, hpa, hpl⟩ := hc k (by rw [HN.out]; exact hlt)
      obtain ⟨o, hx⟩ : ∃ o, l.getD k ob0 = o := ⟨_, rfl⟩
      rw [hx] at h6 hpa hpl
      have q0 : wr.cell? ⟨g, k * 6, none⟩ = some (.slice pa o.path.length pc) := h6 0 _ rfl
      have q1 : wr.cell? ⟨g, k * 6 + 1, none⟩ = some (.int .i64 o.gray) := h6 1 _ rfl
      have q2 : wr.cell? ⟨g, k * 6 + 2, none⟩ = some (.int .i64 o.x0) := h6 2 _ rfl
      have q3 : wr.cell? ⟨g, k * 6 + 3, none⟩ = some (.int .i64 o.y0) := h6 3 _ rfl
      have q4 : wr.cell? ⟨g, k * 6 + 4, none⟩ = some (.int .i64 o.x1) := h6 4 _ rfl
      have q5 : wr.cell? ⟨g, k * 6 + 5, none⟩ = some (.int .i64 o.y1) := h6 5 _ rfl
      have i0 : (0 : Int) ≤ (k : Int) := by omega
      have i1 : (k : Int) < (n : Int) := by omega
      have HX := Lib.hid (And.intro hx (And.intro hpa hpl))
      clear hx hpa hpl hc h6
      go_wp2_with fail
      clear q0 q1 q2 q3 q4 q5 x3 xz
      ((with_reducible refine (Ins.ok_spec _ pa pc o.path o.gray o.x0 o.y0 o.x1 o.y1 HX.out.2.2 HX.out.2.1).mono ?_); rintro e w1 ⟨rfl, bb⟩)
      have HB1 := Lib.hid (And.intro (hB.out.1.keep bb) (on_of hB.out.2 bb))
      have HK9 := Lib.hid (show okO o = obK o.path o.gray o.x0 o.y0 o.x1 o.y1 from rfl)
      clear bb
      cases hp : obK o.path o.gray o.x0 o.y0 o.x1 o.y1
      · have HS := Lib.hid (all_no (p := okO) (l := l) (z := ob0) (k := k) (by rw [HN.out]; exact hlt) (by rw [HX.out.1, HK9.out]; exact hp))
        clear hp
        go_wp2
        go_ret
        exact ⟨ret_bool (by rw [HV.out, HS.out]; rfl), HB1.out.2⟩
      · have hyes : ∀ i, i < k + 1 → okO (l.getD i ob0) = true := fun i hi => by
          by_cases e : i = k
          · subst e; rw [HX.out.1, HK9.out]; exact hp
          · exact hb.out i (by omega)
        have HS := Lib.hid hyes
        clear hyes hp
        go_wp2
        go_roundw
        case rel => exact ⟨k + 1, by omega, by go_num, HS, HB1⟩
        case measure => simp [intOf]; omega
    · obtain rfl : k = n := by omega
      have HV := Lib.hid (show V = (t1 && decide ((m : Int) = ht) && t4 && decide (cn ≤ 60)) from by
        rw [HV.out, all_yes (z := ob0) (fun i hi => hb.out i (by rw [← HN.out]; exact hi)), Bool.true_and])
      obtain ⟨x0, x1, _, _, _, _⟩ := three_cells hB.out.1
      go_wp2_with fail
      clear x0 x1 x3 xz
      ((with_reducible refine (HI.out _).mono ?_); rintro e w1 ⟨rfl, bb⟩)
      have HW1 := Lib.hid (on_of hB.out.2 bb)
      have HB1 := Lib.hid (hB.out.1.keep bb)
      clear bb
      obtain ⟨c0, c1, c2, c3, _, xz⟩ := three_cells HB1.out
      cases t1
      · go_wp2
        go_ret
        exact ⟨ret_bool (by rw [HV.out]; rfl), HW1.out⟩
      · by_cases e1 : (m : Int) = ht
        · have e2 : ((m : Int) == ht) = true := by simpa using e1
          go_wp2_with fail
          ((with_reducible refine (HR.out _ HW1.out).mono ?_); rintro e w2 ⟨rfl, bb⟩)
          have HW2 := Lib.hid (on_of HW1.out bb)
          have HB2 := Lib.hid (HB1.out.keep bb)
          clear bb c0 c1 c2 c3 xz
          cases t4
          · go_wp2
            go_ret
            exact ⟨ret_bool (by rw [HV.out]; simp), HW2.out⟩
          · obtain ⟨c0, c1, c2, c3, _, xz⟩ := three_cells HB2.out
            go_wp2_with fail
            ((with_reducible refine (HC.out _ HW2.out).mono ?_); rintro e w3 ⟨rfl, bb⟩)
            have HW3 := Lib.hid (on_of HW2.out bb)
            clear bb c0 c1 c2 c3 xz
            have e4 : decide ((cn : Int) ≤ (60 : Int)) = decide (cn ≤ 60) := decide_eq_decide.2 (by omega)
            go_wp2
            go_ret
            exact ⟨ret_bool (by rw [HV.out]; simp [e1]; try omega), HW3.out⟩
        · have e2 : ((m : Int) == ht) = false := by simpa using e1
          go_wp2
          go_ret
          exact ⟨ret_bool (by rw [HV.out]; simp [e1]), HW1.out⟩
end Go.Proofs.Ytbdjnfnphilklaa.Own
namespace Go.Proofs.Ytbdjnfnphilklaa.Own
open Go.ChangeShapes Go.WideShapes Go.ChangeAt Go.RowKit
open Kit Slabs Ints
attribute [local go_sem ↓] hload_Band hstore_Band hloadL_Band
set_option linter.unusedVariables false
set_option linter.unusedSimpArgs false
set_option linter.unnecessarySimpa false
set_option maxRecDepth 100000
set_option maxHeartbeats 8000000 in
theorem to_Band (w : World) {A : Array Value} {ds : List Dt} (hb : bulkL ds ≤ 1048576) (h : CameL w LBand A.toList ds) :
    Calls Try.prog 25 #[.agg A] w fun e w' => ∃ (R : Array Value) (fp : List Nat), e = .returned (.agg R) ∧ OwnL w' LBand R.toList ds fp ∧ fp.Nodup ∧ (∀ b ∈ fp, w.heap.size ≤ b) ∧ Below w.heap.size w w' := by
  obtain ⟨xa2, xc2, xa3, xc3, xx0_0, xx1_0, xs2, xs3, hA, rfl, ⟨ox2, mox2⟩, ⟨ox3, mox3⟩⟩ := invC_Band h
  simp only [bulkL_app, bulkL, Dt.bulk] at hb
  have BA : Blk (((w.alloc (.cells A 51)).alloc (.cells #[.int .i64 0, .int .i64 0, .slice none 0 0, .slice none 0 0] 32)).alloc (.cells #[.int .i64 xx0_0, .int .i64 xx1_0, .slice none 0 0, .slice none 0 0] 32)) w.heap.size A.toList := ((Blk.new w A 51 rfl).alloc _).alloc _
  have BR : Blk (((w.alloc (.cells A 51)).alloc (.cells #[.int .i64 0, .int .i64 0, .slice none 0 0, .slice none 0 0] 32)).alloc (.cells #[.int .i64 xx0_0, .int .i64 xx1_0, .slice none 0 0, .slice none 0 0] 32)) (w.heap.size + 1) [.int .i64 0, .int .i64 0, .slice none 0 0, .slice none 0 0] := (Blk.new _ #[.int .i64 0, .int .i64 0, .slice none 0 0, .slice none 0 0] 32 (by simp)).alloc _
  have BO : Blk (((w.alloc (.cells A 51)).alloc (.cells #[.int .i64 0, .int .i64 0, .slice none 0 0, .slice none 0 0] 32)).alloc (.cells #[.int .i64 xx0_0, .int .i64 xx1_0, .slice none 0 0, .slice none 0 0] 32)) (w.heap.size + 1 + 1) [.int .i64 xx0_0, .int .i64 xx1_0, .slice none 0 0, .slice none 0 0] := Blk.new _ #[.int .i64 xx0_0, .int .i64 xx1_0, .slice none 0 0, .slice none 0 0] 32 (by simp)
  have hW : Below w.heap.size w (((w.alloc (.cells A 51)).alloc (.cells #[.int .i64 0, .int .i64 0, .slice none 0 0, .slice none 0 0] 32)).alloc (.cells #[.int .i64 xx0_0, .int .i64 xx1_0, .slice none 0 0, .slice none 0 0] 32)) := by go_grown
  have hsz : (((w.alloc (.cells A 51)).alloc (.cells #[.int .i64 0, .int .i64 0, .slice none 0 0, .slice none 0 0] 32)).alloc (.cells #[.int .i64 xx0_0, .int .i64 xx1_0, .slice none 0 0, .slice none 0 0] 32)).heap.size = w.heap.size + 3 := by simp
  rw [hA] at BA
  have HC := Lib.hid (And.intro ox2 ox3)
  have HA0 := Lib.hid BA
  have HR0 := Lib.hid BR
  have HO0 := Lib.hid BO
  have HW0 := Lib.hid hW
  have HZ0 := Lib.hid hsz
  have ca0 : A[0]? = some (.int .i64 xx0_0) := by rw [← Array.getElem?_toList, hA]; rfl
  have ca1 : A[1]? = some (.int .i64 xx1_0) := by rw [← Array.getElem?_toList, hA]; rfl
  have ca2 : A[2]? = some (.slice xa2 xs2.length xc2) := by rw [← Array.getElem?_toList, hA]; rfl
  clear ox2 ox3 hA BA BR BO hW hsz h
  go_enter Try.func25, Try.ntmps25
  go_wp2_with fail
  obtain ⟨W0, hW0⟩ : ∃ W, W = ((w.alloc (.cells A 51)).alloc (.cells #[.int .i64 0, .int .i64 0, .slice none 0 0, .slice none 0 0] 32)).alloc (.cells #[.int .i64 xx0_0, .int .i64 xx1_0, .slice none 0 0, .slice none 0 0] 32) := ⟨_, rfl⟩
  rw [← hW0] at HA0 HR0 HO0 HW0 HZ0 ⊢
  obtain ⟨GA, hGA⟩ : ∃ g, w.heap.size = g := ⟨_, rfl⟩
  obtain ⟨GR, hGR⟩ : ∃ g, w.heap.size + 1 = g := ⟨_, rfl⟩
  obtain ⟨GO, hGO_⟩ : ∃ g, w.heap.size + 1 + 1 = g := ⟨_, rfl⟩
  rw [hGO_] at HO0 ⊢
  rw [hGR] at HR0 ⊢
  have HA0 := Lib.hid (show Blk W0 GA _ from hGA ▸ HA0.out)
  try simp only [hGA]
  have nAO : GO ≠ GA := by omega
  have nRO : GO ≠ GR := by omega
  have hGO : w.heap.size ≤ GO := by omega
  have zO : GO < W0.heap.size := by have := HZ0.out; omega
  have zR : GR < W0.heap.size := by have := HZ0.out; omega
  clear hW0 ca0 ca1 ca2
  ((with_reducible refine (to_IntSS _ _ _ _ _ (by omega) ((HC.out.1).on HW0.out)).mono ?_); rintro e w1 ⟨ra2, rc2, xF2, rfl, oo, nd0, ge0, bb⟩)
  have HAw1 := Lib.hid (HA0.out.keep bb)
  have HOw1 := Lib.hid (HO0.out.keep bb)
  have HRw1 := Lib.hid (HR0.out.keep bb)
  have HWw1 := Lib.hid (on_of HW0.out bb)
  have sz0 := bb.size
  have Hqw1_0 := Lib.hid oo
  have lt0 : ∀ b ∈ xF2, b < w1.heap.size := oo.lt
  have nO0 : GO ∉ xF2 := fun hb => by have := ge0 _ hb;  omega
  have nR0 : GR ∉ xF2 := fun hb => by have := ge0 _ hb;  omega
  have nP0 : ∀ b ∈ xF2, b ≠ GO := fun b hb e => nO0 (e ▸ hb)
  have nQ0 : ∀ b ∈ xF2, b ≠ GR := fun b hb e => nR0 (e ▸ hb)
  clear oo bb
  have ca3 := HAw1.out.1 3 (.slice xa3 xs3.length xc3) (by rfl)
  have fz := HOw1.out.2.1
  have ko2 := HOw1.out.1 2 (.slice none 0 0) (by simp)
  go_wp2_with fail
  have xO := (show Blk (w1.setCell ⟨GO, 2, none⟩ (.slice ra2 xs2.length rc2)) GO (.int .i64 xx0_0 :: (.int .i64 xx1_0 :: (.slice ra2 xs2.length rc2 :: (.slice none 0 0 :: ([]))))) from Blk.put (P := [.int .i64 xx0_0, .int .i64 xx1_0]) (R := [.slice none 0 0]) (by simpa using HOw1.out) rfl (.slice ra2 xs2.length rc2))
  have xA := (HAw1.out.other nAO 2 (.slice ra2 xs2.length rc2))
  have xR := (HRw1.out.other nRO 2 (.slice ra2 xs2.length rc2))
  have xW := ((HWw1.out).setCell (p := ⟨GO, 2, none⟩) hGO (.slice ra2 xs2.length rc2))
  have xq0 := (own_setN (Hqw1_0.out) nO0 2 (.slice ra2 xs2.length rc2))
  have xs : ((w1.setCell ⟨GO, 2, none⟩ (.slice ra2 xs2.length rc2))).heap.size = w1.heap.size := by simp [size_sets]
  generalize (w1.setCell ⟨GO, 2, none⟩ (.slice ra2 xs2.length rc2)) = V1 at xO xA xR xW xs xq0 ⊢
  have HOV1 := Lib.hid xO
  have HAV1 := Lib.hid xA
  have HRV1 := Lib.hid xR
  have HWV1 := Lib.hid xW
  have HZV1 := Lib.hid xs
  have HqV1_0 := Lib.hid xq0
  clear xO xA xR xW xs xq0
  clear ca3 fz ko2
  ((with_reducible refine (to_ObjectS _ _ _ _ _ (by omega) ((HC.out.2).on HWV1.out)).mono ?_); rintro e w2 ⟨ra3, rc3, xF3, rfl, oo, nd1, ge1, bb⟩)
  have HAw2 := Lib.hid (HAV1.out.keep bb)
  have HOw2 := Lib.hid (HOV1.out.keep bb)
  have HRw2 := Lib.hid (HRV1.out.keep bb)
  have HWw2 := Lib.hid (on_of HWV1.out bb)
  have Hqw2_0 := Lib.hid ((HqV1_0.out).under bb)
  have sz1 := bb.size
  have Hqw2_1 := Lib.hid oo
  have lt1 : ∀ b ∈ xF3, b < w2.heap.size := oo.lt
  have nO1 : GO ∉ xF3 := fun hb => by have := ge1 _ hb; have := HZV1.out; omega
  have nR1 : GR ∉ xF3 := fun hb => by have := ge1 _ hb; have := HZV1.out; omega
  have nP1 : ∀ b ∈ xF3, b ≠ GO := fun b hb e => nO1 (e ▸ hb)
  have nQ1 : ∀ b ∈ xF3, b ≠ GR := fun b hb e => nR1 (e ▸ hb)
  clear oo bb
  have fz := HOw2.out.2.1
  have ko3 := HOw2.out.1 3 (.slice none 0 0) (by simp)
  go_wp2_with fail
  have xO := (show Blk (w2.setCell ⟨GO, 3, none⟩ (.slice ra3 xs3.length rc3)) GO (.int .i64 xx0_0 :: (.int .i64 xx1_0 :: (.slice ra2 xs2.length rc2 :: (.slice ra3 xs3.length rc3 :: ([]))))) from Blk.put (P := [.int .i64 xx0_0, .int .i64 xx1_0, .slice ra2 xs2.length rc2]) (R := []) (by simpa using HOw2.out) rfl (.slice ra3 xs3.length rc3))
  have xA := (HAw2.out.other nAO 3 (.slice ra3 xs3.length rc3))
  have xR := (HRw2.out.other nRO 3 (.slice ra3 xs3.length rc3))
  have xW := ((HWw2.out).setCell (p := ⟨GO, 3, none⟩) hGO (.slice ra3 xs3.length rc3))
  have xq0 := (own_setN (Hqw2_0.out) nO0 3 (.slice ra3 xs3.length rc3))
  have xq1 := (own_setN (Hqw2_1.out) nO1 3 (.slice ra3 xs3.length rc3))
  have xs : ((w2.setCell ⟨GO, 3, none⟩ (.slice ra3 xs3.length rc3))).heap.size = w2.heap.size := by simp [size_sets]
  generalize (w2.setCell ⟨GO, 3, none⟩ (.slice ra3 xs3.length rc3)) = V2 at xO xA xR xW xs xq0 xq1 ⊢
  have HOV2 := Lib.hid xO
  have HAV2 := Lib.hid xA
  have HRV2 := Lib.hid xR
  have HWV2 := Lib.hid xW
  have HZV2 := Lib.hid xs
  have HqV2_0 := Lib.hid xq0
  have HqV2_1 := Lib.hid xq1
  clear xO xA xR xW xs xq0 xq1
  clear fz ko3
  obtain ⟨R, hR⟩ : ∃ R : Array Value, (.int .i64 xx0_0 :: (.int .i64 xx1_0 :: (.slice ra2 xs2.length rc2 :: (.slice ra3 xs3.length rc3 :: ([])))) : List Value).toArray = R := ⟨_, rfl⟩
  have RL : R.toList = .int .i64 xx0_0 :: (.int .i64 xx1_0 :: (.slice ra2 xs2.length rc2 :: (.slice ra3 xs3.length rc3 :: ([])))) := by subst hR; simp
  have lo := hload_run (P := Try.prog) (t := 32) Try.isAgg32 Try.sizeOf32 (w := V2) (b := GO) (o := 0) (us := .int .i64 xx0_0 :: (.int .i64 xx1_0 :: (.slice ra2 xs2.length rc2 :: (.slice ra3 xs3.length rc3 :: ([]))))) (Blk.part (P := []) (R := []) (by simpa using HOV2.out) rfl) (by simp )
  rw [hR] at lo
  have oR : OwnL V2 LBand (.int .i64 xx0_0 :: (.int .i64 xx1_0 :: (.slice ra2 xs2.length rc2 :: (.slice ra3 xs3.length rc3 :: ([]))))) (.int xx0_0 :: (.int xx1_0 :: (.sl xs2 :: (.sl xs3 :: ([]))))) (xF2 ++ (xF3 ++ ([]))) := .cons (cs := [.int .i64 xx0_0]) (fp := []) (.int xx0_0) (.cons (cs := [.int .i64 xx1_0]) (fp := []) (.int xx1_0) (.cons (cs := [.slice ra2 xs2.length rc2]) (fp := xF2) HqV2_0.out (.cons (cs := [.slice ra3 xs3.length rc3]) (fp := xF3) HqV2_1.out (.nil))))
  have sto := hstore_run (P := Try.prog) (t := 32) Try.sizeOf32 (w := V2) (b := GR) (o := 0) (A := []) (us := [.int .i64 0, .int .i64 0, .slice none 0 0, .slice none 0 0]) (R := []) (vs := .int .i64 xx0_0 :: (.int .i64 xx1_0 :: (.slice ra2 xs2.length rc2 :: (.slice ra3 xs3.length rc3 :: ([]))))) (by simpa using HRV2.out) rfl (by simp ) (by simp ) (fun v hv => oR.one v hv)
  rw [hR] at sto
  have BR5 := Blk.sets (P := []) (us := [.int .i64 0, .int .i64 0, .slice none 0 0, .slice none 0 0]) (vs := .int .i64 xx0_0 :: (.int .i64 xx1_0 :: (.slice ra2 xs2.length rc2 :: (.slice ra3 xs3.length rc3 :: ([]))))) (R := []) (w := V2) (b := GR) (o := 0) (by simpa using HRV2.out) rfl (by simp )
  have e5 := Below.setCells (b := GR) (by omega) (.int .i64 xx0_0 :: (.int .i64 xx1_0 :: (.slice ra2 xs2.length rc2 :: (.slice ra3 xs3.length rc3 :: ([]))))) 0 HWV2.out
  have o5 := ownL_sets oR (b := GR) (fun x hx => (List.mem_append.1 hx).elim (fun h => nQ0 x h) (fun hx1 => (List.mem_append.1 hx1).elim (fun h => nQ1 x h) (fun hx2 => absurd hx2 List.not_mem_nil))) 0 (.int .i64 xx0_0 :: (.int .i64 xx1_0 :: (.slice ra2 xs2.length rc2 :: (.slice ra3 xs3.length rc3 :: ([])))))
  generalize V2.setCells GR 0 (.int .i64 xx0_0 :: (.int .i64 xx1_0 :: (.slice ra2 xs2.length rc2 :: (.slice ra3 xs3.length rc3 :: ([]))))) = V5 at sto BR5 e5 o5
  have re := hload_run (P := Try.prog) (t := 32) Try.isAgg32 Try.sizeOf32 (w := V5) (b := GR) (o := 0) (us := .int .i64 xx0_0 :: (.int .i64 xx1_0 :: (.slice ra2 xs2.length rc2 :: (.slice ra3 xs3.length rc3 :: ([]))))) (Blk.part (P := []) (R := []) (by simpa using BR5) rfl) (by simp )
  rw [hR] at re
  rw [← RL] at o5
  have HF := Lib.hid (And.intro o5 (And.intro e5 re))
  clear oR BR5 e5 o5 re RL hR
  rw [lo]
  go_wp2_with fail
  try (rw [sto]; go_wp2_with fail)
  refine bodyPost_ret (v := .agg R) ?_ rfl ⟨R, _, rfl, HF.out.1, ?_, ?_, HF.out.2.1⟩
  · exact results_h Try.results25 (by rfl) HF.out.2.2
  · have hall : ∀ (i j : Nat), True := fun _ _ => trivial
    have n2 : ([] : List Nat).Nodup := List.nodup_nil
    have n1 : (xF3 ++ ([])).Nodup := List.nodup_append.2 ⟨nd1, n2, fun x hx y hy e => by have a1 := lt1 x hx; have a2 := (show ∀ y ∈ [], x < y from fun y hx => absurd hx List.not_mem_nil) y hy; omega⟩
    have n0 : (xF2 ++ (xF3 ++ ([]))).Nodup := List.nodup_append.2 ⟨nd0, n1, fun x hx y hy e => by have a1 := lt0 x hx; have a2 := (show ∀ y ∈ xF3 ++ ([]), x < y from fun y hx => (List.mem_append.1 hx).elim (fun h => by have := ge1 y h; have := HZV1.out; omega) (fun hx2 => absurd hx2 List.not_mem_nil)) y hy; omega⟩
    exact n0
  · intro b hx
    exact (List.mem_append.1 hx).elim (fun h => (fun h => by have := ge0 b h; have := HZV1.out; omega) h) (fun hx1 => (List.mem_append.1 hx1).elim (fun h => (fun h => by have := ge1 b h; have := HZV1.out; omega) h) (fun hx2 => absurd hx2 List.not_mem_nil))
end Go.Proofs.Ytbdjnfnphilklaa.Own
