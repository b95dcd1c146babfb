/-
  The law FnObjects holds of every argument: a drawn object paints in each row the dots that are inside its path and its clip, all of them in its box; their number is ObjectDots, at most that of the box; the object is valid, and it can be moved by 1 and back. No condition (the law itself returns true at more than 1048576 bytes).
  The frame of the proof was written by a tool of this repo after the guide's shells; the walk is this text's own.
-/
import Derived.Test.YtejnfdpckipbeaaRows
import Derived.WalkKit
import Derived.ProofKit
import Derived.OpenShut
import Derived.ShutString
import Derived.ChangeOld
import Derived.ChangeArms
import Derived.Below
import Derived.Handy
import Derived.Lib.SmallJoins
import Derived.Lib.Hide
import Derived.Test.YtejnfdpckipbeaaP40
import Derived.Test.YtejnfdpckipbeaaP41
import Derived.Test.YtejnfdpckipbeaaP29
import Derived.Test.YtejnfdpckipbeaaP06
import Derived.Test.YtejnfdpckipbeaaP25
import Derived.Test.YtejnfdpckipbeaaP32
namespace Go.Proofs.Ytejnfdpckipbeaa.fnObjects
open Go.ChangeShapes Go.WideShapes Go.ChangeAt Go.RowKit
open Go.ChangeMaps (open_string shut_string)
open Kit
open Slabs
open Draw
open Ins
set_option linter.unusedVariables false
set_option linter.unusedSimpArgs false
theorem own : ownKnob Try.prog.godebug = none := by kernel_rfl
theorem laidOut : laidOutB Try.prog = true := by kernel_rfl
structure FoS (W w : World) (GO : Nat) (a : Option Addr) (n c : Nat) (g x0 y0 x1 y1 : Int) (l : List Pt) : Prop where
  O : Own.Blk W GO [.slice a n c, .int .i64 g, .int .i64 x0, .int .i64 y0, .int .i64 x1, .int .i64 y1]
  P : W.ownsRow w.heap.size 89 2 (.slice a l.length c) l.length (cellsP l)
  B : Below w.heap.size w W
theorem FoS.on {W V w : World} {GO : Nat} {a : Option Addr} {n c : Nat} {g x0 y0 x1 y1 : Int} {l : List Pt} (h : FoS W w GO a n c g x0 y0 x1 y1 l) (hb : Below W.heap.size W V) : FoS V w GO a n c g x0 y0 x1 y1 l :=
  ⟨h.O.keep hb, owns_below h.P hb, on_of h.B hb⟩
theorem FoS.path {W w : World} {GO : Nat} {a : Option Addr} {n c : Nat} {g x0 y0 x1 y1 : Int} {l : List Pt} (h : FoS W w GO a n c g x0 y0 x1 y1 l) : PathAt W a l := by
  obtain ⟨a', c', e, hp⟩ := path_of_owns h.P
  injection e with e1 e2 e3
  subst e1
  exact hp
set_option maxRecDepth 100000 in
set_option maxHeartbeats 8000000 in
theorem walk (w : World) (a0 : Option Addr) (l0 p0c : Nat) (z0 : List Int) (wa0 : IsRow .u8 w a0 l0 p0c z0) :
    Calls Try.prog 3 #[.slice a0 l0 p0c] w fun e w' => e = .returned (.bool true) ∧ Below w.heap.size w w' := by
  have hl := row_len wa0
  have HR := Lib.hid wa0
  clear wa0
  by_cases hbig : (1048576 : Int) < l0
  · go_enter Try.func3, Try.ntmps3
    go_wp2_with (go_at_call 10; refine (big_on _ _ _ _ hl).mono ?_; rintro e w' ⟨rfl, rfl⟩)
    go_ret
    exact ⟨rfl, Below.refl _ _⟩
  · have hbig0 : decide ((1048576 : Int) < (l0 : Int)) = false := by simpa using hbig
    go_enter Try.func3, Try.ntmps3
    go_wp2_with fail
    (refine (big_on _ _ _ _ hl).mono ?_; rintro e w' ⟨rfl, rfl⟩)
    go_wp2_with fail
    (refine (object_any _ _ _ _ _ HR.out).mono ?_; rintro e w1 ⟨a, c, l, g, x0, y0, x1, y1, rfl, h3, h6, hS, hg, hX, ho, hb1⟩)
    have HD : Hid (DrO l g x0 y0 x1 y1) := Lib.hid ⟨h3, h6, hS, hg, hX⟩
    have H1 := Lib.hid (And.intro ho hb1)
    have hn : l.length ≤ 1048576 := by omega
    have HN := Lib.hid hn
    clear h3 h6 hS hg hX ho hb1 hn
    go_upto_region 4 with fail
    refine gen_any9 (fun V => FoS V w w1.heap.size a l.length c g x0 y0 x1 y1 l) ⟨Own.Blk.new w1 _ _ rfl, owns_below H1.out.1 (by go_grown), by have := H1.out.2; have := this.size; go_grown⟩ ?_
    intro V1 hS
    obtain ⟨GO, hGO⟩ : ∃ x, w1.heap.size = x := ⟨_, rfl⟩
    rw [hGO] at hS
    simp only [hGO]
    have HS := Lib.hid hS
    clear hS hGO H1
    go_wp2_with fail
    (refine (PlAll.places_all _ _ _ _ _ (IsRow.keep HR.out HS.out.B)).mono ?_; rintro e w2 ⟨gp, gc, Q, hQ, hc2, rfl, hg1, hg2, hb2⟩)
    have HS := Lib.hid (HS.out.on hb2)
    have HQ := Lib.hid hQ
    have HP : Hid (∀ V, Below w2.heap.size w2 V → ∀ i, i < 12 → V.cell? ⟨gp, i, none⟩ = some (.int .i64 (Q i))) := Lib.hid (fun V hb i hi => (hb.cell (p := ⟨gp, _, none⟩) hg2).trans (hc2 i hi))
    clear hb2 hQ hc2 hg1
    obtain ⟨k0, k1, k2, k3, k4, k5, _, hzA⟩ := six HS.out.O
    have HBX := Lib.hid (fun W (h : PathAt W a l) => obox_impl W a c l g x0 y0 x1 y1 HN.out h)
    have HBI : Hid (∀ x y : Int, (0 ≤ x ∧ x < 32) → (0 ≤ y ∧ y < 32) → inpB l x y = true → Dot.inboxB x0 y0 x1 y1 x y = true → Dot.inboxB (obx l g x0 y0 x1 y1).x0 (obx l g x0 y0 x1 y1).y0 (obx l g x0 y0 x1 y1).x1 (obx l g x0 y0 x1 y1).y1 x y = true) := Lib.hid (fun x y hx hy h1 h2 => HD.out.box_in hx hy h1 h2)
    have HSU := Lib.hid HD.out.sum
    generalize obx l g x0 y0 x1 y1 = b at *
    obtain ⟨b0, b1, b2, b3⟩ := b
    simp only [Bx.v] at HBX HBI HSU
    go_wp2_with fail
    clear k0 k1 k2 k3 k4 k5 hzA
    ((with_reducible refine (HBX.out _ HS.out.path).mono ?_); rintro e w3 ⟨rfl, bb⟩)
    have HS := Lib.hid (HS.out.on bb)
    have H3 := Lib.hid bb
    clear bb
    go_upto_region 6 with fail
    refine gen_any9 (fun V => FoS V w GO a l.length c g x0 y0 x1 y1 l ∧ Four V w3.heap.size b0 b1 b2 b3 ∧ Below w2.heap.size w2 V) ⟨HS.out.on (by go_grown), Four.new _ _ _ _ _ _, by have := H3.out; have := this.size; go_grown⟩ ?_
    rintro V2 ⟨hS, hF, hB2⟩
    obtain ⟨GB, hGB⟩ : ∃ x, w3.heap.size = x := ⟨_, rfl⟩
    rw [hGB] at hF
    simp only [hGB]
    have HS := Lib.hid hS
    have HF := Lib.hid hF
    have HP2 : Hid (∀ V, Below V2.heap.size V2 V → ∀ i, i < 12 → V.cell? ⟨gp, i, none⟩ = some (.int .i64 (Q i))) := Lib.hid (fun V hb => HP.out V (on_of hB2 hb))
    clear hS hF hB2 hGB H3 HP
    have HRW := Lib.hid (fun W y (h : PathAt W a l) => orow_impl W a c l g x0 y0 x1 y1 y HN.out h)
    have HLN : Hid (∀ y, (orow l g x0 y0 x1 y1 y).length ≤ 1048576) := Lib.hid (fun y => Nat.le_trans (orow_len _ _ _ _ _ _ _) HN.out)
    have HIN := Lib.hid (fun x y (hx : 0 ≤ x ∧ x < 32) (hy : 0 ≤ y ∧ y < 32) => HD.out.row_in (x := x) (y := y) hx hy)
    have HDT := Lib.hid (fun W (h : PathAt W a l) => odots_impl W a c l g x0 y0 x1 y1 HN.out h)
    unfold odV at HDT HSU
    generalize orow l g x0 y0 x1 y1 = r at *
    obtain ⟨f, hf⟩ : ∃ f : Nat → Int, (fun k : Nat => dtV (r (k : Int))) = f := ⟨_, rfl⟩
    have HFk : Hid (∀ k : Nat, dtV (r (k : Int)) = f k) := Lib.hid (fun k => congrFun hf k)
    rw [hf] at HDT HSU
    clear hf
    go_wp2
    go_loopw [6, 7] (fun v6 v7 wr => ∃ y : Nat, y ≤ 32 ∧ v7 = .int .i64 (y : Int) ∧ v6 = .int .i64 (odK f y) ∧ Below V2.heap.size V2 wr) (fun _ v7 _ => 32 - (intOf v7).toNat)
    case atStart => exact ⟨0, Nat.zero_le _, rfl, rfl, Below.refl _ _⟩
    case round =>
      obtain ⟨y, hy, rfl, rfl, hB⟩ := hrel
      have HC := Lib.hid (odK_succ f y)
      by_cases hlt : y < 32
      · have i1 : (y : Int) < 32 := by omega
        have HB := Lib.hid hB
        clear hB
        generalize odK f y = s at *
        have HSr := Lib.hid (HS.out.on HB.out)
        obtain ⟨k0, k1, k2, k3, k4, k5, _, hzA⟩ := six HSr.out.O
        go_wp2_with fail
        clear k0 k1 k2 k3 k4 k5 hzA
        ((with_reducible refine (HRW.out _ _ HSr.out.path).mono ?_); rintro e w4 ⟨v, rfl, hv, bb⟩)
        obtain ⟨va, vc, rfl, hp⟩ := path_of_owns hv
        have HV := Lib.hid hp
        have HB4 := Lib.hid (on_of HB.out bb)
        clear hp hv bb
        go_wp2_with fail
        ((with_reducible refine (dots_impl _ _ _ _ (HLN.out _) HV.out).mono ?_); rintro e w5 ⟨rfl, bb⟩)
        rw [HFk.out]
        have HV := Lib.hid (HV.out.on bb)
        have HB5 := Lib.hid (on_of HB4.out bb)
        clear bb
        obtain ⟨j, hj⟩ : ∃ j, y % 12 = j := ⟨_, rfl⟩
        have hj12 : j < 12 := by omega
        have hji : (y : Int) % 12 = (j : Int) := by omega
        have hji2 : (y : Int).tmod 12 = (j : Int) := by rw [Int.tmod_eq_emod_of_nonneg (by omega)]; exact hji
        have q0 := HP2.out _ HB5.out j hj12
        have hq := HQ.out j hj12
        generalize Q j = q at q0 hq
        have q1 : 0 ≤ q * (1 + (y : Int)) ∧ q * (1 + (y : Int)) ≤ 10000 * 32 := ⟨Int.mul_nonneg hq.1 (by omega), Int.mul_le_mul (by omega) (by omega) (by omega) (by omega)⟩
        have hx0 : 0 ≤ q * (1 + (y : Int)) % 32 ∧ q * (1 + (y : Int)) % 32 < 32 := ⟨Int.emod_nonneg _ (by omega), Int.emod_lt_of_pos _ (by omega)⟩
        have hxt : (q * (1 + (y : Int))).tmod 32 = q * (1 + (y : Int)) % 32 := Int.tmod_eq_emod_of_nonneg q1.1
        obtain ⟨x, hx⟩ : ∃ x, q * (1 + (y : Int)) % 32 = x := ⟨_, rfl⟩
        rw [hx] at hx0 hxt
        have hy32 : 0 ≤ (y : Int) ∧ (y : Int) < 32 := by omega
        have j0 : (0 : Int) ≤ (j : Int) := by omega
        have j1 : (j : Int) < 12 := by omega
        have y1' : (0 : Int) ≤ (y : Int) := by omega
        have HI := Lib.hid (fun V (h : PathAt V a l) => inp_impl V a c l x (y : Int) HN.out h)
        have HCx := Lib.hid (fun V => Dot.inbox_impl x0 y0 x1 y1 x (y : Int) V (by omega) (by omega))
        have HBx := Lib.hid (fun V => Dot.inbox_impl b0 b1 b2 b3 x (y : Int) V (by omega) (by omega))
        have HSx := Lib.hid (fun V (h : PathAt V va (r (y : Int))) => in_impl9 V va vc (r (y : Int)) x (HLN.out _) h)
        rw [HIN.out x (y : Int) hx0 hy32] at HSx
        have hBI := HBI.out x (y : Int) hx0 hy32
        generalize inpB l x (y : Int) = p at HI HSx hBI
        generalize Dot.inboxB x0 y0 x1 y1 x (y : Int) = c1 at HCx HSx hBI
        generalize Dot.inboxB b0 b1 b2 b3 x (y : Int) = c2 at HBx hBI
        have HBIx := Lib.hid hBI
        clear hBI
        have HS5 := Lib.hid (HS.out.on HB5.out)
        obtain ⟨k0, k1, k2, k3, k4, k5, _, hzA⟩ := six HS5.out.O
        have HM : Hid (((y + 1 : Nat) : Int) = (y : Int) + 1) := Lib.hid (by omega)
        generalize f y = t at *
        go_wp2_with fail
        clear k0 k1 k2 k3 k4 k5 hzA q0 hxt hx hji hji2 q1 hq j0 j1
        ((with_reducible refine (HI.out _ HS5.out.path).mono ?_); rintro e w6 ⟨rfl, bb⟩)
        have HV := Lib.hid (HV.out.on bb)
        have HS6 := Lib.hid (HS5.out.on bb)
        have HB6 := Lib.hid (on_of HB5.out bb)
        clear bb
        cases p
        · go_wp2_with fail
          ((with_reducible refine (HSx.out _ HV.out).mono ?_); rintro e w7 ⟨rfl, bb⟩)
          have HB7 := Lib.hid (on_of HB6.out bb)
          clear bb
          simp only [Bool.false_and]
          go_wp2
          go_roundw
          case rel => exact ⟨y + 1, by omega, by go_num, by rw [HC.out], HB7.out⟩
          case measure => simp [intOf]; omega
        · obtain ⟨k0, k1, k2, k3, k4, k5, _, hzA⟩ := six HS6.out.O
          go_wp2_with fail
          clear k0 k1 k2 k3 k4 k5 hzA
          ((with_reducible refine (HCx.out _).mono ?_); rintro e w7 ⟨rfl, bb⟩)
          have HV := Lib.hid (HV.out.on bb)
          have HB7 := Lib.hid (on_of HB6.out bb)
          clear bb
          go_wp2_with fail
          ((with_reducible refine (HSx.out _ HV.out).mono ?_); rintro e w8 ⟨rfl, bb⟩)
          have HB8 := Lib.hid (on_of HB7.out bb)
          clear bb
          simp only [Bool.true_and]
          cases c1
          · go_wp2
            go_roundw
            case rel => exact ⟨y + 1, by omega, by go_num, by rw [HC.out], HB8.out⟩
            case measure => simp [intOf]; omega
          · have hc2 : c2 = true := HBIx.out (by first | rfl | trivial) (by first | rfl | trivial)
            rw [hc2] at HBx
            clear hc2
            have F8 := HF.out.keep HB8.out HF.out.lt
            obtain ⟨f0, f1, f2, f3, _⟩ := F8.lay
            clear F8
            go_wp2_with fail
            clear f0 f1 f2 f3
            ((with_reducible refine (HBx.out _).mono ?_); rintro e w9 ⟨rfl, bb⟩)
            have HB9 := Lib.hid (on_of HB8.out bb)
            clear bb
            go_wp2
            go_roundw
            case rel => exact ⟨y + 1, by omega, by go_num, by rw [HC.out], HB9.out⟩
            case measure => simp [intOf]; omega
      · obtain rfl : y = 32 := by omega
        have HS5 := Lib.hid (HS.out.on hB)
        have HF5 := Lib.hid (HF.out.keep hB HF.out.lt)
        have HNi := Lib.hid HD.out.nice
        obtain ⟨f0, oR, nR, gR⟩ := obj_close (o := ⟨l, g, x0, y0, x1, y1⟩) HS5.out.P
        have HOr := Lib.hid oR
        have HBk : Hid (Own.bulkL (Own.Ob.dt ⟨l, g, x0, y0, x1, y1⟩) ≤ 1048576) := Lib.hid (by have := HN.out; simp only [Own.Ob.dt, Own.bulkL, Own.Dt.bulk, Own.len_dP, Own.bulk_dP]; omega)
        have HOk := Lib.hid HD.out.ok
        clear hB hy HC oR nR gR HRW HLN HIN HBI HFk HQ HP2 HBX
        generalize odK f 32 = n at *
        obtain ⟨k0, k1, k2, k3, k4, k5, _, hzA⟩ := six HS5.out.O
        go_wp2_with fail
        clear k0 k1 k2 k3 k4 k5 hzA
        ((refine (move_impl _ HBk.out HOr.out 1 1).mono ?_); rintro e w4 ⟨R, f1, rfl, oM, nM, gM, bb⟩)
        have HM1 := Lib.hid (HNi.out.moved (dx := 1) (dy := 1) (by omega) (by omega) (by omega))
        have HNm := Lib.hid (HNi.out.mv (dx := 1) (dy := 1) (by omega) (by omega) (by omega))
        rw [HM1.out.1]
        rw [HM1.out.2] at oM
        have HS6 := Lib.hid (HS5.out.on bb)
        have HF6 := Lib.hid (HF5.out.keep bb HF5.out.lt)
        generalize mvO ⟨l, g, x0, y0, x1, y1⟩ 1 1 = m at *
        clear HM1 bb nM gM
        obtain ⟨ma, mc, rfl, _⟩ := obj_open oM
        have HOm := Lib.hid oM
        clear oM
        go_upto_region 17 with fail
        refine gen_any9 (fun V => Own.Blk V w4.heap.size [.slice ma m.path.length mc, .int .i64 m.gray, .int .i64 m.x0, .int .i64 m.y0, .int .i64 m.x1, .int .i64 m.y1] ∧ Own.OwnL V Own.LObject [.slice ma m.path.length mc, .int .i64 m.gray, .int .i64 m.x0, .int .i64 m.y0, .int .i64 m.x1, .int .i64 m.y1] m.dt f1 ∧ FoS V w GO a l.length c g x0 y0 x1 y1 l ∧ Four V GB b0 b1 b2 b3) ⟨Own.Blk.new w4 _ _ rfl, HOm.out.under (by go_grown), HS6.out.on (by go_grown), HF6.out.alloc _⟩ ?_
        rintro V3 ⟨hMb, hMo, hS, hF⟩
        obtain ⟨GM, hGM⟩ : ∃ x, w4.heap.size = x := ⟨_, rfl⟩
        rw [hGM] at hMb
        simp only [hGM]
        have HMb := Lib.hid hMb
        have HMo := Lib.hid hMo
        have HS7 := Lib.hid hS
        have HF7 := Lib.hid hF
        clear hMb hMo hS hF hGM
        have HBm : Hid (Own.bulkL m.dt ≤ 1048576) := Lib.hid (by have := HNm.out.l8; rw [show Own.bulkL m.dt = m.path.length by simp only [Own.Ob.dt, Own.bulkL, Own.Dt.bulk, Own.len_dP, Own.bulk_dP]; omega]; omega)
        obtain ⟨k0, k1, k2, k3, k4, k5, _, hzA⟩ := six HMb.out
        go_wp2_with fail
        clear k0 k1 k2 k3 k4 k5 hzA
        ((refine (move_impl _ HBm.out (A := #[.slice ma m.path.length mc, .int .i64 m.gray, .int .i64 m.x0, .int .i64 m.y0, .int .i64 m.x1, .int .i64 m.y1]) HMo.out (-1) (-1)).mono ?_); rintro e w5 ⟨R2, f2, rfl, oM2, _, _, bb⟩)
        rw [(HNm.out.moved (dx := -1) (dy := -1) (by omega) (by omega) (by omega)).1]
        have HS8 := Lib.hid (HS7.out.on bb)
        have HF8 := Lib.hid (HF7.out.keep bb HF7.out.lt)
        clear bb
        obtain ⟨na, nc, rfl, _⟩ := obj_open oM2
        clear oM2
        generalize mvR m (-1) (-1) = m2 at *
        go_upto_region 18 with fail
        refine gen_any9 (fun V => FoS V w GO a l.length c g x0 y0 x1 y1 l ∧ Four V GB b0 b1 b2 b3) ⟨HS8.out.on (by go_grown), HF8.out.alloc _⟩ ?_
        rintro V4 ⟨hS, hF⟩
        have HS9 := Lib.hid hS
        have HF9 := Lib.hid hF
        clear hS hF
        have HOI := Lib.hid (fun W (h : PathAt W a l) => ok_impl W a c l g x0 y0 x1 y1 HN.out h)
        rw [HOk.out] at HOI
        obtain ⟨k0, k1, k2, k3, k4, k5, _, hzA⟩ := six HS9.out.O
        go_wp2_with fail
        clear k0 k1 k2 k3 k4 k5 hzA
        ((with_reducible refine (HOI.out _ HS9.out.path).mono ?_); rintro e w6 ⟨rfl, bb⟩)
        have HS10 := Lib.hid (HS9.out.on bb)
        have HF10 := Lib.hid (HF9.out.keep bb HF9.out.lt)
        clear bb
        obtain ⟨k0, k1, k2, k3, k4, k5, _, hzA⟩ := six HS10.out.O
        go_wp2_with fail
        clear k0 k1 k2 k3 k4 k5 hzA
        ((with_reducible refine (HDT.out _ HS10.out.path).mono ?_); rintro e w7 ⟨rfl, bb⟩)
        have HS11 := Lib.hid (HS10.out.on bb)
        have HF11 := Lib.hid (HF10.out.keep bb HF10.out.lt)
        clear bb
        obtain ⟨f0', f1', f2', f3', _⟩ := HF11.out.lay
        have HDo := Lib.hid (fun W => Box.dots_impl b0 b1 b2 b3 W)
        generalize Box.dots b0 b1 b2 b3 = d at *
        go_wp2_with fail
        clear f0' f1' f2' f3'
        ((with_reducible refine (HDo.out _).mono ?_); rintro e w8 ⟨rfl, bb⟩)
        have HB12 := Lib.hid (on_of HS11.out.B bb)
        clear bb
        have hle := HSU.out
        go_wp2
        go_ret
        exact ⟨by simp [hle], HB12.out⟩
/-! ### THE ROW's STEP -/
set_option maxRecDepth 100000 in
theorem lifted (os : Os) (started : os.Started) (H : Type) (enc : TypeId × Value → H) :
    ReturnsInHanded {} Try.checked os 3 .any (Rows.fnObjectsSpec.pre6 enc Try.prog Try.f3 Rows.fnObjectsRow.domain false) (Rows.fnObjectsSpec.post enc Try.prog Try.f3 false true false false) := by
  refine returnsInHanded_of_change (C := Try.checked) own started (by kernel_rfl) Try.func3
    (ChangeSpec.witness6 (enc := enc) (C := Try.checked) false ⟨#[], #[.slice none 0 0], []⟩ 8 (by kernel_rfl) (by kernel_rfl) (by kernel_rfl) (by kernel_rfl)) ?_
  intro W base args ds gs before hval0 hW hcnd _
  have hval : ∀ (j : Nat) t v, Try.f3.params[j]? = some t → args[j]? = some v → Value.okWide Try.prog W .any base t v := hval0
  have hW' := hW
  obtain ⟨p, q, hA0, hV, rfl, hfz, hnd⟩ := hW
  have hA : DataW.TrodAll enc Try.prog W 0 (fun _ => true) true Try.f3.params.toList args.toList ds p := hA0
  rw [Try.params3] at hA hval
  obtain ⟨v0, vs0, d0, ds0, p0, q0, hargs, rfl, rfl, h0, r0⟩ := trodAll_cons hA
  obtain ⟨rfl, rfl, rfl⟩ := trodAll_nil r0
  obtain rfl : args = #[v0] := by cases args; simp_all
  obtain ⟨rfl, rfl⟩ := trodVars_none hV
  have k0 := h0
  have lt0 : ∀ x ∈ p0, x.block < W.heap.size := by obtain ⟨m, hm⟩ := k0; exact DataW.trod_lt m _ _ _ hm
  obtain ⟨a0, l0, p0c, rfl⟩ := okWide_slice Try.underlying22 (hval 0 22 v0 rfl rfl)
  obtain ⟨z0, wa0⟩ : ∃ zs, IsRow .u8 W a0 l0 p0c zs := by
    obtain ⟨fuel, hf⟩ := h0
    rcases open_ints Try.underlying22 Try.underlying5 (by kernel_rfl) hf with ⟨hcs, _⟩ | ⟨x, l, c, zs, hcs, _, hl, hm, hz, _, hcell, hwz⟩
    · simp [Value.cells] at hcs
      obtain ⟨rfl, rfl, rfl⟩ := hcs
      exact ⟨[], .inl ⟨rfl, rfl, rfl, rfl⟩⟩
    · simp [Value.cells] at hcs
      obtain ⟨rfl, rfl, rfl⟩ := hcs
      exact ⟨zs, .inr ⟨_, rfl, hl, hm, by simpa using hz, hcell, hwz⟩⟩
  clear hA0 hval0
  refine (walk W a0 l0 p0c z0 wa0).mono fun e W' ⟨he, bel⟩ => ?_
  subst he
  exact ⟨_, rfl, _, _, _, [], _, [], hW', trodAll_mk1 (shut_bool Try.underlying4 _), (trodAll_cons_mk (Below.trod laidOut (by kernel_rfl) (of_decide_eq_true (by kernel_rfl)) k0 bel lt0) trodAll_mk0), rfl, bel.frame _, fun h => by cases h⟩
theorem over : Rows.fnObjectsRow.holds Try.pinned (OpenSpec.ofChange Rows.fnObjectsSpec) :=
  OpenClaim.holds_of_wide 3 Try.f3 rfl rfl rfl rfl rfl rfl rfl ⟨rfl, rfl, rfl, rfl, rfl⟩ rfl rfl rfl rfl rfl (by kernel_rfl) Try.func3 (by kernel_rfl)
    (of_decide_eq_true (by kernel_rfl)) (by unfold Func.isWrapper; first | (rw [if_pos (by decide +kernel)]; kernel_rfl) | (rw [if_neg (by decide +kernel)]; exact ⟨rfl, rfl⟩))
    (fun os started H enc _ => lifted os started H enc)
theorem proved : Rows.FnObjectsSaid := over
#print axioms proved
end Go.Proofs.Ytejnfdpckipbeaa.fnObjects
