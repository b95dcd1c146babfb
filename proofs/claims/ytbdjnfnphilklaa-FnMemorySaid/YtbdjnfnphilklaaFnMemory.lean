/-
  With little memory, a band has the same rows as with much.
  The frame of the proof was written by a tool of this repo after the guide's shells; the walk is this text's own.
-/
import Derived.Test.YtbdjnfnphilklaaRows
import Derived.WalkKit
import Derived.ProofKit
import Derived.OpenShut
import Derived.ShutString
import Derived.ChangeOld
import Derived.ChangeArms
import Derived.Below
import Derived.Handy
import Derived.Lib.SmallJoins
import Derived.Lib.Hide
import Derived.Deep.RegionHeld3
import Derived.Deep.DeepCutAuto
import Derived.BigQuiet
import Derived.Deep.QuietTactic
import Derived.Test.YtbdjnfnphilklaaM44
import Derived.Test.YtbdjnfnphilklaaM40
import Derived.Test.YtbdjnfnphilklaaM14
namespace Go.Proofs.Ytbdjnfnphilklaa.fnMemory
open Go.ChangeShapes Go.WideShapes Go.ChangeAt Go.RowKit
open Go.ChangeMaps (open_string shut_string)
open Kit
open Slabs
open Draw
open Go.Proofs.Ytbdjnfnphilklaa.Own
set_option linter.unusedVariables false
set_option linter.unusedSimpArgs false
theorem own : ownKnob Try.prog.godebug = none := by kernel_rfl
theorem laidOut : laidOutB Try.prog = true := by kernel_rfl
attribute [local go_sem ↓] hload_Band hstore_Band
set_option maxRecDepth 100000 in
set_option maxHeartbeats 16000000 in
theorem walk (w : World) (a0 : Option Addr) (l0 p0c : Nat) (z0 : List Int) (wa0 : IsRow .u8 w a0 l0 p0c z0) :
    Calls Try.prog 3 #[.slice a0 l0 p0c] w fun e w' => e = .returned (.bool true) ∧ Below w.heap.size w w' := by
  have hl := row_len wa0
  have HR := Lib.hid wa0
  clear wa0
  by_cases hbig : (1048576 : Int) < l0
  · go_enter Try.func3, Try.ntmps3
    go_wp2_with (go_at_call 7; refine (big_on _ _ _ _ hl).mono ?_; rintro e w' ⟨rfl, rfl⟩)
    go_ret
    exact ⟨rfl, Below.refl _ _⟩
  · have hbig0 : decide ((1048576 : Int) < (l0 : Int)) = false := by simpa using hbig
    go_enter Try.func3, Try.ntmps3
    go_wp2_with fail
    (refine (big_on _ _ _ _ hl).mono ?_; rintro e w' ⟨rfl, rfl⟩)
    go_wp2_with fail
    (refine (drawlist_any _ _ _ _ _ HR.out).mono ?_; rintro e w2 ⟨l, la, lc, LF, rfl, hl6, hok, hsm, hO, hb2⟩)
    have HO := Lib.hid (And.intro hO hb2)
    have HL := Lib.hid (And.intro hl6 (And.intro hok hsm))
    clear hl6 hok hsm hO hb2
    go_wp2_with fail
    (refine (height_any _ _ _ _ _ (IsRow.keep HR.out HO.out.2)).mono ?_; rintro e w3 ⟨q, hq, rfl, bb⟩)
    have HO := Lib.hid (And.intro (HO.out.1.under bb) (on_of HO.out.2 bb))
    have HQ := Lib.hid hq
    clear hq bb
    go_wp2_with fail
    (refine (PlAll.places_all _ _ _ _ _ (IsRow.keep HR.out HO.out.2)).mono ?_; rintro e w4 ⟨pg, pc, Q, hQ, hc, rfl, hg0, hg1, bb⟩)
    have HO := Lib.hid (And.intro (HO.out.1.under bb) (on_of HO.out.2 bb))
    obtain ⟨m1, m0, m2, m3, m4⟩ := cb_mul HQ.out
    have hq0 := hQ 0 (by omega)
    have c0 := hc 0 (by omega)
    clear hQ hc hg0 bb m1
    have HC := Lib.hid (fun W => cb_spec q W)
    obtain ⟨nb, hnb⟩ : ∃ nb : Int, cbV q = nb := ⟨_, rfl⟩
    have hbn : ∀ r : Int, 0 ≤ r → r < nb → bnB q r = true := fun r h1 h2 => by simp only [bnB, decide_eq_true_eq]; omega
    rw [hnb] at HC m0 m2
    have HBN := Lib.hid hbn
    obtain ⟨q0, hq0e⟩ : ∃ x, Q 0 = x := ⟨_, rfl⟩
    rw [hq0e] at hq0 c0
    have hz1 : ¬ (nb = 0) := by omega
    have ht1 : Int.tmod q0 nb = q0 % nb := Int.tmod_eq_emod_of_nonneg hq0.1
    have ht2 : 0 ≤ q0 % nb ∧ q0 % nb < nb := ⟨Int.emod_nonneg _ hz1, Int.emod_lt_of_pos _ (by omega)⟩
    have ht3 : IntKind.i64.wrap (q0 % nb) = q0 % nb := IntWalk.i64_in _ ⟨by omega, by omega⟩
    clear hbn hnb hq0e
    have HK := Lib.hid (fun (V : World) (hV : Below w4.heap.size w4 V) => (show V.cell? ⟨pg, 0, none⟩ = some (.int .i64 q0) ∧ pg < V.heap.size from ⟨(hV.cell (p := ⟨pg, 0, none⟩) hg1).trans c0, Nat.lt_of_lt_of_le hg1 hV.size⟩))
    have hq1 := hq0.1
    go_upto_region 6 with fail
    go_cut [6] (fun s6 wx => s6 = .int .i64 (q0 % nb) ∧ Below w4.heap.size w4 wx)
    case first =>
      go_region_held3 (fun w' => w'.cell? ⟨pg, 0, none⟩ = some (.int .i64 q0) ∧ pg < w'.heap.size) (first | exact HK.out _ hB | exact HK.out _ (by go_grown))
        ((go_at_call 11; (with_reducible refine (HC.out _).mono ?_); rintro e wz ⟨rfl, bb⟩; have hB := on_of (W := w4) (by go_grown) bb; clear bb))
      all_goals
        have HF := Lib.hid hB
        go_wp2_with fail
        go_meet
        exact ⟨by simp [ht1, ht3], HF.out⟩
    case rest =>
      obtain ⟨rfl, hB⟩ := hcut
      have HO := Lib.hid (And.intro (HO.out.1.under hB) (on_of HO.out.2 hB))
      obtain ⟨kk, hkk⟩ : ∃ x, q0 % nb = x := ⟨_, rfl⟩
      rw [hkk] at ht2 ⊢
      have hbn := HBN.out kk ht2.1 ht2.2
      clear hB hkk ht1 ht2 ht3 hz1 c0 hg1 HK HBN HC hq0 hq1
      have HB := Lib.hid hbn
      have HNb := Lib.hid (fun V => newband_impl V q kk)
      rw [hbn] at HNb
      clear hbn
      have hD0 : (nbD q kk).h = q ∧ (nbD q kk).n = kk ∧ mgR (nbD q kk) = whR q ∧ bdB (nbD q kk) = true := ⟨by simp [nbD, HB.out], by simp [nbD, HB.out], by simp [nbD, HB.out, mgR], nbD_valid HB.out⟩
      go_wp2_with fail
      ((with_reducible refine (HNb.out _).mono ?_); rintro e w5 ⟨R, F, rfl, hR, b5⟩)
      obtain ⟨b0, hb0⟩ : ∃ b0, nbD q kk = b0 := ⟨_, rfl⟩
      rw [hb0] at hR hD0
      obtain ⟨ra, rc, rf, oa, oc, F2, rfl, o2, o3, hN, hge⟩ := bd_arr hR
      obtain ⟨E, st, BX, bE⟩ := bd_new w5 b0.h b0.n ra b0.base.length rc oa b0.objs.length oc
      have hlt := mem2 (p := fun x => x < w5.heap.size) o2.lt o3.lt
      have hLO := HO.out.1.under b5
      have hM : MmS w E w5.heap.size b0 ra rc rf oa oc F2 la lc l LF := ⟨BX, o2.under bE, (o3.under bE).base (Nat.zero_le _), fun hm => by have := hlt _ hm; omega, (hLO.under bE).base (Nat.zero_le _), fun hm => by have := hLO.lt _ hm; omega, on_of (on_of HO.out.2 b5) bE, hD0.2.2.2, (on_of HO.out.2 b5).size⟩
      obtain ⟨X7, hX7⟩ : ∃ x, w5.heap.size = x := ⟨_, rfl⟩
      rw [hX7] at hM st
      have HM := Lib.hid (And.intro hM (And.intro hD0.1 (And.intro hD0.2.1 hD0.2.2.1)))
      clear hM hD0 hR hb0 o2 o3 hN hge BX bE hlt hLO b5 HO HNb
      go_wp2
      clear st hX7
      go_loopw [9] (fun v wr => ∃ (r : Nat) (b : Bd) (ra : Option Addr) (rc : Nat) (rf : List Nat) (oa : Option Addr) (oc : Nat) (F2 : List Nat), r ≤ 3 ∧ v = .int .i64 (r : Int) ∧ Hid (MmS w wr X7 b ra rc rf oa oc F2 la lc l LF ∧ b.h = q ∧ b.n = kk ∧ mgR b = itR (kk * q) l (whR q) r)) (fun v _ => 3 - (intOf v).toNat)
      case atStart => exact ⟨0, b0, ra, rc, rf, oa, oc, F2, Nat.zero_le _, rfl, HM⟩
      case round =>
        clear HM
        obtain ⟨r, b, ra, rc, rf, oa, oc, F2, hr, rfl, hM⟩ := hrel
        by_cases hlt : r < 3
        · have i1 : (r : Int) < 3 := by omega
          go_wp2
          go_loopw [10] (fun v wr => ∃ (i : Nat) (b : Bd) (ra : Option Addr) (rc : Nat) (rf : List Nat) (oa : Option Addr) (oc : Nat) (F2 : List Nat), i ≤ l.length ∧ v = .int .i64 (i : Int) ∧ Hid (MmS w wr X7 b ra rc rf oa oc F2 la lc l LF ∧ b.h = q ∧ b.n = kk ∧ mgR b = (l.take i).foldl (pnF (kk * q)) (itR (kk * q) l (whR q) r))) (fun v _ => l.length - (intOf v).toNat)
          case atStart => exact ⟨0, b, ra, rc, rf, oa, oc, F2, Nat.zero_le _, rfl, hM⟩
          case round =>
            clear hM
            obtain ⟨i, b, ra, rc, rf, oa, oc, F2, hi, rfl, hM⟩ := hrel
            have hl6 := HL.out.1
            by_cases hlt2 : i < l.length
            · obtain ⟨g, pa, pc, fq, rfl, hg, h6, hoo⟩ := hM.out.1.elt HL.out.2.2 HL.out.1 hlt2
              obtain ⟨o, hx⟩ : ∃ o, l.getD i ob0 = o := ⟨_, rfl⟩
              rw [hx] at h6 hoo
              have hom : o ∈ l := by rw [← hx]; simp [List.getD, List.getElem?_eq_getElem hlt2]
              have hok : okO o = true := List.all_eq_true.1 HL.out.2.1 o hom
              have hp6 := HL.out.2.2 o hom
              have hbk : bulkL o.dt ≤ 1048576 := by simp only [Ob.dt, bulkL, Dt.bulk, len_dP, bulk_dP]; omega
              obtain ⟨e1, e2, e3, e4, e5⟩ := adD_rows hM.out.1.ok hok
              have hT : l.take (i + 1) = l.take i ++ [o] := by rw [List.take_add_one, ← hx]; simp [List.getD, List.getElem?_eq_getElem hlt2]
              have HD := Lib.hid (show (adD b o).h = q ∧ (adD b o).n = kk ∧ mgR (adD b o) = (l.take (i + 1)).foldl (pnF (kk * q)) (itR (kk * q) l (whR q) r) ∧ bdB (adD b o) = true from ⟨e2.trans hM.out.2.1, e3.trans hM.out.2.2.1, by rw [e1, hM.out.2.2.2, hM.out.2.1, hM.out.2.2.1, hT, List.foldl_append]; rfl, e4⟩)
              have HAB := Lib.hid (fun (V : World) (hV : Below wr.heap.size wr V) => addband_impl V b ra rc oa oc (hM.out.1.on hV).bda pa pc o fq hbk (hoo.under hV))
              rw [e5] at HAB
              have HK : Hid (∀ V, Below wr.heap.size wr V → (hload 32 ⟨X7, 0, none⟩).run Try.prog V = .ok (.agg #[.int .i64 b.h, .int .i64 b.n, .slice ra b.base.length rc, .slice oa b.objs.length oc]) V ∧ V.cell? ⟨g, i * 6, none⟩ = some (.slice pa o.path.length pc) ∧ V.cell? ⟨g, i * 6 + 1, none⟩ = some (.int .i64 o.gray) ∧ V.cell? ⟨g, i * 6 + 2, none⟩ = some (.int .i64 o.x0) ∧ V.cell? ⟨g, i * 6 + 3, none⟩ = some (.int .i64 o.y0) ∧ V.cell? ⟨g, i * 6 + 4, none⟩ = some (.int .i64 o.x1) ∧ V.cell? ⟨g, i * 6 + 5, none⟩ = some (.int .i64 o.y1)) := Lib.hid fun V hV =>
                ⟨bd_load (hM.out.1.B7.keep hV), (hV.cell (p := ⟨g, i * 6, none⟩) hg).trans (h6 0 _ rfl), (hV.cell (p := ⟨g, i * 6 + 1, none⟩) hg).trans (h6 1 _ rfl), (hV.cell (p := ⟨g, i * 6 + 2, none⟩) hg).trans (h6 2 _ rfl), (hV.cell (p := ⟨g, i * 6 + 3, none⟩) hg).trans (h6 3 _ rfl), (hV.cell (p := ⟨g, i * 6 + 4, none⟩) hg).trans (h6 4 _ rfl), (hV.cell (p := ⟨g, i * 6 + 5, none⟩) hg).trans (h6 5 _ rfl)⟩
              have i0 : (0 : Int) ≤ (i : Int) := by omega
              have i2 : (i : Int) < (l.length : Int) := by omega
              clear hx h6 hoo hom hok hp6 hbk e1 e2 e3 e4 e5 hT hg
              go_upto_region 14 with (fail)
              go_cut [11, 12] (fun s11 s12 wx => ∃ X, s11 = .pointer (some ⟨X, 0, none⟩) ∧ s12 = .bool true ∧ BdI wr wx X (adD b o))
              case first =>
                go_region_held3 (fun w' => ((hload 32 ⟨X7, 0, none⟩).run Try.prog w' = .ok (.agg #[.int .i64 b.h, .int .i64 b.n, .slice ra b.base.length rc, .slice oa b.objs.length oc]) w' ∧ w'.cell? ⟨g, i * 6, none⟩ = some (.slice pa o.path.length pc) ∧ w'.cell? ⟨g, i * 6 + 1, none⟩ = some (.int .i64 o.gray) ∧ w'.cell? ⟨g, i * 6 + 2, none⟩ = some (.int .i64 o.x0) ∧ w'.cell? ⟨g, i * 6 + 3, none⟩ = some (.int .i64 o.y0) ∧ w'.cell? ⟨g, i * 6 + 4, none⟩ = some (.int .i64 o.x1) ∧ w'.cell? ⟨g, i * 6 + 5, none⟩ = some (.int .i64 o.y1)) ∧ Below wr.heap.size wr w') (first | exact ⟨HK.out _ hE, hE⟩ | exact ⟨HK.out _ hB, hB⟩ | exact ⟨HK.out _ (by go_grown), by go_grown⟩)
                  ((go_at_call 13; (with_reducible refine (HAB.out _ (by first | exact hB | exact Below.refl _ _ | go_grown)).mono ?_); rintro e wz ⟨R, F, rfl, hR, bz⟩; obtain ⟨ra1, rc1, rf1, oa1, oc1, F3, rfl, o2, o3, hN, hge⟩ := bd_arr hR; have hm : wr.heap.size ≤ _ := (by first | exact hB.size | exact Nat.le_refl _); have hB := on_of (W := wr) (by first | exact hB | go_grown) bz; have hz := hB.size; (first
                    | (have BZ := made0 (B := wr.heap.size) hm bz; obtain ⟨E, st, hI⟩ := bd_put BZ o2 o3 hN hge hB)
                    | (have BZ := made1 (B := wr.heap.size) hm bz; obtain ⟨E, st, hI⟩ := bd_put BZ o2 o3 hN hge hB)
                    | (obtain ⟨E, st, hI⟩ := bd_late (W := wr) o2 o3 hN hge hm hB)); have HR2 := Lib.hid hI; obtain ⟨_, _, _, _, _, _, _, _, _, _, _, _, _, hE⟩ := hI))
                all_goals (go_wp2_with fail; go_meet; exact ⟨_, rfl, rfl, HR2.out⟩)
              case rest =>
                clear HAB HK i0 i2
                obtain ⟨b9, hb9⟩ : ∃ x, adD b o = x := ⟨_, rfl⟩
                rw [hb9] at HD hcut
                obtain ⟨X11, rfl, rfl, ra1, rc1, rf1, oa1, oc1, F3, BX, o2, o3, hN, hge, hn, hX, bb⟩ := hcut
                have hA : BdA wc b9 ra1 rc1 oa1 oc1 := ⟨ok_size HD.out.2.2.2, rr_of o2, by obtain ⟨f, ho, _⟩ := o3.own; exact ⟨f, ho⟩⟩
                have hc60 : decide ((60 : Int) < ((cellsN b9.objs : Nat) : Int)) = false := by
                  have := (bd_parts HD.out.2.2.2).2.2.2.2
                  simp; omega
                have lb := bd_load BX
                have HW := Lib.hid (And.intro BX (And.intro o2 (And.intro o3 (And.intro hge bb))))
                have HA := Lib.hid hA
                clear BX o2 o3 hN hge hn hX bb hA hb9
                go_wp2_with fail
                ((with_reducible refine (bcells_impl wc b9 ra1 rc1 oa1 oc1 HA.out).mono ?_); rintro e w6 ⟨rfl, b6⟩)
                have lb := bd_load (HW.out.1.keep b6)
                obtain ⟨E2, st, B7, tE⟩ := bd_store (hM.out.1.B7.keep (on_of HW.out.2.2.2.2 b6)) b9.h b9.n ra1 b9.base.length rc1 oa1 b9.objs.length oc1
                have HN := Lib.hid (show MmS w E2 X7 b9 ra1 rc1 rf1 oa1 oc1 F3 (some ⟨g, 0, none⟩) lc l LF ∧ b9.h = q ∧ b9.n = kk ∧ mgR b9 = (l.take (i + 1)).foldl (pnF (kk * q)) (itR (kk * q) l (whR q) r) from ⟨hM.out.1.put (X := X7) (on_of HW.out.2.2.2.2 b6) (HW.out.2.1.under b6) (HW.out.2.2.1.under b6) HW.out.2.2.2.1 HD.out.2.2.2 B7 tE, HD.out.1, HD.out.2.1, HD.out.2.2.1⟩)
                clear B7 tE b6 HW HA hM HD
                go_wp2
                go_roundw
                case rel => exact ⟨i + 1, b9, ra1, rc1, rf1, oa1, oc1, F3, by omega, by go_num, HN⟩
                case measure => simp [intOf]; omega
            · obtain rfl : i = l.length := by omega
              have HN : Hid (MmS w _ X7 b ra rc rf oa oc F2 la lc l LF ∧ b.h = q ∧ b.n = kk ∧ mgR b = itR (kk * q) l (whR q) (r + 1)) := Lib.hid ⟨hM.out.1, hM.out.2.1, hM.out.2.2.1, by rw [hM.out.2.2.2, List.take_length]; rfl⟩
              clear hM
              go_wp2
              go_roundw
              case rel => exact ⟨r + 1, b, ra, rc, rf, oa, oc, F2, by omega, by go_num, HN⟩
              case measure => simp [intOf]; omega
        · obtain rfl : r = 3 := by omega
          have lb := bd_load hM.out.1.B7
          go_wp2_with fail
          ((with_reducible refine (bok_impl wr b ra rc oa oc hM.out.1.bda).mono ?_); rintro e w6 ⟨rfl, b6⟩)
          rw [hM.out.1.ok]
          have HM := Lib.hid (hM.out.1.on b6)
          have lb := bd_load HM.out.B7
          clear b6
          go_wp2_with fail
          clear lb
          ((with_reducible refine (rowsband_impl w6 b ra rc oa oc HM.out.bda).mono ?_); rintro e w7 ⟨a7, c7, f7, rfl, o7, n7, g7, b7⟩)
          obtain ⟨P, hPl, hPL, hP1, hPS⟩ := obs_read (HM.out.L.under b7) HL.out.2.2
          have HP := Lib.hid (And.intro hPl (And.intro hPL (And.intro hP1 hPS)))
          have hl6 := HL.out.1
          obtain ⟨hr1, hr2⟩ := mem_rows HM.out.ok HB.out hM.out.2.2.2
          rw [hr1] at o7 ⊢
          have HR2 := Lib.hid hr2
          have HZ := Lib.hid (mem_size HM.out.ok)
          have HO7 := Lib.hid (show Own.Own w7 KSS [.slice a7 (mgR b).length c7] (.sl (dR (mgR b))) f7 ∧ Below w.heap.size w w7 from ⟨o7, on_of HM.out.W b7⟩)
          clear o7 n7 g7 b7 hPl hPL hP1 hPS HM hr1 hr2
          have HA := Lib.hid (aps_made w7)
          go_wp2_with (at_builtin; refine wpList_append_slw _ et_obs (by rfl) _ _ rfl w7.heap.size (some ⟨w7.heap.size, 0, none⟩) 0 0 [] rfl HA.out.own la l.length lc P rfl HP.out.1 (HP.out.2.1.on HA.out.below) HP.out.2.2.1 ?c3 ?c4 ?c5 ?_)
          case c3 => unfold maxLen; omega
          case c4 => omega
          case c5 => exact HA.out.below.size
          intro a8 c8 w8 hown hgrow hnew
          have HA := Lib.hid (HA.out.next (ls' := l) HP.out.2.2.2 HP.out.1 hown hgrow (by simp) (by simp) (by simp))
          clear hown hgrow hnew
          go_wp2_with (at_builtin; refine wpList_append_slw _ et_obs (by rfl) _ _ rfl w7.heap.size a8 l.length c8 P rfl HA.out.own la l.length lc P rfl HP.out.1 (HP.out.2.1.on HA.out.below) HP.out.2.2.1 ?c3 ?c4 ?c5 ?_)
          case c3 => unfold maxLen; omega
          case c4 => omega
          case c5 => exact HA.out.below.size
          intro a9 c9 w9 hown hgrow hnew
          have HA := Lib.hid (HA.out.next (ls' := l ++ l) HP.out.2.2.2 HP.out.1 hown hgrow (by simp) (by simp) (by simp))
          clear hown hgrow hnew
          go_wp2_with (at_builtin; refine wpList_append_slw _ et_obs (by rfl) _ _ rfl w7.heap.size a9 (l.length + l.length) c9 (P ++ P) rfl HA.out.own la l.length lc P rfl HP.out.1 (HP.out.2.1.on HA.out.below) HP.out.2.2.1 ?c3 ?c4 ?c5 ?_)
          case c3 => unfold maxLen; omega
          case c4 => omega
          case c5 => exact HA.out.below.size
          intro a10 c10 w10 hown hgrow hnew
          have HA := Lib.hid (HA.out.next (ls' := l ++ l ++ l) HP.out.2.2.2 HP.out.1 hown hgrow (by simp) (by simp) (by simp))
          clear hown hgrow hnew
          obtain ⟨ls, hls⟩ : ∃ ls, l ++ l ++ l = ls := ⟨_, rfl⟩
          have hln : l.length + l.length + l.length = ls.length := by rw [← hls, List.length_append, List.length_append]
          have hl18 : ls.length ≤ 18 := by omega
          rw [hls] at HA HR2
          rw [hln] at HA ⊢
          clear hls hln HP
          go_wp2_with fail
          ((with_reducible refine (render_impl w10 a10 c10 ls q kk (by omega) HA.out.obl).mono ?_); rintro e w11 ⟨a12, c12, f12, rfl, o12, n12, g12, b12⟩)
          rw [HR2.out] at o12 ⊢
          have HO7 := Lib.hid (And.intro (HO7.out.1.under HA.out.below) (on_of HO7.out.2 HA.out.below))
          have HO7 := Lib.hid (And.intro (HO7.out.1.under b12) (on_of HO7.out.2 b12))
          have HO12 := Lib.hid o12
          clear o12 n12 g12 b12 HA
          go_wp2_with fail
          ((with_reducible refine (same_impl w11 a7 a12 c7 c12 (mgR b) (mgR b) HZ.out.1 HZ.out.1 HZ.out.2 HZ.out.2 (rr_of HO7.out.1) (rr_of HO12.out)).mono ?_); rintro e w12 ⟨rfl, b13⟩)
          have HF := Lib.hid (on_of HO7.out.2 b13)
          have hsame : sameB (mgR b) (mgR b) = true := by simp [sameB]
          rw [hsame]
          clear b13 hsame
          go_wp2
          go_ret
          exact ⟨rfl, HF.out⟩
/-! ### THE ROW's STEP -/
set_option maxRecDepth 100000 in
theorem lifted (os : Os) (started : os.Started) (H : Type) (enc : TypeId × Value → H) :
    ReturnsInHanded {} Try.checked os 3 .any (Rows.fnMemorySpec.pre6 enc Try.prog Try.f3 Rows.fnMemoryRow.domain false) (Rows.fnMemorySpec.post enc Try.prog Try.f3 false true false false) := by
  refine returnsInHanded_of_change (C := Try.checked) own started (by kernel_rfl) Try.func3
    (ChangeSpec.witness6 (enc := enc) (C := Try.checked) false ⟨#[], #[.slice none 0 0], []⟩ 8 (by kernel_rfl) (by kernel_rfl) (by kernel_rfl) (by kernel_rfl)) ?_
  intro W base args ds gs before hval0 hW hcnd _
  have hval : ∀ (j : Nat) t v, Try.f3.params[j]? = some t → args[j]? = some v → Value.okWide Try.prog W .any base t v := hval0
  have hW' := hW
  obtain ⟨p, q, hA0, hV, rfl, hfz, hnd⟩ := hW
  have hA : DataW.TrodAll enc Try.prog W 0 (fun _ => true) true Try.f3.params.toList args.toList ds p := hA0
  rw [Try.params3] at hA hval
  obtain ⟨v0, vs0, d0, ds0, p0, q0, hargs, rfl, rfl, h0, r0⟩ := trodAll_cons hA
  obtain ⟨rfl, rfl, rfl⟩ := trodAll_nil r0
  obtain rfl : args = #[v0] := by cases args; simp_all
  obtain ⟨rfl, rfl⟩ := trodVars_none hV
  have k0 := h0
  have lt0 : ∀ x ∈ p0, x.block < W.heap.size := by obtain ⟨m, hm⟩ := k0; exact DataW.trod_lt m _ _ _ hm
  obtain ⟨a0, l0, p0c, rfl⟩ := okWide_slice Try.underlying22 (hval 0 22 v0 rfl rfl)
  obtain ⟨z0, wa0⟩ : ∃ zs, IsRow .u8 W a0 l0 p0c zs := by
    obtain ⟨fuel, hf⟩ := h0
    rcases open_ints Try.underlying22 Try.underlying5 (by kernel_rfl) hf with ⟨hcs, _⟩ | ⟨x, l, c, zs, hcs, _, hl, hm, hz, _, hcell, hwz⟩
    · simp [Value.cells] at hcs
      obtain ⟨rfl, rfl, rfl⟩ := hcs
      exact ⟨[], .inl ⟨rfl, rfl, rfl, rfl⟩⟩
    · simp [Value.cells] at hcs
      obtain ⟨rfl, rfl, rfl⟩ := hcs
      exact ⟨zs, .inr ⟨_, rfl, hl, hm, by simpa using hz, hcell, hwz⟩⟩
  clear hA0 hval0
  refine (walk W a0 l0 p0c z0 wa0).mono fun e W' ⟨he, bel⟩ => ?_
  subst he
  exact ⟨_, rfl, _, _, _, [], _, [], hW', trodAll_mk1 (shut_bool Try.underlying4 _), (trodAll_cons_mk (Below.trod laidOut (by kernel_rfl) (of_decide_eq_true (by kernel_rfl)) k0 bel lt0) trodAll_mk0), rfl, bel.frame _, fun h => by cases h⟩
theorem over : Rows.fnMemoryRow.holds Try.pinned (OpenSpec.ofChange Rows.fnMemorySpec) :=
  OpenClaim.holds_of_wide 3 Try.f3 rfl rfl rfl rfl rfl rfl rfl ⟨rfl, rfl, rfl, rfl, rfl⟩ rfl rfl rfl rfl rfl (by kernel_rfl) Try.func3 (by kernel_rfl)
    (of_decide_eq_true (by kernel_rfl)) (by unfold Func.isWrapper; first | (rw [if_pos (by decide +kernel)]; kernel_rfl) | (rw [if_neg (by decide +kernel)]; exact ⟨rfl, rfl⟩))
    (fun os started H enc _ => lifted os started H enc)
theorem proved : Rows.FnMemorySaid := over
#print axioms proved
end Go.Proofs.Ytbdjnfnphilklaa.fnMemory
