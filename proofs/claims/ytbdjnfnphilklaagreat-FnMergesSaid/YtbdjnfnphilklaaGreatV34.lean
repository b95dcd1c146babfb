/-
  Texts of this seat, laid together: Ps11, Dj10
-/
import Derived.Deep.RegionLaw
import Derived.Test.YtbdjnfnphilklaaGreatV32
import Derived.Test.YtbdjnfnphilklaaGreatV16
import Derived.Test.YtbdjnfnphilklaaGreatV23
import Derived.Test.YtbdjnfnphilklaaGreatV18
namespace Go.Proofs.YtbdjnfnphilklaaGreat.Own
open Go.ChangeShapes Go.WideShapes Go.ChangeAt Go.RowKit
open Kit Slabs Ints
open Go.Proofs.YtbdjnfnphilklaaGreat.Ins (Pt gen_any9 orow obK)
set_option linter.unusedVariables false
set_option linter.unusedSimpArgs false
set_option linter.unnecessarySimpa false
set_option maxRecDepth 100000
theorem Turns.drewN {w w' : World} {S : Nat → Prop} (h : Turns w w' S) (n : Nat) : Turns w (w'.drewN n) S := ⟨h.os, h.tape, h.output, h.size, h.block⟩
theorem Turns.cell {w w' : World} {S : Nat → Prop} (h : Turns w w' S) {g : Nat} (hg : g < w.heap.size) (hS : ¬ S g) (o : Nat) : w'.cell? ⟨g, o, none⟩ = w.cell? ⟨g, o, none⟩ := World.cell?_of_block (w := w) (h.block g hg hS)
set_option maxHeartbeats 8000000 in
theorem paintobj_spec (w : World) (ra : Option Addr) (rc : Nat) (R : List (List Int)) (first : Int) (a : Option Addr) (c : Nat) (l : List Pt) (gr x0 y0 x1 y1 : Int)
    (hn : l.length ≤ 1048576) (hR : R.length ≤ 1048576) (ht : tot R ≤ 1048576) (h : RR w ra R) (hp : Ins.PathAt w a l) :
    Calls Tryz.prog 45 #[.slice ra R.length rc, .int .i64 first, .agg #[.slice a l.length c, .int .i64 gr, .int .i64 x0, .int .i64 y0, .int .i64 x1, .int .i64 y1]] w (PoNew (poR R first l gr x0 y0 x1 y1) (poB R first l gr x0 y0 x1 y1) w) := by
  have HH := Lib.hid (And.intro h (And.intro hp (And.intro hR (And.intro ht hn))))
  obtain ⟨n, hN⟩ : ∃ n, R.length = n := ⟨_, rfl⟩
  have HN := Lib.hid hN
  have HX0 := Lib.hid (Blk.new w #[.slice a l.length c, .int .i64 gr, .int .i64 x0, .int .i64 y0, .int .i64 x1, .int .i64 y1] 53 rfl)
  have HW0 : Hid (Below w.heap.size w (w.alloc (.cells #[.slice a l.length c, .int .i64 gr, .int .i64 x0, .int .i64 y0, .int .i64 x1, .int .i64 y1] 53))) := Lib.hid (by go_grown)
  have HCP := Lib.hid (copyrows_spec _ ra rc R hR ht (h.on HW0.out))
  rw [hN] at HCP
  clear hN h hp ht hn
  rw [HN.out]
  go_enter Tryz.func45, Tryz.ntmps45
  go_wp2_with fail
  ((with_reducible refine HCP.out.mono ?_); rintro e w1 ⟨a1, c1, fp, rfl, ho, hnd, hge, bb⟩)
  have hX : w.heap.size < w1.heap.size := by have := bb.size; simp at this; omega
  have HS := Lib.hid (show PoS w w1 w.heap.size a1 c1 R fp (sixv a l.length c gr x0 y0 x1 y1) from ⟨HX0.out.keep bb, ho, on_of HW0.out bb⟩)
  have HF := Lib.hid (And.intro hnd (show ∀ b ∈ fp, w.heap.size ≤ b from fun b hb => by have := hge b hb; simp at this; omega))
  have HFX : Hid (∀ b ∈ fp, b ≠ w.heap.size) := Lib.hid (fun b hb => by have := hge b hb; simp at this; omega)
  clear ho hnd hge bb HCP
  rw [HN.out]
  have hRB := rowsok_spec w1 ra rc R HH.out.2.2.1 HH.out.2.2.2.1 (HH.out.1.on HS.out.B)
  rw [HN.out] at hRB
  have HRB := Lib.hid hRB
  clear hRB
  go_wp2_with fail
  ((with_reducible refine HRB.out.mono ?_); rintro e w2 ⟨rfl, bb⟩)
  have HS := Lib.hid (HS.out.on bb)
  clear bb HRB
  obtain ⟨qb, hqb⟩ : ∃ q, rowsB R = q := ⟨_, rfl⟩
  rw [hqb]
  have bad : poB R first l gr x0 y0 x1 y1 = false → ∀ V, PoS w V w.heap.size a1 c1 R fp (sixv a l.length c gr x0 y0 x1 y1) → PoNew (poR R first l gr x0 y0 x1 y1) (poB R first l gr x0 y0 x1 y1) w (.returned (.tuple #[.slice a1 n c1, .bool false])) V := fun hb V hV => by
    have e : poR R first l gr x0 y0 x1 y1 = R := by simp [poR, hb]
    rw [e, hb]
    exact ⟨a1, c1, fp, by rw [HN.out], hV.O, HF.out.1, HF.out.2, hV.B⟩
  have HBad := Lib.hid bad
  clear bad
  cases qb
  · have HV : Hid (poB R first l gr x0 y0 x1 y1 = false) := Lib.hid (by simp [poB, hqb])
    clear hqb
    go_wp2
    go_ret2
    exact HBad.out HV.out _ HS.out
  · have HOK := Lib.hid (Ins.ok_spec w2 a c l gr x0 y0 x1 y1 HH.out.2.2.2.2 (HH.out.2.1.on HS.out.B))
    obtain ⟨k0, k1, k2, k3, k4, k5, hzX⟩ := sixc HS.out.X
    have HXe := Lib.hid (show Below w.heap.size w w2 from HS.out.B)
    go_wp2_with fail
    clear k0 k1 k2 k3 k4 k5
    ((with_reducible refine HOK.out.mono ?_); rintro e w3 ⟨rfl, bb⟩)
    have HS := Lib.hid (HS.out.on bb)
    clear bb HOK
    obtain ⟨qo, hqo⟩ : ∃ q, obK l gr x0 y0 x1 y1 = q := ⟨_, rfl⟩
    rw [hqo]
    cases qo
    · have HV : Hid (poB R first l gr x0 y0 x1 y1 = false) := Lib.hid (by simp [poB, hqo])
      clear hqb hqo
      go_wp2
      go_ret2
      exact HBad.out HV.out _ HS.out
    · have HIn := Lib.hid (Point.in_any first 0 32 w3)
      go_wp2_with fail
      ((with_reducible refine HIn.out.mono ?_); rintro e w3 ⟨rfl, rfl⟩)
      by_cases hf : 0 ≤ first ∧ first ≤ 32
      · have hV : poB R first l gr x0 y0 x1 y1 = true := by simp [poB, hqb, hqo]; omega
        obtain ⟨h32, h33⟩ := rows32 hqb
        have hfd : decide (0 ≤ first ∧ first ≤ 32) = true := by simpa using hf
        rw [hfd]
        have hpt : poR R first l gr x0 y0 x1 y1 = pntR gr (rowsL l gr x0 y0 x1 y1 first) R := by simp [poR, hV]
        have HPT := Lib.hid (And.intro hpt hV)
        have hpa : ∀ W, Turns w3 W (fun b => b ∈ fp) → Ins.PathAt W a l := fun W hW => HH.out.2.1.on (HS.out.B.trans (hW.below (by have := HS.out.B.size; omega) HF.out.2))
        clear hqb hqo hfd HBad HIn hpt hV
        rcases Nat.eq_zero_or_pos n with h0 | h0
        · have hRe : R = [] := List.eq_nil_of_length_eq_zero (by rw [HN.out, h0])
          subst hRe
          subst h0
          go_wp2
          go_rounds 1
          go_ret2
          rw [HPT.out.1, HPT.out.2]
          exact ⟨a1, c1, fp, rfl, HS.out.O, HF.out.1, HF.out.2, HS.out.B⟩
        · obtain ⟨a9, c9, hv, _, hG⟩ := own_ss HS.out.O
          simp only [Value.slice.injEq] at hv
          obtain ⟨rfl, _, rfl⟩ := hv
          obtain ⟨g, P, fq, rfl, rfl, hRc, hB, hO⟩ := hG (by rw [HN.out]; omega)
          obtain ⟨hgq, hdq⟩ := List.nodup_cons.1 HF.out.1
          have HS0 := Lib.hid (show PtS w3 w3 w.heap.size g a l.length c gr x0 y0 x1 y1 P fq (pntK gr (rowsL l gr x0 y0 x1 y1 first) R 0) by
            rw [pntK_zero]
            exact ⟨HS.out.X, hB, hO, Turns.refl _ _⟩)
          have hfX : ∀ b ∈ g :: fq, b ≠ w.heap.size := HFX.out
          have HK := Lib.hid (And.intro hgq (And.intro hdq (And.intro hpa (And.intro h33 (And.intro hfX hRc)))))
          have hR2 : n ≤ 32 := by rw [HN.out] at h32; exact h32
          clear hB hO hgq hdq hpa h33 hRc h32 hG hfX
          go_wp2
          go_loopw [9] (fun v9 wr => ∃ k : Nat, k ≤ n ∧ v9 = .int .i64 (k : Int) ∧ Hid (PtS w3 wr w.heap.size g a l.length c gr x0 y0 x1 y1 P fq (pntK gr (rowsL l gr x0 y0 x1 y1 first) R k))) (fun v9 _ => n - (intOf v9).toNat)
          case atStart => exact ⟨0, Nat.zero_le _, rfl, HS0⟩
          case round =>
            obtain ⟨k, hk, rfl, hS⟩ := hrel
            by_cases hlt : k < n
            · have hkR : k < R.length := by rw [HN.out]; exact hlt
              obtain ⟨v, d, f, hPk, hdk, hOk, hfk, hnext⟩ := OwnL.nth rfl hS.out.O (k := k) (by rw [pntK_len]; exact hkR)
              rw [dR_at _ _ (by rw [pntK_len]; exact hkR), Option.some.injEq, pntK_at _ _ hkR] at hdk
              subst hdk
              obtain ⟨r, hr⟩ : ∃ r, R.getD k [] = r := ⟨_, rfl⟩
              have hr32 : r.length = 32 := by
                rw [← hr, List.getD_eq_getElem?_getD, List.getElem?_eq_getElem hkR, Option.getD_some]
                exact HK.out.2.2.2.1 _ (List.getElem_mem hkR)
              rw [hr] at hOk
              obtain ⟨a8, c8, rfl, _, hrow⟩ := own_ints hOk
              obtain ⟨b, rfl, rfl, hrc, hBr⟩ := hrow (by omega)
              rw [hr32] at hPk hrc
              obtain ⟨k0, k1, k2, k3, k4, k5, hzX⟩ := sixc hS.out.X
              have hbq : b ∈ fq := hfk b (by simp)
              have hgl := hS.out.G.2.2
              have HH2 := Lib.hid (And.intro hr (And.intro hBr (And.intro hnext (And.intro hbq (And.intro hrc (And.intro hkR hPk))))))
              clear hr hBr hnext hOk hfk hPk hbq hrc hkR hrow
              have i0 : (0 : Int) ≤ (k : Int) := by omega
              have i1 : (k : Int) < (n : Int) := by omega
              obtain ⟨wz, rfl⟩ : ∃ wz : World, wz = wr := ⟨_, rfl⟩
              have HPW := Lib.hid (HK.out.2.2.1 wz (hS.out.T.mono (fun x hx => List.mem_cons_of_mem _ hx)))
              have hbX := HK.out.2.2.2.2.1 b (List.mem_cons_of_mem _ HH2.out.2.2.2.1)
              have hbz : b < wz.heap.size := HH2.out.2.1.2.2
              go_wp2_with fail
              clear k0 k1 k2 k3 k4 k5
              ((with_reducible refine (Ins.orow_spec _ a c l gr x0 y0 x1 y1 (first + (k : Int)) HH.out.2.2.2.2 HPW.out).mono ?_); rintro e w1 ⟨v, rfl, hv, bb⟩)
              have hbd := orow_bd l gr x0 y0 x1 y1 (first + (k : Int))
              have hll := orow_len11 l gr x0 y0 x1 y1 (first + (k : Int))
              obtain ⟨L, hL⟩ : ∃ L, orow l gr x0 y0 x1 y1 (first + (k : Int)) = L := ⟨_, rfl⟩
              have hLr : rowsL l gr x0 y0 x1 y1 first k = L := hL
              rw [hL] at hv hbd hll
              have hge := rowL_ge hv
              obtain ⟨va, vc, rfl, hp⟩ := Ins.path_of_owns hv
              have hvb : ∀ gs, va = some ⟨gs, 0, none⟩ → gs < w1.heap.size → ¬ gs = b := fun gs e _ hb => by
                have := (hge gs (by rw [e]; simp [rowL, Value.ownBlock])).1; omega
              obtain ⟨n2, hN2⟩ : ∃ n2, L.length = n2 := ⟨_, rfl⟩
              have hn2 : n2 ≤ 1048576 := by have := HH.out.2.2.2.2; omega
              have hgb : g ≠ b := fun e => HK.out.1 (by rw [e]; exact HH2.out.2.2.2.1)
              have HC := Lib.hid (And.intro hp (And.intro hvb (And.intro hbd (And.intro hN2 (And.intro (hS.out.X.keep bb) (And.intro (HH2.out.2.1.keep bb) (hS.out.G.keep bb)))))))
              have HT1 := Lib.hid bb
              rw [hN2]
              clear hL hv hbd hll hge hp hvb hN2 bb
              go_wp2
              go_loopw [11] (fun v11 wr => ∃ j : Nat, j ≤ n2 ∧ v11 = .int .i64 (j : Int) ∧ Hid (Blk wr b (ivs (pnt gr (L.take j) r)) ∧ Turns w1 wr (fun x => x = b))) (fun v11 _ => n2 - (intOf v11).toNat)
              case atStart => exact ⟨0, Nat.zero_le _, rfl, Lib.hid ⟨by rw [List.take_zero, pnt_nil]; exact HC.out.2.2.2.2.2.1, Turns.refl _ _⟩⟩
              case round =>
                obtain ⟨j, hj, rfl, hI⟩ := hrel
                by_cases hlt2 : j < n2
                · have hjL : j < L.length := by rw [HC.out.2.2.2.1]; exact hlt2
                  rcases path_turned HC.out.1 hI.out.2 HC.out.2.1 with he | ⟨gs, rfl, hgs, hcs⟩
                  · rw [he] at hjL; simp at hjL
                  obtain ⟨q1, q2⟩ := hcs j hjL
                  have hgsb : gs ≠ b := fun e => by
                    rcases HC.out.1 with he | ⟨gs2, he, hgl2, _⟩
                    · rw [he] at hjL; simp at hjL
                    · injection he with he; injection he with he; subst he; exact HC.out.2.1 gs rfl hgl2 e
                  have hgp := Ins.getp L hjL
                  have hbd := HC.out.2.2.1 _ (List.getElem_mem hjL)
                  rw [hgp] at hbd
                  have htk : L.take (j + 1) = L.take j ++ [(Ins.pX L j, Ins.pY L j)] := by rw [List.take_succ_eq_append_getElem hjL, hgp]
                  obtain ⟨f, hf9⟩ : ∃ f, Ins.pX L j = f := ⟨_, rfl⟩
                  obtain ⟨t, ht9⟩ : ∃ t, Ins.pY L j = t := ⟨_, rfl⟩
                  rw [hf9] at q1 hbd htk
                  rw [ht9] at q2 hbd htk
                  obtain ⟨fm, rfl⟩ : ∃ fm : Nat, f = (fm : Int) := ⟨f.toNat, by omega⟩
                  have ht32 : t ≤ 32 := hbd.2
                  have j0 : (0 : Int) ≤ (j : Int) := by omega
                  have j1 : (j : Int) < (n2 : Int) := by omega
                  obtain ⟨wy, rfl⟩ : ∃ wy : World, wy = wr := ⟨_, rfl⟩
                  have HQ := Lib.hid (And.intro htk (And.intro hgs (And.intro hI.out.1 (And.intro hI.out.2 q2))))
                  clear hgp hbd htk hf9 ht9 hcs q2
                  go_wp2
                  go_loopw [12] (fun v12 wr => ∃ m : Nat, v12 = .int .i64 (m : Int) ∧ fm ≤ m ∧ ((m : Int) ≤ t ∨ m = fm) ∧ Hid (Blk wr b (ivs (pnt gr (L.take j ++ [((fm : Int), (m : Int))]) r)) ∧ Turns wy wr (fun x => x = b))) (fun v12 _ => 32 - (intOf v12).toNat)
                  case atStart => exact ⟨fm, rfl, Nat.le_refl _, .inr rfl, Lib.hid ⟨by rw [pnt_none (Int.le_refl _)]; exact HQ.out.2.2.1, Turns.refl _ _⟩⟩
                  case round =>
                    obtain ⟨m, rfl, hfm, hmt, hJ⟩ := hrel
                    have hTT := HQ.out.2.2.2.1.trans hJ.out.2
                    have hJX := HC.out.2.2.2.2.1.turn hTT (Ne.symm hbX)
                    have k1 := (sixc hJX).2.1
                    have qg := (HC.out.2.2.2.2.2.2.turn hTT hgb).1 k _ HH2.out.2.2.2.2.2.2
                    have q2 := (hJ.out.2.cell HQ.out.2.1 hgsb (j * 2 + 1)).trans HQ.out.2.2.2.2
                    by_cases hlt3 : (m : Int) < t
                    · have hm32 : m < 32 := by omega
                      have c0 := hJ.out.1.ivAt (i := m) (by rw [pnt_len, hr32]; exact hm32)
                      have f0 := hJ.out.1.2.1
                      have hB4 := Blk.setAt hJ.out.1 (i := m) (by rw [ivs_len, pnt_len, hr32]; exact hm32) (.int .i64 gr)
                      rw [ivs_set, pnt_set rfl (by omega)] at hB4
                      have HB4 := Lib.hid (And.intro hB4 (Turns.one hJ.out.2 m (.int .i64 gr)))
                      have m0 : (0 : Int) ≤ (m : Int) := by omega
                      have m1 : (m : Int) < 32 := by omega
                      generalize (pnt gr (List.take j L ++ [((fm : Int), (m : Int))]) r).getD m 0 = cv at c0
                      clear hB4 hJX hTT
                      go_wp2
                      go_region
                      have HB5 := Lib.hid (And.intro (Blk.drew HB4.out.1) (Turns.drew HB4.out.2))
                      go_wp2
                      go_roundw
                      case rel => exact ⟨m + 1, by go_num, by omega, .inl (by omega), HB5⟩
                      case measure => simp [intOf]; omega
                    · have he : pnt gr (L.take j ++ [((fm : Int), (m : Int))]) r = pnt gr (L.take (j + 1)) r := by
                        rw [HQ.out.1]
                        rcases hmt with h | h
                        · rw [show (m : Int) = t by omega]
                        · subst h
                          rw [pnt_none (Int.le_refl _), pnt_none (by omega)]
                      have HI := Lib.hid (And.intro (he ▸ hJ.out.1) hTT)
                      clear he hJX hTT
                      go_wp2
                      go_roundw
                      case rel => exact ⟨j + 1, by omega, by go_num, HI⟩
                      case measure => simp [intOf]; omega
                · obtain rfl : j = n2 := by omega
                  have htake : L.take j = L := by rw [← HC.out.2.2.2.1, List.take_length]
                  rw [htake] at hI
                  have hT : Turns wz wr (fun x => x = b) := (Turns.of_below HT1.out).trans hI.out.2
                  have hT2 : Turns wz wr (fun x => x ∈ [b]) := hT.mono (fun x hx => by simpa using hx)
                  have hr2 : (pnt gr L r).length = 32 := by rw [pnt_len, hr32]
                  have hOw : Own wr (.sl .int) [.slice (some ⟨b, 0, none⟩) r.length c8] (.sl (dI (pnt gr L r))) [b] := by
                    have := ints_at (c := c8) hI.out.1 (by omega) (by rw [hr2]; exact HH2.out.2.2.2.2.1)
                    rw [hr2] at this; rw [hr32]; exact this
                  have hO := HH2.out.2.2.1 HK.out.2.1 wr _ hT2 hOw
                  rw [pntK_len, dR_set, ← hLr, ← HH2.out.1, pntK_set _ _ HH2.out.2.2.2.2.2.1] at hO
                  have hfin : PtS w3 wr w.heap.size g a l.length c gr x0 y0 x1 y1 P fq (pntK gr (rowsL l gr x0 y0 x1 y1 first) R (k + 1)) :=
                    ⟨HC.out.2.2.2.2.1.turn hI.out.2 (Ne.symm hbX), hS.out.G.turn hT hgb, by rw [pntK_len]; exact hO, hS.out.T.trans (hT.mono (fun x hx => by rw [hx]; exact HH2.out.2.2.2.1))⟩
                  have HF9 := Lib.hid hfin
                  clear htake hT hT2 hr2 hOw hO hfin
                  go_wp2
                  go_roundw
                  case rel => exact ⟨k + 1, by omega, by go_num, HF9⟩
                  case measure => simp [intOf]; omega
            · obtain rfl : k = n := by omega
              go_wp2
              go_ret2
              have e : pntR gr (rowsL l gr x0 y0 x1 y1 first) R = pntK gr (rowsL l gr x0 y0 x1 y1 first) R k := by rw [pntR, HN.out]
              have hO := hS.out.O
              rw [pntK_len] at hO
              have := ss_own (c := c1) hS.out.G (R := pntK gr (rowsL l gr x0 y0 x1 y1 first) R k) (by rw [pntK_len]; exact hO) (by rw [pntK_len, HN.out]; omega) (by rw [pntK_len]; exact HK.out.2.2.2.2.2)
              rw [pntK_len, HN.out] at this
              rw [HPT.out.1, HPT.out.2, e]
              exact ⟨_, c1, g :: fq, by rw [pntK_len, HN.out]; rfl, by rw [pntK_len, HN.out]; exact this, HF.out.1, HF.out.2, HS.out.B.trans (hS.out.T.below (by have := HS.out.B.size; omega) (fun x hx => HF.out.2 x (List.mem_cons_of_mem _ hx)))⟩
      · have HV : Hid (poB R first l gr x0 y0 x1 y1 = false) := Lib.hid (by simp [poB]; omega)
        have hfd : decide (0 ≤ first ∧ first ≤ 32) = false := by simpa using hf
        rw [hfd]
        clear hqb hqo hfd HIn
        go_wp2
        go_ret2
        exact HBad.out HV.out _ HS.out
end Go.Proofs.YtbdjnfnphilklaaGreat.Own
namespace Go.Proofs.YtbdjnfnphilklaaGreat.Ins
open Go.ChangeShapes Go.WideShapes Go.ChangeAt Go.RowKit
open Kit Point Slabs Draw
open Go.Proofs.YtbdjnfnphilklaaGreat.Own (Blk Ob grayB)
set_option linter.unusedVariables false
set_option linter.unusedSimpArgs false
set_option linter.unnecessarySimpa false
set_option maxRecDepth 100000
theorem below_grown {w w' : World} (h : Below w.heap.size w w') : w.grownBy w' none := ⟨h.os, h.tape, h.output, h.size, fun k hk _ => h.block k hk⟩
theorem drawn_below {W w0 w w' : World} {a : Option Addr} {len cap : Nat} {z : List Int} {b : Nat} (d : Drawn W a len cap z b w0 w) (h : Below w.heap.size w w') : Drawn W a len cap z b w0 w' :=
  d.grown (below_grown h) (fun k e => by cases e)
theorem blk_drawn {W w0 w : World} {a : Option Addr} {len cap : Nat} {z : List Int} {b R : Nat} {cs : List Value} (h : Blk w0 R cs) (d : Drawn W a len cap z b w0 w) (hb : R ≠ b) : Blk w R cs :=
  ⟨fun o v hv => d.keeps (h.1 o v hv) hb, fun o => d.thaws h.2.2 (h.2.1 o) hb, Nat.lt_of_lt_of_le h.2.2 d.2.size⟩
structure DoS (W : World) (a : Option Addr) (len cap : Nat) (z : List Int) (b : Nat) (w0 : World) (n0 : Nat) (V : World) (GO GR : Nat) (va : Option Addr) (vc : Nat) (l : List Pt) (g x0 y0 x1 y1 : Int) : Prop where
  O : Blk V GO [.slice va l.length vc, .int .i64 g, .int .i64 x0, .int .i64 y0, .int .i64 x1, .int .i64 y1]
  R : Blk V GR [.slice none 0 0, .int .i64 0, .int .i64 0, .int .i64 0, .int .i64 0, .int .i64 0]
  P : V.ownsRow (n0 + 1) 110 2 (.slice va l.length vc) l.length (cellsP l)
  D : Drawn W a len cap z b w0 V
  N : GO ∉ Own.rowL (.slice va l.length vc)
  l3 : 3 ≤ l.length
  l6 : l.length ≤ 6
  S : Shp l
  G : 0 ≤ g ∧ g ≤ 255
  X : Draw.BoxIn x0 y0 x1 y1
  b0 : b < n0
  bO : n0 < GO
  eR : GR = n0
theorem DoS.next {W : World} {a : Option Addr} {len cap : Nat} {z : List Int} {b : Nat} {w0 V V' : World} {n0 GO GR : Nat} {va : Option Addr} {vc : Nat} {l : List Pt} {g x0 y0 x1 y1 : Int} (h : DoS W a len cap z b w0 n0 V GO GR va vc l g x0 y0 x1 y1) (d : Drawn W a len cap z b V V') : DoS W a len cap z b w0 n0 V' GO GR va vc l g x0 y0 x1 y1 :=
  ⟨blk_drawn h.O d (by have := h.b0; have := h.bO; omega), blk_drawn h.R d (by have := h.b0; have := h.eR; omega), h.P.kept d.2 (.inr fun e => by have := (h.P.lt _ e).1; have := h.b0; omega), h.D.trans d, h.N, h.l3, h.l6, h.S, h.G, h.X, h.b0, h.bO, h.eR⟩
theorem DoS.same {W : World} {a : Option Addr} {len cap : Nat} {z : List Int} {b : Nat} {w0 V : World} {n0 GO GR : Nat} {va : Option Addr} {vc : Nat} {l : List Pt} {g x0 y0 x1 y1 : Int} (h : DoS W a len cap z b w0 n0 V GO GR va vc l g x0 y0 x1 y1) : Drawn W a len cap z b V V := h.D.1.same
theorem DoS.alloc {W : World} {a : Option Addr} {len cap : Nat} {z : List Int} {b : Nat} {w0 V : World} {n0 GO GR : Nat} {va : Option Addr} {vc : Nat} {l : List Pt} {g x0 y0 x1 y1 : Int} (h : DoS W a len cap z b w0 n0 V GO GR va vc l g x0 y0 x1 y1) (o : Obj) : DoS W a len cap z b w0 n0 (V.alloc o) GO GR va vc l g x0 y0 x1 y1 :=
  h.next (h.D.1.same.alloc o)
theorem four_gray (w : World) (T : TypeId) (r : Int) (hr : 0 ≤ r ∧ r ≤ 255) : ∀ k, k < 4 → ∃ q : Int, (0 ≤ q ∧ q ≤ 255) ∧ (w.alloc (.cells #[.int .i64 0, .int .i64 255, .int .i64 128, .int .i64 r] T)).cell? ⟨w.heap.size, k, none⟩ = some (.int .i64 q) := by
  intro k hk
  have : k = 0 ∨ k = 1 ∨ k = 2 ∨ k = 3 := by omega
  rcases this with rfl | rfl | rfl | rfl
  · exact ⟨0, by omega, by simp [go_sem]⟩
  · exact ⟨255, by omega, by simp [go_sem]⟩
  · exact ⟨128, by omega, by simp [go_sem]⟩
  · exact ⟨r, hr, by simp [go_sem]⟩
theorem full_in : Draw.BoxIn 0 0 32 32 := by unfold Draw.BoxIn; omega
theorem DoS.box {W : World} {a : Option Addr} {len cap : Nat} {z : List Int} {b : Nat} {w0 V : World} {n0 GO GR : Nat} {va : Option Addr} {vc : Nat} {l : List Pt} {g x0 y0 x1 y1 : Int} (h : DoS W a len cap z b w0 n0 V GO GR va vc l g x0 y0 x1 y1) (hn : w0.heap.size ≤ n0 ∧ W.heap.size ≤ n0) {u0 v0 u1 v1 : Int} (hX : Draw.BoxIn u0 v0 u1 v1) :
    DoS W a len cap z b w0 n0 ((((V.setCell ⟨GO, 2, none⟩ (.int .i64 u0)).setCell ⟨GO, 3, none⟩ (.int .i64 v0)).setCell ⟨GO, 4, none⟩ (.int .i64 u1)).setCell ⟨GO, 5, none⟩ (.int .i64 v1)) GO GR va vc l g u0 v0 u1 v1 := by
  have e1 := Blk.put (P := [.slice va l.length vc, .int .i64 g]) h.O rfl (.int .i64 u0)
  have e2 := Blk.put (P := [.slice va l.length vc, .int .i64 g, .int .i64 u0]) e1 rfl (.int .i64 v0)
  have e3 := Blk.put (P := [.slice va l.length vc, .int .i64 g, .int .i64 u0, .int .i64 v0]) e2 rfl (.int .i64 u1)
  have e4 := Blk.put (P := [.slice va l.length vc, .int .i64 g, .int .i64 u0, .int .i64 v0, .int .i64 u1]) e3 rfl (.int .i64 v1)
  have hne : GO ≠ GR := by have := h.bO; have := h.eR; omega
  have hb : GO ≠ b := by have := h.bO; have := h.b0; omega
  have h0 : w0.heap.size ≤ GO := by have := h.bO; omega
  have hW : W.heap.size ≤ GO := by have := h.bO; omega
  exact ⟨e4, (((h.R.other hne _ _).other hne _ _).other hne _ _).other hne _ _, Own.row_set (Own.row_set (Own.row_set (Own.row_set h.P h.N _ _) h.N _ _) h.N _ _) h.N _ _, (((h.D.setNew h0 hW hb _ _).setNew h0 hW hb _ _).setNew h0 hW hb _ _).setNew h0 hW hb _ _, h.N, h.l3, h.l6, h.S, h.G, hX, h.b0, h.bO, h.eR⟩
theorem row_four (X : World) (n0 : Nat) (hb : n0 ≤ X.heap.size) (u0 v0 u1 v1 : Int) : (X.alloc (.cells #[.int .i64 u0, .int .i64 v0, .int .i64 u1, .int .i64 v0, .int .i64 u1, .int .i64 v1, .int .i64 u0, .int .i64 v1] 110)).ownsRow n0 110 2 (.slice (some ⟨X.heap.size, 0, none⟩) 4 4) 4 (cellsP [(u0, v0), (u1, v0), (u1, v1), (u0, v1)]) :=
  ⟨rfl, .inr ⟨X.heap.size, 4, _, rfl, hb, heap_alloc_new X _, Nat.le_refl _, by decide, rfl, rfl⟩⟩
theorem shp_four {u0 v0 u1 v1 : Int} (h : Draw.BoxIn u0 v0 u1 v1) : Shp [(u0, v0), (u1, v0), (u1, v1), (u0, v1)] := by
  unfold Draw.BoxIn at h
  intro p hp
  simp only [List.mem_cons, List.not_mem_nil, or_false] at hp
  unfold InPage
  rcases hp with rfl | rfl | rfl | rfl <;> (simp only; omega)
theorem DoS.quad {W : World} {a : Option Addr} {len cap : Nat} {z : List Int} {b : Nat} {w0 V : World} {n0 GO GR : Nat} {va : Option Addr} {vc : Nat} {l : List Pt} {g x0 y0 x1 y1 : Int} (h : DoS W a len cap z b w0 n0 V GO GR va vc l g x0 y0 x1 y1) (hn : w0.heap.size ≤ n0 ∧ W.heap.size ≤ n0) {u0 v0 u1 v1 : Int} (hX : Draw.BoxIn u0 v0 u1 v1) :
    DoS W a len cap z b w0 n0 ((V.setCell ⟨GO, 0, none⟩ (.slice (some ⟨V.heap.size, 0, none⟩) 4 4)).alloc (.cells #[.int .i64 u0, .int .i64 v0, .int .i64 u1, .int .i64 v0, .int .i64 u1, .int .i64 v1, .int .i64 u0, .int .i64 v1] 110)) GO GR (some ⟨V.heap.size, 0, none⟩) 4 [(u0, v0), (u1, v0), (u1, v1), (u0, v1)] g x0 y0 x1 y1 := by
  have e1 := Blk.put (P := []) h.O rfl (.slice (some ⟨V.heap.size, 0, none⟩) 4 4)
  have hne : GO ≠ GR := by have := h.bO; have := h.eR; omega
  have hb : GO ≠ b := by have := h.bO; have := h.b0; omega
  have h0 : w0.heap.size ≤ GO := by have := h.bO; omega
  have hW : W.heap.size ≤ GO := by have := h.bO; omega
  have hs : (V.setCell ⟨GO, 0, none⟩ (.slice (some ⟨V.heap.size, 0, none⟩) 4 4)).heap.size = V.heap.size := by simp
  have hlt := h.O.2.2
  have hr := row_four (V.setCell ⟨GO, 0, none⟩ (.slice (some ⟨V.heap.size, 0, none⟩) 4 4)) (n0 + 1) (by rw [hs]; have := h.bO; omega) u0 v0 u1 v1
  rw [hs] at hr
  exact ⟨e1.alloc _, (h.R.other hne _ _).alloc _, hr, (h.D.setNew h0 hW hb _ _).alloc _, fun hx => by simp [Own.rowL, Value.ownBlock] at hx; omega, by simp, by simp, shp_four hX, h.G, h.X, h.b0, h.bO, h.eR⟩
def ObDrawn (W : World) (a : Option Addr) (len cap : Nat) (z : List Int) (b : Nat) (w0 : World) (n0 : Nat) (e : Ending) (w' : World) : Prop := ∃ (va : Option Addr) (vc : Nat) (l : List Pt) (g x0 y0 x1 y1 : Int), e = .returned (.agg #[.slice va l.length vc, .int .i64 g, .int .i64 x0, .int .i64 y0, .int .i64 x1, .int .i64 y1]) ∧
  3 ≤ l.length ∧ l.length ≤ 6 ∧ Shp l ∧ (0 ≤ g ∧ g ≤ 255) ∧ Draw.BoxIn x0 y0 x1 y1 ∧ w'.ownsRow n0 110 2 (.slice va l.length vc) l.length (cellsP l) ∧ Drawn W a len cap z b w0 w'
set_option maxHeartbeats 4000000 in
theorem object_on (W w0 w : World) (b : Nat) (a : Option Addr) (len cap : Nat) (z : List Int) (d : Drawn W a len cap z b w0 w) :
    Calls Tryz.prog 70 #[.pointer (some ⟨b, 0, none⟩)] w (ObDrawn W a len cap z b w0 w.heap.size) := by
  have hbl := d.1.here
  have hW := Nat.le_trans d.1.far (Nat.le_of_lt d.1.here)
  have hn0 : w0.heap.size ≤ w.heap.size ∧ W.heap.size ≤ w.heap.size := ⟨d.2.size, hW⟩
  have HD := Lib.hid (d.alloc (.cells #[.slice none 0 0, .int .i64 0, .int .i64 0, .int .i64 0, .int .i64 0, .int .i64 0] 53))
  have HRb := Lib.hid (Blk.new w #[.slice none 0 0, .int .i64 0, .int .i64 0, .int .i64 0, .int .i64 0, .int .i64 0] 53 rfl)
  clear d
  go_enter Tryz.func70, Tryz.ntmps70
  go_wp2_with fail
  (refine (path_on W _ _ b a len cap z HD.out.1.same).mono ?_; rintro e w1 ⟨v, l, rfl, h3, h6, hS, ho, d1⟩)
  obtain ⟨va, vc, rfl, _⟩ := path_of_owns ho
  have HO := Lib.hid (And.intro ho (And.intro d1 hS))
  clear ho d1 hS
  go_wp2_with fail
  (refine (below_on W _ _ b a len cap z 256 HO.out.2.1.1.same).mono ?_; rintro e w2 ⟨r, hr, rfl, d2⟩)
  have hr' : 0 ≤ r ∧ r ≤ 255 := by obtain ⟨h0, h1, _⟩ := hr; have := h1 (by omega); omega
  have H2 := Lib.hid (And.intro d2 hr')
  clear d2 hr hr'
  go_wp2_with fail
  (refine (pickP_on (fun q => 0 ≤ q ∧ q ≤ 255) W _ _ b a len cap z _ 4 _ (Drawn.ne H2.out.1) (by decide) (by decide) (four_gray _ _ _ H2.out.2) (H2.out.1.alloc _)).mono ?_; rintro e w3 ⟨g, hg, rfl, d3⟩)
  have H3 := Lib.hid d3
  clear d3
  go_wp2_with fail
  have hFull : ∀ V : World, Calls Tryz.prog 100 #[] V fun e w' => e = .returned (.agg #[.int .i64 0, .int .i64 0, .int .i64 32, .int .i64 32]) ∧ Below V.heap.size V w' := fun V => page_full V
  ((with_reducible refine (hFull _).mono ?_); rintro e w4 ⟨rfl, b4⟩)
  have D4 := drawn_below H3.out b4
  have H4 := Lib.hid (And.intro D4 hg)
  have HB := Lib.hid hbl
  have HN := Lib.hid hn0
  clear hFull b4 D4 hg hbl hn0 hW
  go_upto_region 2 with fail
  refine gen_any9 (fun V => DoS W a len cap z b w0 w.heap.size V w4.heap.size w.heap.size va vc l g 0 0 32 32) ?_ ?_
  · have hsz : (w.alloc (.cells #[.slice none 0 0, .int .i64 0, .int .i64 0, .int .i64 0, .int .i64 0, .int .i64 0] 53)).heap.size = w.heap.size + 1 := by simp
    have D5 := H4.out.1.alloc (.cells #[.slice va l.length vc, .int .i64 g, .int .i64 0, .int .i64 0, .int .i64 32, .int .i64 32] 53)
    have hP := HO.out.1
    rw [hsz] at hP
    have s1 := HO.out.2.1.2.size
    rw [hsz] at s1
    have s4 := H4.out.1.2.size
    have hb := HB.out
    exact ⟨Blk.new w4 _ _ rfl, (blk_drawn (blk_drawn HRb.out HO.out.2.1 (by omega)) H4.out.1 (by omega)).alloc _, hP.kept D5.2 (.inr fun e => by have := (hP.lt _ e).1; omega), (HD.out.trans HO.out.2.1).trans D5, fun hx => by have := (Own.rowL_ge hP _ hx).2; omega, h3, h6, HO.out.2.2, H4.out.2, full_in, hb, by omega, rfl⟩
  intro V5 hS
  obtain ⟨GR, hGR⟩ : ∃ x, w.heap.size = x := ⟨_, rfl⟩
  obtain ⟨GO, hGO⟩ : ∃ x, w4.heap.size = x := ⟨_, rfl⟩
  have HS : Hid (DoS W a len cap z b w0 w.heap.size V5 GO GR va vc l g 0 0 32 32) := Lib.hid (by have := hS; rw [hGO] at this; exact hGR ▸ this)
  simp only [hGO, hGR]
  clear hS hGO hGR HO H2 H3 H4 HD HRb
  go_wp2_with fail
  (refine (once_on W _ _ b a len cap z 3 HS.out.same).mono ?_; rintro e w5 ⟨r5, rfl, d5⟩)
  have HS := Lib.hid (HS.out.next d5)
  clear d5
  cases r5
  · go_wp2_with fail
    (refine (once_on W _ _ b a len cap z 3 HS.out.same).mono ?_; rintro e w6 ⟨r6, rfl, d6⟩)
    have HS := Lib.hid (HS.out.next d6)
    clear d6
    cases r6
    · obtain ⟨k0, k1, k2, k3, k4, k5, _, hzA⟩ := six HS.out.O
      obtain ⟨e0, e1, e2, e3, e4, e5, hf, hzR⟩ := six HS.out.R
      go_wp2
      refine bodyPost_ret (by simp [results, Tryz.results70, go_sem, *]; try rfl) rfl ?_
      have hN : GR ∉ Own.rowL (.slice va l.length vc) := fun hx => by have := (Own.rowL_ge HS.out.P _ hx).1; have := HS.out.eR; omega
      have hb : GR ≠ b := by have := HS.out.eR; have := HS.out.b0; omega
      have h0 : w0.heap.size ≤ GR := by have := HS.out.eR; have := HN.out; omega
      have hW : W.heap.size ≤ GR := by have := HS.out.eR; have := HN.out; omega
      refine ⟨va, vc, l, g, _, _, _, _, rfl, HS.out.l3, HS.out.l6, HS.out.S, HS.out.G, HS.out.X, ?_, ?_⟩
      · refine Own.row_base (B := w.heap.size + 1) ?_ (by omega)
        repeat (refine Own.row_set ?_ hN _ _)
        exact HS.out.P
      · repeat (refine Drawn.setNew ?_ h0 hW hb _ _)
        exact HS.out.D
    · go_wp2_with fail
      ((with_reducible refine (box_on W _ _ b a len cap z HS.out.same).mono ?_); rintro e w7 ⟨u0, v0, u1, v1, hX7, rfl, d7⟩)
      have HS := Lib.hid (HS.out.next d7)
      clear d7
      go_upto_region 6 with fail
      refine gen_any9 (fun V => (∃ x0 y0 x1 y1, DoS W a len cap z b w0 w.heap.size V GO GR va vc l g x0 y0 x1 y1) ∧ Four V w7.heap.size u0 v0 u1 v1) ⟨⟨_, _, _, _, HS.out.alloc _⟩, Four.new _ _ _ _ _ _⟩ ?_
      rintro V7 ⟨⟨x0, y0, x1, y1, hS⟩, hF⟩
      have HS := Lib.hid hS
      obtain ⟨GB, hGB⟩ : ∃ x, w7.heap.size = x := ⟨_, rfl⟩
      rw [hGB] at hF ⊢
      clear hS hGB
      obtain ⟨f0, f1, f2, f3, _⟩ := hF.lay
      obtain ⟨k0, k1, k2, k3, k4, k5, hfO, hzO⟩ := six HS.out.O
      go_upto_region 7 with fail
      have H7 := Lib.hid hX7
      clear hX7 f0 f1 f2 f3 k0 k1 k2 k3 k4 k5 hfO hzO hF
      refine gen_any9 (fun V => DoS W a len cap z b w0 w.heap.size V GO GR (some ⟨V7.heap.size, 0, none⟩) 4 [(u0, v0), (u1, v0), (u1, v1), (u0, v1)] g x0 y0 x1 y1) (HS.out.quad HN.out H7.out) ?_
      intro V9 hS
      obtain ⟨NV, hNV⟩ : ∃ x, V7.heap.size = x := ⟨_, rfl⟩
      rw [hNV] at hS
      simp only [hNV]
      have HS := Lib.hid hS
      clear hS hNV
      obtain ⟨k0, k1, k2, k3, k4, k5, _, hzA⟩ := six HS.out.O
      obtain ⟨e0, e1, e2, e3, e4, e5, hf, hzR⟩ := six HS.out.R
      go_wp2
      refine bodyPost_ret (by simp [results, Tryz.results70, go_sem, *]; try rfl) rfl ?_
      have hN : GR ∉ Own.rowL (.slice (some ⟨NV, 0, none⟩) 4 4) := fun hx => by have := (Own.rowL_ge HS.out.P _ hx).1; have := HS.out.eR; omega
      have hb : GR ≠ b := by have := HS.out.eR; have := HS.out.b0; omega
      have h0 : w0.heap.size ≤ GR := by have := HS.out.eR; have := HN.out; omega
      have hW : W.heap.size ≤ GR := by have := HS.out.eR; have := HN.out; omega
      refine ⟨_, 4, [(u0, v0), (u1, v0), (u1, v1), (u0, v1)], g, _, _, _, _, rfl, HS.out.l3, HS.out.l6, HS.out.S, HS.out.G, HS.out.X, ?_, ?_⟩
      · refine Own.row_base (B := w.heap.size + 1) ?_ (by omega)
        repeat (refine Own.row_set ?_ hN _ _)
        exact HS.out.P
      · repeat (refine Drawn.setNew ?_ h0 hW hb _ _)
        exact HS.out.D
  · go_wp2_with fail
    ((with_reducible refine (box_on W _ _ b a len cap z HS.out.same).mono ?_); rintro e w8 ⟨s0, t0, s1, t1, hX8, rfl, d8⟩)
    have HS := Lib.hid (HS.out.next d8)
    have H8 := Lib.hid hX8
    clear d8 hX8
    obtain ⟨k0, k1, k2, k3, k4, k5, hfO, hzO⟩ := six HS.out.O
    go_upto_region 4 with fail
    clear k0 k1 k2 k3 k4 k5 hfO hzO
    refine gen_any9 (fun V => DoS W a len cap z b w0 w.heap.size V GO GR va vc l g s0 t0 s1 t1) (HS.out.box HN.out H8.out) ?_
    intro V8 hS
    have HS := Lib.hid hS
    clear hS
    go_wp2_with fail
    (refine (once_on W _ _ b a len cap z 3 HS.out.same).mono ?_; rintro e w6 ⟨r6, rfl, d6⟩)
    have HS := Lib.hid (HS.out.next d6)
    clear d6
    cases r6
    · obtain ⟨k0, k1, k2, k3, k4, k5, _, hzA⟩ := six HS.out.O
      obtain ⟨e0, e1, e2, e3, e4, e5, hf, hzR⟩ := six HS.out.R
      go_wp2
      refine bodyPost_ret (by simp [results, Tryz.results70, go_sem, *]; try rfl) rfl ?_
      have hN : GR ∉ Own.rowL (.slice va l.length vc) := fun hx => by have := (Own.rowL_ge HS.out.P _ hx).1; have := HS.out.eR; omega
      have hb : GR ≠ b := by have := HS.out.eR; have := HS.out.b0; omega
      have h0 : w0.heap.size ≤ GR := by have := HS.out.eR; have := HN.out; omega
      have hW : W.heap.size ≤ GR := by have := HS.out.eR; have := HN.out; omega
      refine ⟨va, vc, l, g, _, _, _, _, rfl, HS.out.l3, HS.out.l6, HS.out.S, HS.out.G, HS.out.X, ?_, ?_⟩
      · refine Own.row_base (B := w.heap.size + 1) ?_ (by omega)
        repeat (refine Own.row_set ?_ hN _ _)
        exact HS.out.P
      · repeat (refine Drawn.setNew ?_ h0 hW hb _ _)
        exact HS.out.D
    · go_wp2_with fail
      ((with_reducible refine (box_on W _ _ b a len cap z HS.out.same).mono ?_); rintro e w7 ⟨u0, v0, u1, v1, hX7, rfl, d7⟩)
      have HS := Lib.hid (HS.out.next d7)
      clear d7
      go_upto_region 6 with fail
      refine gen_any9 (fun V => (∃ x0 y0 x1 y1, DoS W a len cap z b w0 w.heap.size V GO GR va vc l g x0 y0 x1 y1) ∧ Four V w7.heap.size u0 v0 u1 v1) ⟨⟨_, _, _, _, HS.out.alloc _⟩, Four.new _ _ _ _ _ _⟩ ?_
      rintro V7 ⟨⟨x0, y0, x1, y1, hS⟩, hF⟩
      have HS := Lib.hid hS
      obtain ⟨GB, hGB⟩ : ∃ x, w7.heap.size = x := ⟨_, rfl⟩
      rw [hGB] at hF ⊢
      clear hS hGB
      obtain ⟨f0, f1, f2, f3, _⟩ := hF.lay
      obtain ⟨k0, k1, k2, k3, k4, k5, hfO, hzO⟩ := six HS.out.O
      go_upto_region 7 with fail
      have H7 := Lib.hid hX7
      clear hX7 f0 f1 f2 f3 k0 k1 k2 k3 k4 k5 hfO hzO hF
      refine gen_any9 (fun V => DoS W a len cap z b w0 w.heap.size V GO GR (some ⟨V7.heap.size, 0, none⟩) 4 [(u0, v0), (u1, v0), (u1, v1), (u0, v1)] g x0 y0 x1 y1) (HS.out.quad HN.out H7.out) ?_
      intro V9 hS
      obtain ⟨NV, hNV⟩ : ∃ x, V7.heap.size = x := ⟨_, rfl⟩
      rw [hNV] at hS
      simp only [hNV]
      have HS := Lib.hid hS
      clear hS hNV
      obtain ⟨k0, k1, k2, k3, k4, k5, _, hzA⟩ := six HS.out.O
      obtain ⟨e0, e1, e2, e3, e4, e5, hf, hzR⟩ := six HS.out.R
      go_wp2
      refine bodyPost_ret (by simp [results, Tryz.results70, go_sem, *]; try rfl) rfl ?_
      have hN : GR ∉ Own.rowL (.slice (some ⟨NV, 0, none⟩) 4 4) := fun hx => by have := (Own.rowL_ge HS.out.P _ hx).1; have := HS.out.eR; omega
      have hb : GR ≠ b := by have := HS.out.eR; have := HS.out.b0; omega
      have h0 : w0.heap.size ≤ GR := by have := HS.out.eR; have := HN.out; omega
      have hW : W.heap.size ≤ GR := by have := HS.out.eR; have := HN.out; omega
      refine ⟨_, 4, [(u0, v0), (u1, v0), (u1, v1), (u0, v1)], g, _, _, _, _, rfl, HS.out.l3, HS.out.l6, HS.out.S, HS.out.G, HS.out.X, ?_, ?_⟩
      · refine Own.row_base (B := w.heap.size + 1) ?_ (by omega)
        repeat (refine Own.row_set ?_ hN _ _)
        exact HS.out.P
      · repeat (refine Drawn.setNew ?_ h0 hW hb _ _)
        exact HS.out.D
end Go.Proofs.YtbdjnfnphilklaaGreat.Ins
