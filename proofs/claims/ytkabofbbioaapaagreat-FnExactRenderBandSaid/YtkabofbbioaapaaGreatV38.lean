/-
  Texts of this seat, laid together: Ps11
-/
import Derived.Deep.RegionLaw
import Derived.Test.YtkabofbbioaapaaGreatV35
namespace Go.Proofs.YtkabofbbioaapaaGreat.Own
open Go.ChangeShapes Go.WideShapes Go.ChangeAt Go.RowKit
open Kit Slabs Ints
open Go.Proofs.YtkabofbbioaapaaGreat.Ins (Pt gen_any9 orow obK)
set_option linter.unusedVariables false
set_option linter.unusedSimpArgs false
set_option linter.unnecessarySimpa false
set_option maxRecDepth 100000
theorem Turns.drewN {w w' : World} {S : Nat → Prop} (h : Turns w w' S) (n : Nat) : Turns w (w'.drewN n) S := ⟨h.os, h.tape, h.output, h.size, h.block⟩
theorem Turns.cell {w w' : World} {S : Nat → Prop} (h : Turns w w' S) {g : Nat} (hg : g < w.heap.size) (hS : ¬ S g) (o : Nat) : w'.cell? ⟨g, o, none⟩ = w.cell? ⟨g, o, none⟩ := World.cell?_of_block (w := w) (h.block g hg hS)
set_option maxHeartbeats 8000000 in
theorem paintobj_spec (w : World) (ra : Option Addr) (rc : Nat) (R : List (List Int)) (first : Int) (a : Option Addr) (c : Nat) (l : List Pt) (gr x0 y0 x1 y1 : Int)
    (hn : l.length ≤ 1048576) (hR : R.length ≤ 1048576) (ht : tot R ≤ 1048576) (h : RR w ra R) (hp : Ins.PathAt w a l) :
    Calls Tryz.prog 42 #[.slice ra R.length rc, .int .i64 first, .agg #[.slice a l.length c, .int .i64 gr, .int .i64 x0, .int .i64 y0, .int .i64 x1, .int .i64 y1]] w (PoNew (poR R first l gr x0 y0 x1 y1) (poB R first l gr x0 y0 x1 y1) w) := by
  have HH := Lib.hid (And.intro h (And.intro hp (And.intro hR (And.intro ht hn))))
  obtain ⟨n, hN⟩ : ∃ n, R.length = n := ⟨_, rfl⟩
  have HN := Lib.hid hN
  have HX0 := Lib.hid (Blk.new w #[.slice a l.length c, .int .i64 gr, .int .i64 x0, .int .i64 y0, .int .i64 x1, .int .i64 y1] 52 rfl)
  have HW0 : Hid (Below w.heap.size w (w.alloc (.cells #[.slice a l.length c, .int .i64 gr, .int .i64 x0, .int .i64 y0, .int .i64 x1, .int .i64 y1] 52))) := Lib.hid (by go_grown)
  have HCP := Lib.hid (copyrows_spec _ ra rc R hR ht (h.on HW0.out))
  rw [hN] at HCP
  clear hN h hp ht hn
  rw [HN.out]
  go_enter Tryz.func42, Tryz.ntmps42
  go_wp2_with fail
  ((with_reducible refine HCP.out.mono ?_); rintro e w1 ⟨a1, c1, fp, rfl, ho, hnd, hge, bb⟩)
  have hX : w.heap.size < w1.heap.size := by have := bb.size; simp at this; omega
  have HS := Lib.hid (show PoS w w1 w.heap.size a1 c1 R fp (sixv a l.length c gr x0 y0 x1 y1) from ⟨HX0.out.keep bb, ho, on_of HW0.out bb⟩)
  have HF := Lib.hid (And.intro hnd (show ∀ b ∈ fp, w.heap.size ≤ b from fun b hb => by have := hge b hb; simp at this; omega))
  have HFX : Hid (∀ b ∈ fp, b ≠ w.heap.size) := Lib.hid (fun b hb => by have := hge b hb; simp at this; omega)
  clear ho hnd hge bb HCP
  rw [HN.out]
  have hRB := rowsok_spec w1 ra rc R HH.out.2.2.1 HH.out.2.2.2.1 (HH.out.1.on HS.out.B)
  rw [HN.out] at hRB
  have HRB := Lib.hid hRB
  clear hRB
  go_wp2_with fail
  ((with_reducible refine HRB.out.mono ?_); rintro e w2 ⟨rfl, bb⟩)
  have HS := Lib.hid (HS.out.on bb)
  clear bb HRB
  obtain ⟨qb, hqb⟩ : ∃ q, rowsB R = q := ⟨_, rfl⟩
  rw [hqb]
  have bad : poB R first l gr x0 y0 x1 y1 = false → ∀ V, PoS w V w.heap.size a1 c1 R fp (sixv a l.length c gr x0 y0 x1 y1) → PoNew (poR R first l gr x0 y0 x1 y1) (poB R first l gr x0 y0 x1 y1) w (.returned (.tuple #[.slice a1 n c1, .bool false])) V := fun hb V hV => by
    have e : poR R first l gr x0 y0 x1 y1 = R := by simp [poR, hb]
    rw [e, hb]
    exact ⟨a1, c1, fp, by rw [HN.out], hV.O, HF.out.1, HF.out.2, hV.B⟩
  have HBad := Lib.hid bad
  clear bad
  cases qb
  · have HV : Hid (poB R first l gr x0 y0 x1 y1 = false) := Lib.hid (by simp [poB, hqb])
    clear hqb
    go_wp2
    go_ret2
    exact HBad.out HV.out _ HS.out
  · have HOK := Lib.hid (Ins.ok_spec w2 a c l gr x0 y0 x1 y1 HH.out.2.2.2.2 (HH.out.2.1.on HS.out.B))
    obtain ⟨k0, k1, k2, k3, k4, k5, hzX⟩ := sixc HS.out.X
    have HXe := Lib.hid (show Below w.heap.size w w2 from HS.out.B)
    go_wp2_with fail
    clear k0 k1 k2 k3 k4 k5
    ((with_reducible refine HOK.out.mono ?_); rintro e w3 ⟨rfl, bb⟩)
    have HS := Lib.hid (HS.out.on bb)
    clear bb HOK
    obtain ⟨qo, hqo⟩ : ∃ q, obK l gr x0 y0 x1 y1 = q := ⟨_, rfl⟩
    rw [hqo]
    cases qo
    · have HV : Hid (poB R first l gr x0 y0 x1 y1 = false) := Lib.hid (by simp [poB, hqo])
      clear hqb hqo
      go_wp2
      go_ret2
      exact HBad.out HV.out _ HS.out
    · have HIn := Lib.hid (Point.in_any first 0 32 w3)
      go_wp2_with fail
      ((with_reducible refine HIn.out.mono ?_); rintro e w3 ⟨rfl, rfl⟩)
      by_cases hf : 0 ≤ first ∧ first ≤ 32
      · have hV : poB R first l gr x0 y0 x1 y1 = true := by simp [poB, hqb, hqo]; omega
        obtain ⟨h32, h33⟩ := rows32 hqb
        have hfd : decide (0 ≤ first ∧ first ≤ 32) = true := by simpa using hf
        rw [hfd]
        have hpt : poR R first l gr x0 y0 x1 y1 = pntR gr (rowsL l gr x0 y0 x1 y1 first) R := by simp [poR, hV]
        have HPT := Lib.hid (And.intro hpt hV)
        have hpa : ∀ W, Turns w3 W (fun b => b ∈ fp) → Ins.PathAt W a l := fun W hW => HH.out.2.1.on (HS.out.B.trans (hW.below (by have := HS.out.B.size; omega) HF.out.2))
        clear hqb hqo hfd HBad HIn hpt hV
        rcases Nat.eq_zero_or_pos n with h0 | h0
        · have hRe : R = [] := List.eq_nil_of_length_eq_zero (by rw [HN.out, h0])
          subst hRe
          subst h0
          go_wp2
          go_rounds 1
          go_ret2
          rw [HPT.out.1, HPT.out.2]
          exact ⟨a1, c1, fp, rfl, HS.out.O, HF.out.1, HF.out.2, HS.out.B⟩
        · obtain ⟨a9, c9, hv, _, hG⟩ := own_ss HS.out.O
          simp only [Value.slice.injEq] at hv
          obtain ⟨rfl, _, rfl⟩ := hv
          obtain ⟨g, P, fq, rfl, rfl, hRc, hB, hO⟩ := hG (by rw [HN.out]; omega)
          obtain ⟨hgq, hdq⟩ := List.nodup_cons.1 HF.out.1
          have HS0 := Lib.hid (show PtS w3 w3 w.heap.size g a l.length c gr x0 y0 x1 y1 P fq (pntK gr (rowsL l gr x0 y0 x1 y1 first) R 0) by
            rw [pntK_zero]
            exact ⟨HS.out.X, hB, hO, Turns.refl _ _⟩)
          have hfX : ∀ b ∈ g :: fq, b ≠ w.heap.size := HFX.out
          have HK := Lib.hid (And.intro hgq (And.intro hdq (And.intro hpa (And.intro h33 (And.intro hfX hRc)))))
          have hR2 : n ≤ 32 := by rw [HN.out] at h32; exact h32
          clear hB hO hgq hdq hpa h33 hRc h32 hG hfX
          go_wp2
          go_loopw [9] (fun v9 wr => ∃ k : Nat, k ≤ n ∧ v9 = .int .i64 (k : Int) ∧ Hid (PtS w3 wr w.heap.size g a l.length c gr x0 y0 x1 y1 P fq (pntK gr (rowsL l gr x0 y0 x1 y1 first) R k))) (fun v9 _ => n - (intOf v9).toNat)
          case atStart => exact ⟨0, Nat.zero_le _, rfl, HS0⟩
          case round =>
            obtain ⟨k, hk, rfl, hS⟩ := hrel
            by_cases hlt : k < n
            · have hkR : k < R.length := by rw [HN.out]; exact hlt
              obtain ⟨v, d, f, hPk, hdk, hOk, hfk, hnext⟩ := OwnL.nth rfl hS.out.O (k := k) (by rw [pntK_len]; exact hkR)
              rw [dR_at _ _ (by rw [pntK_len]; exact hkR), Option.some.injEq, pntK_at _ _ hkR] at hdk
              subst hdk
              obtain ⟨r, hr⟩ : ∃ r, R.getD k [] = r := ⟨_, rfl⟩
              have hr32 : r.length = 32 := by
                rw [← hr, List.getD_eq_getElem?_getD, List.getElem?_eq_getElem hkR, Option.getD_some]
                exact HK.out.2.2.2.1 _ (List.getElem_mem hkR)
              rw [hr] at hOk
              obtain ⟨a8, c8, rfl, _, hrow⟩ := own_ints hOk
              obtain ⟨b, rfl, rfl, hrc, hBr⟩ := hrow (by omega)
              rw [hr32] at hPk hrc
              obtain ⟨k0, k1, k2, k3, k4, k5, hzX⟩ := sixc hS.out.X
              have hbq : b ∈ fq := hfk b (by simp)
              have hgl := hS.out.G.2.2
              have HH2 := Lib.hid (And.intro hr (And.intro hBr (And.intro hnext (And.intro hbq (And.intro hrc (And.intro hkR hPk))))))
              clear hr hBr hnext hOk hfk hPk hbq hrc hkR hrow
              have i0 : (0 : Int) ≤ (k : Int) := by omega
              have i1 : (k : Int) < (n : Int) := by omega
              obtain ⟨wz, rfl⟩ : ∃ wz : World, wz = wr := ⟨_, rfl⟩
              have HPW := Lib.hid (HK.out.2.2.1 wz (hS.out.T.mono (fun x hx => List.mem_cons_of_mem _ hx)))
              have hbX := HK.out.2.2.2.2.1 b (List.mem_cons_of_mem _ HH2.out.2.2.2.1)
              have hbz : b < wz.heap.size := HH2.out.2.1.2.2
              go_wp2_with fail
              clear k0 k1 k2 k3 k4 k5
              ((with_reducible refine (Ins.orow_spec _ a c l gr x0 y0 x1 y1 (first + (k : Int)) HH.out.2.2.2.2 HPW.out).mono ?_); rintro e w1 ⟨v, rfl, hv, bb⟩)
              have hbd := orow_bd l gr x0 y0 x1 y1 (first + (k : Int))
              have hll := orow_len11 l gr x0 y0 x1 y1 (first + (k : Int))
              obtain ⟨L, hL⟩ : ∃ L, orow l gr x0 y0 x1 y1 (first + (k : Int)) = L := ⟨_, rfl⟩
              have hLr : rowsL l gr x0 y0 x1 y1 first k = L := hL
              rw [hL] at hv hbd hll
              have hge := rowL_ge hv
              obtain ⟨va, vc, rfl, hp⟩ := Ins.path_of_owns hv
              have hvb : ∀ gs, va = some ⟨gs, 0, none⟩ → gs < w1.heap.size → ¬ gs = b := fun gs e _ hb => by
                have := (hge gs (by rw [e]; simp [rowL, Value.ownBlock])).1; omega
              obtain ⟨n2, hN2⟩ : ∃ n2, L.length = n2 := ⟨_, rfl⟩
              have hn2 : n2 ≤ 1048576 := by have := HH.out.2.2.2.2; omega
              have hgb : g ≠ b := fun e => HK.out.1 (by rw [e]; exact HH2.out.2.2.2.1)
              have HC := Lib.hid (And.intro hp (And.intro hvb (And.intro hbd (And.intro hN2 (And.intro (hS.out.X.keep bb) (And.intro (HH2.out.2.1.keep bb) (hS.out.G.keep bb)))))))
              have HT1 := Lib.hid bb
              rw [hN2]
              clear hL hv hbd hll hge hp hvb hN2 bb
              go_wp2
              go_loopw [11] (fun v11 wr => ∃ j : Nat, j ≤ n2 ∧ v11 = .int .i64 (j : Int) ∧ Hid (Blk wr b (ivs (pnt gr (L.take j) r)) ∧ Turns w1 wr (fun x => x = b))) (fun v11 _ => n2 - (intOf v11).toNat)
              case atStart => exact ⟨0, Nat.zero_le _, rfl, Lib.hid ⟨by rw [List.take_zero, pnt_nil]; exact HC.out.2.2.2.2.2.1, Turns.refl _ _⟩⟩
              case round =>
                obtain ⟨j, hj, rfl, hI⟩ := hrel
                by_cases hlt2 : j < n2
                · have hjL : j < L.length := by rw [HC.out.2.2.2.1]; exact hlt2
                  rcases path_turned HC.out.1 hI.out.2 HC.out.2.1 with he | ⟨gs, rfl, hgs, hcs⟩
                  · rw [he] at hjL; simp at hjL
                  obtain ⟨q1, q2⟩ := hcs j hjL
                  have hgsb : gs ≠ b := fun e => by
                    rcases HC.out.1 with he | ⟨gs2, he, hgl2, _⟩
                    · rw [he] at hjL; simp at hjL
                    · injection he with he; injection he with he; subst he; exact HC.out.2.1 gs rfl hgl2 e
                  have hgp := Ins.getp L hjL
                  have hbd := HC.out.2.2.1 _ (List.getElem_mem hjL)
                  rw [hgp] at hbd
                  have htk : L.take (j + 1) = L.take j ++ [(Ins.pX L j, Ins.pY L j)] := by rw [List.take_succ_eq_append_getElem hjL, hgp]
                  obtain ⟨f, hf9⟩ : ∃ f, Ins.pX L j = f := ⟨_, rfl⟩
                  obtain ⟨t, ht9⟩ : ∃ t, Ins.pY L j = t := ⟨_, rfl⟩
                  rw [hf9] at q1 hbd htk
                  rw [ht9] at q2 hbd htk
                  obtain ⟨fm, rfl⟩ : ∃ fm : Nat, f = (fm : Int) := ⟨f.toNat, by omega⟩
                  have ht32 : t ≤ 32 := hbd.2
                  have j0 : (0 : Int) ≤ (j : Int) := by omega
                  have j1 : (j : Int) < (n2 : Int) := by omega
                  obtain ⟨wy, rfl⟩ : ∃ wy : World, wy = wr := ⟨_, rfl⟩
                  have HQ := Lib.hid (And.intro htk (And.intro hgs (And.intro hI.out.1 (And.intro hI.out.2 q2))))
                  clear hgp hbd htk hf9 ht9 hcs q2
                  go_wp2
                  go_loopw [12] (fun v12 wr => ∃ m : Nat, v12 = .int .i64 (m : Int) ∧ fm ≤ m ∧ ((m : Int) ≤ t ∨ m = fm) ∧ Hid (Blk wr b (ivs (pnt gr (L.take j ++ [((fm : Int), (m : Int))]) r)) ∧ Turns wy wr (fun x => x = b))) (fun v12 _ => 32 - (intOf v12).toNat)
                  case atStart => exact ⟨fm, rfl, Nat.le_refl _, .inr rfl, Lib.hid ⟨by rw [pnt_none (Int.le_refl _)]; exact HQ.out.2.2.1, Turns.refl _ _⟩⟩
                  case round =>
                    obtain ⟨m, rfl, hfm, hmt, hJ⟩ := hrel
                    have hTT := HQ.out.2.2.2.1.trans hJ.out.2
                    have hJX := HC.out.2.2.2.2.1.turn hTT (Ne.symm hbX)
                    have k1 := (sixc hJX).2.1
                    have qg := (HC.out.2.2.2.2.2.2.turn hTT hgb).1 k _ HH2.out.2.2.2.2.2.2
                    have q2 := (hJ.out.2.cell HQ.out.2.1 hgsb (j * 2 + 1)).trans HQ.out.2.2.2.2
                    by_cases hlt3 : (m : Int) < t
                    · have hm32 : m < 32 := by omega
                      have c0 := hJ.out.1.ivAt (i := m) (by rw [pnt_len, hr32]; exact hm32)
                      have f0 := hJ.out.1.2.1
                      have hB4 := Blk.setAt hJ.out.1 (i := m) (by rw [ivs_len, pnt_len, hr32]; exact hm32) (.int .i64 gr)
                      rw [ivs_set, pnt_set rfl (by omega)] at hB4
                      have HB4 := Lib.hid (And.intro hB4 (Turns.one hJ.out.2 m (.int .i64 gr)))
                      have m0 : (0 : Int) ≤ (m : Int) := by omega
                      have m1 : (m : Int) < 32 := by omega
                      generalize (pnt gr (List.take j L ++ [((fm : Int), (m : Int))]) r).getD m 0 = cv at c0
                      clear hB4 hJX hTT
                      go_wp2
                      go_region
                      have HB5 := Lib.hid (And.intro (Blk.drew HB4.out.1) (Turns.drew HB4.out.2))
                      go_wp2
                      go_roundw
                      case rel => exact ⟨m + 1, by go_num, by omega, .inl (by omega), HB5⟩
                      case measure => simp [intOf]; omega
                    · have he : pnt gr (L.take j ++ [((fm : Int), (m : Int))]) r = pnt gr (L.take (j + 1)) r := by
                        rw [HQ.out.1]
                        rcases hmt with h | h
                        · rw [show (m : Int) = t by omega]
                        · subst h
                          rw [pnt_none (Int.le_refl _), pnt_none (by omega)]
                      have HI := Lib.hid (And.intro (he ▸ hJ.out.1) hTT)
                      clear he hJX hTT
                      go_wp2
                      go_roundw
                      case rel => exact ⟨j + 1, by omega, by go_num, HI⟩
                      case measure => simp [intOf]; omega
                · obtain rfl : j = n2 := by omega
                  have htake : L.take j = L := by rw [← HC.out.2.2.2.1, List.take_length]
                  rw [htake] at hI
                  have hT : Turns wz wr (fun x => x = b) := (Turns.of_below HT1.out).trans hI.out.2
                  have hT2 : Turns wz wr (fun x => x ∈ [b]) := hT.mono (fun x hx => by simpa using hx)
                  have hr2 : (pnt gr L r).length = 32 := by rw [pnt_len, hr32]
                  have hOw : Own wr (.sl .int) [.slice (some ⟨b, 0, none⟩) r.length c8] (.sl (dI (pnt gr L r))) [b] := by
                    have := ints_at (c := c8) hI.out.1 (by omega) (by rw [hr2]; exact HH2.out.2.2.2.2.1)
                    rw [hr2] at this; rw [hr32]; exact this
                  have hO := HH2.out.2.2.1 HK.out.2.1 wr _ hT2 hOw
                  rw [pntK_len, dR_set, ← hLr, ← HH2.out.1, pntK_set _ _ HH2.out.2.2.2.2.2.1] at hO
                  have hfin : PtS w3 wr w.heap.size g a l.length c gr x0 y0 x1 y1 P fq (pntK gr (rowsL l gr x0 y0 x1 y1 first) R (k + 1)) :=
                    ⟨HC.out.2.2.2.2.1.turn hI.out.2 (Ne.symm hbX), hS.out.G.turn hT hgb, by rw [pntK_len]; exact hO, hS.out.T.trans (hT.mono (fun x hx => by rw [hx]; exact HH2.out.2.2.2.1))⟩
                  have HF9 := Lib.hid hfin
                  clear htake hT hT2 hr2 hOw hO hfin
                  go_wp2
                  go_roundw
                  case rel => exact ⟨k + 1, by omega, by go_num, HF9⟩
                  case measure => simp [intOf]; omega
            · obtain rfl : k = n := by omega
              go_wp2
              go_ret2
              have e : pntR gr (rowsL l gr x0 y0 x1 y1 first) R = pntK gr (rowsL l gr x0 y0 x1 y1 first) R k := by rw [pntR, HN.out]
              have hO := hS.out.O
              rw [pntK_len] at hO
              have := ss_own (c := c1) hS.out.G (R := pntK gr (rowsL l gr x0 y0 x1 y1 first) R k) (by rw [pntK_len]; exact hO) (by rw [pntK_len, HN.out]; omega) (by rw [pntK_len]; exact HK.out.2.2.2.2.2)
              rw [pntK_len, HN.out] at this
              rw [HPT.out.1, HPT.out.2, e]
              exact ⟨_, c1, g :: fq, by rw [pntK_len, HN.out]; rfl, by rw [pntK_len, HN.out]; exact this, HF.out.1, HF.out.2, HS.out.B.trans (hS.out.T.below (by have := HS.out.B.size; omega) (fun x hx => HF.out.2 x (List.mem_cons_of_mem _ hx)))⟩
      · have HV : Hid (poB R first l gr x0 y0 x1 y1 = false) := Lib.hid (by simp [poB]; omega)
        have hfd : decide (0 ≤ first ∧ first ≤ 32) = false := by simpa using hf
        rw [hfd]
        clear hqb hqo hfd HIn
        go_wp2
        go_ret2
        exact HBad.out HV.out _ HS.out
end Go.Proofs.YtkabofbbioaapaaGreat.Own
