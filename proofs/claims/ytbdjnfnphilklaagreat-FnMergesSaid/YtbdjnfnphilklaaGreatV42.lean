/-
  Texts of this seat, laid together: Sa13
-/
import Derived.Test.YtbdjnfnphilklaaGreatV41
namespace Go.Proofs.YtbdjnfnphilklaaGreat.Own
open Go.ChangeShapes Go.WideShapes Go.ChangeAt Go.RowKit
open Kit Slabs Ints Point
open Go.Proofs.YtbdjnfnphilklaaGreat.Ins (gen_any9)
set_option linter.unusedVariables false
set_option linter.unusedSimpArgs false
set_option linter.unnecessarySimpa false
set_option maxRecDepth 100000
attribute [local go_sem ↓] hload_Band hstore_Band run_bbase
set_option maxHeartbeats 4000000 in
theorem rowsband_spec (w : World) (b : Bd) (ra : Option Addr) (rc : Nat) (oa : Option Addr) (oc : Nat) (h : BdA w b ra rc oa oc) :
    Calls Tryz.prog 26 #[.agg #[.int .i64 b.h, .int .i64 b.n, .slice ra b.base.length rc, .slice oa b.objs.length oc]] w (SsNew (rbD b) w) := by
  have hb0 : Below w.heap.size w (w.alloc (.cells #[.int .i64 b.h, .int .i64 b.n, .slice ra b.base.length rc, .slice oa b.objs.length oc] 27)) := by go_grown
  have HS := Lib.hid (And.intro (Blk.new w #[.int .i64 b.h, .int .i64 b.n, .slice ra b.base.length rc, .slice oa b.objs.length oc] 27 rfl) (And.intro (h.on hb0) hb0))
  clear h hb0
  go_enter Tryz.func26, Tryz.ntmps26
  go_upto_region 1 with (fail)
  obtain ⟨W, hWe⟩ : ∃ W, W = w.alloc (.cells #[.int .i64 b.h, .int .i64 b.n, .slice ra b.base.length rc, .slice oa b.objs.length oc] 27) := ⟨_, rfl⟩
  rw [← hWe] at HS ⊢
  clear hWe
  have lb := bd_load HS.out.1
  go_wp2_with fail
  clear lb
  ((with_reducible refine (bok_spec W b ra rc oa oc HS.out.2.1).mono ?_); rintro e w1 ⟨rfl, bb⟩)
  have HS1 := Lib.hid (And.intro (HS.out.1.keep bb) (And.intro (HS.out.2.1.on bb) (on_of HS.out.2.2 bb)))
  clear bb
  cases hb : bdB b
  · have HV := Lib.hid (show rbD b = [] from by simp [rbD, hb])
    clear hb
    go_wp2
    go_ret
    rw [HV.out]
    exact ss_nil _ _ _ _ (by have := HS1.out.2.2; have := this.size; go_grown)
  · have HV := Lib.hid (show rbD b = mgR b from by simp [rbD, hb])
    have HM := Lib.hid (mergeband_spec w1 b ra rc oa oc HS1.out.2.1)
    rw [mgD_ok hb] at HM
    have lb := bd_load HS1.out.1
    clear hb
    go_wp2_with fail
    clear lb
    ((with_reducible refine HM.out.mono ?_); rintro e w2 ⟨R, F, rfl, hR, bb⟩)
    obtain ⟨ra1, rc1, rf, oa1, oc1, F2, rfl, o2, o3, hN, hge⟩ := bd_arr hR
    have hz := HS1.out.2.2.size
    have HR := Lib.hid (show SsNew (rbD b) w (.returned (.slice ra1 (mgR b).length rc1)) w2 from by
      rw [HV.out]
      exact ⟨ra1, rc1, rf, rfl, o2, (nodup_parts hN).1, fun x hx => Nat.le_trans hz (hge x (List.mem_append_left _ hx)), on_of HS1.out.2.2 bb⟩)
    clear hR o2 o3 hN hge bb
    go_wp2
    go_ret
    exact HR.out
theorem add_fin {w w4 V : World} {S : Nat → Prop} {X6 GR : Nat} {b b1 : Bd} {o : Ob} {ra : Option Addr} {rc : Nat} {rf : List Nat} (hA : adI b o = ⟨b1.h, b1.n, b1.base, b1.objs ++ [o]⟩) (h : AdPost w4 S w.heap.size X6 ra rc rf ⟨b1.h, b1.n, b1.base, b1.objs ++ [o]⟩ V) (BR : Blk w4 GR Z4.toList) (hGl : GR < w4.heap.size) (gG : w.heap.size ≤ GR) (hW : Below w.heap.size w w4) (hSG : ¬ S GR) (hSB : ∀ x, S x → w.heap.size ≤ x) (bR : ∀ x ∈ rf, w.heap.size ≤ x) (hGX : GR ≠ X6) (nG : GR ∉ rf) :
    ∃ (R : Array Value) (F : List Nat) (E : World), (hload 27 ⟨X6, 0, none⟩).run Tryz.prog V = .ok (.agg R) V ∧ (hstore 27 ⟨GR, 0, none⟩ (.agg R)).run Tryz.prog V = .ok () E ∧ (hload 27 ⟨GR, 0, none⟩).run Tryz.prog E = .ok (.agg R) E ∧ BdRows E w.heap.size R.toList (adI b o) F ∧ Below w.heap.size w E := by
  obtain ⟨oa9, oc9, F9, B9, R9, O9, N9, n9, s9, bb⟩ := h
  rw [← hA] at B9 R9 O9
  have W5 : Below w.heap.size w V := hW.trans (bb.below hW.size hSB)
  have hG9 : GR ∉ rf ++ F9 := fun hm => by
    rcases List.mem_append.1 hm with e | e
    · exact nG e
    · rcases s9 GR e with e | e
      · exact hSG e
      · omega
  have BR5 : Blk V GR Z4.toList := BR.turned bb hSG
  obtain ⟨R, E, s1, s2, s3, hE, bE⟩ := bd_fin B9 BR5 R9 O9 N9 (mem2 (p := fun x => w.heap.size ≤ x) bR O9.ge) hG9 gG W5
  exact ⟨R, _, E, s1, s2, s3, hE, bE⟩
set_option maxHeartbeats 8000000 in
theorem addband_spec (w : World) (b : Bd) (ra : Option Addr) (rc : Nat) (oa : Option Addr) (oc : Nat) (h : BdA w b ra rc oa oc) (pa : Option Addr) (pc : Nat) (o : Ob) (fo : List Nat) (hbk : bulkL o.dt ≤ 1048576) (hE : OwnL w LObject (sixo o pa pc) o.dt fo) :
    Calls Tryz.prog 21 #[.agg #[.int .i64 b.h, .int .i64 b.n, .slice ra b.base.length rc, .slice oa b.objs.length oc], .agg #[.slice pa o.path.length pc, .int .i64 o.gray, .int .i64 o.x0, .int .i64 o.y0, .int .i64 o.x1, .int .i64 o.y1]] w (BdNew2 (adD b o) (adF b o) w) := by
  have hpl : o.path.length ≤ 1048576 := by have := hbk; simp only [Ob.dt, bulkL, Dt.bulk, len_dP, bulk_dP] at this; omega
  obtain ⟨WW, hWW⟩ : ∃ WW, WW = (((w.alloc (.cells #[.int .i64 b.h, .int .i64 b.n, .slice ra b.base.length rc, .slice oa b.objs.length oc] 27)).alloc (.cells #[.slice pa o.path.length pc, .int .i64 o.gray, .int .i64 o.x0, .int .i64 o.y0, .int .i64 o.x1, .int .i64 o.y1] 53)).alloc (.cells Z4 27)) := ⟨_, rfl⟩
  have BA : Blk WW w.heap.size [.int .i64 b.h, .int .i64 b.n, .slice ra b.base.length rc, .slice oa b.objs.length oc] := hWW ▸ ((Blk.new w _ 27 rfl).alloc _).alloc _
  have B1 : Blk WW (w.heap.size + 1) (sixo o pa pc) := hWW ▸ (Blk.new _ #[.slice pa o.path.length pc, .int .i64 o.gray, .int .i64 o.x0, .int .i64 o.y0, .int .i64 o.x1, .int .i64 o.y1] 53 (by simp)).alloc _
  have BR : Blk WW (w.heap.size + 2) Z4.toList := hWW ▸ Blk.new _ Z4 27 (by simp)
  have hW : Below w.heap.size w WW := by rw [hWW]; go_grown
  have hfo := hE.lt
  have HS := Lib.hid (And.intro BA (And.intro B1 (And.intro BR (And.intro (h.on hW) (And.intro hW (And.intro (hE.under hW) hfo))))))
  have hs := h.s
  clear BA B1 BR hW h hE hfo
  go_enter Tryz.func21, Tryz.ntmps21
  go_upto_region 1 with (fail)
  rw [← hWW]
  clear hWW
  obtain ⟨X0, hX0⟩ : ∃ x, w.heap.size = x := ⟨_, rfl⟩
  obtain ⟨X1, hX1⟩ : ∃ x, w.heap.size + 1 = x := ⟨_, rfl⟩
  obtain ⟨GR, hGR⟩ : ∃ x, w.heap.size + 2 = x := ⟨_, rfl⟩
  have hGR' : w.heap.size + 1 + 1 = GR := hGR
  have HS : Hid (Blk WW X0 [.int .i64 b.h, .int .i64 b.n, .slice ra b.base.length rc, .slice oa b.objs.length oc] ∧ Blk WW X1 (sixo o pa pc) ∧ Blk WW GR Z4.toList ∧ BdA WW b ra rc oa oc ∧ Below w.heap.size w WW ∧ OwnL WW LObject (sixo o pa pc) o.dt fo ∧ ∀ x ∈ fo, x < w.heap.size) := Lib.hid ⟨hX0 ▸ HS.out.1, hX1 ▸ HS.out.2.1, hGR ▸ HS.out.2.2.1, HS.out.2.2.2⟩
  have gX : w.heap.size ≤ X0 := by omega
  have gG : w.heap.size ≤ GR := by omega
  have gX1 : w.heap.size ≤ X1 := by omega
  rw [hGR', hX1, hX0]
  have lb := bd_load HS.out.1
  clear hGR hGR' hX0 hX1
  go_wp2_with fail
  clear lb
  ((with_reducible refine (copy_Band WW b ra rc oa oc HS.out.2.2.2.1).mono ?_); rintro e w1 ⟨R, F, rfl, hR, b1⟩)
  obtain ⟨ra1, rc1, rf, oa1, oc1, F2, rfl, o2, o3, hN, hge⟩ := bd_arr hR
  obtain ⟨E, st, BX, bE⟩ := bd_new w1 b.h b.n ra1 b.base.length rc1 oa1 b.objs.length oc1
  have HM := Lib.hid (show AbS w E X0 X1 GR w1.heap.size b ra rc oa oc ra1 rc1 rf oa1 oc1 F2 pa pc o fo from ⟨MbS.start HS.out.1 HS.out.2.2.1 HS.out.2.2.2.1 HS.out.2.2.2.2.1 gG b1 o2 o3 hN hge BX bE, HS.out.2.1.keep (on_of b1 bE), HS.out.2.2.2.2.2.1.under (on_of b1 bE)⟩)
  have HF := Lib.hid HS.out.2.2.2.2.2.2
  have h1W := HS.out.2.1.2.2
  have hz1 := b1.size
  have HX1 := Lib.hid (show X1 ≠ w1.heap.size ∧ X1 ∉ rf ++ F2 ∧ w.heap.size ≤ X1 from ⟨by omega, fun hm => by have := hge _ hm; omega, gX1⟩)
  have lb := bd_load HM.out.M.B0
  clear hR o2 o3 hN hge BX bE b1 HS
  go_wp2_with fail
  clear lb st
  ((with_reducible refine (bok_spec E b ra rc oa oc HM.out.M.A).mono ?_); rintro e w2 ⟨rfl, bb⟩)
  obtain ⟨X6, hX6⟩ : ∃ x, w1.heap.size = x := ⟨_, rfl⟩
  rw [hX6] at HM HX1
  simp only [hX6]
  have HM := Lib.hid (HM.out.on bb)
  clear bb hX6
  cases hb : bdB b
  · have HV := Lib.hid (show adD b o = b ∧ adF b o = false from by simp [adD, adF, hb])
    obtain ⟨R, E2, s1, s2, s3, hE, bE⟩ := bd_fin HM.out.M.B6 HM.out.M.BR HM.out.M.R HM.out.M.O HM.out.M.N HM.out.M.ge HM.out.M.nG HM.out.M.gG HM.out.M.W
    have HX := Lib.hid (And.intro hE (And.intro bE s3))
    clear hE bE s3 hb
    go_wp2
    refine bodyPost_ret (results_hb Tryz.results21 (by rfl) (by rfl) HX.out.2.2) rfl ?_
    rw [HV.out.1, HV.out.2]
    exact ⟨R, _, rfl, HX.out.1, HX.out.2.1⟩
  · obtain ⟨k0, k1, k2, k3, k4, k5, kz⟩ := sixc HM.out.B1
    have HOk := Lib.hid (Ins.ok_spec w2 pa pc o.path o.gray o.x0 o.y0 o.x1 o.y1 hpl (six_path HM.out.E))
    have HOe := Lib.hid (show okO o = Ins.obK o.path o.gray o.x0 o.y0 o.x1 o.y1 from rfl)
    go_wp2_with fail
    clear k0 k1 k2 k3 k4 k5 kz
    ((with_reducible refine HOk.out.mono ?_); rintro e w3 ⟨rfl, bb⟩)
    rw [← HOe.out]
    have HM := Lib.hid (HM.out.on bb)
    clear bb HOk HOe
    cases ho : okO o
    · have HV := Lib.hid (show adD b o = b ∧ adF b o = false from by simp [adD, adF, ho])
      obtain ⟨R, E2, s1, s2, s3, hE, bE⟩ := bd_fin HM.out.M.B6 HM.out.M.BR HM.out.M.R HM.out.M.O HM.out.M.N HM.out.M.ge HM.out.M.nG HM.out.M.gG HM.out.M.W
      have HX := Lib.hid (And.intro hE (And.intro bE s3))
      clear hE bE s3 hb ho
      go_wp2
      refine bodyPost_ret (results_hb Tryz.results21 (by rfl) (by rfl) HX.out.2.2) rfl ?_
      rw [HV.out.1, HV.out.2]
      exact ⟨R, _, rfl, HX.out.1, HX.out.2.1⟩
    · obtain ⟨k0, k1, k2, k3, k4, k5, kz⟩ := sixc HM.out.B1
      obtain ⟨x0, x1, _, _, _, xz⟩ := three_cells HM.out.M.B0
      have HT := Lib.hid (touch_spec w3 pa pc o.path o.gray o.x0 o.y0 o.x1 o.y1 b.h b.n hpl (six_path HM.out.E))
      have HTe := Lib.hid (show tbO b.h b.n o = tbB o.path o.gray o.x0 o.y0 o.x1 o.y1 b.h b.n from rfl)
      go_wp2_with fail
      clear k0 k1 k2 k3 k4 k5 kz x0 x1 xz
      ((with_reducible refine HT.out.mono ?_); rintro e w4 ⟨rfl, bb⟩)
      rw [← HTe.out]
      have HM := Lib.hid (HM.out.on bb)
      clear bb HT HTe
      cases ht : tbO b.h b.n o
      · have HV := Lib.hid (show adD b o = b ∧ adF b o = true from by simp [adD, adF, hb, ho, ht])
        obtain ⟨R, E2, s1, s2, s3, hE, bE⟩ := bd_fin HM.out.M.B6 HM.out.M.BR HM.out.M.R HM.out.M.O HM.out.M.N HM.out.M.ge HM.out.M.nG HM.out.M.gG HM.out.M.W
        have HX := Lib.hid (And.intro hE (And.intro bE s3))
        clear hE bE s3 hb ho ht
        go_wp2
        refine bodyPost_ret (results_hb Tryz.results21 (by rfl) (by rfl) HX.out.2.2) rfl ?_
        rw [HV.out.1, HV.out.2]
        exact ⟨R, _, rfl, HX.out.1, HX.out.2.1⟩
      · have HV0 := Lib.hid (show adD b o = adI b o ∧ adF b o = true from by simp [adD, adF, hb, ho, ht])
        obtain ⟨S, hS⟩ : ∃ S : Nat → Prop, S = (fun x => w.heap.size ≤ x ∧ x ≠ GR) := ⟨_, rfl⟩
        have HSG : Hid (¬ S GR) := Lib.hid (by rw [hS]; exact fun e => e.2 rfl)
        have HSB : Hid (∀ x, S x → w.heap.size ≤ x) := Lib.hid (by rw [hS]; exact fun x e => e.1)
        have HSM : Hid (∀ x, w.heap.size ≤ x → x ≠ GR → S x) := Lib.hid (by rw [hS]; exact fun x e f => ⟨e, f⟩)
        clear hS
        have hcl := cells_le b.objs
        obtain ⟨q, hq⟩ : ∃ q, decide ((60 : Int) < (cellsN b.objs : Int) + 2 + (o.path.length : Int)) = q := ⟨_, rfl⟩
        have e10 : IntKind.i64.wrap ((cellsN b.objs : Int) + 2 + (o.path.length : Int)) = (cellsN b.objs : Int) + 2 + (o.path.length : Int) := IntWalk.i64_in _ ⟨by omega, by omega⟩
        have e11 : IntKind.i64.wrap ((cellsN b.objs : Int) + 2) = (cellsN b.objs : Int) + 2 := IntWalk.i64_in _ ⟨by omega, by omega⟩
        have hol : b.objs.length ≤ 1048576 := by omega
        have HK : Hid (∀ V, Below w4.heap.size w4 V → (hload 27 ⟨X0, 0, none⟩).run Tryz.prog V = .ok (.agg #[.int .i64 b.h, .int .i64 b.n, .slice ra b.base.length rc, .slice oa b.objs.length oc]) V ∧ V.cell? ⟨X1, 0, none⟩ = some (.slice pa o.path.length pc)) := Lib.hid fun V hV => by
          obtain ⟨z0, _⟩ := sixc (HM.out.B1.keep hV)
          exact ⟨bd_load (HM.out.M.B0.keep hV), z0⟩
        have lb := bd_load HM.out.M.B0
        obtain ⟨k0, _, _, _, _, _, kz⟩ := sixc HM.out.B1
        have HBC := Lib.hid (fun V (hV : Below w4.heap.size w4 V) => bcells_spec V b ra rc oa oc (HM.out.M.A.on hV))
        clear ho ht hcl
        go_upto_region 6 with (fail)
        clear lb k0 kz
        go_cut [33] (fun s33 wx => s33 = .bool q ∧ AbS w wx X0 X1 GR X6 b ra rc oa oc ra1 rc1 rf oa1 oc1 F2 pa pc o fo)
        case first =>
          go_region_held3 (fun w' => (hload 27 ⟨X0, 0, none⟩).run Tryz.prog w' = .ok (.agg #[.int .i64 b.h, .int .i64 b.n, .slice ra b.base.length rc, .slice oa b.objs.length oc]) w' ∧ w'.cell? ⟨X1, 0, none⟩ = some (.slice pa o.path.length pc)) (first | exact HK.out _ hB | exact HK.out _ (by go_grown))
            ((go_at_call 54; (with_reducible refine (HBC.out _ (by first | exact hB | exact Below.refl _ _ | go_grown)).mono ?_); rintro e w5 ⟨rfl, bb⟩; have hB := on_of (W := w4) (by first | exact hB | go_grown) bb; clear bb))
          all_goals
            have HM9 := Lib.hid (HM.out.on hB)
            go_wp2_with fail
            go_meet
            exact ⟨by simp [e10, e11, hq], HM9.out⟩
        case rest =>
          obtain ⟨rfl, hM⟩ := hcut
          clear HM HK HBC
          have HM := Lib.hid hM
          clear hM
          have hGX := HM.out.M.ne
          have BR0 : Hid (∀ x ∈ rf, w.heap.size ≤ x) := Lib.hid (fun x hx => HM.out.M.ge x (List.mem_append_left _ hx))
          have NG0 : Hid (GR ∉ rf) := Lib.hid (fun hm => HM.out.M.nG (List.mem_append_left _ hm))
          have hX1w : X1 ∉ rf ++ F2 := HX1.out.2.1
          cases q
          · have hfit : cellsN b.objs + (2 + o.path.length) ≤ 60 := by have := of_decide_eq_false hq; omega
            have HA := Lib.hid (show adI b o = ⟨b.h, b.n, b.base, b.objs ++ [o]⟩ from by simp [adI, hfit])
            have HV : Hid (AdS wc wc S w.heap.size X6 X1 b ra1 rc1 rf oa1 oc1 F2 pa pc o fo ∧ Blk wc GR Z4.toList ∧ Below w.heap.size w wc) := Lib.hid ⟨⟨HM.out.M.B6, HM.out.B1, HM.out.M.R, HM.out.M.O, HM.out.M.N, HM.out.M.n6, hX1w, HM.out.E, Turns.refl _ _, HSM.out _ HM.out.M.g6 (fun e => hGX e.symm), fun x hx => HSM.out x (BR0.out x hx) (fun e => NG0.out (e ▸ hx)), fun x hx => HSM.out x (HM.out.M.ge x (List.mem_append_right _ hx)) (fun e => HM.out.M.nG (e ▸ List.mem_append_right _ hx)), HX1.out.1, HM.out.M.g6, HX1.out.2.2, BR0.out, HF.out⟩, HM.out.M.BR, HM.out.M.W⟩
            have hwz := Lib.hid (And.intro HM.out.M.W (And.intro HM.out.M.BR HM.out.M.BR.2.2))
            clear hq hfit
            go_upto_region 8 with (fail)
            refine gen_any9 (fun V => AdS wc V S w.heap.size X6 X1 b ra1 rc1 rf oa1 oc1 F2 pa pc o fo ∧ Blk V GR Z4.toList ∧ Below w.heap.size w V) HV.out ?_
            rintro V3 ⟨hV3, hVR, hVW⟩
            obtain ⟨P, hP, hpush⟩ := hV3.push
            have HV3 := Lib.hid (And.intro hV3 (And.intro hP (And.intro hpush (And.intro hVR hVW))))
            obtain ⟨x0, x1, x2, x3, xf, xz⟩ := three_cells hV3.BX
            obtain ⟨k0, k1, k2, k3, k4, k5, kz⟩ := sixc hV3.BY
            have hBV : w.heap.size ≤ V3.heap.size := hVW.size
            have HD := Lib.hid (show OwnL V3.drew LObject (#[.slice pa o.path.length pc, .int .i64 o.gray, .int .i64 o.x0, .int .i64 o.y0, .int .i64 o.x1, .int .i64 o.y1] : Array Value).toList o.dt fo from hV3.E.under (show Below V3.heap.size V3 V3.drew from by go_grown))
            clear hV3 hP hpush hVR hVW
            go_cut [] (fun wx => AdPost wc S w.heap.size X6 ra1 rc1 rf ⟨b.h, b.n, b.base, b.objs ++ [o]⟩ wx)
            case first =>
              go_region_law (first
                | (go_simp; go_at_call 55; (with_reducible refine (copy_Object V3.drew hbk HD.out).mono ?_); rintro e w5 ⟨R, F, rfl, oR, nR, gF, bb⟩; obtain ⟨r0, s0, rfl⟩ := ob_six oR; have bb := on_of (W := V3) (by go_grown) bb; have gF' : ∀ x ∈ F, V3.heap.size ≤ x := gF; have z5 := bb.size; obtain ⟨y0, y1, y2, y3, yf, yz⟩ := three_cells (HV3.out.1.BX.keep bb); have r5 := row_on HV3.out.2.1 bb; have H5 := Lib.hid (And.intro oR (And.intro nR (And.intro gF' (And.intro bb r5)))); clear oR nR gF gF' bb r5)
                | (refine step_append_sl et_obs rfl _ _ rfl w.heap.size oa1 b.objs.length oc1 P (by rfl) (H5.out.2.2.2.2.alloc _) (some ⟨w5.heap.size, 0, none⟩) 1 1 [.slice r0 o.path.length s0, .int .i64 o.gray, .int .i64 o.x0, .int .i64 o.y0, .int .i64 o.x1, .int .i64 o.y1] (by rfl) (by rfl) (Lies.new w5 _ _ rfl) (fun u hu => H5.out.1.one u hu) (by unfold maxLen; omega) (by omega) (by simp; omega) ?_; intro a' c' w7 r7 gr7 sub7; have b6 : Below w5.heap.size w5 (w5.alloc (.cells #[.slice r0 o.path.length s0, .int .i64 o.gray, .int .i64 o.x0, .int .i64 o.y0, .int .i64 o.x1, .int .i64 o.y1] 53)) := (by go_grown); have hs7 := HV3.out.2.2.1 _ w7 a' c' _ F (on_of H5.out.2.2.2.1 b6) (H5.out.1.under b6) H5.out.2.1 H5.out.2.2.1 r7 gr7 sub7; obtain ⟨z0, z1, z2, z3, zf, zz⟩ := three_cells hs7.1; have HV7 := Lib.hid hs7.2; clear hs7 r7 gr7 sub7 b6))
              all_goals
                clear x0 x1 x2 x3 xf xz k0 k1 k2 k3 k4 k5 kz y0 y1 y2 y3 yf yz z0 z1 z2 z3 zf zz
                go_wp2_with fail
                go_meet
                exact HV7.out
            case rest =>
              have HV7 := Lib.hid hcut
              clear hcut
              obtain ⟨R, F9, E2, s1, s2, s3, hE, bE⟩ := add_fin HA.out HV7.out hwz.out.2.1 hwz.out.2.2 gG hwz.out.1 HSG.out HSB.out BR0.out hGX NG0.out
              have HX := Lib.hid (And.intro hE (And.intro bE s3))
              clear hE bE s3 x0 x1 x2 x3 xf xz k0 k1 k2 k3 k4 k5 kz
              go_wp2
              refine bodyPost_ret (results_hb Tryz.results21 (by rfl) (by rfl) HX.out.2.2) rfl ?_
              rw [HV0.out.1, HV0.out.2]
              exact ⟨R, _, rfl, HX.out.1, HX.out.2.1⟩
          · have hfit : ¬ (cellsN b.objs + (2 + o.path.length) ≤ 60) := by have := of_decide_eq_true hq; omega
            have HMg := Lib.hid (mergeband_spec wc b ra rc oa oc HM.out.M.A)
            rw [mgD_ok hb] at HMg
            have lb := bd_load HM.out.M.B0
            clear hq
            go_wp2_with fail
            clear lb
            ((with_reducible refine HMg.out.mono ?_); rintro e w5 ⟨R, F, rfl, hR, bb⟩)
            obtain ⟨ra2, rc2, rf2, oa2, oc2, F3, rfl, o2, o3, hN3, hge3⟩ := bd_arr hR
            obtain ⟨b1, hb1⟩ : ∃ b1 : Bd, b1 = ⟨b.h, b.n, mgR b, []⟩ := ⟨_, rfl⟩
            have HA := Lib.hid (show adI b o = ⟨b1.h, b1.n, b1.base, b1.objs ++ [o]⟩ from by rw [hb1]; simp [adI, hfit])
            have hol : b1.objs.length ≤ 1048576 := by rw [hb1]; simp
            rw [← hb1] at o2 o3
            obtain ⟨E5, st, BX5, tE5⟩ := bd_store (HM.out.M.B6.keep bb) b.h b.n ra2 (mgR b).length rc2 oa2 0 oc2
            have hz5 := bb.size
            have h6l := HM.out.M.B6.2.2
            have hGl := HM.out.M.BR.2.2
            have h1l := HM.out.B1.2.2
            have hW5 : Below w.heap.size w E5 := (on_of HM.out.M.W bb).trans (tE5.below (by have := HM.out.M.W.size; omega) (fun x e => by have e' : x = X6 := e; rw [e']; exact HM.out.M.g6))
            have hBR5 : Blk E5 GR Z4.toList := (HM.out.M.BR.keep bb).turned tE5 (fun e => hGX e)
            have hwl := HM.out.M.W.size
            have BR2 : Hid (∀ x ∈ rf2, w.heap.size ≤ x) := Lib.hid (fun x hx => by have := hge3 x (List.mem_append_left _ hx); omega)
            have NG2 : Hid (GR ∉ rf2) := Lib.hid (fun hm => by have := hge3 GR (List.mem_append_left _ hm); omega)
            have n63 : X6 ∉ rf2 ++ F3 := fun hm => by have := hge3 _ hm; omega
            have n13 : X1 ∉ rf2 ++ F3 := fun hm => by have := hge3 _ hm; omega
            have ne16 : X1 ≠ X6 := HX1.out.1
            have HV : Hid (AdS E5 E5 S w.heap.size X6 X1 b1 ra2 rc2 rf2 oa2 oc2 F3 pa pc o fo ∧ Blk E5 GR Z4.toList ∧ Below w.heap.size w E5) := Lib.hid ⟨⟨by rw [hb1]; exact BX5, (HM.out.B1.keep bb).turned tE5 ne16, o2.turned tE5 (fun x hx e => n63 (by have e' : x = X6 := e; rw [← e']; exact List.mem_append_left _ hx)), (o3.turned tE5 (fun x hx e => n63 (by have e' : x = X6 := e; rw [← e']; exact List.mem_append_right _ hx))).base hwl, hN3, n63, n13, (HM.out.E.under bb).turned tE5 (fun x hx e => by have e' : x = X6 := e; have := HF.out x hx; have := HM.out.M.g6; omega), Turns.refl _ _, HSM.out _ HM.out.M.g6 (fun e => hGX e.symm), fun x hx => HSM.out x (BR2.out x hx) (fun e => NG2.out (e ▸ hx)), fun x hx => HSM.out x (by have := hge3 x (List.mem_append_right _ hx); omega) (fun e => by have := hge3 x (List.mem_append_right _ hx); omega), ne16, HM.out.M.g6, HX1.out.2.2, BR2.out, HF.out⟩, hBR5, hW5⟩
            have hwz := Lib.hid (And.intro hW5 (And.intro hBR5 hBR5.2.2))
            clear hR o2 o3 hN3 hge3 BX5 tE5 bb HMg hfit hb1 n63 n13 hBR5 hW5
            go_upto_region 8 with (fail)
            refine gen_any9 (fun V => AdS E5 V S w.heap.size X6 X1 b1 ra2 rc2 rf2 oa2 oc2 F3 pa pc o fo ∧ Blk V GR Z4.toList ∧ Below w.heap.size w V) HV.out ?_
            rintro V3 ⟨hV3, hVR, hVW⟩
            obtain ⟨P, hP, hpush⟩ := hV3.push
            have HV3 := Lib.hid (And.intro hV3 (And.intro hP (And.intro hpush (And.intro hVR hVW))))
            obtain ⟨x0, x1, x2, x3, xf, xz⟩ := three_cells hV3.BX
            obtain ⟨k0, k1, k2, k3, k4, k5, kz⟩ := sixc hV3.BY
            have hBV : w.heap.size ≤ V3.heap.size := hVW.size
            have HD := Lib.hid (show OwnL V3.drew LObject (#[.slice pa o.path.length pc, .int .i64 o.gray, .int .i64 o.x0, .int .i64 o.y0, .int .i64 o.x1, .int .i64 o.y1] : Array Value).toList o.dt fo from hV3.E.under (show Below V3.heap.size V3 V3.drew from by go_grown))
            clear hV3 hP hpush hVR hVW
            go_cut [] (fun wx => AdPost E5 S w.heap.size X6 ra2 rc2 rf2 ⟨b1.h, b1.n, b1.base, b1.objs ++ [o]⟩ wx)
            case first =>
              go_region_law (first
                | (go_simp; go_at_call 55; (with_reducible refine (copy_Object V3.drew hbk HD.out).mono ?_); rintro e w5 ⟨R, F, rfl, oR, nR, gF, bb⟩; obtain ⟨r0, s0, rfl⟩ := ob_six oR; have bb := on_of (W := V3) (by go_grown) bb; have gF' : ∀ x ∈ F, V3.heap.size ≤ x := gF; have z5 := bb.size; obtain ⟨y0, y1, y2, y3, yf, yz⟩ := three_cells (HV3.out.1.BX.keep bb); have r5 := row_on HV3.out.2.1 bb; have H5 := Lib.hid (And.intro oR (And.intro nR (And.intro gF' (And.intro bb r5)))); clear oR nR gF gF' bb r5)
                | (refine step_append_sl et_obs rfl _ _ rfl w.heap.size oa2 b1.objs.length oc2 P (by rfl) (H5.out.2.2.2.2.alloc _) (some ⟨w5.heap.size, 0, none⟩) 1 1 [.slice r0 o.path.length s0, .int .i64 o.gray, .int .i64 o.x0, .int .i64 o.y0, .int .i64 o.x1, .int .i64 o.y1] (by rfl) (by rfl) (Lies.new w5 _ _ rfl) (fun u hu => H5.out.1.one u hu) (by unfold maxLen; omega) (by omega) (by simp; omega) ?_; intro a' c' w7 r7 gr7 sub7; have b6 : Below w5.heap.size w5 (w5.alloc (.cells #[.slice r0 o.path.length s0, .int .i64 o.gray, .int .i64 o.x0, .int .i64 o.y0, .int .i64 o.x1, .int .i64 o.y1] 53)) := (by go_grown); have hs7 := HV3.out.2.2.1 _ w7 a' c' _ F (on_of H5.out.2.2.2.1 b6) (H5.out.1.under b6) H5.out.2.1 H5.out.2.2.1 r7 gr7 sub7; obtain ⟨z0, z1, z2, z3, zf, zz⟩ := three_cells hs7.1; have HV7 := Lib.hid hs7.2; clear hs7 r7 gr7 sub7 b6))
              all_goals
                clear x0 x1 x2 x3 xf xz k0 k1 k2 k3 k4 k5 kz y0 y1 y2 y3 yf yz z0 z1 z2 z3 zf zz
                go_wp2_with fail
                go_meet
                exact HV7.out
            case rest =>
              have HV7 := Lib.hid hcut
              clear hcut
              obtain ⟨R, F9, E2, s1, s2, s3, hE, bE⟩ := add_fin HA.out HV7.out hwz.out.2.1 hwz.out.2.2 gG hwz.out.1 HSG.out HSB.out BR2.out hGX NG2.out
              have HX := Lib.hid (And.intro hE (And.intro bE s3))
              clear hE bE s3 x0 x1 x2 x3 xf xz k0 k1 k2 k3 k4 k5 kz
              go_wp2
              refine bodyPost_ret (results_hb Tryz.results21 (by rfl) (by rfl) HX.out.2.2) rfl ?_
              rw [HV0.out.1, HV0.out.2]
              exact ⟨R, _, rfl, HX.out.1, HX.out.2.1⟩
end Go.Proofs.YtbdjnfnphilklaaGreat.Own
