/-
  Texts of this seat, laid together: Ib13
-/
import Derived.Test.YtbdjnfnphilklaaM41
namespace Go.Proofs.Ytbdjnfnphilklaa.Own
open Go.ChangeShapes Go.WideShapes Go.ChangeAt Go.RowKit
open Kit Slabs Ints Point
open Go.Proofs.Ytbdjnfnphilklaa.Ins (gen_any9)
set_option linter.unusedVariables false
set_option linter.unusedSimpArgs false
set_option linter.unnecessarySimpa false
set_option maxRecDepth 100000
attribute [local go_sem ↓] hload_Band hstore_Band
theorem whr_len {h n : Int} (hb : bnB h n = true) : ((whR h).length : Int) = h := by
  obtain ⟨b0, b1, b2, b3, b4, b5⟩ := bn_rows hb
  rw [whR_len]; omega
set_option maxHeartbeats 4000000 in
theorem newband_impl (w : World) (h n : Int) : Calls Try.prog 12 #[.int .i64 h, .int .i64 n] w (BdNew2 (nbD h n) (bnB h n) w) := by
  have HI := Lib.hid (fun W => isband_impl h n W)
  obtain ⟨W, hWe⟩ : ∃ W, W = w.alloc (.cells Z4 32) := ⟨_, rfl⟩
  have BR : Blk W w.heap.size Z4.toList := hWe ▸ Blk.new w Z4 _ rfl
  have hW : Below w.heap.size w W := by rw [hWe]; go_grown
  have hz : W.heap.size = w.heap.size + 1 := by rw [hWe]; simp
  have HS := Lib.hid (And.intro BR (And.intro hW hz))
  obtain ⟨GR, hGR⟩ : ∃ x, w.heap.size = x := ⟨_, rfl⟩
  cases hb : bnB h n
  · have HV : Hid (nbD h n = bd0) := Lib.hid (by simp [nbD, hb])
    rw [hb] at HI
    clear hb BR hW hz
    go_enter Try.func12, Try.ntmps12
    go_wp2_with fail
    rw [← hWe]
    ((with_reducible refine (HI.out _).mono ?_); rintro e w1 ⟨rfl, bb⟩)
    obtain ⟨E, st, BX, tE⟩ := bd_store (HS.out.1.keep bb) 0 0 none 0 0 none 0 0
    have ld := bd_load BX
    rw [hGR] at st ld
    have bE : Below w.heap.size w E := (on_of HS.out.2.1 bb).trans (tE.below (by have := HS.out.2.1.size; have := bb.size; omega) (fun x e => by have e' : x = w.heap.size := e; omega))
    have HX := Lib.hid (show BdRows E w.heap.size [.int .i64 0, .int .i64 0, .slice none 0 0, .slice none 0 0] bd0 [] ∧ Below w.heap.size w E from ⟨⟨none, 0, [], none, 0, [], rfl, .nil _ _, ObsRow.nil _ _, rfl, List.nodup_nil, fun x hx => absurd hx List.not_mem_nil⟩, bE⟩)
    have HLd := Lib.hid ld
    clear BX tE bE bb ld
    go_wp2
    refine bodyPost_ret (results_hb Try.results12 (by rfl) (by rfl) HLd.out) rfl ?_
    rw [HV.out]
    exact ⟨_, [], rfl, HX.out.1, HX.out.2⟩
  · have HV : Hid (nbD h n = ⟨h, n, whR h, []⟩) := Lib.hid (by simp [nbD, hb])
    obtain ⟨b0, b1, b2, b3, b4, b5⟩ := bn_rows hb
    have HWh := Lib.hid (fun W => whitesh_impl W h ⟨b1, b2⟩)
    rw [hb] at HI
    clear hb BR hW hz b0 b1 b2 b3 b4 b5
    go_enter Try.func12, Try.ntmps12
    go_wp2_with fail
    rw [← hWe]
    ((with_reducible refine (HI.out _).mono ?_); rintro e w1 ⟨rfl, bb⟩)
    have HB1 := Lib.hid bb
    clear bb
    go_wp2_with fail
    ((with_reducible refine (HWh.out _).mono ?_); rintro e w2 ⟨ra, rc, rf, rfl, ho, hn2, hge, bb⟩)
    have hb2 := on_of HB1.out bb
    obtain ⟨E, st, BX, tE⟩ := bd_store (HS.out.1.keep hb2) h n ra (whR h).length rc none 0 0
    have ld := bd_load BX
    rw [hGR] at st ld
    have h1 := HS.out.2.1.size
    have h2 := HB1.out.size
    have hz1 := HS.out.2.2
    have bE : Below w.heap.size w E := (on_of HS.out.2.1 hb2).trans (tE.below (by have := hb2.size; omega) (fun x e => by have e' : x = w.heap.size := e; omega))
    have HX := Lib.hid (show BdRows E w.heap.size [.int .i64 h, .int .i64 n, .slice ra (whR h).length rc, .slice none 0 0] ⟨h, n, whR h, []⟩ (rf ++ []) ∧ Below w.heap.size w E from ⟨⟨ra, rc, rf, none, 0, [], rfl, ho.turned tE (fun x hx e => by have e' : x = w.heap.size := e; have := hge x hx; omega), ObsRow.nil _ _, rfl, by simpa using hn2, fun x hx => by have := hge x (by simpa using hx); omega⟩, bE⟩)
    have HLd := Lib.hid ld
    clear BX tE bE bb ld ho hn2 hge hb2
    go_wp2
    refine bodyPost_ret (results_hb Try.results12 (by rfl) (by rfl) HLd.out) rfl ?_
    rw [HV.out]
    exact ⟨_, _, rfl, HX.out.1, HX.out.2⟩
set_option maxHeartbeats 4000000 in
theorem mergeband_impl (w : World) (b : Bd) (ra : Option Addr) (rc : Nat) (oa : Option Addr) (oc : Nat) (h : BdA w b ra rc oa oc) :
    Calls Try.prog 43 #[.agg #[.int .i64 b.h, .int .i64 b.n, .slice ra b.base.length rc, .slice oa b.objs.length oc]] w (BdNew (mgD b) w) := by
  have BA : Blk ((w.alloc (.cells #[.int .i64 b.h, .int .i64 b.n, .slice ra b.base.length rc, .slice oa b.objs.length oc] 32)).alloc (.cells Z4 32)) w.heap.size [.int .i64 b.h, .int .i64 b.n, .slice ra b.base.length rc, .slice oa b.objs.length oc] := (Blk.new w _ 32 rfl).alloc _
  have BR : Blk ((w.alloc (.cells #[.int .i64 b.h, .int .i64 b.n, .slice ra b.base.length rc, .slice oa b.objs.length oc] 32)).alloc (.cells Z4 32)) (w.heap.size + 1) Z4.toList := Blk.new _ _ 32 (by simp)
  have hW : Below w.heap.size w ((w.alloc (.cells #[.int .i64 b.h, .int .i64 b.n, .slice ra b.base.length rc, .slice oa b.objs.length oc] 32)).alloc (.cells Z4 32)) := by go_grown
  have HS := Lib.hid (And.intro BA (And.intro BR (And.intro (h.on hW) hW)))
  have hs := h.s
  clear BA BR hW h
  go_enter Try.func43, Try.ntmps43
  go_upto_region 1 with (fail)
  obtain ⟨W, hWe⟩ : ∃ W, W = ((w.alloc (.cells #[.int .i64 b.h, .int .i64 b.n, .slice ra b.base.length rc, .slice oa b.objs.length oc] 32)).alloc (.cells Z4 32)) := ⟨_, rfl⟩
  rw [← hWe] at HS ⊢
  clear hWe
  obtain ⟨X0, hX0⟩ : ∃ x, w.heap.size = x := ⟨_, rfl⟩
  obtain ⟨GR, hGR⟩ : ∃ x, w.heap.size + 1 = x := ⟨_, rfl⟩
  have HS : Hid (Blk W X0 [.int .i64 b.h, .int .i64 b.n, .slice ra b.base.length rc, .slice oa b.objs.length oc] ∧ Blk W GR Z4.toList ∧ BdA W b ra rc oa oc ∧ Below w.heap.size w W) := Lib.hid ⟨hX0 ▸ HS.out.1, hGR ▸ HS.out.2.1, HS.out.2.2⟩
  have gX : w.heap.size ≤ X0 := by omega
  have gG : w.heap.size ≤ GR := by omega
  rw [hGR, hX0]
  have lb := bd_load HS.out.1
  clear hGR hX0
  go_wp2_with fail
  clear lb
  ((with_reducible refine (bclone_impl W b ra rc oa oc HS.out.2.2.1).mono ?_); rintro e w1 ⟨R, F, rfl, hR, b1⟩)
  obtain ⟨ra1, rc1, rf, oa1, oc1, F2, rfl, o2, o3, hN, hge⟩ := bd_arr hR
  obtain ⟨E, st, BX, bE⟩ := bd_new w1 b.h b.n ra1 b.base.length rc1 oa1 b.objs.length oc1
  have HM := Lib.hid (MbS.start HS.out.1 HS.out.2.1 HS.out.2.2.1 HS.out.2.2.2 gG b1 o2 o3 hN hge BX bE)
  have lb := bd_load HM.out.B0
  clear hR o2 o3 hN hge BX bE b1 HS
  go_wp2_with fail
  clear lb st
  ((with_reducible refine (bok_impl E b ra rc oa oc HM.out.A).mono ?_); rintro e w2 ⟨rfl, bb⟩)
  obtain ⟨X6, hX6⟩ : ∃ x, w1.heap.size = x := ⟨_, rfl⟩
  rw [hX6] at HM
  simp only [hX6]
  have HM := Lib.hid (HM.out.on bb)
  clear bb hX6
  cases hb : bdB b
  · have HV := Lib.hid (show mgD b = b from by simp [mgD, hb])
    obtain ⟨R, E2, s1, s2, s3, hE, bE⟩ := bd_fin HM.out.B6 HM.out.BR HM.out.R HM.out.O HM.out.N HM.out.ge HM.out.nG HM.out.gG HM.out.W
    have HX := Lib.hid (And.intro hE (And.intro bE s3))
    clear hE bE s3 hb
    go_wp2
    refine bodyPost_ret (v := .agg R) ?_ rfl ⟨R, _, rfl, by rw [HV.out]; exact HX.out.1, HX.out.2.1⟩
    exact results_h Try.results43 (by rfl) HX.out.2.2
  · have HV := Lib.hid (show mgD b = ⟨b.h, b.n, mgR b, []⟩ from by simp [mgD, hb])
    obtain ⟨of, hOf, _, hsub⟩ := HM.out.O.own
    obtain ⟨n1, n2, nd⟩ := nodup_parts HM.out.N
    have hXr : X6 ∉ rf := fun hm => HM.out.n6 (List.mem_append_left _ hm)
    have HMg := Lib.hid (merge_impl w2 X6 b ra1 rc1 rf oa1 oc1 of hb (by omega) HM.out.B6 HM.out.R n1 hXr hOf (fun x hx hm => nd x hm (hsub x hx)))
    clear hb hOf hsub
    go_wp2_with fail
    ((with_reducible refine HMg.out.mono ?_); rintro e w4 ⟨rfl, mX, mR, mT⟩)
    have hm := mgR_len b
    have hGr : GR ∉ rf := fun hm => HM.out.nG (List.mem_append_left _ hm)
    have BR4 := HM.out.BR.turned mT (fun e => e.elim HM.out.ne hGr)
    have hz := HM.out.W.size
    have W4 : Below w.heap.size w w4 := HM.out.W.trans (mT.below hz (fun x e => e.elim (fun e => by rw [e]; exact HM.out.g6) (fun e => HM.out.ge x (List.mem_append_left _ e))))
    obtain ⟨R, E2, s1, s2, s3, hE, bE⟩ := bd_fin (w := w) (b := ⟨b.h, b.n, mgR b, []⟩) (ra := ra1) (rc := rc1) (oa := none) (oc := 0) (F := []) (by show Blk w4 X6 [.int .i64 b.h, .int .i64 b.n, .slice ra1 (mgR b).length rc1, .slice none 0 0]; rw [hm]; exact mX) BR4 (by show Own w4 KSS [.slice ra1 (mgR b).length rc1] (.sl (dR (mgR b))) rf; rw [hm]; exact mR) (ObsRow.nil _ _) (by simpa using n1) (fun x hx => HM.out.ge x (List.mem_append_left _ (by simpa using hx))) (by simpa using hGr) HM.out.gG W4
    have HX := Lib.hid (And.intro hE (And.intro bE s3))
    clear hE bE s3 mX mR mT BR4 W4 HMg n1 n2 nd
    go_wp2
    refine bodyPost_ret (v := .agg R) ?_ rfl ⟨R, _, rfl, by rw [HV.out]; exact HX.out.1, HX.out.2.1⟩
    exact results_h Try.results43 (by rfl) HX.out.2.2
theorem run_bbase (v0 v1 v2 v3 : Value) (w : World) : (Instr.field 32 (.agg #[v0, v1, v2, v3]) 2).run Try.prog w = .ok v2 w := by kernel_rfl
attribute [local go_sem ↓] run_bbase
theorem mgD_ok {b : Bd} (h : bdB b = true) : mgD b = ⟨b.h, b.n, mgR b, []⟩ := by simp [mgD, h]
set_option maxHeartbeats 4000000 in
theorem rowsband_impl (w : World) (b : Bd) (ra : Option Addr) (rc : Nat) (oa : Option Addr) (oc : Nat) (h : BdA w b ra rc oa oc) :
    Calls Try.prog 17 #[.agg #[.int .i64 b.h, .int .i64 b.n, .slice ra b.base.length rc, .slice oa b.objs.length oc]] w (SsNew (rbD b) w) := by
  have hb0 : Below w.heap.size w (w.alloc (.cells #[.int .i64 b.h, .int .i64 b.n, .slice ra b.base.length rc, .slice oa b.objs.length oc] 32)) := by go_grown
  have HS := Lib.hid (And.intro (Blk.new w #[.int .i64 b.h, .int .i64 b.n, .slice ra b.base.length rc, .slice oa b.objs.length oc] 32 rfl) (And.intro (h.on hb0) hb0))
  clear h hb0
  go_enter Try.func17, Try.ntmps17
  go_upto_region 1 with (fail)
  obtain ⟨W, hWe⟩ : ∃ W, W = w.alloc (.cells #[.int .i64 b.h, .int .i64 b.n, .slice ra b.base.length rc, .slice oa b.objs.length oc] 32) := ⟨_, rfl⟩
  rw [← hWe] at HS ⊢
  clear hWe
  have lb := bd_load HS.out.1
  go_wp2_with fail
  clear lb
  ((with_reducible refine (bok_impl W b ra rc oa oc HS.out.2.1).mono ?_); rintro e w1 ⟨rfl, bb⟩)
  have HS1 := Lib.hid (And.intro (HS.out.1.keep bb) (And.intro (HS.out.2.1.on bb) (on_of HS.out.2.2 bb)))
  clear bb
  cases hb : bdB b
  · have HV := Lib.hid (show rbD b = [] from by simp [rbD, hb])
    clear hb
    go_wp2
    go_ret
    rw [HV.out]
    exact ss_nil _ _ _ _ HS1.out.2.2
  · have HV := Lib.hid (show rbD b = mgR b from by simp [rbD, hb])
    have HM := Lib.hid (mergeband_impl w1 b ra rc oa oc HS1.out.2.1)
    rw [mgD_ok hb] at HM
    have lb := bd_load HS1.out.1
    clear hb
    go_wp2_with fail
    clear lb
    ((with_reducible refine HM.out.mono ?_); rintro e w2 ⟨R, F, rfl, hR, bb⟩)
    obtain ⟨ra1, rc1, rf, oa1, oc1, F2, rfl, o2, o3, hN, hge⟩ := bd_arr hR
    have hz := HS1.out.2.2.size
    have HR := Lib.hid (show SsNew (rbD b) w (.returned (.slice ra1 (mgR b).length rc1)) w2 from by
      rw [HV.out]
      exact ⟨ra1, rc1, rf, rfl, o2, (nodup_parts hN).1, fun x hx => Nat.le_trans hz (hge x (List.mem_append_left _ hx)), on_of HS1.out.2.2 bb⟩)
    clear hR o2 o3 hN hge bb
    go_wp2
    go_ret
    exact HR.out
structure AbS (w V : World) (X0 X1 GR X6 : Nat) (b : Bd) (ra : Option Addr) (rc : Nat) (oa : Option Addr) (oc : Nat) (ra1 : Option Addr) (rc1 : Nat) (rf : List Nat) (oa1 : Option Addr) (oc1 : Nat) (F2 : List Nat) (pa : Option Addr) (pc : Nat) (o : Ob) (fo : List Nat) : Prop where
  M : MbS w V X0 GR X6 b ra rc oa oc ra1 rc1 rf oa1 oc1 F2
  B1 : Blk V X1 (sixo o pa pc)
  E : OwnL V LObject (sixo o pa pc) o.dt fo
theorem AbS.on {w V V' : World} {X0 X1 GR X6 : Nat} {b : Bd} {ra : Option Addr} {rc : Nat} {oa : Option Addr} {oc : Nat} {ra1 : Option Addr} {rc1 : Nat} {rf : List Nat} {oa1 : Option Addr} {oc1 : Nat} {F2 : List Nat} {pa : Option Addr} {pc : Nat} {o : Ob} {fo : List Nat} (h : AbS w V X0 X1 GR X6 b ra rc oa oc ra1 rc1 rf oa1 oc1 F2 pa pc o fo) (hb : Below V.heap.size V V') : AbS w V' X0 X1 GR X6 b ra rc oa oc ra1 rc1 rf oa1 oc1 F2 pa pc o fo :=
  ⟨h.M.on hb, h.B1.keep hb, h.E.under hb⟩
set_option maxHeartbeats 4000000 in
theorem addband_impl (w : World) (b : Bd) (ra : Option Addr) (rc : Nat) (oa : Option Addr) (oc : Nat) (h : BdA w b ra rc oa oc) (pa : Option Addr) (pc : Nat) (o : Ob) (fo : List Nat) (hbk : bulkL o.dt ≤ 1048576) (hE : OwnL w LObject (sixo o pa pc) o.dt fo) :
    Calls Try.prog 13 #[.agg #[.int .i64 b.h, .int .i64 b.n, .slice ra b.base.length rc, .slice oa b.objs.length oc], .agg #[.slice pa o.path.length pc, .int .i64 o.gray, .int .i64 o.x0, .int .i64 o.y0, .int .i64 o.x1, .int .i64 o.y1]] w (BdNew2 (adD b o) (adF b o) w) := by
  have hpl : o.path.length ≤ 1048576 := by have := hbk; simp only [Ob.dt, bulkL, Dt.bulk, len_dP, bulk_dP] at this; omega
  obtain ⟨WW, hWW⟩ : ∃ WW, WW = (((w.alloc (.cells #[.int .i64 b.h, .int .i64 b.n, .slice ra b.base.length rc, .slice oa b.objs.length oc] 32)).alloc (.cells #[.slice pa o.path.length pc, .int .i64 o.gray, .int .i64 o.x0, .int .i64 o.y0, .int .i64 o.x1, .int .i64 o.y1] 40)).alloc (.cells Z4 32)) := ⟨_, rfl⟩
  have BA : Blk WW w.heap.size [.int .i64 b.h, .int .i64 b.n, .slice ra b.base.length rc, .slice oa b.objs.length oc] := hWW ▸ ((Blk.new w _ 32 rfl).alloc _).alloc _
  have B1 : Blk WW (w.heap.size + 1) (sixo o pa pc) := hWW ▸ (Blk.new _ #[.slice pa o.path.length pc, .int .i64 o.gray, .int .i64 o.x0, .int .i64 o.y0, .int .i64 o.x1, .int .i64 o.y1] 40 (by simp)).alloc _
  have BR : Blk WW (w.heap.size + 2) Z4.toList := hWW ▸ Blk.new _ Z4 32 (by simp)
  have hW : Below w.heap.size w WW := by rw [hWW]; go_grown
  have hfo := hE.lt
  have HS := Lib.hid (And.intro BA (And.intro B1 (And.intro BR (And.intro (h.on hW) (And.intro hW (And.intro (hE.under hW) hfo))))))
  have hs := h.s
  clear BA B1 BR hW h hE hfo
  go_enter Try.func13, Try.ntmps13
  go_upto_region 1 with (fail)
  rw [← hWW]
  clear hWW
  obtain ⟨X0, hX0⟩ : ∃ x, w.heap.size = x := ⟨_, rfl⟩
  obtain ⟨X1, hX1⟩ : ∃ x, w.heap.size + 1 = x := ⟨_, rfl⟩
  obtain ⟨GR, hGR⟩ : ∃ x, w.heap.size + 2 = x := ⟨_, rfl⟩
  have hGR' : w.heap.size + 1 + 1 = GR := hGR
  have HS : Hid (Blk WW X0 [.int .i64 b.h, .int .i64 b.n, .slice ra b.base.length rc, .slice oa b.objs.length oc] ∧ Blk WW X1 (sixo o pa pc) ∧ Blk WW GR Z4.toList ∧ BdA WW b ra rc oa oc ∧ Below w.heap.size w WW ∧ OwnL WW LObject (sixo o pa pc) o.dt fo ∧ ∀ x ∈ fo, x < w.heap.size) := Lib.hid ⟨hX0 ▸ HS.out.1, hX1 ▸ HS.out.2.1, hGR ▸ HS.out.2.2.1, HS.out.2.2.2⟩
  have gX : w.heap.size ≤ X0 := by omega
  have gG : w.heap.size ≤ GR := by omega
  rw [hGR', hX1, hX0]
  have lb := bd_load HS.out.1
  clear hGR hGR' hX0 hX1
  go_wp2_with fail
  clear lb
  ((with_reducible refine (bclone_impl WW b ra rc oa oc HS.out.2.2.2.1).mono ?_); rintro e w1 ⟨R, F, rfl, hR, b1⟩)
  obtain ⟨ra1, rc1, rf, oa1, oc1, F2, rfl, o2, o3, hN, hge⟩ := bd_arr hR
  obtain ⟨E, st, BX, bE⟩ := bd_new w1 b.h b.n ra1 b.base.length rc1 oa1 b.objs.length oc1
  have HM := Lib.hid (show AbS w E X0 X1 GR w1.heap.size b ra rc oa oc ra1 rc1 rf oa1 oc1 F2 pa pc o fo from ⟨MbS.start HS.out.1 HS.out.2.2.1 HS.out.2.2.2.1 HS.out.2.2.2.2.1 gG b1 o2 o3 hN hge BX bE, HS.out.2.1.keep (on_of b1 bE), HS.out.2.2.2.2.2.1.under (on_of b1 bE)⟩)
  have HF := Lib.hid HS.out.2.2.2.2.2.2
  have lb := bd_load HM.out.M.B0
  clear hR o2 o3 hN hge BX bE b1 HS
  go_wp2_with fail
  clear lb st
  ((with_reducible refine (bok_impl E b ra rc oa oc HM.out.M.A).mono ?_); rintro e w2 ⟨rfl, bb⟩)
  obtain ⟨X6, hX6⟩ : ∃ x, w1.heap.size = x := ⟨_, rfl⟩
  rw [hX6] at HM
  simp only [hX6]
  have HM := Lib.hid (HM.out.on bb)
  clear bb hX6
  cases hb : bdB b
  · have HV := Lib.hid (show adD b o = b ∧ adF b o = false from by simp [adD, adF, hb])
    obtain ⟨R, E2, s1, s2, s3, hE, bE⟩ := bd_fin HM.out.M.B6 HM.out.M.BR HM.out.M.R HM.out.M.O HM.out.M.N HM.out.M.ge HM.out.M.nG HM.out.M.gG HM.out.M.W
    have HX := Lib.hid (And.intro hE (And.intro bE s3))
    clear hE bE s3 hb
    go_wp2
    refine bodyPost_ret (results_hb Try.results13 (by rfl) (by rfl) HX.out.2.2) rfl ?_
    rw [HV.out.1, HV.out.2]
    exact ⟨R, _, rfl, HX.out.1, HX.out.2.1⟩
  · obtain ⟨k0, k1, k2, k3, k4, k5, kz⟩ := sixc HM.out.B1
    have HOk := Lib.hid (Ins.ok_impl w2 pa pc o.path o.gray o.x0 o.y0 o.x1 o.y1 hpl (six_path HM.out.E))
    have HOe := Lib.hid (show okO o = Ins.obK o.path o.gray o.x0 o.y0 o.x1 o.y1 from rfl)
    go_wp2_with fail
    clear k0 k1 k2 k3 k4 k5 kz
    ((with_reducible refine HOk.out.mono ?_); rintro e w3 ⟨rfl, bb⟩)
    rw [← HOe.out]
    have HM := Lib.hid (HM.out.on bb)
    clear bb HOk HOe
    cases ho : okO o
    · have HV := Lib.hid (show adD b o = b ∧ adF b o = false from by simp [adD, adF, ho])
      obtain ⟨R, E2, s1, s2, s3, hE, bE⟩ := bd_fin HM.out.M.B6 HM.out.M.BR HM.out.M.R HM.out.M.O HM.out.M.N HM.out.M.ge HM.out.M.nG HM.out.M.gG HM.out.M.W
      have HX := Lib.hid (And.intro hE (And.intro bE s3))
      clear hE bE s3 hb ho
      go_wp2
      refine bodyPost_ret (results_hb Try.results13 (by rfl) (by rfl) HX.out.2.2) rfl ?_
      rw [HV.out.1, HV.out.2]
      exact ⟨R, _, rfl, HX.out.1, HX.out.2.1⟩
    · obtain ⟨k0, k1, k2, k3, k4, k5, kz⟩ := sixc HM.out.B1
      obtain ⟨x0, x1, _, _, _, xz⟩ := three_cells HM.out.M.B0
      have HT := Lib.hid (touch_impl w3 pa pc o.path o.gray o.x0 o.y0 o.x1 o.y1 b.h b.n hpl (six_path HM.out.E))
      have HTe := Lib.hid (show tbO b.h b.n o = tbB o.path o.gray o.x0 o.y0 o.x1 o.y1 b.h b.n from rfl)
      go_wp2_with fail
      clear k0 k1 k2 k3 k4 k5 kz x0 x1 xz
      ((with_reducible refine HT.out.mono ?_); rintro e w4 ⟨rfl, bb⟩)
      rw [← HTe.out]
      have HM := Lib.hid (HM.out.on bb)
      clear bb HT HTe
      cases ht : tbO b.h b.n o
      · have HV := Lib.hid (show adD b o = b ∧ adF b o = true from by simp [adD, adF, hb, ho, ht])
        obtain ⟨R, E2, s1, s2, s3, hE, bE⟩ := bd_fin HM.out.M.B6 HM.out.M.BR HM.out.M.R HM.out.M.O HM.out.M.N HM.out.M.ge HM.out.M.nG HM.out.M.gG HM.out.M.W
        have HX := Lib.hid (And.intro hE (And.intro bE s3))
        clear hE bE s3 hb ho ht
        go_wp2
        refine bodyPost_ret (results_hb Try.results13 (by rfl) (by rfl) HX.out.2.2) rfl ?_
        rw [HV.out.1, HV.out.2]
        exact ⟨R, _, rfl, HX.out.1, HX.out.2.1⟩
      · have HV := Lib.hid (show adD b o = adI b o ∧ adF b o = true from by simp [adD, adF, hb, ho, ht])
        have HAd := Lib.hid (add_impl w4 w.heap.size X6 b ra1 rc1 rf oa1 oc1 F2 pa pc o fo hb hs hbk HM.out.M.B6 HM.out.M.R HM.out.M.O HM.out.M.N HM.out.M.n6 HM.out.E HM.out.M.g6 (fun x hx => HM.out.M.ge x (List.mem_append_left _ hx)) HF.out)
        have hlen : (adI b o).base.length = b.base.length := by unfold adI; split <;> simp [mgR_len]
        have hhn : (adI b o).h = b.h ∧ (adI b o).n = b.n := by unfold adI; split <;> exact ⟨rfl, rfl⟩
        obtain ⟨k0, k1, k2, k3, k4, k5, kz⟩ := sixc HM.out.B1
        clear hb ho ht
        go_wp2_with fail
        clear k0 k1 k2 k3 k4 k5 kz
        ((with_reducible refine HAd.out.mono ?_); rintro e w5 ⟨rfl, oa9, oc9, F9, B9, R9, O9, N9, n9, s9, bb⟩)
        have hz := HM.out.M.W.size
        have W5 : Below w.heap.size w w5 := HM.out.M.W.trans (bb.below hz (fun x e => e.elim (fun e => by rw [e]; exact HM.out.M.g6) (fun e => HM.out.M.ge x e)))
        have BR5 : Blk w5 GR Z4.toList := HM.out.M.BR.turned bb (fun e => e.elim HM.out.M.ne (fun e => HM.out.M.nG e))
        have hge9 : ∀ x ∈ rf ++ F9, w.heap.size ≤ x := mem2 (p := fun x => w.heap.size ≤ x) (fun x hx => HM.out.M.ge x (List.mem_append_left _ hx)) O9.ge
        have hG9 : GR ∉ rf ++ F9 := fun hm => by
          rcases List.mem_append.1 hm with e | e
          · exact HM.out.M.nG (List.mem_append_left _ e)
          · rcases s9 GR e with e | e
            · exact e.elim HM.out.M.ne (fun e => HM.out.M.nG e)
            · have := HM.out.M.BR.2.2; omega
        obtain ⟨R, E2, s1, s2, s3, hE, bE⟩ := bd_fin B9 BR5 R9 O9 N9 hge9 hG9 HM.out.M.gG W5
        have HX := Lib.hid (And.intro hE (And.intro bE s3))
        clear hE bE s3 B9 R9 O9 N9 n9 s9 bb BR5 W5
        go_wp2
        refine bodyPost_ret (results_hb Try.results13 (by rfl) (by rfl) HX.out.2.2) rfl ?_
        rw [HV.out.1, HV.out.2]
        exact ⟨R, _, rfl, HX.out.1, HX.out.2.1⟩
end Go.Proofs.Ytbdjnfnphilklaa.Own
