/-
  The law FnPaints holds of every argument: painting a drawn object on drawn rows changes exactly the dots of the object's row spans to its gray, and painting twice changes nothing more. No condition (the law itself returns true at more than 1048576 bytes).
  The frame of the proof was written by a tool of this repo after the guide's shells; the walk is this text's own.
-/
import Derived.Test.YtifmdgncgokikaaRows
import Derived.WalkKit
import Derived.ProofKit
import Derived.OpenShut
import Derived.ShutString
import Derived.ChangeOld
import Derived.ChangeArms
import Derived.Below
import Derived.Handy
import Derived.Lib.SmallJoins
import Derived.Lib.Hide
import Derived.Deep.RegionHeld3
import Derived.Deep.DeepCutAuto
import Derived.BigQuiet
import Derived.Deep.QuietTactic
import Derived.Test.YtifmdgncgokikaaP40
import Derived.Test.YtifmdgncgokikaaP42
import Derived.Test.YtifmdgncgokikaaP41
import Derived.Test.YtifmdgncgokikaaP12
import Derived.Test.YtifmdgncgokikaaP44
import Derived.Test.YtifmdgncgokikaaP37
import Derived.Test.YtifmdgncgokikaaP15
namespace Go.Proofs.Ytifmdgncgokikaa.fnPaints
open Go.ChangeShapes Go.WideShapes Go.ChangeAt Go.RowKit
open Go.ChangeMaps (open_string shut_string)
open Kit
open Slabs
open Draw
open Go.Proofs.Ytifmdgncgokikaa.Own
set_option linter.unusedVariables false
set_option linter.unusedSimpArgs false
theorem own : ownKnob Try.prog.godebug = none := by kernel_rfl
theorem laidOut : laidOutB Try.prog = true := by kernel_rfl
structure FpS (V w : World) (GO : Nat) (a : Option Addr) (c : Nat) (l : List Ins.Pt) (g x0 y0 x1 y1 : Int) (va : Option Addr) (R : List (List Int)) : Prop where
  O : Blk V GO (sixv a l.length c g x0 y0 x1 y1)
  P : Ins.PathAt V a l
  R : RR V va R
  B : Below w.heap.size w V
theorem FpS.on {V W w : World} {GO : Nat} {a : Option Addr} {c : Nat} {l : List Ins.Pt} {g x0 y0 x1 y1 : Int} {va : Option Addr} {R : List (List Int)} (h : FpS V w GO a c l g x0 y0 x1 y1 va R) (hb : Below V.heap.size V W) : FpS W w GO a c l g x0 y0 x1 y1 va R :=
  ⟨h.O.keep hb, h.P.on hb, h.R.on hb, on_of h.B hb⟩
set_option maxRecDepth 100000 in
set_option maxHeartbeats 8000000 in
theorem walk (w : World) (a0 : Option Addr) (l0 p0c : Nat) (z0 : List Int) (wa0 : IsRow .u8 w a0 l0 p0c z0) :
    Calls Try.prog 3 #[.slice a0 l0 p0c] w fun e w' => e = .returned (.bool true) ∧ Below w.heap.size w w' := by
  have hl := row_len wa0
  have HR := Lib.hid wa0
  clear wa0
  by_cases hbig : (1048576 : Int) < l0
  · go_enter Try.func3, Try.ntmps3
    go_wp2_with (go_at_call 10; refine (big_on _ _ _ _ hl).mono ?_; rintro e w' ⟨rfl, rfl⟩)
    go_ret
    exact ⟨rfl, Below.refl _ _⟩
  · have hbig0 : decide ((1048576 : Int) < (l0 : Int)) = false := by simpa using hbig
    go_enter Try.func3, Try.ntmps3
    go_wp2_with fail
    (refine (big_on _ _ _ _ hl).mono ?_; rintro e w' ⟨rfl, rfl⟩)
    go_wp2_with fail
    (refine (drawrows_any _ _ _ _ _ HR.out).mono ?_; rintro e w1 ⟨va, vc, R, fp, rfl, hR6, hRB, hRo, hb1⟩)
    have H1 := Lib.hid (And.intro (rr_of hRo) hb1)
    have hrB : rowsB R = true := by simp [rowsB, hRB]; omega
    clear hRo hb1 hRB
    go_wp2_with fail
    (refine (Ins.object_any _ _ _ _ _ (IsRow.keep HR.out H1.out.2)).mono ?_; rintro e w2 ⟨a, c, l, g, x0, y0, x1, y1, rfl, h3, h6, hS, hg, hX, ho, hb2⟩)
    have HDr : Hid (Ins.DrO l g x0 y0 x1 y1) := Lib.hid ⟨h3, h6, hS, hg, hX⟩
    have hpa : Ins.PathAt w2 a l := by
      obtain ⟨a', c', e, hp⟩ := Ins.path_of_owns ho
      injection e with e1 e2 e3
      subst e1; exact hp
    have hn : l.length ≤ 1048576 := by omega
    have hba : Below w2.heap.size w2 (w2.alloc (.cells #[.slice a l.length c, .int .i64 g, .int .i64 x0, .int .i64 y0, .int .i64 x1, .int .i64 y1] 30)) := by go_grown
    have hS0 : FpS (w2.alloc (.cells #[.slice a l.length c, .int .i64 g, .int .i64 x0, .int .i64 y0, .int .i64 x1, .int .i64 y1] 30)) w w2.heap.size a c l g x0 y0 x1 y1 va R := ⟨Blk.new w2 _ _ rfl, hpa.on hba, (H1.out.1.on hb2).on hba, on_of (on_of H1.out.2 hb2) hba⟩
    have HS := Lib.hid hS0
    have HN := Lib.hid (And.intro hn hrB)
    clear h3 h6 hS hX ho hb2 hn hpa hba hS0 H1
    go_upto_region 5 with fail
    refine Ins.gen_any9 (fun V => FpS V w w2.heap.size a c l g x0 y0 x1 y1 va R) HS.out ?_
    intro V1 hS
    clear HS
    obtain ⟨GO, hGO⟩ : ∃ x, w2.heap.size = x := ⟨_, rfl⟩
    rw [hGO] at hS
    simp only [hGO]
    have HS := Lib.hid hS
    clear hS hGO
    go_wp2_with fail
    (refine (PlAll.places_all _ _ _ _ _ (IsRow.keep HR.out HS.out.B)).mono ?_; rintro e w3 ⟨gp, gc, Q, hQ, hc2, rfl, hg1, hg2, hb3⟩)
    have HS := Lib.hid (HS.out.on hb3)
    have q0 := hc2 0 (by omega)
    have hq := hQ 0 (by omega)
    generalize Q 0 = q at q0 hq
    have hx0 : 0 ≤ q % 33 ∧ q % 33 ≤ 32 := ⟨Int.emod_nonneg _ (by omega), by have := Int.emod_lt_of_pos q (show (0 : Int) < 33 by omega); omega⟩
    have hxt : q.tmod 33 = q % 33 := Int.tmod_eq_emod_of_nonneg hq.1
    obtain ⟨f, hf⟩ : ∃ f, q % 33 = f := ⟨_, rfl⟩
    rw [hf] at hx0 hxt
    obtain ⟨n, hNR⟩ : ∃ n, R.length = n := ⟨_, rfl⟩
    have h32 := rows32 HN.out.2
    have htot := tot32 h32.2
    obtain ⟨hp1, hp2⟩ := po_drawn HDr.out HN.out.2 hx0
    have hxok := pntR_ok (g := g) (L := rowsL l g x0 y0 x1 y1 f) hg HN.out.2
    obtain ⟨hp3, hp4⟩ := po_drawn HDr.out hxok hx0
    rw [pntR_twice] at hp4
    have hxl := pntR_len g (rowsL l g x0 y0 x1 y1 f) R
    have hxa := fun k (hk : k < R.length) => pntR_at (g := g) (L := rowsL l g x0 y0 x1 y1 f) (R := R) hk
    obtain ⟨X, hXe⟩ : ∃ X, pntR g (rowsL l g x0 y0 x1 y1 f) R = X := ⟨_, rfl⟩
    rw [hXe] at hp2 hp3 hp4 hxok hxl hxa
    have h32x := rows32 hxok
    have htotx := tot32 h32x.2
    have HPO1 : Hid (∀ V : World, FpS V w GO a c l g x0 y0 x1 y1 va R → Calls Try.prog 14 #[.slice va n vc, .int .i64 f, .agg #[.slice a l.length c, .int .i64 g, .int .i64 x0, .int .i64 y0, .int .i64 x1, .int .i64 y1]] V (PoNew X true V)) := Lib.hid (fun V hV => by
      have h := paintobj_impl V va vc R f a c l g x0 y0 x1 y1 HN.out.1 (by omega) (by omega) hV.R hV.P
      rw [hp1, hp2, hNR] at h; exact h)
    have HPO2 : Hid (∀ (V : World) (xa : Option Addr) (xc : Nat), FpS V w GO a c l g x0 y0 x1 y1 va R → RR V xa X → Calls Try.prog 14 #[.slice xa n xc, .int .i64 f, .agg #[.slice a l.length c, .int .i64 g, .int .i64 x0, .int .i64 y0, .int .i64 x1, .int .i64 y1]] V (PoNew X true V)) := Lib.hid (fun V xa xc hV hX => by
      have h := paintobj_impl V xa xc X f a c l g x0 y0 x1 y1 HN.out.1 (by omega) (by omega) hX hV.P
      rw [hp3, hp4, hxl, hNR] at h; exact h)
    have HSA : Hid (∀ (V : World) (xa ya : Option Addr) (xc yc : Nat), RR V xa X → RR V ya X → Calls Try.prog 15 #[.slice xa n xc, .slice ya n yc] V fun e w' => e = .returned (.bool true) ∧ Below V.heap.size V w') := Lib.hid (fun V xa ya xc yc h1 h2 => by
      have h := same_impl V xa ya xc yc X X (by omega) (by omega) (by omega) (by omega) h1 h2
      rw [hxl, hNR] at h
      simpa [sameB] using h)
    have HRO : Hid (∀ (V : World) (xa : Option Addr) (xc : Nat), RR V xa X → Calls Try.prog 16 #[.slice xa n xc] V fun e w' => e = .returned (.bool true) ∧ Below V.heap.size V w') := Lib.hid (fun V xa xc h1 => by
      have h := rowsok_impl V xa xc X (by omega) (by omega) h1
      rw [hxl, hNR, hxok] at h; exact h)
    have HXA : Hid (∀ k, k < n → X.getD k [] = pnt g (rowsL l g x0 y0 x1 y1 f k) (R.getD k [])) := Lib.hid (fun k hk => hxa k (by omega))
    have HRL : Hid (∀ k, k < n → (R.getD k []).length = 32) := Lib.hid (fun k hk => by
      have hkR : k < R.length := by omega
      rw [List.getD_eq_getElem?_getD, List.getElem?_eq_getElem hkR, Option.getD_some]; exact h32.2 _ (List.getElem_mem hkR))
    have HXL := Lib.hid (show X.length = n by rw [hxl, hNR])
    have HNR := Lib.hid (And.intro hNR (show n ≤ 32 by rw [← hNR]; exact h32.1))
    have hn6 : n ≤ 6 := by omega
    obtain ⟨k0, k1, k2, k3, k4, k5, hzA⟩ := sixc HS.out.O
    rw [hNR]
    clear hb3 hQ hc2 hg1 hp1 hp2 hp3 hp4 hxok hxl hxa hXe h32x htotx h32 htot hNR hrB hR6 hf
    go_wp2_with fail
    clear k0 k1 k2 k3 k4 k5 hzA q0
    ((refine (HPO1.out _ HS.out).mono ?_); rintro e w4 ⟨xa, xc, xf, rfl, hxo, _, _, bb⟩)
    have HS := Lib.hid (HS.out.on bb)
    have HX := Lib.hid (rr_of hxo)
    rw [HXL.out]
    clear hxo bb
    obtain ⟨k0, k1, k2, k3, k4, k5, hzA⟩ := sixc HS.out.O
    go_wp2_with fail
    clear k0 k1 k2 k3 k4 k5 hzA
    ((refine (HPO2.out _ _ _ HS.out HX.out).mono ?_); rintro e w5 ⟨ya, yc, yf, rfl, hyo, _, _, bb⟩)
    have HS := Lib.hid (HS.out.on bb)
    have HX := Lib.hid (HX.out.on bb)
    have HY := Lib.hid (rr_of hyo)
    rw [HXL.out]
    clear hyo bb
    go_wp2_with fail
    ((refine (HSA.out _ _ _ _ _ HX.out HY.out).mono ?_); rintro e w6 ⟨rfl, bb⟩)
    have HS := Lib.hid (HS.out.on bb)
    have HX := Lib.hid (HX.out.on bb)
    clear bb HY
    go_wp2_with fail
    ((refine (HRO.out _ _ _ HX.out).mono ?_); rintro e w7 ⟨rfl, bb⟩)
    have HS := Lib.hid (HS.out.on bb)
    have HX := Lib.hid (HX.out.on bb)
    clear bb HPO1 HPO2 HSA HRO
    go_wp2
    go_loopw [11] (fun v11 wr => ∃ k : Nat, k ≤ n ∧ v11 = .int .i64 (k : Int) ∧ Below w7.heap.size w7 wr) (fun v11 _ => n - (intOf v11).toNat)
    case atStart => exact ⟨0, Nat.zero_le _, rfl, Below.refl _ _⟩
    case round =>
      obtain ⟨k, hk, rfl, hB⟩ := hrel
      by_cases hlt : k < n
      · have HSr := Lib.hid (HS.out.on hB)
        have HXr := Lib.hid (HX.out.on hB)
        have HB := Lib.hid hB
        have i0 : (0 : Int) ≤ (k : Int) := by omega
        have i1 : (k : Int) < (n : Int) := by omega
        have hn32 := HNR.out.2
        obtain ⟨k0, k1, k2, k3, k4, k5, hzA⟩ := sixc HSr.out.O
        obtain ⟨wz, rfl⟩ : ∃ wz : World, wz = wr := ⟨_, rfl⟩
        clear hB
        go_wp2_with fail
        clear k0 k1 k2 k3 k4 k5 hzA
        ((with_reducible refine (Ins.orow_impl _ a c l g x0 y0 x1 y1 (f + (k : Int)) HN.out.1 HSr.out.P).mono ?_); rintro e w8 ⟨v, rfl, hv, bb⟩)
        have hll := orow_len11 l g x0 y0 x1 y1 (f + (k : Int))
        have hxk := HXA.out k hlt
        have hrk := HRL.out k hlt
        rw [show rowsL l g x0 y0 x1 y1 f k = Ins.orow l g x0 y0 x1 y1 (f + (k : Int)) from rfl] at hxk
        generalize Ins.orow l g x0 y0 x1 y1 (f + (k : Int)) = L at hv hll hxk
        obtain ⟨sa, sc, rfl, hp⟩ := Ins.path_of_owns hv
        have HV := Lib.hid (And.intro hp (show L.length ≤ 1048576 by have := HN.out.1; omega))
        have HS8 := Lib.hid (HSr.out.on bb)
        have HX8 := Lib.hid (HXr.out.on bb)
        have HK := Lib.hid (And.intro hxk hrk)
        have HB8 := Lib.hid (on_of HB.out bb)
        clear hv hll hxk hrk hp bb
        go_wp2
        go_loopw [13] (fun v13 wr => ∃ i : Nat, i ≤ 32 ∧ v13 = .int .i64 (i : Int) ∧ Below w8.heap.size w8 wr) (fun v13 _ => 32 - (intOf v13).toNat)
        case atStart => exact ⟨0, Nat.zero_le _, rfl, Below.refl _ _⟩
        case round =>
          obtain ⟨i, hi, rfl, hB⟩ := hrel
          by_cases hlt2 : i < 32
          · have HS9 := Lib.hid (HS8.out.on hB)
            have HX9 := Lib.hid (HX8.out.on hB)
            have HV9 := Lib.hid (And.intro (HV.out.1.on hB) HV.out.2)
            have HB9 := Lib.hid hB
            obtain ⟨ga, oa, rfl, hga, hc⟩ := HS9.out.R.some (by rw [HNR.out.1]; omega)
            obtain ⟨a', c', q, hli⟩ := hc k (by rw [HNR.out.1]; exact hlt)
            obtain ⟨gr, og, rfl, hgr, hcr⟩ := lies_at hli (by rw [HK.out.2]; omega)
            have z := hcr i (by rw [HK.out.2]; exact hlt2)
            rw [HK.out.2] at q
            have hval : (X.getD k []).getD i 0 = if Ins.inS L (i : Int) then g else (R.getD k []).getD i 0 := by rw [HK.out.1]; exact pnt_val (by rw [HK.out.2]; exact hlt2)
            obtain ⟨u, hu⟩ : ∃ u, (R.getD k []).getD i 0 = u := ⟨_, rfl⟩
            rw [hu] at z hval
            have HU := Lib.hid hval
            have j0 : (0 : Int) ≤ (i : Int) := by omega
            have j1 : (i : Int) < 32 := by omega
            clear hB hc hcr hli hu hval
            go_wp2_with fail
            clear q z
            ((with_reducible refine (Ins.in_impl9 _ sa sc L (i : Int) HV9.out.2 HV9.out.1).mono ?_); rintro e w9 ⟨rfl, bb⟩)
            have HS9 := Lib.hid (HS9.out.on bb)
            have HX9 := Lib.hid (HX9.out.on bb)
            have HB9 := Lib.hid (on_of HB9.out bb)
            obtain ⟨gx, ox, rfl, hgx, hcx⟩ := HX9.out.some (by rw [HXL.out]; omega)
            obtain ⟨ax, cx, qx, hlx⟩ := hcx k (by rw [HXL.out]; exact hlt)
            have hxl : (X.getD k []).length = 32 := by rw [HK.out.1, pnt_len, HK.out.2]
            obtain ⟨gy, oy, rfl, hgy, hcy⟩ := lies_at hlx (by rw [hxl]; omega)
            have zx := hcy i (by rw [hxl]; exact hlt2)
            rw [hxl] at qx
            rw [HU.out] at zx
            have k1 := (sixc HS9.out.O).2.1
            clear bb hcx hlx hxl hcy
            cases hin : Ins.inS L (i : Int)
            · simp only [hin, if_false, Bool.false_eq_true] at zx
              clear hin
              go_wp2
              go_roundw
              case rel => exact ⟨i + 1, by omega, by go_num, HB9.out⟩
              case measure => simp [intOf]; omega
            · simp only [hin, if_true] at zx
              clear hin
              go_wp2
              go_roundw
              case rel => exact ⟨i + 1, by omega, by go_num, HB9.out⟩
              case measure => simp [intOf]; omega
          · obtain rfl : i = 32 := by omega
            have HB9 := Lib.hid (on_of HB8.out hB)
            clear hB
            go_wp2
            go_roundw
            case rel => exact ⟨k + 1, by omega, by go_num, HB9.out⟩
            case measure => simp [intOf]; omega
      · obtain rfl : k = n := by omega
        have HB9 := Lib.hid (on_of HS.out.B hB)
        clear hB
        go_wp2
        go_ret
        exact ⟨rfl, HB9.out⟩
/-! ### THE ROW's STEP -/
set_option maxRecDepth 100000 in
theorem lifted (os : Os) (started : os.Started) (H : Type) (enc : TypeId × Value → H) :
    ReturnsInHanded {} Try.checked os 3 .any (Rows.fnPaintsSpec.pre6 enc Try.prog Try.f3 Rows.fnPaintsRow.domain false) (Rows.fnPaintsSpec.post enc Try.prog Try.f3 false true false false) := by
  refine returnsInHanded_of_change (C := Try.checked) own started (by kernel_rfl) Try.func3
    (ChangeSpec.witness6 (enc := enc) (C := Try.checked) false ⟨#[], #[.slice none 0 0], []⟩ 8 (by kernel_rfl) (by kernel_rfl) (by kernel_rfl) (by kernel_rfl)) ?_
  intro W base args ds gs before hval0 hW hcnd _
  have hval : ∀ (j : Nat) t v, Try.f3.params[j]? = some t → args[j]? = some v → Value.okWide Try.prog W .any base t v := hval0
  have hW' := hW
  obtain ⟨p, q, hA0, hV, rfl, hfz, hnd⟩ := hW
  have hA : DataW.TrodAll enc Try.prog W 0 (fun _ => true) true Try.f3.params.toList args.toList ds p := hA0
  rw [Try.params3] at hA hval
  obtain ⟨v0, vs0, d0, ds0, p0, q0, hargs, rfl, rfl, h0, r0⟩ := trodAll_cons hA
  obtain ⟨rfl, rfl, rfl⟩ := trodAll_nil r0
  obtain rfl : args = #[v0] := by cases args; simp_all
  obtain ⟨rfl, rfl⟩ := trodVars_none hV
  have k0 := h0
  have lt0 : ∀ x ∈ p0, x.block < W.heap.size := by obtain ⟨m, hm⟩ := k0; exact DataW.trod_lt m _ _ _ hm
  obtain ⟨a0, l0, p0c, rfl⟩ := okWide_slice Try.underlying22 (hval 0 22 v0 rfl rfl)
  obtain ⟨z0, wa0⟩ : ∃ zs, IsRow .u8 W a0 l0 p0c zs := by
    obtain ⟨fuel, hf⟩ := h0
    rcases open_ints Try.underlying22 Try.underlying5 (by kernel_rfl) hf with ⟨hcs, _⟩ | ⟨x, l, c, zs, hcs, _, hl, hm, hz, _, hcell, hwz⟩
    · simp [Value.cells] at hcs
      obtain ⟨rfl, rfl, rfl⟩ := hcs
      exact ⟨[], .inl ⟨rfl, rfl, rfl, rfl⟩⟩
    · simp [Value.cells] at hcs
      obtain ⟨rfl, rfl, rfl⟩ := hcs
      exact ⟨zs, .inr ⟨_, rfl, hl, hm, by simpa using hz, hcell, hwz⟩⟩
  clear hA0 hval0
  refine (walk W a0 l0 p0c z0 wa0).mono fun e W' ⟨he, bel⟩ => ?_
  subst he
  exact ⟨_, rfl, _, _, _, [], _, [], hW', trodAll_mk1 (shut_bool Try.underlying4 _), (trodAll_cons_mk (Below.trod laidOut (by kernel_rfl) (of_decide_eq_true (by kernel_rfl)) k0 bel lt0) trodAll_mk0), rfl, bel.frame _, fun h => by cases h⟩
theorem over : Rows.fnPaintsRow.holds Try.pinned (OpenSpec.ofChange Rows.fnPaintsSpec) :=
  OpenClaim.holds_of_wide 3 Try.f3 rfl rfl rfl rfl rfl rfl rfl ⟨rfl, rfl, rfl, rfl, rfl⟩ rfl rfl rfl rfl rfl (by kernel_rfl) Try.func3 (by kernel_rfl)
    (of_decide_eq_true (by kernel_rfl)) (by unfold Func.isWrapper; first | (rw [if_pos (by decide +kernel)]; kernel_rfl) | (rw [if_neg (by decide +kernel)]; exact ⟨rfl, rfl⟩))
    (fun os started H enc _ => lifted os started H enc)
theorem proved : Rows.FnPaintsSaid := over
#print axioms proved
end Go.Proofs.Ytifmdgncgokikaa.fnPaints
