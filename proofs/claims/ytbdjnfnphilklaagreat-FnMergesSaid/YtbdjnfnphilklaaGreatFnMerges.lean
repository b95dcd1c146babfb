/-
  The law FnMerges holds of every argument: a drawn band is valid, merging it leaves a valid band without objects and with the same rows. No condition (the law itself returns true at more than 1048576 bytes).
  The frame of the proof was written by a tool of this repo after the guide's shells; the walk is this text's own.
-/
import Derived.Test.YtbdjnfnphilklaaGreatRows
import Derived.WalkKit
import Derived.ProofKit
import Derived.OpenShut
import Derived.ShutString
import Derived.ChangeOld
import Derived.ChangeArms
import Derived.Below
import Derived.Handy
import Derived.Lib.SmallJoins
import Derived.Lib.Hide
import Derived.Deep.RegionHeld3
import Derived.Deep.DeepCutAuto
import Derived.BigQuiet
import Derived.Deep.QuietTactic
import Derived.Test.YtbdjnfnphilklaaGreatV46
import Derived.Test.YtbdjnfnphilklaaGreatV12
namespace Go.Proofs.YtbdjnfnphilklaaGreat.fnMerges
open Go.ChangeShapes Go.WideShapes Go.ChangeAt Go.RowKit
open Go.ChangeMaps (open_string shut_string)
open Kit
open Slabs
open Draw
open Go.Proofs.YtbdjnfnphilklaaGreat.Own
set_option linter.unusedVariables false
set_option linter.unusedSimpArgs false
theorem own : ownKnob Tryz.prog.godebug = none := by kernel_rfl
theorem laidOut : laidOutB Tryz.prog = true := by kernel_rfl
attribute [local go_sem ↓] hload_Band hstore_Band
set_option maxRecDepth 100000 in
set_option maxHeartbeats 8000000 in
theorem walk (w : World) (a0 : Option Addr) (l0 p0c : Nat) (z0 : List Int) (wa0 : IsRow .u8 w a0 l0 p0c z0) :
    Calls Tryz.prog 3 #[.slice a0 l0 p0c] w fun e w' => e = .returned (.bool true) ∧ Below w.heap.size w w' := by
  have hl := row_len wa0
  have HR := Lib.hid wa0
  clear wa0
  by_cases hbig : (1048576 : Int) < l0
  · go_enter Tryz.func3, Tryz.ntmps3
    go_wp2_with (go_at_call 7; refine (big_on _ _ _ _ hl).mono ?_; rintro e w' ⟨rfl, rfl⟩)
    go_ret
    exact ⟨rfl, Below.refl _ _⟩
  · have hbig0 : decide ((1048576 : Int) < (l0 : Int)) = false := by simpa using hbig
    go_enter Tryz.func3, Tryz.ntmps3
    go_wp2_with fail
    (refine (big_on _ _ _ _ hl).mono ?_; rintro e w' ⟨rfl, rfl⟩)
    go_wp2_with fail
    (refine (drawband_any _ _ _ _ _ HR.out).mono ?_; rintro e w2 ⟨b, R, F, rfl, hR, ok, hb2⟩)
    obtain ⟨ra, rc, rf, oa, oc, F2, rfl, o2, o3, hN, hge⟩ := bd_arr hR
    obtain ⟨f3, o3', _, _⟩ := o3.own
    obtain ⟨E, st, BX, bE⟩ := bd_new w2 b.h b.n ra b.base.length rc oa b.objs.length oc
    have HS := Lib.hid (show Blk E w2.heap.size [.int .i64 b.h, .int .i64 b.n, .slice ra b.base.length rc, .slice oa b.objs.length oc] ∧ BdA E b ra rc oa oc ∧ Below w.heap.size w E from ⟨BX, (BdA.on ⟨ok_size ok, rr_of o2, f3, o3'⟩ bE), on_of hb2 bE⟩)
    have HOK := Lib.hid ok
    clear hR o2 o3 o3' hN hge BX bE hb2 ok
    obtain ⟨X3, hX3⟩ : ∃ x, w2.heap.size = x := ⟨_, rfl⟩
    rw [hX3] at HS st
    have lb := bd_load HS.out.1
    have hMg := mergeband_impl E b ra rc oa oc HS.out.2.1
    rw [mgD_ok HOK.out] at hMg
    have HMg := Lib.hid hMg
    clear hMg
    go_wp2_with fail
    clear st lb
    ((with_reducible refine HMg.out.mono ?_); rintro e w3 ⟨R, F, rfl, hR, bb⟩)
    obtain ⟨ra2, rc2, rf2, oa2, oc2, F3, rfl, o2, o3, hN, hge⟩ := bd_arr hR
    obtain ⟨f3, o3', _, _⟩ := o3.own
    obtain ⟨E2, st, BX, bE⟩ := bd_new w3 b.h b.n ra2 (mgR b).length rc2 oa2 0 oc2
    have hm := mgD_valid HOK.out
    rw [mgD_ok HOK.out] at hm
    have hA2 : BdA E2 ⟨b.h, b.n, mgR b, []⟩ ra2 rc2 oa2 oc2 := BdA.on ⟨ok_size hm, rr_of o2, f3, o3'⟩ bE
    have HT := Lib.hid (show Blk E2 X3 [.int .i64 b.h, .int .i64 b.n, .slice ra b.base.length rc, .slice oa b.objs.length oc] ∧ Blk E2 w3.heap.size [.int .i64 b.h, .int .i64 b.n, .slice ra2 (mgR b).length rc2, .slice oa2 0 oc2] ∧ BdA E2 b ra rc oa oc ∧ BdA E2 ⟨b.h, b.n, mgR b, []⟩ ra2 rc2 oa2 oc2 ∧ Below w.heap.size w E2 from ⟨(HS.out.1.keep bb).keep bE, BX, (HS.out.2.1.on bb).on bE, hA2, on_of (on_of HS.out.2.2 bb) bE⟩)
    have h32 := (rows32 (mgR_rows (bd_parts HOK.out).2.2.1))
    have htot := tot_32 h32.2
    have hr1 : rbD b = mgR b := by simp [rbD, HOK.out]
    have hr2 : rbD ⟨b.h, b.n, mgR b, []⟩ = mgR b := by
      unfold rbD
      rw [if_pos hm]
      rfl
    have hkb := fun (V : World) (hV : Below E2.heap.size E2 V) => bok_impl V b ra rc oa oc (HT.out.2.2.1.on hV)
    have hkm := fun (V : World) (hV : Below E2.heap.size E2 V) => bok_impl V ⟨b.h, b.n, mgR b, []⟩ ra2 rc2 oa2 oc2 (HT.out.2.2.2.1.on hV)
    have hcm := fun (V : World) (hV : Below E2.heap.size E2 V) => bcells_impl V ⟨b.h, b.n, mgR b, []⟩ ra2 rc2 oa2 oc2 (HT.out.2.2.2.1.on hV)
    have hrb := fun (V : World) (hV : Below E2.heap.size E2 V) => rowsband_impl V b ra rc oa oc (HT.out.2.2.1.on hV)
    have hrm := fun (V : World) (hV : Below E2.heap.size E2 V) => rowsband_impl V ⟨b.h, b.n, mgR b, []⟩ ra2 rc2 oa2 oc2 (HT.out.2.2.2.1.on hV)
    have hbase := HT.out.2.2.2.1.r
    rw [HOK.out] at hkb
    rw [hm] at hkm
    rw [hr1] at hrb
    rw [hr2] at hrm
    have hsa := fun (V : World) (xa ya : Option Addr) (xc yc : Nat) (h1 : RR V xa (mgR b)) (h2 : RR V ya (mgR b)) => same_impl V xa ya xc yc (mgR b) (mgR b) (by omega) (by omega) (by omega) (by omega) h1 h2
    have es : sameB (mgR b) (mgR b) = true := by simp [sameB]
    rw [es] at hsa
    clear es hr1 hr2 hm h32 htot hA2
    simp only [cells_nil, List.length_nil] at hkm hcm hrm
    obtain ⟨T, hT⟩ : ∃ T, mgR b = T := ⟨_, rfl⟩
    simp only [hT] at hkm hcm hrb hrm hsa hbase
    have hT1 := HT.out.1
    have hT2 := HT.out.2.1
    have hT5 := HT.out.2.2.2.2
    rw [hT] at hT2 st
    obtain ⟨X4, hX4⟩ : ∃ x, w3.heap.size = x := ⟨_, rfl⟩
    rw [hX4] at hT2 st
    have HU := Lib.hid (And.intro hT1 (And.intro hT2 hT5))
    have HKB := Lib.hid hkb
    have HKM := Lib.hid hkm
    have HCM := Lib.hid hcm
    have HRB := Lib.hid hrb
    have HRM := Lib.hid hrm
    have HSA := Lib.hid hsa
    have HBS := Lib.hid hbase
    clear hkb hkm hcm hrb hrm hsa hbase hT1 hT2 hT5 hR o2 o3 o3' hN hge BX bE bb HMg HT HS
    have lb := bd_load HU.out.1
    rw [hT]
    go_upto_region 5 with fail
    clear st lb
    have lb := bd_load HU.out.1
    have lm := bd_load HU.out.2.1
    obtain ⟨_, _, x2, x3, _, xz⟩ := three_cells HU.out.2.1
    have HK : Hid (∀ V, Below E2.heap.size E2 V → (hload 27 ⟨X3, 0, none⟩).run Tryz.prog V = .ok (.agg #[.int .i64 b.h, .int .i64 b.n, .slice ra b.base.length rc, .slice oa b.objs.length oc]) V ∧ (hload 27 ⟨X4, 0, none⟩).run Tryz.prog V = .ok (.agg #[.int .i64 b.h, .int .i64 b.n, .slice ra2 T.length rc2, .slice oa2 0 oc2]) V ∧ V.cell? ⟨X4, 2, none⟩ = some (.slice ra2 T.length rc2) ∧ V.cell? ⟨X4, 3, none⟩ = some (.slice oa2 0 oc2)) := Lib.hid fun V hV => by
      obtain ⟨_, _, y2, y3, _, _⟩ := three_cells (HU.out.2.1.keep hV)
      exact ⟨bd_load (HU.out.1.keep hV), bd_load (HU.out.2.1.keep hV), y2, y3⟩
    go_region_held3 (fun w' => (hload 27 ⟨X3, 0, none⟩).run Tryz.prog w' = .ok (.agg #[.int .i64 b.h, .int .i64 b.n, .slice ra b.base.length rc, .slice oa b.objs.length oc]) w' ∧ (hload 27 ⟨X4, 0, none⟩).run Tryz.prog w' = .ok (.agg #[.int .i64 b.h, .int .i64 b.n, .slice ra2 T.length rc2, .slice oa2 0 oc2]) w' ∧ w'.cell? ⟨X4, 2, none⟩ = some (.slice ra2 T.length rc2) ∧ w'.cell? ⟨X4, 3, none⟩ = some (.slice oa2 0 oc2)) (first | exact HK.out _ hB | exact HK.out _ (by go_grown))
      (first
        | (go_at_call 10; (with_reducible refine (HKB.out _ (by first | exact hB | exact Below.refl _ _ | go_grown)).mono ?_); rintro e wz ⟨rfl, bb⟩; have hB := on_of (W := E2) (by first | exact hB | go_grown) bb; (try (have HRb := Lib.hid (HRb.out.on bb))); (try (have HRm := Lib.hid (HRm.out.on bb))); clear bb)
        | (go_at_call 10; (with_reducible refine (HKM.out _ (by first | exact hB | exact Below.refl _ _ | go_grown)).mono ?_); rintro e wz ⟨rfl, bb⟩; have hB := on_of (W := E2) (by first | exact hB | go_grown) bb; (try (have HRb := Lib.hid (HRb.out.on bb))); (try (have HRm := Lib.hid (HRm.out.on bb))); clear bb)
        | (go_at_call 11; (with_reducible refine (HCM.out _ (by first | exact hB | exact Below.refl _ _ | go_grown)).mono ?_); rintro e wz ⟨rfl, bb⟩; have hB := on_of (W := E2) (by first | exact hB | go_grown) bb; (try (have HRb := Lib.hid (HRb.out.on bb))); (try (have HRm := Lib.hid (HRm.out.on bb))); clear bb)
        | (go_at_call 13; (with_reducible refine (HRB.out _ (by first | exact hB | exact Below.refl _ _ | go_grown)).mono ?_); rintro e wz ⟨aR, cR, fR, rfl, oR, nR, gR, bb⟩; have hB := on_of (W := E2) (by first | exact hB | go_grown) bb; (try (have HRb := Lib.hid (HRb.out.on bb))); (try (have HRm := Lib.hid (HRm.out.on bb))); have HRb := Lib.hid (rr_of oR); clear bb oR nR gR)
        | (go_at_call 13; (with_reducible refine (HRM.out _ (by first | exact hB | exact Below.refl _ _ | go_grown)).mono ?_); rintro e wz ⟨aR, cR, fR, rfl, oR, nR, gR, bb⟩; have hB := on_of (W := E2) (by first | exact hB | go_grown) bb; (try (have HRb := Lib.hid (HRb.out.on bb))); (try (have HRm := Lib.hid (HRm.out.on bb))); have HRm := Lib.hid (rr_of oR); clear bb oR nR gR)
        | (go_at_call 12; (with_reducible refine (HSA.out _ _ _ _ _ (by first | exact HRb.out | exact HRm.out | exact HBS.out.on (by first | exact hB | exact Below.refl _ _ | go_grown)) (by first | exact HRb.out | exact HRm.out | exact HBS.out.on (by first | exact hB | exact Below.refl _ _ | go_grown))).mono ?_); rintro e wz ⟨rfl, bb⟩; have hB := on_of (W := E2) (by first | exact hB | go_grown) bb; (try (have HRb := Lib.hid (HRb.out.on bb))); (try (have HRm := Lib.hid (HRm.out.on bb))); clear bb))
    all_goals
      have HF := Lib.hid (on_of HU.out.2.2 hB)
      go_wp2
      go_ret
      exact ⟨rfl, HF.out⟩
/-! ### THE ROW's STEP -/
set_option maxRecDepth 100000 in
theorem lifted (os : Os) (started : os.Started) (H : Type) (enc : TypeId × Value → H) :
    ReturnsInHanded {} Tryz.checked os 3 .any (Rows.fnMergesSpec.pre6 enc Tryz.prog Tryz.f3 Rows.fnMergesRow.domain false) (Rows.fnMergesSpec.post enc Tryz.prog Tryz.f3 false true false false) := by
  refine returnsInHanded_of_change (C := Tryz.checked) own started (by kernel_rfl) Tryz.func3
    (ChangeSpec.witness6 (enc := enc) (C := Tryz.checked) false ⟨#[], #[.slice none 0 0], []⟩ 8 (by kernel_rfl) (by kernel_rfl) (by kernel_rfl) (by kernel_rfl)) ?_
  intro W base args ds gs before hval0 hW hcnd _
  have hval : ∀ (j : Nat) t v, Tryz.f3.params[j]? = some t → args[j]? = some v → Value.okWide Tryz.prog W .any base t v := hval0
  have hW' := hW
  obtain ⟨p, q, hA0, hV, rfl, hfz, hnd⟩ := hW
  have hA : DataW.TrodAll enc Tryz.prog W 0 (fun _ => true) true Tryz.f3.params.toList args.toList ds p := hA0
  rw [Tryz.params3] at hA hval
  obtain ⟨v0, vs0, d0, ds0, p0, q0, hargs, rfl, rfl, h0, r0⟩ := trodAll_cons hA
  obtain ⟨rfl, rfl, rfl⟩ := trodAll_nil r0
  obtain rfl : args = #[v0] := by cases args; simp_all
  obtain ⟨rfl, rfl⟩ := trodVars_none hV
  have k0 := h0
  have lt0 : ∀ x ∈ p0, x.block < W.heap.size := by obtain ⟨m, hm⟩ := k0; exact DataW.trod_lt m _ _ _ hm
  obtain ⟨a0, l0, p0c, rfl⟩ := okWide_slice Tryz.underlying22 (hval 0 22 v0 rfl rfl)
  obtain ⟨z0, wa0⟩ : ∃ zs, IsRow .u8 W a0 l0 p0c zs := by
    obtain ⟨fuel, hf⟩ := h0
    rcases open_ints Tryz.underlying22 Tryz.underlying5 (by kernel_rfl) hf with ⟨hcs, _⟩ | ⟨x, l, c, zs, hcs, _, hl, hm, hz, _, hcell, hwz⟩
    · simp [Value.cells] at hcs
      obtain ⟨rfl, rfl, rfl⟩ := hcs
      exact ⟨[], .inl ⟨rfl, rfl, rfl, rfl⟩⟩
    · simp [Value.cells] at hcs
      obtain ⟨rfl, rfl, rfl⟩ := hcs
      exact ⟨zs, .inr ⟨_, rfl, hl, hm, by simpa using hz, hcell, hwz⟩⟩
  clear hA0 hval0
  refine (walk W a0 l0 p0c z0 wa0).mono fun e W' ⟨he, bel⟩ => ?_
  subst he
  exact ⟨_, rfl, _, _, _, [], _, [], hW', trodAll_mk1 (shut_bool Tryz.underlying4 _), (trodAll_cons_mk (Below.trod laidOut (by kernel_rfl) (of_decide_eq_true (by kernel_rfl)) k0 bel lt0) trodAll_mk0), rfl, bel.frame _, fun h => by cases h⟩
theorem over : Rows.fnMergesRow.holds Tryz.pinned (OpenSpec.ofChange Rows.fnMergesSpec) :=
  OpenClaim.holds_of_wide 3 Tryz.f3 rfl rfl rfl rfl rfl rfl rfl ⟨rfl, rfl, rfl, rfl, rfl⟩ rfl rfl rfl rfl rfl (by kernel_rfl) Tryz.func3 (by kernel_rfl)
    (of_decide_eq_true (by kernel_rfl)) (by unfold Func.isWrapper; first | (rw [if_pos (by decide +kernel)]; kernel_rfl) | (rw [if_neg (by decide +kernel)]; exact ⟨rfl, rfl⟩))
    (fun os started H enc _ => lifted os started H enc)
theorem proved : Rows.FnMergesSaid := over
#print axioms proved
end Go.Proofs.YtbdjnfnphilklaaGreat.fnMerges
