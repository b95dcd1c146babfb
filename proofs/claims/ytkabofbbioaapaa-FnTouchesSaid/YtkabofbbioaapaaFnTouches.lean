/-
  The law FnTouches holds of every argument: a drawn object that does not touch a band paints nothing there, and no object of that band is found. No condition (the law itself returns true at more than 1048576 bytes).
  The frame of the proof was written by a tool of this repo after the guide's shells; the walk is this text's own.
-/
import Derived.Test.YtkabofbbioaapaaRows
import Derived.WalkKit
import Derived.ProofKit
import Derived.OpenShut
import Derived.ShutString
import Derived.ChangeOld
import Derived.ChangeArms
import Derived.Below
import Derived.Handy
import Derived.Lib.SmallJoins
import Derived.Lib.Hide
import Derived.Deep.RegionHeld3
import Derived.Deep.DeepCutAuto
import Derived.BigQuiet
import Derived.Deep.QuietTactic
import Derived.Test.YtkabofbbioaapaaP42
import Derived.Test.YtkabofbbioaapaaP37
import Derived.Test.YtkabofbbioaapaaP28
namespace Go.Proofs.Ytkabofbbioaapaa.fnTouches
open Go.ChangeShapes Go.WideShapes Go.ChangeAt Go.RowKit
open Go.ChangeMaps (open_string shut_string)
open Kit
open Slabs
open Draw
open Go.Proofs.Ytkabofbbioaapaa.Own
set_option linter.unusedVariables false
set_option linter.unusedSimpArgs false
theorem own : ownKnob Try.prog.godebug = none := by kernel_rfl
theorem laidOut : laidOutB Try.prog = true := by kernel_rfl
set_option maxRecDepth 100000 in
set_option maxHeartbeats 8000000 in
theorem walk (w : World) (a0 : Option Addr) (l0 p0c : Nat) (z0 : List Int) (wa0 : IsRow .u8 w a0 l0 p0c z0) :
    Calls Try.prog 3 #[.slice a0 l0 p0c] w fun e w' => e = .returned (.bool true) ∧ Below w.heap.size w w' := by
  have hl := row_len wa0
  have HR := Lib.hid wa0
  clear wa0
  by_cases hbig : (1048576 : Int) < l0
  · go_enter Try.func3, Try.ntmps3
    go_wp2_with (go_at_call 8; refine (big_on _ _ _ _ hl).mono ?_; rintro e w' ⟨rfl, rfl⟩)
    go_ret
    exact ⟨rfl, Below.refl _ _⟩
  · have hbig0 : decide ((1048576 : Int) < (l0 : Int)) = false := by simpa using hbig
    go_enter Try.func3, Try.ntmps3
    go_wp2_with fail
    (refine (big_on _ _ _ _ hl).mono ?_; rintro e w' ⟨rfl, rfl⟩)
    go_wp2_with fail
    (refine (Ins.object_any _ _ _ _ _ HR.out).mono ?_; rintro e w1 ⟨a, c, l, g, x0, y0, x1, y1, rfl, h3, h6, hS, hg, hX, ho, hb1⟩)
    obtain ⟨o, hO⟩ : ∃ o : Ob, o = ⟨l, g, x0, y0, x1, y1⟩ := ⟨_, rfl⟩
    have hba : Below w1.heap.size w1 (w1.alloc (.cells #[.slice a l.length c, .int .i64 g, .int .i64 x0, .int .i64 y0, .int .i64 x1, .int .i64 y1] 28)) := by go_grown
    have hS0 : FtS (w1.alloc (.cells #[.slice a l.length c, .int .i64 g, .int .i64 x0, .int .i64 y0, .int .i64 x1, .int .i64 y1] 28)) w w1.heap.size w.heap.size o a c := by
      subst hO
      exact ⟨Blk.new w1 #[.slice a l.length c, .int .i64 g, .int .i64 x0, .int .i64 y0, .int .i64 x1, .int .i64 y1] _ rfl, row_on ho hba, by dsimp only; omega, on_of hb1 hba⟩
    have HS := Lib.hid hS0
    have HN := Lib.hid (show o.path.length ≤ 1048570 by subst hO; dsimp only; omega)
    clear h3 h6 hS hX ho hb1 hba hS0 hg
    go_upto_region 4 with fail
    refine Ins.gen_any9 (fun V => FtS V w w1.heap.size w.heap.size o a c) HS.out ?_
    intro V1 hS
    clear HS
    obtain ⟨GO, hGO⟩ : ∃ x, w1.heap.size = x := ⟨_, rfl⟩
    rw [hGO] at hS
    simp only [hGO]
    have HS := Lib.hid hS
    clear hS hGO hO
    go_wp2_with fail
    (refine (height_any _ _ _ _ _ (IsRow.keep HR.out HS.out.B)).mono ?_; rintro e w2 ⟨q, hq, rfl, bb⟩)
    have HS := Lib.hid (HS.out.on bb)
    obtain ⟨m0, m1, m2, m3, m4⟩ := cb_mul hq
    obtain ⟨m, rfl⟩ : ∃ m : Nat, q = (m : Int) := ⟨q.toNat, by omega⟩
    obtain ⟨nb, hnb⟩ : ∃ nb : Nat, cbV (m : Int) = (nb : Int) := ⟨(cbV (m : Int)).toNat, by omega⟩
    have HC1 := Lib.hid (fun W => cb_spec (m : Int) W)
    have HC2 := Lib.hid (fun W => cb_impl (m : Int) W)
    rw [hnb] at HC1 HC2 m1 m2
    have HB := Lib.hid (fun (k : Nat) (hk : k < nb) => (show bnB (m : Int) (k : Int) = true by simp only [bnB, hnb, decide_eq_true_eq]; omega))
    clear bb hq m0 hnb
    go_wp2_with fail
    ((with_reducible refine (HC1.out _).mono ?_); rintro e w3 ⟨rfl, bb⟩)
    have HS := Lib.hid (HS.out.on bb)
    clear bb
    go_wp2_with fail
    ((with_reducible refine (HC2.out _).mono ?_); rintro e w4 ⟨rfl, bb⟩)
    have HS := Lib.hid (HS.out.on bb)
    clear bb
    go_wp2
    go_loopw [6] (fun v6 wr => ∃ k : Nat, k ≤ nb ∧ v6 = .int .i64 (k : Int) ∧ Hid (FtS wr w GO w.heap.size o a c)) (fun v6 _ => nb - (intOf v6).toNat)
    case atStart => exact ⟨0, Nat.zero_le _, rfl, HS⟩
    case round =>
      obtain ⟨k, hk, rfl, hF⟩ := hrel
      by_cases hlt : k < nb
      · have hbn := HB.out k hlt
        obtain ⟨hr1, hr2⟩ := rb_one (o := o) hbn
        rw [Int.toNat_natCast] at hr2
        have h32 := (foldF ((k : Int) * (m : Int)) [o] (whR_len (m : Int)) (whR_32 (m : Int))).2
        have hRB := fun (V : World) (a' : Option Addr) (c' : Nat) (fp : List Nat) (h : Go.Proofs.Ytkabofbbioaapaa.Own.Own V (.sl KObject) [.slice a' ([Dt.st o.dt] : List Dt).length c'] (.sl [.st o.dt]) fp) => impl_RenderBand_ V (one_bulk HN.out) h (m : Int) (k : Int) ⟨rfl, rfl⟩
        rw [obs_one] at hRB
        simp only [List.length_singleton] at hRB
        have hTT : ∀ r ∈ rbR (m : Int) (k : Int) [o], r.length = 32 := by
          have e : rbR (m : Int) (k : Int) [o] = [o].foldl (pnF ((k : Int) * (m : Int))) (whR (m : Int)) := by simp [rbR, hbn]
          rw [e]; exact h32
        have hOut := rb_out (o := o) hbn
        generalize rbR (m : Int) (k : Int) [o] = T at *
        have htot := tot_32 hTT
        have HT := Lib.hid (And.intro hr2 (And.intro htot hOut))
        have HRB := Lib.hid hRB
        clear hr1 hr2 h32 hRB hTT hOut htot hbn
        obtain ⟨fp1, ho1⟩ := hF.out.one
        have HO1 := Lib.hid ho1
        obtain ⟨k0, k1, k2, k3, k4, k5, hzX⟩ := sixc hF.out.O
        have i0 : (0 : Int) ≤ (k : Int) := by omega
        have i1 : (k : Int) < (nb : Int) := by omega
        have hbW : Below wr.heap.size wr (wr.alloc (.cells #[.slice a o.path.length c, .int .i64 o.gray, .int .i64 o.x0, .int .i64 o.y0, .int .i64 o.x1, .int .i64 o.y1] 28)) := by go_grown
        have HF := Lib.hid (hF.out.on hbW)
        clear ho1 hbW
        obtain ⟨wz, rfl⟩ : ∃ wz : World, wz = wr := ⟨_, rfl⟩
        go_wp2_with fail
        clear k0 k1 k2 k3 k4 k5 hzX
        ((with_reducible refine (HRB.out _ _ _ _ HO1.out).mono ?_); rintro e w5 ⟨ra, rc, rf, rfl, hro, hrn, hrg, bb⟩)
        have HF := Lib.hid (HF.out.on bb)
        have HRR := Lib.hid (rr_of hro)
        rw [HT.out.1]
        clear hro hrn hrg bb
        obtain ⟨k0, k1, k2, k3, k4, k5, hzX⟩ := sixc HF.out.O
        go_wp2_with fail
        clear k0 k1 k2 k3 k4 k5 hzX
        ((with_reducible refine (touch_impl _ a c o.path o.gray o.x0 o.y0 o.x1 o.y1 (m : Int) (k : Int) HF.out.L HF.out.path).mono ?_); rintro e w6 ⟨rfl, bb⟩)
        have HF := Lib.hid (HF.out.on bb)
        have HRR := Lib.hid (HRR.out.on bb)
        have HK9 := Lib.hid (show tbO (m : Int) (k : Int) o = tbB o.path o.gray o.x0 o.y0 o.x1 o.y1 (m : Int) (k : Int) from rfl)
        clear bb
        cases hp : tbB o.path o.gray o.x0 o.y0 o.x1 o.y1 (m : Int) (k : Int)
        · obtain ⟨t1, t2⟩ := HT.out.2.2 (HK9.out.trans hp)
          have hOB := fun (V : World) (a' : Option Addr) (c' : Nat) (fp : List Nat) (h : Go.Proofs.Ytkabofbbioaapaa.Own.Own V (.sl KObject) [.slice a' ([Dt.st o.dt] : List Dt).length c'] (.sl [.st o.dt]) fp) => objsof_impl V a' c' [.st o.dt] fp (m : Int) (k : Int) (one_bulk HN.out) h
          rw [t2] at hOB
          simp only [List.length_singleton] at hOB
          have HOB := Lib.hid hOB
          have HSA : Hid (∀ (V : World) (xa ya : Option Addr) (xc yc : Nat), RR V xa T → RR V ya T → Calls Try.prog 15 #[.slice xa m xc, .slice ya m yc] V fun e w' => e = .returned (.bool true) ∧ Below V.heap.size V w') := Lib.hid (fun V xa ya xc yc h1 h2 => by
            have h := same_impl V xa ya xc yc T T (by rw [HT.out.1]; omega) (by rw [HT.out.1]; omega) (by rw [HT.out.2.1, HT.out.1]; omega) (by rw [HT.out.2.1, HT.out.1]; omega) h1 h2
            rw [HT.out.1] at h
            simpa [sameB] using h)
          have HWH := Lib.hid (fun V => whitesh_impl V (m : Int) ⟨m3, m4⟩)
          rw [← t1] at HWH
          clear hp t1 t2 hOB
          go_wp2_with fail
          ((with_reducible refine (HWH.out _).mono ?_); rintro e w7 ⟨ya, yc, yf, rfl, hyo, hyn, hyg, bb⟩)
          have HF := Lib.hid (HF.out.on bb)
          have HRR := Lib.hid (HRR.out.on bb)
          have HYY := Lib.hid (rr_of hyo)
          rw [HT.out.1]
          clear hyo hyn hyg bb
          go_wp2_with fail
          ((with_reducible refine (HSA.out _ _ _ _ _ HRR.out HYY.out).mono ?_); rintro e w8 ⟨rfl, bb⟩)
          have HF := Lib.hid (HF.out.on bb)
          clear bb HRR HYY
          obtain ⟨fp2, ho2⟩ := HF.out.one
          have HO2 := Lib.hid ho2
          obtain ⟨k0, k1, k2, k3, k4, k5, hzX⟩ := sixc HF.out.O
          have hbW : Below w8.heap.size w8 (w8.alloc (.cells #[.slice a o.path.length c, .int .i64 o.gray, .int .i64 o.x0, .int .i64 o.y0, .int .i64 o.x1, .int .i64 o.y1] 28)) := by go_grown
          have HF := Lib.hid (HF.out.on hbW)
          clear ho2 hbW
          go_wp2_with fail
          clear k0 k1 k2 k3 k4 k5 hzX
          ((with_reducible refine (HOB.out _ _ _ _ HO2.out).mono ?_); rintro e w9 ⟨qa, qc, qf, rfl, hqo, hqn, hqg, bb⟩)
          rw [List.length_nil]
          have HF := Lib.hid (HF.out.on bb)
          clear hqo hqn hqg bb
          go_wp2
          go_roundw
          case rel => exact ⟨k + 1, by omega, by go_num, HF⟩
          case measure => simp [intOf]; omega
        · clear hp
          go_wp2
          go_roundw
          case rel => exact ⟨k + 1, by omega, by go_num, HF⟩
          case measure => simp [intOf]; omega
      · obtain rfl : k = nb := by omega
        go_wp2
        go_ret
        exact ⟨rfl, hF.out.B⟩
/-! ### THE ROW's STEP -/
set_option maxRecDepth 100000 in
theorem lifted (os : Os) (started : os.Started) (H : Type) (enc : TypeId × Value → H) :
    ReturnsInHanded {} Try.checked os 3 .any (Rows.fnTouchesSpec.pre6 enc Try.prog Try.f3 Rows.fnTouchesRow.domain false) (Rows.fnTouchesSpec.post enc Try.prog Try.f3 false true false false) := by
  refine returnsInHanded_of_change (C := Try.checked) own started (by kernel_rfl) Try.func3
    (ChangeSpec.witness6 (enc := enc) (C := Try.checked) false ⟨#[], #[.slice none 0 0], []⟩ 8 (by kernel_rfl) (by kernel_rfl) (by kernel_rfl) (by kernel_rfl)) ?_
  intro W base args ds gs before hval0 hW hcnd _
  have hval : ∀ (j : Nat) t v, Try.f3.params[j]? = some t → args[j]? = some v → Value.okWide Try.prog W .any base t v := hval0
  have hW' := hW
  obtain ⟨p, q, hA0, hV, rfl, hfz, hnd⟩ := hW
  have hA : DataW.TrodAll enc Try.prog W 0 (fun _ => true) true Try.f3.params.toList args.toList ds p := hA0
  rw [Try.params3] at hA hval
  obtain ⟨v0, vs0, d0, ds0, p0, q0, hargs, rfl, rfl, h0, r0⟩ := trodAll_cons hA
  obtain ⟨rfl, rfl, rfl⟩ := trodAll_nil r0
  obtain rfl : args = #[v0] := by cases args; simp_all
  obtain ⟨rfl, rfl⟩ := trodVars_none hV
  have k0 := h0
  have lt0 : ∀ x ∈ p0, x.block < W.heap.size := by obtain ⟨m, hm⟩ := k0; exact DataW.trod_lt m _ _ _ hm
  obtain ⟨a0, l0, p0c, rfl⟩ := okWide_slice Try.underlying22 (hval 0 22 v0 rfl rfl)
  obtain ⟨z0, wa0⟩ : ∃ zs, IsRow .u8 W a0 l0 p0c zs := by
    obtain ⟨fuel, hf⟩ := h0
    rcases open_ints Try.underlying22 Try.underlying5 (by kernel_rfl) hf with ⟨hcs, _⟩ | ⟨x, l, c, zs, hcs, _, hl, hm, hz, _, hcell, hwz⟩
    · simp [Value.cells] at hcs
      obtain ⟨rfl, rfl, rfl⟩ := hcs
      exact ⟨[], .inl ⟨rfl, rfl, rfl, rfl⟩⟩
    · simp [Value.cells] at hcs
      obtain ⟨rfl, rfl, rfl⟩ := hcs
      exact ⟨zs, .inr ⟨_, rfl, hl, hm, by simpa using hz, hcell, hwz⟩⟩
  clear hA0 hval0
  refine (walk W a0 l0 p0c z0 wa0).mono fun e W' ⟨he, bel⟩ => ?_
  subst he
  exact ⟨_, rfl, _, _, _, [], _, [], hW', trodAll_mk1 (shut_bool Try.underlying4 _), (trodAll_cons_mk (Below.trod laidOut (by kernel_rfl) (of_decide_eq_true (by kernel_rfl)) k0 bel lt0) trodAll_mk0), rfl, bel.frame _, fun h => by cases h⟩
theorem over : Rows.fnTouchesRow.holds Try.pinned (OpenSpec.ofChange Rows.fnTouchesSpec) :=
  OpenClaim.holds_of_wide 3 Try.f3 rfl rfl rfl rfl rfl rfl rfl ⟨rfl, rfl, rfl, rfl, rfl⟩ rfl rfl rfl rfl rfl (by kernel_rfl) Try.func3 (by kernel_rfl)
    (of_decide_eq_true (by kernel_rfl)) (by unfold Func.isWrapper; first | (rw [if_pos (by decide +kernel)]; kernel_rfl) | (rw [if_neg (by decide +kernel)]; exact ⟨rfl, rfl⟩))
    (fun os started H enc _ => lifted os started H enc)
theorem proved : Rows.FnTouchesSaid := over
#print axioms proved
end Go.Proofs.Ytkabofbbioaapaa.fnTouches
