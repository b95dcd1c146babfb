/-
  The law FnPageDots holds of every argument: a page with one drawn object has as many dots of its gray as ObjectDots says (if this is not white), and a white page has 1024 white dots. No condition (the law itself returns true at more than 1048576 bytes).
  The frame of the proof was written by a tool of this repo after the guide's shells; the walk is this text's own.
-/
import Derived.Test.YtifmdgncgokikaaRows
import Derived.WalkKit
import Derived.ProofKit
import Derived.OpenShut
import Derived.ShutString
import Derived.ChangeOld
import Derived.ChangeArms
import Derived.Below
import Derived.Handy
import Derived.Lib.SmallJoins
import Derived.Lib.Hide
import Derived.Deep.RegionHeld3
import Derived.Deep.DeepCutAuto
import Derived.BigQuiet
import Derived.Deep.QuietTactic
import Derived.Test.YtifmdgncgokikaaP40
import Derived.Test.YtifmdgncgokikaaP41
import Derived.Test.YtifmdgncgokikaaP37
import Derived.Test.YtifmdgncgokikaaP44
import Derived.Test.YtifmdgncgokikaaP15
namespace Go.Proofs.Ytifmdgncgokikaa.fnPageDots
open Go.ChangeShapes Go.WideShapes Go.ChangeAt Go.RowKit
open Go.ChangeMaps (open_string shut_string)
open Kit
open Slabs
open Draw
open Go.Proofs.Ytifmdgncgokikaa.Own
set_option linter.unusedVariables false
set_option linter.unusedSimpArgs false
theorem own : ownKnob Try.prog.godebug = none := by kernel_rfl
theorem laidOut : laidOutB Try.prog = true := by kernel_rfl
structure FdS (V w : World) (GO : Nat) (a : Option Addr) (c : Nat) (l : List Ins.Pt) (g x0 y0 x1 y1 : Int) : Prop where
  O : Blk V GO (sixv a l.length c g x0 y0 x1 y1)
  P : Ins.PathAt V a l
  B : Below w.heap.size w V
theorem FdS.on {V W w : World} {GO : Nat} {a : Option Addr} {c : Nat} {l : List Ins.Pt} {g x0 y0 x1 y1 : Int} (h : FdS V w GO a c l g x0 y0 x1 y1) (hb : Below V.heap.size V W) : FdS W w GO a c l g x0 y0 x1 y1 :=
  ⟨h.O.keep hb, h.P.on hb, on_of h.B hb⟩
theorem one_obl {V : World} {a : Option Addr} {c : Nat} {l : List Ins.Pt} {g x0 y0 x1 y1 : Int} (T : TypeId) (hp : Ins.PathAt V a l) (hn : l.length ≤ 1048576) :
    ObL (V.alloc (.cells #[.slice a l.length c, .int .i64 g, .int .i64 x0, .int .i64 y0, .int .i64 x1, .int .i64 y1] T)) (some ⟨V.heap.size, 0, none⟩) [⟨l, g, x0, y0, x1, y1⟩] := by
  have hb : Below V.heap.size V (V.alloc (.cells #[.slice a l.length c, .int .i64 g, .int .i64 x0, .int .i64 y0, .int .i64 x1, .int .i64 y1] T)) := (Below.refl _ _).alloc (Nat.le_refl _) _
  have B := Blk.new V #[.slice a l.length c, .int .i64 g, .int .i64 x0, .int .i64 y0, .int .i64 x1, .int .i64 y1] T rfl
  refine .inr ⟨V.heap.size, rfl, B.2.2, fun i hi => ?_⟩
  have hi0 : i = 0 := by simp at hi; exact hi
  subst hi0
  refine ⟨a, c, fun j u hu => ?_, hp.on hb, hn⟩
  rw [Nat.zero_mul, Nat.zero_add]
  exact B.1 j u hu
set_option maxRecDepth 100000 in
set_option maxHeartbeats 8000000 in
theorem walk (w : World) (a0 : Option Addr) (l0 p0c : Nat) (z0 : List Int) (wa0 : IsRow .u8 w a0 l0 p0c z0) :
    Calls Try.prog 4 #[.slice a0 l0 p0c] w fun e w' => e = .returned (.bool true) ∧ Below w.heap.size w w' := by
  have hl := row_len wa0
  have HR := Lib.hid wa0
  clear wa0
  by_cases hbig : (1048576 : Int) < l0
  · go_enter Try.func4, Try.ntmps4
    go_wp2_with (go_at_call 10; refine (big_on _ _ _ _ hl).mono ?_; rintro e w' ⟨rfl, rfl⟩)
    go_ret
    exact ⟨rfl, Below.refl _ _⟩
  · have hbig0 : decide ((1048576 : Int) < (l0 : Int)) = false := by simpa using hbig
    go_enter Try.func4, Try.ntmps4
    go_wp2_with fail
    (refine (big_on _ _ _ _ hl).mono ?_; rintro e w' ⟨rfl, rfl⟩)
    go_wp2_with fail
    (refine (Ins.object_any _ _ _ _ _ HR.out).mono ?_; rintro e w2 ⟨a, c, l, g, x0, y0, x1, y1, rfl, h3, h6, hS, hg, hX, ho, hb2⟩)
    have HDr : Hid (Ins.DrO l g x0 y0 x1 y1) := Lib.hid ⟨h3, h6, hS, hg, hX⟩
    have hpa : Ins.PathAt w2 a l := by
      obtain ⟨a', c', e, hp⟩ := Ins.path_of_owns ho
      injection e with e1 e2 e3
      subst e1; exact hp
    have hn : l.length ≤ 1048576 := by omega
    have hba : Below w2.heap.size w2 (w2.alloc (.cells #[.slice a l.length c, .int .i64 g, .int .i64 x0, .int .i64 y0, .int .i64 x1, .int .i64 y1] 30)) := by go_grown
    have hS0 : FdS (w2.alloc (.cells #[.slice a l.length c, .int .i64 g, .int .i64 x0, .int .i64 y0, .int .i64 x1, .int .i64 y1] 30)) w w2.heap.size a c l g x0 y0 x1 y1 := ⟨Blk.new w2 _ _ rfl, hpa.on hba, on_of hb2 hba⟩
    have HS := Lib.hid hS0
    clear h3 h6 hS hX ho hb2 hpa hba hS0
    go_upto_region 4 with fail
    refine Ins.gen_any9 (fun V => FdS V w w2.heap.size a c l g x0 y0 x1 y1) HS.out ?_
    intro V1 hS
    clear HS
    obtain ⟨GO, hGO⟩ : ∃ x, w2.heap.size = x := ⟨_, rfl⟩
    rw [hGO] at hS
    simp only [hGO]
    have HS := Lib.hid hS
    clear hS hGO
    -- the answers
    have hob := HDr.out.ok
    have hpB : paB [⟨l, g, x0, y0, x1, y1⟩] = true := by simp [paB, okO, hob]
    have hpR : paR [⟨l, g, x0, y0, x1, y1⟩] = pntR g (rowsL l g x0 y0 x1 y1 0) (List.replicate 32 whiteR) := by
      unfold paR
      rw [hpB]
      rfl
    have hok := pntR_ok (g := g) (L := rowsL l g x0 y0 x1 y1 0) hg white_ok
    have hXl := pntR_len g (rowsL l g x0 y0 x1 y1 0) (List.replicate 32 whiteR)
    rw [List.length_replicate] at hXl
    have hdots := fun (h : g ≠ 255) => dots_eq HDr.out h
    obtain ⟨X, hX⟩ : ∃ X, pntR g (rowsL l g x0 y0 x1 y1 0) (List.replicate 32 whiteR) = X := ⟨_, rfl⟩
    rw [hX] at hpR hok hXl hdots
    have htX := tot32 (rows32 hok).2
    have HPA : Hid (∀ V : World, FdS V w GO a c l g x0 y0 x1 y1 → Calls Try.prog 19 #[.slice (some ⟨V.heap.size, 0, none⟩) 1 1] (V.alloc (.cells #[.slice a l.length c, .int .i64 g, .int .i64 x0, .int .i64 y0, .int .i64 x1, .int .i64 y1] 30)) (PoNew X true (V.alloc (.cells #[.slice a l.length c, .int .i64 g, .int .i64 x0, .int .i64 y0, .int .i64 x1, .int .i64 y1] 30)))) := Lib.hid (fun V hV => by
      have h := paintall_impl _ _ 1 _ (by simp) (one_obl (c := c) (g := g) (x0 := x0) (y0 := y0) (x1 := x1) (y1 := y1) 30 hV.P hn)
      rw [hpR, hpB] at h
      exact h)
    have HRO : Hid (∀ (V : World) (xa : Option Addr) (xc : Nat), RR V xa X → Calls Try.prog 16 #[.slice xa 32 xc] V fun e w' => e = .returned (.bool true) ∧ Below V.heap.size V w') := Lib.hid (fun V xa xc h1 => by
      have h := rowsok_impl V xa xc X (by omega) (by omega) h1
      rw [hXl, hok] at h; exact h)
    have HCW : Hid (∀ (V : World) (xa : Option Addr) (xc : Nat), RR V xa (List.replicate 32 whiteR) → Calls Try.prog 21 #[.slice xa 32 xc, .int .i64 255] V fun e w' => e = .returned (.int .i64 1024) ∧ Below V.heap.size V w') := Lib.hid (fun V xa xc h1 => by
      have h := count_impl V xa xc (List.replicate 32 whiteR) 255 (by simp) (by rw [tot32 white_32.2, List.length_replicate]; omega) h1
      rw [white_cnt, List.length_replicate] at h; exact h)
    have HCX : Hid (∀ (V : World) (xa : Option Addr) (xc : Nat), RR V xa X → Calls Try.prog 21 #[.slice xa 32 xc, .int .i64 g] V fun e w' => e = .returned (.int .i64 ((cntR g X : Nat) : Int)) ∧ Below V.heap.size V w') := Lib.hid (fun V xa xc h1 => by
      have h := count_impl V xa xc X g (by omega) (by omega) h1
      rw [hXl] at h; exact h)
    have HDT := Lib.hid (fun V (h : Ins.PathAt V a l) => Ins.odots_impl V a c l g x0 y0 x1 y1 hn h)
    have HDE := Lib.hid hdots
    have HXL := Lib.hid hXl
    clear hob hpB hpR hok hX htX hdots hXl hg
    obtain ⟨k0, k1, k2, k3, k4, k5, hzA⟩ := sixc HS.out.O
    go_wp2_with fail
    clear k0 k1 k2 k3 k4 k5 hzA
    ((refine (HPA.out _ HS.out).mono ?_); rintro e w4 ⟨xa, xc, xf, rfl, hxo, _, _, bb⟩)
    have HS := Lib.hid ((HS.out.on ((Below.refl _ _).alloc (Nat.le_refl _) _)).on bb)
    have HX := Lib.hid (rr_of hxo)
    rw [HXL.out]
    clear hxo bb HPA
    go_wp2_with fail
    ((with_reducible refine (whites32_impl _).mono ?_); rintro e w5 ⟨wa, wc, wf, rfl, hwo, _, _, bb⟩)
    have HS := Lib.hid (HS.out.on bb)
    have HX := Lib.hid (HX.out.on bb)
    have HWh := Lib.hid (rr_of hwo)
    rw [show (List.replicate 32 whiteR).length = 32 from List.length_replicate]
    clear hwo bb
    go_wp2_with fail
    ((refine (HRO.out _ _ _ HX.out).mono ?_); rintro e w6 ⟨rfl, bb⟩)
    have HS := Lib.hid (HS.out.on bb)
    have HX := Lib.hid (HX.out.on bb)
    have HWh := Lib.hid (HWh.out.on bb)
    clear bb
    go_wp2_with fail
    ((refine (HCW.out _ _ _ HWh.out).mono ?_); rintro e w7 ⟨rfl, bb⟩)
    have HS := Lib.hid (HS.out.on bb)
    have HX := Lib.hid (HX.out.on bb)
    clear bb HWh
    by_cases h255 : g = 255
    · have hd : (g == 255) = true := by simpa using h255
      obtain ⟨k0, k1, k2, k3, k4, k5, hzA⟩ := sixc HS.out.O
      go_wp2_with fail
      go_quiet (fail)
      go_wp2
      go_ret
      exact ⟨rfl, Ints.drewN_below HS.out.B _⟩
    · have hd : (g == 255) = false := by simpa using h255
      have he : (((cntR g X : Nat) : Int) == Ins.odV l g x0 y0 x1 y1) = true := by rw [HDE.out h255]; simp
      obtain ⟨k0, k1, k2, k3, k4, k5, hzA⟩ := sixc HS.out.O
      have HK := Lib.hid (fun (V : World) (hV : Below w7.heap.size w7 V) => sixc (HS.out.O.keep hV))
      generalize Ins.odV l g x0 y0 x1 y1 = dv at *
      generalize cntR g X = cv at *
      go_wp2_with fail
      clear k0 k1 k2 k3 k4 k5 hzA
      go_region_held3 (fun w' => (w'.cell? ⟨GO, 0, none⟩ = some (.slice a l.length c) ∧ w'.cell? ⟨GO, 1, none⟩ = some (.int .i64 g) ∧ w'.cell? ⟨GO, 2, none⟩ = some (.int .i64 x0) ∧ w'.cell? ⟨GO, 3, none⟩ = some (.int .i64 y0) ∧ w'.cell? ⟨GO, 4, none⟩ = some (.int .i64 x1) ∧ w'.cell? ⟨GO, 5, none⟩ = some (.int .i64 y1) ∧ GO < w'.heap.size) ∧ Below w7.heap.size w7 w') (first | exact ⟨HK.out _ hB, hB⟩ | exact ⟨HK.out _ (by go_grown), (by go_grown)⟩)
        (first
          | (go_at_call 21; (refine (HCX.out _ _ _ (HX.out.on (by first | exact hB | go_grown))).mono ?_); rintro e wz ⟨rfl, bb⟩; have hB := on_of (W := w7) (by first | exact hB | go_grown) bb; clear bb)
          | (go_at_call 22; (refine (HDT.out _ (HS.out.P.on (by first | exact hB | go_grown))).mono ?_); rintro e wz ⟨rfl, bb⟩; have hB := on_of (W := w7) (by first | exact hB | go_grown) bb; clear bb))
      all_goals
        have HF := Lib.hid (on_of HS.out.B hB)
        go_wp2
        go_ret
        exact ⟨rfl, HF.out⟩
/-! ### THE ROW's STEP -/
set_option maxRecDepth 100000 in
theorem lifted (os : Os) (started : os.Started) (H : Type) (enc : TypeId × Value → H) :
    ReturnsInHanded {} Try.checked os 4 .any (Rows.fnPageDotsSpec.pre6 enc Try.prog Try.f4 Rows.fnPageDotsRow.domain false) (Rows.fnPageDotsSpec.post enc Try.prog Try.f4 false true false false) := by
  refine returnsInHanded_of_change (C := Try.checked) own started (by kernel_rfl) Try.func4
    (ChangeSpec.witness6 (enc := enc) (C := Try.checked) false ⟨#[], #[.slice none 0 0], []⟩ 8 (by kernel_rfl) (by kernel_rfl) (by kernel_rfl) (by kernel_rfl)) ?_
  intro W base args ds gs before hval0 hW hcnd _
  have hval : ∀ (j : Nat) t v, Try.f4.params[j]? = some t → args[j]? = some v → Value.okWide Try.prog W .any base t v := hval0
  have hW' := hW
  obtain ⟨p, q, hA0, hV, rfl, hfz, hnd⟩ := hW
  have hA : DataW.TrodAll enc Try.prog W 0 (fun _ => true) true Try.f4.params.toList args.toList ds p := hA0
  rw [Try.params4] at hA hval
  obtain ⟨v0, vs0, d0, ds0, p0, q0, hargs, rfl, rfl, h0, r0⟩ := trodAll_cons hA
  obtain ⟨rfl, rfl, rfl⟩ := trodAll_nil r0
  obtain rfl : args = #[v0] := by cases args; simp_all
  obtain ⟨rfl, rfl⟩ := trodVars_none hV
  have k0 := h0
  have lt0 : ∀ x ∈ p0, x.block < W.heap.size := by obtain ⟨m, hm⟩ := k0; exact DataW.trod_lt m _ _ _ hm
  obtain ⟨a0, l0, p0c, rfl⟩ := okWide_slice Try.underlying22 (hval 0 22 v0 rfl rfl)
  obtain ⟨z0, wa0⟩ : ∃ zs, IsRow .u8 W a0 l0 p0c zs := by
    obtain ⟨fuel, hf⟩ := h0
    rcases open_ints Try.underlying22 Try.underlying5 (by kernel_rfl) hf with ⟨hcs, _⟩ | ⟨x, l, c, zs, hcs, _, hl, hm, hz, _, hcell, hwz⟩
    · simp [Value.cells] at hcs
      obtain ⟨rfl, rfl, rfl⟩ := hcs
      exact ⟨[], .inl ⟨rfl, rfl, rfl, rfl⟩⟩
    · simp [Value.cells] at hcs
      obtain ⟨rfl, rfl, rfl⟩ := hcs
      exact ⟨zs, .inr ⟨_, rfl, hl, hm, by simpa using hz, hcell, hwz⟩⟩
  clear hA0 hval0
  refine (walk W a0 l0 p0c z0 wa0).mono fun e W' ⟨he, bel⟩ => ?_
  subst he
  exact ⟨_, rfl, _, _, _, [], _, [], hW', trodAll_mk1 (shut_bool Try.underlying4 _), (trodAll_cons_mk (Below.trod laidOut (by kernel_rfl) (of_decide_eq_true (by kernel_rfl)) k0 bel lt0) trodAll_mk0), rfl, bel.frame _, fun h => by cases h⟩
theorem over : Rows.fnPageDotsRow.holds Try.pinned (OpenSpec.ofChange Rows.fnPageDotsSpec) :=
  OpenClaim.holds_of_wide 4 Try.f4 rfl rfl rfl rfl rfl rfl rfl ⟨rfl, rfl, rfl, rfl, rfl⟩ rfl rfl rfl rfl rfl (by kernel_rfl) Try.func4 (by kernel_rfl)
    (of_decide_eq_true (by kernel_rfl)) (by unfold Func.isWrapper; first | (rw [if_pos (by decide +kernel)]; kernel_rfl) | (rw [if_neg (by decide +kernel)]; exact ⟨rfl, rfl⟩))
    (fun os started H enc _ => lifted os started H enc)
theorem proved : Rows.FnPageDotsSaid := over
#print axioms proved
end Go.Proofs.Ytifmdgncgokikaa.fnPageDots
