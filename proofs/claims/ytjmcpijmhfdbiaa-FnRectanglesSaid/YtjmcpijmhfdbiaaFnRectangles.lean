/-
  For all bytes that come in, the drawn rectangle contains as many dots as its area; no condition.
  The frame of the proof was written by a tool of this repo after the guide's shells; the walk is this text's own.
-/
import Derived.Test.YtjmcpijmhfdbiaaRows
import Derived.WalkKit
import Derived.ProofKit
import Derived.OpenShut
import Derived.ShutString
import Derived.ChangeOld
import Derived.ChangeArms
import Derived.Below
import Derived.Handy
import Derived.Lib.SmallJoins
import Derived.Test.YtjmcpijmhfdbiaaRl8
import Derived.Test.YtjmcpijmhfdbiaaCnI8
import Derived.Test.YtjmcpijmhfdbiaaArI8
import Derived.Lib.Hide
import Derived.Deep.RegionHeld3
import Derived.Deep.DeepCutAuto
namespace Go.Proofs.Ytjmcpijmhfdbiaa.fnRectangles
open Go.ChangeShapes Go.WideShapes Go.ChangeAt Go.RowKit
open Go.ChangeMaps (open_string shut_string)
open Kit
open Draw
open Point
open Box
open Ins
set_option linter.unusedVariables false
set_option linter.unusedSimpArgs false

theorem own : ownKnob Try.prog.godebug = none := by kernel_rfl
theorem laidOut : laidOutB Try.prog = true := by kernel_rfl

theorem meet_at (x0 y0 x1 y1 u0 v0 u1 v1 a b c d : Int) (w : World) (h : meetV x0 y0 x1 y1 u0 v0 u1 v1 = .agg #[.int .i64 a, .int .i64 b, .int .i64 c, .int .i64 d]) : Calls Try.prog 17 #[.agg #[.int .i64 x0, .int .i64 y0, .int .i64 x1, .int .i64 y1], .agg #[.int .i64 u0, .int .i64 v0, .int .i64 u1, .int .i64 v1]] w fun e w' => e = .returned (.agg #[.int .i64 a, .int .i64 b, .int .i64 c, .int .i64 d]) ∧ Below w.heap.size w w' := by
  rw [← h]; exact meet_impl _ _ _ _ _ _ _ _ w
theorem dots_n (x0 y0 x1 y1 n : Int) (w : World) (h : dots x0 y0 x1 y1 = n) : Calls Try.prog 19 #[.agg #[.int .i64 x0, .int .i64 y0, .int .i64 x1, .int .i64 y1]] w fun e w' => e = .returned (.int .i64 n) ∧ Below w.heap.size w w' := by
  rw [← h]; exact dots_impl x0 y0 x1 y1 w
theorem dots_m (x0 y0 x1 y1 n : Int) (w : World) (h : dots x0 y0 x1 y1 = n) : Calls Try.prog 20 #[.agg #[.int .i64 x0, .int .i64 y0, .int .i64 x1, .int .i64 y1]] w fun e w' => e = .returned (.int .i64 n) ∧ Below w.heap.size w w' := by
  rw [← h]; exact dots_spec x0 y0 x1 y1 w
theorem cnt_at (g : Nat) (x0 y0 x1 y1 n : Int) (w : World) (hp : PathAt w (some ⟨g, 0, none⟩) (rect x0 y0 x1 y1)) (h : ((cntV (rect x0 y0 x1 y1) : Nat) : Int) = n) : Calls Try.prog 18 #[.slice (some ⟨g, 0, none⟩) 4 4] w fun e w' => e = .returned (.int .i64 n) ∧ Below w.heap.size w w' := by
  rw [← h]; exact count_impl w _ 4 (rect x0 y0 x1 y1) (by simp [rect]) hp
theorem ar_at (g : Nat) (x0 y0 x1 y1 n : Int) (w : World) (hp : PathAt w (some ⟨g, 0, none⟩) (rect x0 y0 x1 y1)) (h : arV (rect x0 y0 x1 y1) = n) : Calls Try.prog 14 #[.slice (some ⟨g, 0, none⟩) 4 4] w fun e w' => e = .returned (.int .i64 n) ∧ Below w.heap.size w w' := by
  rw [← h]; exact area_impl w _ 4 (rect x0 y0 x1 y1) (by simp [rect]) hp
theorem Four.new (w : World) (T : TypeId) (x0 y0 x1 y1 : Int) : Four (w.alloc (.cells #[.int .i64 x0, .int .i64 y0, .int .i64 x1, .int .i64 y1] T)) w.heap.size x0 y0 x1 y1 :=
  ⟨by simp [go_sem], by simp [go_sem], by simp [go_sem], by simp [go_sem], fun o => by simp [go_sem]⟩
theorem rect_new (w : World) (T : TypeId) (x0 y0 x1 y1 : Int) : PathAt (w.alloc (.cells #[.int .i64 x0, .int .i64 y0, .int .i64 x1, .int .i64 y0, .int .i64 x1, .int .i64 y1, .int .i64 x0, .int .i64 y1] T)) (some ⟨w.heap.size, 0, none⟩) (rect x0 y0 x1 y1) := by
  refine .inr ⟨_, rfl, by simp, fun i hi => ?_⟩
  have h : i = 0 ∨ i = 1 ∨ i = 2 ∨ i = 3 := by simp [rect] at hi; omega
  rcases h with rfl | rfl | rfl | rfl <;> simp [rect, pX, pY, go_sem]

set_option maxHeartbeats 2000000 in
theorem walk (w : World) (a0 : Option Addr) (l0 p0c : Nat) (z0 : List Int) (wa0 : IsRow .u8 w a0 l0 p0c z0) :
    Calls Try.prog 4 #[.slice a0 l0 p0c] w fun e w' => e = .returned (.bool true) ∧ Below w.heap.size w w' := by
  have hl := row_len wa0
  have HR := Lib.hid wa0
  clear wa0
  by_cases hbig : (1048576 : Int) < l0
  · go_enter Try.func4, Try.ntmps4
    go_wp2_with (go_at_call 9; refine (big_on _ _ _ _ hl).mono ?_; rintro e w' ⟨rfl, rfl⟩)
    go_ret
    exact ⟨rfl, Below.refl _ _⟩
  · have hbig0 : decide ((1048576 : Int) < (l0 : Int)) = false := by simpa using hbig
    go_enter Try.func4, Try.ntmps4
    go_wp2_with fail
    (refine (big_on _ _ _ _ hl).mono ?_; rintro e w' ⟨rfl, rfl⟩)
    go_wp2_with fail
    (refine (boxes_any _ _ _ _ _ HR.out).mono ?_; rintro e w1 ⟨x0, y0, x1, y1, u0, v0, u1, v1, hx, hu, rfl, hb1⟩)
    have hs1 := hb1.size
    have hok := bok_true (box_ok hx)
    obtain ⟨a, b, c, d, hv, hpage⟩ : ∃ a b c d : Int, meetV x0 y0 x1 y1 0 0 32 32 = .agg #[.int .i64 a, .int .i64 b, .int .i64 c, .int .i64 d] ∧ ((cntV (rect x0 y0 x1 y1) : Nat) : Int) = dots a b c d := ⟨_, _, _, _, rfl, rect_page (box_ok hx)⟩
    obtain ⟨n, hn⟩ : ∃ n, dots a b c d = n := ⟨_, rfl⟩
    obtain ⟨t, ht⟩ : ∃ t, dots x0 y0 x1 y1 = t := ⟨_, rfl⟩
    have hat := area_le (a := x1 - x0) (b := y1 - y0) (by omega) (by omega) (by omega) (by omega)
    have htb : 0 ≤ t ∧ t ≤ 160000 := by rw [← ht]; simp only [dots, box_ok hx, if_true]; exact hat
    have har : arV (rect x0 y0 x1 y1) = 2 * t := by rw [rect_area (box_ok hx), ht]
    rw [hn] at hpage
    have HV := Lib.hid (And.intro hv (And.intro hpage (And.intro har (And.intro hn ht))))
    clear hx hu hv hpage har hn ht hat hok
    go_wp2_with fail
    (refine (meet_at _ _ _ _ _ _ _ _ _ _ _ _ _ HV.out.1).mono ?_; rintro e w3 ⟨rfl, hb3⟩)
    have FA : Four w3 w1.heap.size x0 y0 x1 y1 := Four.keep (((Four.new w1 34 x0 y0 x1 y1).alloc _).alloc _) hb3 (by simp; omega)
    have PQ : PathAt w3 (some ⟨w1.heap.size + 1 + 1, 0, none⟩) (rect x0 y0 x1 y1) := by
      have h := rect_new ((w1.alloc (.cells #[.int .i64 x0, .int .i64 y0, .int .i64 x1, .int .i64 y1] 34)).alloc (.cells #[.int .i64 u0, .int .i64 v0, .int .i64 u1, .int .i64 v1] 34)) 30 x0 y0 x1 y1
      simp only [World.size_alloc] at h
      exact h.on (by simpa only [World.size_alloc] using hb3)
    have hB3 := on_of (W := w) (by go_grown) hb3
    have hs3 : w1.heap.size + 1 + 1 < w3.heap.size := by have := hb3.size; simp at this; omega
    have H3 := Lib.hid (And.intro FA (And.intro PQ hB3))
    clear FA PQ hB3 hb3
    go_wp2_with fail
    refine gen_world (fun W => Four W w1.heap.size x0 y0 x1 y1 ∧ Four W w3.heap.size a b c d ∧ PathAt W (some ⟨w1.heap.size + 1 + 1, 0, none⟩) (rect x0 y0 x1 y1) ∧ Below w.heap.size w W ∧ w3.heap.size < W.heap.size) ⟨H3.out.1.alloc _, Four.new _ _ _ _ _ _, H3.out.2.1.on ((Below.refl _ _).alloc (Nat.le_refl _) _), H3.out.2.2.alloc (H3.out.2.2.size) _, by simp⟩ ?_
    rintro W ⟨FA, FM, PQ, hW, hg⟩
    obtain ⟨v0, v1, v2, v3, vf⟩ := FA
    obtain ⟨p0, p1, p2, p3, pf⟩ := FM
    have h1 : w1.heap.size < W.heap.size := by omega
    have HC := Lib.hid (fun V (hV : Below W.heap.size W V) => cnt_at _ x0 y0 x1 y1 n V (PQ.on hV) HV.out.2.1)
    have HA := Lib.hid (fun V (hV : Below W.heap.size W V) => ar_at _ x0 y0 x1 y1 (2 * t) V (PQ.on hV) HV.out.2.2.1)
    have HW := Lib.hid hW
    have hw2 : IntKind.i64.wrap (2 * t) = 2 * t := IntWalk.i64_in _ (by omega)
    clear vf pf PQ hW
    go_cut [2] (fun s2 wx => s2 = .bool true ∧ Below W.heap.size W wx)
    case first =>
      go_region_held3 (fun w' => (∀ b o, b < W.heap.size → w'.cell? ⟨b, o, none⟩ = W.cell? ⟨b, o, none⟩) ∧ Below W.heap.size W w') ((refine keepS ?_; go_grown; done)) (first
        | (go_at_call 18; (with_reducible refine (HC.out _ (by first | exact hB | exact Below.refl _ _ | go_grown)).mono ?_); rintro e w' ⟨rfl, hb⟩; have hB := on_of (W := W) (by go_grown) hb; obtain ⟨hc, hf, hz⟩ := bcell3 hB; have hs := hB.size; clear hb)
        | (go_at_call 14; (with_reducible refine (HA.out _ (by first | exact hB | exact Below.refl _ _ | go_grown)).mono ?_); rintro e w' ⟨rfl, hb⟩; have hB := on_of (W := W) (by go_grown) hb; obtain ⟨hc, hf, hz⟩ := bcell3 hB; have hs := hB.size; clear hb)
        | (go_at_call 19; (first | (with_reducible refine (dots_n _ _ _ _ _ _ HV.out.2.2.2.1).mono ?_) | (with_reducible refine (dots_n _ _ _ _ _ _ HV.out.2.2.2.2).mono ?_)); rintro e w' ⟨rfl, hb⟩; have hB := on_of (W := W) (by go_grown) hb; obtain ⟨hc, hf, hz⟩ := bcell3 hB; have hs := hB.size; clear hb)
        | (go_at_call 20; (with_reducible refine (dots_m _ _ _ _ _ _ HV.out.2.2.2.2).mono ?_); rintro e w' ⟨rfl, hb⟩; have hB := on_of (W := W) (by go_grown) hb; obtain ⟨hc, hf, hz⟩ := bcell3 hB; have hs := hB.size; clear hb))
      all_goals (go_wp2_with fail; go_meet; exact ⟨rfl, by go_grown⟩)
    case rest =>
      obtain ⟨rfl, hx⟩ := hcut
      have HX := Lib.hid (on_of HW.out hx)
      clear hx
      go_wp2
      go_ret
      exact ⟨rfl, HX.out⟩

/-! ### THE ROW's STEP -/
set_option maxRecDepth 100000 in
theorem lifted (os : Os) (started : os.Started) (H : Type) (enc : TypeId × Value → H) :
    ReturnsInHanded {} Try.checked os 4 .any (Rows.fnRectanglesSpec.pre6 enc Try.prog Try.f4 Rows.fnRectanglesRow.domain false) (Rows.fnRectanglesSpec.post enc Try.prog Try.f4 false true false false) := by
  refine returnsInHanded_of_change (C := Try.checked) own started (by kernel_rfl) Try.func4
    (ChangeSpec.witness6 (enc := enc) (C := Try.checked) false ⟨#[], #[.slice none 0 0], []⟩ 8 (by kernel_rfl) (by kernel_rfl) (by kernel_rfl) (by kernel_rfl)) ?_
  intro W base args ds gs before hval0 hW hcnd _
  have hval : ∀ (j : Nat) t v, Try.f4.params[j]? = some t → args[j]? = some v → Value.okWide Try.prog W .any base t v := hval0
  have hW' := hW
  obtain ⟨p, q, hA0, hV, rfl, hfz, hnd⟩ := hW
  have hA : DataW.TrodAll enc Try.prog W 0 (fun _ => true) true Try.f4.params.toList args.toList ds p := hA0
  rw [Try.params4] at hA hval
  obtain ⟨v0, vs0, d0, ds0, p0, q0, hargs, rfl, rfl, h0, r0⟩ := trodAll_cons hA
  obtain ⟨rfl, rfl, rfl⟩ := trodAll_nil r0
  obtain rfl : args = #[v0] := by cases args; simp_all
  obtain ⟨rfl, rfl⟩ := trodVars_none hV
  have k0 := h0
  have lt0 : ∀ x ∈ p0, x.block < W.heap.size := by obtain ⟨m, hm⟩ := k0; exact DataW.trod_lt m _ _ _ hm
  obtain ⟨a0, l0, p0c, rfl⟩ := okWide_slice Try.underlying22 (hval 0 22 v0 rfl rfl)
  obtain ⟨z0, wa0⟩ : ∃ zs, IsRow .u8 W a0 l0 p0c zs := by
    obtain ⟨fuel, hf⟩ := h0
    rcases open_ints Try.underlying22 Try.underlying5 (by kernel_rfl) hf with ⟨hcs, _⟩ | ⟨x, l, c, zs, hcs, _, hl, hm, hz, _, hcell, hwz⟩
    · simp [Value.cells] at hcs
      obtain ⟨rfl, rfl, rfl⟩ := hcs
      exact ⟨[], .inl ⟨rfl, rfl, rfl, rfl⟩⟩
    · simp [Value.cells] at hcs
      obtain ⟨rfl, rfl, rfl⟩ := hcs
      exact ⟨zs, .inr ⟨_, rfl, hl, hm, by simpa using hz, hcell, hwz⟩⟩
  clear hA0 hval0
  refine (walk W a0 l0 p0c z0 wa0).mono fun e W' ⟨he, bel⟩ => ?_
  subst he
  exact ⟨_, rfl, _, _, _, [], _, [], hW', trodAll_mk1 (shut_bool Try.underlying4 _), (trodAll_cons_mk (Below.trod laidOut (by kernel_rfl) (of_decide_eq_true (by kernel_rfl)) k0 bel lt0) trodAll_mk0), rfl, bel.frame _, fun h => by cases h⟩

theorem over : Rows.fnRectanglesRow.holds Try.pinned (OpenSpec.ofChange Rows.fnRectanglesSpec) :=
  OpenClaim.holds_of_wide 4 Try.f4 rfl rfl rfl rfl rfl rfl rfl ⟨rfl, rfl, rfl, rfl, rfl⟩ rfl rfl rfl rfl rfl (by kernel_rfl) Try.func4 (by kernel_rfl)
    (of_decide_eq_true (by kernel_rfl)) (by unfold Func.isWrapper; first | (rw [if_pos (by decide +kernel)]; kernel_rfl) | (rw [if_neg (by decide +kernel)]; exact ⟨rfl, rfl⟩))
    (fun os started H enc _ => lifted os started H enc)

/-- ████ THE STATEMENT ████ -/
theorem proved : Rows.FnRectanglesSaid := over
#print axioms proved
end Go.Proofs.Ytjmcpijmhfdbiaa.fnRectangles
