/-
  InsidePath (program): what the call returns for any path and any center.
-/
import Derived.Test.YtccjfljmmdlngaaInp8
import Derived.Test.YtccjfljmmdlngaaPsI8
import Derived.Test.YtccjfljmmdlngaaSdI8
import Derived.Test.YtccjfljmmdlngaaPti8
namespace Go.Proofs.Ytccjfljmmdlngaa.Ins
open Go.ChangeShapes Go.WideShapes Go.ChangeAt Go.RowKit
open Kit Point Slabs
set_option linter.unusedVariables false
set_option linter.unusedSimpArgs false
set_option linter.unnecessarySimpa false

set_option maxHeartbeats 2000000 in
theorem inp_impl (w : World) (a : Option Addr) (c : Nat) (l : List Pt) (x y : Int) (hn : l.length ≤ 1048576) (h : PathAt w a l) :
    Calls Try.prog 14 #[.slice a l.length c, .int .i64 x, .int .i64 y] w fun e w' => e = .returned (.bool (inpB l x y)) ∧ Below w.heap.size w w' := by
  have H := Lib.hid (And.intro h hn)
  clear h hn
  rcases three3 (pathB l) (inB x) (inB y) with h1 | ⟨h1, h2⟩ | ⟨h1, h2, h3⟩ | ⟨h1, h2, h3⟩
  iterate 3
    · go_enter Try.func14, Try.ntmps14
      go_wp2_with (first
        | (go_at_call 38; refine (path_impl _ _ _ _ H.out.2 H.out.1).mono ?_; rintro e w' ⟨rfl, hb⟩)
        | (go_at_call 39; refine (coord_any _ _).mono ?_; rintro e w' ⟨rfl, rfl⟩))
      go_ret
      exact ⟨ret_bool (by simp [inpB, *]), by assumption⟩
  · have hi : inpB l x y = insP l x y := by simp [inpB, h1, h2, h3]
    have hpts : ptsB l = true := by simp only [pathB, Bool.and_eq_true] at h1; exact h1.2
    have HK := Lib.hid (And.intro hi (And.intro hpts (And.intro h2 h3)))
    clear hi hpts
    go_enter Try.func14, Try.ntmps14
    go_wp2_with (first
      | (go_at_call 38; refine (path_impl _ _ _ _ H.out.2 H.out.1).mono ?_; rintro e w1 ⟨rfl, hb⟩)
      | (go_at_call 39; refine (coord_any _ _).mono ?_; rintro e w2 ⟨rfl, rfl⟩))
    (refine (sd_impl _ _ _ _ H.out.2 (H.out.1.on hb)).mono ?_; rintro e w3 ⟨v, rfl, hS, hb2⟩)
    have hB3 := hb.trans (hb2.mono hb.size)
    have HB3 := Lib.hid hB3
    clear hb hb2 hB3 h1
    obtain ⟨n, hN⟩ : ∃ n, l.length = n := ⟨_, rfl⟩
    have HN := Lib.hid hN
    have hn := H.out.2
    rw [hN] at hS hn ⊢
    clear hN
    rcases hS.writes with ⟨h0, a1, c1, rfl⟩ | ⟨g, c1, rfl, _, W1⟩
    · subst h0
      clear hS
      go_wp2
      go_rounds 1
      go_ret
      refine ⟨ret_bool ?_, HB3.out⟩
      rw [HK.out.1, List.eq_nil_of_length_eq_zero HN.out]; rfl
    · have HW := Lib.hid W1
      clear hS W1
      go_wp2
      go_loopw [7, 26] (fun v7 v26 wr => ∃ k : Nat, k ≤ n ∧ v26 = .int .i64 (k : Int) ∧ v7 = .bool (insK l x y k) ∧ Below w3.heap.size w3 wr) (fun v7 v26 _ => n - (intOf v26).toNat)
      case atStart => exact ⟨0, Nat.zero_le _, rfl, by rw [insK_zero], Below.refl _ _⟩
      case round =>
        obtain ⟨k, hk, rfl, rfl, hB⟩ := hrel
        by_cases hlt : k < n
        · have W2 := HW.out.on hB
          obtain ⟨m, hm⟩ : ∃ m, (k + 1) % n = m := ⟨_, rfl⟩
          have hmn : m < n := by rw [← hm]; exact Nat.mod_lt _ (by omega)
          have hp1 := ptsB_at HK.out.2.1 (k := k) (by rw [HN.out]; exact hlt)
          have hp2 := ptsB_at HK.out.2.1 (k := m) (by rw [HN.out]; exact hmn)
          have hs := insK_succ l x y (k := k) (by rw [HN.out]; exact hlt)
          have hf : sdF l k = [.int .i64 (pX l k), .int .i64 (pY l k), .int .i64 (pX l m), .int .i64 (pY l m)] := by unfold sdF; rw [HN.out, hm]
          rw [HN.out, hm] at hs
          generalize pX l k = ax at hf hp1 hs
          generalize pY l k = ay at hf hp1 hs
          generalize pX l m = bx at hf hp2 hs
          generalize pY l m = b1 at hf hp2 hs
          obtain ⟨q1, q2, q3, q4⟩ := cells4_of W2.cell hlt hf
          have hgl := W2.here
          have HS := Lib.hid hs
          have HQ := Lib.hid (And.intro hp1 hp2)
          have HB := Lib.hid hB
          clear hs hp1 hp2 hf W2 hm hB
          have i0 : (0 : Int) ≤ (k : Int) := by omega
          have i1 : (k : Int) < (n : Int) := by omega
          go_wp2_with fail
          ((with_reducible refine (ps_impl ax ay bx b1 x y _ HQ.out.1 HQ.out.2 HK.out.2.2.1 HK.out.2.2.2).mono ?_); rintro e w4 ⟨rfl, bb⟩)
          have hB4 := on_of (HB.out.alloc HB.out.size _) bb
          have HB4 := Lib.hid hB4
          clear hB4 bb q1 q2 q3 q4
          have hpc := ps_crs ax ay bx b1 x y
          rw [← hpc] at HS
          clear hpc
          generalize psV ax ay bx b1 x y = r at *
          by_cases hr : r = 2
          · subst hr
            have e : insK l x y (k + 1) = !(insK l x y k) := by rw [HS.out]; simp
            have HE := Lib.hid e
            clear e HS
            generalize insK l x y k = b at *
            go_wp2
            go_roundw
            case rel => exact ⟨k + 1, by omega, by go_num, by rw [HE.out], HB4.out⟩
            case measure => simp [intOf]; omega
          · have e := HS.out
            simp only [hr, decide_false, Bool.bne_false] at e
            have HE := Lib.hid e
            clear e HS
            go_wp2
            go_roundw
            case rel => exact ⟨k + 1, by omega, by go_num, by rw [HE.out], HB4.out⟩
            case measure => simp [intOf]; omega
        · obtain rfl : k = n := by omega
          have HB := Lib.hid hB
          clear hB
          go_wp2
          go_ret
          exact ⟨ret_bool (by rw [HK.out.1, ← HN.out, insK_all]), HB3.out.trans (HB.out.mono HB3.out.size)⟩
end Go.Proofs.Ytccjfljmmdlngaa.Ins
