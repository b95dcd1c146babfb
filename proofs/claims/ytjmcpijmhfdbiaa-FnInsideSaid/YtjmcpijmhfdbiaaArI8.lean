/-
  AreaTwice (program): what the call returns for any path.
-/
import Derived.Test.YtjmcpijmhfdbiaaAr8
import Derived.Test.YtjmcpijmhfdbiaaSdI8
import Derived.Test.YtjmcpijmhfdbiaaPti8
namespace Go.Proofs.Ytjmcpijmhfdbiaa.Ins
open Go.ChangeShapes Go.WideShapes Go.ChangeAt Go.RowKit
open Kit Point Slabs
set_option linter.unusedVariables false
set_option linter.unusedSimpArgs false
set_option linter.unnecessarySimpa false

set_option maxHeartbeats 2000000 in
theorem area_impl (w : World) (a : Option Addr) (c : Nat) (l : List Pt) (hn : l.length ≤ 1048576) (h : PathAt w a l) :
    Calls Try.prog 14 #[.slice a l.length c] w fun e w' => e = .returned (.int .i64 (arV l)) ∧ Below w.heap.size w w' := by
  have H := Lib.hid (And.intro h hn)
  clear h hn
  cases hpb : pathB l
  · have HV := Lib.hid (show arV l = 0 by simp [arV, hpb])
    go_enter Try.func14, Try.ntmps14
    go_wp2_with (go_at_call 35; refine (path_impl _ _ _ _ H.out.2 H.out.1).mono ?_; rintro e w' ⟨rfl, hb⟩)
    go_ret
    exact ⟨ret_int HV.out.symm, hb⟩
  · have HV := Lib.hid (show arV l = arP l by simp [arV, hpb])
    have h8 : l.length ≤ 8 := by simp only [pathB, Bool.and_eq_true, decide_eq_true_eq] at hpb; exact hpb.1
    have hpts : ptsB l = true := by simp only [pathB, Bool.and_eq_true] at hpb; exact hpb.2
    have HO := Lib.hid hpts
    clear hpts
    go_enter Try.func14, Try.ntmps14
    go_wp2_with (go_at_call 35; refine (path_impl _ _ _ _ H.out.2 H.out.1).mono ?_; rintro e w1 ⟨rfl, hb⟩)
    (refine (sd_impl _ _ _ _ H.out.2 (H.out.1.on hb)).mono ?_; rintro e w3 ⟨v, rfl, hS, hb2⟩)
    have hB3 := hb.trans (hb2.mono hb.size)
    have HB3 := Lib.hid hB3
    clear hb hb2 hB3 hpb
    obtain ⟨n, hN⟩ : ∃ n, l.length = n := ⟨_, rfl⟩
    have HN := Lib.hid hN
    have hn := H.out.2
    rw [hN] at hS hn h8 ⊢
    clear hN
    rcases hS.writes with ⟨h0, a1, c1, rfl⟩ | ⟨g, c1, rfl, _, W1⟩
    · subst h0
      clear hS
      go_wp2
      go_rounds 1
      go_ret
      refine ⟨ret_int ?_, HB3.out⟩
      rw [HV.out, List.eq_nil_of_length_eq_zero HN.out]; rfl
    · have HW := Lib.hid W1
      clear hS W1
      go_wp2
      go_loopw [3, 12] (fun v3 v12 wr => ∃ k : Nat, k ≤ n ∧ v12 = .int .i64 (k : Int) ∧ v3 = .int .i64 (arK l k) ∧ Below w3.heap.size w3 wr) (fun v3 v12 _ => n - (intOf v12).toNat)
      case atStart => exact ⟨0, Nat.zero_le _, rfl, by rw [arK_zero], Below.refl _ _⟩
      case round =>
        obtain ⟨k, hk, rfl, rfl, hB⟩ := hrel
        by_cases hlt : k < n
        · have W2 := HW.out.on hB
          obtain ⟨m, hm⟩ : ∃ m, (k + 1) % n = m := ⟨_, rfl⟩
          have hmn : m < n := by rw [← hm]; exact Nat.mod_lt _ (by omega)
          have hp1 := ptsB_at HO.out (k := k) (by rw [HN.out]; exact hlt)
          have hp2 := ptsB_at HO.out (k := m) (by rw [HN.out]; exact hmn)
          have hs := arK_succ l (k := k) (by rw [HN.out]; exact hlt)
          have hbd := arK_bd HO.out k (by rw [HN.out]; exact hk)
          have hf : sdF l k = [.int .i64 (pX l k), .int .i64 (pY l k), .int .i64 (pX l m), .int .i64 (pY l m)] := by unfold sdF; rw [HN.out, hm]
          rw [HN.out, hm] at hs
          generalize pX l k = ax at hf hp1 hs
          generalize pY l k = ay at hf hp1 hs
          generalize pX l m = bx at hf hp2 hs
          generalize pY l m = b1 at hf hp2 hs
          simp only [pokB, Bool.and_eq_true] at hp1 hp2
          have a1 := inB_true hp1.1; have a2 := inB_true hp1.2; have a3 := inB_true hp2.1; have a4 := inB_true hp2.2
          have m1 := mul_bd (A := 200) (B := 200) a1 a4
          have m2 := mul_bd (A := 200) (B := 200) a3 a2
          obtain ⟨q1, q2, q3, q4⟩ := cells4_of W2.cell hlt hf
          have hgl := W2.here
          have hs' : arK l (k + 1) = arK l k + (ax * b1 - bx * ay) := by rw [hs]; omega
          have HS := Lib.hid hs'
          have HB := Lib.hid hB
          have hsz := hB.size
          clear hs hs' hp1 hp2 hf W2 hm hB a1 a2 a3 a4
          generalize arK l k = s at *
          have i0 : (0 : Int) ≤ (k : Int) := by omega
          have i1 : (k : Int) < (n : Int) := by omega
          go_wp2_with fail
          go_roundw
          case rel => exact ⟨k + 1, by omega, by go_num, by rw [HS.out], HB.out.trans (by go_grown)⟩
          case measure => simp [intOf]; omega
        · obtain rfl : k = n := by omega
          have HB := Lib.hid hB
          clear hB
          go_wp2
          go_ret
          exact ⟨ret_int (by rw [HV.out, ← HN.out, arK_all]), HB3.out.trans (HB.out.mono HB3.out.size)⟩
end Go.Proofs.Ytjmcpijmhfdbiaa.Ins
