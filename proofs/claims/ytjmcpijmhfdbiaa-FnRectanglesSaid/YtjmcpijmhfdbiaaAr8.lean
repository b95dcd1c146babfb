/-
  AreaTwice (model): what the call returns for any path.
-/
import Derived.Test.YtjmcpijmhfdbiaaIns8
namespace Go.Proofs.Ytjmcpijmhfdbiaa.Ins
open Go.ChangeShapes Go.WideShapes Go.ChangeAt Go.RowKit
open Kit Point
set_option linter.unusedVariables false
set_option linter.unusedSimpArgs false
set_option linter.unnecessarySimpa false
/-- Twice the area of the first k sides. -/
def arK (l : List Pt) (k : Nat) : Int := (((sides l).take k).map fun s => crA s.1 s.2).sum
theorem arK_zero (l : List Pt) : arK l 0 = 0 := by simp [arK]
theorem arK_all (l : List Pt) : arK l l.length = arP l := by
  unfold arK arP; rw [List.take_of_length_le (by rw [sides_len]; omega)]
theorem arK_succ (l : List Pt) {k : Nat} (h : k < l.length) :
    arK l (k + 1) = arK l k + pX l k * pY l ((k + 1) % l.length) - pX l ((k + 1) % l.length) * pY l k := by
  unfold arK
  rw [List.take_add_one, sides_get l k h, List.map_append, List.sum_append]
  rw [getp l h, getp l (Nat.mod_lt (k + 1) (by omega))]
  simp [crA]; omega
theorem arK_bd {l : List Pt} (h : ptsB l = true) : ∀ k, k ≤ l.length → -(80000 * (k : Int)) ≤ arK l k ∧ arK l k ≤ 80000 * (k : Int)
  | 0, _ => by rw [arK_zero]; omega
  | k + 1, hk => by
    have ih := arK_bd h k (by omega)
    rw [arK_succ l (by omega)]
    have p1 := ptsB_at h (k := k) (by omega)
    have p2 := ptsB_at h (k := (k + 1) % l.length) (Nat.mod_lt _ (by omega))
    simp only [pokB, Bool.and_eq_true] at p1 p2
    have a1 := inB_true p1.1; have a2 := inB_true p1.2; have a3 := inB_true p2.1; have a4 := inB_true p2.2
    have m1 := mul_bd (A := 200) (B := 200) a1 a4
    have m2 := mul_bd (A := 200) (B := 200) a3 a2
    omega
/-- The answer of AreaTwice. -/
def arV (l : List Pt) : Int := if pathB l = true then arP l else 0
set_option maxHeartbeats 1000000 in
theorem area_spec (w : World) (a : Option Addr) (c : Nat) (l : List Pt) (hn : l.length ≤ 1048576) (h : PathAt w a l) :
    Calls Try.prog 15 #[.slice a l.length c] w fun e w' => e = .returned (.int .i64 (arV l)) ∧ Below w.heap.size w w' := by
  have HP := Lib.hid h
  obtain ⟨n, hN⟩ : ∃ n, l.length = n := ⟨_, rfl⟩
  have H := Lib.hid (And.intro h (And.intro hn hN))
  rw [hN] at hn ⊢
  clear h
  cases hpb : pathB l
  · have HV := Lib.hid (show arV l = 0 by simp [arV, hpb])
    have HB := Lib.hid hpb
    clear hpb hN
    go_enter Try.func15, Try.ntmps15
    go_wp2_with (go_at_call 38; rw [← H.out.2.2]; refine (pts_spec _ _ _ _ H.out.2.1 H.out.1).mono ?_; rintro e w' ⟨rfl, hb⟩; rw [HB.out, H.out.2.2])
    go_ret
    exact ⟨ret_int HV.out.symm, hb⟩
  · have HV := Lib.hid (show arV l = arP l by simp [arV, hpb])
    have HB := Lib.hid hpb
    simp only [pathB, Bool.and_eq_true, decide_eq_true_eq] at hpb
    have h8 : n ≤ 8 := by omega
    have HO := Lib.hid hpb.2
    clear hpb hN
    go_enter Try.func15, Try.ntmps15
    go_wp2_with (go_at_call 38; rw [← H.out.2.2]; refine (pts_spec _ _ _ _ H.out.2.1 H.out.1).mono ?_; rintro e w' ⟨rfl, hb⟩; rw [HB.out, H.out.2.2])
    go_loopw [3, 4] (fun v3 v4 wr => ∃ k : Nat, k ≤ n ∧ v4 = .int .i64 (k : Int) ∧ v3 = .int .i64 (arK l k) ∧ Below w.heap.size w wr) (fun v3 v4 _ => n - (intOf v4).toNat)
    case atStart => exact ⟨0, Nat.zero_le _, rfl, by rw [arK_zero], hb⟩
    case round =>
      obtain ⟨k, hk, rfl, rfl, hB⟩ := hrel
      by_cases hlt : k < n
      · have hP := HP.out.on hB
        rcases hP with he | ⟨g, rfl, hlg, hc⟩
        · have := H.out.2.2; rw [he] at this; simp at this; omega
        · obtain ⟨m, hm⟩ : ∃ m, (k + 1) % n = m := ⟨_, rfl⟩
          have hmn : m < n := by rw [← hm]; exact Nat.mod_lt _ (by omega)
          obtain ⟨q1, q2⟩ := hc k (by rw [H.out.2.2]; exact hlt)
          obtain ⟨q3, q4⟩ := hc m (by rw [H.out.2.2]; exact hmn)
          have hp1 := ptsB_at HO.out (k := k) (by rw [H.out.2.2]; exact hlt)
          have hp2 := ptsB_at HO.out (k := m) (by rw [H.out.2.2]; exact hmn)
          have hs := arK_succ l (k := k) (by rw [H.out.2.2]; exact hlt)
          have hbd := arK_bd HO.out k (by rw [H.out.2.2]; exact hk)
          rw [H.out.2.2, hm] at hs
          generalize pX l k = ax at q1 hp1 hs
          generalize pY l k = ay at q2 hp1 hs
          generalize pX l m = bx at q3 hp2 hs
          generalize pY l m = b1 at q4 hp2 hs
          simp only [pokB, Bool.and_eq_true] at hp1 hp2
          have a1 := inB_true hp1.1; have a2 := inB_true hp1.2; have a3 := inB_true hp2.1; have a4 := inB_true hp2.2
          have m1 := mul_bd (A := 200) (B := 200) a1 a4
          have m2 := mul_bd (A := 200) (B := 200) a3 a2
          have HS := Lib.hid hs
          clear hs hp1 hp2 hc a1 a2 a3 a4
          generalize arK l k = s at *
          have i0 : (0 : Int) ≤ (k : Int) := by omega
          have i1 : (k : Int) < (n : Int) := by omega
          have i2 : (0 : Int) ≤ (m : Int) := by omega
          have i3 : (m : Int) < (n : Int) := by omega
          have hn0 : ¬ n = 0 := by omega
          have j2 : ((k : Int) + 1).tmod (n : Int) = (m : Int) := by
            rw [← hm, show ((k : Int) + 1) = ((k + 1 : Nat) : Int) by omega, Int.ofNat_tmod]
          clear hm
          have hsz : w.heap.size ≤ wr.heap.size := hB.size
          go_wp2_with fail
          go_roundw
          case rel => exact ⟨k + 1, by omega, by go_num, by rw [HS.out], by go_grown⟩
          case measure => simp [intOf]; omega
      · obtain rfl : k = n := by omega
        go_wp2
        go_ret
        exact ⟨ret_int (by rw [HV.out, ← H.out.2.2, arK_all]), hB⟩
end Go.Proofs.Ytjmcpijmhfdbiaa.Ins
