/-
  SpanDots (program and model): what the call returns for any list of spans.
-/
import Derived.Test.YtccjfljmmdlngaaSm9
import Derived.Laws.BitsLemmas
namespace Go.Proofs.Ytccjfljmmdlngaa.Ins
open Go.ChangeShapes Go.WideShapes Go.ChangeAt Go.RowKit
open Kit Point
set_option linter.unusedVariables false
set_option linter.unusedSimpArgs false
set_option linter.unnecessarySimpa false
/-- The columns of the first k spans, in 64 bits. -/
def dtK (l : List Pt) : Nat → Int
  | 0 => 0
  | k + 1 => IntKind.i64.wrap (dtK l k + IntKind.i64.wrap (pY l k - pX l k))
/-- The answer of SpanDots. -/
def dtV (l : List Pt) : Int := if spB l then dtK l l.length else 0
theorem wrap_in (x y : Int) : IntKind.i64.wrap (x + IntKind.i64.wrap y) = IntKind.i64.wrap (x + y) := by
  simp only [IntKind.wrap_i64]; omega
theorem wrap_in2 (x y z : Int) : IntKind.i64.wrap (IntKind.i64.wrap (x + y) - z) = IntKind.i64.wrap (x + IntKind.i64.wrap (y - z)) := by
  simp only [IntKind.wrap_i64]; omega
theorem dt_bad {l : List Pt} (h : spB l = false) : dtV l = 0 := by simp [dtV, h]
theorem dt_good {l : List Pt} (h : spB l = true) : dtV l = dtK l l.length := by simp [dtV, h]
set_option maxRecDepth 100000 in
set_option maxHeartbeats 1000000 in
theorem dots_impl (w : World) (a : Option Addr) (c : Nat) (l : List Pt) (hn : l.length ≤ 1048576) (h : PathAt w a l) :
    Calls Try.prog 18 #[.slice a l.length c] w fun e w' => e = .returned (.int .i64 (dtV l)) ∧ Below w.heap.size w w' := by
  have hok := sok_impl w a c l hn h
  have H := Lib.hid (And.intro h hn)
  obtain ⟨n, hN⟩ : ∃ n, l.length = n := ⟨_, rfl⟩
  have HN := Lib.hid hN
  rw [hN] at hn hok ⊢
  clear hN
  cases hs : spB l
  · have HV := Lib.hid (dt_bad hs)
    rw [hs] at hok
    have HK := Lib.hid hok
    clear hs hok h
    go_enter Try.func18, Try.ntmps18
    go_wp2_with fail
    ((with_reducible refine HK.out.mono ?_); rintro e w1 ⟨rfl, bb⟩)
    go_wp2
    go_ret
    exact ⟨by rw [HV.out]; rfl, bb⟩
  · have HV := Lib.hid (dt_good hs)
    rw [hs] at hok
    have HK := Lib.hid hok
    clear hs hok
    rcases h with rfl | ⟨g, rfl, hg, _⟩
    · obtain rfl : 0 = n := HN.out
      go_enter Try.func18, Try.ntmps18
      go_wp2_with fail
      ((with_reducible refine HK.out.mono ?_); rintro e w1 ⟨rfl, bb⟩)
      go_wp2
      go_rounds 1
      go_ret
      exact ⟨by rw [HV.out]; rfl, bb⟩
    · go_enter Try.func18, Try.ntmps18
      go_wp2_with fail
      ((with_reducible refine HK.out.mono ?_); rintro e w1 ⟨rfl, bb⟩)
      have HB1 := Lib.hid bb
      clear bb
      go_wp2
      go_loopw [3, 11] (fun v3 v11 wr => ∃ k : Nat, v11 = .int .i64 (k : Int) ∧ v3 = .int .i64 (dtK l k) ∧ k ≤ n ∧ Below w.heap.size w wr) (fun v3 v11 _ => n - (intOf v11).toNat)
      case atStart => exact ⟨0, rfl, rfl, Nat.zero_le _, HB1.out⟩
      case round =>
        obtain ⟨k, rfl, rfl, hk, hB⟩ := hrel
        have HB := Lib.hid hB
        by_cases hlt : k < n
        · obtain ⟨hlg, q1, q2⟩ := (H.out.1.on hB).cells (k := k) (by rw [HN.out]; exact hlt)
          have i0 : (0 : Int) ≤ (k : Int) := by omega
          have i1 : (k : Int) < (n : Int) := by omega
          have hd : dtK l (k + 1) = IntKind.i64.wrap (dtK l k + IntKind.i64.wrap (pY l k - pX l k)) := rfl
          obtain ⟨p, hp⟩ : ∃ p, pX l k = p := ⟨_, rfl⟩
          obtain ⟨q, hq⟩ : ∃ q, pY l k = q := ⟨_, rfl⟩
          obtain ⟨s, hs⟩ : ∃ s, dtK l k = s := ⟨_, rfl⟩
          rw [hp, hq, hs] at hd
          rw [hp] at q1; rw [hq] at q2
          rw [hs]
          have HD := Lib.hid hd
          clear hB hp hq hs hd
          go_wp2
          go_roundw
          case rel => exact ⟨k + 1, by go_num, by rw [HD.out]; first | rfl | (simp only [IntKind.wrap_i64, wrap64]), by omega, HB.out.alloc HB.out.size _⟩
          case measure => simp [intOf]; omega
        · obtain rfl : k = n := by omega
          clear hB
          go_wp2
          go_ret
          exact ⟨by rw [HV.out, HN.out]; rfl, HB.out⟩
set_option maxRecDepth 100000 in
set_option maxHeartbeats 2000000 in
theorem dots_spec (w : World) (a : Option Addr) (c : Nat) (l : List Pt) (hn : l.length ≤ 1048576) (h : PathAt w a l) :
    Calls Try.prog 33 #[.slice a l.length c] w fun e w' => e = .returned (.int .i64 (dtV l)) ∧ Below w.heap.size w w' := by
  have hok := fun (W : World) (hW : PathAt W a l) => sok_spec W a c l hn hW
  have H := Lib.hid (And.intro h hn)
  obtain ⟨n, hN⟩ : ∃ n, l.length = n := ⟨_, rfl⟩
  have HN := Lib.hid hN
  rw [hN] at hn hok ⊢
  clear hN
  rcases h with rfl | ⟨g, rfl, hg, _⟩
  · obtain rfl : 0 = n := HN.out
    have hd : dtV [] = 0 := rfl
    have HD := Lib.hid hd
    clear hok hd
    go_enter Try.func33, Try.ntmps33
    go_wp2
    go_rounds 1
    go_ret
    exact ⟨by rw [HD.out]; rfl, Below.refl _ _⟩
  · cases hs : spB l
    · have HV := Lib.hid (dt_bad hs)
      rw [hs] at hok
      have HK := Lib.hid hok
      clear hs hok
      by_cases hn0 : 0 < n
      · have hn0i : (0 : Int) < (n : Int) := by omega
        go_enter Try.func33, Try.ntmps33
        go_wp2
        go_loopw [3, 4] (fun v3 v4 wr => v4 = .int .i64 0 ∧ v3 = .int .i64 0 ∧ Below w.heap.size w wr) (fun _ _ _ => 0)
        case atStart => exact ⟨rfl, rfl, Below.refl _ _⟩
        case round =>
          obtain ⟨rfl, rfl, hB⟩ := hrel
          have HB := Lib.hid hB
          clear hB
          go_wp2_with fail
          ((with_reducible refine (HK.out _ (H.out.1.on HB.out)).mono ?_); rintro e w1 ⟨rfl, bb⟩)
          have HB1 := Lib.hid (on_of HB.out bb)
          clear bb
          go_wp2
          go_ret
          exact ⟨by rw [HV.out]; rfl, HB1.out⟩
      · obtain rfl : n = 0 := by omega
        go_enter Try.func33, Try.ntmps33
        go_wp2
        go_rounds 1
        go_ret
        exact ⟨by rw [HV.out]; rfl, Below.refl _ _⟩
    · have HV := Lib.hid (dt_good hs)
      rw [hs] at hok
      have HK := Lib.hid hok
      clear hs hok
      go_enter Try.func33, Try.ntmps33
      go_wp2
      go_loopw [3, 4] (fun v3 v4 wr => ∃ k : Nat, v4 = .int .i64 (k : Int) ∧ v3 = .int .i64 (dtK l k) ∧ k ≤ n ∧ Below w.heap.size w wr) (fun v3 v4 _ => n - (intOf v4).toNat)
      case atStart => exact ⟨0, rfl, rfl, Nat.zero_le _, Below.refl _ _⟩
      case round =>
        obtain ⟨k, rfl, rfl, hk, hB⟩ := hrel
        have HB := Lib.hid hB
        by_cases hlt : k < n
        · have i0 : (0 : Int) ≤ (k : Int) := by omega
          have i1 : (k : Int) < (n : Int) := by omega
          have hd : dtK l (k + 1) = IntKind.i64.wrap (dtK l k + IntKind.i64.wrap (pY l k - pX l k)) := rfl
          rw [← wrap_in2] at hd
          obtain ⟨p, hp⟩ : ∃ p, pX l k = p := ⟨_, rfl⟩
          obtain ⟨q, hq⟩ : ∃ q, pY l k = q := ⟨_, rfl⟩
          obtain ⟨s, hs⟩ : ∃ s, dtK l k = s := ⟨_, rfl⟩
          rw [hp, hq, hs] at hd
          rw [hs]
          have HD := Lib.hid hd
          have HPQ := Lib.hid (And.intro hp hq)
          clear hB hp hq hs hd
          go_wp2_with fail
          ((with_reducible refine (HK.out _ (H.out.1.on HB.out)).mono ?_); rintro e w1 ⟨rfl, bb⟩)
          have HB1 := Lib.hid (on_of HB.out bb)
          clear bb
          obtain ⟨hlg, q1, q2⟩ := (H.out.1.on HB1.out).cells (k := k) (by rw [HN.out]; exact hlt)
          rw [HPQ.out.1] at q1; rw [HPQ.out.2] at q2
          go_wp2
          go_quiet (fail)
          have HB2 := Lib.hid (drewN_on HB1.out nq)
          clear q1 q2 hlg
          go_wp2
          go_roundw
          case rel => exact ⟨k + 1, by go_num, by rw [HD.out]; first | rfl | (simp only [IntKind.wrap_i64, wrap64]), by omega, HB2.out⟩
          case measure => simp [intOf]; omega
        · obtain rfl : k = n := by omega
          clear hB
          go_wp2
          go_ret
          exact ⟨by rw [HV.out, HN.out]; rfl, HB.out⟩
end Go.Proofs.Ytccjfljmmdlngaa.Ins
