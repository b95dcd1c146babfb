/-
  CountInside (model): what the call returns for any path.
-/
import Derived.Test.YtjmcpijmhfdbiaaInp8
import Derived.Test.YtjmcpijmhfdbiaaRc8
namespace Go.Proofs.Ytjmcpijmhfdbiaa.Ins
open Go.ChangeShapes Go.WideShapes Go.ChangeAt Go.RowKit
open Kit Point
set_option linter.unusedVariables false
set_option linter.unusedSimpArgs false
set_option linter.unnecessarySimpa false
theorem cnt_le (f : Nat → Bool) : ∀ n, cnt f n ≤ n
  | 0 => by simp [cnt]
  | n + 1 => by have := cnt_le f n; simp only [cnt]; split <;> omega
theorem cnt2_le (f : Nat → Nat → Bool) (m : Nat) : ∀ n, cnt2 f m n ≤ n * m
  | 0 => by simp [cnt2]
  | n + 1 => by have := cnt2_le f m n; have := cnt_le (f n) m; simp only [cnt2, Nat.add_mul]; omega
/-- The answer of CountInside. -/
def cntV (l : List Pt) : Nat := cnt2 (fun y x => inpB l (x : Int) (y : Int)) 32 32
set_option maxHeartbeats 1000000 in
theorem count_spec (w : World) (a : Option Addr) (c : Nat) (l : List Pt) (hn : l.length ≤ 1048576) (h : PathAt w a l) :
    Calls Try.prog 25 #[.slice a l.length c] w fun e w' => e = .returned (.int .i64 ((cntV l : Nat) : Int)) ∧ Below w.heap.size w w' := by
  have H := Lib.hid (And.intro h (And.intro hn (Eq.refl (cntV l))))
  obtain ⟨f, hf⟩ : ∃ f : Nat → Nat → Bool, (fun (y x : Nat) => inpB l (x : Int) (y : Int)) = f := ⟨_, rfl⟩
  have hv : cntV l = cnt2 f 32 32 := by unfold cntV; rw [hf]
  have hfe : ∀ x y : Nat, inpB l (x : Int) (y : Int) = f y x := fun x y => congrFun (congrFun hf y) x
  have HF := Lib.hid (And.intro hv hfe)
  clear h hn hf hv hfe
  go_enter Try.func25, Try.ntmps25
  go_wp2
  go_loopw [3, 4, 5] (fun v3 v4 v5 wr => ∃ y : Nat, y ≤ 32 ∧ v4 = .int .i64 (y : Int) ∧ v3 = .int .i64 ((cnt2 f 32 y : Nat) : Int) ∧ Below w.heap.size w wr) (fun v3 v4 v5 _ => 32 - (intOf v4).toNat)
  case atStart => exact ⟨0, Nat.zero_le _, rfl, by simp [cnt2], Below.refl _ _⟩
  case round =>
    obtain ⟨y, hy, rfl, rfl, hB⟩ := hrel
    have b1 := cnt2_le f 32 y
    have hcs : cnt2 f 32 (y + 1) = cnt2 f 32 y + cnt (f y) 32 := rfl
    by_cases hlt : y < 32
    · have i1 : (y : Int) < 32 := by omega
      have HB := Lib.hid hB
      have HC := Lib.hid hcs
      clear hB hcs
      generalize cnt2 f 32 y = s at *
      go_wp2
      go_loopw [3, 5] (fun v3 v5 wq => ∃ x : Nat, x ≤ 32 ∧ v5 = .int .i64 (x : Int) ∧ v3 = .int .i64 ((s + cnt (f y) x : Nat) : Int) ∧ Below w.heap.size w wq) (fun v3 v5 _ => 32 - (intOf v5).toNat)
      case atStart => exact ⟨0, Nat.zero_le _, rfl, by simp [cnt], HB.out⟩
      case round =>
        obtain ⟨x, hx, rfl, rfl, hB⟩ := hrel
        by_cases hlx : x < 32
        · have i2 : (x : Int) < 32 := by omega
          have b2 := cnt_le (f y) x
          have hcx : cnt (f y) (x + 1) = cnt (f y) x + (if f y x = true then 1 else 0) := rfl
          have HB1 := Lib.hid hB
          have HX := Lib.hid hcx
          clear hB hcx
          generalize cnt (f y) x = t at *
          go_wp2_with fail
          ((with_reducible refine (inp_spec _ _ _ _ _ _ H.out.2.1 (H.out.1.on HB1.out)).mono ?_); rintro e w1 ⟨rfl, bb⟩)
          rw [HF.out.2]
          have HB2 := Lib.hid (on_of HB1.out bb)
          clear bb
          generalize f y x = r at *
          cases r
          · go_wp2
            go_roundw
            case rel => exact ⟨x + 1, by omega, by go_num, by rw [HX.out]; simp, HB2.out⟩
            case measure => simp [intOf]; omega
          · go_wp2
            go_roundw
            case rel => exact ⟨x + 1, by omega, by go_num, by rw [HX.out]; go_num, HB2.out⟩
            case measure => simp [intOf]; omega
        · obtain rfl : x = 32 := by omega
          have HB1 := Lib.hid hB
          clear hB
          go_wp2
          go_roundw
          case rel => exact ⟨y + 1, by omega, by go_num, by rw [HC.out], HB1.out⟩
          case measure => simp [intOf]; omega
    · obtain rfl : y = 32 := by omega
      have HB := Lib.hid hB
      clear hB
      go_wp2
      go_ret
      exact ⟨ret_int (by rw [HF.out.1]), HB.out⟩
end Go.Proofs.Ytjmcpijmhfdbiaa.Ins
