/-
  SpansAt (model): what the call returns for any path and any row.
-/
import Derived.Test.YtccjfljmmdlngaaCl9
import Derived.Test.YtccjfljmmdlngaaPts
import Derived.Test.YtccjfljmmdlngaaMm9
namespace Go.Proofs.Ytccjfljmmdlngaa.Ins
open Go.ChangeShapes Go.WideShapes Go.ChangeAt Go.RowKit
open Kit Point
set_option linter.unusedVariables false
set_option linter.unusedSimpArgs false
set_option linter.unnecessarySimpa false
theorem scn_len (f : Int → Bool) (x0 : Int) : ∀ k : Nat, (scn f x0 k).out.length ≤ k
  | 0 => Nat.le_refl _
  | k + 1 => by
    have := scn_len f x0 k
    show ((scn f x0 k).step f (x0 + (k : Int))).out.length ≤ k + 1
    unfold Scn.step
    dsimp only
    split
    · simp; omega
    · omega
theorem acc_mn (X : Nat → Int) : ∀ n k, k < n → Pts.acc mn X n ≤ X k
  | 0, k, h => by omega
  | n + 1, k, h => by
    show min (Pts.acc mn X n) (X n) ≤ X k
    by_cases e : k = n
    · subst e; omega
    · have := acc_mn X n k (by omega); omega
theorem acc_mx (X : Nat → Int) : ∀ n k, k < n → X k ≤ Pts.acc mx X n
  | 0, k, h => by omega
  | n + 1, k, h => by
    show X k ≤ max (Pts.acc mx X n) (X n)
    by_cases e : k = n
    · subst e; omega
    · have := acc_mx X n k (by omega); omega
theorem acc_lo {X : Nat → Int} {A : Int} : ∀ n, (∀ k, k < n + 1 → A ≤ X k) → A ≤ Pts.acc mn X n
  | 0, h => h 0 (by omega)
  | n + 1, h => by
    have := acc_lo n (fun k hk => h k (by omega))
    have := h n (by omega)
    show A ≤ min (Pts.acc mn X n) (X n)
    omega
theorem acc_hi {X : Nat → Int} {A : Int} : ∀ n, (∀ k, k < n + 1 → X k ≤ A) → Pts.acc mx X n ≤ A
  | 0, h => h 0 (by omega)
  | n + 1, h => by
    have := acc_hi n (fun k hk => h k (by omega))
    have := h n (by omega)
    show max (Pts.acc mx X n) (X n) ≤ A
    omega
/-- The box of a path with valid points. -/
theorem box_at (w : World) (a : Option Addr) (c : Nat) (l : List Pt) (hn : l.length ≤ 1048576) (h : PathAt w a l) (hok : ptsB l = true) :
    ∃ x0 y0 x1 y1 : Int, (-200 ≤ x0 ∧ x0 ≤ x1 ∧ x1 ≤ 200) ∧ (∀ k, k < l.length → x0 ≤ pX l k ∧ pX l k ≤ x1) ∧
    Calls Try.prog 53 #[.slice a l.length c] w fun e w' => e = .returned (.agg #[.int .i64 x0, .int .i64 y0, .int .i64 x1, .int .i64 y1]) ∧ Below w.heap.size w w' := by
  rcases h with rfl | ⟨g, rfl, hg, hc⟩
  · refine ⟨0, 0, 0, 0, by omega, fun k hk => by simp at hk, ?_⟩
    go_enter Try.func53, Try.ntmps53
    go_wp2
    go_rounds 1
    refine bodyPost_ret (by simp [results, Try.results53, go_sem, *]; try rfl) rfl ?_
    exact ⟨rfl, by go_grown⟩
  · by_cases h0 : l.length = 0
    · refine ⟨0, 0, 0, 0, by omega, fun k hk => by omega, ?_⟩
      rw [h0]
      go_enter Try.func53, Try.ntmps53
      go_wp2
      go_rounds 1
      refine bodyPost_ret (by simp [results, Try.results53, go_sem, *]; try rfl) rfl ?_
      exact ⟨rfl, by go_grown⟩
    · have hp : Pts.PtsAt w g l.length (pX l) (pY l) := hc
      have hb := Pts.boxof_spec g l.length c (pX l) (pY l) w hn hg hp
      have hokB : Pts.okB (pX l) (pY l) l.length = true := Pts.okB_good fun i hi => ptsB_at hok hi
      have hval : Pts.boxofV (pX l) (pY l) l.length = .agg #[.int .i64 (Pts.acc mn (pX l) l.length), .int .i64 (Pts.acc mn (pY l) l.length), .int .i64 (Pts.acc mx (pX l) l.length), .int .i64 (Pts.acc mx (pY l) l.length)] := by
        simp [Pts.boxofV, sel, hokB, show 0 < l.length by omega]
      rw [hval] at hb
      have hr : ∀ k, k < l.length → -200 ≤ pX l k ∧ pX l k ≤ 200 := fun k hk => by
        have := ptsB_at hok hk
        simp only [pokB, Bool.and_eq_true] at this
        exact inB_true this.1
      have h1 := acc_mn (pX l) l.length 0 (by omega)
      have h2 := acc_mx (pX l) l.length 0 (by omega)
      obtain ⟨m, hm⟩ : ∃ m, l.length = m + 1 := ⟨l.length - 1, by omega⟩
      have e1 : -200 ≤ Pts.acc mn (pX l) l.length := by
        rw [hm]; show -200 ≤ min (Pts.acc mn (pX l) m) (pX l m)
        have := acc_lo (X := pX l) (A := -200) m (fun k hk => (hr k (by omega)).1)
        have := (hr m (by omega)).1
        omega
      have e2 : Pts.acc mx (pX l) l.length ≤ 200 := by
        rw [hm]; show max (Pts.acc mx (pX l) m) (pX l m) ≤ 200
        have := acc_hi (X := pX l) (A := 200) m (fun k hk => (hr k (by omega)).2)
        have := (hr m (by omega)).2
        omega
      exact ⟨_, _, _, _, ⟨e1, by omega, e2⟩, fun k hk => ⟨acc_mn (pX l) _ k hk, acc_mx (pX l) _ k hk⟩, hb⟩
end Go.Proofs.Ytccjfljmmdlngaa.Ins
