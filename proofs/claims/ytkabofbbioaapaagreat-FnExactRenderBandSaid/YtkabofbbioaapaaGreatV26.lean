/-
  Texts of this seat, laid together: As9, Cop
-/
import Derived.WalkKit
import Derived.Handy
import Derived.Laws.EntriesVeiled
import Derived.Lib.Hide
import Derived.Laws.OwnMore
import Derived.Test.YtkabofbbioaapaaGreatV14
import Derived.Test.YtkabofbbioaapaaGreatV05
import Derived.Test.YtkabofbbioaapaaGreatV23
import Derived.Test.YtkabofbbioaapaaGreatV17
import Derived.Test.YtkabofbbioaapaaGreatV20
namespace Go.Proofs.YtkabofbbioaapaaGreat.Ins
open Go.ChangeShapes Go.WideShapes Go.ChangeAt Go.RowKit
open Kit Point
set_option linter.unusedVariables false
set_option linter.unusedSimpArgs false
set_option linter.unnecessarySimpa false
theorem scn_len (f : Int → Bool) (x0 : Int) : ∀ k : Nat, (scn f x0 k).out.length ≤ k
  | 0 => Nat.le_refl _
  | k + 1 => by
    have := scn_len f x0 k
    show ((scn f x0 k).step f (x0 + (k : Int))).out.length ≤ k + 1
    unfold Scn.step
    dsimp only
    split
    · simp; omega
    · omega
theorem acc_mn (X : Nat → Int) : ∀ n k, k < n → Pts.acc mn X n ≤ X k
  | 0, k, h => by omega
  | n + 1, k, h => by
    show min (Pts.acc mn X n) (X n) ≤ X k
    by_cases e : k = n
    · subst e; omega
    · have := acc_mn X n k (by omega); omega
theorem acc_mx (X : Nat → Int) : ∀ n k, k < n → X k ≤ Pts.acc mx X n
  | 0, k, h => by omega
  | n + 1, k, h => by
    show X k ≤ max (Pts.acc mx X n) (X n)
    by_cases e : k = n
    · subst e; omega
    · have := acc_mx X n k (by omega); omega
theorem acc_lo {X : Nat → Int} {A : Int} : ∀ n, (∀ k, k < n + 1 → A ≤ X k) → A ≤ Pts.acc mn X n
  | 0, h => h 0 (by omega)
  | n + 1, h => by
    have := acc_lo n (fun k hk => h k (by omega))
    have := h n (by omega)
    show A ≤ min (Pts.acc mn X n) (X n)
    omega
theorem acc_hi {X : Nat → Int} {A : Int} : ∀ n, (∀ k, k < n + 1 → X k ≤ A) → Pts.acc mx X n ≤ A
  | 0, h => h 0 (by omega)
  | n + 1, h => by
    have := acc_hi n (fun k hk => h k (by omega))
    have := h n (by omega)
    show max (Pts.acc mx X n) (X n) ≤ A
    omega
theorem box_at (w : World) (a : Option Addr) (c : Nat) (l : List Pt) (hn : l.length ≤ 1048576) (h : PathAt w a l) (hok : ptsB l = true) :
    ∃ x0 y0 x1 y1 : Int, (-200 ≤ x0 ∧ x0 ≤ x1 ∧ x1 ≤ 200) ∧ (∀ k, k < l.length → x0 ≤ pX l k ∧ pX l k ≤ x1) ∧
    Calls Tryz.prog 134 #[.slice a l.length c] w fun e w' => e = .returned (.agg #[.int .i64 x0, .int .i64 y0, .int .i64 x1, .int .i64 y1]) ∧ Below w.heap.size w w' := by
  rcases h with rfl | ⟨g, rfl, hg, hc⟩
  · refine ⟨0, 0, 0, 0, by omega, fun k hk => by simp at hk, ?_⟩
    go_enter Tryz.func134, Tryz.ntmps134
    go_wp2
    go_rounds 1
    refine bodyPost_ret (by simp [results, Tryz.results134, go_sem, *]; try rfl) rfl ?_
    exact ⟨rfl, by go_grown⟩
  · by_cases h0 : l.length = 0
    · refine ⟨0, 0, 0, 0, by omega, fun k hk => by omega, ?_⟩
      rw [h0]
      go_enter Tryz.func134, Tryz.ntmps134
      go_wp2
      go_rounds 1
      refine bodyPost_ret (by simp [results, Tryz.results134, go_sem, *]; try rfl) rfl ?_
      exact ⟨rfl, by go_grown⟩
    · have hp : Pts.PtsAt w g l.length (pX l) (pY l) := hc
      have hb := Pts.boxof_spec g l.length c (pX l) (pY l) w hn hg hp
      have hokB : Pts.okB (pX l) (pY l) l.length = true := Pts.okB_good fun i hi => ptsB_at hok hi
      have hval : Pts.boxofV (pX l) (pY l) l.length = .agg #[.int .i64 (Pts.acc mn (pX l) l.length), .int .i64 (Pts.acc mn (pY l) l.length), .int .i64 (Pts.acc mx (pX l) l.length), .int .i64 (Pts.acc mx (pY l) l.length)] := by
        simp [Pts.boxofV, sel, hokB, show 0 < l.length by omega]
      rw [hval] at hb
      have hr : ∀ k, k < l.length → -200 ≤ pX l k ∧ pX l k ≤ 200 := fun k hk => by
        have := ptsB_at hok hk
        simp only [pokB, Bool.and_eq_true] at this
        exact inB_true this.1
      have h1 := acc_mn (pX l) l.length 0 (by omega)
      have h2 := acc_mx (pX l) l.length 0 (by omega)
      obtain ⟨m, hm⟩ : ∃ m, l.length = m + 1 := ⟨l.length - 1, by omega⟩
      have e1 : -200 ≤ Pts.acc mn (pX l) l.length := by
        rw [hm]; show -200 ≤ min (Pts.acc mn (pX l) m) (pX l m)
        have := acc_lo (X := pX l) (A := -200) m (fun k hk => (hr k (by omega)).1)
        have := (hr m (by omega)).1
        omega
      have e2 : Pts.acc mx (pX l) l.length ≤ 200 := by
        rw [hm]; show max (Pts.acc mx (pX l) m) (pX l m) ≤ 200
        have := acc_hi (X := pX l) (A := 200) m (fun k hk => (hr k (by omega)).2)
        have := (hr m (by omega)).2
        omega
      exact ⟨_, _, _, _, ⟨e1, by omega, e2⟩, fun k hk => ⟨acc_mn (pX l) _ k hk, acc_mx (pX l) _ k hk⟩, hb⟩
end Go.Proofs.YtkabofbbioaapaaGreat.Ins
namespace Go.Proofs.YtkabofbbioaapaaGreat.Own
open Go.ChangeShapes Go.WideShapes Go.ChangeAt Go.RowKit
open Kit Slabs Ints Stack Point Turn
set_option linter.unusedVariables false
set_option linter.unusedSimpArgs false
set_option linter.unnecessarySimpa false
set_option maxRecDepth 100000
def Cop (T : TypeId) (k n : Nat) (cs : List Value) (w : World) (e : Ending) (w' : World) : Prop := ∃ a c, e = .returned (.slice a n c) ∧ w'.ownsRow w.heap.size T k (.slice a n c) n cs ∧ Below w.heap.size w w'
theorem cop_of {T : TypeId} {k n : Nat} {cs : List Value} {w w' : World} {u : Value} (h : w'.ownsRow w.heap.size T k u n cs) (b : Below w.heap.size w w') : Cop T k n cs w (.returned u) w' := by
  have h2 := h
  rcases h.2 with ⟨rfl, rfl⟩ | ⟨g, cap, cur, rfl, _⟩
  · exact ⟨_, _, rfl, h2, b⟩
  · exact ⟨_, _, rfl, h2, b⟩
theorem inf_int : (Tryz.prog.info? 3).map (fun i => (i.zero, i.size, i.bytes)) = some (some (.int .i64 0), 1, 8) := by kernel_rfl
theorem et_int : ElemT Tryz.prog 70 3 1 8 := by
  obtain ⟨i0, hi0, hz0, hz1, hz2⟩ := info_parts inf_int
  exact ⟨i0, _, Tryz.underlying70, hi0, hz0, hz1, hz2, rfl, by decide⟩
set_option maxHeartbeats 1000000 in
theorem cop_l05 (w : World) (a : Option Addr) (n cap : Nat) (cs : List Value) (hn : n ≤ 1048576) (hl : cs.length = n * 1) (h1 : ∀ u ∈ cs, u.oneCell' = true) (h : Lies w a cs) :
    Calls Tryz.prog 113 #[.slice a n cap] w (Cop 3 1 n cs w) := by
  have ho := World.ownsRow_made w #[] (e := 3) (size := 1) 0 (Nat.le_refl _) (by decide) (by simp)
  have HO := Lib.hid (And.intro ho (And.intro hl (And.intro h1 (h.on (show Below w.heap.size w (w.alloc (.cells #[] 3)) from by go_grown)))))
  clear ho hl h1 h
  go_enter Tryz.func113, Tryz.ntmps113
  go_wp2_with (at_builtin; refine wpList_append_sl _ et_int rfl _ _ rfl w.heap.size _ 0 _ [] rfl HO.out.1 a n cap cs rfl HO.out.2.1 HO.out.2.2.2 HO.out.2.2.1 ?c3 ?c4 ?c5 ?_)
  case c3 => unfold maxLen; omega
  case c4 => omega
  case c5 => simp
  intro a2 c2 w2 hown hgrow _
  have hB := ((Below.refl w.heap.size w).alloc (Nat.le_refl _) (.cells #[] 3)).grown hgrow (by simp) (fun q hq => by have := (HO.out.1.lt q hq).1; omega)
  have HX := Lib.hid (And.intro hown hB)
  clear hown hB hgrow
  go_wp2
  go_ret
  exact cop_of (by simpa using HX.out.1) HX.out.2
theorem inf_pts : (Tryz.prog.info? 123).map (fun i => (i.zero, i.size, i.bytes)) = some (some (.agg #[.int .i64 0, .int .i64 0]), 2, 16) := by kernel_rfl
theorem et_pts : ElemT Tryz.prog 48 123 2 16 := by
  obtain ⟨i0, hi0, hz0, hz1, hz2⟩ := info_parts inf_pts
  exact ⟨i0, _, Tryz.underlying48, hi0, hz0, hz1, hz2, rfl, by decide⟩
set_option maxHeartbeats 1000000 in
theorem cop_pts (w : World) (a : Option Addr) (n cap : Nat) (cs : List Value) (hn : n ≤ 1048576) (hl : cs.length = n * 2) (h1 : ∀ u ∈ cs, u.oneCell' = true) (h : Lies w a cs) :
    Calls Tryz.prog 111 #[.slice a n cap] w (Cop 123 2 n cs w) := by
  have ho := World.ownsRow_made w #[] (e := 123) (size := 2) 0 (Nat.le_refl _) (by decide) (by simp)
  have HO := Lib.hid (And.intro ho (And.intro hl (And.intro h1 (h.on (show Below w.heap.size w (w.alloc (.cells #[] 123)) from by go_grown)))))
  clear ho hl h1 h
  go_enter Tryz.func111, Tryz.ntmps111
  go_wp2_with (at_builtin; refine wpList_append_sl _ et_pts rfl _ _ rfl w.heap.size _ 0 _ [] rfl HO.out.1 a n cap cs rfl HO.out.2.1 HO.out.2.2.2 HO.out.2.2.1 ?c3 ?c4 ?c5 ?_)
  case c3 => unfold maxLen; omega
  case c4 => omega
  case c5 => simp
  intro a2 c2 w2 hown hgrow _
  have hB := ((Below.refl w.heap.size w).alloc (Nat.le_refl _) (.cells #[] 123)).grown hgrow (by simp) (fun q hq => by have := (HO.out.1.lt q hq).1; omega)
  have HX := Lib.hid (And.intro hown hB)
  clear hown hB hgrow
  go_wp2
  go_ret
  exact cop_of (by simpa using HX.out.1) HX.out.2
theorem inf_obs : (Tryz.prog.info? 52).map (fun i => (i.zero, i.size, i.bytes)) = some (some (.agg #[.slice none 0 0, .int .i64 0, .int .i64 0, .int .i64 0, .int .i64 0, .int .i64 0]), 6, 64) := by kernel_rfl
theorem et_obs : ElemT Tryz.prog 24 52 6 64 := by
  obtain ⟨i0, hi0, hz0, hz1, hz2⟩ := info_parts inf_obs
  exact ⟨i0, _, Tryz.underlying24, hi0, hz0, hz1, hz2, rfl, by decide⟩
end Go.Proofs.YtkabofbbioaapaaGreat.Own
