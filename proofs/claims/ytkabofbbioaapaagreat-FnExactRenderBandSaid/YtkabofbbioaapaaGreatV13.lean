/-
  Texts of this seat, laid together: Row, Ints, Inp8, SdI8, InI8, Sm9, Dt9, Is9, Im9
-/
import Derived.Test.YtkabofbbioaapaaGreatRows
import Derived.WalkKit
import Derived.ProofKit
import Derived.OpenShut
import Derived.Below
import Derived.Laws.MakeOwn
import Derived.Laws.Entries
import Derived.Deep.RegionHeld3
import Derived.BigQuiet
import Derived.Deep.QuietTactic
import Derived.Laws.BitsLemmas
import Derived.Test.YtkabofbbioaapaaGreatV09
import Derived.Test.YtkabofbbioaapaaGreatV21
import Derived.Test.YtkabofbbioaapaaGreatV04
import Derived.Test.YtkabofbbioaapaaGreatV24
import Derived.Test.YtkabofbbioaapaaGreatV10
namespace Go.Proofs.YtkabofbbioaapaaGreat.Draw
open Go.ChangeShapes Go.WideShapes Go.ChangeAt Go.RowKit
set_option linter.unusedVariables false
def IsRow (k : IntKind) (w : World) (a : Option Addr) (len cap : Nat) (zs : List Int) : Prop :=
  (a = none ∧ len = 0 ∧ cap = 0 ∧ zs = []) ∨
  ∃ x, a = some x ∧ len ≤ cap ∧ cap ≤ maxLen ∧ zs.length = cap ∧ (∀ i, i < zs.length → w.cell? (x.add i) = some (.int k (zs.getD i 0))) ∧ ∀ n ∈ zs, (Lit.int k n).wf = true
end Go.Proofs.YtkabofbbioaapaaGreat.Draw
namespace Go.Proofs.YtkabofbbioaapaaGreat.Ints
open Go.ChangeShapes Go.WideShapes Go.ChangeAt Go.RowKit
open Kit Slabs
open Draw (IsRow)
set_option linter.unusedVariables false
set_option linter.unusedSimpArgs false
set_option linter.unnecessarySimpa false
set_option maxRecDepth 100000
theorem drewN_below {B : Nat} {a w : World} (h : Below B a w) (n : Nat) : Below B a (w.drewN n) := ⟨h.os, h.tape, h.output, h.size, h.block⟩
def ic (X : Nat → Int) (i : Nat) : List Value := [.int .i64 (X i)]
theorem ic_len (X : Nat → Int) (i : Nat) : (ic X i).length = 1 := rfl
theorem ic_cell {w : World} {g n : Nat} {X : Nat → Int} (h : Writes w g n 1 (ic X)) {i : Nat} (hi : i < n) : w.cell? ⟨g, i, none⟩ = some (.int .i64 (X i)) := by
  simpa using h.cell i hi 0 _ rfl
theorem row_cells {w : World} {a : Option Addr} {n cap : Nat} {z : List Int} (h : IsRow .i64 w a n cap z) (hn : n ≠ 0) : ∃ g o, a = some ⟨g, o, none⟩ ∧ g < w.heap.size ∧ ∀ i, i < n → w.cell? ⟨g, o + i, none⟩ = some (.int .i64 (z.getD i 0)) := by
  rcases h with ⟨_, h0, _, _⟩ | ⟨x, ha, hl, hm, hz, hc, hw⟩
  · exact absurd h0 hn
  · obtain ⟨g, o, s⟩ := x
    have h1 := hc 0 (by omega)
    have hs : s = none := by simpa [Addr.add] using World.cell?_spot h1
    subst hs
    refine ⟨g, o, ha, by simpa [Addr.add] using World.block_lt_of_cell? w _ h1, fun i hi => ?_⟩
    have h2 := hc i (by omega)
    by_cases h0 : i = 0
    · subst h0; simpa [Addr.add] using h2
    · simpa [Addr.add, h0] using h2
set_option maxHeartbeats 1000000 in
theorem eqI_same (w : World) (B1 B2 : Nat) (v1 v2 : Value) (n : Nat) (X : Nat → Int) (hn : n ≤ 2000000) (h1 : Slab w B1 v1 n 1 (ic X)) (h2 : Slab w B2 v2 n 1 (ic X)) :
    Calls Tryz.prog 45 #[v1, v2] w fun e w' => e = .returned (.bool true) ∧ Below w.heap.size w w' := by
  by_cases hn0 : n = 0
  · obtain ⟨a1, c1, rfl, _⟩ := h1
    obtain ⟨a2, c2, rfl, _⟩ := h2
    subst hn0
    go_enter Tryz.func45, Tryz.ntmps45
    go_wp2
    go_loopw [5] (fun i wr => i = .int .i64 0 ∧ Below w.heap.size w wr) (fun _ _ => 0)
    case atStart => exact ⟨rfl, Below.refl _ _⟩
    case round =>
      obtain ⟨rfl, hbel⟩ := hrel
      go_wp2
      go_ret
      exact ⟨rfl, hbel⟩
  · rcases h1.writes with ⟨h0, _⟩ | ⟨g1, c1, rfl, _, W1⟩
    · exact absurd h0 hn0
    rcases h2.writes with ⟨h0, _⟩ | ⟨g2, c2, rfl, _, W2⟩
    · exact absurd h0 hn0
    have H := Lib.hid (And.intro W1 W2)
    clear h1 h2 W1 W2 hn0
    go_enter Tryz.func45, Tryz.ntmps45
    go_wp2
    go_loopw [5] (fun i wr => ∃ k : Nat, k ≤ n ∧ i = .int .i64 (k : Int) ∧ Below w.heap.size w wr) (fun i _ => n - (intOf i).toNat)
    case atStart => exact ⟨0, Nat.zero_le _, rfl, Below.refl _ _⟩
    case round =>
      obtain ⟨k, hk, rfl, hbel⟩ := hrel
      by_cases hlt : k < n
      · have e1 := ic_cell (H.out.1.on hbel) hlt
        have e2 := ic_cell (H.out.2.on hbel) hlt
        have i0 : (0 : Int) ≤ (k : Int) := by omega
        have i1 : (k : Int) < (n : Int) := by omega
        go_wp2
        go_quiet (fail)
        go_wp2
        refine ⟨⟨k + 1, by omega, by go_num, drewN_below hbel _⟩, by simp [intOf]; omega⟩
      · obtain rfl : k = n := by omega
        go_wp2
        go_ret
        exact ⟨rfl, hbel⟩
theorem info3 : (Tryz.prog.info? 3).map (fun i => (i.zero, i.size, i.bytes)) = some (some (.int .i64 0), 1, 8) := by kernel_rfl
theorem zero_at (n i j : Nat) (u : Value) (hi : i < n) (hu : ([.int .i64 0] : List Value)[j]? = some u) : (madeCells #[.int .i64 0] (n * 1))[i * 1 + j]? = some u := by
  have hj : j < 1 := by have := (List.getElem?_eq_some_iff.1 hu).1; simpa using this
  obtain rfl : j = 0 := by omega
  simp only [List.getElem?_cons_zero, Option.some.injEq] at hu
  subst hu
  unfold madeCells
  rw [Array.getElem?_map, Array.getElem?_range, if_pos (by omega)]
  simp [Nat.mod_one]
def marked (N i : Nat) : List Value := [.int .i64 ((N + i : Nat) : Int)]
set_option maxHeartbeats 1000000 in
theorem markI_any (w : World) (B N n : Nat) (v : Value) (X : Nat → Int) (hn : n ≤ 2000000) (hN : N ≤ 1000000000000) (hB0 : B ≤ w.heap.size) (h : Slab w B v n 1 (ic X)) :
    Calls Tryz.prog 48 #[v, .int .i64 (N : Int)] w fun e w' => e = .returned (.int .i64 ((N + n : Nat) : Int)) ∧ Slab w' B v n 1 (marked N) ∧ Below B w w' ∧ w.grownBy w' (rowOf n v) := by
  by_cases hnz : n = 0
  · obtain ⟨a1, c1, rfl, _⟩ := id h
    subst hnz
    have HX := Lib.hid h
    clear h
    go_enter Tryz.func48, Tryz.ntmps48
    go_wp2
    go_loopw [1, 5] (fun k i wr => i = .int .i64 0 ∧ k = .int .i64 (N : Int) ∧ wr = w) (fun _ _ _ => 0)
    case atStart => exact ⟨rfl, rfl, rfl⟩
    case round =>
      obtain ⟨rfl, rfl, rfl⟩ := hrel
      go_wp2
      go_ret
      exact ⟨by simp, HX.out.same fun i hi => by omega, Below.refl _ _, World.grownBy.refl _ _⟩
  · obtain ⟨g, cap, rfl, hBg, W1⟩ : ∃ g cap, v = .slice (some ⟨g, 0, none⟩) n cap ∧ B ≤ g ∧ Writes w g n 1 (ic X) := by
      rcases h.writes with ⟨h0, _⟩ | h
      · exact absurd h0 hnz
      · exact h
    have hcap := h.cap_le
    have HN := Lib.hid hnz
    have HW := Lib.hid W1
    clear h W1 hnz
    go_enter Tryz.func48, Tryz.ntmps48
    go_wp2
    go_loopw [1, 5] (fun q i wr => ∃ k : Nat, k ≤ n ∧ i = .int .i64 (k : Int) ∧ q = .int .i64 ((N + k : Nat) : Int) ∧ Writes wr g n 1 (upto (marked N) (ic X) k) ∧ Below B w wr ∧ w.grownBy wr (some g)) (fun _ i _ => n - (intOf i).toNat)
    case atStart => exact ⟨0, Nat.zero_le _, rfl, by simp, by rw [upto_zero]; exact HW.out, Below.refl _ _, World.grownBy.refl _ _⟩
    case round =>
      obtain ⟨k, hk, rfl, rfl, U, hbel, hgr⟩ := hrel
      by_cases hlt : k < n
      · have i0 : (0 : Int) ≤ (k : Int) := by omega
        have i1 : (k : Int) < (n : Int) := by omega
        have c0 : wr.cell? ⟨g, k, none⟩ = some (.int .i64 (X k)) := by
          have := U.cell k hlt 0 (.int .i64 (X k)) (by rw [upto_ge (by omega)]; rfl)
          simpa using this
        have f0 := U.free
        have U3 := U.all hlt (fun _ => rfl) (fun _ => rfl)
        have U4 := setAll_below hbel g (k * 1) hBg (marked N k)
        have U5 := setAll_grown hgr (k * 1) (marked N k)
        simp only [marked, setAll, Nat.mul_one] at U3 U4 U5
        have HU := Lib.hid (And.intro U3 (And.intro U4 U5))
        clear U3 U4 U5 U hbel hgr
        go_wp2
        go_roundw
        case rel => exact ⟨k + 1, by omega, by go_num, by first | (congr 1; omega) | (congr 2; omega) | go_num, by first | exact HU.out.1 | simpa using HU.out.1, by first | exact HU.out.2.1 | simpa using HU.out.2.1, by first | exact HU.out.2.2 | simpa using HU.out.2.2⟩
        case measure => simp [intOf]; omega
      · obtain rfl : k = n := by omega
        have HU := Lib.hid U
        clear U
        go_wp2
        go_ret
        refine ⟨rfl, (HU.out.slab hBg _ hcap).same fun i hi => upto_lt hi, hbel, ?_⟩
        unfold rowOf
        rw [if_neg HN.out]; exact hgr
set_option maxHeartbeats 1000000 in
theorem heldI_any (w : World) (B N n : Nat) (v : Value) (hn : n ≤ 2000000) (hN : N ≤ 1000000000000) (h : Slab w B v n 1 (marked N)) :
    Calls Tryz.prog 49 #[v, .int .i64 (N : Int)] w fun e w' => e = .returned (.int .i64 ((N + n : Nat) : Int)) ∧ Below w.heap.size w w' := by
  by_cases hnz : n = 0
  · obtain ⟨a1, c1, rfl, _⟩ := id h
    subst hnz
    clear h
    go_enter Tryz.func49, Tryz.ntmps49
    go_wp2
    go_loopw [1, 5] (fun k i wr => i = .int .i64 0 ∧ k = .int .i64 (N : Int) ∧ wr = w) (fun _ _ _ => 0)
    case atStart => exact ⟨rfl, rfl, rfl⟩
    case round =>
      obtain ⟨rfl, rfl, rfl⟩ := hrel
      go_wp2
      go_ret
      exact ⟨by simp, Below.refl _ _⟩
  · obtain ⟨g, cap, rfl, hBg, W1⟩ : ∃ g cap, v = .slice (some ⟨g, 0, none⟩) n cap ∧ B ≤ g ∧ Writes w g n 1 (marked N) := by
      rcases h.writes with ⟨h0, _⟩ | h
      · exact absurd h0 hnz
      · exact h
    have HW := Lib.hid W1
    have hg := W1.here
    clear h W1 hnz
    go_enter Tryz.func49, Tryz.ntmps49
    go_wp2
    go_loopw [1, 5] (fun q i wr => ∃ k : Nat, k ≤ n ∧ i = .int .i64 (k : Int) ∧ q = .int .i64 ((N + k : Nat) : Int) ∧ Below w.heap.size w wr) (fun _ i _ => n - (intOf i).toNat)
    case atStart => exact ⟨0, Nat.zero_le _, rfl, by simp, Below.refl _ _⟩
    case round =>
      obtain ⟨k, hk, rfl, rfl, hbel⟩ := hrel
      by_cases hlt : k < n
      · have i0 : (0 : Int) ≤ (k : Int) := by omega
        have i1 : (k : Int) < (n : Int) := by omega
        have q0 : wr.cell? ⟨g, k, none⟩ = some (.int .i64 ((N : Int) + (k : Int))) := by
          rw [hbel.cell (p := ⟨g, k, none⟩) hg]
          have h := HW.out.cell k hlt 0 _ rfl
          simpa using h
        go_wp2
        go_roundw
        case rel => exact ⟨k + 1, by omega, by go_num, by first | (congr 1; omega) | (congr 2; omega) | go_num, hbel⟩
        case measure => simp [intOf]; omega
      · obtain rfl : k = n := by omega
        go_wp2
        go_ret
        exact ⟨rfl, hbel⟩
end Go.Proofs.YtkabofbbioaapaaGreat.Ints
namespace Go.Proofs.YtkabofbbioaapaaGreat.Ins
open Go.ChangeShapes Go.WideShapes Go.ChangeAt Go.RowKit
open Kit Point
set_option linter.unusedVariables false
set_option linter.unusedSimpArgs false
set_option linter.unnecessarySimpa false
def inpB (l : List Pt) (x y : Int) : Bool := pathB l && inB x && inB y && insP l x y
theorem three3 (a b c : Bool) : a = false ∨ (a = true ∧ b = false) ∨ (a = true ∧ b = true ∧ c = false) ∨ (a = true ∧ b = true ∧ c = true) := by
  cases a <;> cases b <;> cases c <;> simp
end Go.Proofs.YtkabofbbioaapaaGreat.Ins
namespace Go.Proofs.YtkabofbbioaapaaGreat.Ins
open Go.ChangeShapes Go.WideShapes Go.ChangeAt Go.RowKit
open Kit Point Slabs
set_option linter.unusedVariables false
set_option linter.unusedSimpArgs false
set_option linter.unnecessarySimpa false
def sdF (l : List Pt) (i : Nat) : List Value := [.int .i64 (pX l i), .int .i64 (pY l i), .int .i64 (pX l ((i + 1) % l.length)), .int .i64 (pY l ((i + 1) % l.length))]
def zrF (_ : Nat) : List Value := [.int .i64 0, .int .i64 0, .int .i64 0, .int .i64 0]
theorem sdF_len (l : List Pt) (i : Nat) : (sdF l i).length = 4 := rfl
theorem zrF_len (i : Nat) : (zrF i).length = 4 := rfl
theorem cells4_of {w : World} {g n : Nat} {F : Nat → List Value} (h : ∀ i, i < n → ∀ j u, (F i)[j]? = some u → w.cell? ⟨g, i * 4 + j, none⟩ = some u) {i : Nat} (hi : i < n) {x0 x1 x2 x3 : Value} (e : F i = [x0, x1, x2, x3]) :
    w.cell? ⟨g, i * 4, none⟩ = some x0 ∧ w.cell? ⟨g, i * 4 + 1, none⟩ = some x1 ∧ w.cell? ⟨g, i * 4 + 2, none⟩ = some x2 ∧ w.cell? ⟨g, i * 4 + 3, none⟩ = some x3 := by
  have h0 := h i hi
  rw [e] at h0
  exact ⟨by simpa using h0 0 _ rfl, by simpa using h0 1 _ rfl, by simpa using h0 2 _ rfl, by simpa using h0 3 _ rfl⟩
theorem zero4_at (n i j : Nat) (u : Value) (hi : i < n) (hu : (zrF i)[j]? = some u) : (madeCells #[.int .i64 0, .int .i64 0, .int .i64 0, .int .i64 0] (n * 4))[i * 4 + j]? = some u := by
  have hj : j < 4 := by have := (List.getElem?_eq_some_iff.1 hu).1; simpa [zrF] using this
  unfold madeCells
  rw [Array.getElem?_map, Array.getElem?_range, if_pos (by have := Nat.mul_le_mul_right 4 (show i + 1 ≤ n by omega); rw [Nat.succ_mul] at this; omega)]
  have h1 : (i * 4 + j) % 4 = j := by omega
  simp only [Option.map_some]
  have h2 : j = 0 ∨ j = 1 ∨ j = 2 ∨ j = 3 := by omega
  rcases h2 with rfl | rfl | rfl | rfl <;> (simp only [zrF, List.getElem?_cons_zero, List.getElem?_cons_succ, Option.some.injEq] at hu; subst hu; simp [h1] <;> (try simp at h1) <;> (try simp [h1]))
theorem info_sd8 : (Tryz.prog.info? 180).map (fun i => (i.zero, i.size, i.bytes)) = some (some (.agg #[.int .i64 0, .int .i64 0, .int .i64 0, .int .i64 0]), 4, 32) := by kernel_rfl
set_option maxHeartbeats 2000000 in
theorem sd_impl (w : World) (a : Option Addr) (c : Nat) (l : List Pt) (hn : l.length ≤ 1048576) (h : PathAt w a l) :
    Calls Tryz.prog 152 #[.slice a l.length c] w fun e w' => ∃ v, e = .returned v ∧ Slab w' w.heap.size v l.length 4 (sdF l) ∧ Below w.heap.size w w' := by
  obtain ⟨i0, hi0, hz0, hz1, hz2⟩ := info_parts info_sd8
  obtain ⟨n, hN⟩ : ∃ n, l.length = n := ⟨_, rfl⟩
  have hn' : n ≤ 1048576 := by omega
  have hmk := fun W : World => run_make_rowN (P := Tryz.prog) 177 180 i0 _ Tryz.underlying177 hi0 hz0 .i64 .i64 n n (Nat.le_refl _) (by rw [hz2]; omega) (by omega) W
  rw [hz1] at hmk
  clear hi0 hz0 hz1 hz2 hn'
  have HP := Lib.hid h
  have HN := Lib.hid hN
  rcases h with rfl | ⟨g, rfl, hg, _⟩
  · simp only [List.length_nil] at hN
    subst hN
    have hmk0 := hmk
    simp only [Nat.zero_mul, Int.natCast_zero, Int.ofNat_zero, show ((0 : Nat) : Int) = 0 from rfl] at hmk0
    clear hmk
    go_enter Tryz.func152, Tryz.ntmps152
    go_wp2
    go_rounds 1
    go_ret
    exact ⟨_, rfl, ⟨_, _, rfl, Nat.le_refl _, .inl rfl⟩, by go_grown⟩
  · rw [hN] at hn ⊢
    clear hN
    go_enter Tryz.func152, Tryz.ntmps152
    go_wp2
    go_loopw [11] (fun v11 wr => ∃ k : Nat, k ≤ n ∧ v11 = .int .i64 (k : Int) ∧ Writes wr w.heap.size n 4 (upto (sdF l) zrF k) ∧ Below w.heap.size w wr) (fun v11 _ => n - (intOf v11).toNat)
    case atStart =>
      refine ⟨0, Nat.zero_le _, rfl, ⟨by simp, fun o => by simp, fun i hi j u hu => ?_⟩, by go_grown⟩
      rw [upto_zero] at hu
      rw [World.cell?_alloc_new]; exact zero4_at n i j u hi hu
    case round =>
      obtain ⟨k, hk, rfl, U, hB⟩ := hrel
      by_cases hlt : k < n
      · have hP := HP.out.on hB
        rcases hP with he | ⟨g', hg', hlg, hc⟩
        · have := HN.out; rw [he] at this; simp at this; omega
        · injection hg' with hg'
          injection hg' with hg'
          subst hg'
          obtain ⟨m, hm⟩ : ∃ m, (k + 1) % n = m := ⟨_, rfl⟩
          have hmn : m < n := by rw [← hm]; exact Nat.mod_lt _ (by omega)
          obtain ⟨q1, q2⟩ := hc k (by rw [HN.out]; exact hlt)
          obtain ⟨q3, q4⟩ := hc m (by rw [HN.out]; exact hmn)
          have hs : sdF l k = [.int .i64 (pX l k), .int .i64 (pY l k), .int .i64 (pX l m), .int .i64 (pY l m)] := by unfold sdF; rw [HN.out, hm]
          generalize pX l k = ax at q1 hs
          generalize pY l k = ay at q2 hs
          generalize pX l m = bx at q3 hs
          generalize pY l m = b1 at q4 hs
          have HS := Lib.hid hs
          clear hs hc
          have i0 : (0 : Int) ≤ (k : Int) := by omega
          have i1 : (k : Int) < (n : Int) := by omega
          have i2 : (0 : Int) ≤ (m : Int) := by omega
          have i3 : (m : Int) < (n : Int) := by omega
          have hn0 : ¬ n = 0 := by omega
          have j1 : IntKind.i64.wrap ((k : Int) + 1) = (k : Int) + 1 := IntWalk.i64_in _ (by omega)
          have j2 : ((k : Int) + 1).tmod (n : Int) = (m : Int) := by
            rw [← hm, show ((k : Int) + 1) = ((k + 1 : Nat) : Int) by omega, Int.ofNat_tmod]
          have j3 : IntKind.i64.wrap (m : Int) = (m : Int) := IntWalk.i64_in _ (by omega)
          have hsz : w.heap.size ≤ wr.heap.size := hB.size
          have hug := U.here
          have fz := U.free
          obtain ⟨c0, c1, c2, c3⟩ := cells4_of U.cell hlt (show upto (sdF l) zrF k k = _ from upto_ge (by omega))
          have HU := Lib.hid (And.intro U hB)
          clear hm U hB
          go_upto_region 5 with (fail)
          go_region
          have U3 := HU.out.1.all hlt zrF_len (sdF_len l)
          rw [HS.out] at U3
          have U4 := setAll_below HU.out.2 w.heap.size (k * 4) (Nat.le_refl _) [.int .i64 ax, .int .i64 ay, .int .i64 bx, .int .i64 b1]
          have U5 := U3.on (((Below.refl _ _).alloc (Nat.le_refl _) (.cells #[.int .i64 ax, .int .i64 ay] 123)).drew)
          have U6 := (U4.alloc (by rw [setAll_size]; exact hsz) (.cells #[.int .i64 ax, .int .i64 ay] 123)).drew
          have HV := Lib.hid (And.intro U5 U6)
          clear U3 U4 U5 U6
          go_wp2
          go_roundw
          case rel => exact ⟨k + 1, by omega, by go_num, HV.out.1, HV.out.2⟩
          case measure => simp [intOf]; omega
      · obtain rfl : k = n := by omega
        go_wp2
        go_ret
        exact ⟨_, rfl, (U.slab (Nat.le_refl _) _ (Nat.le_refl _)).same fun i hi => upto_lt hi, hB⟩
end Go.Proofs.YtkabofbbioaapaaGreat.Ins
namespace Go.Proofs.YtkabofbbioaapaaGreat.Ins
open Go.ChangeShapes Go.WideShapes Go.ChangeAt Go.RowKit
open Kit Point Slabs
set_option linter.unusedVariables false
set_option linter.unusedSimpArgs false
set_option linter.unnecessarySimpa false
end Go.Proofs.YtkabofbbioaapaaGreat.Ins
namespace Go.Proofs.YtkabofbbioaapaaGreat.Ins
open Go.ChangeShapes Go.WideShapes Go.ChangeAt Go.RowKit
open Kit Point
set_option linter.unusedVariables false
set_option linter.unusedSimpArgs false
set_option linter.unnecessarySimpa false
set_option maxRecDepth 100000 in
set_option maxHeartbeats 2000000 in
theorem sok_spec (w : World) (a : Option Addr) (c : Nat) (l : List Pt) (hn : l.length ≤ 1048576) (h : PathAt w a l) :
    Calls Tryz.prog 135 #[.slice a l.length c] w fun e w' => e = .returned (.bool (spB l)) ∧ Below w.heap.size w w' := by
  have H := Lib.hid (And.intro h hn)
  obtain ⟨n, hN⟩ : ∃ n, l.length = n := ⟨_, rfl⟩
  have HN := Lib.hid hN
  rw [hN] at hn ⊢
  clear hN
  rcases h with rfl | ⟨g, rfl, hg, _⟩
  · obtain rfl : 0 = n := HN.out
    go_enter Tryz.func135, Tryz.ntmps135
    go_wp2
    go_rounds 1
    go_ret
    exact ⟨rfl, Below.refl _ _⟩
  · go_enter Tryz.func135, Tryz.ntmps135
    go_wp2
    go_loopw [3] (fun v3 wr => ∃ k : Nat, v3 = .int .i64 (k : Int) ∧ k ≤ n ∧ Hid (∀ i, i < k → okK l i = true) ∧ Below w.heap.size w wr) (fun v3 _ => n - (intOf v3).toNat)
    case atStart => exact ⟨0, rfl, Nat.zero_le _, Lib.hid fun i hi => absurd hi (Nat.not_lt_zero i), Below.refl _ _⟩
    case round =>
      obtain ⟨k, rfl, hk, hb, hB⟩ := hrel
      by_cases hlt : k < n
      · obtain ⟨hlg, q1, q2⟩ := (H.out.1.on hB).cells (k := k) (by rw [HN.out]; exact hlt)
        have HB := Lib.hid hB
        have i0 : (0 : Int) ≤ (k : Int) := by omega
        have i1 : (k : Int) < (n : Int) := by omega
        by_cases hxy : pX l k < pY l k
        · by_cases hk0 : k = 0
          · have hok : okK l k = true := by unfold okK; rw [decide_eq_true hxy, decide_eq_true hk0]; rfl
            have hyes : ∀ i, i < k + 1 → okK l i = true := fun i hi => by
              obtain rfl : i = k := by omega
              exact hok
            have HS := Lib.hid hyes
            have i2 : decide (0 < k) = false := by simp [hk0]
            obtain ⟨x, hx⟩ : ∃ x, pX l k = x := ⟨_, rfl⟩
            obtain ⟨y, hy⟩ : ∃ y, pY l k = y := ⟨_, rfl⟩
            rw [hx] at q1 hxy; rw [hy] at q2 hxy
            have hd : decide (y ≤ x) = false := by simp; omega
            clear hok hyes hxy hB hk0 hx hy
            go_wp2
            go_quiet (fail)
            have HBd := Lib.hid (drewN_on HB.out nq)
            clear q1 q2 i2 hd
            go_wp2
            go_roundw
            case rel => exact ⟨k + 1, by go_num, by omega, HS, HBd.out⟩
            case measure => simp [intOf]; omega
          · obtain ⟨j, rfl⟩ : ∃ j, k = j + 1 := ⟨k - 1, by omega⟩
            obtain ⟨_, _, q3⟩ := (H.out.1.on hB).cells (k := j) (by rw [HN.out]; omega)
            have hkk : okK l (j + 1) = decide (pY l j < pX l (j + 1)) := by simp [okK, hxy]
            obtain ⟨x, hx⟩ : ∃ x, pX l (j + 1) = x := ⟨_, rfl⟩
            obtain ⟨y, hy⟩ : ∃ y, pY l (j + 1) = y := ⟨_, rfl⟩
            obtain ⟨z, hz⟩ : ∃ z, pY l j = z := ⟨_, rfl⟩
            rw [hx, hz] at hkk
            rw [hx] at q1 hxy; rw [hy] at q2 hxy; rw [hz] at q3
            have HX := Lib.hid hkk
            have hd : decide (y ≤ x) = false := by simp; omega
            have e1 : (((j + 1 : Nat)) : Int) = (j : Int) + 1 := by omega
            have i3 : (0 : Int) ≤ (j : Int) := by omega
            have i4 : (j : Int) < (n : Int) := by omega
            have i5 : decide ((0 : Int) < (j : Int) + 1) = true := decide_eq_true (by omega)
            have hw : IntKind.i64.wrap (j : Int) = (j : Int) := by rw [IntKind.wrap_i64]; omega
            rw [e1] at i0 i1 ⊢
            clear hB hkk e1 hxy hk0 hx hy hz
            by_cases hzx : z < x
            · have hd2 : decide (x ≤ z) = false := by simp; omega
              have hyes : ∀ i, i < j + 1 + 1 → okK l i = true := fun i hi => by
                by_cases e : i = j + 1
                · subst e; rw [HX.out]; simpa using hzx
                · exact hb.out i (by omega)
              have HS := Lib.hid hyes
              clear hyes hzx
              go_wp2
              go_quiet (fail)
              have HBd := Lib.hid (drewN_on HB.out nq)
              have hw1 : IntKind.i64.wrap ((j : Int) + 1 + 1) = (j : Int) + 1 + 1 := by rw [IntKind.wrap_i64]; omega
              clear q1 q2 q3 i0 i3 i4 i5 hd hw hd2
              go_wp2
              go_roundw
              case rel => exact ⟨j + 1 + 1, by go_num, by omega, HS, HBd.out⟩
              case measure => simp [intOf]; omega
            · have hd2 : decide (x ≤ z) = true := by simp; omega
              have hno : spB l = false := spB_bad (k := j + 1) (by rw [HN.out]; exact hlt) (by rw [HX.out]; simpa using hzx)
              have HS := Lib.hid hno
              clear hno hzx
              go_wp2
              go_quiet (fail)
              have HBd := Lib.hid (drewN_on HB.out nq)
              clear q1 q2 q3 i0 i3 i4 i5 hd hw hd2
              go_wp2
              go_ret
              exact ⟨ret_bool HS.out.symm, HBd.out⟩
        · have hno : spB l = false := spB_bad (k := k) (by rw [HN.out]; exact hlt) (by simp [okK, hxy])
          have HS := Lib.hid hno
          obtain ⟨x, hx⟩ : ∃ x, pX l k = x := ⟨_, rfl⟩
          obtain ⟨y, hy⟩ : ∃ y, pY l k = y := ⟨_, rfl⟩
          rw [hx] at q1 hxy; rw [hy] at q2 hxy
          have hd : decide (y ≤ x) = true := by simp; omega
          clear hno hxy hB hx hy
          go_wp2
          go_quiet (fail)
          have HBd := Lib.hid (drewN_on HB.out nq)
          clear q1 q2 i0 hd
          go_wp2
          go_ret
          exact ⟨ret_bool HS.out.symm, HBd.out⟩
      · obtain rfl : k = n := by omega
        have hv : spB l = decide ((k : Int) ≤ 8) := by
          have : okS l = true := okS_good fun i hi => hb.out i (by rw [← HN.out]; exact hi)
          simp only [spB, this, Bool.and_true]; rw [HN.out, decide_eq_decide]; omega
        have HS := Lib.hid hv
        have HB := Lib.hid hB
        clear hv hB
        go_wp2
        go_ret
        exact ⟨ret_bool HS.out.symm, HB.out⟩
end Go.Proofs.YtkabofbbioaapaaGreat.Ins
namespace Go.Proofs.YtkabofbbioaapaaGreat.Ins
open Go.ChangeShapes Go.WideShapes Go.ChangeAt Go.RowKit
open Kit Point
set_option linter.unusedVariables false
set_option linter.unusedSimpArgs false
set_option linter.unnecessarySimpa false
def dtK (l : List Pt) : Nat → Int
  | 0 => 0
  | k + 1 => IntKind.i64.wrap (dtK l k + IntKind.i64.wrap (pY l k - pX l k))
def dtV (l : List Pt) : Int := if spB l then dtK l l.length else 0
theorem wrap_in (x y : Int) : IntKind.i64.wrap (x + IntKind.i64.wrap y) = IntKind.i64.wrap (x + y) := by
  simp only [IntKind.wrap_i64]; omega
theorem wrap_in2 (x y z : Int) : IntKind.i64.wrap (IntKind.i64.wrap (x + y) - z) = IntKind.i64.wrap (x + IntKind.i64.wrap (y - z)) := by
  simp only [IntKind.wrap_i64]; omega
theorem dt_bad {l : List Pt} (h : spB l = false) : dtV l = 0 := by simp [dtV, h]
theorem dt_good {l : List Pt} (h : spB l = true) : dtV l = dtK l l.length := by simp [dtV, h]
end Go.Proofs.YtkabofbbioaapaaGreat.Ins
namespace Go.Proofs.YtkabofbbioaapaaGreat.Ins
open Go.ChangeShapes Go.WideShapes Go.ChangeAt Go.RowKit Go.Shelf
open Kit Point
set_option linter.unusedVariables false
set_option linter.unusedSimpArgs false
set_option linter.unnecessarySimpa false
def encP (p : Pt) : List Value := [.int .i64 p.1, .int .i64 p.2]
end Go.Proofs.YtkabofbbioaapaaGreat.Ins
namespace Go.Proofs.YtkabofbbioaapaaGreat.Ins
open Go.ChangeShapes Go.WideShapes Go.ChangeAt Go.RowKit
open Kit Point
set_option linter.unusedVariables false
set_option linter.unusedSimpArgs false
set_option linter.unnecessarySimpa false
theorem inS_hit {l : List Pt} {k : Nat} {x : Int} (hk : k < l.length) (h1 : pX l k ≤ x) (h2 : x < pY l k) : inS l x = true :=
  inS_true.2 ⟨l[k], List.getElem_mem hk, by rw [getk l hk]; exact h1, by rw [getk l hk]; exact h2⟩
theorem inS_miss {l : List Pt} {x : Int} (h : ∀ k, k < l.length → ¬ (pX l k ≤ x ∧ x < pY l k)) : inS l x = false := inS_false fun q hq => by
  obtain ⟨k, hk, rfl⟩ := List.getElem_of_mem hq
  have := h k hk
  rw [getk l hk]; show x < pX l k ∨ pY l k ≤ x; omega
end Go.Proofs.YtkabofbbioaapaaGreat.Ins
