/-
  Texts of this seat, laid together: Ints, Stack, Push, Take, Opn
-/
import Derived.Laws.MakeOwn
import Derived.Laws.Entries
import Derived.Deep.RegionHeld3
import Derived.BigQuiet
import Derived.Deep.QuietTactic
import Derived.Deep.AppendLies
import Derived.Deep.DeepCutAuto
import Derived.Test.YtjmfgbbngocodaaGreatV03
import Derived.Test.YtjmfgbbngocodaaGreatV01
namespace Go.Proofs.YtjmfgbbngocodaaGreat.Ints
open Go.ChangeShapes Go.WideShapes Go.ChangeAt Go.RowKit
open Kit Slabs
open Draw (IsRow)
set_option linter.unusedVariables false
set_option linter.unusedSimpArgs false
set_option linter.unnecessarySimpa false
set_option maxRecDepth 100000
theorem drewN_below {B : Nat} {a w : World} (h : Below B a w) (n : Nat) : Below B a (w.drewN n) := ⟨h.os, h.tape, h.output, h.size, h.block⟩
def ic (X : Nat → Int) (i : Nat) : List Value := [.int .i64 (X i)]
theorem ic_len (X : Nat → Int) (i : Nat) : (ic X i).length = 1 := rfl
theorem ic_cell {w : World} {g n : Nat} {X : Nat → Int} (h : Writes w g n 1 (ic X)) {i : Nat} (hi : i < n) : w.cell? ⟨g, i, none⟩ = some (.int .i64 (X i)) := by
  simpa using h.cell i hi 0 _ rfl
set_option maxHeartbeats 1000000 in
theorem eqI_same (w : World) (B1 B2 : Nat) (v1 v2 : Value) (n : Nat) (X : Nat → Int) (hn : n ≤ 2000000) (h1 : Slab w B1 v1 n 1 (ic X)) (h2 : Slab w B2 v2 n 1 (ic X)) :
    Calls Tryz.prog 89 #[v1, v2] w fun e w' => e = .returned (.bool true) ∧ Below w.heap.size w w' := by
  by_cases hn0 : n = 0
  · obtain ⟨a1, c1, rfl, _⟩ := h1
    obtain ⟨a2, c2, rfl, _⟩ := h2
    subst hn0
    go_enter Tryz.func89, Tryz.ntmps89
    go_wp2
    go_loopw [5] (fun i wr => i = .int .i64 0 ∧ Below w.heap.size w wr) (fun _ _ => 0)
    case atStart => exact ⟨rfl, Below.refl _ _⟩
    case round =>
      obtain ⟨rfl, hbel⟩ := hrel
      go_wp2
      go_ret
      exact ⟨rfl, hbel⟩
  · rcases h1.writes with ⟨h0, _⟩ | ⟨g1, c1, rfl, _, W1⟩
    · exact absurd h0 hn0
    rcases h2.writes with ⟨h0, _⟩ | ⟨g2, c2, rfl, _, W2⟩
    · exact absurd h0 hn0
    have H := Lib.hid (And.intro W1 W2)
    clear h1 h2 W1 W2 hn0
    go_enter Tryz.func89, Tryz.ntmps89
    go_wp2
    go_loopw [5] (fun i wr => ∃ k : Nat, k ≤ n ∧ i = .int .i64 (k : Int) ∧ Below w.heap.size w wr) (fun i _ => n - (intOf i).toNat)
    case atStart => exact ⟨0, Nat.zero_le _, rfl, Below.refl _ _⟩
    case round =>
      obtain ⟨k, hk, rfl, hbel⟩ := hrel
      by_cases hlt : k < n
      · have e1 := ic_cell (H.out.1.on hbel) hlt
        have e2 := ic_cell (H.out.2.on hbel) hlt
        have i0 : (0 : Int) ≤ (k : Int) := by omega
        have i1 : (k : Int) < (n : Int) := by omega
        go_wp2
        go_quiet (fail)
        go_wp2
        refine ⟨⟨k + 1, by omega, by go_num, drewN_below hbel _⟩, by simp [intOf]; omega⟩
      · obtain rfl : k = n := by omega
        go_wp2
        go_ret
        exact ⟨rfl, hbel⟩
theorem info3 : (Tryz.prog.info? 3).map (fun i => (i.zero, i.size, i.bytes)) = some (some (.int .i64 0), 1, 8) := by kernel_rfl
theorem zero_at (n i j : Nat) (u : Value) (hi : i < n) (hu : ([.int .i64 0] : List Value)[j]? = some u) : (madeCells #[.int .i64 0] (n * 1))[i * 1 + j]? = some u := by
  have hj : j < 1 := by have := (List.getElem?_eq_some_iff.1 hu).1; simpa using this
  obtain rfl : j = 0 := by omega
  simp only [List.getElem?_cons_zero, Option.some.injEq] at hu
  subst hu
  unfold madeCells
  rw [Array.getElem?_map, Array.getElem?_range, if_pos (by omega)]
  simp [Nat.mod_one]
def marked (N i : Nat) : List Value := [.int .i64 ((N + i : Nat) : Int)]
set_option maxHeartbeats 1000000 in
theorem markI_any (w : World) (B N n : Nat) (v : Value) (X : Nat → Int) (hn : n ≤ 2000000) (hN : N ≤ 1000000000000) (hB0 : B ≤ w.heap.size) (h : Slab w B v n 1 (ic X)) :
    Calls Tryz.prog 94 #[v, .int .i64 (N : Int)] w fun e w' => e = .returned (.int .i64 ((N + n : Nat) : Int)) ∧ Slab w' B v n 1 (marked N) ∧ Below B w w' ∧ w.grownBy w' (rowOf n v) := by
  by_cases hnz : n = 0
  · obtain ⟨a1, c1, rfl, _⟩ := id h
    subst hnz
    have HX := Lib.hid h
    clear h
    go_enter Tryz.func94, Tryz.ntmps94
    go_wp2
    go_loopw [1, 5] (fun k i wr => i = .int .i64 0 ∧ k = .int .i64 (N : Int) ∧ wr = w) (fun _ _ _ => 0)
    case atStart => exact ⟨rfl, rfl, rfl⟩
    case round =>
      obtain ⟨rfl, rfl, rfl⟩ := hrel
      go_wp2
      go_ret
      exact ⟨by simp, HX.out.same fun i hi => by omega, Below.refl _ _, World.grownBy.refl _ _⟩
  · obtain ⟨g, cap, rfl, hBg, W1⟩ : ∃ g cap, v = .slice (some ⟨g, 0, none⟩) n cap ∧ B ≤ g ∧ Writes w g n 1 (ic X) := by
      rcases h.writes with ⟨h0, _⟩ | h
      · exact absurd h0 hnz
      · exact h
    have hcap := h.cap_le
    have HN := Lib.hid hnz
    have HW := Lib.hid W1
    clear h W1 hnz
    go_enter Tryz.func94, Tryz.ntmps94
    go_wp2
    go_loopw [1, 5] (fun q i wr => ∃ k : Nat, k ≤ n ∧ i = .int .i64 (k : Int) ∧ q = .int .i64 ((N + k : Nat) : Int) ∧ Writes wr g n 1 (upto (marked N) (ic X) k) ∧ Below B w wr ∧ w.grownBy wr (some g)) (fun _ i _ => n - (intOf i).toNat)
    case atStart => exact ⟨0, Nat.zero_le _, rfl, by simp, by rw [upto_zero]; exact HW.out, Below.refl _ _, World.grownBy.refl _ _⟩
    case round =>
      obtain ⟨k, hk, rfl, rfl, U, hbel, hgr⟩ := hrel
      by_cases hlt : k < n
      · have i0 : (0 : Int) ≤ (k : Int) := by omega
        have i1 : (k : Int) < (n : Int) := by omega
        have c0 : wr.cell? ⟨g, k, none⟩ = some (.int .i64 (X k)) := by
          have := U.cell k hlt 0 (.int .i64 (X k)) (by rw [upto_ge (by omega)]; rfl)
          simpa using this
        have f0 := U.free
        have U3 := U.all hlt (fun _ => rfl) (fun _ => rfl)
        have U4 := setAll_below hbel g (k * 1) hBg (marked N k)
        have U5 := setAll_grown hgr (k * 1) (marked N k)
        simp only [marked, setAll, Nat.mul_one] at U3 U4 U5
        have HU := Lib.hid (And.intro U3 (And.intro U4 U5))
        clear U3 U4 U5 U hbel hgr
        go_wp2
        go_roundw
        case rel => exact ⟨k + 1, by omega, by go_num, by first | (congr 1; omega) | (congr 2; omega) | go_num, by first | exact HU.out.1 | simpa using HU.out.1, by first | exact HU.out.2.1 | simpa using HU.out.2.1, by first | exact HU.out.2.2 | simpa using HU.out.2.2⟩
        case measure => simp [intOf]; omega
      · obtain rfl : k = n := by omega
        have HU := Lib.hid U
        clear U
        go_wp2
        go_ret
        refine ⟨rfl, (HU.out.slab hBg _ hcap).same fun i hi => upto_lt hi, hbel, ?_⟩
        unfold rowOf
        rw [if_neg HN.out]; exact hgr
set_option maxHeartbeats 1000000 in
theorem heldI_any (w : World) (B N n : Nat) (v : Value) (hn : n ≤ 2000000) (hN : N ≤ 1000000000000) (h : Slab w B v n 1 (marked N)) :
    Calls Tryz.prog 96 #[v, .int .i64 (N : Int)] w fun e w' => e = .returned (.int .i64 ((N + n : Nat) : Int)) ∧ Below w.heap.size w w' := by
  by_cases hnz : n = 0
  · obtain ⟨a1, c1, rfl, _⟩ := id h
    subst hnz
    clear h
    go_enter Tryz.func96, Tryz.ntmps96
    go_wp2
    go_loopw [1, 5] (fun k i wr => i = .int .i64 0 ∧ k = .int .i64 (N : Int) ∧ wr = w) (fun _ _ _ => 0)
    case atStart => exact ⟨rfl, rfl, rfl⟩
    case round =>
      obtain ⟨rfl, rfl, rfl⟩ := hrel
      go_wp2
      go_ret
      exact ⟨by simp, Below.refl _ _⟩
  · obtain ⟨g, cap, rfl, hBg, W1⟩ : ∃ g cap, v = .slice (some ⟨g, 0, none⟩) n cap ∧ B ≤ g ∧ Writes w g n 1 (marked N) := by
      rcases h.writes with ⟨h0, _⟩ | h
      · exact absurd h0 hnz
      · exact h
    have HW := Lib.hid W1
    have hg := W1.here
    clear h W1 hnz
    go_enter Tryz.func96, Tryz.ntmps96
    go_wp2
    go_loopw [1, 5] (fun q i wr => ∃ k : Nat, k ≤ n ∧ i = .int .i64 (k : Int) ∧ q = .int .i64 ((N + k : Nat) : Int) ∧ Below w.heap.size w wr) (fun _ i _ => n - (intOf i).toNat)
    case atStart => exact ⟨0, Nat.zero_le _, rfl, by simp, Below.refl _ _⟩
    case round =>
      obtain ⟨k, hk, rfl, rfl, hbel⟩ := hrel
      by_cases hlt : k < n
      · have i0 : (0 : Int) ≤ (k : Int) := by omega
        have i1 : (k : Int) < (n : Int) := by omega
        have q0 : wr.cell? ⟨g, k, none⟩ = some (.int .i64 ((N : Int) + (k : Int))) := by
          rw [hbel.cell (p := ⟨g, k, none⟩) hg]
          have h := HW.out.cell k hlt 0 _ rfl
          simpa using h
        go_wp2
        go_roundw
        case rel => exact ⟨k + 1, by omega, by go_num, by first | (congr 1; omega) | (congr 2; omega) | go_num, hbel⟩
        case measure => simp [intOf]; omega
      · obtain rfl : k = n := by omega
        go_wp2
        go_ret
        exact ⟨rfl, hbel⟩
end Go.Proofs.YtjmfgbbngocodaaGreat.Ints

namespace Go.Proofs.YtjmfgbbngocodaaGreat.Stack
open Go.ChangeShapes Go.WideShapes Go.ChangeAt Go.RowKit
open Kit Slabs Ints
set_option linter.unusedVariables false
set_option linter.unusedSimpArgs false
set_option linter.unnecessarySimpa false
set_option maxRecDepth 100000
def Rd (w : World) (v : Value) (n : Nat) (X : Nat → Int) : Prop :=
  ∃ (a : Option Addr) (cap : Nat), v = .slice a n cap ∧ n ≤ cap ∧ (n = 0 ∨ ∃ g o, a = some ⟨g, o, none⟩ ∧ g < w.heap.size ∧ ∀ i, i < n → w.cell? ⟨g, o + i, none⟩ = some (.int .i64 (X i)))
theorem Rd.of_slab {w : World} {B n : Nat} {v : Value} {X : Nat → Int} (h : Slab w B v n 1 (ic X)) : Rd w v n X := by
  obtain ⟨a, cap, hv, hc, h⟩ := h
  refine ⟨a, cap, hv, hc, ?_⟩
  rcases h with h | ⟨g, ha, _, h2, _, h4⟩
  · exact .inl h
  · exact .inr ⟨g, 0, ha, h2, fun i hi => by have := h4 i hi 0 _ rfl; simpa using this⟩
theorem Rd.on {w w' : World} {v : Value} {n : Nat} {X : Nat → Int} (h : Rd w v n X) (hb : Below w.heap.size w w') : Rd w' v n X := by
  obtain ⟨a, cap, hv, hc, h⟩ := h
  refine ⟨a, cap, hv, hc, ?_⟩
  rcases h with h | ⟨g, o, ha, h2, h4⟩
  · exact .inl h
  · exact .inr ⟨g, o, ha, Nat.lt_of_lt_of_le h2 hb.size, fun i hi => (hb.cell (p := ⟨g, _, none⟩) h2).trans (h4 i hi)⟩
theorem Rd.part {w : World} {a : Option Addr} {cap n : Nat} {X : Nat → Int} (h : Rd w (.slice a n cap) n X) (i m : Nat) (him : i + m ≤ n) (hm : m ≠ 0) : ∃ g o, a = some ⟨g, o, none⟩ ∧ Rd w (.slice (some ⟨g, o + i, none⟩) m (cap - i)) m (fun j => X (i + j)) := by
  obtain ⟨a', cap', hv, hc, h⟩ := h
  injection hv with h1 h2 h3
  subst h1; subst h3
  rcases h with h | ⟨g, o, ha, h2, h4⟩
  · omega
  · exact ⟨g, o, ha, _, _, rfl, by omega, .inr ⟨g, o + i, rfl, h2, fun j hj => by have := h4 (i + j) (by omega); rw [Nat.add_assoc]; exact this⟩⟩
theorem flat_ic (X : Nat → Int) (n j : Nat) (h : j < n) : (flat (ic X) n)[j]? = some (.int .i64 (X j)) := by
  have := flat_get (ic_len X) (n := n) (i := j) (j := 0) h (by omega)
  simpa [ic] using this
theorem flat_ic_len (X : Nat → Int) (n : Nat) : (flat (ic X) n).length = n := by
  have := flat_length (ic_len X) n; simpa using this
theorem flat_one (X : Nat → Int) (n : Nat) : ∀ u ∈ flat (ic X) n, u.oneCell' = true := by
  intro u hu
  obtain ⟨j, hj, rfl⟩ := List.mem_iff_getElem.1 hu
  have hn : j < n := by rw [flat_ic_len] at hj; exact hj
  have h1 := flat_ic X n j hn
  rw [List.getElem?_eq_getElem hj] at h1
  rw [Option.some.inj h1]; simp [Value.oneCell']
set_option maxHeartbeats 1000000 in
theorem copy_spec (w : World) (v : Value) (n : Nat) (X : Nat → Int) (hn : n ≤ 2000000) (h : Rd w v n X) :
    Calls Tryz.prog 64 #[v] w fun e w' => ∃ u, e = .returned u ∧ w'.ownsRow w.heap.size 3 1 u n (flat (ic X) n) ∧ Below w.heap.size w w' := by
  obtain ⟨i0, hi0, hz0, hz1, hz2⟩ := info_parts info3
  have ho := World.ownsRow_made w #[] (e := 3) (size := 1) 0 (Nat.le_refl _) (by decide) (by simp)
  obtain ⟨a, cap, rfl, hc, h⟩ := h
  rcases h with h | ⟨g, o, rfl, hg, hcs⟩
  · subst h
    cases a with
    | none =>
      go_enter Tryz.func64, Tryz.ntmps64
      go_wp2
      go_ret
      exact ⟨_, rfl, ho, by go_grown⟩
    | some ad =>
      have HO := Lib.hid ho
      clear ho
      go_enter Tryz.func64, Tryz.ntmps64
      go_wp2_with (at_builtin; refine wpList_append_own _ rfl _ _ 22 rfl w.heap.size 3 i0 (.int .i64 0) 1 8 Tryz.underlying22 hi0 hz0 hz1 hz2 rfl (by decide) _ 0 [] rfl HO.out ad 0 cap [] rfl rfl ?c1 ?c2 ?c3 ?c4 ?c5 ?_)
      case c1 => intro j u hu; simp at hu
      case c2 => simp
      case c3 => unfold maxLen; omega
      case c4 => omega
      case c5 => simp
      intro v2 w2 hown hgrow _
      have hB := ((Below.refl w.heap.size w).alloc (Nat.le_refl _) (.cells #[] 3)).grown hgrow (by simp) (fun q hq => by have := (HO.out.lt q hq).1; omega)
      have HX := Lib.hid (And.intro hown hB)
      clear hown hB hgrow
      go_wp2
      go_ret
      exact ⟨_, rfl, by simpa [flat_zero] using HX.out.1, HX.out.2⟩
  · have HO := Lib.hid (And.intro ho hcs)
    clear ho hcs
    go_enter Tryz.func64, Tryz.ntmps64
    go_wp2_with (at_builtin; refine wpList_append_own _ rfl _ _ 22 rfl w.heap.size 3 i0 (.int .i64 0) 1 8 Tryz.underlying22 hi0 hz0 hz1 hz2 rfl (by decide) _ 0 [] rfl HO.out.1 ⟨g, o, none⟩ n cap (flat (ic X) n) rfl ?c0 ?c1 ?c2 ?c3 ?c4 ?c5 ?_)
    case c0 => rw [flat_ic_len]; omega
    case c1 =>
      intro j u hu
      have hj : j < n := by have := (List.getElem?_eq_some_iff.1 hu).1; rw [flat_ic_len] at this; exact this
      rw [flat_ic X n j hj] at hu
      injection hu with hu
      subst hu
      have h1 := HO.out.2 j hj
      have h2 : (w.alloc (.cells #[] 3)).cell? ⟨g, o + j, none⟩ = some (.int .i64 (X j)) := (World.cell?_alloc_lt _ _ _ hg).trans h1
      by_cases h0 : j = 0
      · subst h0; simpa [Addr.add] using h2
      · simpa [Addr.add, h0] using h2
    case c2 => exact flat_one X n
    case c3 => unfold maxLen; omega
    case c4 => omega
    case c5 => simp
    intro v2 w2 hown hgrow _
    have hB := ((Below.refl w.heap.size w).alloc (Nat.le_refl _) (.cells #[] 3)).grown hgrow (by simp) (fun q hq => by have := (HO.out.1.lt q hq).1; omega)
    have HX := Lib.hid (And.intro hown hB)
    clear hown hB hgrow
    go_wp2
    go_ret
    exact ⟨_, rfl, by simpa using HX.out.1, HX.out.2⟩
def numsB (X : Nat → Int) (n : Nat) : Bool := (List.range n).all fun i => decide (-9999 ≤ X i ∧ X i ≤ 9999)
def stB (X : Nat → Int) (n : Nat) : Bool := decide (n ≤ 12) && numsB X n
theorem numsB_succ (X : Nat → Int) (n : Nat) : numsB X (n + 1) = (numsB X n && decide (-9999 ≤ X n ∧ X n ≤ 9999)) := by
  simp [numsB, List.range_succ]
theorem numsB_iff (X : Nat → Int) (n : Nat) : numsB X n = true ↔ ∀ i, i < n → -9999 ≤ X i ∧ X i ≤ 9999 := by
  simp [numsB, List.all_eq_true]
theorem numsB_no {X : Nat → Int} {n i : Nat} (hi : i < n) (h : ¬ (-9999 ≤ X i ∧ X i ≤ 9999)) : numsB X n = false := by
  rw [← Bool.not_eq_true, numsB_iff]; exact fun h2 => h (h2 i hi)
set_option maxHeartbeats 1000000 in
theorem stok_spec (w : World) (v : Value) (n : Nat) (X : Nat → Int) (hn : n ≤ 2000000) (h : Rd w v n X) :
    Calls Tryz.prog 65 #[v] w fun e w' => e = .returned (.bool (stB X n)) ∧ w = w' := by
  obtain ⟨a, cap, rfl, hc, h⟩ := h
  by_cases hn0 : n = 0
  · subst hn0
    clear h
    go_enter Tryz.func65, Tryz.ntmps65
    go_wp2
    go_rounds 1
    go_ret
    exact ⟨rfl, rfl⟩
  · rcases h with h | ⟨g, o, rfl, hg, hcs⟩
    · exact absurd h hn0
    have HC := Lib.hid hcs
    clear hcs
    go_enter Tryz.func65, Tryz.ntmps65
    go_wp2
    go_loopw [3] (fun v3 wr => ∃ k : Nat, k ≤ n ∧ v3 = .int .i64 (k : Int) ∧ numsB X k = true ∧ wr = w) (fun v3 _ => n - (intOf v3).toNat)
    case atStart => exact ⟨0, Nat.zero_le _, rfl, rfl, rfl⟩
    case round =>
      obtain ⟨k, hk, rfl, hb, rfl⟩ := hrel
      have HB := Lib.hid hb
      clear hb
      by_cases hlt : k < n
      · have q0 := HC.out k hlt
        obtain ⟨x, hx⟩ : ∃ x, X k = x := ⟨_, rfl⟩
        rw [hx] at q0
        have i0 : (0 : Int) ≤ (k : Int) := by omega
        have i1 : (k : Int) < (n : Int) := by omega
        by_cases hr : -9999 ≤ x ∧ x ≤ 9999
        · have hs : numsB X (k + 1) = true := by rw [numsB_succ, HB.out, hx]; simp; omega
          have HS := Lib.hid hs
          clear hs hx
          have hd : decide (-9999 ≤ x ∧ x ≤ 9999) = true := by simpa using hr
          go_wp2_with (go_at_call 60; refine (Point.in_any _ _ _ _).mono ?_; rintro e w' ⟨rfl, rfl⟩; rw [hd])
          go_roundw
          case rel => exact ⟨k + 1, by omega, by go_num, HS.out, by first | rfl | trivial⟩
          case measure => simp [intOf]; omega
        · have hno : stB X n = false := by rw [stB, numsB_no hlt (by rw [hx]; exact hr)]; simp
          have HS := Lib.hid hno
          clear hno hx
          have hd : decide (-9999 ≤ x ∧ x ≤ 9999) = false := by simpa using hr
          go_wp2_with (go_at_call 60; refine (Point.in_any _ _ _ _).mono ?_; rintro e w' ⟨rfl, rfl⟩; rw [hd])
          go_ret
          exact ⟨ret_bool HS.out.symm, by first | rfl | trivial⟩
      · obtain rfl : k = n := by omega
        go_wp2
        go_ret
        exact ⟨ret_bool (by rw [stB, HB.out, Bool.and_true]; apply decide_eq_decide.2; omega), rfl⟩
end Go.Proofs.YtjmfgbbngocodaaGreat.Stack

namespace Go.Proofs.YtjmfgbbngocodaaGreat.Push
open Go.ChangeShapes Go.WideShapes Go.ChangeAt Go.RowKit
open Kit Slabs Ints Stack
set_option linter.unusedVariables false
set_option linter.unusedSimpArgs false
set_option linter.unnecessarySimpa false
set_option maxRecDepth 100000
def pt (X : Nat → Int) (n : Nat) (m : Int) (i : Nat) : Int := if i = n then m else X i
theorem pt_at (X : Nat → Int) (n : Nat) (m : Int) : pt X n m n = m := by simp [pt]
theorem pt_lt {X : Nat → Int} {n i : Nat} (m : Int) (h : i < n) : pt X n m i = X i := by simp [pt]; omega
theorem flat_ext {F G : Nat → List Value} {n : Nat} (h : ∀ i, i < n → F i = G i) : flat F n = flat G n := by
  induction n with
  | zero => rfl
  | succ n ih => rw [flat_succ, flat_succ, ih (fun i hi => h i (by omega)), h n (by omega)]
theorem flat_pt (X : Nat → Int) (n : Nat) (m : Int) : flat (ic X) n ++ [.int .i64 m] = flat (ic (pt X n m)) (n + 1) := by
  rw [flat_succ, flat_ext (F := ic (pt X n m)) (G := ic X) (fun i hi => by simp only [ic, pt_lt m hi])]
  simp only [ic, pt_at]
def puB (X : Nat → Int) (n : Nat) (m : Int) : Bool := stB X n && stB (pt X n m) (n + 1)
def puN (X : Nat → Int) (n : Nat) (m : Int) : Nat := if puB X n m = true then n + 1 else n
def PuLeft (X : Nat → Int) (n : Nat) (m : Int) (w : World) (e : Ending) (w' : World) : Prop :=
  ∃ u : Value, e = .returned (.tuple #[u, .bool (puB X n m)]) ∧ Slab w' w.heap.size u (puN X n m) 1 (ic (pt X n m)) ∧ Below w.heap.size w w'
theorem pu_no {X : Nat → Int} {n : Nat} {m : Int} (h : puB X n m = false) {w w1 w' : World} {u : Value} (hB : w.heap.size ≤ w1.heap.size) (ho : w'.ownsRow w1.heap.size 3 1 u n (flat (ic X) n)) (hb : Below w.heap.size w w') : PuLeft X n m w (.returned (.tuple #[u, .bool false])) w' := by
  refine ⟨u, by rw [h], ?_, hb⟩
  rw [show puN X n m = n by simp [puN, h]]
  exact ((Slab.of_owns ho (ic_len X)).weaken hB).same fun i hi => by simp only [ic, pt_lt m hi]
theorem owns_rd {w : World} {B n : Nat} {u : Value} {X : Nat → Int} (h : w.ownsRow B 3 1 u n (flat (ic X) n)) : Rd w u n X := Rd.of_slab (Slab.of_owns h (ic_len X))
theorem owns_on {w w' : World} {B : Nat} {T : TypeId} {c n : Nat} {v : Value} {xs : List Value} (h : w.ownsRow B T c v n xs) (hb : Below w.heap.size w w') : w'.ownsRow B T c v n xs :=
  h.kept (row := none) ⟨hb.os, hb.tape, hb.output, hb.size, fun k hk _ => hb.block k hk⟩ (by cases v.ownBlock <;> simp)
set_option maxHeartbeats 2000000 in
theorem push_spec (w : World) (v : Value) (n : Nat) (X : Nat → Int) (m : Int) (hn : n ≤ 1048576) (h : Rd w v n X) :
    Calls Tryz.prog 27 #[v, .int .i64 m] w (PuLeft X n m w) := by
  obtain ⟨i0, hi0, hz0, hz1, hz2⟩ := info_parts info3
  have HR := Lib.hid h
  clear h
  cases h1 : stB X n <;> cases h2 : stB (pt X n m) (n + 1)
  all_goals
    go_enter Tryz.func27, Tryz.ntmps27
    go_wp2_with fail
    ((with_reducible refine (copy_spec _ _ _ _ (by omega) HR.out).mono ?_); rintro e w1 ⟨u1, rfl, ho1, hb1⟩)
    have HO := Lib.hid ho1
    clear ho1
    go_wp2_with (at_builtin; refine wpList_append_own _ rfl _ _ 22 rfl w.heap.size 3 i0 (.int .i64 0) 1 8 Tryz.underlying22 hi0 hz0 hz1 hz2 rfl (by decide) _ _ _ rfl (HO.out.alloc _) ⟨w1.heap.size, 0, none⟩ 1 1 [.int .i64 m] rfl rfl ?c1 ?c2 ?c3 ?c4 ?c5 ?_)
    case c1 => exact World.news_of_block (cs := #[.int .i64 m]) (t := 3) (fr := (0, 0)) (heap_alloc_new w1 _)
    case c2 => simp [Value.oneCell']
    case c3 => unfold maxLen; omega
    case c4 => omega
    case c5 => have := hb1.size; simp; omega
    intro u2 w2 ho2 hgrow _
    rw [flat_pt] at ho2
    have hB2 : Below w.heap.size w w2 := (hb1.alloc hb1.size (.cells #[.int .i64 m] 3)).grown hgrow (by have := hb1.size; simp; omega) (fun q hq => by have := ((HO.out.alloc (.cells #[.int .i64 m] 3)).lt q hq).1; omega)
    have hr2 := owns_rd ho2
    have H2 := Lib.hid (And.intro ho2 (And.intro hB2 hr2))
    clear ho2 hB2 hr2 hgrow hb1
    go_wp2_with (first
      | (go_at_call 65; (with_reducible refine (stok_spec _ _ _ _ (by omega) (HR.out.on H2.out.2.1)).mono ?_); rintro e w' ⟨rfl, rfl⟩; rw [h1])
      | (go_at_call 65; (with_reducible refine (stok_spec _ _ _ _ (by omega) H2.out.2.2).mono ?_); rintro e w' ⟨rfl, rfl⟩; rw [h2])
      | (go_at_call 64; (with_reducible refine (copy_spec _ _ _ _ (by omega) (HR.out.on H2.out.2.1)).mono ?_); rintro e w3 ⟨u3, rfl, ho3, hb3⟩; have HB3 := Lib.hid (And.intro ho3 hb3); clear ho3 hb3))
    refine bodyPost_ret (by simp [results, Tryz.results27, go_sem, *]; try rfl) rfl ?_
  · exact pu_no (by simp [puB, h1]) H2.out.2.1.size HB3.out.1 (on_of H2.out.2.1 HB3.out.2)
  · exact pu_no (by simp [puB, h1]) H2.out.2.1.size HB3.out.1 (on_of H2.out.2.1 HB3.out.2)
  · exact pu_no (by simp [puB, h2]) H2.out.2.1.size HB3.out.1 (on_of H2.out.2.1 HB3.out.2)
  · have hb : puB X n m = true := by simp [puB, h1, h2]
    refine ⟨u2, by rw [hb], ?_, H2.out.2.1⟩
    rw [show puN X n m = n + 1 by simp [puN, hb]]
    exact Slab.of_owns H2.out.1 (ic_len _)
end Go.Proofs.YtjmfgbbngocodaaGreat.Push

namespace Go.Proofs.YtjmfgbbngocodaaGreat.Take
open Go.ChangeShapes Go.WideShapes Go.ChangeAt Go.RowKit
open Kit Slabs Ints Stack Push
set_option linter.unusedVariables false
set_option linter.unusedSimpArgs false
set_option linter.unnecessarySimpa false
set_option maxRecDepth 100000
theorem _root_.Go.Proofs.YtjmfgbbngocodaaGreat.Stack.Rd.tail {w : World} {g o cap n : Nat} {X : Nat → Int} (h : Rd w (.slice (some ⟨g, o, none⟩) n cap) n X) (i : Nat) (hi : i ≤ n) : Rd w (.slice (some ⟨g, o + i, none⟩) (n - i) (cap - i)) (n - i) (fun j => X (i + j)) := by
  obtain ⟨a', cap', hv, hc, h⟩ := h
  injection hv with h1 h2 h3
  subst h1; subst h3
  rcases h with h | ⟨g', o', ha, h2, h4⟩
  · exact ⟨_, _, rfl, by omega, .inl (by omega)⟩
  · injection ha with ha
    injection ha with e1 e2
    subst e1; subst e2
    exact ⟨_, _, rfl, by omega, .inr ⟨g, o + i, rfl, h2, fun j hj => by have := h4 (i + j) (by omega); rw [Nat.add_assoc]; exact this⟩⟩
def taB (X : Nat → Int) (n : Nat) (c : Int) : Bool := stB X n && decide (0 ≤ c ∧ c ≤ (n : Int))
theorem owns_mono {w : World} {B B' : Nat} {T : TypeId} {c n : Nat} {v : Value} {xs : List Value} (h : w.ownsRow B T c v n xs) (hB : B' ≤ B) : w.ownsRow B' T c v n xs := by
  refine ⟨h.1, ?_⟩
  rcases h.2 with hn | ⟨g, cap, cur, hv, hb, rest⟩
  · exact .inl hn
  · exact .inr ⟨g, cap, cur, hv, Nat.le_trans hB hb, rest⟩
def ta1 (X : Nat → Int) (n : Nat) (c : Int) : Nat := if taB X n c = true then n - c.toNat else n
def ta2 (X : Nat → Int) (n : Nat) (c : Int) : Nat := if taB X n c = true then c.toNat else 0
def TaLeft (X : Nat → Int) (n : Nat) (c : Int) (w : World) (e : Ending) (w' : World) : Prop :=
  ∃ u1 u2 : Value, e = .returned (.tuple #[u1, u2, .bool (taB X n c)]) ∧
    w'.ownsRow w.heap.size 3 1 u1 (ta1 X n c) (flat (ic X) (ta1 X n c)) ∧ w'.ownsRow w.heap.size 3 1 u2 (ta2 X n c) (flat (ic fun i => X (n - c.toNat + i)) (ta2 X n c)) ∧ Below w.heap.size w w'
def TaApart (X : Nat → Int) (n : Nat) (c : Int) (w : World) (e : Ending) (w' : World) : Prop :=
  ∃ u1 u2 : Value, e = .returned (.tuple #[u1, u2, .bool (taB X n c)]) ∧
    w'.ownsRow w.heap.size 3 1 u1 (ta1 X n c) (flat (ic X) (ta1 X n c)) ∧ w'.ownsRow w.heap.size 3 1 u2 (ta2 X n c) (flat (ic fun i => X (n - c.toNat + i)) (ta2 X n c)) ∧
    (∀ k, rowOf (ta1 X n c) u1 = some k → rowOf (ta2 X n c) u2 ≠ some k) ∧ Below w.heap.size w w'
theorem TaApart.left {X : Nat → Int} {n : Nat} {c : Int} {w : World} {e : Ending} {w' : World} (h : TaApart X n c w e w') : TaLeft X n c w e w' := by
  obtain ⟨u1, u2, h1, h2, h3, _, h5⟩ := h
  exact ⟨u1, u2, h1, h2, h3, h5⟩
theorem ta_yes {X : Nat → Int} {n k : Nat} (h : taB X n (k : Int) = true) {w w1 w' : World} {u1 u2 : Value} (hB : w.heap.size ≤ w1.heap.size) (h1 : w'.ownsRow w.heap.size 3 1 u1 (n - k) (flat (ic X) (n - k)))
    (h2 : w'.ownsRow w1.heap.size 3 1 u2 k (flat (ic fun i => X (n - k + i)) k)) (hb : Below w.heap.size w w') : TaLeft X n k w (.returned (.tuple #[u1, u2, .bool true])) w' := by
  have e1 : ta1 X n (k : Int) = n - k := by simp [ta1, h]
  have e2 : ta2 X n (k : Int) = k := by simp [ta2, h]
  refine ⟨u1, u2, by rw [h], by rw [e1]; exact h1, by rw [e2]; simpa using owns_mono h2 hB, hb⟩
theorem ta_no {X : Nat → Int} {n : Nat} {c : Int} (h : taB X n c = false) {w w' : World} {u1 u2 : Value} (h1 : w'.ownsRow w.heap.size 3 1 u1 n (flat (ic X) n)) (h2 : w'.ownsRow w.heap.size 3 1 u2 0 []) (hb : Below w.heap.size w w') : TaLeft X n c w (.returned (.tuple #[u1, u2, .bool false])) w' := by
  have e1 : ta1 X n c = n := by simp [ta1, h]
  have e2 : ta2 X n c = 0 := by simp [ta2, h]
  exact ⟨u1, u2, by rw [h], by rw [e1]; exact h1, by rw [e2]; exact h2, hb⟩
set_option maxHeartbeats 2000000 in
theorem take_spec (w : World) (v : Value) (n : Nat) (X : Nat → Int) (c : Int) (hn : n ≤ 1048576) (h : Rd w v n X) :
    Calls Tryz.prog 30 #[v, .int .i64 c] w (TaLeft X n c w) := by
  have HR := Lib.hid h
  cases hd : decide (0 ≤ c ∧ c ≤ (n : Int)) <;> cases h1 : stB X n
  case true.true =>
    have hd2 : 0 ≤ c ∧ c ≤ (n : Int) := by simpa using hd
    obtain ⟨k, rfl⟩ : ∃ k : Nat, c = k := ⟨c.toNat, by omega⟩
    have hk : k ≤ n := by omega
    obtain ⟨a, cap, rfl, hc, h⟩ := h
    have hcap : (n : Int) ≤ (cap : Int) := by omega
    have hnk : n - k ≤ 2000000 := by omega
    have hkk : k ≤ 2000000 := by omega
    rcases h with h0 | ⟨g, o, rfl, hg, hcs⟩
    · subst h0
      obtain rfl : k = 0 := by omega
      have hd : decide ((0 : Int) ≤ 0 ∧ (0 : Int) ≤ 0) = true := by simp
      clear hd2 hk hnk hkk hcap
      have hE : ∀ (W : World) (a : Option Addr) (cap : Nat), Rd W (.slice a 0 cap) 0 X := fun W a cap => ⟨a, cap, rfl, Nat.zero_le _, .inl rfl⟩
      have HE := Lib.hid hE
      clear hE
      clear HR
      have hcc : cap = 0 ∨ cap ≠ 0 := by omega
      rcases hcc with rfl | hcz
      all_goals
        cases a
        all_goals
          go_enter Tryz.func30, Tryz.ntmps30
          go_upto_region 4 with (first
            | (go_at_call 65; (with_reducible refine (stok_spec _ _ 0 X (by omega) (HE.out _ _ _)).mono ?_); rintro e w' ⟨rfl, rfl⟩; rw [h1])
            | (go_at_call 60; refine (Point.in_any _ _ _ _).mono ?_; rintro e w' ⟨rfl, rfl⟩; rw [hd]))
          go_region_held3 (fun w' => Below w.heap.size w w') (first | exact hB | go_grown) (first
            | (go_at_call 64; (with_reducible refine (copy_spec w.drew _ 0 X (by omega) (HE.out _ _ _)).mono ?_); rintro e w1 ⟨u1, rfl, ho1, hb1⟩; have hB := on_of (W := w) (by go_grown) hb1; have HO1 := Lib.hid ho1; clear ho1)
            | (go_at_call 64; (with_reducible refine (copy_spec _ _ 0 X (by omega) (HE.out _ _ _)).mono ?_); rintro e w2 ⟨u2, rfl, ho2, hb2⟩; have hB := on_of hB hb2; have HO2 := Lib.hid ho2; clear ho2)
            | (go_at_call 64; trace_state; fail))
          go_wp2
          refine bodyPost_ret (by simp [results, Tryz.results30, go_sem, *]; try rfl) rfl ?_
          have hb : taB X 0 ((0 : Nat) : Int) = true := by simp [taB, h1]
          exact ta_yes hb (by have := hb1.size; simpa using this) (owns_on HO1.out hb2) HO2.out hB
    · by_cases hcz : cap = n - k
      · obtain rfl : k = 0 := by omega
        have hcn : cap = n := by omega
        clear hcz hk hcap hc hnk hkk
        subst hcn
        have hd : decide ((0 : Int) ≤ 0 ∧ (0 : Int) ≤ (cap : Int)) = true := by simp
        clear hd2
        have HT : Hid (∀ W : World, Below w.heap.size w W → Rd W (.slice (some ⟨g, o, none⟩) 0 0) 0 (fun j => X (cap + j))) := Lib.hid fun W hW => ⟨_, _, rfl, Nat.le_refl _, .inl rfl⟩
        go_enter Tryz.func30, Tryz.ntmps30
        go_upto_region 4 with (first
          | (go_at_call 65; (with_reducible refine (stok_spec _ _ _ _ (by omega) HR.out).mono ?_); rintro e w' ⟨rfl, rfl⟩; rw [h1])
          | (go_at_call 60; refine (Point.in_any _ _ _ _).mono ?_; rintro e w' ⟨rfl, rfl⟩; rw [hd]))
        have HD : Hid (Rd w.drew (.slice (some ⟨g, o, none⟩) cap cap) cap X) := HR
        have hnn : cap ≤ 2000000 := by omega
        go_region_held3 (fun w' => Rd w' (.slice (some ⟨g, o, none⟩) cap cap) cap X ∧ Below w.heap.size w w') (first | exact ⟨HR.out, by go_grown⟩ | exact ⟨HR.out.on hB, hB⟩) (first
          | (go_at_call 64; (with_reducible refine (copy_spec w.drew _ cap X hnn HD.out).mono ?_); rintro e w1 ⟨u1, rfl, ho1, hb1⟩; have hB := on_of (W := w) (by go_grown) hb1; have HO1 := Lib.hid ho1; clear ho1)
          | (go_at_call 64; (with_reducible refine (copy_spec _ _ 0 _ (by omega) (HT.out _ hB)).mono ?_); rintro e w2 ⟨u2, rfl, ho2, hb2⟩; have hB := on_of hB hb2; have HO2 := Lib.hid ho2; clear ho2)
          | (go_at_call 64; trace_state; fail))
        go_wp2
        refine bodyPost_ret (by simp [results, Tryz.results30, go_sem, *]; try rfl) rfl ?_
        have hb : taB X cap ((0 : Nat) : Int) = true := by simp [taB, h1]
        exact ta_yes hb (by have := hb1.size; simpa using this) (owns_on HO1.out hb2) HO2.out hB
      · go_enter Tryz.func30, Tryz.ntmps30
        go_upto_region 4 with (first
          | (go_at_call 65; (with_reducible refine (stok_spec _ _ _ _ (by omega) HR.out).mono ?_); rintro e w' ⟨rfl, rfl⟩; rw [h1])
          | (go_at_call 60; refine (Point.in_any _ _ _ _).mono ?_; rintro e w' ⟨rfl, rfl⟩; rw [hd]))
        have hx1 : (0 : Int) ≤ (n : Int) - (k : Int) := by omega
        have hx2 : (n : Int) - (k : Int) ≤ (cap : Int) := by omega
        have hx3 : (n : Int) - (k : Int) ≤ (n : Int) := by omega
        have hA : ∀ W : World, Rd W (.slice (some ⟨g, o, none⟩) n cap) n X → Rd W (.slice (some ⟨g, o, none⟩) (n - k) cap) (n - k) X := fun W hW => by
          obtain ⟨a', cap', hv, hnc, h⟩ := hW
          injection hv with e1 e2 e3
          subst e1; subst e3
          refine ⟨_, _, rfl, by omega, ?_⟩
          rcases h with h | ⟨g', o', e, hl, hcell⟩
          · exact .inl (by omega)
          · exact .inr ⟨g', o', e, hl, fun i hi => hcell i (by omega)⟩
        have HD := Lib.hid (hA w.drew HR.out)
        have hTl : ∀ W : World, Below w.heap.size w W → Rd W (.slice (some ⟨g, o + (n - k), none⟩) (n - (n - k)) (cap - (n - k))) (n - (n - k)) (fun j => X (n - k + j)) := fun W hW => (HR.out.on hW).tail (n - k) (by omega)
        have HT := Lib.hid hTl
        have hnn : n - (n - k) ≤ 2000000 := by omega
        clear hA hTl
        go_region_held3 (fun w' => Rd w' (.slice (some ⟨g, o, none⟩) n cap) n X ∧ Below w.heap.size w w') (first | exact ⟨HR.out, by go_grown⟩ | exact ⟨HR.out.on hB, hB⟩) (first
          | (go_at_call 64; (with_reducible refine (copy_spec w.drew _ (n - k) X hnk HD.out).mono ?_); rintro e w1 ⟨u1, rfl, ho1, hb1⟩; have hB := on_of (W := w) (by go_grown) hb1; have HO1 := Lib.hid ho1; clear ho1)
          | (go_at_call 64; (with_reducible refine (copy_spec _ _ (n - (n - k)) _ hnn (HT.out _ hB)).mono ?_); rintro e w2 ⟨u2, rfl, ho2, hb2⟩; have hB := on_of hB hb2; have HO2 := Lib.hid ho2; clear ho2)
          | (go_at_call 64; trace_state; fail))
        go_wp2
        refine bodyPost_ret (by simp [results, Tryz.results30, go_sem, *]; try rfl) rfl ?_
        have hb : taB X n (k : Int) = true := by simp [taB, h1]; omega
        have h2 := HO2.out
        rw [show n - (n - k) = k by omega] at h2
        exact ta_yes hb (by have := hb1.size; simpa using this) (owns_on HO1.out hb2) h2 hB
  all_goals
    have hb : taB X n c = false := by simp [taB, h1]; try simpa using hd
    obtain ⟨a, cap, rfl, hnc, _⟩ := h
    go_enter Tryz.func30, Tryz.ntmps30
    go_wp2_with (first
      | (go_at_call 65; (with_reducible refine (stok_spec _ _ _ _ (by omega) HR.out).mono ?_); rintro e w' ⟨rfl, rfl⟩; rw [h1])
      | (go_at_call 60; refine (Point.in_any _ _ _ _).mono ?_; rintro e w' ⟨rfl, rfl⟩; rw [hd])
      | (go_at_call 64; (with_reducible refine (copy_spec _ _ _ _ (by omega) HR.out).mono ?_); rintro e w1 ⟨u1, rfl, ho1, hb1⟩; have HO1 := Lib.hid (And.intro ho1 hb1); clear ho1 hb1))
    refine bodyPost_ret (by simp [results, Tryz.results30, go_sem, *]; try rfl) rfl ?_
    exact ta_no hb (HO1.out.1.alloc _) (World.ownsRow_made w1 #[] (e := 3) (size := 1) 0 HO1.out.2.size (by decide) (by simp)) (HO1.out.2.alloc HO1.out.2.size _)
end Go.Proofs.YtjmfgbbngocodaaGreat.Take

namespace Go.Proofs.YtjmfgbbngocodaaGreat.Opn
open Go.ChangeShapes Go.WideShapes Go.ChangeAt Go.RowKit
open Kit Slabs Ints Stack Push Take
set_option linter.unusedVariables false
set_option linter.unusedSimpArgs false
set_option linter.unnecessarySimpa false
set_option maxRecDepth 100000
structure Nm (s : ByteArray) (a b c d e f g : Bool) : Prop where
  add : (s.toList == [97, 100, 100]) = a
  sub : (s.toList == [115, 117, 98]) = b
  mul : (s.toList == [109, 117, 108]) = c
  neg : (s.toList == [110, 101, 103]) = d
  dup : (s.toList == [100, 117, 112]) = e
  pop : (s.toList == [112, 111, 112]) = f
  exch : (s.toList == [101, 120, 99, 104]) = g
theorem nm_cases (s : ByteArray) : Nm s true false false false false false false ∨ Nm s false true false false false false false ∨ Nm s false false true false false false false ∨ Nm s false false false true false false false
    ∨ Nm s false false false false true false false ∨ Nm s false false false false false true false ∨ Nm s false false false false false false true ∨ Nm s false false false false false false false := by
  by_cases h1 : s.toList = [97, 100, 100]
  · left; constructor <;> rw [h1] <;> rfl
  by_cases h2 : s.toList = [115, 117, 98]
  · right; left; constructor <;> rw [h2] <;> rfl
  by_cases h3 : s.toList = [109, 117, 108]
  · right; right; left; constructor <;> rw [h3] <;> rfl
  by_cases h4 : s.toList = [110, 101, 103]
  · right; right; right; left; constructor <;> rw [h4] <;> rfl
  by_cases h5 : s.toList = [100, 117, 112]
  · right; right; right; right; left; constructor <;> rw [h5] <;> rfl
  by_cases h6 : s.toList = [112, 111, 112]
  · right; right; right; right; right; left; constructor <;> rw [h6] <;> rfl
  by_cases h7 : s.toList = [101, 120, 99, 104]
  · right; right; right; right; right; right; left; constructor <;> rw [h7] <;> rfl
  right; right; right; right; right; right; right
  constructor <;> (apply beq_eq_false_iff_ne.2; assumption)
def opB (s : ByteArray) : Bool := s.toList == [97, 100, 100] || s.toList == [115, 117, 98] || s.toList == [109, 117, 108] || s.toList == [110, 101, 103] || s.toList == [100, 117, 112] || s.toList == [112, 111, 112] || s.toList == [101, 120, 99, 104]
theorem opB_of {s : ByteArray} {a b c d e f g : Bool} (h : Nm s a b c d e f g) : opB s = (a || b || c || d || e || f || g) := by
  rw [opB, h.add, h.sub, h.mul, h.neg, h.dup, h.pop, h.exch]
set_option maxHeartbeats 1000000 in
theorem isop_spec (w : World) (s : ByteArray) : Calls Tryz.prog 28 #[.string s] w fun e w' => e = .returned (.bool (opB s)) ∧ w = w' := by
  rcases nm_cases s with h | h | h | h | h | h | h | h
  all_goals
    rw [opB_of h]
    have e1 := h.add
    have e2 := h.sub
    have e3 := h.mul
    have e4 := h.neg
    have e5 := h.dup
    have e6 := h.pop
    have e7 := h.exch
    go_enter Tryz.func28, Tryz.ntmps28
    go_wp2
    go_ret
    exact ⟨rfl, rfl⟩
end Go.Proofs.YtjmfgbbngocodaaGreat.Opn

