/-
  Texts of this seat, laid together: Ints, OwnTo
-/
import Derived.Laws.MakeOwn
import Derived.Laws.Entries
import Derived.Deep.RegionHeld3
import Derived.BigQuiet
import Derived.Deep.QuietTactic
import Derived.Test.YtbdjnfnphilklaaM03
import Derived.Test.YtbdjnfnphilklaaM09
import Derived.Test.YtbdjnfnphilklaaM04
import Derived.Test.YtbdjnfnphilklaaM10
namespace Go.Proofs.Ytbdjnfnphilklaa.Ints
open Go.ChangeShapes Go.WideShapes Go.ChangeAt Go.RowKit
open Kit Slabs
open Draw (IsRow)
set_option linter.unusedVariables false
set_option linter.unusedSimpArgs false
set_option linter.unnecessarySimpa false
set_option maxRecDepth 100000
theorem drewN_below {B : Nat} {a w : World} (h : Below B a w) (n : Nat) : Below B a (w.drewN n) := ⟨h.os, h.tape, h.output, h.size, h.block⟩
def ic (X : Nat → Int) (i : Nat) : List Value := [.int .i64 (X i)]
theorem ic_len (X : Nat → Int) (i : Nat) : (ic X i).length = 1 := rfl
theorem ic_cell {w : World} {g n : Nat} {X : Nat → Int} (h : Writes w g n 1 (ic X)) {i : Nat} (hi : i < n) : w.cell? ⟨g, i, none⟩ = some (.int .i64 (X i)) := by
  simpa using h.cell i hi 0 _ rfl
theorem row_cells {w : World} {a : Option Addr} {n cap : Nat} {z : List Int} (h : IsRow .i64 w a n cap z) (hn : n ≠ 0) : ∃ g o, a = some ⟨g, o, none⟩ ∧ g < w.heap.size ∧ ∀ i, i < n → w.cell? ⟨g, o + i, none⟩ = some (.int .i64 (z.getD i 0)) := by
  rcases h with ⟨_, h0, _, _⟩ | ⟨x, ha, hl, hm, hz, hc, hw⟩
  · exact absurd h0 hn
  · obtain ⟨g, o, s⟩ := x
    have h1 := hc 0 (by omega)
    have hs : s = none := by simpa [Addr.add] using World.cell?_spot h1
    subst hs
    refine ⟨g, o, ha, by simpa [Addr.add] using World.block_lt_of_cell? w _ h1, fun i hi => ?_⟩
    have h2 := hc i (by omega)
    by_cases h0 : i = 0
    · subst h0; simpa [Addr.add] using h2
    · simpa [Addr.add, h0] using h2
set_option maxHeartbeats 1000000 in
theorem eqI_same (w : World) (B1 B2 : Nat) (v1 v2 : Value) (n : Nat) (X : Nat → Int) (hn : n ≤ 2000000) (h1 : Slab w B1 v1 n 1 (ic X)) (h2 : Slab w B2 v2 n 1 (ic X)) :
    Calls Try.prog 76 #[v1, v2] w fun e w' => e = .returned (.bool true) ∧ Below w.heap.size w w' := by
  by_cases hn0 : n = 0
  · obtain ⟨a1, c1, rfl, _⟩ := h1
    obtain ⟨a2, c2, rfl, _⟩ := h2
    subst hn0
    go_enter Try.func76, Try.ntmps76
    go_wp2
    go_loopw [5] (fun i wr => i = .int .i64 0 ∧ Below w.heap.size w wr) (fun _ _ => 0)
    case atStart => exact ⟨rfl, Below.refl _ _⟩
    case round =>
      obtain ⟨rfl, hbel⟩ := hrel
      go_wp2
      go_ret
      exact ⟨rfl, hbel⟩
  · rcases h1.writes with ⟨h0, _⟩ | ⟨g1, c1, rfl, _, W1⟩
    · exact absurd h0 hn0
    rcases h2.writes with ⟨h0, _⟩ | ⟨g2, c2, rfl, _, W2⟩
    · exact absurd h0 hn0
    have H := Lib.hid (And.intro W1 W2)
    clear h1 h2 W1 W2 hn0
    go_enter Try.func76, Try.ntmps76
    go_wp2
    go_loopw [5] (fun i wr => ∃ k : Nat, k ≤ n ∧ i = .int .i64 (k : Int) ∧ Below w.heap.size w wr) (fun i _ => n - (intOf i).toNat)
    case atStart => exact ⟨0, Nat.zero_le _, rfl, Below.refl _ _⟩
    case round =>
      obtain ⟨k, hk, rfl, hbel⟩ := hrel
      by_cases hlt : k < n
      · have e1 := ic_cell (H.out.1.on hbel) hlt
        have e2 := ic_cell (H.out.2.on hbel) hlt
        have i0 : (0 : Int) ≤ (k : Int) := by omega
        have i1 : (k : Int) < (n : Int) := by omega
        go_wp2
        go_quiet (fail)
        go_wp2
        refine ⟨⟨k + 1, by omega, by go_num, drewN_below hbel _⟩, by simp [intOf]; omega⟩
      · obtain rfl : k = n := by omega
        go_wp2
        go_ret
        exact ⟨rfl, hbel⟩
theorem info3 : (Try.prog.info? 3).map (fun i => (i.zero, i.size, i.bytes)) = some (some (.int .i64 0), 1, 8) := by kernel_rfl
theorem zero_at (n i j : Nat) (u : Value) (hi : i < n) (hu : ([.int .i64 0] : List Value)[j]? = some u) : (madeCells #[.int .i64 0] (n * 1))[i * 1 + j]? = some u := by
  have hj : j < 1 := by have := (List.getElem?_eq_some_iff.1 hu).1; simpa using this
  obtain rfl : j = 0 := by omega
  simp only [List.getElem?_cons_zero, Option.some.injEq] at hu
  subst hu
  unfold madeCells
  rw [Array.getElem?_map, Array.getElem?_range, if_pos (by omega)]
  simp [Nat.mod_one]
set_option maxHeartbeats 1000000 in
theorem toI_rd (a : Option Addr) (n cap : Nat) (z : List Int) (w : World) (hn : n ≤ 1048576) (hr : n ≠ 0 → ∃ g o, a = some ⟨g, o, none⟩ ∧ g < w.heap.size ∧ ∀ i, i < n → w.cell? ⟨g, o + i, none⟩ = some (.int .i64 (z.getD i 0))) :
    Calls Try.prog 86 #[.slice a n cap] w fun e w' => ∃ v, e = .returned v ∧ Slab w' w.heap.size v n 1 (ic fun i => z.getD i 0) ∧ Below w.heap.size w w' := by
  obtain ⟨i0, hi0, hz0, hz1, hz2⟩ := info_parts info3
  have hmk := fun W : World => run_make_rowN (P := Try.prog) 27 3 i0 _ Try.underlying27 hi0 hz0 .i64 .i64 n n (Nat.le_refl _) (by rw [hz2]; omega) (by omega) W
  rw [hz1] at hmk
  clear hi0 hz0 hz1 hz2
  by_cases h0 : n = 0
  · subst h0
    have hmk0 := hmk
    simp only [Nat.zero_mul, Int.natCast_zero, Int.ofNat_zero, show ((0 : Nat) : Int) = 0 from rfl] at hmk0
    clear hmk hr
    go_enter Try.func86, Try.ntmps86
    go_wp2
    go_rounds 1
    go_ret
    exact ⟨_, rfl, ⟨_, _, rfl, Nat.le_refl _, .inl rfl⟩, by go_grown⟩
  · obtain ⟨g, o, rfl, hg, hcs⟩ := hr h0
    have HC := Lib.hid hcs
    clear hcs h0 hr
    go_enter Try.func86, Try.ntmps86
    go_wp2
    go_loopw [4] (fun v4 wr => ∃ k : Nat, k ≤ n ∧ v4 = .int .i64 (k : Int) ∧ Writes wr w.heap.size n 1 (upto (ic fun i => z.getD i 0) (fun _ => [.int .i64 0]) k) ∧ Below w.heap.size w wr) (fun v4 _ => n - (intOf v4).toNat)
    case atStart =>
      refine ⟨0, Nat.zero_le _, rfl, ⟨by simp, fun o => by simp, fun i hi j u hu => ?_⟩, by go_grown⟩
      rw [upto_zero] at hu
      rw [World.cell?_alloc_new]; have h9 := zero_at n i j u hi hu; rw [Nat.mul_one] at h9; exact h9
    case round =>
      obtain ⟨k, hk, rfl, U, hbel⟩ := hrel
      by_cases hlt : k < n
      · have q0 : wr.cell? ⟨g, o + k, none⟩ = some (.int .i64 (z.getD k 0)) := (hbel.cell (p := ⟨g, o + k, none⟩) hg).trans (HC.out k hlt)
        obtain ⟨x, hx⟩ : ∃ x, z.getD k 0 = x := ⟨_, rfl⟩
        rw [hx] at q0
        have i0 : (0 : Int) ≤ (k : Int) := by omega
        have i1 : (k : Int) < (n : Int) := by omega
        have c0 : wr.cell? ⟨w.heap.size, k, none⟩ = some (.int .i64 0) := by
          have := U.cell k hlt 0 (.int .i64 0) (by rw [upto_ge (by omega)]; rfl)
          simpa using this
        have f0 := U.free
        have U3 := U.all hlt (fun _ => rfl) (fun _ => rfl)
        have U4 := setAll_below hbel w.heap.size (k * 1) (Nat.le_refl _) (ic (fun i => z.getD i 0) k)
        simp only [ic, hx, setAll, Nat.mul_one] at U3 U4
        have HU := Lib.hid (And.intro U3 U4)
        clear U3 U4 U hx
        go_wp2
        go_roundw
        case rel => exact ⟨k + 1, by omega, by go_num, HU.out.1, HU.out.2⟩
        case measure => simp [intOf]; omega
      · obtain rfl : k = n := by omega
        go_wp2
        go_ret
        exact ⟨_, rfl, (U.slab (Nat.le_refl _) _ (Nat.le_refl _)).same fun i hi => upto_lt hi, hbel⟩
theorem toI_any (a : Option Addr) (n cap : Nat) (z : List Int) (w : World) (hn : n ≤ 1048576) (hr : IsRow .i64 w a n cap z) :
    Calls Try.prog 86 #[.slice a n cap] w fun e w' => ∃ v, e = .returned v ∧ Slab w' w.heap.size v n 1 (ic fun i => z.getD i 0) ∧ Below w.heap.size w w' :=
  toI_rd a n cap z w hn (fun h0 => row_cells hr h0)
def marked (N i : Nat) : List Value := [.int .i64 ((N + i : Nat) : Int)]
set_option maxHeartbeats 1000000 in
theorem markI_any (w : World) (B N n : Nat) (v : Value) (X : Nat → Int) (hn : n ≤ 2000000) (hN : N ≤ 1000000000000) (hB0 : B ≤ w.heap.size) (h : Slab w B v n 1 (ic X)) :
    Calls Try.prog 78 #[v, .int .i64 (N : Int)] w fun e w' => e = .returned (.int .i64 ((N + n : Nat) : Int)) ∧ Slab w' B v n 1 (marked N) ∧ Below B w w' ∧ w.grownBy w' (rowOf n v) := by
  by_cases hnz : n = 0
  · obtain ⟨a1, c1, rfl, _⟩ := id h
    subst hnz
    have HX := Lib.hid h
    clear h
    go_enter Try.func78, Try.ntmps78
    go_wp2
    go_loopw [1, 5] (fun k i wr => i = .int .i64 0 ∧ k = .int .i64 (N : Int) ∧ wr = w) (fun _ _ _ => 0)
    case atStart => exact ⟨rfl, rfl, rfl⟩
    case round =>
      obtain ⟨rfl, rfl, rfl⟩ := hrel
      go_wp2
      go_ret
      exact ⟨by simp, HX.out.same fun i hi => by omega, Below.refl _ _, World.grownBy.refl _ _⟩
  · obtain ⟨g, cap, rfl, hBg, W1⟩ : ∃ g cap, v = .slice (some ⟨g, 0, none⟩) n cap ∧ B ≤ g ∧ Writes w g n 1 (ic X) := by
      rcases h.writes with ⟨h0, _⟩ | h
      · exact absurd h0 hnz
      · exact h
    have hcap := h.cap_le
    have HN := Lib.hid hnz
    have HW := Lib.hid W1
    clear h W1 hnz
    go_enter Try.func78, Try.ntmps78
    go_wp2
    go_loopw [1, 5] (fun q i wr => ∃ k : Nat, k ≤ n ∧ i = .int .i64 (k : Int) ∧ q = .int .i64 ((N + k : Nat) : Int) ∧ Writes wr g n 1 (upto (marked N) (ic X) k) ∧ Below B w wr ∧ w.grownBy wr (some g)) (fun _ i _ => n - (intOf i).toNat)
    case atStart => exact ⟨0, Nat.zero_le _, rfl, by simp, by rw [upto_zero]; exact HW.out, Below.refl _ _, World.grownBy.refl _ _⟩
    case round =>
      obtain ⟨k, hk, rfl, rfl, U, hbel, hgr⟩ := hrel
      by_cases hlt : k < n
      · have i0 : (0 : Int) ≤ (k : Int) := by omega
        have i1 : (k : Int) < (n : Int) := by omega
        have c0 : wr.cell? ⟨g, k, none⟩ = some (.int .i64 (X k)) := by
          have := U.cell k hlt 0 (.int .i64 (X k)) (by rw [upto_ge (by omega)]; rfl)
          simpa using this
        have f0 := U.free
        have U3 := U.all hlt (fun _ => rfl) (fun _ => rfl)
        have U4 := setAll_below hbel g (k * 1) hBg (marked N k)
        have U5 := setAll_grown hgr (k * 1) (marked N k)
        simp only [marked, setAll, Nat.mul_one] at U3 U4 U5
        have HU := Lib.hid (And.intro U3 (And.intro U4 U5))
        clear U3 U4 U5 U hbel hgr
        go_wp2
        go_roundw
        case rel => exact ⟨k + 1, by omega, by go_num, by first | (congr 1; omega) | (congr 2; omega) | go_num, by first | exact HU.out.1 | simpa using HU.out.1, by first | exact HU.out.2.1 | simpa using HU.out.2.1, by first | exact HU.out.2.2 | simpa using HU.out.2.2⟩
        case measure => simp [intOf]; omega
      · obtain rfl : k = n := by omega
        have HU := Lib.hid U
        clear U
        go_wp2
        go_ret
        refine ⟨rfl, (HU.out.slab hBg _ hcap).same fun i hi => upto_lt hi, hbel, ?_⟩
        unfold rowOf
        rw [if_neg HN.out]; exact hgr
set_option maxHeartbeats 1000000 in
theorem heldI_any (w : World) (B N n : Nat) (v : Value) (hn : n ≤ 2000000) (hN : N ≤ 1000000000000) (h : Slab w B v n 1 (marked N)) :
    Calls Try.prog 80 #[v, .int .i64 (N : Int)] w fun e w' => e = .returned (.int .i64 ((N + n : Nat) : Int)) ∧ Below w.heap.size w w' := by
  by_cases hnz : n = 0
  · obtain ⟨a1, c1, rfl, _⟩ := id h
    subst hnz
    clear h
    go_enter Try.func80, Try.ntmps80
    go_wp2
    go_loopw [1, 5] (fun k i wr => i = .int .i64 0 ∧ k = .int .i64 (N : Int) ∧ wr = w) (fun _ _ _ => 0)
    case atStart => exact ⟨rfl, rfl, rfl⟩
    case round =>
      obtain ⟨rfl, rfl, rfl⟩ := hrel
      go_wp2
      go_ret
      exact ⟨by simp, Below.refl _ _⟩
  · obtain ⟨g, cap, rfl, hBg, W1⟩ : ∃ g cap, v = .slice (some ⟨g, 0, none⟩) n cap ∧ B ≤ g ∧ Writes w g n 1 (marked N) := by
      rcases h.writes with ⟨h0, _⟩ | h
      · exact absurd h0 hnz
      · exact h
    have HW := Lib.hid W1
    have hg := W1.here
    clear h W1 hnz
    go_enter Try.func80, Try.ntmps80
    go_wp2
    go_loopw [1, 5] (fun q i wr => ∃ k : Nat, k ≤ n ∧ i = .int .i64 (k : Int) ∧ q = .int .i64 ((N + k : Nat) : Int) ∧ Below w.heap.size w wr) (fun _ i _ => n - (intOf i).toNat)
    case atStart => exact ⟨0, Nat.zero_le _, rfl, by simp, Below.refl _ _⟩
    case round =>
      obtain ⟨k, hk, rfl, rfl, hbel⟩ := hrel
      by_cases hlt : k < n
      · have i0 : (0 : Int) ≤ (k : Int) := by omega
        have i1 : (k : Int) < (n : Int) := by omega
        have q0 : wr.cell? ⟨g, k, none⟩ = some (.int .i64 ((N : Int) + (k : Int))) := by
          rw [hbel.cell (p := ⟨g, k, none⟩) hg]
          have h := HW.out.cell k hlt 0 _ rfl
          simpa using h
        go_wp2
        go_roundw
        case rel => exact ⟨k + 1, by omega, by go_num, by first | (congr 1; omega) | (congr 2; omega) | go_num, hbel⟩
        case measure => simp [intOf]; omega
      · obtain rfl : k = n := by omega
        go_wp2
        go_ret
        exact ⟨rfl, hbel⟩
end Go.Proofs.Ytbdjnfnphilklaa.Ints
namespace Go.Proofs.Ytbdjnfnphilklaa.Own
open Go.ChangeShapes Go.WideShapes Go.ChangeAt Go.RowKit
open Kit Slabs Ints
open Draw (IsRow)
set_option linter.unusedVariables false
set_option linter.unusedSimpArgs false
set_option linter.unnecessarySimpa false
set_option maxRecDepth 100000
def Copied (w : World) (k : Kd) (v : Value) (d : Dt) (w' : World) : Prop := ∃ fp, Own w' k v.cells.toList d fp ∧ fp.Nodup ∧ (∀ b ∈ fp, w.heap.size ≤ b) ∧ Below w.heap.size w w'
theorem ints_of {w : World} {a : Option Addr} {n cap : Nat} {d : Dt} (h : Came w (.sl .int) [.slice a n cap] d) : ∃ es : List Dt, d = .sl es ∧ es.length = n ∧ es = (List.range n).map (fun i => Dt.int ((es.map Dt.num).getD i 0)) ∧
    (n ≠ 0 → ∃ g o, a = some ⟨g, o, none⟩ ∧ g < w.heap.size ∧ ∀ i, i < n → w.cell? ⟨g, o + i, none⟩ = some (.int .i64 ((es.map Dt.num).getD i 0))) := by
  cases h with
  | nil a cap hm => exact ⟨[], rfl, rfl, rfl, fun h => absurd rfl h⟩
  | @sl _ g o n cap es hl hn hnc hm hg hr =>
    have key : ∀ i (h : i < es.length), es[i] = .int ((es.map Dt.num).getD i 0) ∧ w.cell? ⟨g, o + i, none⟩ = some (.int .i64 ((es.map Dt.num).getD i 0)) := by
      intro i hi
      obtain ⟨cs, h1, h3⟩ := camer_at hr i hi
      have hgd : (es.map Dt.num).getD i 0 = (es[i]).num := by simp [List.getD, List.getElem?_eq_getElem hi]
      rw [hgd]
      generalize es[i] = x at h1 ⊢
      cases h1 with
      | int m hw => exact ⟨rfl, by have := h3 0 _ rfl; simpa [Kd.sz, Dt.num] using this⟩
    refine ⟨es, rfl, hl, ?_, fun _ => ⟨g, o, rfl, hg, fun i hi => (key i (by omega)).2⟩⟩
    apply List.ext_getElem
    · simp [hl]
    · intro i h1 h2
      simp only [List.getElem_map, List.getElem_range]
      exact (key i h1).1
theorem toI_came (w : World) (a : Option Addr) (n cap : Nat) (d : Dt) (hn : n ≤ 1048576) (h : Came w (.sl .int) [.slice a n cap] d) :
    Calls Try.prog 86 #[.slice a n cap] w fun e w' => ∃ (a' : Option Addr) (c' : Nat) (fp : List Nat), e = .returned (.slice a' n c') ∧ Own w' (.sl .int) [.slice a' n c'] d fp ∧ fp.Nodup ∧ (∀ b ∈ fp, w.heap.size ≤ b) ∧ Below w.heap.size w w' := by
  obtain ⟨es, rfl, hl, he, hr⟩ := ints_of h
  refine (toI_rd a n cap (es.map Dt.num) w hn hr).mono fun e w' ⟨v, hv, hs, hb⟩ => ?_
  have ho := own_of_slab (e := .int) (D := fun i => Dt.int ((es.map Dt.num).getD i 0)) hs rfl (fun i _ => .int _)
  rw [← he] at ho
  have hrow := hs.row
  obtain ⟨a', c', rfl, _⟩ := hs
  exact ⟨a', c', _, hv, ho, nodup_row _, fun b hbm => (hrow b (by simpa using hbm)).1, hb⟩
abbrev KPt : Kd := .st [.int, .int]
abbrev K4 : Kd := .st [.int, .int, .int, .int]
abbrev KGr : Kd := .st [.sl .int, K4, .sl KPt, .int, K4]
theorem pt_is {w : World} {cs : List Value} {d : Dt} (h : Came w KPt cs d) : ∃ x y : Int, cs = [.int .i64 x, .int .i64 y] ∧ d = .st [.int x, .int y] ∧ (Lit.int .i64 x).wf = true ∧ (Lit.int .i64 y).wf = true := by
  cases h with
  | st h =>
    cases h with
    | cons h1 h =>
      cases h1 with
      | int x hx =>
        cases h with
        | cons h2 h =>
          cases h2 with
          | int y hy => cases h; exact ⟨x, y, rfl, rfl, hx, hy⟩
def ptV (d : Dt) (j : Nat) : Value := match d with
  | .st [.int x, .int y] => if j = 0 then .int .i64 x else .int .i64 y
  | _ => undef
theorem own_pt (w : World) (x y : Int) : Own w KPt [.int .i64 x, .int .i64 y] (.st [.int x, .int y]) [] :=
  .st (.cons (cs := [.int .i64 x]) (fp := []) (.int x) (.cons (cs := [.int .i64 y]) (fp := []) (.int y) .nil))
theorem points_of {w : World} {a : Option Addr} {n cap : Nat} {d : Dt} (h : Came w (.sl KPt) [.slice a n cap] d) : ∃ es : List Dt, d = .sl es ∧ es.length = n ∧ (∀ i, i < n → ∃ x y : Int, es.getD i (.int 0) = .st [.int x, .int y]) ∧ Recs.IsRecs [.int .i64, .int .i64] w a n cap (fun i j => ptV (es.getD i (.int 0)) j) := by
  cases h with
  | nil a cap hm => exact ⟨[], rfl, rfl, fun i hi => by omega, Nat.zero_le _, hm, .inl rfl⟩
  | @sl _ g o n cap es hl hn hnc hm hg hr =>
    have key : ∀ i (h : i < es.length), ∃ x y : Int, es.getD i (.int 0) = .st [.int x, .int y] ∧ w.cell? ⟨g, o + (i * 2 + 0), none⟩ = some (.int .i64 x) ∧ w.cell? ⟨g, o + (i * 2 + 1), none⟩ = some (.int .i64 y) ∧ (Lit.int .i64 x).wf = true ∧ (Lit.int .i64 y).wf = true := by
      intro i hi
      obtain ⟨cs, h1, h3⟩ := camer_at hr i hi
      have hgd : es.getD i (.int 0) = es[i] := by simp [List.getD, List.getElem?_eq_getElem hi]
      rw [hgd]
      obtain ⟨x, y, rfl, hd, hx, hy⟩ := pt_is h1
      refine ⟨x, y, hd, ?_, ?_, hx, hy⟩
      · have := h3 0 _ rfl; rw [← Nat.add_assoc]; exact this
      · have := h3 1 _ rfl; rw [← Nat.add_assoc]; exact this
    refine ⟨es, rfl, hl, fun i hi => ?_, hnc, hm, .inr ⟨g, o, rfl, hg, fun i hi j kd hk => ?_⟩⟩
    · obtain ⟨x, y, h, _⟩ := key i (by omega); exact ⟨x, y, h⟩
    · obtain ⟨x, y, h, c0, c1, hx, hy⟩ := key i (by omega)
      have hj : j = 0 ∨ j = 1 := by
        have := (List.getElem?_eq_some_iff.1 hk).1
        simp at this; omega
      rcases hj with rfl | rfl
      · simp only [List.getElem?_cons_zero, Option.some.injEq] at hk
        subst hk
        simp only [h, ptV]
        exact ⟨c0, x, rfl, hx⟩
      · simp only [List.getElem?_cons_succ, List.getElem?_cons_zero, Option.some.injEq] at hk
        subst hk
        simp only [h, ptV]
        exact ⟨c1, y, rfl, hy⟩
theorem toP_came (w : World) (a : Option Addr) (n cap : Nat) (d : Dt) (hn : n ≤ 1048576) (h : Came w (.sl KPt) [.slice a n cap] d) :
    Calls Try.prog 110 #[.slice a n cap] w fun e w' => ∃ (a' : Option Addr) (c' : Nat) (fp : List Nat), e = .returned (.slice a' n c') ∧ Own w' (.sl KPt) [.slice a' n c'] d fp ∧ fp.Nodup ∧ (∀ b ∈ fp, w.heap.size ≤ b) ∧ Below w.heap.size w w' := by
  obtain ⟨es, rfl, hl, hs, hr⟩ := points_of h
  refine (Points.toS_any a n cap _ w hn hr).mono fun e w' ⟨v, hv, hsl, hb⟩ => ?_
  have ho := own_of_slab (e := KPt) (D := fun i => es.getD i (.int 0)) hsl rfl (fun i hi => by
    obtain ⟨x, y, h⟩ := hs i hi
    simp only [h, ptV]
    exact own_pt _ x y)
  have he : (List.range n).map (fun i => es.getD i (.int 0)) = es := by
    apply List.ext_getElem
    · simp [hl]
    · intro i h1 h2
      simp [List.getD, List.getElem?_eq_getElem h2]
  rw [he] at ho
  have hrow := hsl.row
  obtain ⟨a', c', rfl, _⟩ := hsl
  exact ⟨a', c', _, hv, ho, nodup_row _, fun b hbm => (hrow b (by simpa using hbm)).1, hb⟩
end Go.Proofs.Ytbdjnfnphilklaa.Own
