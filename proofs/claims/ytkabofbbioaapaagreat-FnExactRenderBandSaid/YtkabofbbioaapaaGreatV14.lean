/-
  Texts of this seat, laid together: Points, Cl9
-/
import Derived.Laws.MakeOwn
import Derived.Laws.Entries
import Derived.Deep.RegionHeld3
import Derived.Test.YtkabofbbioaapaaGreatV09
import Derived.Test.YtkabofbbioaapaaGreatV02
import Derived.Test.YtkabofbbioaapaaGreatV10
import Derived.Test.YtkabofbbioaapaaGreatV19
import Derived.Test.YtkabofbbioaapaaGreatV21
namespace Go.Proofs.YtkabofbbioaapaaGreat.Points
open Go.ChangeShapes Go.WideShapes Go.ChangeAt Go.RowKit
open Kit Slabs Recs Marking
set_option linter.unusedVariables false
set_option linter.unusedSimpArgs false
set_option linter.unnecessarySimpa false
theorem to_any (x0 : Int) (x1 : Int) (w : World) : Calls Tryz.prog 120 #[.agg #[.int .i64 x0, .int .i64 x1]] w fun e w' => e = .returned (.agg #[.int .i64 x0, .int .i64 x1]) ∧ Below w.heap.size w w' := by
  go_enter Tryz.func120, Tryz.ntmps120
  go_wp2
  go_returns
  exact ⟨rfl, by go_grown⟩
theorem eq_same (x0 : Int) (x1 : Int) (w : World) : Calls Tryz.prog 121 #[.agg #[.int .i64 x0, .int .i64 x1], .agg #[.int .i64 x0, .int .i64 x1]] w fun e w' => e = .returned (.bool true) ∧ Below w.heap.size w w' := by
  go_enter Tryz.func121, Tryz.ntmps121
  go_wp2
  go_ret
  exact ⟨rfl, by go_grown⟩
def Shape (F : Nat → List Value) (n : Nat) : Prop := ∀ i, i < n → ∃ (x0 : Int) (x1 : Int), F i = [.int .i64 x0, .int .i64 x1]
theorem cells_of {w : World} {g n : Nat} {F : Nat → List Value} (h : ∀ i, i < n → ∀ j u, (F i)[j]? = some u → w.cell? ⟨g, i * 2 + j, none⟩ = some u) {i : Nat} (hi : i < n) {x0 : Int} {x1 : Int} (e : F i = [.int .i64 x0, .int .i64 x1]) : w.cell? ⟨g, i * 2, none⟩ = some (.int .i64 x0) ∧ w.cell? ⟨g, i * 2 + 1, none⟩ = some (.int .i64 x1) := by
  have h0 := h i hi
  rw [e] at h0
  exact ⟨by simpa using h0 0 _ rfl, by simpa using h0 1 _ rfl⟩
set_option maxHeartbeats 1000000 in
theorem eqS_same (w : World) (B1 B2 : Nat) (v1 v2 : Value) (n : Nat) (F : Nat → List Value) (hn : n ≤ 1048576) (h1 : Slab w B1 v1 n 2 F) (h2 : Slab w B2 v2 n 2 F) (hs : Shape F n) :
    Calls Tryz.prog 87 #[v1, v2] w fun e w' => e = .returned (.bool true) ∧ Below w.heap.size w w' := by
  rcases h1.writes with ⟨h0, a1, c1, rfl⟩ | ⟨g1, c1, rfl, _, W1⟩
  · subst h0
    obtain ⟨a2, c2, rfl, _⟩ := h2
    clear h1 hs
    go_enter Tryz.func87, Tryz.ntmps87
    go_wp2
    go_loopw [5] (fun i wr => i = .int .i64 0 ∧ Below w.heap.size w wr) (fun _ _ => 0)
    case atStart => exact ⟨rfl, Below.refl _ _⟩
    case round =>
      obtain ⟨rfl, hbel⟩ := hrel
      go_wp2
      go_ret
      exact ⟨rfl, hbel⟩
  · rcases h2.writes with ⟨h0, a2, c2, rfl⟩ | ⟨g2, c2, rfl, _, W2⟩
    · subst h0
      clear h1 h2 hs W1
      go_enter Tryz.func87, Tryz.ntmps87
      go_wp2
      go_loopw [5] (fun i wr => i = .int .i64 0 ∧ Below w.heap.size w wr) (fun _ _ => 0)
      case atStart => exact ⟨rfl, Below.refl _ _⟩
      case round =>
        obtain ⟨rfl, hbel⟩ := hrel
        go_wp2
        go_ret
        exact ⟨rfl, hbel⟩
    · have H := Lib.hid (And.intro W1 W2)
      have HS := Lib.hid hs
      clear h1 h2 hs W1 W2
      go_enter Tryz.func87, Tryz.ntmps87
      go_wp2
      go_loopw [5] (fun i wr => ∃ k : Nat, k ≤ n ∧ i = .int .i64 (k : Int) ∧ Below w.heap.size w wr) (fun i _ => n - (intOf i).toNat)
      case atStart => exact ⟨0, Nat.zero_le _, rfl, Below.refl _ _⟩
      case round =>
        obtain ⟨k, hk, rfl, hbel⟩ := hrel
        by_cases hlt : k < n
        · obtain ⟨x0, x1, hf⟩ := HS.out k hlt
          obtain ⟨p0, p1⟩ := cells_of H.out.1.cell hlt hf
          obtain ⟨q0, q1⟩ := cells_of H.out.2.cell hlt hf
          have g1l := H.out.1.here
          have g2l := H.out.2.here
          have i0 : (0 : Int) ≤ (k : Int) := by omega
          have i1 : (k : Int) < (n : Int) := by omega
          have hsz := hbel.size
          obtain ⟨hc, hf2, hz⟩ := bcell3 hbel
          clear hf
          go_wp2_with fail
          go_region_held3 (fun w' => (∀ b o, b < w.heap.size → w'.cell? ⟨b, o, none⟩ = w.cell? ⟨b, o, none⟩) ∧ Below w.heap.size w w') ((refine keepS ?_; go_grown; done))
            ((go_at_call 121; (with_reducible refine (eq_same _ _ _).mono ?_); rintro e w' ⟨rfl, hb⟩; have hB := on_of (W := w) (by go_grown) hb))
          go_wp2
          go_roundw
          case rel => exact ⟨k + 1, by omega, by go_num, hB⟩
          case measure => simp [intOf]; omega
        · obtain rfl : k = n := by omega
          go_wp2
          go_ret
          exact ⟨rfl, hbel⟩
def kl : List FK := [.int .i64, .int .i64]
theorem rec_at {w : World} {a : Option Addr} {n cap : Nat} {z : Nat → Nat → Value} (h : IsRecs kl w a n cap z) {i : Nat} (hi : i < n) : ∃ (x0 : Int) (x1 : Int), z i 0 = .int .i64 x0 ∧ z i 1 = .int .i64 x1 := by
  obtain ⟨_, _, h | ⟨g, o, _, _, h⟩⟩ := h
  · omega
  · obtain ⟨x0, e0, _⟩ := (h i hi 0 _ rfl).2
    obtain ⟨x1, e1, _⟩ := (h i hi 1 _ rfl).2
    exact ⟨x0, x1, e0, e1⟩
theorem rec_shape {w : World} {a : Option Addr} {n cap : Nat} {z : Nat → Nat → Value} (h : IsRecs kl w a n cap z) : Shape (fun i => [z i 0, z i 1]) n := by
  intro i hi
  obtain ⟨x0, x1, e0, e1⟩ := rec_at h hi
  exact ⟨x0, x1, by simp only [e0, e1]⟩
theorem rec_cells {w : World} {g o n : Nat} {z : Nat → Nat → Value} (h : ∀ i, i < n → ∀ j kd, kl[j]? = some kd → w.cell? ⟨g, o + (i * kl.length + j), none⟩ = some (z i j) ∧ kd.fits (z i j)) {i : Nat} (hi : i < n) : w.cell? ⟨g, o + i * 2, none⟩ = some (z i 0) ∧ w.cell? ⟨g, o + i * 2 + 1, none⟩ = some (z i 1) :=
  ⟨(h i hi 0 _ rfl).1, (h i hi 1 _ rfl).1⟩
theorem zero_at (n i j : Nat) (u : Value) (hi : i < n) (hu : ([.int .i64 0, .int .i64 0] : List Value)[j]? = some u) : (madeCells #[.int .i64 0, .int .i64 0] (n * 2))[i * 2 + j]? = some u := by
  have hj : j < 2 := by have := (List.getElem?_eq_some_iff.1 hu).1; simpa using this
  unfold madeCells
  rw [Array.getElem?_map, Array.getElem?_range, if_pos (by have := Nat.mul_le_mul_right 2 (show i + 1 ≤ n by omega); rw [Nat.succ_mul] at this; omega)]
  have h1 : (i * 2 + j) % 2 = j := by omega
  simp only [Option.map_some]
  have h2 : j = 0 ∨ j = 1 := by omega
  rcases h2 with rfl | rfl <;> (simp only [List.getElem?_cons_zero, List.getElem?_cons_succ, Option.some.injEq] at hu; subst hu; simp [h1] <;> (try simp at h1) <;> (try simp [h1]))
theorem info_t : (Tryz.prog.info? 123).map (fun i => (i.zero, i.size, i.bytes)) = some (some (.agg #[.int .i64 0, .int .i64 0]), 2, 16) := by kernel_rfl
set_option maxHeartbeats 1000000 in
theorem toS_any (a : Option Addr) (n cap : Nat) (z : Nat → Nat → Value) (w : World) (hn : n ≤ 1048576) (hr : IsRecs kl w a n cap z) :
    Calls Tryz.prog 85 #[.slice a n cap] w fun e w' => ∃ v, e = .returned v ∧ Slab w' w.heap.size v n 2 (fun i => [z i 0, z i 1]) ∧ Below w.heap.size w w' := by
  obtain ⟨i0, hi0, hz0, hz1, hz2⟩ := info_parts info_t
  have hmk := fun W : World => run_make_rowN (P := Tryz.prog) 48 123 i0 _ Tryz.underlying48 hi0 hz0 .i64 .i64 n n (Nat.le_refl _) (by rw [hz2]; omega) (by omega) W
  rw [hz1] at hmk
  clear hi0 hz0 hz1 hz2
  have HR := Lib.hid hr
  by_cases h0 : n = 0
  · subst h0
    have hmk0 := hmk
    simp only [Nat.zero_mul, Int.natCast_zero, Int.ofNat_zero, show ((0 : Nat) : Int) = 0 from rfl] at hmk0
    clear hmk hr
    go_enter Tryz.func85, Tryz.ntmps85
    go_wp2
    go_rounds 1
    go_ret
    exact ⟨_, rfl, ⟨_, _, rfl, Nat.le_refl _, .inl rfl⟩, by go_grown⟩
  · obtain ⟨_, _, hx | ⟨g, o, rfl, hg, hcs⟩⟩ := hr
    · exact absurd hx h0
    have HC := Lib.hid hcs
    clear hcs h0
    go_enter Tryz.func85, Tryz.ntmps85
    go_wp2
    go_loopw [4] (fun v4 wr => ∃ k : Nat, k ≤ n ∧ v4 = .int .i64 (k : Int) ∧ Writes wr w.heap.size n 2 (upto (fun i => [z i 0, z i 1]) (fun _ => [.int .i64 0, .int .i64 0]) k) ∧ Below w.heap.size w wr) (fun v4 _ => n - (intOf v4).toNat)
    case atStart =>
      refine ⟨0, Nat.zero_le _, rfl, ⟨by simp, fun o => by simp, fun i hi j u hu => ?_⟩, by go_grown⟩
      rw [upto_zero] at hu
      rw [World.cell?_alloc_new]; exact zero_at n i j u hi hu
    case round =>
      obtain ⟨k, hk, rfl, U, hbel⟩ := hrel
      by_cases hlt : k < n
      · obtain ⟨x0, x1, e0, e1⟩ := rec_at HR.out hlt
        obtain ⟨h0, h1⟩ := rec_cells HC.out hlt
        rw [e0] at h0
        rw [e1] at h1
        have q0 : wr.cell? ⟨g, o + k * 2, none⟩ = some (.int .i64 x0) := by rw [hbel.cell (p := ⟨g, o + k * 2, none⟩) hg]; simpa [Nat.add_assoc] using h0
        have q1 : wr.cell? ⟨g, o + k * 2 + 1, none⟩ = some (.int .i64 x1) := by rw [hbel.cell (p := ⟨g, o + k * 2 + 1, none⟩) hg]; simpa [Nat.add_assoc] using h1
        clear h0 h1
        have i0 : (0 : Int) ≤ (k : Int) := by omega
        have i1 : (k : Int) < (n : Int) := by omega
        have HU := Lib.hid U
        have HE := Lib.hid (show (fun i => [z i 0, z i 1] : Nat → List Value) k = [.int .i64 x0, .int .i64 x1] by simp only [e0, e1])
        clear U e0 e1
        go_wp2_with (go_at_call 120; (with_reducible refine (to_any _ _ _).mono ?_); rintro e w' ⟨rfl, hb⟩; have hB := on_of (W := w) (by go_grown) hb; have U2 := HU.out.on hb; obtain ⟨c0, c1⟩ := cells_of U2.cell hlt (upto_ge (by omega)); have f0 := U2.free; have hh := U2.here; clear hb)
        have U3 := U2.all hlt (fun _ => rfl) (fun _ => rfl)
        rw [HE.out] at U3
        have U4 := setAll_below hB w.heap.size (k * 2) (Nat.le_refl _) [.int .i64 x0, .int .i64 x1]
        go_roundw
        case rel => exact ⟨k + 1, by omega, by go_num, by first | exact U3 | simpa [setAll] using U3, by first | exact U4 | simpa [setAll] using U4⟩
        case measure => simp [intOf]; omega
      · obtain rfl : k = n := by omega
        go_wp2
        go_ret
        exact ⟨_, rfl, (U.slab (Nat.le_refl _) _ (Nat.le_refl _)).same fun i hi => upto_lt hi, hbel⟩
def marked (N i : Nat) : List Value := [.int .i64 ((N + i * 2 : Nat) : Int), .int .i64 ((N + i * 2 + 1 : Nat) : Int)]
set_option maxHeartbeats 2000000 in
theorem markS_any (w : World) (B N n : Nat) (v : Value) (F : Nat → List Value) (hn : n ≤ 2000000) (hN0 : 0 < N) (hN : N ≤ 1000000000000) (hB0 : B ≤ w.heap.size) (h : Slab w B v n 2 F) (hs : Shape F n) (hl : ∀ i, (F i).length = 2) :
    Calls Tryz.prog 47 #[v, .int .i64 (N : Int)] w fun e w' => e = .returned (.int .i64 ((N + n * 2 : Nat) : Int)) ∧ Slab w' B v n 2 (marked N) ∧ Below B w w' ∧ w.grownBy w' (rowOf n v) := by
  by_cases hnz : n = 0
  · obtain ⟨a1, c1, rfl, _⟩ := id h
    subst hnz
    have HX := Lib.hid h
    clear hs h
    go_enter Tryz.func47, Tryz.ntmps47
    go_wp2
    go_loopw [1, 5] (fun k i wr => i = .int .i64 0 ∧ k = .int .i64 (N : Int) ∧ wr = w) (fun _ _ _ => 0)
    case atStart => exact ⟨rfl, rfl, rfl⟩
    case round =>
      obtain ⟨rfl, rfl, rfl⟩ := hrel
      go_wp2
      go_ret
      exact ⟨by simp, HX.out.same fun i hi => by omega, Below.refl _ _, World.grownBy.refl _ _⟩
  · obtain ⟨g, cap, rfl, hBg, W1⟩ : ∃ g cap, v = .slice (some ⟨g, 0, none⟩) n cap ∧ B ≤ g ∧ Writes w g n 2 F := by
      rcases h.writes with ⟨h0, _⟩ | h
      · exact absurd h0 hnz
      · exact h
    have hcap := h.cap_le
    have hn0 : ¬ n = 0 := by
      intro h0; apply hnz; exact h0
    have HS := Lib.hid hs
    have HL := Lib.hid hl
    have HW := Lib.hid W1
    clear h hs hl W1
    go_enter Tryz.func47, Tryz.ntmps47
    go_wp2
    go_loopw [1, 5] (fun q i wr => ∃ k : Nat, k ≤ n ∧ i = .int .i64 (k : Int) ∧ q = .int .i64 ((N + k * 2 : Nat) : Int) ∧ Writes wr g n 2 (upto (marked N) F k) ∧ Below B w wr ∧ w.grownBy wr (some g)) (fun _ i _ => n - (intOf i).toNat)
    case atStart => exact ⟨0, Nat.zero_le _, rfl, by simp, by rw [upto_zero]; exact HW.out, Below.refl _ _, World.grownBy.refl _ _⟩
    case round =>
      obtain ⟨k, hk, rfl, rfl, U, hbel, hgr⟩ := hrel
      by_cases hlt : k < n
      · obtain ⟨x0, x1, hf⟩ := HS.out k hlt
        have hfk : upto (marked N) F k k = [.int .i64 x0, .int .i64 x1] := (upto_ge (by omega)).trans hf
        have HU := Lib.hid U
        have i0 : (0 : Int) ≤ (k : Int) := by omega
        have i1 : (k : Int) < (n : Int) := by omega
        have U2 := HU.out
        obtain ⟨c0, c1⟩ := cells_of U2.cell hlt hfk
        have f0 := U2.free
        have hB := hbel
        have hG := hgr
        clear U hf
        go_wp2_with fail
        have U3 := U2.all hlt HL.out (fun _ => rfl)
        have U4 := setAll_below hB g (k * 2) hBg [.int .i64 ((N + k * 2 : Nat) : Int), .int .i64 ((N + k * 2 + 1 : Nat) : Int)]
        have U5 := setAll_grown hG (k * 2) [.int .i64 ((N + k * 2 : Nat) : Int), .int .i64 ((N + k * 2 + 1 : Nat) : Int)]
        go_roundw
        case rel => exact ⟨k + 1, by omega, by go_num, by first | (congr 1; omega) | (congr 2; omega) | go_num, by first | exact U3 | simpa [setAll, marked] using U3, by first | exact U4 | simpa [setAll, marked] using U4, by first | exact U5 | simpa [setAll, marked] using U5⟩
        case measure => simp [intOf]; omega
      · obtain rfl : k = n := by omega
        have HU := Lib.hid U
        clear U
        go_wp2
        go_ret
        refine ⟨rfl, (HU.out.slab hBg _ hcap).same fun i hi => upto_lt hi, hbel, ?_⟩
        unfold rowOf
        split
        · rename_i h0; exact absurd h0 hn0
        · exact hgr
theorem szS_any (a : Option Addr) (n cap : Nat) (L : Int) (w : World) (h0 : 0 ≤ L) (h1 : L ≤ 1048576) (hn : n ≤ 9223372036854775807) : Calls Tryz.prog 79 #[.slice a n cap, .int .i64 L] w fun e w' => e = .returned (.int .i64 (if (n : Int) ≤ L then L - (n : Int) else -1)) ∧ w = w' := by
  by_cases h : (n : Int) ≤ L
  · have h2 : ¬ (L - (n : Int) < 0) := by omega
    go_enter Tryz.func79, Tryz.ntmps79
    go_wp2
    all_goals go_ret
    all_goals exact ⟨by simp [h], rfl⟩
  · have h2 : L - (n : Int) < 0 := by omega
    go_enter Tryz.func79, Tryz.ntmps79
    go_wp2
    all_goals go_ret
    all_goals exact ⟨by simp [h], rfl⟩
end Go.Proofs.YtkabofbbioaapaaGreat.Points
namespace Go.Proofs.YtkabofbbioaapaaGreat.Ins
open Point
set_option linter.unusedVariables false
set_option linter.unusedSimpArgs false
set_option linter.unnecessarySimpa false
theorem byd_two (lx ly hx hy x y : Int) : byd lx ly hx hy x y = (2 * (hy - ly) - (2 * (y - ly) + 1)) * (lx - x) + (2 * (y - ly) + 1) * (hx - x) - (hy - ly) := by
  unfold byd
  generalize hy - ly = h
  generalize 2 * (y - ly) + 1 = t
  have e1 : (2 * (lx - x) - 1) * h = 2 * (h * (lx - x)) - h := by rw [Int.sub_mul, Int.one_mul, Int.mul_assoc, Int.mul_comm (lx - x) h]
  have e2 : (2 * h - t) * (lx - x) = 2 * (h * (lx - x)) - t * (lx - x) := by rw [Int.sub_mul, Int.mul_assoc]
  have e3 : t * (hx - lx) = t * (hx - x) - t * (lx - x) := by rw [← Int.mul_sub]; congr 1; omega
  omega
theorem mul_ge_one {a b : Int} (ha : 1 ≤ a) (hb : 1 ≤ b) : a ≤ a * b := by
  have := Int.mul_le_mul_of_nonneg_left hb (show 0 ≤ a by omega)
  omega
theorem mul_np {a b : Int} (ha : 0 ≤ a) (hb : b ≤ 0) : a * b ≤ 0 := by
  have := Int.mul_le_mul_of_nonneg_left hb ha
  omega
theorem byd_right {lx ly hx hy x y : Int} (h1 : ly ≤ y) (h2 : y < hy) (ha : lx ≤ x) (hb : hx ≤ x) : ¬ 0 < byd lx ly hx hy x y := by
  rw [byd_two]
  have := @mul_np (2 * (hy - ly) - (2 * (y - ly) + 1)) (lx - x) (by omega) (by omega)
  have := @mul_np (2 * (y - ly) + 1) (hx - x) (by omega) (by omega)
  omega
theorem byd_left {lx ly hx hy x y : Int} (h1 : ly ≤ y) (h2 : y < hy) (ha : x < lx) (hb : x < hx) : 0 < byd lx ly hx hy x y := by
  rw [byd_two]
  have := @mul_ge_one (2 * (hy - ly) - (2 * (y - ly) + 1)) (lx - x) (by omega) (by omega)
  have := @mul_ge_one (2 * (y - ly) + 1) (hx - x) (by omega) (by omega)
  omega
theorem byd_mono {lx ly hx hy x x' y : Int} (h : ly < hy) (hx' : x' ≤ x) (hb : 0 < byd lx ly hx hy x y) : 0 < byd lx ly hx hy x' y := by
  unfold byd at *
  have e : (2 * (lx - x) - 1) * (hy - ly) ≤ (2 * (lx - x') - 1) * (hy - ly) := Int.mul_le_mul_of_nonneg_right (by omega) (by omega)
  omega
def psg (s : Pt × Pt) (y : Int) : Bool := decide (s.1.2 ≤ y) != decide (s.2.2 ≤ y)
theorem psL_zero (lx ly hx hy x y : Int) : psL lx ly hx hy x y = 0 ↔ ¬ (ly ≤ y ∧ y < hy) := by
  unfold psL
  by_cases h : y < ly ∨ hy ≤ y
  · rw [if_pos h]; omega
  · rw [if_neg h]; split <;> omega
theorem ps_zero (ax ay bx b1 x y : Int) : psV ax ay bx b1 x y = 0 ↔ psg ((ax, ay), (bx, b1)) y = false := by
  unfold psV psg
  by_cases hl : b1 < ay
  · rw [if_pos hl, psL_zero]
    by_cases h1 : ay ≤ y <;> by_cases h2 : b1 ≤ y <;> simp [h1, h2] <;> omega
  · rw [if_neg hl, psL_zero]
    by_cases h1 : ay ≤ y <;> by_cases h2 : b1 ≤ y <;> simp [h1, h2] <;> omega
theorem ps_two_lt {ax ay bx b1 x y : Int} (h : b1 < ay) : psV ax ay bx b1 x y = 2 ↔ b1 ≤ y ∧ y < ay ∧ 0 < byd bx b1 ax ay x y := by
  rw [psV, if_pos h, psL_two]
theorem ps_two_ge {ax ay bx b1 x y : Int} (h : ¬ b1 < ay) : psV ax ay bx b1 x y = 2 ↔ ay ≤ y ∧ y < b1 ∧ 0 < byd ax ay bx b1 x y := by
  rw [psV, if_neg h, psL_two]
theorem ps_mono {ax ay bx b1 x x' y : Int} (hx : x' ≤ x) (h : psV ax ay bx b1 x y = 2) : psV ax ay bx b1 x' y = 2 := by
  by_cases hl : b1 < ay
  · rw [ps_two_lt hl] at *; exact ⟨h.1, h.2.1, byd_mono hl hx h.2.2⟩
  · rw [ps_two_ge hl] at *; exact ⟨h.1, h.2.1, byd_mono (by omega) hx h.2.2⟩
theorem ps_right {ax ay bx b1 x y : Int} (ha : ax ≤ x) (hb : bx ≤ x) : psV ax ay bx b1 x y ≠ 2 := by
  intro h
  by_cases hl : b1 < ay
  · rw [ps_two_lt hl] at h; exact byd_right h.1 h.2.1 hb ha h.2.2
  · rw [ps_two_ge hl] at h; exact byd_right h.1 h.2.1 ha hb h.2.2
theorem ps_left {ax ay bx b1 x y : Int} (hp : psg ((ax, ay), (bx, b1)) y = true) (ha : x < ax) (hb : x < bx) : psV ax ay bx b1 x y = 2 := by
  have hn : ¬ psV ax ay bx b1 x y = 0 := by rw [ps_zero, hp]; simp
  by_cases hl : b1 < ay
  · rw [ps_two_lt hl]
    rw [psV, if_pos hl, psL_zero] at hn
    exact ⟨by omega, by omega, byd_left (by omega) (by omega) hb ha⟩
  · rw [ps_two_ge hl]
    rw [psV, if_neg hl, psL_zero] at hn
    exact ⟨by omega, by omega, byd_left (by omega) (by omega) ha hb⟩
theorem cnt_edge (p : Nat → Bool) : ∀ (n : Nat), (∀ a b, a ≤ b → b < n → p b = true → p a = true) → ∀ i, i < n → (p i = true ↔ i < (List.range n).countP p)
  | 0, _, i, hi => by omega
  | n + 1, h, i, hi => by
    have ih := cnt_edge p n (fun a b hab hb => h a b hab (by omega))
    have hle : (List.range n).countP p ≤ n := by have := List.countP_le_length (p := p) (l := List.range n); simpa using this
    rw [List.range_succ, List.countP_append, List.countP_singleton]
    cases hp : p n with
    | false =>
      simp only [Bool.false_eq_true, if_false, Nat.add_zero]
      by_cases e : i = n
      · subst e; rw [hp]; simp; omega
      · exact ih i (by omega)
    | true =>
      have hall : (List.range n).countP p = n := by
        have := (List.countP_eq_length (p := p) (l := List.range n)).2 (fun a ha => h a n (by have := List.mem_range.1 ha; omega) (by omega) hp)
        rw [this, List.length_range]
      rw [hall]
      simp only [if_true]
      exact ⟨fun _ => hi, fun _ => h i n (by omega) (by omega) hp⟩
def fnb (ax ay bx b1 y : Int) : Int := (((List.range 401).countP fun i : Nat => decide (psV ax ay bx b1 ((i : Int) - 200) y = 2) : Nat) : Int) - 200
theorem fnb_edge {ax ay bx b1 x y : Int} (h : -200 ≤ x ∧ x ≤ 200) : psV ax ay bx b1 x y = 2 ↔ x < fnb ax ay bx b1 y := by
  have e := cnt_edge (fun i : Nat => decide (psV ax ay bx b1 ((i : Int) - 200) y = 2)) 401 (fun a b hab hb hp => by
    simp only [decide_eq_true_eq] at *; exact ps_mono (by omega) hp) (x + 200).toNat (by omega)
  have hx : (((x + 200).toNat : Nat) : Int) - 200 = x := by omega
  simp only [decide_eq_true_eq, hx] at e
  rw [e]; unfold fnb; omega
theorem fnb_le {ax ay bx b1 y X : Int} (h : -200 ≤ X ∧ X ≤ 200) (ha : ax ≤ X) (hb : bx ≤ X) : fnb ax ay bx b1 y ≤ X := by
  have e := @fnb_edge ax ay bx b1 X y h
  have n := @ps_right ax ay bx b1 X y ha hb
  rw [ne_eq, e] at n; omega
theorem fnb_ge {ax ay bx b1 y X : Int} (h : -200 ≤ X ∧ X ≤ 200) (hp : psg ((ax, ay), (bx, b1)) y = true) (ha : X ≤ ax) (hb : X ≤ bx) : X ≤ fnb ax ay bx b1 y := by
  by_cases e : X = -200
  · subst e; unfold fnb; omega
  · have := (@fnb_edge ax ay bx b1 (X - 1) y (by omega)).1 (ps_left hp (by omega) (by omega)); omega
def sdk (l : List Pt) (k : Nat) : Pt × Pt := ((pX l k, pY l k), (pX l ((k + 1) % l.length), pY l ((k + 1) % l.length)))
theorem sides_sdk (l : List Pt) {k : Nat} (h : k < l.length) : (sides l)[k]? = some (sdk l k) := by
  rw [sides_get l k h, getp l h, getp l (Nat.mod_lt _ (by omega))]; rfl
def colsK (l : List Pt) (y : Int) : Nat → List Int
  | 0 => []
  | k + 1 => if psg (sdk l k) y then tog (colsK l y k) (fnb (sdk l k).1.1 (sdk l k).1.2 (sdk l k).2.1 (sdk l k).2.2 y) else colsK l y k
theorem cols_sorted (l : List Pt) (y : Int) : ∀ k, (colsK l y k).Pairwise (· < ·)
  | 0 => List.Pairwise.nil
  | k + 1 => by
    rw [colsK]; split
    · exact tog_sorted (cols_sorted l y k) _
    · exact cols_sorted l y k
theorem cols_len (l : List Pt) (y : Int) : ∀ k, (colsK l y k).length ≤ k
  | 0 => Nat.le_refl _
  | k + 1 => by
    have := cols_len l y k
    rw [colsK]; split
    · have := (tog_len (cols_sorted l y k) (fnb (sdk l k).1.1 (sdk l k).1.2 (sdk l k).2.1 (sdk l k).2.2 y)).2; omega
    · omega
def psgK (l : List Pt) (y : Int) (k : Nat) : Bool := odd (((sides l).take k).map fun s => psg s y)
theorem psgK_succ (l : List Pt) (y : Int) {k : Nat} (h : k < l.length) : psgK l y (k + 1) = (psgK l y k != psg (sdk l k) y) := by
  unfold psgK
  rw [List.take_add_one, sides_sdk l h, List.map_append, odd_app]; simp [odd]
theorem cols_par (l : List Pt) (y : Int) : ∀ k, k ≤ l.length → decide ((colsK l y k).length % 2 = 1) = psgK l y k
  | 0, _ => by simp [colsK, psgK, odd]
  | k + 1, hk => by
    have ih := cols_par l y k (by omega)
    rw [psgK_succ l y (by omega), ← ih, colsK]
    cases hp : psg (sdk l k) y
    · simp
    · have := (tog_len (cols_sorted l y k) (fnb (sdk l k).1.1 (sdk l k).1.2 (sdk l k).2.1 (sdk l k).2.2 y)).1
      simp only [if_true]
      rw [show ∀ a : Bool, (a != true) = !a by intro a; cases a <;> rfl, ← decide_not, decide_eq_decide]; omega
theorem cp_xor (f : Pt → Bool) : ∀ (l : List Pt) (a b : Pt), odd ((cp (a :: (l ++ [b]))).map fun s => f s.1 != f s.2) = (f a != f b)
  | [], a, b => by simp [cp, odd]
  | x :: r, a, b => by
    have := cp_xor f r x b
    simp only [List.cons_append, cp, List.map_cons, odd, this]
    cases f a <;> cases f x <;> cases f b <;> rfl
theorem sides_xor (f : Pt → Bool) (l : List Pt) : odd ((sides l).map fun s => f s.1 != f s.2) = false := by
  cases l with
  | nil => rfl
  | cons h t =>
    show odd ((cp (h :: (t ++ [h]))).map _) = false
    rw [cp_xor f t h h]; simp
theorem cols_even (l : List Pt) (y : Int) : (colsK l y l.length).length % 2 = 0 := by
  have h := cols_par l y l.length (Nat.le_refl _)
  have e : psgK l y l.length = false := by
    unfold psgK
    rw [List.take_of_length_le (by rw [sides_len]; exact Nat.le_refl _)]
    exact sides_xor (fun p => decide (p.2 ≤ y)) l
  rw [e, decide_eq_false_iff_not] at h
  omega
theorem crs_sdk (l : List Pt) (x y : Int) (k : Nat) : crs (sdk l k).1 (sdk l k).2 x y = decide (psV (sdk l k).1.1 (sdk l k).1.2 (sdk l k).2.1 (sdk l k).2.2 x y = 2) := (ps_crs _ _ _ _ _ _).symm
theorem insK_sdk (l : List Pt) (x y : Int) {k : Nat} (h : k < l.length) : insK l x y (k + 1) = (insK l x y k != crs (sdk l k).1 (sdk l k).2 x y) := insK_succ l x y h
theorem cols_ins (l : List Pt) {x y : Int} (hx : -200 ≤ x ∧ x ≤ 200) : ∀ k, k ≤ l.length → decide (above (colsK l y k) x % 2 = 1) = insK l x y k
  | 0, _ => by simp [colsK, insK_zero, above]
  | k + 1, hk => by
    have ih := cols_ins l (y := y) hx k (by omega)
    rw [insK_sdk l x y (by omega), ← ih, crs_sdk, colsK]
    cases hp : psg (sdk l k) y
    · have : ¬ psV (sdk l k).1.1 (sdk l k).1.2 (sdk l k).2.1 (sdk l k).2.2 x y = 2 := by
        have := (ps_zero (sdk l k).1.1 (sdk l k).1.2 (sdk l k).2.1 (sdk l k).2.2 x y).2 hp; omega
      rw [decide_eq_false this]; simp
    · simp only [if_true]
      have h1 := tog_above (cols_sorted l y k) (fnb (sdk l k).1.1 (sdk l k).1.2 (sdk l k).2.1 (sdk l k).2.2 y) x
      have h2 := @fnb_edge (sdk l k).1.1 (sdk l k).1.2 (sdk l k).2.1 (sdk l k).2.2 x y hx
      by_cases hq : psV (sdk l k).1.1 (sdk l k).1.2 (sdk l k).2.1 (sdk l k).2.2 x y = 2
      · rw [decide_eq_true hq, show ∀ a : Bool, (a != true) = !a by intro a; cases a <;> rfl, ← decide_not, decide_eq_decide]
        rw [if_pos (h2.1 hq)] at h1; omega
      · rw [decide_eq_false hq, show ∀ a : Bool, (a != false) = a by intro a; cases a <;> rfl, decide_eq_decide]
        rw [if_neg (fun h => hq (h2.2 h))] at h1; omega
theorem cols_in (l : List Pt) {y X0 X1 : Int} (h0 : -200 ≤ X0 ∧ X0 ≤ 200) (h1 : -200 ≤ X1 ∧ X1 ≤ 200) (h : ∀ k, k < l.length → X0 ≤ pX l k ∧ pX l k ≤ X1) : ∀ k, k ≤ l.length → ∀ d ∈ colsK l y k, X0 ≤ d ∧ d ≤ X1
  | 0, _, d, hd => by simp [colsK] at hd
  | k + 1, hk, d, hd => by
    have ih := cols_in l (y := y) h0 h1 h k (by omega)
    rw [colsK] at hd
    cases hp : psg (sdk l k) y
    · rw [hp] at hd; exact ih d (by simpa using hd)
    · rw [hp] at hd
      simp only [if_true] at hd
      rcases tog_mem (cols_sorted l y k) _ d hd with rfl | hd
      · have a := h k (by omega)
        have b := h ((k + 1) % l.length) (Nat.mod_lt _ (by omega))
        exact ⟨fnb_ge h0 hp a.1 b.1, fnb_le h1 a.2 b.2⟩
      · exact ih d hd
def spsV (l : List Pt) (y : Int) : List Pt := if pathB l && inB y then prs (colsK l y l.length) else []
theorem sps_in {l : List Pt} {y : Int} {X0 X1 : Int} (h0 : -200 ≤ X0 ∧ X0 ≤ 200) (h1 : -200 ≤ X1 ∧ X1 ≤ 200) (h : ∀ k, k < l.length → X0 ≤ pX l k ∧ pX l k ≤ X1) (x : Int) :
    inS (prs (colsK l y l.length)) x = (decide (X0 ≤ x ∧ x < X1) && insP l x y) := by
  rw [prs_in (cols_sorted l y _) (cols_even l y)]
  have hc := cols_in l (y := y) h0 h1 h l.length (Nat.le_refl _)
  by_cases hx : X0 ≤ x ∧ x < X1
  · rw [decide_eq_true hx, Bool.true_and, cols_ins l (by omega) l.length (Nat.le_refl _), insK_all]
  · rw [decide_eq_false hx, Bool.false_and, decide_eq_false_iff_not]
    by_cases hl : x < X0
    · rw [above_all fun d hd => by have := hc d hd; omega, cols_even l y]; omega
    · rw [above_none fun d hd => by have := hc d hd; omega]; omega
theorem ins_out {l : List Pt} {y x X1 : Int} (hx : -200 ≤ x ∧ x ≤ 200) (h1 : -200 ≤ X1 ∧ X1 ≤ x) (h : ∀ k, k < l.length → -200 ≤ pX l k ∧ pX l k ≤ X1) : insP l x y = false := by
  have e := cols_ins l (y := y) hx l.length (Nat.le_refl _)
  rw [insK_all] at e
  rw [← e, above_none fun d hd => ?_]
  · rfl
  · have := cols_in l (y := y) (X0 := -200) (X1 := X1) (by omega) (by omega) h l.length (Nat.le_refl _) d hd; omega
theorem ins_out0 {l : List Pt} {y x X0 : Int} (hx : -200 ≤ x ∧ x < X0) (h1 : X0 ≤ 200) (h : ∀ k, k < l.length → X0 ≤ pX l k ∧ pX l k ≤ 200) : insP l x y = false := by
  have e := cols_ins l (y := y) (x := x) (by omega) l.length (Nat.le_refl _)
  rw [insK_all] at e
  rw [← e, above_all fun d hd => ?_]
  · rw [decide_eq_false_iff_not, cols_even]; omega
  · have := cols_in l (y := y) (X0 := X0) (X1 := 200) (by omega) (by omega) h l.length (Nat.le_refl _) d hd; omega
theorem scn_sps {l : List Pt} {y X0 X1 : Int} (h0 : -200 ≤ X0 ∧ X0 ≤ X1) (h1 : X1 ≤ 200) (h : ∀ k, k < l.length → X0 ≤ pX l k ∧ pX l k ≤ X1) :
    (scn (fun x => insP l x y) X0 (X1 + 1 - X0).toNat).out = prs (colsK l y l.length) := by
  have S := scn_ok (fun x => insP l x y) X0 (X1 + 1 - X0).toNat
  have hX : X0 + (((X1 + 1 - X0).toNat : Nat) : Int) = X1 + 1 := by omega
  rw [hX] at S
  have hz : insP l X1 y = false := ins_out (X1 := X1) (by omega) (by omega) fun k hk => by have := h k hk; omega
  have hon : (scn (fun x => insP l x y) X0 (X1 + 1 - X0).toNat).on = false := by
    obtain ⟨k, hk⟩ : ∃ k, (X1 + 1 - X0).toNat = k + 1 := ⟨(X1 - X0).toNat, by omega⟩
    rw [hk]
    show insP l (X0 + (k : Int)) y = false
    rw [show X0 + (k : Int) = X1 by omega]; exact hz
  refine Sep.unique S.sep (prs_sep (cols_sorted l y _)) fun x => ?_
  have hm := S.mem x
  rw [hon, Bool.false_and, Bool.or_false] at hm
  rw [hm, sps_in (X0 := X0) (X1 := X1) (by omega) (by omega) h]
  by_cases e : x = X1
  · subst e; rw [hz]; simp
  · congr 1; rw [decide_eq_decide]; omega
end Go.Proofs.YtkabofbbioaapaaGreat.Ins
