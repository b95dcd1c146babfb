/-
  Texts of this seat, laid together: Points
-/
import Derived.Laws.MakeOwn
import Derived.Laws.Entries
import Derived.Deep.RegionHeld3
import Derived.Test.YtbdjnfnphilklaaGreatV02
import Derived.Test.YtbdjnfnphilklaaGreatV04
import Derived.Test.YtbdjnfnphilklaaGreatV03
namespace Go.Proofs.YtbdjnfnphilklaaGreat.Points
open Go.ChangeShapes Go.WideShapes Go.ChangeAt Go.RowKit
open Kit Slabs Recs Marking
set_option linter.unusedVariables false
set_option linter.unusedSimpArgs false
set_option linter.unnecessarySimpa false
theorem to_any (x0 : Int) (x1 : Int) (w : World) : Calls Tryz.prog 89 #[.agg #[.int .i64 x0, .int .i64 x1]] w fun e w' => e = .returned (.agg #[.int .i64 x0, .int .i64 x1]) ∧ Below w.heap.size w w' := by
  go_enter Tryz.func89, Tryz.ntmps89
  go_wp2
  go_returns
  exact ⟨rfl, by go_grown⟩
theorem eq_same (x0 : Int) (x1 : Int) (w : World) : Calls Tryz.prog 94 #[.agg #[.int .i64 x0, .int .i64 x1], .agg #[.int .i64 x0, .int .i64 x1]] w fun e w' => e = .returned (.bool true) ∧ Below w.heap.size w w' := by
  go_enter Tryz.func94, Tryz.ntmps94
  go_wp2
  go_ret
  exact ⟨rfl, by go_grown⟩
def Shape (F : Nat → List Value) (n : Nat) : Prop := ∀ i, i < n → ∃ (x0 : Int) (x1 : Int), F i = [.int .i64 x0, .int .i64 x1]
theorem cells_of {w : World} {g n : Nat} {F : Nat → List Value} (h : ∀ i, i < n → ∀ j u, (F i)[j]? = some u → w.cell? ⟨g, i * 2 + j, none⟩ = some u) {i : Nat} (hi : i < n) {x0 : Int} {x1 : Int} (e : F i = [.int .i64 x0, .int .i64 x1]) : w.cell? ⟨g, i * 2, none⟩ = some (.int .i64 x0) ∧ w.cell? ⟨g, i * 2 + 1, none⟩ = some (.int .i64 x1) := by
  have h0 := h i hi
  rw [e] at h0
  exact ⟨by simpa using h0 0 _ rfl, by simpa using h0 1 _ rfl⟩
set_option maxHeartbeats 1000000 in
theorem eqS_same (w : World) (B1 B2 : Nat) (v1 v2 : Value) (n : Nat) (F : Nat → List Value) (hn : n ≤ 1048576) (h1 : Slab w B1 v1 n 2 F) (h2 : Slab w B2 v2 n 2 F) (hs : Shape F n) :
    Calls Tryz.prog 60 #[v1, v2] w fun e w' => e = .returned (.bool true) ∧ Below w.heap.size w w' := by
  rcases h1.writes with ⟨h0, a1, c1, rfl⟩ | ⟨g1, c1, rfl, _, W1⟩
  · subst h0
    obtain ⟨a2, c2, rfl, _⟩ := h2
    clear h1 hs
    go_enter Tryz.func60, Tryz.ntmps60
    go_wp2
    go_loopw [5] (fun i wr => i = .int .i64 0 ∧ Below w.heap.size w wr) (fun _ _ => 0)
    case atStart => exact ⟨rfl, Below.refl _ _⟩
    case round =>
      obtain ⟨rfl, hbel⟩ := hrel
      go_wp2
      go_ret
      exact ⟨rfl, hbel⟩
  · rcases h2.writes with ⟨h0, a2, c2, rfl⟩ | ⟨g2, c2, rfl, _, W2⟩
    · subst h0
      clear h1 h2 hs W1
      go_enter Tryz.func60, Tryz.ntmps60
      go_wp2
      go_loopw [5] (fun i wr => i = .int .i64 0 ∧ Below w.heap.size w wr) (fun _ _ => 0)
      case atStart => exact ⟨rfl, Below.refl _ _⟩
      case round =>
        obtain ⟨rfl, hbel⟩ := hrel
        go_wp2
        go_ret
        exact ⟨rfl, hbel⟩
    · have H := Lib.hid (And.intro W1 W2)
      have HS := Lib.hid hs
      clear h1 h2 hs W1 W2
      go_enter Tryz.func60, Tryz.ntmps60
      go_wp2
      go_loopw [5] (fun i wr => ∃ k : Nat, k ≤ n ∧ i = .int .i64 (k : Int) ∧ Below w.heap.size w wr) (fun i _ => n - (intOf i).toNat)
      case atStart => exact ⟨0, Nat.zero_le _, rfl, Below.refl _ _⟩
      case round =>
        obtain ⟨k, hk, rfl, hbel⟩ := hrel
        by_cases hlt : k < n
        · obtain ⟨x0, x1, hf⟩ := HS.out k hlt
          obtain ⟨p0, p1⟩ := cells_of H.out.1.cell hlt hf
          obtain ⟨q0, q1⟩ := cells_of H.out.2.cell hlt hf
          have g1l := H.out.1.here
          have g2l := H.out.2.here
          have i0 : (0 : Int) ≤ (k : Int) := by omega
          have i1 : (k : Int) < (n : Int) := by omega
          have hsz := hbel.size
          obtain ⟨hc, hf2, hz⟩ := bcell3 hbel
          clear hf
          go_wp2_with fail
          go_region_held3 (fun w' => (∀ b o, b < w.heap.size → w'.cell? ⟨b, o, none⟩ = w.cell? ⟨b, o, none⟩) ∧ Below w.heap.size w w') ((refine keepS ?_; go_grown; done))
            ((go_at_call 94; (with_reducible refine (eq_same _ _ _).mono ?_); rintro e w' ⟨rfl, hb⟩; have hB := on_of (W := w) (by go_grown) hb))
          go_wp2
          go_roundw
          case rel => exact ⟨k + 1, by omega, by go_num, hB⟩
          case measure => simp [intOf]; omega
        · obtain rfl : k = n := by omega
          go_wp2
          go_ret
          exact ⟨rfl, hbel⟩
def kl : List FK := [.int .i64, .int .i64]
theorem rec_at {w : World} {a : Option Addr} {n cap : Nat} {z : Nat → Nat → Value} (h : IsRecs kl w a n cap z) {i : Nat} (hi : i < n) : ∃ (x0 : Int) (x1 : Int), z i 0 = .int .i64 x0 ∧ z i 1 = .int .i64 x1 := by
  obtain ⟨_, _, h | ⟨g, o, _, _, h⟩⟩ := h
  · omega
  · obtain ⟨x0, e0, _⟩ := (h i hi 0 _ rfl).2
    obtain ⟨x1, e1, _⟩ := (h i hi 1 _ rfl).2
    exact ⟨x0, x1, e0, e1⟩
theorem rec_shape {w : World} {a : Option Addr} {n cap : Nat} {z : Nat → Nat → Value} (h : IsRecs kl w a n cap z) : Shape (fun i => [z i 0, z i 1]) n := by
  intro i hi
  obtain ⟨x0, x1, e0, e1⟩ := rec_at h hi
  exact ⟨x0, x1, by simp only [e0, e1]⟩
theorem rec_cells {w : World} {g o n : Nat} {z : Nat → Nat → Value} (h : ∀ i, i < n → ∀ j kd, kl[j]? = some kd → w.cell? ⟨g, o + (i * kl.length + j), none⟩ = some (z i j) ∧ kd.fits (z i j)) {i : Nat} (hi : i < n) : w.cell? ⟨g, o + i * 2, none⟩ = some (z i 0) ∧ w.cell? ⟨g, o + i * 2 + 1, none⟩ = some (z i 1) :=
  ⟨(h i hi 0 _ rfl).1, (h i hi 1 _ rfl).1⟩
theorem zero_at (n i j : Nat) (u : Value) (hi : i < n) (hu : ([.int .i64 0, .int .i64 0] : List Value)[j]? = some u) : (madeCells #[.int .i64 0, .int .i64 0] (n * 2))[i * 2 + j]? = some u := by
  have hj : j < 2 := by have := (List.getElem?_eq_some_iff.1 hu).1; simpa using this
  unfold madeCells
  rw [Array.getElem?_map, Array.getElem?_range, if_pos (by have := Nat.mul_le_mul_right 2 (show i + 1 ≤ n by omega); rw [Nat.succ_mul] at this; omega)]
  have h1 : (i * 2 + j) % 2 = j := by omega
  simp only [Option.map_some]
  have h2 : j = 0 ∨ j = 1 := by omega
  rcases h2 with rfl | rfl <;> (simp only [List.getElem?_cons_zero, List.getElem?_cons_succ, Option.some.injEq] at hu; subst hu; simp [h1] <;> (try simp at h1) <;> (try simp [h1]))
theorem info_t : (Tryz.prog.info? 110).map (fun i => (i.zero, i.size, i.bytes)) = some (some (.agg #[.int .i64 0, .int .i64 0]), 2, 16) := by kernel_rfl
set_option maxHeartbeats 1000000 in
theorem toS_any (a : Option Addr) (n cap : Nat) (z : Nat → Nat → Value) (w : World) (hn : n ≤ 1048576) (hr : IsRecs kl w a n cap z) :
    Calls Tryz.prog 56 #[.slice a n cap] w fun e w' => ∃ v, e = .returned v ∧ Slab w' w.heap.size v n 2 (fun i => [z i 0, z i 1]) ∧ Below w.heap.size w w' := by
  obtain ⟨i0, hi0, hz0, hz1, hz2⟩ := info_parts info_t
  have hmk := fun W : World => run_make_rowN (P := Tryz.prog) 50 110 i0 _ Tryz.underlying50 hi0 hz0 .i64 .i64 n n (Nat.le_refl _) (by rw [hz2]; omega) (by omega) W
  rw [hz1] at hmk
  clear hi0 hz0 hz1 hz2
  have HR := Lib.hid hr
  by_cases h0 : n = 0
  · subst h0
    have hmk0 := hmk
    simp only [Nat.zero_mul, Int.natCast_zero, Int.ofNat_zero, show ((0 : Nat) : Int) = 0 from rfl] at hmk0
    clear hmk hr
    go_enter Tryz.func56, Tryz.ntmps56
    go_wp2
    go_rounds 1
    go_ret
    exact ⟨_, rfl, ⟨_, _, rfl, Nat.le_refl _, .inl rfl⟩, by go_grown⟩
  · obtain ⟨_, _, hx | ⟨g, o, rfl, hg, hcs⟩⟩ := hr
    · exact absurd hx h0
    have HC := Lib.hid hcs
    clear hcs h0
    go_enter Tryz.func56, Tryz.ntmps56
    go_wp2
    go_loopw [4] (fun v4 wr => ∃ k : Nat, k ≤ n ∧ v4 = .int .i64 (k : Int) ∧ Writes wr w.heap.size n 2 (upto (fun i => [z i 0, z i 1]) (fun _ => [.int .i64 0, .int .i64 0]) k) ∧ Below w.heap.size w wr) (fun v4 _ => n - (intOf v4).toNat)
    case atStart =>
      refine ⟨0, Nat.zero_le _, rfl, ⟨by simp, fun o => by simp, fun i hi j u hu => ?_⟩, by go_grown⟩
      rw [upto_zero] at hu
      rw [World.cell?_alloc_new]; exact zero_at n i j u hi hu
    case round =>
      obtain ⟨k, hk, rfl, U, hbel⟩ := hrel
      by_cases hlt : k < n
      · obtain ⟨x0, x1, e0, e1⟩ := rec_at HR.out hlt
        obtain ⟨h0, h1⟩ := rec_cells HC.out hlt
        rw [e0] at h0
        rw [e1] at h1
        have q0 : wr.cell? ⟨g, o + k * 2, none⟩ = some (.int .i64 x0) := by rw [hbel.cell (p := ⟨g, o + k * 2, none⟩) hg]; simpa [Nat.add_assoc] using h0
        have q1 : wr.cell? ⟨g, o + k * 2 + 1, none⟩ = some (.int .i64 x1) := by rw [hbel.cell (p := ⟨g, o + k * 2 + 1, none⟩) hg]; simpa [Nat.add_assoc] using h1
        clear h0 h1
        have i0 : (0 : Int) ≤ (k : Int) := by omega
        have i1 : (k : Int) < (n : Int) := by omega
        have HU := Lib.hid U
        have HE := Lib.hid (show (fun i => [z i 0, z i 1] : Nat → List Value) k = [.int .i64 x0, .int .i64 x1] by simp only [e0, e1])
        clear U e0 e1
        go_wp2_with (go_at_call 89; (with_reducible refine (to_any _ _ _).mono ?_); rintro e w' ⟨rfl, hb⟩; have hB := on_of (W := w) (by go_grown) hb; have U2 := HU.out.on hb; obtain ⟨c0, c1⟩ := cells_of U2.cell hlt (upto_ge (by omega)); have f0 := U2.free; have hh := U2.here; clear hb)
        have U3 := U2.all hlt (fun _ => rfl) (fun _ => rfl)
        rw [HE.out] at U3
        have U4 := setAll_below hB w.heap.size (k * 2) (Nat.le_refl _) [.int .i64 x0, .int .i64 x1]
        go_roundw
        case rel => exact ⟨k + 1, by omega, by go_num, by first | exact U3 | simpa [setAll] using U3, by first | exact U4 | simpa [setAll] using U4⟩
        case measure => simp [intOf]; omega
      · obtain rfl : k = n := by omega
        go_wp2
        go_ret
        exact ⟨_, rfl, (U.slab (Nat.le_refl _) _ (Nat.le_refl _)).same fun i hi => upto_lt hi, hbel⟩
def marked (N i : Nat) : List Value := [.int .i64 ((N + i * 2 : Nat) : Int), .int .i64 ((N + i * 2 + 1 : Nat) : Int)]
set_option maxHeartbeats 2000000 in
theorem markS_any (w : World) (B N n : Nat) (v : Value) (F : Nat → List Value) (hn : n ≤ 2000000) (hN0 : 0 < N) (hN : N ≤ 1000000000000) (hB0 : B ≤ w.heap.size) (h : Slab w B v n 2 F) (hs : Shape F n) (hl : ∀ i, (F i).length = 2) :
    Calls Tryz.prog 62 #[v, .int .i64 (N : Int)] w fun e w' => e = .returned (.int .i64 ((N + n * 2 : Nat) : Int)) ∧ Slab w' B v n 2 (marked N) ∧ Below B w w' ∧ w.grownBy w' (rowOf n v) := by
  by_cases hnz : n = 0
  · obtain ⟨a1, c1, rfl, _⟩ := id h
    subst hnz
    have HX := Lib.hid h
    clear hs h
    go_enter Tryz.func62, Tryz.ntmps62
    go_wp2
    go_loopw [1, 5] (fun k i wr => i = .int .i64 0 ∧ k = .int .i64 (N : Int) ∧ wr = w) (fun _ _ _ => 0)
    case atStart => exact ⟨rfl, rfl, rfl⟩
    case round =>
      obtain ⟨rfl, rfl, rfl⟩ := hrel
      go_wp2
      go_ret
      exact ⟨by simp, HX.out.same fun i hi => by omega, Below.refl _ _, World.grownBy.refl _ _⟩
  · obtain ⟨g, cap, rfl, hBg, W1⟩ : ∃ g cap, v = .slice (some ⟨g, 0, none⟩) n cap ∧ B ≤ g ∧ Writes w g n 2 F := by
      rcases h.writes with ⟨h0, _⟩ | h
      · exact absurd h0 hnz
      · exact h
    have hcap := h.cap_le
    have hn0 : ¬ n = 0 := by
      intro h0; apply hnz; exact h0
    have HS := Lib.hid hs
    have HL := Lib.hid hl
    have HW := Lib.hid W1
    clear h hs hl W1
    go_enter Tryz.func62, Tryz.ntmps62
    go_wp2
    go_loopw [1, 5] (fun q i wr => ∃ k : Nat, k ≤ n ∧ i = .int .i64 (k : Int) ∧ q = .int .i64 ((N + k * 2 : Nat) : Int) ∧ Writes wr g n 2 (upto (marked N) F k) ∧ Below B w wr ∧ w.grownBy wr (some g)) (fun _ i _ => n - (intOf i).toNat)
    case atStart => exact ⟨0, Nat.zero_le _, rfl, by simp, by rw [upto_zero]; exact HW.out, Below.refl _ _, World.grownBy.refl _ _⟩
    case round =>
      obtain ⟨k, hk, rfl, rfl, U, hbel, hgr⟩ := hrel
      by_cases hlt : k < n
      · obtain ⟨x0, x1, hf⟩ := HS.out k hlt
        have hfk : upto (marked N) F k k = [.int .i64 x0, .int .i64 x1] := (upto_ge (by omega)).trans hf
        have HU := Lib.hid U
        have i0 : (0 : Int) ≤ (k : Int) := by omega
        have i1 : (k : Int) < (n : Int) := by omega
        have U2 := HU.out
        obtain ⟨c0, c1⟩ := cells_of U2.cell hlt hfk
        have f0 := U2.free
        have hB := hbel
        have hG := hgr
        clear U hf
        go_wp2_with fail
        have U3 := U2.all hlt HL.out (fun _ => rfl)
        have U4 := setAll_below hB g (k * 2) hBg [.int .i64 ((N + k * 2 : Nat) : Int), .int .i64 ((N + k * 2 + 1 : Nat) : Int)]
        have U5 := setAll_grown hG (k * 2) [.int .i64 ((N + k * 2 : Nat) : Int), .int .i64 ((N + k * 2 + 1 : Nat) : Int)]
        go_roundw
        case rel => exact ⟨k + 1, by omega, by go_num, by first | (congr 1; omega) | (congr 2; omega) | go_num, by first | exact U3 | simpa [setAll, marked] using U3, by first | exact U4 | simpa [setAll, marked] using U4, by first | exact U5 | simpa [setAll, marked] using U5⟩
        case measure => simp [intOf]; omega
      · obtain rfl : k = n := by omega
        have HU := Lib.hid U
        clear U
        go_wp2
        go_ret
        refine ⟨rfl, (HU.out.slab hBg _ hcap).same fun i hi => upto_lt hi, hbel, ?_⟩
        unfold rowOf
        split
        · rename_i h0; exact absurd h0 hn0
        · exact hgr
set_option maxHeartbeats 2000000 in
theorem heldS_any (w : World) (B N n : Nat) (v : Value) (hn : n ≤ 2000000) (hN0 : 0 < N) (hN : N ≤ 1000000000000) (h : Slab w B v n 2 (marked N)) :
    Calls Tryz.prog 85 #[v, .int .i64 (N : Int)] w fun e w' => e = .returned (.int .i64 ((N + n * 2 : Nat) : Int)) ∧ Below w.heap.size w w' := by
  rcases h.writes with ⟨h0, a1, c1, rfl⟩ | ⟨g, cap, rfl, hBg, W1⟩
  · subst h0
    clear h
    go_enter Tryz.func85, Tryz.ntmps85
    go_wp2
    go_loopw [1, 5] (fun k i wr => i = .int .i64 0 ∧ k = .int .i64 (N : Int) ∧ wr = w) (fun _ _ _ => 0)
    case atStart => exact ⟨rfl, rfl, rfl⟩
    case round =>
      obtain ⟨rfl, rfl, rfl⟩ := hrel
      go_wp2
      go_ret
      exact ⟨by simp, Below.refl _ _⟩
  · have HW := Lib.hid W1
    have hg := W1.here
    clear h W1
    go_enter Tryz.func85, Tryz.ntmps85
    go_wp2
    go_loopw [1, 5] (fun q i wr => ∃ k : Nat, k ≤ n ∧ i = .int .i64 (k : Int) ∧ q = .int .i64 ((N + k * 2 : Nat) : Int) ∧ Below w.heap.size w wr) (fun _ i _ => n - (intOf i).toNat)
    case atStart => exact ⟨0, Nat.zero_le _, rfl, by simp, Below.refl _ _⟩
    case round =>
      obtain ⟨k, hk, rfl, rfl, hbel⟩ := hrel
      by_cases hlt : k < n
      · have i0 : (0 : Int) ≤ (k : Int) := by omega
        have i1 : (k : Int) < (n : Int) := by omega
        have q0 : wr.cell? ⟨g, k * 2, none⟩ = some (.int .i64 ((N : Int) + (k : Int) * 2)) := by rw [hbel.cell (p := ⟨g, k * 2, none⟩) hg]; have h := HW.out.cell k hlt 0 _ rfl; simpa using h
        have q1 : wr.cell? ⟨g, k * 2 + 1, none⟩ = some (.int .i64 ((N : Int) + (k : Int) * 2 + 1)) := by rw [hbel.cell (p := ⟨g, k * 2 + 1, none⟩) hg]; have h := HW.out.cell k hlt 1 _ rfl; simpa using h
        go_wp2
        go_roundw
        case rel => exact ⟨k + 1, by omega, by go_num, by first | (congr 1; omega) | (congr 2; omega) | go_num, hbel⟩
        case measure => simp [intOf]; omega
      · obtain rfl : k = n := by omega
        go_wp2
        go_ret
        exact ⟨rfl, hbel⟩
theorem szS_any (a : Option Addr) (n cap : Nat) (L : Int) (w : World) (h0 : 0 ≤ L) (h1 : L ≤ 1048576) (hn : n ≤ 9223372036854775807) : Calls Tryz.prog 51 #[.slice a n cap, .int .i64 L] w fun e w' => e = .returned (.int .i64 (if (n : Int) ≤ L then L - (n : Int) else -1)) ∧ w = w' := by
  by_cases h : (n : Int) ≤ L
  · have h2 : ¬ (L - (n : Int) < 0) := by omega
    go_enter Tryz.func51, Tryz.ntmps51
    go_wp2
    all_goals go_ret
    all_goals exact ⟨by simp [h], rfl⟩
  · have h2 : L - (n : Int) < 0 := by omega
    go_enter Tryz.func51, Tryz.ntmps51
    go_wp2
    all_goals go_ret
    all_goals exact ⟨by simp [h], rfl⟩
end Go.Proofs.YtbdjnfnphilklaaGreat.Points
