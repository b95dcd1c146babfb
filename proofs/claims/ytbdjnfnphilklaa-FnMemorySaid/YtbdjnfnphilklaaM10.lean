/-
  Texts of this seat, laid together: Points, App, SdI8
-/
import Derived.Laws.MakeOwn
import Derived.Laws.Entries
import Derived.Deep.RegionHeld3
import Derived.Deep.AppendLies
import Derived.Test.YtbdjnfnphilklaaM03
import Derived.Test.YtbdjnfnphilklaaM06
import Derived.Test.YtbdjnfnphilklaaM05
import Derived.Test.YtbdjnfnphilklaaM01
namespace Go.Proofs.Ytbdjnfnphilklaa.Points
open Go.ChangeShapes Go.WideShapes Go.ChangeAt Go.RowKit
open Kit Slabs Recs Marking
set_option linter.unusedVariables false
set_option linter.unusedSimpArgs false
set_option linter.unnecessarySimpa false
theorem to_any (x0 : Int) (x1 : Int) (w : World) : Calls Try.prog 124 #[.agg #[.int .i64 x0, .int .i64 x1]] w fun e w' => e = .returned (.agg #[.int .i64 x0, .int .i64 x1]) ∧ Below w.heap.size w w' := by
  go_enter Try.func124, Try.ntmps124
  go_wp2
  go_returns
  exact ⟨rfl, by go_grown⟩
theorem eq_same (x0 : Int) (x1 : Int) (w : World) : Calls Try.prog 121 #[.agg #[.int .i64 x0, .int .i64 x1], .agg #[.int .i64 x0, .int .i64 x1]] w fun e w' => e = .returned (.bool true) ∧ Below w.heap.size w w' := by
  go_enter Try.func121, Try.ntmps121
  go_wp2
  go_ret
  exact ⟨rfl, by go_grown⟩
def Shape (F : Nat → List Value) (n : Nat) : Prop := ∀ i, i < n → ∃ (x0 : Int) (x1 : Int), F i = [.int .i64 x0, .int .i64 x1]
theorem cells_of {w : World} {g n : Nat} {F : Nat → List Value} (h : ∀ i, i < n → ∀ j u, (F i)[j]? = some u → w.cell? ⟨g, i * 2 + j, none⟩ = some u) {i : Nat} (hi : i < n) {x0 : Int} {x1 : Int} (e : F i = [.int .i64 x0, .int .i64 x1]) : w.cell? ⟨g, i * 2, none⟩ = some (.int .i64 x0) ∧ w.cell? ⟨g, i * 2 + 1, none⟩ = some (.int .i64 x1) := by
  have h0 := h i hi
  rw [e] at h0
  exact ⟨by simpa using h0 0 _ rfl, by simpa using h0 1 _ rfl⟩
set_option maxHeartbeats 1000000 in
theorem eqS_same (w : World) (B1 B2 : Nat) (v1 v2 : Value) (n : Nat) (F : Nat → List Value) (hn : n ≤ 1048576) (h1 : Slab w B1 v1 n 2 F) (h2 : Slab w B2 v2 n 2 F) (hs : Shape F n) :
    Calls Try.prog 105 #[v1, v2] w fun e w' => e = .returned (.bool true) ∧ Below w.heap.size w w' := by
  rcases h1.writes with ⟨h0, a1, c1, rfl⟩ | ⟨g1, c1, rfl, _, W1⟩
  · subst h0
    obtain ⟨a2, c2, rfl, _⟩ := h2
    clear h1 hs
    go_enter Try.func105, Try.ntmps105
    go_wp2
    go_loopw [5] (fun i wr => i = .int .i64 0 ∧ Below w.heap.size w wr) (fun _ _ => 0)
    case atStart => exact ⟨rfl, Below.refl _ _⟩
    case round =>
      obtain ⟨rfl, hbel⟩ := hrel
      go_wp2
      go_ret
      exact ⟨rfl, hbel⟩
  · rcases h2.writes with ⟨h0, a2, c2, rfl⟩ | ⟨g2, c2, rfl, _, W2⟩
    · subst h0
      clear h1 h2 hs W1
      go_enter Try.func105, Try.ntmps105
      go_wp2
      go_loopw [5] (fun i wr => i = .int .i64 0 ∧ Below w.heap.size w wr) (fun _ _ => 0)
      case atStart => exact ⟨rfl, Below.refl _ _⟩
      case round =>
        obtain ⟨rfl, hbel⟩ := hrel
        go_wp2
        go_ret
        exact ⟨rfl, hbel⟩
    · have H := Lib.hid (And.intro W1 W2)
      have HS := Lib.hid hs
      clear h1 h2 hs W1 W2
      go_enter Try.func105, Try.ntmps105
      go_wp2
      go_loopw [5] (fun i wr => ∃ k : Nat, k ≤ n ∧ i = .int .i64 (k : Int) ∧ Below w.heap.size w wr) (fun i _ => n - (intOf i).toNat)
      case atStart => exact ⟨0, Nat.zero_le _, rfl, Below.refl _ _⟩
      case round =>
        obtain ⟨k, hk, rfl, hbel⟩ := hrel
        by_cases hlt : k < n
        · obtain ⟨x0, x1, hf⟩ := HS.out k hlt
          obtain ⟨p0, p1⟩ := cells_of H.out.1.cell hlt hf
          obtain ⟨q0, q1⟩ := cells_of H.out.2.cell hlt hf
          have g1l := H.out.1.here
          have g2l := H.out.2.here
          have i0 : (0 : Int) ≤ (k : Int) := by omega
          have i1 : (k : Int) < (n : Int) := by omega
          have hsz := hbel.size
          obtain ⟨hc, hf2, hz⟩ := bcell3 hbel
          clear hf
          go_wp2_with fail
          go_region_held3 (fun w' => (∀ b o, b < w.heap.size → w'.cell? ⟨b, o, none⟩ = w.cell? ⟨b, o, none⟩) ∧ Below w.heap.size w w') ((refine keepS ?_; go_grown; done))
            ((go_at_call 121; (with_reducible refine (eq_same _ _ _).mono ?_); rintro e w' ⟨rfl, hb⟩; have hB := on_of (W := w) (by go_grown) hb))
          go_wp2
          go_roundw
          case rel => exact ⟨k + 1, by omega, by go_num, hB⟩
          case measure => simp [intOf]; omega
        · obtain rfl : k = n := by omega
          go_wp2
          go_ret
          exact ⟨rfl, hbel⟩
def kl : List FK := [.int .i64, .int .i64]
theorem rec_at {w : World} {a : Option Addr} {n cap : Nat} {z : Nat → Nat → Value} (h : IsRecs kl w a n cap z) {i : Nat} (hi : i < n) : ∃ (x0 : Int) (x1 : Int), z i 0 = .int .i64 x0 ∧ z i 1 = .int .i64 x1 := by
  obtain ⟨_, _, h | ⟨g, o, _, _, h⟩⟩ := h
  · omega
  · obtain ⟨x0, e0, _⟩ := (h i hi 0 _ rfl).2
    obtain ⟨x1, e1, _⟩ := (h i hi 1 _ rfl).2
    exact ⟨x0, x1, e0, e1⟩
theorem rec_shape {w : World} {a : Option Addr} {n cap : Nat} {z : Nat → Nat → Value} (h : IsRecs kl w a n cap z) : Shape (fun i => [z i 0, z i 1]) n := by
  intro i hi
  obtain ⟨x0, x1, e0, e1⟩ := rec_at h hi
  exact ⟨x0, x1, by simp only [e0, e1]⟩
theorem rec_cells {w : World} {g o n : Nat} {z : Nat → Nat → Value} (h : ∀ i, i < n → ∀ j kd, kl[j]? = some kd → w.cell? ⟨g, o + (i * kl.length + j), none⟩ = some (z i j) ∧ kd.fits (z i j)) {i : Nat} (hi : i < n) : w.cell? ⟨g, o + i * 2, none⟩ = some (z i 0) ∧ w.cell? ⟨g, o + i * 2 + 1, none⟩ = some (z i 1) :=
  ⟨(h i hi 0 _ rfl).1, (h i hi 1 _ rfl).1⟩
theorem zero_at (n i j : Nat) (u : Value) (hi : i < n) (hu : ([.int .i64 0, .int .i64 0] : List Value)[j]? = some u) : (madeCells #[.int .i64 0, .int .i64 0] (n * 2))[i * 2 + j]? = some u := by
  have hj : j < 2 := by have := (List.getElem?_eq_some_iff.1 hu).1; simpa using this
  unfold madeCells
  rw [Array.getElem?_map, Array.getElem?_range, if_pos (by have := Nat.mul_le_mul_right 2 (show i + 1 ≤ n by omega); rw [Nat.succ_mul] at this; omega)]
  have h1 : (i * 2 + j) % 2 = j := by omega
  simp only [Option.map_some]
  have h2 : j = 0 ∨ j = 1 := by omega
  rcases h2 with rfl | rfl <;> (simp only [List.getElem?_cons_zero, List.getElem?_cons_succ, Option.some.injEq] at hu; subst hu; simp [h1] <;> (try simp at h1) <;> (try simp [h1]))
theorem info_t : (Try.prog.info? 113).map (fun i => (i.zero, i.size, i.bytes)) = some (some (.agg #[.int .i64 0, .int .i64 0]), 2, 16) := by kernel_rfl
set_option maxHeartbeats 1000000 in
theorem toS_any (a : Option Addr) (n cap : Nat) (z : Nat → Nat → Value) (w : World) (hn : n ≤ 1048576) (hr : IsRecs kl w a n cap z) :
    Calls Try.prog 110 #[.slice a n cap] w fun e w' => ∃ v, e = .returned v ∧ Slab w' w.heap.size v n 2 (fun i => [z i 0, z i 1]) ∧ Below w.heap.size w w' := by
  obtain ⟨i0, hi0, hz0, hz1, hz2⟩ := info_parts info_t
  have hmk := fun W : World => run_make_rowN (P := Try.prog) 36 113 i0 _ Try.underlying36 hi0 hz0 .i64 .i64 n n (Nat.le_refl _) (by rw [hz2]; omega) (by omega) W
  rw [hz1] at hmk
  clear hi0 hz0 hz1 hz2
  have HR := Lib.hid hr
  by_cases h0 : n = 0
  · subst h0
    have hmk0 := hmk
    simp only [Nat.zero_mul, Int.natCast_zero, Int.ofNat_zero, show ((0 : Nat) : Int) = 0 from rfl] at hmk0
    clear hmk hr
    go_enter Try.func110, Try.ntmps110
    go_wp2
    go_rounds 1
    go_ret
    exact ⟨_, rfl, ⟨_, _, rfl, Nat.le_refl _, .inl rfl⟩, by go_grown⟩
  · obtain ⟨_, _, hx | ⟨g, o, rfl, hg, hcs⟩⟩ := hr
    · exact absurd hx h0
    have HC := Lib.hid hcs
    clear hcs h0
    go_enter Try.func110, Try.ntmps110
    go_wp2
    go_loopw [4] (fun v4 wr => ∃ k : Nat, k ≤ n ∧ v4 = .int .i64 (k : Int) ∧ Writes wr w.heap.size n 2 (upto (fun i => [z i 0, z i 1]) (fun _ => [.int .i64 0, .int .i64 0]) k) ∧ Below w.heap.size w wr) (fun v4 _ => n - (intOf v4).toNat)
    case atStart =>
      refine ⟨0, Nat.zero_le _, rfl, ⟨by simp, fun o => by simp, fun i hi j u hu => ?_⟩, by go_grown⟩
      rw [upto_zero] at hu
      rw [World.cell?_alloc_new]; exact zero_at n i j u hi hu
    case round =>
      obtain ⟨k, hk, rfl, U, hbel⟩ := hrel
      by_cases hlt : k < n
      · obtain ⟨x0, x1, e0, e1⟩ := rec_at HR.out hlt
        obtain ⟨h0, h1⟩ := rec_cells HC.out hlt
        rw [e0] at h0
        rw [e1] at h1
        have q0 : wr.cell? ⟨g, o + k * 2, none⟩ = some (.int .i64 x0) := by rw [hbel.cell (p := ⟨g, o + k * 2, none⟩) hg]; simpa [Nat.add_assoc] using h0
        have q1 : wr.cell? ⟨g, o + k * 2 + 1, none⟩ = some (.int .i64 x1) := by rw [hbel.cell (p := ⟨g, o + k * 2 + 1, none⟩) hg]; simpa [Nat.add_assoc] using h1
        clear h0 h1
        have i0 : (0 : Int) ≤ (k : Int) := by omega
        have i1 : (k : Int) < (n : Int) := by omega
        have HU := Lib.hid U
        have HE := Lib.hid (show (fun i => [z i 0, z i 1] : Nat → List Value) k = [.int .i64 x0, .int .i64 x1] by simp only [e0, e1])
        clear U e0 e1
        go_wp2_with (go_at_call 124; (with_reducible refine (to_any _ _ _).mono ?_); rintro e w' ⟨rfl, hb⟩; have hB := on_of (W := w) (by go_grown) hb; have U2 := HU.out.on hb; obtain ⟨c0, c1⟩ := cells_of U2.cell hlt (upto_ge (by omega)); have f0 := U2.free; have hh := U2.here; clear hb)
        have U3 := U2.all hlt (fun _ => rfl) (fun _ => rfl)
        rw [HE.out] at U3
        have U4 := setAll_below hB w.heap.size (k * 2) (Nat.le_refl _) [.int .i64 x0, .int .i64 x1]
        go_roundw
        case rel => exact ⟨k + 1, by omega, by go_num, by first | exact U3 | simpa [setAll] using U3, by first | exact U4 | simpa [setAll] using U4⟩
        case measure => simp [intOf]; omega
      · obtain rfl : k = n := by omega
        go_wp2
        go_ret
        exact ⟨_, rfl, (U.slab (Nat.le_refl _) _ (Nat.le_refl _)).same fun i hi => upto_lt hi, hbel⟩
def marked (N i : Nat) : List Value := [.int .i64 ((N + i * 2 : Nat) : Int), .int .i64 ((N + i * 2 + 1 : Nat) : Int)]
set_option maxHeartbeats 2000000 in
theorem markS_any (w : World) (B N n : Nat) (v : Value) (F : Nat → List Value) (hn : n ≤ 2000000) (hN0 : 0 < N) (hN : N ≤ 1000000000000) (hB0 : B ≤ w.heap.size) (h : Slab w B v n 2 F) (hs : Shape F n) (hl : ∀ i, (F i).length = 2) :
    Calls Try.prog 79 #[v, .int .i64 (N : Int)] w fun e w' => e = .returned (.int .i64 ((N + n * 2 : Nat) : Int)) ∧ Slab w' B v n 2 (marked N) ∧ Below B w w' ∧ w.grownBy w' (rowOf n v) := by
  by_cases hnz : n = 0
  · obtain ⟨a1, c1, rfl, _⟩ := id h
    subst hnz
    have HX := Lib.hid h
    clear hs h
    go_enter Try.func79, Try.ntmps79
    go_wp2
    go_loopw [1, 5] (fun k i wr => i = .int .i64 0 ∧ k = .int .i64 (N : Int) ∧ wr = w) (fun _ _ _ => 0)
    case atStart => exact ⟨rfl, rfl, rfl⟩
    case round =>
      obtain ⟨rfl, rfl, rfl⟩ := hrel
      go_wp2
      go_ret
      exact ⟨by simp, HX.out.same fun i hi => by omega, Below.refl _ _, World.grownBy.refl _ _⟩
  · obtain ⟨g, cap, rfl, hBg, W1⟩ : ∃ g cap, v = .slice (some ⟨g, 0, none⟩) n cap ∧ B ≤ g ∧ Writes w g n 2 F := by
      rcases h.writes with ⟨h0, _⟩ | h
      · exact absurd h0 hnz
      · exact h
    have hcap := h.cap_le
    have hn0 : ¬ n = 0 := by
      intro h0; apply hnz; exact h0
    have HS := Lib.hid hs
    have HL := Lib.hid hl
    have HW := Lib.hid W1
    clear h hs hl W1
    go_enter Try.func79, Try.ntmps79
    go_wp2
    go_loopw [1, 5] (fun q i wr => ∃ k : Nat, k ≤ n ∧ i = .int .i64 (k : Int) ∧ q = .int .i64 ((N + k * 2 : Nat) : Int) ∧ Writes wr g n 2 (upto (marked N) F k) ∧ Below B w wr ∧ w.grownBy wr (some g)) (fun _ i _ => n - (intOf i).toNat)
    case atStart => exact ⟨0, Nat.zero_le _, rfl, by simp, by rw [upto_zero]; exact HW.out, Below.refl _ _, World.grownBy.refl _ _⟩
    case round =>
      obtain ⟨k, hk, rfl, rfl, U, hbel, hgr⟩ := hrel
      by_cases hlt : k < n
      · obtain ⟨x0, x1, hf⟩ := HS.out k hlt
        have hfk : upto (marked N) F k k = [.int .i64 x0, .int .i64 x1] := (upto_ge (by omega)).trans hf
        have HU := Lib.hid U
        have i0 : (0 : Int) ≤ (k : Int) := by omega
        have i1 : (k : Int) < (n : Int) := by omega
        have U2 := HU.out
        obtain ⟨c0, c1⟩ := cells_of U2.cell hlt hfk
        have f0 := U2.free
        have hB := hbel
        have hG := hgr
        clear U hf
        go_wp2_with fail
        have U3 := U2.all hlt HL.out (fun _ => rfl)
        have U4 := setAll_below hB g (k * 2) hBg [.int .i64 ((N + k * 2 : Nat) : Int), .int .i64 ((N + k * 2 + 1 : Nat) : Int)]
        have U5 := setAll_grown hG (k * 2) [.int .i64 ((N + k * 2 : Nat) : Int), .int .i64 ((N + k * 2 + 1 : Nat) : Int)]
        go_roundw
        case rel => exact ⟨k + 1, by omega, by go_num, by first | (congr 1; omega) | (congr 2; omega) | go_num, by first | exact U3 | simpa [setAll, marked] using U3, by first | exact U4 | simpa [setAll, marked] using U4, by first | exact U5 | simpa [setAll, marked] using U5⟩
        case measure => simp [intOf]; omega
      · obtain rfl : k = n := by omega
        have HU := Lib.hid U
        clear U
        go_wp2
        go_ret
        refine ⟨rfl, (HU.out.slab hBg _ hcap).same fun i hi => upto_lt hi, hbel, ?_⟩
        unfold rowOf
        split
        · rename_i h0; exact absurd h0 hn0
        · exact hgr
set_option maxHeartbeats 2000000 in
theorem heldS_any (w : World) (B N n : Nat) (v : Value) (hn : n ≤ 2000000) (hN0 : 0 < N) (hN : N ≤ 1000000000000) (h : Slab w B v n 2 (marked N)) :
    Calls Try.prog 81 #[v, .int .i64 (N : Int)] w fun e w' => e = .returned (.int .i64 ((N + n * 2 : Nat) : Int)) ∧ Below w.heap.size w w' := by
  rcases h.writes with ⟨h0, a1, c1, rfl⟩ | ⟨g, cap, rfl, hBg, W1⟩
  · subst h0
    clear h
    go_enter Try.func81, Try.ntmps81
    go_wp2
    go_loopw [1, 5] (fun k i wr => i = .int .i64 0 ∧ k = .int .i64 (N : Int) ∧ wr = w) (fun _ _ _ => 0)
    case atStart => exact ⟨rfl, rfl, rfl⟩
    case round =>
      obtain ⟨rfl, rfl, rfl⟩ := hrel
      go_wp2
      go_ret
      exact ⟨by simp, Below.refl _ _⟩
  · have HW := Lib.hid W1
    have hg := W1.here
    clear h W1
    go_enter Try.func81, Try.ntmps81
    go_wp2
    go_loopw [1, 5] (fun q i wr => ∃ k : Nat, k ≤ n ∧ i = .int .i64 (k : Int) ∧ q = .int .i64 ((N + k * 2 : Nat) : Int) ∧ Below w.heap.size w wr) (fun _ i _ => n - (intOf i).toNat)
    case atStart => exact ⟨0, Nat.zero_le _, rfl, by simp, Below.refl _ _⟩
    case round =>
      obtain ⟨k, hk, rfl, rfl, hbel⟩ := hrel
      by_cases hlt : k < n
      · have i0 : (0 : Int) ≤ (k : Int) := by omega
        have i1 : (k : Int) < (n : Int) := by omega
        have q0 : wr.cell? ⟨g, k * 2, none⟩ = some (.int .i64 ((N : Int) + (k : Int) * 2)) := by rw [hbel.cell (p := ⟨g, k * 2, none⟩) hg]; have h := HW.out.cell k hlt 0 _ rfl; simpa using h
        have q1 : wr.cell? ⟨g, k * 2 + 1, none⟩ = some (.int .i64 ((N : Int) + (k : Int) * 2 + 1)) := by rw [hbel.cell (p := ⟨g, k * 2 + 1, none⟩) hg]; have h := HW.out.cell k hlt 1 _ rfl; simpa using h
        go_wp2
        go_roundw
        case rel => exact ⟨k + 1, by omega, by go_num, by first | (congr 1; omega) | (congr 2; omega) | go_num, hbel⟩
        case measure => simp [intOf]; omega
      · obtain rfl : k = n := by omega
        go_wp2
        go_ret
        exact ⟨rfl, hbel⟩
theorem szS_any (a : Option Addr) (n cap : Nat) (L : Int) (w : World) (h0 : 0 ≤ L) (h1 : L ≤ 1048576) (hn : n ≤ 9223372036854775807) : Calls Try.prog 107 #[.slice a n cap, .int .i64 L] w fun e w' => e = .returned (.int .i64 (if (n : Int) ≤ L then L - (n : Int) else -1)) ∧ w = w' := by
  by_cases h : (n : Int) ≤ L
  · have h2 : ¬ (L - (n : Int) < 0) := by omega
    go_enter Try.func107, Try.ntmps107
    go_wp2
    all_goals go_ret
    all_goals exact ⟨by simp [h], rfl⟩
  · have h2 : L - (n : Int) < 0 := by omega
    go_enter Try.func107, Try.ntmps107
    go_wp2
    all_goals go_ret
    all_goals exact ⟨by simp [h], rfl⟩
end Go.Proofs.Ytbdjnfnphilklaa.Points
namespace Go.Proofs.Ytbdjnfnphilklaa.Own
open Go.ChangeShapes Go.WideShapes Go.ChangeAt Go.RowKit
open Kit
set_option linter.unusedVariables false
set_option linter.unusedSimpArgs false
set_option linter.unnecessarySimpa false
def Lies (w : World) (a : Option Addr) (cs : List Value) : Prop := cs = [] ∨ ∃ g o, a = some ⟨g, o, none⟩ ∧ g < w.heap.size ∧ ∀ j u, cs[j]? = some u → w.cell? ⟨g, o + j, none⟩ = some u
theorem Lies.on {w w' : World} {a : Option Addr} {cs : List Value} (h : Lies w a cs) (hb : Below w.heap.size w w') : Lies w' a cs := by
  rcases h with h | ⟨g, o, ha, hg, h⟩
  · exact .inl h
  · exact .inr ⟨g, o, ha, Nat.lt_of_lt_of_le hg hb.size, fun j u hu => (hb.cell (p := ⟨g, _, none⟩) hg).trans (h j u hu)⟩
theorem Lies.drew {w : World} {a : Option Addr} {cs : List Value} (h : Lies w a cs) : Lies w.drew a cs := h
theorem add_off {g o j : Nat} : (⟨g, o, none⟩ : Addr).add j = ⟨g, o + j, none⟩ := by
  by_cases h : j = 0
  · subst h; rfl
  · simp [Addr.add, h]
theorem Lies.new (w : World) (cs : Array Value) (t : TypeId) {b : Nat} (hb : w.heap.size = b) : Lies (w.alloc (.cells cs t)) (some ⟨b, 0, none⟩) cs.toList := by
  subst hb
  exact .inr ⟨_, 0, rfl, by simp, fun j u hu => by rw [Nat.zero_add, World.cell?_alloc_new]; simpa using hu⟩
def rowL (u : Value) : List Nat := u.ownBlock.toList
def ElemT (P : Program) (t e : TypeId) (k bytes : Nat) : Prop := ∃ i z, P.underlying t = some (.slice e) ∧ P.info? e = some i ∧ i.zero = some z ∧ i.size = k ∧ i.bytes = bytes ∧ z.cells.size = k ∧ 0 < k
theorem run_append_sl {P : Program} {t ty e : TypeId} {k bytes : Nat} (hT : ElemT P t e k bytes) (w : World) (base : Nat)
    (a1 : Option Addr) (n c1 : Nat) (xs : List Value) (hown : w.ownsRow base e k (.slice a1 n c1) n xs)
    (ax : Option Addr) (m c : Nat) (news : List Value) (hl : news.length = m * k) (hx : Lies w ax news) (h1 : ∀ u ∈ news, u.oneCell' = true)
    (h63 : n + m ≤ maxLen) (hbytes : (n + m) * bytes ≤ 140737488355328) (hbase : base ≤ w.heap.size) :
    ∃ a' c' w', (Builtin.append_ #[t, t] ty #[.slice a1 n c1, .slice ax m c]).run P w = .ok (.slice a' (n + m) c') w' ∧ w'.ownsRow base e k (.slice a' (n + m) c') (n + m) (xs ++ news) ∧ w.grownBy w' (Value.ownBlock (.slice a1 n c1)) ∧ (∀ b ∈ rowL (.slice a' (n + m) c'), b ∈ rowL (.slice a1 n c1) ∨ w.heap.size ≤ b) := by
  obtain ⟨i, z, ht, hi, hz, hsz, hby, hzs, hk⟩ := hT
  cases ax with
  | none =>
    have hm : m = 0 := by
      rcases hx with rfl | ⟨g, o, h, _⟩
      · have h0 : m * k = 0 := hl.symm
        rcases Nat.mul_eq_zero.1 h0 with h | h
        · exact h
        · omega
      · cases h
    subst hm
    obtain rfl : news = [] := List.eq_nil_of_length_eq_zero (by omega)
    refine ⟨a1, c1, w, ?_, by simpa using hown, ⟨rfl, rfl, rfl, Nat.le_refl _, fun _ _ _ => rfl⟩, fun b hb => .inl (by simpa using hb)⟩
    rcases hown.2 with ⟨h, rfl⟩ | ⟨g, cap, cur, h, hb, hg, hnc, hcm, hcs, ht2⟩
    · injection h with h1 h2 h3
      subst h1; subst h3
      simp [Builtin.append_, run_underlying ht, sizeOf, typeInfo, hi, Builtin.lenOf, Builtin.firstCells, loadCells, loadCellsFrom]
    · injection h with h1 h2 h3
      subst h1; subst h3
      simp [Builtin.append_, run_underlying ht, sizeOf, typeInfo, hi, Builtin.lenOf, Builtin.firstCells, loadCells, loadCellsFrom, hnc, storeCells]
  | some ad =>
    have hn : ∀ j u, news[j]? = some u → w.cell? (ad.add j) = some u := by
      rcases hx with rfl | ⟨g, o, h, _, h2⟩
      · intro j u hu; simp at hu
      · injection h with h; subst h
        intro j u hu; rw [add_off]; exact h2 j u hu
    obtain ⟨v', w', hr, h2, h3, _, h5⟩ := run_append_own_at (P := P) w base t ty e i z k bytes ht hi hz hsz hby hzs hk _ n xs hown ad m c news hl hn h1 h63 hbytes hbase
    obtain ⟨a', c', rfl⟩ : ∃ a' c', v' = .slice a' (n + m) c' := by
      rcases h2.2 with ⟨rfl, h0⟩ | ⟨g, cap, cur, rfl, _⟩
      · rw [h0]; exact ⟨_, _, rfl⟩
      · exact ⟨_, _, rfl⟩
    refine ⟨a', c', w', hr, h2, h3, fun b hb => ?_⟩
    have hb' : Value.ownBlock (.slice a' (n + m) c') = some b := by simpa [rowL] using hb
    rcases h5 with h5 | h5
    · left; rw [rowL, ← h5]; simpa [rowL] using hb
    · right
      rw [hb'] at h5
      simp at h5
      omega
section
variable {P : Program} {t e : TypeId} {k bytes : Nat}
theorem wp_append_sl (w : World) {o : Oper} {a : Act} {K : Act → World → Prop} {Q : Exit → Act → World → Prop} (hT : ElemT P t e k bytes) (s x : Operand)
    (ho : o.op = .call { callee := .builtin .append, args := #[s, x], argTypes := #[t, t] }) (base : Nat)
    (a1 : Option Addr) (n c1 : Nat) (xs : List Value) (hs : a.eval s = .slice a1 n c1) (hown : w.ownsRow base e k (.slice a1 n c1) n xs)
    (ax : Option Addr) (m c : Nat) (news : List Value) (hxe : a.eval x = .slice ax m c) (hl : news.length = m * k) (hx : Lies w ax news) (h1 : ∀ u ∈ news, u.oneCell' = true)
    (h63 : n + m ≤ maxLen) (hbytes : (n + m) * bytes ≤ 140737488355328) (hbase : base ≤ w.heap.size)
    (h : ∀ a' c' w', w'.ownsRow base e k (.slice a' (n + m) c') (n + m) (xs ++ news) → w.grownBy w' (Value.ownBlock (.slice a1 n c1)) → (∀ b ∈ rowL (.slice a' (n + m) c'), b ∈ rowL (.slice a1 n c1) ∨ w.heap.size ≤ b) → K (a.put o.dst (.slice a' (n + m) c')) w') : o.wp P a w K Q := by
  obtain ⟨a', c', w', hr, h2, h3, h4⟩ := run_append_sl (P := P) (ty := o.type) hT w base a1 n c1 xs hown ax m c news hl hx h1 h63 hbytes hbase
  unfold Oper.wp execOp
  simp only [ho, resolve, invoke, builtin, Sem.run_bind, Sem.run_pure, Result.andThen_ok, List.map_toArray, List.map_cons, List.map_nil, hs, hxe, hr]
  exact h a' c' w' h2 h3 h4
theorem wpList_append_sl (w : World) {ops : Array Oper} {rest : List Oper} {o : Oper} {a : Act} {Q : Exit → Act → World → Prop} (hT : ElemT P t e k bytes) (hgd : o.guard = none) (s x : Operand)
    (ho : o.op = .call { callee := .builtin .append, args := #[s, x], argTypes := #[t, t] }) (base : Nat)
    (a1 : Option Addr) (n c1 : Nat) (xs : List Value) (hs : a.eval s = .slice a1 n c1) (hown : w.ownsRow base e k (.slice a1 n c1) n xs)
    (ax : Option Addr) (m c : Nat) (news : List Value) (hxe : a.eval x = .slice ax m c) (hl : news.length = m * k) (hx : Lies w ax news) (h1 : ∀ u ∈ news, u.oneCell' = true)
    (h63 : n + m ≤ maxLen) (hbytes : (n + m) * bytes ≤ 140737488355328) (hbase : base ≤ w.heap.size)
    (h : ∀ a' c' w', w'.ownsRow base e k (.slice a' (n + m) c') (n + m) (xs ++ news) → w.grownBy w' (Value.ownBlock (.slice a1 n c1)) → (∀ b ∈ rowL (.slice a' (n + m) c'), b ∈ rowL (.slice a1 n c1) ∨ w.heap.size ≤ b) → wpList P ops Q rest (a.put o.dst (.slice a' (n + m) c')) w') : wpList P ops Q (o :: rest) a w :=
  wpList_plain hgd fun _ hK => wp_append_sl w hT s x ho base a1 n c1 xs hs hown ax m c news hxe hl hx h1 h63 hbytes hbase fun a' c' w' h2 h3 h4 => hK _ _ (h a' c' w' h2 h3 h4)
theorem step_append_sl {w : World} {ops : Array Oper} {o : Oper} {a : Act} {K : Act → World → Prop} {Q : Exit → Act → World → Prop} {E : Prop} (hT : ElemT P t e k bytes) (hgd : o.guard = none) (s x : Operand)
    (ho : o.op = .call { callee := .builtin .append, args := #[s, x], argTypes := #[t, t] }) (base : Nat)
    (a1 : Option Addr) (n c1 : Nat) (xs : List Value) (hs : a.eval s = .slice a1 n c1) (hown : w.ownsRow base e k (.slice a1 n c1) n xs)
    (ax : Option Addr) (m c : Nat) (news : List Value) (hxe : a.eval x = .slice ax m c) (hl : news.length = m * k) (hx : Lies w ax news) (h1 : ∀ u ∈ news, u.oneCell' = true)
    (h63 : n + m ≤ maxLen) (hbytes : (n + m) * bytes ≤ 140737488355328) (hbase : base ≤ w.heap.size)
    (h : ∀ a' c' w', w'.ownsRow base e k (.slice a' (n + m) c') (n + m) (xs ++ news) → w.grownBy w' (Value.ownBlock (.slice a1 n c1)) → (∀ b ∈ rowL (.slice a' (n + m) c'), b ∈ rowL (.slice a1 n c1) ∨ w.heap.size ≤ b) → K (a.put o.dst (.slice a' (n + m) c')) w') :
    if Region.wanted o (yielded ops a.tmps) = true then Oper.wp P o a w K Q else E := by
  have hw : Region.wanted o (yielded ops a.tmps) = true := by simp [Region.wanted, hgd]
  rw [if_pos hw]
  exact wp_append_sl w hT s x ho base a1 n c1 xs hs hown ax m c news hxe hl hx h1 h63 hbytes hbase h
end
end Go.Proofs.Ytbdjnfnphilklaa.Own
namespace Go.Proofs.Ytbdjnfnphilklaa.Ins
open Go.ChangeShapes Go.WideShapes Go.ChangeAt Go.RowKit
open Kit Point Slabs
set_option linter.unusedVariables false
set_option linter.unusedSimpArgs false
set_option linter.unnecessarySimpa false
def sdF (l : List Pt) (i : Nat) : List Value := [.int .i64 (pX l i), .int .i64 (pY l i), .int .i64 (pX l ((i + 1) % l.length)), .int .i64 (pY l ((i + 1) % l.length))]
def zrF (_ : Nat) : List Value := [.int .i64 0, .int .i64 0, .int .i64 0, .int .i64 0]
theorem sdF_len (l : List Pt) (i : Nat) : (sdF l i).length = 4 := rfl
theorem zrF_len (i : Nat) : (zrF i).length = 4 := rfl
theorem cells4_of {w : World} {g n : Nat} {F : Nat → List Value} (h : ∀ i, i < n → ∀ j u, (F i)[j]? = some u → w.cell? ⟨g, i * 4 + j, none⟩ = some u) {i : Nat} (hi : i < n) {x0 x1 x2 x3 : Value} (e : F i = [x0, x1, x2, x3]) :
    w.cell? ⟨g, i * 4, none⟩ = some x0 ∧ w.cell? ⟨g, i * 4 + 1, none⟩ = some x1 ∧ w.cell? ⟨g, i * 4 + 2, none⟩ = some x2 ∧ w.cell? ⟨g, i * 4 + 3, none⟩ = some x3 := by
  have h0 := h i hi
  rw [e] at h0
  exact ⟨by simpa using h0 0 _ rfl, by simpa using h0 1 _ rfl, by simpa using h0 2 _ rfl, by simpa using h0 3 _ rfl⟩
theorem zero4_at (n i j : Nat) (u : Value) (hi : i < n) (hu : (zrF i)[j]? = some u) : (madeCells #[.int .i64 0, .int .i64 0, .int .i64 0, .int .i64 0] (n * 4))[i * 4 + j]? = some u := by
  have hj : j < 4 := by have := (List.getElem?_eq_some_iff.1 hu).1; simpa [zrF] using this
  unfold madeCells
  rw [Array.getElem?_map, Array.getElem?_range, if_pos (by have := Nat.mul_le_mul_right 4 (show i + 1 ≤ n by omega); rw [Nat.succ_mul] at this; omega)]
  have h1 : (i * 4 + j) % 4 = j := by omega
  simp only [Option.map_some]
  have h2 : j = 0 ∨ j = 1 ∨ j = 2 ∨ j = 3 := by omega
  rcases h2 with rfl | rfl | rfl | rfl <;> (simp only [zrF, List.getElem?_cons_zero, List.getElem?_cons_succ, Option.some.injEq] at hu; subst hu; simp [h1] <;> (try simp at h1) <;> (try simp [h1]))
theorem info_sd8 : (Try.prog.info? 161).map (fun i => (i.zero, i.size, i.bytes)) = some (some (.agg #[.int .i64 0, .int .i64 0, .int .i64 0, .int .i64 0]), 4, 32) := by kernel_rfl
set_option maxHeartbeats 2000000 in
theorem sd_impl (w : World) (a : Option Addr) (c : Nat) (l : List Pt) (hn : l.length ≤ 1048576) (h : PathAt w a l) :
    Calls Try.prog 135 #[.slice a l.length c] w fun e w' => ∃ v, e = .returned v ∧ Slab w' w.heap.size v l.length 4 (sdF l) ∧ Below w.heap.size w w' := by
  obtain ⟨i0, hi0, hz0, hz1, hz2⟩ := info_parts info_sd8
  obtain ⟨n, hN⟩ : ∃ n, l.length = n := ⟨_, rfl⟩
  have hn' : n ≤ 1048576 := by omega
  have hmk := fun W : World => run_make_rowN (P := Try.prog) 158 161 i0 _ Try.underlying158 hi0 hz0 .i64 .i64 n n (Nat.le_refl _) (by rw [hz2]; omega) (by omega) W
  rw [hz1] at hmk
  clear hi0 hz0 hz1 hz2 hn'
  have HP := Lib.hid h
  have HN := Lib.hid hN
  rcases h with rfl | ⟨g, rfl, hg, _⟩
  · simp only [List.length_nil] at hN
    subst hN
    have hmk0 := hmk
    simp only [Nat.zero_mul, Int.natCast_zero, Int.ofNat_zero, show ((0 : Nat) : Int) = 0 from rfl] at hmk0
    clear hmk
    go_enter Try.func135, Try.ntmps135
    go_wp2
    go_rounds 1
    go_ret
    exact ⟨_, rfl, ⟨_, _, rfl, Nat.le_refl _, .inl rfl⟩, by go_grown⟩
  · rw [hN] at hn ⊢
    clear hN
    go_enter Try.func135, Try.ntmps135
    go_wp2
    go_loopw [11] (fun v11 wr => ∃ k : Nat, k ≤ n ∧ v11 = .int .i64 (k : Int) ∧ Writes wr w.heap.size n 4 (upto (sdF l) zrF k) ∧ Below w.heap.size w wr) (fun v11 _ => n - (intOf v11).toNat)
    case atStart =>
      refine ⟨0, Nat.zero_le _, rfl, ⟨by simp, fun o => by simp, fun i hi j u hu => ?_⟩, by go_grown⟩
      rw [upto_zero] at hu
      rw [World.cell?_alloc_new]; exact zero4_at n i j u hi hu
    case round =>
      obtain ⟨k, hk, rfl, U, hB⟩ := hrel
      by_cases hlt : k < n
      · have hP := HP.out.on hB
        rcases hP with he | ⟨g', hg', hlg, hc⟩
        · have := HN.out; rw [he] at this; simp at this; omega
        · injection hg' with hg'
          injection hg' with hg'
          subst hg'
          obtain ⟨m, hm⟩ : ∃ m, (k + 1) % n = m := ⟨_, rfl⟩
          have hmn : m < n := by rw [← hm]; exact Nat.mod_lt _ (by omega)
          obtain ⟨q1, q2⟩ := hc k (by rw [HN.out]; exact hlt)
          obtain ⟨q3, q4⟩ := hc m (by rw [HN.out]; exact hmn)
          have hs : sdF l k = [.int .i64 (pX l k), .int .i64 (pY l k), .int .i64 (pX l m), .int .i64 (pY l m)] := by unfold sdF; rw [HN.out, hm]
          generalize pX l k = ax at q1 hs
          generalize pY l k = ay at q2 hs
          generalize pX l m = bx at q3 hs
          generalize pY l m = b1 at q4 hs
          have HS := Lib.hid hs
          clear hs hc
          have i0 : (0 : Int) ≤ (k : Int) := by omega
          have i1 : (k : Int) < (n : Int) := by omega
          have i2 : (0 : Int) ≤ (m : Int) := by omega
          have i3 : (m : Int) < (n : Int) := by omega
          have hn0 : ¬ n = 0 := by omega
          have j1 : IntKind.i64.wrap ((k : Int) + 1) = (k : Int) + 1 := IntWalk.i64_in _ (by omega)
          have j2 : ((k : Int) + 1).tmod (n : Int) = (m : Int) := by
            rw [← hm, show ((k : Int) + 1) = ((k + 1 : Nat) : Int) by omega, Int.ofNat_tmod]
          have j3 : IntKind.i64.wrap (m : Int) = (m : Int) := IntWalk.i64_in _ (by omega)
          have hsz : w.heap.size ≤ wr.heap.size := hB.size
          have hug := U.here
          have fz := U.free
          obtain ⟨c0, c1, c2, c3⟩ := cells4_of U.cell hlt (show upto (sdF l) zrF k k = _ from upto_ge (by omega))
          have HU := Lib.hid (And.intro U hB)
          clear hm U hB
          go_upto_region 5 with (fail)
          go_region
          have U3 := HU.out.1.all hlt zrF_len (sdF_len l)
          rw [HS.out] at U3
          have U4 := setAll_below HU.out.2 w.heap.size (k * 4) (Nat.le_refl _) [.int .i64 ax, .int .i64 ay, .int .i64 bx, .int .i64 b1]
          have U5 := U3.on (((Below.refl _ _).alloc (Nat.le_refl _) (.cells #[.int .i64 ax, .int .i64 ay] 113)).drew)
          have U6 := (U4.alloc (by rw [setAll_size]; exact hsz) (.cells #[.int .i64 ax, .int .i64 ay] 113)).drew
          have HV := Lib.hid (And.intro U5 U6)
          clear U3 U4 U5 U6
          go_wp2
          go_roundw
          case rel => exact ⟨k + 1, by omega, by go_num, HV.out.1, HV.out.2⟩
          case measure => simp [intOf]; omega
      · obtain rfl : k = n := by omega
        go_wp2
        go_ret
        exact ⟨_, rfl, (U.slab (Nat.le_refl _) _ (Nat.le_refl _)).same fun i hi => upto_lt hi, hB⟩
end Go.Proofs.Ytbdjnfnphilklaa.Ins
