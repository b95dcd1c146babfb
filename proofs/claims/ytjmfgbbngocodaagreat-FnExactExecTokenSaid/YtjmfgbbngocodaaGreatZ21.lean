/-
  Texts of this seat, laid together: Tokens, Turn, Box
-/
import Derived.Laws.MakeOwn
import Derived.Laws.Entries
import Derived.Deep.RegionHeld3
import Derived.Deep.CutRange
import Derived.BigQuiet
import Derived.Deep.QuietTactic
import Derived.Test.YtjmfgbbngocodaaGreatZ03
import Derived.Test.YtjmfgbbngocodaaGreatZ02
import Derived.Test.YtjmfgbbngocodaaGreatZ04
import Derived.Test.YtjmfgbbngocodaaGreatZ23
namespace Go.Proofs.YtjmfgbbngocodaaGreat.Tokens
open Go.ChangeShapes Go.WideShapes Go.ChangeAt Go.RowKit
open Kit Slabs Recs Marking
set_option linter.unusedVariables false
set_option linter.unusedSimpArgs false
set_option linter.unnecessarySimpa false
theorem to_any (x0 : ByteArray) (x1 : Int) (w : World) : Calls Tryz.prog 9 #[.agg #[.string x0, .int .i64 x1]] w fun e w' => e = .returned (.agg #[.string x0, .int .i64 x1]) ∧ Below w.heap.size w w' := by
  go_enter Tryz.func9, Tryz.ntmps9
  go_wp2
  go_returns
  exact ⟨rfl, by go_grown⟩
theorem eq_same (x0 : ByteArray) (x1 : Int) (w : World) : Calls Tryz.prog 53 #[.agg #[.string x0, .int .i64 x1], .agg #[.string x0, .int .i64 x1]] w fun e w' => e = .returned (.bool true) ∧ Below w.heap.size w w' := by
  go_enter Tryz.func53, Tryz.ntmps53
  go_wp2
  go_ret
  exact ⟨rfl, by go_grown⟩
def Shape (F : Nat → List Value) (n : Nat) : Prop := ∀ i, i < n → ∃ (x0 : ByteArray) (x1 : Int), F i = [.string x0, .int .i64 x1]
theorem cells_of {w : World} {g n : Nat} {F : Nat → List Value} (h : ∀ i, i < n → ∀ j u, (F i)[j]? = some u → w.cell? ⟨g, i * 2 + j, none⟩ = some u) {i : Nat} (hi : i < n) {x0 : ByteArray} {x1 : Int} (e : F i = [.string x0, .int .i64 x1]) : w.cell? ⟨g, i * 2, none⟩ = some (.string x0) ∧ w.cell? ⟨g, i * 2 + 1, none⟩ = some (.int .i64 x1) := by
  have h0 := h i hi
  rw [e] at h0
  exact ⟨by simpa using h0 0 _ rfl, by simpa using h0 1 _ rfl⟩
set_option maxHeartbeats 1000000 in
theorem eqS_same (w : World) (B1 B2 : Nat) (v1 v2 : Value) (n : Nat) (F : Nat → List Value) (hn : n ≤ 1048576) (h1 : Slab w B1 v1 n 2 F) (h2 : Slab w B2 v2 n 2 F) (hs : Shape F n) :
    Calls Tryz.prog 18 #[v1, v2] w fun e w' => e = .returned (.bool true) ∧ Below w.heap.size w w' := by
  rcases h1.writes with ⟨h0, a1, c1, rfl⟩ | ⟨g1, c1, rfl, _, W1⟩
  · subst h0
    obtain ⟨a2, c2, rfl, _⟩ := h2
    clear h1 hs
    go_enter Tryz.func18, Tryz.ntmps18
    go_wp2
    go_loopw [5] (fun i wr => i = .int .i64 0 ∧ Below w.heap.size w wr) (fun _ _ => 0)
    case atStart => exact ⟨rfl, Below.refl _ _⟩
    case round =>
      obtain ⟨rfl, hbel⟩ := hrel
      go_wp2
      go_ret
      exact ⟨rfl, hbel⟩
  · rcases h2.writes with ⟨h0, a2, c2, rfl⟩ | ⟨g2, c2, rfl, _, W2⟩
    · subst h0
      clear h1 h2 hs W1
      go_enter Tryz.func18, Tryz.ntmps18
      go_wp2
      go_loopw [5] (fun i wr => i = .int .i64 0 ∧ Below w.heap.size w wr) (fun _ _ => 0)
      case atStart => exact ⟨rfl, Below.refl _ _⟩
      case round =>
        obtain ⟨rfl, hbel⟩ := hrel
        go_wp2
        go_ret
        exact ⟨rfl, hbel⟩
    · have H := Lib.hid (And.intro W1 W2)
      have HS := Lib.hid hs
      clear h1 h2 hs W1 W2
      go_enter Tryz.func18, Tryz.ntmps18
      go_wp2
      go_loopw [5] (fun i wr => ∃ k : Nat, k ≤ n ∧ i = .int .i64 (k : Int) ∧ Below w.heap.size w wr) (fun i _ => n - (intOf i).toNat)
      case atStart => exact ⟨0, Nat.zero_le _, rfl, Below.refl _ _⟩
      case round =>
        obtain ⟨k, hk, rfl, hbel⟩ := hrel
        by_cases hlt : k < n
        · obtain ⟨x0, x1, hf⟩ := HS.out k hlt
          obtain ⟨p0, p1⟩ := cells_of H.out.1.cell hlt hf
          obtain ⟨q0, q1⟩ := cells_of H.out.2.cell hlt hf
          have g1l := H.out.1.here
          have g2l := H.out.2.here
          have i0 : (0 : Int) ≤ (k : Int) := by omega
          have i1 : (k : Int) < (n : Int) := by omega
          have hsz := hbel.size
          obtain ⟨hc, hf2, hz⟩ := bcell3 hbel
          clear hf
          go_wp2_with fail
          go_region_held3 (fun w' => (∀ b o, b < w.heap.size → w'.cell? ⟨b, o, none⟩ = w.cell? ⟨b, o, none⟩) ∧ Below w.heap.size w w') ((refine keepS ?_; go_grown; done))
            ((go_at_call 53; (with_reducible refine (eq_same _ _ _).mono ?_); rintro e w' ⟨rfl, hb⟩; have hB := on_of (W := w) (by go_grown) hb))
          go_wp2
          go_roundw
          case rel => exact ⟨k + 1, by omega, by go_num, hB⟩
          case measure => simp [intOf]; omega
        · obtain rfl : k = n := by omega
          go_wp2
          go_ret
          exact ⟨rfl, hbel⟩
def kl : List FK := [.string, .int .i64]
theorem rec_at {w : World} {a : Option Addr} {n cap : Nat} {z : Nat → Nat → Value} (h : IsRecs kl w a n cap z) {i : Nat} (hi : i < n) : ∃ (x0 : ByteArray) (x1 : Int), z i 0 = .string x0 ∧ z i 1 = .int .i64 x1 := by
  obtain ⟨_, _, h | ⟨g, o, _, _, h⟩⟩ := h
  · omega
  · obtain ⟨x0, e0, _⟩ := (h i hi 0 _ rfl).2
    obtain ⟨x1, e1, _⟩ := (h i hi 1 _ rfl).2
    exact ⟨x0, x1, e0, e1⟩
theorem rec_shape {w : World} {a : Option Addr} {n cap : Nat} {z : Nat → Nat → Value} (h : IsRecs kl w a n cap z) : Shape (fun i => [z i 0, z i 1]) n := by
  intro i hi
  obtain ⟨x0, x1, e0, e1⟩ := rec_at h hi
  exact ⟨x0, x1, by simp only [e0, e1]⟩
theorem rec_cells {w : World} {g o n : Nat} {z : Nat → Nat → Value} (h : ∀ i, i < n → ∀ j kd, kl[j]? = some kd → w.cell? ⟨g, o + (i * kl.length + j), none⟩ = some (z i j) ∧ kd.fits (z i j)) {i : Nat} (hi : i < n) : w.cell? ⟨g, o + i * 2, none⟩ = some (z i 0) ∧ w.cell? ⟨g, o + i * 2 + 1, none⟩ = some (z i 1) :=
  ⟨(h i hi 0 _ rfl).1, (h i hi 1 _ rfl).1⟩
theorem zero_at (n i j : Nat) (u : Value) (hi : i < n) (hu : ([.string ByteArray.empty, .int .i64 0] : List Value)[j]? = some u) : (madeCells #[.string ByteArray.empty, .int .i64 0] (n * 2))[i * 2 + j]? = some u := by
  have hj : j < 2 := by have := (List.getElem?_eq_some_iff.1 hu).1; simpa using this
  unfold madeCells
  rw [Array.getElem?_map, Array.getElem?_range, if_pos (by have := Nat.mul_le_mul_right 2 (show i + 1 ≤ n by omega); rw [Nat.succ_mul] at this; omega)]
  have h1 : (i * 2 + j) % 2 = j := by omega
  simp only [Option.map_some]
  have h2 : j = 0 ∨ j = 1 := by omega
  rcases h2 with rfl | rfl <;> (simp only [List.getElem?_cons_zero, List.getElem?_cons_succ, Option.some.injEq] at hu; subst hu; simp [h1] <;> (try simp at h1) <;> (try simp [h1]))
theorem info_t : (Tryz.prog.info? 50).map (fun i => (i.zero, i.size, i.bytes)) = some (some (.agg #[.string ByteArray.empty, .int .i64 0]), 2, 24) := by kernel_rfl
set_option maxHeartbeats 1000000 in
theorem toS_any (a : Option Addr) (n cap : Nat) (z : Nat → Nat → Value) (w : World) (hn : n ≤ 1048576) (hr : IsRecs kl w a n cap z) :
    Calls Tryz.prog 16 #[.slice a n cap] w fun e w' => ∃ v, e = .returned v ∧ Slab w' w.heap.size v n 2 (fun i => [z i 0, z i 1]) ∧ Below w.heap.size w w' := by
  obtain ⟨i0, hi0, hz0, hz1, hz2⟩ := info_parts info_t
  have hmk := fun W : World => run_make_rowN (P := Tryz.prog) 59 50 i0 _ Tryz.underlying59 hi0 hz0 .i64 .i64 n n (Nat.le_refl _) (by rw [hz2]; omega) (by omega) W
  rw [hz1] at hmk
  clear hi0 hz0 hz1 hz2
  have HR := Lib.hid hr
  by_cases h0 : n = 0
  · subst h0
    have hmk0 := hmk
    simp only [Nat.zero_mul, Int.natCast_zero, Int.ofNat_zero, show ((0 : Nat) : Int) = 0 from rfl] at hmk0
    clear hmk hr
    go_enter Tryz.func16, Tryz.ntmps16
    go_wp2
    go_rounds 1
    go_ret
    exact ⟨_, rfl, ⟨_, _, rfl, Nat.le_refl _, .inl rfl⟩, by go_grown⟩
  · obtain ⟨_, _, hx | ⟨g, o, rfl, hg, hcs⟩⟩ := hr
    · exact absurd hx h0
    have HC := Lib.hid hcs
    clear hcs h0
    go_enter Tryz.func16, Tryz.ntmps16
    go_wp2
    go_loopw [4] (fun v4 wr => ∃ k : Nat, k ≤ n ∧ v4 = .int .i64 (k : Int) ∧ Writes wr w.heap.size n 2 (upto (fun i => [z i 0, z i 1]) (fun _ => [.string ByteArray.empty, .int .i64 0]) k) ∧ Below w.heap.size w wr) (fun v4 _ => n - (intOf v4).toNat)
    case atStart =>
      refine ⟨0, Nat.zero_le _, rfl, ⟨by simp, fun o => by simp, fun i hi j u hu => ?_⟩, by go_grown⟩
      rw [upto_zero] at hu
      rw [World.cell?_alloc_new]; exact zero_at n i j u hi hu
    case round =>
      obtain ⟨k, hk, rfl, U, hbel⟩ := hrel
      by_cases hlt : k < n
      · obtain ⟨x0, x1, e0, e1⟩ := rec_at HR.out hlt
        obtain ⟨h0, h1⟩ := rec_cells HC.out hlt
        rw [e0] at h0
        rw [e1] at h1
        have q0 : wr.cell? ⟨g, o + k * 2, none⟩ = some (.string x0) := by rw [hbel.cell (p := ⟨g, o + k * 2, none⟩) hg]; simpa [Nat.add_assoc] using h0
        have q1 : wr.cell? ⟨g, o + k * 2 + 1, none⟩ = some (.int .i64 x1) := by rw [hbel.cell (p := ⟨g, o + k * 2 + 1, none⟩) hg]; simpa [Nat.add_assoc] using h1
        clear h0 h1
        have i0 : (0 : Int) ≤ (k : Int) := by omega
        have i1 : (k : Int) < (n : Int) := by omega
        have HU := Lib.hid U
        have HE := Lib.hid (show (fun i => [z i 0, z i 1] : Nat → List Value) k = [.string x0, .int .i64 x1] by simp only [e0, e1])
        clear U e0 e1
        go_wp2_with (go_at_call 9; (with_reducible refine (to_any _ _ _).mono ?_); rintro e w' ⟨rfl, hb⟩; have hB := on_of (W := w) (by go_grown) hb; have U2 := HU.out.on hb; obtain ⟨c0, c1⟩ := cells_of U2.cell hlt (upto_ge (by omega)); have f0 := U2.free; have hh := U2.here; clear hb)
        have U3 := U2.all hlt (fun _ => rfl) (fun _ => rfl)
        rw [HE.out] at U3
        have U4 := setAll_below hB w.heap.size (k * 2) (Nat.le_refl _) [.string x0, .int .i64 x1]
        go_roundw
        case rel => exact ⟨k + 1, by omega, by go_num, by first | exact U3 | simpa [setAll] using U3, by first | exact U4 | simpa [setAll] using U4⟩
        case measure => simp [intOf]; omega
      · obtain rfl : k = n := by omega
        go_wp2
        go_ret
        exact ⟨_, rfl, (U.slab (Nat.le_refl _) _ (Nat.le_refl _)).same fun i hi => upto_lt hi, hbel⟩
def marked (N i : Nat) : List Value := [.string (mt (N + i * 2)), .int .i64 ((N + i * 2 + 1 : Nat) : Int)]
set_option maxHeartbeats 2000000 in
theorem markS_any (w : World) (B N n : Nat) (v : Value) (F : Nat → List Value) (hn : n ≤ 2000000) (hN0 : 0 < N) (hN : N ≤ 1000000) (hB0 : B ≤ w.heap.size) (h : Slab w B v n 2 F) (hs : Shape F n) (hl : ∀ i, (F i).length = 2) :
    Calls Tryz.prog 19 #[v, .int .i64 (N : Int)] w fun e w' => e = .returned (.int .i64 ((N + n * 2 : Nat) : Int)) ∧ Slab w' B v n 2 (marked N) ∧ Below B w w' ∧ w.grownBy w' (rowOf n v) := by
  by_cases hnz : n = 0
  · obtain ⟨a1, c1, rfl, _⟩ := id h
    subst hnz
    have HX := Lib.hid h
    clear hs h
    go_enter Tryz.func19, Tryz.ntmps19
    go_wp2
    go_loopw [1, 5] (fun k i wr => i = .int .i64 0 ∧ k = .int .i64 (N : Int) ∧ wr = w) (fun _ _ _ => 0)
    case atStart => exact ⟨rfl, rfl, rfl⟩
    case round =>
      obtain ⟨rfl, rfl, rfl⟩ := hrel
      go_wp2
      go_ret
      exact ⟨by simp, HX.out.same fun i hi => by omega, Below.refl _ _, World.grownBy.refl _ _⟩
  · obtain ⟨g, cap, rfl, hBg, W1⟩ : ∃ g cap, v = .slice (some ⟨g, 0, none⟩) n cap ∧ B ≤ g ∧ Writes w g n 2 F := by
      rcases h.writes with ⟨h0, _⟩ | h
      · exact absurd h0 hnz
      · exact h
    have hcap := h.cap_le
    have hn0 : ¬ n = 0 := by
      intro h0; apply hnz; exact h0
    have HS := Lib.hid hs
    have HL := Lib.hid hl
    have HW := Lib.hid W1
    clear h hs hl W1
    go_enter Tryz.func19, Tryz.ntmps19
    go_wp2
    go_loopw [1, 5] (fun q i wr => ∃ k : Nat, k ≤ n ∧ i = .int .i64 (k : Int) ∧ q = .int .i64 ((N + k * 2 : Nat) : Int) ∧ Writes wr g n 2 (upto (marked N) F k) ∧ Below B w wr ∧ w.grownBy wr (some g)) (fun _ i _ => n - (intOf i).toNat)
    case atStart => exact ⟨0, Nat.zero_le _, rfl, by simp, by rw [upto_zero]; exact HW.out, Below.refl _ _, World.grownBy.refl _ _⟩
    case round =>
      obtain ⟨k, hk, rfl, rfl, U, hbel, hgr⟩ := hrel
      by_cases hlt : k < n
      · obtain ⟨x0, x1, hf⟩ := HS.out k hlt
        have hfk : upto (marked N) F k k = [.string x0, .int .i64 x1] := (upto_ge (by omega)).trans hf
        have HU := Lib.hid U
        have i0 : (0 : Int) ≤ (k : Int) := by omega
        have i1 : (k : Int) < (n : Int) := by omega
        have hl0 := U.here
        have hm0 : 0 < N + k * 2 := by omega
        have hmk : ∀ W : World, Calls Tryz.prog 54 #[.int .i64 ((N : Int) + (k : Int) * 2)] W fun e w1 => e = .returned (.string (mt (N + k * 2))) ∧ Below W.heap.size W w1 := fun W => by have := mark_any (N + k * 2) W hm0 (by omega); simpa using this
        clear U hf
        go_wp2_with (go_at_call 54; (with_reducible refine (hmk _).mono ?_); rintro e w1 ⟨rfl, b1⟩; have U2 := HU.out.on b1; obtain ⟨c0, c1⟩ := cells_of U2.cell hlt hfk; have f0 := U2.free; have hB := hbel.trans (b1.mono (Nat.le_trans hB0 hbel.size)); have hG := grown_on hgr (grown_below b1 _); have hsz := hB.size)
        have U3 := U2.all hlt HL.out (fun _ => rfl)
        have U4 := setAll_below hB g (k * 2) hBg [.string (mt (N + k * 2)), .int .i64 ((N + k * 2 + 1 : Nat) : Int)]
        have U5 := setAll_grown hG (k * 2) [.string (mt (N + k * 2)), .int .i64 ((N + k * 2 + 1 : Nat) : Int)]
        go_roundw
        case rel => exact ⟨k + 1, by omega, by go_num, by first | (congr 1; omega) | (congr 2; omega) | go_num, by first | exact U3 | simpa [setAll, marked] using U3, by first | exact U4 | simpa [setAll, marked] using U4, by first | exact U5 | simpa [setAll, marked] using U5⟩
        case measure => simp [intOf]; omega
      · obtain rfl : k = n := by omega
        have HU := Lib.hid U
        clear U
        go_wp2
        go_ret
        refine ⟨rfl, (HU.out.slab hBg _ hcap).same fun i hi => upto_lt hi, hbel, ?_⟩
        unfold rowOf
        split
        · rename_i h0; exact absurd h0 hn0
        · exact hgr
def strSize : Value → Nat
  | .string s => s.size
  | _ => 0
def total (z : Nat → Nat → Value) : Nat → Nat
  | 0 => 0
  | n + 1 => total z n + strSize (z n 0)
theorem sz_any (x0 : ByteArray) (x1 : Int) (L : Int) (w : World) (h0 : 0 ≤ L) (h1 : L ≤ 1048576) (hm : x0.size ≤ maxLen) : Calls Tryz.prog 6 #[.agg #[.string x0, .int .i64 x1], .int .i64 L] w fun e w' => e = .returned (.int .i64 (if (x0.size : Int) ≤ L then L - (x0.size : Int) else -1)) ∧ Below w.heap.size w w' := by
  unfold maxLen at hm
  by_cases h : (x0.size : Int) ≤ L
  · have h2 : ¬ (L - (x0.size : Int) < 0) := by omega
    go_enter Tryz.func6, Tryz.ntmps6
    go_wp2
    all_goals go_ret
    all_goals exact ⟨by simp [h], by go_grown⟩
  · have h2 : L - (x0.size : Int) < 0 := by omega
    go_enter Tryz.func6, Tryz.ntmps6
    go_wp2
    all_goals go_ret
    all_goals exact ⟨by simp [h], by go_grown⟩
set_option maxHeartbeats 1000000 in
theorem szS_any (a : Option Addr) (n cap : Nat) (z : Nat → Nat → Value) (L : Int) (w : World) (h0 : 0 ≤ L) (h1 : L ≤ 1048576) (hr : IsRecs kl w a n cap z) :
    Calls Tryz.prog 14 #[.slice a n cap, .int .i64 L] w fun e w' => (∃ r : Int, e = .returned (.int .i64 r) ∧ -1 ≤ r ∧ (0 ≤ r → (n : Int) + (total z n : Int) + r = L)) ∧ Below w.heap.size w w' := by
  have hnm : n ≤ maxLen := Nat.le_trans hr.1 hr.2.1
  unfold maxLen at hnm
  have HR := Lib.hid hr
  by_cases h : (n : Int) ≤ L
  · by_cases hn0 : n = 0
    · subst hn0
      clear hr
      have h2 : ¬ (L < 0) := by omega
      have h3 : ¬ (L - 0 < 0) := by omega
      go_enter Tryz.func14, Tryz.ntmps14
      go_wp2
      go_rounds 1
      go_ret
      exact ⟨⟨_, rfl, by omega, fun _ => by simp [total]⟩, by go_grown⟩
    · obtain ⟨_, _, hx | ⟨g, o, rfl, hg, hcs⟩⟩ := hr
      · exact absurd hx hn0
      have HC := Lib.hid hcs
      clear hcs
      have h2 : ¬ (L - (n : Int) < 0) := by omega
      go_enter Tryz.func14, Tryz.ntmps14
      go_wp2
      go_loopw [1, 5] (fun v1 v5 wr => ∃ (k : Nat) (r : Int), k ≤ n ∧ v5 = .int .i64 (k : Int) ∧ v1 = .int .i64 r ∧ 0 ≤ r ∧ (n : Int) + (total z k : Int) + r = L ∧ Below w.heap.size w wr) (fun _ v5 _ => n - (intOf v5).toNat)
      case atStart => exact ⟨0, L - n, Nat.zero_le _, rfl, rfl, by omega, by simp only [total]; omega, Below.refl _ _⟩
      case round =>
        obtain ⟨k, r, hk, rfl, rfl, hr0, hrl, hbel⟩ := hrel
        by_cases hlt : k < n
        · obtain ⟨x0, x1, e0, e1⟩ := rec_at HR.out hlt
          obtain ⟨_, hsz⟩ : ∃ s, z k 0 = .string s ∧ s.size ≤ maxLen := (HC.out k hlt 0 _ rfl).2
          obtain ⟨h0, h1⟩ := rec_cells HC.out hlt
          have hst : strSize (z k 0) = x0.size := by rw [e0]; rfl
          have hmm : x0.size ≤ maxLen := by
            have h3 := hsz.1.symm.trans e0
            injection h3 with h3; rw [← h3]; exact hsz.2
          rw [e0] at h0
          rw [e1] at h1
          have q0 : wr.cell? ⟨g, o + k * 2, none⟩ = some (.string x0) := by rw [hbel.cell (p := ⟨g, o + k * 2, none⟩) hg]; simpa [Nat.add_assoc] using h0
          have q1 : wr.cell? ⟨g, o + k * 2 + 1, none⟩ = some (.int .i64 x1) := by rw [hbel.cell (p := ⟨g, o + k * 2 + 1, none⟩) hg]; simpa [Nat.add_assoc] using h1
          clear h0 h1 hsz
          have i0 : (0 : Int) ≤ (k : Int) := by omega
          have i1 : (k : Int) < (n : Int) := by omega
          clear e0 e1
          by_cases hfit : (x0.size : Int) ≤ r
          · have h4 : ¬ (r - (x0.size : Int) < 0) := by omega
            go_wp2_with (go_at_call 6; (with_reducible refine (sz_any _ _ _ _ hr0 (by omega) hmm).mono ?_); rintro e w' ⟨rfl, hb⟩; rw [if_pos hfit]; have hB := on_of hbel hb; clear hb)
            go_roundw
            case rel => exact ⟨k + 1, r - x0.size, by omega, by go_num, rfl, by omega, by simp only [total, hst]; omega, hB⟩
            case measure => simp [intOf]; omega
          · go_wp2_with (go_at_call 6; (with_reducible refine (sz_any _ _ _ _ hr0 (by omega) hmm).mono ?_); rintro e w' ⟨rfl, hb⟩; rw [if_neg hfit]; have hB := on_of hbel hb; clear hb)
            go_ret
            exact ⟨⟨-1, rfl, by omega, fun h => by omega⟩, hB⟩
        · obtain rfl : k = n := by omega
          go_wp2
          go_ret
          exact ⟨⟨r, rfl, by omega, fun _ => hrl⟩, hbel⟩
  · have h2 : L - (n : Int) < 0 := by omega
    clear hr
    go_enter Tryz.func14, Tryz.ntmps14
    go_wp2
    go_ret
    exact ⟨⟨-1, rfl, by omega, fun h => by omega⟩, by go_grown⟩
end Go.Proofs.YtjmfgbbngocodaaGreat.Tokens

namespace Go.Proofs.YtjmfgbbngocodaaGreat.Turn
open Go.ChangeShapes Go.WideShapes Go.ChangeAt Go.RowKit
open Kit Point
set_option linter.unusedVariables false
set_option linter.unusedSimpArgs false
set_option linter.unnecessarySimpa false
def tokB (q s dx dy : Int) : Bool := decide (0 ≤ q ∧ q ≤ 3) && decide (1 ≤ s ∧ s ≤ 4) && inB dx && inB dy
theorem tok_true {q s dx dy : Int} (h : tokB q s dx dy = true) : (0 ≤ q ∧ q ≤ 3) ∧ (1 ≤ s ∧ s ≤ 4) ∧ (-200 ≤ dx ∧ dx ≤ 200) ∧ (-200 ≤ dy ∧ dy ≤ 200) := by
  simp only [tokB, inB, Bool.and_eq_true, decide_eq_true_eq] at h; omega
theorem turn_impl (q s dx dy : Int) (w : World) : Calls Tryz.prog 113 #[.agg #[.int .i64 q, .int .i64 s, .int .i64 dx, .int .i64 dy]] w fun e w' => e = .returned (.bool (tokB q s dx dy)) ∧ Below w.heap.size w w' := by
  by_cases h1 : 0 ≤ q ∧ q ≤ 3
  · by_cases h2 : 1 ≤ s ∧ s ≤ 4
    · cases h3 : inB dx
      all_goals
        have e1 : ¬ q < 0 := by omega
        have e2 : ¬ 4 ≤ q := by omega
        have e3 : ¬ s < 1 := by omega
        have e4 : ¬ 4 < s := by omega
        go_enter Tryz.func113, Tryz.ntmps113
        go_wp2_with (go_at_call 142; refine (coord_any _ _).mono ?_; rintro e w' ⟨rfl, rfl⟩)
        go_ret
        exact ⟨ret_bool (by simp [tokB, h1, h2, h3]), by go_grown⟩
    · go_enter Tryz.func113, Tryz.ntmps113
      by_cases e3 : s < 1
      · have e1 : ¬ q < 0 := by omega
        have e2 : ¬ 4 ≤ q := by omega
        go_wp2
        go_ret
        exact ⟨ret_bool (by simp [tokB, h2]), by go_grown⟩
      · have e1 : ¬ q < 0 := by omega
        have e2 : ¬ 4 ≤ q := by omega
        have e4 : 4 < s := by omega
        go_wp2
        go_ret
        exact ⟨ret_bool (by simp [tokB, h2]), by go_grown⟩
  · go_enter Tryz.func113, Tryz.ntmps113
    by_cases e1 : q < 0
    · go_wp2
      go_ret
      exact ⟨ret_bool (by simp [tokB, h1]), by go_grown⟩
    · have e2 : 4 ≤ q := by omega
      go_wp2
      go_ret
      exact ⟨ret_bool (by simp [tokB, h1]), by go_grown⟩
theorem turn_spec (q s dx dy : Int) (w : World) : Calls Tryz.prog 107 #[.agg #[.int .i64 q, .int .i64 s, .int .i64 dx, .int .i64 dy]] w fun e w' => e = .returned (.bool (tokB q s dx dy)) ∧ Below w.heap.size w w' := by
  cases h1 : decide (0 ≤ q ∧ q ≤ 3) <;> cases h2 : decide (1 ≤ s ∧ s ≤ 4) <;> cases h3 : inB dx
  all_goals
    go_enter Tryz.func107, Tryz.ntmps107
    go_wp2_with (first | (go_at_call 60; refine (in_any _ _ _ _).mono ?_; rintro e w' ⟨rfl, rfl⟩) | (go_at_call 141; refine (in2_any _ _).mono ?_; rintro e w' ⟨rfl, rfl⟩))
    go_ret
    exact ⟨ret_bool (by simp [tokB, h1, h2, h3]), by go_grown⟩
/-! ### The image -/
def rotX (q x y : Int) : Int := if q = 0 then x else if q = 1 then -y else if q = 2 then -x else y
def rotY (q x y : Int) : Int := if q = 0 then y else if q = 1 then x else if q = 2 then -y else -x
theorem rot_in {q x y : Int} (B : Int) (h : -B ≤ x ∧ x ≤ B) (k : -B ≤ y ∧ y ≤ B) : (-B ≤ rotX q x y ∧ rotX q x y ≤ B) ∧ (-B ≤ rotY q x y ∧ rotY q x y ≤ B) := by
  unfold rotX rotY
  by_cases h0 : q = 0
  · simp only [h0, if_true]; omega
  · by_cases h1 : q = 1
    · simp [h1]; omega
    · by_cases h2 : q = 2
      · simp [h2]; omega
      · simp [h0, h1, h2]; omega
theorem rot_next {k : Nat} (x y : Int) (h : (k : Int) < 3) : rotX ((k + 1 : Nat) : Int) x y = -rotY (k : Int) x y ∧ rotY ((k + 1 : Nat) : Int) x y = rotX (k : Int) x y := by
  have : k = 0 ∨ k = 1 ∨ k = 2 := by omega
  rcases this with rfl | rfl | rfl <;> simp [rotX, rotY]
theorem rot_zero (x y : Int) : rotX ((0 : Nat) : Int) x y = x ∧ rotY ((0 : Nat) : Int) x y = y := by simp [rotX, rotY]
theorem scale_big {x s : Int} (h : -20000 ≤ x ∧ x ≤ 20000) (hs : 1 ≤ s ∧ s ≤ 4) : -80000 ≤ x * s ∧ x * s ≤ 80000 := by
  have : s = 1 ∨ s = 2 ∨ s = 3 ∨ s = 4 := by omega
  rcases this with rfl | rfl | rfl | rfl <;> omega
def imX (q s dx x y : Int) : Int := rotX q (x * s) (y * s) + dx
def imY (q s dy x y : Int) : Int := rotY q (x * s) (y * s) + dy
set_option maxHeartbeats 1000000 in
theorem image_spec_big (q s dx dy x y : Int) (w : World) (ht : tokB q s dx dy = true) (hx : -20000 ≤ x ∧ x ≤ 20000) (hy : -20000 ≤ y ∧ y ≤ 20000) :
    Calls Tryz.prog 66 #[.agg #[.int .i64 q, .int .i64 s, .int .i64 dx, .int .i64 dy], .agg #[.int .i64 x, .int .i64 y]] w fun e w' => e = .returned (.agg #[.int .i64 (imX q s dx x y), .int .i64 (imY q s dy x y)]) ∧ Below w.heap.size w w' := by
  obtain ⟨hq, hs, hdx, hdy⟩ := tok_true ht
  obtain ⟨n, rfl⟩ : ∃ n : Nat, q = n := ⟨q.toNat, by omega⟩
  have mx1 := scale_big hx hs
  have my1 := scale_big hy hs
  unfold imX imY
  generalize hX : x * s = X at mx1
  generalize hY : y * s = Y at my1
  clear ht
  go_enter Tryz.func66, Tryz.ntmps66
  go_wp2_with fail
  go_loopw [5, 6, 7] (fun v5 v6 v7 wr => ∃ k : Nat, k ≤ n ∧ v5 = .int .i64 (rotX k X Y) ∧ v6 = .int .i64 (rotY k X Y) ∧ v7 = .int .i64 k ∧ wr = ((w.alloc (.cells #[.int .i64 n, .int .i64 s, .int .i64 dx, .int .i64 dy] 38)).alloc (.cells #[.int .i64 x, .int .i64 y] 109)).alloc (.cells #[.int .i64 0, .int .i64 0] 109)) (fun _ _ v7 _ => (n - intOf v7).toNat)
  case atStart => exact ⟨0, by omega, by rw [(rot_zero X Y).1], by rw [(rot_zero X Y).2], rfl, rfl⟩
  case round =>
    obtain ⟨k, hk, rfl, rfl, rfl, rfl⟩ := hrel
    by_cases hlt : (k : Int) < n
    · have hr := rot_in (q := k) 80000 mx1 my1
      have hn := rot_next (k := k) X Y (by omega)
      go_wp2
      go_roundw
      case rel => exact ⟨k + 1, by omega, by rw [hn.1], by rw [hn.2], by go_num, by first | rfl | trivial⟩
      case measure => simp [intOf]; omega
    · obtain rfl : k = n := by omega
      have hr := rot_in (q := k) 80000 mx1 my1
      go_wp2
      go_returns
      exact ⟨rfl, by go_grown⟩
theorem image_spec (q s dx dy x y : Int) (w : World) (ht : tokB q s dx dy = true) (hx : -200 ≤ x ∧ x ≤ 200) (hy : -200 ≤ y ∧ y ≤ 200) :
    Calls Tryz.prog 66 #[.agg #[.int .i64 q, .int .i64 s, .int .i64 dx, .int .i64 dy], .agg #[.int .i64 x, .int .i64 y]] w fun e w' => e = .returned (.agg #[.int .i64 (imX q s dx x y), .int .i64 (imY q s dy x y)]) ∧ Below w.heap.size w w' :=
  image_spec_big q s dx dy x y w ht (by omega) (by omega)
set_option maxHeartbeats 1000000 in
theorem image_impl_big (q s dx dy x y : Int) (w : World) (ht : tokB q s dx dy = true) (hx : -20000 ≤ x ∧ x ≤ 20000) (hy : -20000 ≤ y ∧ y ≤ 20000) :
    Calls Tryz.prog 162 #[.agg #[.int .i64 q, .int .i64 s, .int .i64 dx, .int .i64 dy], .agg #[.int .i64 x, .int .i64 y]] w fun e w' => e = .returned (.agg #[.int .i64 (imX q s dx x y), .int .i64 (imY q s dy x y)]) ∧ Below w.heap.size w w' := by
  obtain ⟨hq, hs, hdx, hdy⟩ := tok_true ht
  obtain ⟨n, rfl⟩ : ∃ n : Nat, q = n := ⟨q.toNat, by omega⟩
  have mx1 := scale_big hx hs
  have my1 := scale_big hy hs
  unfold imX imY
  generalize hX : x * s = X at mx1
  generalize hY : y * s = Y at my1
  clear ht
  go_enter Tryz.func162, Tryz.ntmps162
  go_wp2_with fail
  go_loopw [18] (fun v18 wr => ∃ k : Nat, k ≤ n ∧ v18 = .int .i64 k ∧ wr = ((w.alloc (.cells #[.int .i64 n, .int .i64 s, .int .i64 dx, .int .i64 dy] 38)).alloc (.cells #[.int .i64 (rotX k X Y), .int .i64 (rotY k X Y)] 109)).alloc (.cells #[.int .i64 0, .int .i64 0] 109)) (fun v18 _ => (n - intOf v18).toNat)
  case atStart => exact ⟨0, by omega, rfl, by rw [(rot_zero X Y).1, (rot_zero X Y).2]⟩
  case round =>
    obtain ⟨k, hk, rfl, rfl⟩ := hrel
    by_cases hlt : (k : Int) < n
    · have hr := rot_in (q := k) 80000 mx1 my1
      have hn := rot_next (k := k) X Y (by omega)
      go_wp2
      go_roundw
      case rel => exact ⟨k + 1, by omega, by go_num, by rw [hn.1, hn.2]⟩
      case measure => simp [intOf]; omega
    · obtain rfl : k = n := by omega
      have hr := rot_in (q := k) 80000 mx1 my1
      go_wp2
      go_returns
      exact ⟨rfl, by go_grown⟩
theorem image_impl (q s dx dy x y : Int) (w : World) (ht : tokB q s dx dy = true) (hx : -200 ≤ x ∧ x ≤ 200) (hy : -200 ≤ y ∧ y ≤ 200) :
    Calls Tryz.prog 162 #[.agg #[.int .i64 q, .int .i64 s, .int .i64 dx, .int .i64 dy], .agg #[.int .i64 x, .int .i64 y]] w fun e w' => e = .returned (.agg #[.int .i64 (imX q s dx x y), .int .i64 (imY q s dy x y)]) ∧ Below w.heap.size w w' :=
  image_impl_big q s dx dy x y w ht (by omega) (by omega)
theorem at_impl (q s dx dy x y : Int) (w : World) :
    Calls Tryz.prog 166 #[.agg #[.int .i64 q, .int .i64 s, .int .i64 dx, .int .i64 dy], .agg #[.int .i64 x, .int .i64 y]] w fun e w' => e = .returned (.agg #[.int .i64 q, .int .i64 s, .int .i64 x, .int .i64 y]) ∧ Below w.heap.size w w' := by
  go_enter Tryz.func166, Tryz.ntmps166
  go_upto_region 1 with fail
  go_region
  all_goals go_wp2_with fail
  all_goals go_returns
  all_goals exact ⟨rfl, by go_grown⟩
theorem ident_spec (w : World) : Calls Tryz.prog 69 #[] w fun e w' => e = .returned (.agg #[.int .i64 0, .int .i64 1, .int .i64 0, .int .i64 0]) ∧ Below w.heap.size w w' := by
  go_enter Tryz.func69, Tryz.ntmps69
  go_wp2
  go_returns
  exact ⟨rfl, by go_grown⟩
end Go.Proofs.YtjmfgbbngocodaaGreat.Turn

namespace Go.Proofs.YtjmfgbbngocodaaGreat.Box
open Go.ChangeShapes Go.WideShapes Go.ChangeAt Go.RowKit
open Kit Point
set_option linter.unusedVariables false
set_option linter.unusedSimpArgs false
set_option linter.unnecessarySimpa false
attribute [local go_sem ↓] run_mx run_mn
def dots (x0 y0 x1 y1 : Int) : Int := if bokB x0 y0 x1 y1 = true then (x1 - x0) * (y1 - y0) else 0
theorem area_le {a b : Int} (h0 : 0 ≤ a) (h1 : a ≤ 400) (h2 : 0 ≤ b) (h3 : b ≤ 400) : 0 ≤ a * b ∧ a * b ≤ 160000 :=
  ⟨Int.mul_nonneg h0 h2, Int.le_trans (Int.mul_le_mul h1 h3 h2 (by omega)) (by omega)⟩
set_option maxHeartbeats 400000 in
theorem dots_impl (x0 y0 x1 y1 : Int) (w : World) : Calls Tryz.prog 163 #[.agg #[.int .i64 x0, .int .i64 y0, .int .i64 x1, .int .i64 y1]] w fun e w' => e = .returned (.int .i64 (dots x0 y0 x1 y1)) ∧ Below w.heap.size w w' := by
  cases h : bokB x0 y0 x1 y1
  · go_enter Tryz.func163, Tryz.ntmps163
    go_wp2_with (go_at_call 114; refine (bok_impl _ _ _ _ _).mono ?_; rintro e w' ⟨rfl, hb⟩; have hB := on_of (W := w) (by go_grown) hb; obtain ⟨hc, hf⟩ := bcell hb; have hz : w.heap.size < w'.heap.size := (by have := hb.size; (try simp at this); omega); clear hb)
    go_ret
    exact ⟨ret_int (by simp [dots, h]), by go_grown⟩
  · obtain ⟨b0, b1, b2, b3, b4, b5⟩ := bok_true h
    obtain ⟨a0, a1⟩ := area_le (a := x1 - x0) (b := y1 - y0) (by omega) (by omega) (by omega) (by omega)
    go_enter Tryz.func163, Tryz.ntmps163
    go_wp2_with (go_at_call 114; refine (bok_impl _ _ _ _ _).mono ?_; rintro e w' ⟨rfl, hb⟩; have hB := on_of (W := w) (by go_grown) hb; obtain ⟨hc, hf⟩ := bcell hb; have hz : w.heap.size < w'.heap.size := (by have := hb.size; (try simp at this); omega); clear hb)
    go_ret
    exact ⟨ret_int (by simp [dots, h]), by go_grown⟩
def DotsOf (x0 y0 x1 y1 n : Int) : Prop := (n = 0 ∧ ¬ (x0 < x1 ∧ y0 < y1)) ∨ (1 ≤ n ∧ x0 < x1 ∧ y0 < y1)
theorem dots_of {x0 y0 x1 y1 : Int} (h0 : -200 ≤ x0 ∧ x0 ≤ 200) (h1 : -200 ≤ y0 ∧ y0 ≤ 200) (h2 : -200 ≤ x1 ∧ x1 ≤ 200) (h3 : -200 ≤ y1 ∧ y1 ≤ 200) : DotsOf x0 y0 x1 y1 (dots x0 y0 x1 y1) := by
  unfold dots DotsOf
  by_cases h : x0 < x1 ∧ y0 < y1
  · have hb : bokB x0 y0 x1 y1 = true := by simp [bokB, inB]; omega
    rw [if_pos hb]
    have := Int.mul_pos (show 0 < x1 - x0 by omega) (show 0 < y1 - y0 by omega)
    exact .inr ⟨by omega, h⟩
  · refine .inl ⟨?_, h⟩
    by_cases hb : bokB x0 y0 x1 y1 = true
    · rw [if_pos hb]
      obtain ⟨_, _, _, _, a, b⟩ := bok_true hb
      by_cases hx : x0 = x1
      · subst hx; simp
      · have : y0 = y1 := by omega
        subst this; simp
    · rw [if_neg hb]
theorem dots_impl' (x0 y0 x1 y1 : Int) (w : World) (h : (-200 ≤ x0 ∧ x0 ≤ 200) ∧ (-200 ≤ y0 ∧ y0 ≤ 200) ∧ (-200 ≤ x1 ∧ x1 ≤ 200) ∧ (-200 ≤ y1 ∧ y1 ≤ 200)) : Calls Tryz.prog 163 #[.agg #[.int .i64 x0, .int .i64 y0, .int .i64 x1, .int .i64 y1]] w fun e w' => ∃ n : Int, DotsOf x0 y0 x1 y1 n ∧ e = .returned (.int .i64 n) ∧ Below w.heap.size w w' :=
  (dots_impl _ _ _ _ w).mono fun _ _ ⟨he, hb⟩ => ⟨_, dots_of h.1 h.2.1 h.2.2.1 h.2.2.2, he, hb⟩
def meetB (x0 y0 x1 y1 u0 v0 u1 v1 : Int) : Bool := bokB x0 y0 x1 y1 && bokB u0 v0 u1 v1 && decide (mx x0 u0 < mn x1 u1 ∧ mx y0 v0 < mn y1 v1)
def meetV (x0 y0 x1 y1 u0 v0 u1 v1 : Int) : Value :=
  .agg #[.int .i64 (sel (meetB x0 y0 x1 y1 u0 v0 u1 v1) (mx x0 u0)), .int .i64 (sel (meetB x0 y0 x1 y1 u0 v0 u1 v1) (mx y0 v0)), .int .i64 (sel (meetB x0 y0 x1 y1 u0 v0 u1 v1) (mn x1 u1)), .int .i64 (sel (meetB x0 y0 x1 y1 u0 v0 u1 v1) (mn y1 v1))]
theorem meet_no {x0 y0 x1 y1 u0 v0 u1 v1 : Int} (h : bokB x0 y0 x1 y1 = false ∨ bokB u0 v0 u1 v1 = false ∨ ¬ (mx x0 u0 < mn x1 u1 ∧ mx y0 v0 < mn y1 v1)) : Ending.returned (.agg #[.int .i64 0, .int .i64 0, .int .i64 0, .int .i64 0]) = .returned (meetV x0 y0 x1 y1 u0 v0 u1 v1) := by
  have hm : meetB x0 y0 x1 y1 u0 v0 u1 v1 = false := by
    rcases h with h | h | h
    · simp [meetB, h]
    · simp [meetB, h]
    · simp only [meetB, Bool.and_eq_false_iff, decide_eq_false_iff_not]; exact .inr h
  simp [meetV, hm, sel]
theorem meet_yes {x0 y0 x1 y1 u0 v0 u1 v1 : Int} (h1 : bokB x0 y0 x1 y1 = true) (h2 : bokB u0 v0 u1 v1 = true) (h3 : mx x0 u0 < mn x1 u1 ∧ mx y0 v0 < mn y1 v1) : Ending.returned (.agg #[.int .i64 (mx x0 u0), .int .i64 (mx y0 v0), .int .i64 (mn x1 u1), .int .i64 (mn y1 v1)]) = .returned (meetV x0 y0 x1 y1 u0 v0 u1 v1) := by
  have hm : meetB x0 y0 x1 y1 u0 v0 u1 v1 = true := by
    simp only [meetB, h1, h2, Bool.true_and, decide_eq_true_eq]; exact h3
  simp [meetV, hm, sel]
set_option maxHeartbeats 2000000 in
theorem meet_impl (x0 y0 x1 y1 u0 v0 u1 v1 : Int) (w : World) : Calls Tryz.prog 153 #[.agg #[.int .i64 x0, .int .i64 y0, .int .i64 x1, .int .i64 y1], .agg #[.int .i64 u0, .int .i64 v0, .int .i64 u1, .int .i64 v1]] w fun e w' => e = .returned (meetV x0 y0 x1 y1 u0 v0 u1 v1) ∧ Below w.heap.size w w' := by
  cases h1 : bokB x0 y0 x1 y1 <;> cases h2 : bokB u0 v0 u1 v1
  · go_enter Tryz.func153, Tryz.ntmps153
    go_wp2_with (go_at_call 114; refine (bok_impl _ _ _ _ _).mono ?_; rintro e w' ⟨rfl, hb⟩; have hB := on_of (W := w) (by go_grown) hb; obtain ⟨hc, hf⟩ := bcell hb; have hz : w.heap.size < w'.heap.size := (by have := hb.size; (try simp at this); omega); have hz1 : w.heap.size + 1 < w'.heap.size := (by have := hb.size; (try simp at this); omega); have hz2 : w.heap.size + 1 + 1 < w'.heap.size := (by have := hb.size; (try simp at this); omega); clear hb)
    refine bodyPost_ret (by simp [results, Tryz.results153, go_sem, hc, hz2]; try rfl) rfl ?_
    exact ⟨meet_no (.inl h1), by go_grown⟩
  · go_enter Tryz.func153, Tryz.ntmps153
    go_wp2_with (go_at_call 114; refine (bok_impl _ _ _ _ _).mono ?_; rintro e w' ⟨rfl, hb⟩; have hB := on_of (W := w) (by go_grown) hb; obtain ⟨hc, hf⟩ := bcell hb; have hz : w.heap.size < w'.heap.size := (by have := hb.size; (try simp at this); omega); have hz1 : w.heap.size + 1 < w'.heap.size := (by have := hb.size; (try simp at this); omega); have hz2 : w.heap.size + 1 + 1 < w'.heap.size := (by have := hb.size; (try simp at this); omega); clear hb)
    refine bodyPost_ret (by simp [results, Tryz.results153, go_sem, hc, hz2]; try rfl) rfl ?_
    exact ⟨meet_no (.inl h1), by go_grown⟩
  · go_enter Tryz.func153, Tryz.ntmps153
    go_wp2_with (go_at_call 114; refine (bok_impl _ _ _ _ _).mono ?_; rintro e w' ⟨rfl, hb⟩; have hB := on_of (W := w) (by go_grown) hb; obtain ⟨hc, hf⟩ := bcell hb; have hz : w.heap.size < w'.heap.size := (by have := hb.size; (try simp at this); omega); have hz1 : w.heap.size + 1 < w'.heap.size := (by have := hb.size; (try simp at this); omega); have hz2 : w.heap.size + 1 + 1 < w'.heap.size := (by have := hb.size; (try simp at this); omega); clear hb)
    refine bodyPost_ret (by simp [results, Tryz.results153, go_sem, *]; try rfl) rfl ?_
    exact ⟨meet_no (.inr (.inl h2)), by go_grown⟩
  · have r1 := bok_true h1
    have r2 := bok_true h2
    have m0 := mx_in (a := x0) (b := u0) (by omega) (by omega)
    have m1 := mx_in (a := y0) (b := v0) (by omega) (by omega)
    have m2 := mn_in (a := x1) (b := u1) (by omega) (by omega)
    have m3 := mn_in (a := y1) (b := v1) (by omega) (by omega)
    go_enter Tryz.func153, Tryz.ntmps153
    go_wp2_with (first | (go_at_call 114; refine (bok_impl _ _ _ _ _).mono ?_; rintro e w' ⟨rfl, hb⟩; have hB := on_of (W := w) (by go_grown) hb; obtain ⟨hc, hf⟩ := bcell hb; have hz : w.heap.size < w'.heap.size := (by have := hb.size; (try simp at this); omega); have hz1 : w.heap.size + 1 < w'.heap.size := (by have := hb.size; (try simp at this); omega); have hz2 : w.heap.size + 1 + 1 < w'.heap.size := (by have := hb.size; (try simp at this); omega); clear hb) | (go_at_call 163; refine (dots_impl' _ _ _ _ _ ⟨m0, m1, m2, m3⟩).mono ?_; rintro e w' ⟨n, hn, rfl, hb⟩; have hB := on_of (W := w) (by go_grown) hb; obtain ⟨hc, hf⟩ := bcell hb; have hz : w.heap.size + 1 + 1 < w'.heap.size := (by have := hb.size; (try simp at this); omega); have hz1 := hb.size; clear hb; rcases hn with ⟨rfl, hn⟩ | ⟨hn1, hn⟩))
    all_goals refine bodyPost_ret (by simp [results, Tryz.results153, go_sem, *]; try rfl) rfl ?_
    all_goals first | exact ⟨meet_no (.inr (.inr hn)), by go_grown⟩ | exact ⟨meet_yes h1 h2 hn, by go_grown⟩
set_option maxHeartbeats 2000000 in
theorem meet_spec (x0 y0 x1 y1 u0 v0 u1 v1 : Int) (w : World) : Calls Tryz.prog 67 #[.agg #[.int .i64 x0, .int .i64 y0, .int .i64 x1, .int .i64 y1], .agg #[.int .i64 u0, .int .i64 v0, .int .i64 u1, .int .i64 v1]] w fun e w' => e = .returned (meetV x0 y0 x1 y1 u0 v0 u1 v1) ∧ Below w.heap.size w w' := by
  cases h1 : bokB x0 y0 x1 y1 <;> cases h2 : bokB u0 v0 u1 v1
  all_goals
    go_enter Tryz.func67, Tryz.ntmps67
    go_wp2_with (go_at_call 108; refine (bok_spec _ _ _ _ _).mono ?_; rintro e w' ⟨rfl, hb⟩; have hB := on_of (W := w) (by go_grown) hb; obtain ⟨hc, hf⟩ := bcell hb; have hz : w.heap.size < w'.heap.size := (by have := hb.size; (try simp at this); omega); have hz1 : w.heap.size + 1 < w'.heap.size := (by have := hb.size; (try simp at this); omega); have hz2 : w.heap.size + 1 + 1 < w'.heap.size := (by have := hb.size; (try simp at this); omega); have hz3 : w.heap.size + 1 + 1 + 1 < w'.heap.size := (by have := hb.size; (try simp at this); omega); clear hb)
    all_goals refine bodyPost_ret (by simp [results, Tryz.results67, go_sem, *]; try rfl) rfl ?_
  all_goals first | exact ⟨meet_no (.inl h1), by go_grown⟩ | exact ⟨meet_no (.inr (.inl h2)), by go_grown⟩ | exact ⟨meet_no (.inr (.inr (by omega))), by go_grown⟩ | exact ⟨meet_yes h1 h2 (by omega), by go_grown⟩
end Go.Proofs.YtjmfgbbngocodaaGreat.Box

