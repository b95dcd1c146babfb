/-
  Texts of this seat, laid together: Tokens, ClH
-/
import Derived.Laws.MakeOwn
import Derived.Laws.Entries
import Derived.Deep.RegionHeld3
import Derived.Test.YtaapofbccanjhaaGreatZ02
import Derived.Test.YtaapofbccanjhaaGreatZ04
import Derived.Test.YtaapofbccanjhaaGreatZ03
import Derived.Test.YtaapofbccanjhaaGreatZ26
namespace Go.Proofs.YtaapofbccanjhaaGreat.Tokens
open Go.ChangeShapes Go.WideShapes Go.ChangeAt Go.RowKit
open Kit Slabs Recs Marking
set_option linter.unusedVariables false
set_option linter.unusedSimpArgs false
set_option linter.unnecessarySimpa false
theorem to_any (x0 : ByteArray) (x1 : Int) (w : World) : Calls Tryz.prog 9 #[.agg #[.string x0, .int .i64 x1]] w fun e w' => e = .returned (.agg #[.string x0, .int .i64 x1]) ∧ Below w.heap.size w w' := by
  go_enter Tryz.func9, Tryz.ntmps9
  go_wp2
  go_returns
  exact ⟨rfl, by go_grown⟩
theorem eq_same (x0 : ByteArray) (x1 : Int) (w : World) : Calls Tryz.prog 53 #[.agg #[.string x0, .int .i64 x1], .agg #[.string x0, .int .i64 x1]] w fun e w' => e = .returned (.bool true) ∧ Below w.heap.size w w' := by
  go_enter Tryz.func53, Tryz.ntmps53
  go_wp2
  go_ret
  exact ⟨rfl, by go_grown⟩
def Shape (F : Nat → List Value) (n : Nat) : Prop := ∀ i, i < n → ∃ (x0 : ByteArray) (x1 : Int), F i = [.string x0, .int .i64 x1]
theorem cells_of {w : World} {g n : Nat} {F : Nat → List Value} (h : ∀ i, i < n → ∀ j u, (F i)[j]? = some u → w.cell? ⟨g, i * 2 + j, none⟩ = some u) {i : Nat} (hi : i < n) {x0 : ByteArray} {x1 : Int} (e : F i = [.string x0, .int .i64 x1]) : w.cell? ⟨g, i * 2, none⟩ = some (.string x0) ∧ w.cell? ⟨g, i * 2 + 1, none⟩ = some (.int .i64 x1) := by
  have h0 := h i hi
  rw [e] at h0
  exact ⟨by simpa using h0 0 _ rfl, by simpa using h0 1 _ rfl⟩
set_option maxHeartbeats 1000000 in
theorem eqS_same (w : World) (B1 B2 : Nat) (v1 v2 : Value) (n : Nat) (F : Nat → List Value) (hn : n ≤ 1048576) (h1 : Slab w B1 v1 n 2 F) (h2 : Slab w B2 v2 n 2 F) (hs : Shape F n) :
    Calls Tryz.prog 18 #[v1, v2] w fun e w' => e = .returned (.bool true) ∧ Below w.heap.size w w' := by
  rcases h1.writes with ⟨h0, a1, c1, rfl⟩ | ⟨g1, c1, rfl, _, W1⟩
  · subst h0
    obtain ⟨a2, c2, rfl, _⟩ := h2
    clear h1 hs
    go_enter Tryz.func18, Tryz.ntmps18
    go_wp2
    go_loopw [5] (fun i wr => i = .int .i64 0 ∧ Below w.heap.size w wr) (fun _ _ => 0)
    case atStart => exact ⟨rfl, Below.refl _ _⟩
    case round =>
      obtain ⟨rfl, hbel⟩ := hrel
      go_wp2
      go_ret
      exact ⟨rfl, hbel⟩
  · rcases h2.writes with ⟨h0, a2, c2, rfl⟩ | ⟨g2, c2, rfl, _, W2⟩
    · subst h0
      clear h1 h2 hs W1
      go_enter Tryz.func18, Tryz.ntmps18
      go_wp2
      go_loopw [5] (fun i wr => i = .int .i64 0 ∧ Below w.heap.size w wr) (fun _ _ => 0)
      case atStart => exact ⟨rfl, Below.refl _ _⟩
      case round =>
        obtain ⟨rfl, hbel⟩ := hrel
        go_wp2
        go_ret
        exact ⟨rfl, hbel⟩
    · have H := Lib.hid (And.intro W1 W2)
      have HS := Lib.hid hs
      clear h1 h2 hs W1 W2
      go_enter Tryz.func18, Tryz.ntmps18
      go_wp2
      go_loopw [5] (fun i wr => ∃ k : Nat, k ≤ n ∧ i = .int .i64 (k : Int) ∧ Below w.heap.size w wr) (fun i _ => n - (intOf i).toNat)
      case atStart => exact ⟨0, Nat.zero_le _, rfl, Below.refl _ _⟩
      case round =>
        obtain ⟨k, hk, rfl, hbel⟩ := hrel
        by_cases hlt : k < n
        · obtain ⟨x0, x1, hf⟩ := HS.out k hlt
          obtain ⟨p0, p1⟩ := cells_of H.out.1.cell hlt hf
          obtain ⟨q0, q1⟩ := cells_of H.out.2.cell hlt hf
          have g1l := H.out.1.here
          have g2l := H.out.2.here
          have i0 : (0 : Int) ≤ (k : Int) := by omega
          have i1 : (k : Int) < (n : Int) := by omega
          have hsz := hbel.size
          obtain ⟨hc, hf2, hz⟩ := bcell3 hbel
          clear hf
          go_wp2_with fail
          go_region_held3 (fun w' => (∀ b o, b < w.heap.size → w'.cell? ⟨b, o, none⟩ = w.cell? ⟨b, o, none⟩) ∧ Below w.heap.size w w') ((refine keepS ?_; go_grown; done))
            ((go_at_call 53; (with_reducible refine (eq_same _ _ _).mono ?_); rintro e w' ⟨rfl, hb⟩; have hB := on_of (W := w) (by go_grown) hb))
          go_wp2
          go_roundw
          case rel => exact ⟨k + 1, by omega, by go_num, hB⟩
          case measure => simp [intOf]; omega
        · obtain rfl : k = n := by omega
          go_wp2
          go_ret
          exact ⟨rfl, hbel⟩
def kl : List FK := [.string, .int .i64]
theorem rec_at {w : World} {a : Option Addr} {n cap : Nat} {z : Nat → Nat → Value} (h : IsRecs kl w a n cap z) {i : Nat} (hi : i < n) : ∃ (x0 : ByteArray) (x1 : Int), z i 0 = .string x0 ∧ z i 1 = .int .i64 x1 := by
  obtain ⟨_, _, h | ⟨g, o, _, _, h⟩⟩ := h
  · omega
  · obtain ⟨x0, e0, _⟩ := (h i hi 0 _ rfl).2
    obtain ⟨x1, e1, _⟩ := (h i hi 1 _ rfl).2
    exact ⟨x0, x1, e0, e1⟩
theorem rec_shape {w : World} {a : Option Addr} {n cap : Nat} {z : Nat → Nat → Value} (h : IsRecs kl w a n cap z) : Shape (fun i => [z i 0, z i 1]) n := by
  intro i hi
  obtain ⟨x0, x1, e0, e1⟩ := rec_at h hi
  exact ⟨x0, x1, by simp only [e0, e1]⟩
theorem rec_cells {w : World} {g o n : Nat} {z : Nat → Nat → Value} (h : ∀ i, i < n → ∀ j kd, kl[j]? = some kd → w.cell? ⟨g, o + (i * kl.length + j), none⟩ = some (z i j) ∧ kd.fits (z i j)) {i : Nat} (hi : i < n) : w.cell? ⟨g, o + i * 2, none⟩ = some (z i 0) ∧ w.cell? ⟨g, o + i * 2 + 1, none⟩ = some (z i 1) :=
  ⟨(h i hi 0 _ rfl).1, (h i hi 1 _ rfl).1⟩
theorem zero_at (n i j : Nat) (u : Value) (hi : i < n) (hu : ([.string ByteArray.empty, .int .i64 0] : List Value)[j]? = some u) : (madeCells #[.string ByteArray.empty, .int .i64 0] (n * 2))[i * 2 + j]? = some u := by
  have hj : j < 2 := by have := (List.getElem?_eq_some_iff.1 hu).1; simpa using this
  unfold madeCells
  rw [Array.getElem?_map, Array.getElem?_range, if_pos (by have := Nat.mul_le_mul_right 2 (show i + 1 ≤ n by omega); rw [Nat.succ_mul] at this; omega)]
  have h1 : (i * 2 + j) % 2 = j := by omega
  simp only [Option.map_some]
  have h2 : j = 0 ∨ j = 1 := by omega
  rcases h2 with rfl | rfl <;> (simp only [List.getElem?_cons_zero, List.getElem?_cons_succ, Option.some.injEq] at hu; subst hu; simp [h1] <;> (try simp at h1) <;> (try simp [h1]))
theorem info_t : (Tryz.prog.info? 50).map (fun i => (i.zero, i.size, i.bytes)) = some (some (.agg #[.string ByteArray.empty, .int .i64 0]), 2, 24) := by kernel_rfl
set_option maxHeartbeats 1000000 in
theorem toS_any (a : Option Addr) (n cap : Nat) (z : Nat → Nat → Value) (w : World) (hn : n ≤ 1048576) (hr : IsRecs kl w a n cap z) :
    Calls Tryz.prog 16 #[.slice a n cap] w fun e w' => ∃ v, e = .returned v ∧ Slab w' w.heap.size v n 2 (fun i => [z i 0, z i 1]) ∧ Below w.heap.size w w' := by
  obtain ⟨i0, hi0, hz0, hz1, hz2⟩ := info_parts info_t
  have hmk := fun W : World => run_make_rowN (P := Tryz.prog) 59 50 i0 _ Tryz.underlying59 hi0 hz0 .i64 .i64 n n (Nat.le_refl _) (by rw [hz2]; omega) (by omega) W
  rw [hz1] at hmk
  clear hi0 hz0 hz1 hz2
  have HR := Lib.hid hr
  by_cases h0 : n = 0
  · subst h0
    have hmk0 := hmk
    simp only [Nat.zero_mul, Int.natCast_zero, Int.ofNat_zero, show ((0 : Nat) : Int) = 0 from rfl] at hmk0
    clear hmk hr
    go_enter Tryz.func16, Tryz.ntmps16
    go_wp2
    go_rounds 1
    go_ret
    exact ⟨_, rfl, ⟨_, _, rfl, Nat.le_refl _, .inl rfl⟩, by go_grown⟩
  · obtain ⟨_, _, hx | ⟨g, o, rfl, hg, hcs⟩⟩ := hr
    · exact absurd hx h0
    have HC := Lib.hid hcs
    clear hcs h0
    go_enter Tryz.func16, Tryz.ntmps16
    go_wp2
    go_loopw [4] (fun v4 wr => ∃ k : Nat, k ≤ n ∧ v4 = .int .i64 (k : Int) ∧ Writes wr w.heap.size n 2 (upto (fun i => [z i 0, z i 1]) (fun _ => [.string ByteArray.empty, .int .i64 0]) k) ∧ Below w.heap.size w wr) (fun v4 _ => n - (intOf v4).toNat)
    case atStart =>
      refine ⟨0, Nat.zero_le _, rfl, ⟨by simp, fun o => by simp, fun i hi j u hu => ?_⟩, by go_grown⟩
      rw [upto_zero] at hu
      rw [World.cell?_alloc_new]; exact zero_at n i j u hi hu
    case round =>
      obtain ⟨k, hk, rfl, U, hbel⟩ := hrel
      by_cases hlt : k < n
      · obtain ⟨x0, x1, e0, e1⟩ := rec_at HR.out hlt
        obtain ⟨h0, h1⟩ := rec_cells HC.out hlt
        rw [e0] at h0
        rw [e1] at h1
        have q0 : wr.cell? ⟨g, o + k * 2, none⟩ = some (.string x0) := by rw [hbel.cell (p := ⟨g, o + k * 2, none⟩) hg]; simpa [Nat.add_assoc] using h0
        have q1 : wr.cell? ⟨g, o + k * 2 + 1, none⟩ = some (.int .i64 x1) := by rw [hbel.cell (p := ⟨g, o + k * 2 + 1, none⟩) hg]; simpa [Nat.add_assoc] using h1
        clear h0 h1
        have i0 : (0 : Int) ≤ (k : Int) := by omega
        have i1 : (k : Int) < (n : Int) := by omega
        have HU := Lib.hid U
        have HE := Lib.hid (show (fun i => [z i 0, z i 1] : Nat → List Value) k = [.string x0, .int .i64 x1] by simp only [e0, e1])
        clear U e0 e1
        go_wp2_with (go_at_call 9; (with_reducible refine (to_any _ _ _).mono ?_); rintro e w' ⟨rfl, hb⟩; have hB := on_of (W := w) (by go_grown) hb; have U2 := HU.out.on hb; obtain ⟨c0, c1⟩ := cells_of U2.cell hlt (upto_ge (by omega)); have f0 := U2.free; have hh := U2.here; clear hb)
        have U3 := U2.all hlt (fun _ => rfl) (fun _ => rfl)
        rw [HE.out] at U3
        have U4 := setAll_below hB w.heap.size (k * 2) (Nat.le_refl _) [.string x0, .int .i64 x1]
        go_roundw
        case rel => exact ⟨k + 1, by omega, by go_num, by first | exact U3 | simpa [setAll] using U3, by first | exact U4 | simpa [setAll] using U4⟩
        case measure => simp [intOf]; omega
      · obtain rfl : k = n := by omega
        go_wp2
        go_ret
        exact ⟨_, rfl, (U.slab (Nat.le_refl _) _ (Nat.le_refl _)).same fun i hi => upto_lt hi, hbel⟩
def marked (N i : Nat) : List Value := [.string (mt (N + i * 2)), .int .i64 ((N + i * 2 + 1 : Nat) : Int)]
set_option maxHeartbeats 2000000 in
theorem markS_any (w : World) (B N n : Nat) (v : Value) (F : Nat → List Value) (hn : n ≤ 2000000) (hN0 : 0 < N) (hN : N ≤ 1000000) (hB0 : B ≤ w.heap.size) (h : Slab w B v n 2 F) (hs : Shape F n) (hl : ∀ i, (F i).length = 2) :
    Calls Tryz.prog 19 #[v, .int .i64 (N : Int)] w fun e w' => e = .returned (.int .i64 ((N + n * 2 : Nat) : Int)) ∧ Slab w' B v n 2 (marked N) ∧ Below B w w' ∧ w.grownBy w' (rowOf n v) := by
  by_cases hnz : n = 0
  · obtain ⟨a1, c1, rfl, _⟩ := id h
    subst hnz
    have HX := Lib.hid h
    clear hs h
    go_enter Tryz.func19, Tryz.ntmps19
    go_wp2
    go_loopw [1, 5] (fun k i wr => i = .int .i64 0 ∧ k = .int .i64 (N : Int) ∧ wr = w) (fun _ _ _ => 0)
    case atStart => exact ⟨rfl, rfl, rfl⟩
    case round =>
      obtain ⟨rfl, rfl, rfl⟩ := hrel
      go_wp2
      go_ret
      exact ⟨by simp, HX.out.same fun i hi => by omega, Below.refl _ _, World.grownBy.refl _ _⟩
  · obtain ⟨g, cap, rfl, hBg, W1⟩ : ∃ g cap, v = .slice (some ⟨g, 0, none⟩) n cap ∧ B ≤ g ∧ Writes w g n 2 F := by
      rcases h.writes with ⟨h0, _⟩ | h
      · exact absurd h0 hnz
      · exact h
    have hcap := h.cap_le
    have hn0 : ¬ n = 0 := by
      intro h0; apply hnz; exact h0
    have HS := Lib.hid hs
    have HL := Lib.hid hl
    have HW := Lib.hid W1
    clear h hs hl W1
    go_enter Tryz.func19, Tryz.ntmps19
    go_wp2
    go_loopw [1, 5] (fun q i wr => ∃ k : Nat, k ≤ n ∧ i = .int .i64 (k : Int) ∧ q = .int .i64 ((N + k * 2 : Nat) : Int) ∧ Writes wr g n 2 (upto (marked N) F k) ∧ Below B w wr ∧ w.grownBy wr (some g)) (fun _ i _ => n - (intOf i).toNat)
    case atStart => exact ⟨0, Nat.zero_le _, rfl, by simp, by rw [upto_zero]; exact HW.out, Below.refl _ _, World.grownBy.refl _ _⟩
    case round =>
      obtain ⟨k, hk, rfl, rfl, U, hbel, hgr⟩ := hrel
      by_cases hlt : k < n
      · obtain ⟨x0, x1, hf⟩ := HS.out k hlt
        have hfk : upto (marked N) F k k = [.string x0, .int .i64 x1] := (upto_ge (by omega)).trans hf
        have HU := Lib.hid U
        have i0 : (0 : Int) ≤ (k : Int) := by omega
        have i1 : (k : Int) < (n : Int) := by omega
        have hl0 := U.here
        have hm0 : 0 < N + k * 2 := by omega
        have hmk : ∀ W : World, Calls Tryz.prog 54 #[.int .i64 ((N : Int) + (k : Int) * 2)] W fun e w1 => e = .returned (.string (mt (N + k * 2))) ∧ Below W.heap.size W w1 := fun W => by have := mark_any (N + k * 2) W hm0 (by omega); simpa using this
        clear U hf
        go_wp2_with (go_at_call 54; (with_reducible refine (hmk _).mono ?_); rintro e w1 ⟨rfl, b1⟩; have U2 := HU.out.on b1; obtain ⟨c0, c1⟩ := cells_of U2.cell hlt hfk; have f0 := U2.free; have hB := hbel.trans (b1.mono (Nat.le_trans hB0 hbel.size)); have hG := grown_on hgr (grown_below b1 _); have hsz := hB.size)
        have U3 := U2.all hlt HL.out (fun _ => rfl)
        have U4 := setAll_below hB g (k * 2) hBg [.string (mt (N + k * 2)), .int .i64 ((N + k * 2 + 1 : Nat) : Int)]
        have U5 := setAll_grown hG (k * 2) [.string (mt (N + k * 2)), .int .i64 ((N + k * 2 + 1 : Nat) : Int)]
        go_roundw
        case rel => exact ⟨k + 1, by omega, by go_num, by first | (congr 1; omega) | (congr 2; omega) | go_num, by first | exact U3 | simpa [setAll, marked] using U3, by first | exact U4 | simpa [setAll, marked] using U4, by first | exact U5 | simpa [setAll, marked] using U5⟩
        case measure => simp [intOf]; omega
      · obtain rfl : k = n := by omega
        have HU := Lib.hid U
        clear U
        go_wp2
        go_ret
        refine ⟨rfl, (HU.out.slab hBg _ hcap).same fun i hi => upto_lt hi, hbel, ?_⟩
        unfold rowOf
        split
        · rename_i h0; exact absurd h0 hn0
        · exact hgr
def strSize : Value → Nat
  | .string s => s.size
  | _ => 0
def total (z : Nat → Nat → Value) : Nat → Nat
  | 0 => 0
  | n + 1 => total z n + strSize (z n 0)
theorem sz_any (x0 : ByteArray) (x1 : Int) (L : Int) (w : World) (h0 : 0 ≤ L) (h1 : L ≤ 1048576) (hm : x0.size ≤ maxLen) : Calls Tryz.prog 6 #[.agg #[.string x0, .int .i64 x1], .int .i64 L] w fun e w' => e = .returned (.int .i64 (if (x0.size : Int) ≤ L then L - (x0.size : Int) else -1)) ∧ Below w.heap.size w w' := by
  unfold maxLen at hm
  by_cases h : (x0.size : Int) ≤ L
  · have h2 : ¬ (L - (x0.size : Int) < 0) := by omega
    go_enter Tryz.func6, Tryz.ntmps6
    go_wp2
    all_goals go_ret
    all_goals exact ⟨by simp [h], by go_grown⟩
  · have h2 : L - (x0.size : Int) < 0 := by omega
    go_enter Tryz.func6, Tryz.ntmps6
    go_wp2
    all_goals go_ret
    all_goals exact ⟨by simp [h], by go_grown⟩
set_option maxHeartbeats 1000000 in
theorem szS_any (a : Option Addr) (n cap : Nat) (z : Nat → Nat → Value) (L : Int) (w : World) (h0 : 0 ≤ L) (h1 : L ≤ 1048576) (hr : IsRecs kl w a n cap z) :
    Calls Tryz.prog 14 #[.slice a n cap, .int .i64 L] w fun e w' => (∃ r : Int, e = .returned (.int .i64 r) ∧ -1 ≤ r ∧ (0 ≤ r → (n : Int) + (total z n : Int) + r = L)) ∧ Below w.heap.size w w' := by
  have hnm : n ≤ maxLen := Nat.le_trans hr.1 hr.2.1
  unfold maxLen at hnm
  have HR := Lib.hid hr
  by_cases h : (n : Int) ≤ L
  · by_cases hn0 : n = 0
    · subst hn0
      clear hr
      have h2 : ¬ (L < 0) := by omega
      have h3 : ¬ (L - 0 < 0) := by omega
      go_enter Tryz.func14, Tryz.ntmps14
      go_wp2
      go_rounds 1
      go_ret
      exact ⟨⟨_, rfl, by omega, fun _ => by simp [total]⟩, by go_grown⟩
    · obtain ⟨_, _, hx | ⟨g, o, rfl, hg, hcs⟩⟩ := hr
      · exact absurd hx hn0
      have HC := Lib.hid hcs
      clear hcs
      have h2 : ¬ (L - (n : Int) < 0) := by omega
      go_enter Tryz.func14, Tryz.ntmps14
      go_wp2
      go_loopw [1, 5] (fun v1 v5 wr => ∃ (k : Nat) (r : Int), k ≤ n ∧ v5 = .int .i64 (k : Int) ∧ v1 = .int .i64 r ∧ 0 ≤ r ∧ (n : Int) + (total z k : Int) + r = L ∧ Below w.heap.size w wr) (fun _ v5 _ => n - (intOf v5).toNat)
      case atStart => exact ⟨0, L - n, Nat.zero_le _, rfl, rfl, by omega, by simp only [total]; omega, Below.refl _ _⟩
      case round =>
        obtain ⟨k, r, hk, rfl, rfl, hr0, hrl, hbel⟩ := hrel
        by_cases hlt : k < n
        · obtain ⟨x0, x1, e0, e1⟩ := rec_at HR.out hlt
          obtain ⟨_, hsz⟩ : ∃ s, z k 0 = .string s ∧ s.size ≤ maxLen := (HC.out k hlt 0 _ rfl).2
          obtain ⟨h0, h1⟩ := rec_cells HC.out hlt
          have hst : strSize (z k 0) = x0.size := by rw [e0]; rfl
          have hmm : x0.size ≤ maxLen := by
            have h3 := hsz.1.symm.trans e0
            injection h3 with h3; rw [← h3]; exact hsz.2
          rw [e0] at h0
          rw [e1] at h1
          have q0 : wr.cell? ⟨g, o + k * 2, none⟩ = some (.string x0) := by rw [hbel.cell (p := ⟨g, o + k * 2, none⟩) hg]; simpa [Nat.add_assoc] using h0
          have q1 : wr.cell? ⟨g, o + k * 2 + 1, none⟩ = some (.int .i64 x1) := by rw [hbel.cell (p := ⟨g, o + k * 2 + 1, none⟩) hg]; simpa [Nat.add_assoc] using h1
          clear h0 h1 hsz
          have i0 : (0 : Int) ≤ (k : Int) := by omega
          have i1 : (k : Int) < (n : Int) := by omega
          clear e0 e1
          by_cases hfit : (x0.size : Int) ≤ r
          · have h4 : ¬ (r - (x0.size : Int) < 0) := by omega
            go_wp2_with (go_at_call 6; (with_reducible refine (sz_any _ _ _ _ hr0 (by omega) hmm).mono ?_); rintro e w' ⟨rfl, hb⟩; rw [if_pos hfit]; have hB := on_of hbel hb; clear hb)
            go_roundw
            case rel => exact ⟨k + 1, r - x0.size, by omega, by go_num, rfl, by omega, by simp only [total, hst]; omega, hB⟩
            case measure => simp [intOf]; omega
          · go_wp2_with (go_at_call 6; (with_reducible refine (sz_any _ _ _ _ hr0 (by omega) hmm).mono ?_); rintro e w' ⟨rfl, hb⟩; rw [if_neg hfit]; have hB := on_of hbel hb; clear hb)
            go_ret
            exact ⟨⟨-1, rfl, by omega, fun h => by omega⟩, hB⟩
        · obtain rfl : k = n := by omega
          go_wp2
          go_ret
          exact ⟨⟨r, rfl, by omega, fun _ => hrl⟩, hbel⟩
  · have h2 : L - (n : Int) < 0 := by omega
    clear hr
    go_enter Tryz.func14, Tryz.ntmps14
    go_wp2
    go_ret
    exact ⟨⟨-1, rfl, by omega, fun h => by omega⟩, by go_grown⟩
end Go.Proofs.YtaapofbccanjhaaGreat.Tokens
namespace Go.Proofs.YtaapofbccanjhaaGreat.Own
open Go.ChangeShapes Go.WideShapes Go.ChangeAt Go.RowKit
open Kit Slabs Ints Stack Point Turn
set_option linter.unusedVariables false
set_option linter.unusedSimpArgs false
set_option linter.unnecessarySimpa false
set_option maxRecDepth 100000
attribute [local go_sem ↓] hload_Graphics hload_Object hstore_Graphics hstore_Object hload_Page hstore_Page
theorem GrRows.cells {w : World} {B : Nat} {R : List Value} {g : Gr} {F : List Nat} (h : GrRows w B R g F) : ∃ a0 c0 a5 c5, R = [.slice a0 g.st.length c0, .int .i64 g.q, .int .i64 g.s, .int .i64 g.dx, .int .i64 g.dy, .slice a5 g.path.length c5, .int .i64 g.gray, .int .i64 g.x0, .int .i64 g.y0, .int .i64 g.x1, .int .i64 g.y1] := by
  obtain ⟨a0, c0, f0, a5, c5, P5, rfl, _⟩ := h; exact ⟨a0, c0, a5, c5, rfl⟩
theorem arr_of {R : Array Value} {l : List Value} (h : R.toList = l) : R = l.toArray := by rw [← h]
theorem ob_cells {w : World} {R : List Value} {o : Ob} {F : List Nat} (h : OwnL w LObject R o.dt F) : ∃ a c, R = [.slice a o.path.length c, .int .i64 o.gray, .int .i64 o.x0, .int .i64 o.y0, .int .i64 o.x1, .int .i64 o.y1] := by
  obtain ⟨a0, c0, f0, hA, hf, o0⟩ := inv_Object_ h
  simp only [len_dP] at hA
  exact ⟨a0, c0, hA⟩
def Cq (p : Pg) (B O GA GR : Nat) (G : List Value) (F1 : List Nat) (C : Array Value) (a11 : Option Addr) (c11 : Nat) (a12 : Option Addr) (c12 : Nat) (w : World) (k j : Nat) (wr : World) : Prop :=
  (∃ b11 d11 P11 f11 b12 d12 P12 f12, PgOpen wr B O ⟨p.now, p.saved.take k, p.objs.take j⟩ G F1 b11 d11 P11 f11 b12 d12 P12 f12) ∧ Blk wr GA (C.toList ++ [.slice a11 p.saved.length c11, .slice a12 p.objs.length c12]) ∧ Blk wr GR (#[.slice none 0 0, .int .i64 0, .int .i64 0, .int .i64 0, .int .i64 0, .slice none 0 0, .int .i64 0, .int .i64 0, .int .i64 0, .int .i64 0, .int .i64 0, .slice none 0 0, .slice none 0 0] : Array Value).toList ∧ Below w.heap.size w wr ∧ B ≤ wr.heap.size
theorem Cq.start {p : Pg} {B O GA GR : Nat} {G : List Value} {F1 : List Nat} {C : Array Value} {a11 : Option Addr} {c11 : Nat} {a12 : Option Addr} {c12 : Nat} {w w1 E : World} (g1 : GrRows w1 B G p.now F1) (cx : Below w1.heap.size w1 E) (hO : w1.heap.size = O) (BX : Blk E O (G ++ [.slice none 0 0, .slice none 0 0])) (BA : Blk E GA (C.toList ++ [.slice a11 p.saved.length c11, .slice a12 p.objs.length c12])) (BR : Blk E GR (#[.slice none 0 0, .int .i64 0, .int .i64 0, .int .i64 0, .int .i64 0, .slice none 0 0, .int .i64 0, .int .i64 0, .int .i64 0, .int .i64 0, .int .i64 0, .slice none 0 0, .slice none 0 0] : Array Value).toList) (hb : Below w.heap.size w E) (hB : B ≤ w1.heap.size) :
    Cq p B O GA GR G F1 C a11 c11 a12 c12 w 0 0 E := by
  have hE := cx.size
  refine ⟨⟨none, 0, [], [], none, 0, [], [], ⟨BX, g1.under cx, World.ownsRow_nil _ _ _ _, .nil, World.ownsRow_nil _ _ _ _, .nil, ?_, by simp⟩⟩, BA, BR, hb, by omega⟩
  have h1 : O ∉ F1 := fun h => by have := g1.lt _ h; omega
  have := List.nodup_cons.2 ⟨h1, g1.nodup⟩
  simpa [rowL, Value.ownBlock] using this
theorem PgOpen.store_saved {w w7 : World} {B X : Nat} {p : Pg} {G : List Value} {F0 : List Nat} {a11 : Option Addr} {c11 : Nat} {P11 : List Value} {f11 : List Nat} {a12 : Option Addr} {c12 : Nat} {P12 : List Value} {f12 : List Nat} (h : PgOpen w B X p G F0 a11 c11 P11 f11 a12 c12 P12 f12)
    (gr : w.grownBy w7 (Value.ownBlock (.slice a11 p.saved.length c11))) : Turns w w7 (fun q => q ∈ rowL (.slice a11 p.saved.length c11)) ∧ X ∉ rowL (.slice a11 p.saved.length c11) ∧ Blk w7 X (G ++ [.slice a11 p.saved.length c11, .slice a12 p.objs.length c12]) := by
  have tt : Turns w w7 (fun q => q ∈ rowL (.slice a11 p.saved.length c11)) := (Turns.of_grown gr).mono (fun k hk => by simpa [rowL] using hk)
  have hX := (List.nodup_cons.1 h.nd).1
  have rowX : X ∉ rowL (.slice a11 p.saved.length c11) := fun hx => hX (by simp [hx])
  exact ⟨tt, rowX, h.blk.turned tt rowX⟩
theorem Cq.saved {p : Pg} {B O GA GR : Nat} {G : List Value} {F1 : List Nat} {C : Array Value} {a11 : Option Addr} {c11 : Nat} {a12 : Option Addr} {c12 : Nat} {w wr w5 w6 w7 : World} {k j : Nat} {b11 : Option Addr} {d11 : Nat} {P11 : List Value} {f11 : List Nat} {b12 : Option Addr} {d12 : Nat} {P12 : List Value} {f12 : List Nat}
    (PO : PgOpen wr B O ⟨p.now, p.saved.take k, p.objs.take j⟩ G F1 b11 d11 P11 f11 b12 d12 P12 f12) (BA : Blk wr GA (C.toList ++ [.slice a11 p.saved.length c11, .slice a12 p.objs.length c12])) (BR : Blk wr GR (#[.slice none 0 0, .int .i64 0, .int .i64 0, .int .i64 0, .int .i64 0, .slice none 0 0, .int .i64 0, .int .i64 0, .int .i64 0, .int .i64 0, .int .i64 0, .slice none 0 0, .slice none 0 0] : Array Value).toList) (bw : Below w.heap.size w wr) (hBw : B ≤ wr.heap.size)
    (hk : k < p.saved.length) (hA : GA < B) (hR : GR < B) (hO : B ≤ O) (hw : w.heap.size ≤ B) {R : List Value} {F : List Nat} (oR : OwnL w5 LGraphics R p.saved[k].dt F) (nR : F.Nodup) (gR : ∀ b ∈ F, wr.heap.size ≤ b) (b5 : Below wr.heap.size wr w5) (b6 : Below w5.heap.size w5 w6)
    {a' : Option Addr} {c' : Nat} (r7 : w7.ownsRow B 42 11 (.slice a' (k + 1) c') (k + 1) (P11 ++ R)) (gr : w6.grownBy w7 (Value.ownBlock (.slice b11 k d11))) (sub : ∀ b ∈ rowL (.slice a' (k + 1) c'), b ∈ rowL (.slice b11 k d11) ∨ w6.heap.size ≤ b) :
    Cq p B O GA GR G F1 C a11 c11 a12 c12 w (k + 1) j (w7.setCell ⟨O, 11, none⟩ (.slice a' (k + 1) c')) := by
  have htl : (p.saved.take k).length = k := by rw [List.length_take]; omega
  have e1 : p.saved.take (k + 1) = p.saved.take k ++ [p.saved[k]] := List.take_succ_eq_append_getElem hk
  have b65 := on_of b5 b6
  have P6 := PO.on b65
  obtain ⟨tt, _, _⟩ := P6.store_saved (w7 := w7) (by simpa [htl] using gr)
  have ge : ∀ b ∈ rowL (.slice b11 (p.saved.take k).length d11), B ≤ b := fun b hb => (rowL_ge PO.r11 b hb).1
  have z65 := b65.size
  have bV := ((on_of bw b65).trans (tt.below (by have := bw.size; omega) (fun x hx => by have := ge x hx; omega))).setCell (p := ⟨O, 11, none⟩) (show w.heap.size ≤ O by omega) (.slice a' (k + 1) c')
  have PN := PO.push_saved b5 oR nR gR b6 hBw (a' := a') (c' := c') (by simpa [htl] using r7) (by simpa [htl] using gr) (by simpa [htl] using sub)
  simp only [htl] at PN
  refine ⟨⟨_, _, _, _, _, _, _, _, by rw [e1]; exact PN⟩, ((BA.keep b65).turned tt (fun hx => by have := ge _ hx; omega)).other (by omega) _ _, ((BR.keep b65).turned tt (fun hx => by have := ge _ hx; omega)).other (by omega) _ _, bV, ?_⟩
  have := tt.size
  simp
  omega
theorem PgOpen.store_objs {w w7 : World} {B X : Nat} {p : Pg} {G : List Value} {F0 : List Nat} {a11 : Option Addr} {c11 : Nat} {P11 : List Value} {f11 : List Nat} {a12 : Option Addr} {c12 : Nat} {P12 : List Value} {f12 : List Nat} (h : PgOpen w B X p G F0 a11 c11 P11 f11 a12 c12 P12 f12)
    (gr : w.grownBy w7 (Value.ownBlock (.slice a12 p.objs.length c12))) : Turns w w7 (fun q => q ∈ rowL (.slice a12 p.objs.length c12)) ∧ X ∉ rowL (.slice a12 p.objs.length c12) ∧ Blk w7 X (G ++ [.slice a11 p.saved.length c11, .slice a12 p.objs.length c12]) := by
  have tt : Turns w w7 (fun q => q ∈ rowL (.slice a12 p.objs.length c12)) := (Turns.of_grown gr).mono (fun k hk => by simpa [rowL] using hk)
  have hX := (List.nodup_cons.1 h.nd).1
  have rowX : X ∉ rowL (.slice a12 p.objs.length c12) := fun hx => hX (by simp [hx])
  exact ⟨tt, rowX, h.blk.turned tt rowX⟩
theorem Cq.objs {p : Pg} {B O GA GR : Nat} {G : List Value} {F1 : List Nat} {C : Array Value} {a11 : Option Addr} {c11 : Nat} {a12 : Option Addr} {c12 : Nat} {w wr w5 w6 w7 : World} {k j : Nat} {b11 : Option Addr} {d11 : Nat} {P11 : List Value} {f11 : List Nat} {b12 : Option Addr} {d12 : Nat} {P12 : List Value} {f12 : List Nat}
    (PO : PgOpen wr B O ⟨p.now, p.saved.take k, p.objs.take j⟩ G F1 b11 d11 P11 f11 b12 d12 P12 f12) (BA : Blk wr GA (C.toList ++ [.slice a11 p.saved.length c11, .slice a12 p.objs.length c12])) (BR : Blk wr GR (#[.slice none 0 0, .int .i64 0, .int .i64 0, .int .i64 0, .int .i64 0, .slice none 0 0, .int .i64 0, .int .i64 0, .int .i64 0, .int .i64 0, .int .i64 0, .slice none 0 0, .slice none 0 0] : Array Value).toList) (bw : Below w.heap.size w wr) (hBw : B ≤ wr.heap.size)
    (hk : j < p.objs.length) (hA : GA < B) (hR : GR < B) (hO : B ≤ O) (hw : w.heap.size ≤ B) {R : List Value} {F : List Nat} (oR : OwnL w5 LObject R p.objs[j].dt F) (nR : F.Nodup) (gR : ∀ b ∈ F, wr.heap.size ≤ b) (b5 : Below wr.heap.size wr w5) (b6 : Below w5.heap.size w5 w6)
    {a' : Option Addr} {c' : Nat} (r7 : w7.ownsRow B 101 6 (.slice a' (j + 1) c') (j + 1) (P12 ++ R)) (gr : w6.grownBy w7 (Value.ownBlock (.slice b12 j d12))) (sub : ∀ b ∈ rowL (.slice a' (j + 1) c'), b ∈ rowL (.slice b12 j d12) ∨ w6.heap.size ≤ b) :
    Cq p B O GA GR G F1 C a11 c11 a12 c12 w k (j + 1) (w7.setCell ⟨O, 12, none⟩ (.slice a' (j + 1) c')) := by
  have htl : (p.objs.take j).length = j := by rw [List.length_take]; omega
  have e1 : p.objs.take (j + 1) = p.objs.take j ++ [p.objs[j]] := List.take_succ_eq_append_getElem hk
  have b65 := on_of b5 b6
  have P6 := PO.on b65
  obtain ⟨tt, _, _⟩ := P6.store_objs (w7 := w7) (by simpa [htl] using gr)
  have ge : ∀ b ∈ rowL (.slice b12 (p.objs.take j).length d12), B ≤ b := fun b hb => (rowL_ge PO.r12 b hb).1
  have z65 := b65.size
  have bV := ((on_of bw b65).trans (tt.below (by have := bw.size; omega) (fun x hx => by have := ge x hx; omega))).setCell (p := ⟨O, 12, none⟩) (show w.heap.size ≤ O by omega) (.slice a' (j + 1) c')
  have PN := PO.push_objs b5 oR nR gR b6 hBw (a' := a') (c' := c') (by simpa [htl] using r7) (by simpa [htl] using gr) (by simpa [htl] using sub)
  simp only [htl] at PN
  refine ⟨⟨_, _, _, _, _, _, _, _, by rw [e1]; exact PN⟩, ((BA.keep b65).turned tt (fun hx => by have := ge _ hx; omega)).other (by omega) _ _, ((BR.keep b65).turned tt (fun hx => by have := ge _ hx; omega)).other (by omega) _ _, bV, ?_⟩
  have := tt.size
  simp
  omega
set_option maxHeartbeats 8000000 in
theorem copy_Page (w : World) {A : Array Value} {p : Pg} {fp : List Nat} (hb : bulkL p.dt ≤ 1048576) (h : OwnL w LPage A.toList p.dt fp) :
    Calls Tryz.prog 25 #[.agg A] w (PgNew p w) := by
  obtain ⟨G, a11, c11, a12, c12, f0, f11, f12, hA, hf, o0, o11, o12⟩ := inv_Page_ (by rfl) h
  simp only [Pg.dt, bulkL_app, bulkL, Dt.bulk, len_dG, len_dO] at hb
  simp only [len_dG, len_dO] at hA o11 o12
  obtain ⟨C, hC⟩ : ∃ C, G.toArray = C := ⟨_, rfl⟩
  have tC : C.toList = G := by rw [← hC]
  have nG : C.toList.length = 11 := by rw [tC]; exact o0.len
  rw [← tC] at o0 hA
  obtain ⟨P11, q11, L11, l11, O11, _, e11, _, _⟩ := own_lies o11
  obtain ⟨P12, q12, L12, l12, O12, _, e12, _, _⟩ := own_lies o12
  have l11' : P11.length = p.saved.length * 11 := by simpa [Kd.sz, szL] using l11
  have l12' : P12.length = p.objs.length * 6 := by simpa [Kd.sz, szL] using l12
  have hw2 : ((w.alloc (.cells A 46)).alloc (.cells #[.slice none 0 0, .int .i64 0, .int .i64 0, .int .i64 0, .int .i64 0, .slice none 0 0, .int .i64 0, .int .i64 0, .int .i64 0, .int .i64 0, .int .i64 0, .slice none 0 0, .slice none 0 0] 46)).heap.size = w.heap.size + 2 := by simp
  have BA : Blk ((w.alloc (.cells A 46)).alloc (.cells #[.slice none 0 0, .int .i64 0, .int .i64 0, .int .i64 0, .int .i64 0, .slice none 0 0, .int .i64 0, .int .i64 0, .int .i64 0, .int .i64 0, .int .i64 0, .slice none 0 0, .slice none 0 0] 46)) w.heap.size A.toList := (Blk.new w A 46 rfl).alloc _
  have BR : Blk ((w.alloc (.cells A 46)).alloc (.cells #[.slice none 0 0, .int .i64 0, .int .i64 0, .int .i64 0, .int .i64 0, .slice none 0 0, .int .i64 0, .int .i64 0, .int .i64 0, .int .i64 0, .int .i64 0, .slice none 0 0, .slice none 0 0] 46)) (w.heap.size + 1) (#[.slice none 0 0, .int .i64 0, .int .i64 0, .int .i64 0, .int .i64 0, .slice none 0 0, .int .i64 0, .int .i64 0, .int .i64 0, .int .i64 0, .int .i64 0, .slice none 0 0, .slice none 0 0] : Array Value).toList := Blk.new _ _ 46 (by simp)
  rw [hA] at BA
  have hW : Below w.heap.size w ((w.alloc (.cells A 46)).alloc (.cells #[.slice none 0 0, .int .i64 0, .int .i64 0, .int .i64 0, .int .i64 0, .slice none 0 0, .int .i64 0, .int .i64 0, .int .i64 0, .int .i64 0, .int .i64 0, .slice none 0 0, .slice none 0 0] 46)) := by go_grown
  have HS := Lib.hid (And.intro BA (And.intro BR (And.intro hW hw2)))
  have HX0 := Lib.hid (And.intro o11 o12)
  have HO := Lib.hid (And.intro o0 (And.intro O11 (And.intro O12 nG)))
  have HL := Lib.hid (And.intro L11 (And.intro L12 (And.intro l11' l12')))
  have HE := Lib.hid (And.intro e11 e12)
  clear BA BR hW hw2 L11 L12 l11 l12 l11' l12' e11 e12 hA h hf o0 o11 o12 O11 O12 hC tC nG
  go_enter Tryz.func25, Tryz.ntmps25
  go_upto_region 1 with (fail)
  obtain ⟨W, hWe⟩ : ∃ W, W = ((w.alloc (.cells A 46)).alloc (.cells #[.slice none 0 0, .int .i64 0, .int .i64 0, .int .i64 0, .int .i64 0, .slice none 0 0, .int .i64 0, .int .i64 0, .int .i64 0, .int .i64 0, .int .i64 0, .slice none 0 0, .slice none 0 0] 46)) := ⟨_, rfl⟩
  rw [← hWe] at HS ⊢
  clear hWe
  obtain ⟨GA, hGA⟩ : ∃ x, w.heap.size = x := ⟨_, rfl⟩
  obtain ⟨GR, hGR⟩ : ∃ x, w.heap.size + 1 = x := ⟨_, rfl⟩
  have HS2 : Hid (Blk W GA (C.toList ++ [.slice a11 p.saved.length c11, .slice a12 p.objs.length c12]) ∧ Blk W GR (#[.slice none 0 0, .int .i64 0, .int .i64 0, .int .i64 0, .int .i64 0, .slice none 0 0, .int .i64 0, .int .i64 0, .int .i64 0, .int .i64 0, .int .i64 0, .slice none 0 0, .slice none 0 0] : Array Value).toList) := Lib.hid ⟨hGA ▸ HS.out.1, hGR ▸ HS.out.2.1⟩
  rw [hGR]
  have hWw := Lib.hid HS.out.2.2
  have gA : w.heap.size ≤ GA := by omega
  have gAR : GA < GR := by omega
  have gAW : GA < W.heap.size := by have := hWw.out.2; omega
  have gR : GR < W.heap.size := by have := hWw.out.2; omega
  rw [hGA]
  clear HS hGR hGA
  have ra := hload_run (P := Tryz.prog) (t := 42) Tryz.isAgg42 Tryz.sizeOf42 (w := W) (b := GA) (o := 0) (us := C.toList) (Blk.part (P := []) HS2.out.1 rfl) HO.out.2.2.2
  rw [Array.toArray_toList] at ra
  go_wp2_with fail
  clear ra
  ((with_reducible refine (copy_Graphics W (by omega) (HO.out.1.under hWw.out.1)).mono ?_); rintro e w1 ⟨R1, F1, rfl, g1, b1⟩)
  obtain ⟨m0, d0, m5, d5, eR⟩ := g1.cells
  have eR2 : R1 = #[.slice m0 p.now.st.length d0, .int .i64 p.now.q, .int .i64 p.now.s, .int .i64 p.now.dx, .int .i64 p.now.dy, .slice m5 p.now.path.length d5, .int .i64 p.now.gray, .int .i64 p.now.x0, .int .i64 p.now.y0, .int .i64 p.now.x1, .int .i64 p.now.y1] := by rw [← Array.toList_inj, eR]
  rw [eR] at g1
  subst eR2
  obtain ⟨f0', o0', _, _⟩ := g1.own
  have oP : OwnL w1 LPage ([.slice m0 p.now.st.length d0, .int .i64 p.now.q, .int .i64 p.now.s, .int .i64 p.now.dx, .int .i64 p.now.dy, .slice m5 p.now.path.length d5, .int .i64 p.now.gray, .int .i64 p.now.x0, .int .i64 p.now.y0, .int .i64 p.now.x1, .int .i64 p.now.y1] ++ [.slice none 0 0, .slice none 0 0]) (Pg.dt ⟨p.now, [], []⟩) (f0' ++ ([] ++ [])) := mk_pg (p := ⟨p.now, [], []⟩) o0' (.nil none 0) (.nil none 0)
  obtain ⟨E, st, BX, cx, zx⟩ := var_new (P := Tryz.prog) (T := 46) Tryz.sizeOf46 w1 #[.slice none 0 0, .int .i64 0, .int .i64 0, .int .i64 0, .int .i64 0, .slice none 0 0, .int .i64 0, .int .i64 0, .int .i64 0, .int .i64 0, .int .i64 0, .slice none 0 0, .slice none 0 0] rfl (R := ([.slice m0 p.now.st.length d0, .int .i64 p.now.q, .int .i64 p.now.s, .int .i64 p.now.dx, .int .i64 p.now.dy, .slice m5 p.now.path.length d5, .int .i64 p.now.gray, .int .i64 p.now.x0, .int .i64 p.now.y0, .int .i64 p.now.x1, .int .i64 p.now.y1] ++ [.slice none 0 0, .slice none 0 0] : List Value).toArray) (by simpa using oP) rfl
  simp only [List.cons_append, List.nil_append] at st
  obtain ⟨O, hO⟩ : ∃ O, w1.heap.size = O := ⟨_, rfl⟩
  obtain ⟨XG, hXG⟩ : ∃ XG : List Value, [.slice m0 p.now.st.length d0, .int .i64 p.now.q, .int .i64 p.now.s, .int .i64 p.now.dx, .int .i64 p.now.dy, .slice m5 p.now.path.length d5, .int .i64 p.now.gray, .int .i64 p.now.x0, .int .i64 p.now.y0, .int .i64 p.now.x1, .int .i64 p.now.y1] = XG := ⟨_, rfl⟩
  have z1 := b1.size
  have zE := cx.size
  have HQ : Hid (Cq p W.heap.size O GA GR XG F1 C a11 c11 a12 c12 w 0 0 E) := Lib.hid (Cq.start (hXG ▸ g1) cx hO (by rw [← hXG, ← hO]; simpa using BX) ((HS2.out.1.keep b1).keep cx) ((HS2.out.2.keep b1).keep cx) (on_of (on_of hWw.out.1 b1) cx) (by omega))
  have zO : W.heap.size ≤ O := by omega
  have HXl := Lib.hid g1.len
  rw [hXG] at HXl
  rw [hO] at st
  have k11 := ((HS2.out.1.keep b1).keep cx).1 11 (.slice a11 p.saved.length c11) (by rw [List.getElem?_append_right (by have := HO.out.2.2.2; omega)]; have := HO.out.2.2.2; simp [this])
  obtain ⟨n, hN⟩ : ∃ n, p.saved.length = n := ⟨_, rfl⟩
  obtain ⟨m, hM⟩ : ∃ m, p.objs.length = m := ⟨_, rfl⟩
  have HNn := Lib.hid hN
  have HNm := Lib.hid hM
  rw [hN] at k11
  rw [hN, hM] at hb
  have hWs := hWw.out.1.size
  clear g1 b1 eR o0' oP BX cx zx hXG hN hM
  go_wp2_with fail
  clear st k11 hO
  go_loopw [4] (fun v wr => ∃ k : Nat, k ≤ n ∧ v = .int .i64 (k : Int) ∧ Cq p W.heap.size O GA GR XG F1 C a11 c11 a12 c12 w k 0 wr) (fun v _ => n - (intOf v).toNat)
  case atStart => exact ⟨0, Nat.zero_le _, rfl, HQ.out⟩
  case round =>
    obtain ⟨k, hk, rfl, hQ⟩ := hrel
    have HQk := Lib.hid hQ
    obtain ⟨⟨b11, d11, P11', f11', b12, d12, P12', f12', PO⟩, BA, BR, bw, hBw⟩ := hQ
    have kA := BA.1 11 (.slice a11 p.saved.length c11) (by rw [List.getElem?_append_right (by have := HO.out.2.2.2; omega)]; have := HO.out.2.2.2; simp [this])
    rw [HNn.out] at kA
    by_cases hlt : k < n
    · have hkl : k < p.saved.length := by rw [HNn.out]; exact hlt
      have htl : (p.saved.take k).length = k := by rw [List.length_take]; omega
      obtain ⟨g, D, fq, ha, hgl, oD, _, hbk, hld⟩ := elt_Graphics HX0.out.1 hkl
      subst ha
      have L1 := hld wr.drew (show Below w.heap.size w wr.drew from by have := bw; go_grown)
      have kO := PO.cell11
      have fO := PO.blk.2.1
      have lO := PO.blk.2.2
      simp only [htl] at kO
      have hbk2 : bulkL p.saved[k].dt ≤ 1048576 := by omega
      have i0 : (0 : Int) ≤ (k : Int) := by omega
      have i1 : (k : Int) < (n : Int) := by omega
      have HP := Lib.hid (And.intro PO (And.intro BA (And.intro BR (And.intro bw htl))))
      have HD := Lib.hid (oD.under (show Below w.heap.size w wr.drew from by have := bw; go_grown))
      have HL1 := Lib.hid hld
      clear oD hbk hld PO BA BR bw htl
      go_upto_region 5 with (fail)
      clear HQk
      go_region_law (first
        | (go_simp; go_at_call 62; (with_reducible refine (copy_Graphics wr.drew hbk2 HD.out).mono ?_); rintro e w5 ⟨R, F0', rfl, gR, bb⟩; obtain ⟨r0, s0, r5, s5, eR⟩ := gR.cells; obtain ⟨F, oR, nR, sR⟩ := gR.own; have gF := (fun b hb => gR.ge b (sR b hb)); clear gR sR; obtain rfl := arr_of eR; clear eR; have bb := on_of (W := wr) (by go_grown) bb; have gF' : ∀ b ∈ F, wr.heap.size ≤ b := gF; have kO5 := (HP.out.1.on bb).cell11; have z5 := bb.size; have lO5 : O < w5.heap.size := (by omega); rw [HP.out.2.2.2.2] at kO5; have r5 := row_on HP.out.1.r11 bb; rw [HP.out.2.2.2.2] at r5; have H5 := Lib.hid (And.intro oR (And.intro nR (And.intro gF' (And.intro bb r5)))); clear oR nR gF gF' bb r5)
        | (refine step_append_sl et_grs rfl _ _ rfl W.heap.size b11 k d11 P11' (by rfl) (H5.out.2.2.2.2.alloc _) (some ⟨w5.heap.size, 0, none⟩) 1 1 [.slice r0 p.saved[k].st.length s0, .int .i64 p.saved[k].q, .int .i64 p.saved[k].s, .int .i64 p.saved[k].dx, .int .i64 p.saved[k].dy, .slice r5 p.saved[k].path.length s5, .int .i64 p.saved[k].gray, .int .i64 p.saved[k].x0, .int .i64 p.saved[k].y0, .int .i64 p.saved[k].x1, .int .i64 p.saved[k].y1] (by rfl) (by rfl) (Lies.new w5 _ _ rfl) (fun u hu => H5.out.1.one u hu) (by unfold maxLen; omega) (by omega) (by have := H5.out.2.2.2.1.size; simp; omega) ?_; intro a' c' w7 r7 gr7 sub7; have b6 : Below w5.heap.size w5 (w5.alloc (.cells #[.slice r0 p.saved[k].st.length s0, .int .i64 p.saved[k].q, .int .i64 p.saved[k].s, .int .i64 p.saved[k].dx, .int .i64 p.saved[k].dy, .slice r5 p.saved[k].path.length s5, .int .i64 p.saved[k].gray, .int .i64 p.saved[k].x0, .int .i64 p.saved[k].y0, .int .i64 p.saved[k].x1, .int .i64 p.saved[k].y1] 42)) := (by go_grown); have hs7 := ((HP.out.1.on H5.out.2.2.2.1).on b6).store_saved (w7 := w7) (by rw [HP.out.2.2.2.2]; exact gr7); have k7 := hs7.2.2.1 11 _ (by have := HXl.out; rw [List.getElem?_append_right (by omega)]; simp [this]; rfl); have f7 := hs7.2.2.2.1; have HV := Lib.hid (Cq.saved (C := C) HP.out.1 HP.out.2.1 HP.out.2.2.1 HP.out.2.2.2.1 hBw hkl (by omega) (by omega) zO (by omega) H5.out.1 H5.out.2.1 H5.out.2.2.1 H5.out.2.2.2.1 b6 r7 gr7 sub7); clear hs7 r7 gr7 sub7 b6))
      all_goals
        go_wp2
        go_roundw
        case rel => exact ⟨k + 1, by omega, by go_num, HV.out⟩
        case measure => simp [intOf]; omega
    · obtain rfl : n = k := by omega
      have HQ2 : Hid (Cq p W.heap.size O GA GR XG F1 C a11 c11 a12 c12 w n 0 wr) := HQk
      clear PO BA BR bw HQk
      go_wp2_with fail
      clear kA
      go_loopw [5] (fun v wr => ∃ k : Nat, k ≤ m ∧ v = .int .i64 (k : Int) ∧ Cq p W.heap.size O GA GR XG F1 C a11 c11 a12 c12 w n k wr) (fun v _ => m - (intOf v).toNat)
      case atStart => exact ⟨0, Nat.zero_le _, rfl, HQ2.out⟩
      case round =>
        obtain ⟨k, hk, rfl, hQ⟩ := hrel
        have HQk := Lib.hid hQ
        obtain ⟨⟨b11, d11, P11', f11', b12, d12, P12', f12', PO⟩, BA, BR, bw, hBw⟩ := hQ
        have kA := BA.1 12 (.slice a12 p.objs.length c12) (by rw [List.getElem?_append_right (by have := HO.out.2.2.2; omega)]; have := HO.out.2.2.2; simp [this])
        rw [HNm.out] at kA
        by_cases hlt : k < m
        · have hkl : k < p.objs.length := by rw [HNm.out]; exact hlt
          have htl : (p.objs.take k).length = k := by rw [List.length_take]; omega
          obtain ⟨g, D, fq, ha, hgl, oD, _, hbk, hld⟩ := elt_Object HX0.out.2 hkl
          subst ha
          have L1 := hld wr.drew (show Below w.heap.size w wr.drew from by have := bw; go_grown)
          have kO := PO.cell12
          have fO := PO.blk.2.1
          have lO := PO.blk.2.2
          simp only [htl] at kO
          have hbk2 : bulkL p.objs[k].dt ≤ 1048576 := by omega
          have i0 : (0 : Int) ≤ (k : Int) := by omega
          have i1 : (k : Int) < (m : Int) := by omega
          have HP := Lib.hid (And.intro PO (And.intro BA (And.intro BR (And.intro bw htl))))
          have HD := Lib.hid (oD.under (show Below w.heap.size w wr.drew from by have := bw; go_grown))
          have HL1 := Lib.hid hld
          clear oD hbk hld PO BA BR bw htl
          go_upto_region 9 with (fail)
          clear HQk
          go_region_law (first
            | (go_simp; go_at_call 63; (with_reducible refine (copy_Object wr.drew hbk2 HD.out).mono ?_); rintro e w5 ⟨R, F, rfl, oR, nR, gF, bb⟩; obtain ⟨r0, s0, eR⟩ := ob_cells oR; obtain rfl := arr_of eR; clear eR; have bb := on_of (W := wr) (by go_grown) bb; have gF' : ∀ b ∈ F, wr.heap.size ≤ b := gF; have kO5 := (HP.out.1.on bb).cell12; have z5 := bb.size; have lO5 : O < w5.heap.size := (by omega); rw [HP.out.2.2.2.2] at kO5; have r5 := row_on HP.out.1.r12 bb; rw [HP.out.2.2.2.2] at r5; have H5 := Lib.hid (And.intro oR (And.intro nR (And.intro gF' (And.intro bb r5)))); clear oR nR gF gF' bb r5)
            | (refine step_append_sl et_obs rfl _ _ rfl W.heap.size b12 k d12 P12' (by rfl) (H5.out.2.2.2.2.alloc _) (some ⟨w5.heap.size, 0, none⟩) 1 1 [.slice r0 p.objs[k].path.length s0, .int .i64 p.objs[k].gray, .int .i64 p.objs[k].x0, .int .i64 p.objs[k].y0, .int .i64 p.objs[k].x1, .int .i64 p.objs[k].y1] (by rfl) (by rfl) (Lies.new w5 _ _ rfl) (fun u hu => H5.out.1.one u hu) (by unfold maxLen; omega) (by omega) (by have := H5.out.2.2.2.1.size; simp; omega) ?_; intro a' c' w7 r7 gr7 sub7; have b6 : Below w5.heap.size w5 (w5.alloc (.cells #[.slice r0 p.objs[k].path.length s0, .int .i64 p.objs[k].gray, .int .i64 p.objs[k].x0, .int .i64 p.objs[k].y0, .int .i64 p.objs[k].x1, .int .i64 p.objs[k].y1] 101)) := (by go_grown); have hs7 := ((HP.out.1.on H5.out.2.2.2.1).on b6).store_objs (w7 := w7) (by rw [HP.out.2.2.2.2]; exact gr7); have k7 := hs7.2.2.1 12 _ (by have := HXl.out; rw [List.getElem?_append_right (by omega)]; simp [this]; rfl); have f7 := hs7.2.2.2.1; have HV := Lib.hid (Cq.objs (C := C) HP.out.1 HP.out.2.1 HP.out.2.2.1 HP.out.2.2.2.1 hBw hkl (by omega) (by omega) zO (by omega) H5.out.1 H5.out.2.1 H5.out.2.2.1 H5.out.2.2.2.1 b6 r7 gr7 sub7); clear hs7 r7 gr7 sub7 b6))
          all_goals
            go_wp2
            go_roundw
            case rel => exact ⟨k + 1, by omega, by go_num, HV.out⟩
            case measure => simp [intOf]; omega
        · obtain rfl : m = k := by omega
          obtain ⟨F, PR, hF, hXF⟩ := PO.rows
          have tk1 : p.saved.take p.saved.length = p.saved := List.take_length
          have tk2 : p.objs.take p.objs.length = p.objs := List.take_length
          have BO := PO.blk
          rw [← HNn.out, ← HNm.out, tk1, tk2] at PR BO
          obtain ⟨fV, oV, _, _⟩ := PR.own
          have hgF := PR.ge
          obtain ⟨R, E2, s1, s2, s3, e4, tE, bE⟩ := hand_over (P := Tryz.prog) (T := 46) Tryz.isAgg46 Tryz.sizeOf46 BO BR rfl oV rfl bw (by omega) (by omega)
          have PE := (PR.stays tE.size (fun b hb => tE.block b (PR.lt b hb) (fun e => by have := hgF b hb; have e' : b = GR := e; omega))).base hWs
          rw [← e4] at PE
          have HX := Lib.hid (And.intro PE (And.intro bE s3))
          clear PO PR hF hXF BO BA BR oV bw hgF e4 tE PE bE s3 HQk tk1 tk2
          go_wp2
          refine bodyPost_ret (v := .agg R) ?_ rfl ⟨R, _, rfl, HX.out.1, HX.out.2.1⟩
          exact results_h Tryz.results25 (by rfl) HX.out.2.2
end Go.Proofs.YtaapofbccanjhaaGreat.Own
