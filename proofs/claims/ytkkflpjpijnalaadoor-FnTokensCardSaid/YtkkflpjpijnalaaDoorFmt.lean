/-
  The model's FormatTokens: what the call returns, and that nothing that was there has turned.
-/
import Derived.Test.YtkkflpjpijnalaaDoorScan
import Derived.Test.YtkkflpjpijnalaaDoorTokens
import Derived.Test.YtkkflpjpijnalaaDoorParse
namespace Go.Proofs.YtkkflpjpijnalaaDoor.Fmt
open Go.ChangeShapes Go.WideShapes Go.ChangeAt Go.RowKit
open Kit Slabs Scan Num
open Split (byt byt_in byt_end)
set_option linter.unusedVariables false
set_option linter.unusedSimpArgs false
set_option linter.unnecessarySimpa false

/-- The cells of a token. -/
def tc (S : Nat → ByteArray) (N : Nat → Int) (i : Nat) : List Value := [.string (S i), .int .i64 (N i)]

theorem tc_len (S : Nat → ByteArray) (N : Nat → Int) (i : Nat) : (tc S N i).length = 2 := rfl

/-- Are the first n tokens valid? -/
def okB (S : Nat → ByteArray) (N : Nat → Int) (n : Nat) : Bool := (List.range n).all fun i => tkB (S i) (N i)

/-- The texts of the first n tokens, with single spaces between them. -/
def joinT (S : Nat → ByteArray) (N : Nat → Int) : Nat → ByteArray
  | 0 => ⟨#[]⟩
  | n + 1 => (if n = 0 then joinT S N n else joinT S N n ++ ⟨#[32]⟩) ++ tkT (S n) (N n)

def fmB (S : Nat → ByteArray) (N : Nat → Int) (n : Nat) : Bool := decide (n ≤ 60) && okB S N n

def fmT (S : Nat → ByteArray) (N : Nat → Int) (n : Nat) : ByteArray := if fmB S N n = true then joinT S N n else ⟨#[]⟩

theorem okB_zero (S : Nat → ByteArray) (N : Nat → Int) : okB S N 0 = true := rfl

theorem okB_succ (S : Nat → ByteArray) (N : Nat → Int) (n : Nat) : okB S N (n + 1) = (okB S N n && tkB (S n) (N n)) := by
  simp [okB, List.range_succ]

theorem okB_at {S : Nat → ByteArray} {N : Nat → Int} {n : Nat} (h : okB S N n = true) {i : Nat} (hi : i < n) : tkB (S i) (N i) = true := by
  simp only [okB, List.all_eq_true, List.mem_range] at h; exact h i hi

theorem okB_no {S : Nat → ByteArray} {N : Nat → Int} {n i : Nat} (hi : i < n) (h : tkB (S i) (N i) = false) : okB S N n = false := by
  rw [← Bool.not_eq_true]; intro h2; rw [okB_at h2 hi] at h; cases h

theorem fm_no {S : Nat → ByteArray} {N : Nat → Int} {n : Nat} (h : fmB S N n = false) : Ending.returned (.tuple #[.string ⟨#[]⟩, .bool false]) = .returned (.tuple #[.string (fmT S N n), .bool (fmB S N n)]) := by
  simp [fmT, h]

theorem fm_yes {S : Nat → ByteArray} {N : Nat → Int} {n : Nat} (h : fmB S N n = true) : Ending.returned (.tuple #[.string (joinT S N n), .bool true]) = .returned (.tuple #[.string (fmT S N n), .bool (fmB S N n)]) := by
  simp [fmT, h]

/-- A valid token's text is short. -/
theorem tkT_size {s : ByteArray} {n : Int} (h : tkB s n = true) : (tkT s n).size ≤ 11 := by
  unfold tkB at h; unfold tkT
  by_cases he : s.toList.isEmpty = true
  · rw [if_pos he] at h ⊢
    simp only [decide_eq_true_eq] at h
    rcases Int.lt_or_le n 0 with h0 | h0
    · obtain ⟨u, rfl⟩ : ∃ u : Nat, n = -(u : Int) := ⟨n.natAbs, by omega⟩
      unfold txt
      rw [Lib.itoa_neg u (by omega)]
      have : (Lib.decDigits u).length = Lib.nDigits u := Lib.decDigits_length u
      have h3 := nDigits_le10 u (by omega)
      simp only [ByteArray.size, List.size_toArray, List.length_cons]; omega
    · obtain ⟨u, rfl⟩ : ∃ u : Nat, n = u := ⟨n.toNat, by omega⟩
      have := txt_size u (by omega); omega
  · rw [if_neg he] at h ⊢
    simp only [Bool.and_eq_true, nameB_iff] at h
    have := h.1.2.1; omega

theorem joinT_one {S : Nat → ByteArray} {N : Nat → Int} : joinT S N 1 = tkT (S 0) (N 0) := by
  apply ByteArray.ext
  simp [joinT]

theorem joinT_more {S : Nat → ByteArray} {N : Nat → Int} {k : Nat} (h : k ≠ 0) : joinT S N (k + 1) = (joinT S N k ++ ⟨#[32]⟩) ++ tkT (S k) (N k) := by
  simp [joinT, h]

theorem joinT_size {S : Nat → ByteArray} {N : Nat → Int} {k : Nat} (h : okB S N k = true) : (joinT S N k).size ≤ 12 * k := by
  induction k with
  | zero => exact Nat.zero_le _
  | succ k ih =>
    have h1 := tkT_size (okB_at h (Nat.lt_succ_self k))
    rw [okB_succ, Bool.and_eq_true] at h
    have h2 := ih h.1
    by_cases h0 : k = 0
    · subst h0; rw [joinT_one]; omega
    · rw [joinT_more h0]; simp only [ByteArray.size_append]; have : (⟨#[32]⟩ : ByteArray).size = 1 := rfl; omega

theorem fm_last {S : Nat → ByteArray} {N : Nat → Int} {n : Nat} (h : okB S N n = true) (h60 : 0 < n → n ≤ 60) : fmB S N n = true := by
  unfold fmB; rw [h, Bool.and_true, decide_eq_true_eq]
  rcases Nat.eq_zero_or_pos n with h0 | h0
  · omega
  · exact h60 h0

set_option maxRecDepth 100000 in
set_option maxHeartbeats 2000000 in
theorem fmt_spec (w : World) (B : Nat) (v : Value) (n : Nat) (S : Nat → ByteArray) (N : Nat → Int) (hslab : Slab w B v n 2 (tc S N)) (hn : n ≤ 1048576)
    (hN : ∀ i, i < n → -9223372036854775808 ≤ N i ∧ N i ≤ 9223372036854775807) (hS : ∀ i, i < n → (S i).size ≤ 281474976710656) :
    Calls Tryd.prog 13 #[v] w fun e w' => e = .returned (.tuple #[.string (fmT S N n), .bool (fmB S N n)]) ∧ Below w.heap.size w w' := by
  rcases hslab.writes with ⟨h0, a1, c1, rfl⟩ | ⟨g, cap, rfl, hBg, W1⟩
  · subst h0
    clear hslab hN hS
    go_enter Tryd.func13, Tryd.ntmps13
    go_wp2
    go_loopw [4, 5] (fun v4 v5 wr => v5 = .int .i64 0 ∧ v4 = .string ⟨#[]⟩ ∧ wr = w) (fun _ _ _ => 0)
    case atStart => exact ⟨rfl, rfl, rfl⟩
    case round =>
      obtain ⟨rfl, rfl, rfl⟩ := hrel
      go_wp2
      refine bodyPost_ret (by simp [results, Tryd.results13, go_sem, *]; try rfl) rfl ?_
      exact ⟨fm_yes (S := S) (N := N) (n := 0) rfl, Below.refl _ _⟩
  · have HW := Lib.hid (And.intro W1 (And.intro hN hS))
    have hg := W1.here
    clear hslab hN hS W1
    go_enter Tryd.func13, Tryd.ntmps13
    go_wp2
    go_loopw [4, 5] (fun v4 v5 wr => ∃ k : Nat, k ≤ n ∧ v5 = .int .i64 (k : Int) ∧ v4 = .string (joinT S N k) ∧ okB S N k = true ∧ (0 < k → n ≤ 60) ∧ Below w.heap.size w wr) (fun _ v5 _ => n - (intOf v5).toNat)
    case atStart => exact ⟨0, Nat.zero_le _, rfl, rfl, rfl, fun h => by omega, Below.refl _ _⟩
    case round =>
      obtain ⟨k, hk, rfl, rfl, hok, h60, hbel⟩ := hrel
      have HK := Lib.hid (And.intro hok h60)
      clear hok h60
      by_cases hlt : k < n
      · have q0 : wr.cell? ⟨g, k * 2, none⟩ = some (.string (S k)) := by rw [hbel.cell (p := ⟨g, k * 2, none⟩) hg]; simpa [tc] using HW.out.1.cell k hlt 0 _ rfl
        have q1 : wr.cell? ⟨g, k * 2 + 1, none⟩ = some (.int .i64 (N k)) := by rw [hbel.cell (p := ⟨g, k * 2 + 1, none⟩) hg]; simpa [tc] using HW.out.1.cell k hlt 1 _ rfl
        have hSk := HW.out.2.2 k hlt
        have hNk := HW.out.2.1 k hlt
        have i0 : (0 : Int) ≤ (k : Int) := by omega
        have i1 : (k : Int) < (n : Int) := by omega
        cases htk : tkB (S k) (N k)
        · go_wp2_with (go_at_call 26; (with_reducible refine (tok_spec _ _ _ hSk).mono ?_); rintro e w' ⟨rfl, hb⟩; have hB := on_of hbel hb; clear hb)
          refine bodyPost_ret (by simp [results, Tryd.results13, go_sem, *]; try rfl) rfl ?_
          exact ⟨fm_no (by simp [fmB, okB_no hlt htk]), hB⟩
        · by_cases hbig : (60 : Int) < (n : Int)
          · go_wp2_with (go_at_call 26; (with_reducible refine (tok_spec _ _ _ hSk).mono ?_); rintro e w' ⟨rfl, hb⟩; have hB := on_of hbel hb; clear hb)
            refine bodyPost_ret (by simp [results, Tryd.results13, go_sem, *]; try rfl) rfl ?_
            exact ⟨fm_no (by simp [fmB]; omega), hB⟩
          · have hsz := joinT_size HK.out.1
            have hts := tkT_size htk
            have hl1 : ¬ (9223372036854775807 < (joinT S N k).size + 1) := by omega
            have hl2 : ¬ (9223372036854775807 < (joinT S N k).size + 1 + (tkT (S k) (N k)).size) := by omega
            have hl3 : ¬ (9223372036854775807 < (joinT S N k).size + (tkT (S k) (N k)).size) := by omega
            have hok2 : okB S N (k + 1) = true := by rw [okB_succ, HK.out.1, htk]; rfl
            have hgl := hbel.size
            have hgr : g < wr.heap.size := by omega
            have HO := Lib.hid hok2
            clear hok2
            by_cases hk0 : k = 0
            · subst hk0
              simp only [Nat.zero_mul, Nat.zero_add] at q0 q1
              go_wp2_with (first | (go_at_call 26; (with_reducible refine (tok_spec _ _ _ hSk).mono ?_); rintro e w' ⟨rfl, hb⟩; have hB := on_of hbel hb; have q0' := ((bcell hb).1 _ 0 hgr).trans q0; have q1' := ((bcell hb).1 _ 1 hgr).trans q1; clear hb) | (go_at_call 27; (with_reducible refine (text_spec _ _ _ hNk.1 hNk.2).mono ?_); rintro e w2 ⟨rfl, hb⟩; have hB2 := on_of hB hb; clear hb))
              go_roundw
              case rel => exact ⟨1, by omega, by go_num, by first | rfl | (rw [joinT_one]; simp [joinT]) , HO.out, fun _ => by omega, hB2⟩
              case measure => simp [intOf]; omega
            · have hk1 : (0 : Int) < (k : Int) := by omega
              go_wp2_with (first | (go_at_call 26; (with_reducible refine (tok_spec _ _ _ hSk).mono ?_); rintro e w' ⟨rfl, hb⟩; have hB := on_of hbel hb; have q0' := ((bcell hb).1 _ (k * 2) hgr).trans q0; have q1' := ((bcell hb).1 _ (k * 2 + 1) hgr).trans q1; clear hb) | (go_at_call 27; (with_reducible refine (text_spec _ _ _ hNk.1 hNk.2).mono ?_); rintro e w2 ⟨rfl, hb⟩; have hB2 := on_of hB hb; clear hb))
              go_roundw
              case rel => exact ⟨k + 1, by omega, by go_num, by rw [joinT_more hk0], HO.out, fun _ => by omega, hB2⟩
              case measure => simp [intOf]; omega
      · obtain rfl : k = n := by omega
        go_wp2
        refine bodyPost_ret (by simp [results, Tryd.results13, go_sem, *]; try rfl) rfl ?_
        exact ⟨fm_yes (fm_last HK.out.1 HK.out.2), hbel⟩

end Go.Proofs.YtkkflpjpijnalaaDoor.Fmt
