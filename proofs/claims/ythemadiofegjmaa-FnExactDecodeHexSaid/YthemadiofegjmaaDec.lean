/-
  The model's and the program's DecodeHex: what each call returns, and that nothing that was there has turned; condition: the string is no longer than a string can be.
-/
import Derived.Test.YthemadiofegjmaaHex
import Derived.Test.YthemadiofegjmaaShelf
namespace Go.Proofs.Ythemadiofegjmaa.Dec
open Go.ChangeShapes Go.WideShapes Go.ChangeAt Go.RowKit
open Hex
set_option linter.unusedVariables false

/-- The number of a figure; -1 of any other byte. -/
def val (c : Int) : Int := if 48 ≤ c ∧ c ≤ 57 then c - 48 else if 97 ≤ c ∧ c ≤ 102 then c - 87 else -1
theorem val_bd (c : Int) : -1 ≤ val c ∧ val c ≤ 15 := by unfold val; split <;> (try split) <;> omega

theorem val_any (c : Int) (h0 : 0 ≤ c) (h1 : c ≤ 255) (w : World) : Calls Try.prog 26 #[.int .u8 c] w fun e w' => e = .returned (.int .i64 (val c)) ∧ w = w' := by
  have hv : ∀ x : Int, x = val c → Value.int .i64 x = .int .i64 (val c) := fun x h => by rw [h]
  by_cases a1 : 48 ≤ c
  · by_cases a2 : c ≤ 57
    · have hx := hv (c - 48) (by unfold val; rw [if_pos ⟨a1, a2⟩])
      have HX := Lib.hid hx
      clear hx hv
      go_enter Try.func26, Try.ntmps26
      go_wp2
      go_ret
      exact ⟨by rw [← HX.out]; rfl, rfl⟩
    · by_cases a3 : 97 ≤ c
      · by_cases a4 : c ≤ 102
        · have hx := hv (c - 97 + 10) (by unfold val; rw [if_neg (by omega), if_pos ⟨a3, a4⟩]; omega)
          have HX := Lib.hid hx
          clear hx hv
          go_enter Try.func26, Try.ntmps26
          go_wp2
          go_ret
          exact ⟨by rw [← HX.out]; rfl, rfl⟩
        · have hx := hv (-1) (by unfold val; rw [if_neg (by omega), if_neg (by omega)])
          have HX := Lib.hid hx
          clear hx hv
          go_enter Try.func26, Try.ntmps26
          go_wp2
          go_ret
          exact ⟨by rw [← HX.out]; rfl, rfl⟩
      · have hx := hv (-1) (by unfold val; rw [if_neg (by omega), if_neg (by omega)])
        have HX := Lib.hid hx
        clear hx hv
        go_enter Try.func26, Try.ntmps26
        go_wp2
        go_ret
        exact ⟨by rw [← HX.out]; rfl, rfl⟩
  · have hx := hv (-1) (by unfold val; rw [if_neg (by omega), if_neg (by omega)])
    have HX := Lib.hid hx
    clear hx hv
    go_enter Try.func26, Try.ntmps26
    go_wp2
    go_ret
    exact ⟨by rw [← HX.out]; rfl, rfl⟩

theorem index_val_nat : ∀ n : Fin 256, Lib.indexByte [48, 49, 50, 51, 52, 53, 54, 55, 56, 57, 97, 98, 99, 100, 101, 102] (UInt8.ofNat n.val) = val (n.val : Int) := by decide +kernel

theorem or_nat : ∀ a b : Fin 16, bits BinOp.or .i64 ((a.val : Int) * 16) (b.val : Int) = 16 * (a.val : Int) + (b.val : Int) := by decide +kernel

theorem or_num (a b : Int) (h0 : 0 ≤ a) (h1 : a ≤ 15) (h2 : 0 ≤ b) (h3 : b ≤ 15) : bits BinOp.or .i64 (a * 16) b = 16 * a + b := by
  obtain ⟨x, rfl⟩ := Int.eq_ofNat_of_zero_le h0
  obtain ⟨y, rfl⟩ := Int.eq_ofNat_of_zero_le h2
  exact or_nat ⟨x, by omega⟩ ⟨y, by omega⟩

theorem index_any (c : Int) (h0 : 0 ≤ c) (h1 : c ≤ 255) (w : World) :
    Calls Try.prog 27 #[.string { data := #[48, 49, 50, 51, 52, 53, 54, 55, 56, 57, 97, 98, 99, 100, 101, 102] }, .int .u8 c] w fun e w' => e = .returned (.int .i64 (val c)) ∧ w = w' := by
  refine (Try.strings_IndexByte _ c w).mono fun e w' ⟨he, hw⟩ => ⟨?_, hw.symm⟩
  rw [he]
  obtain ⟨x, rfl⟩ := Int.eq_ofNat_of_zero_le h0
  have := index_val_nat ⟨x, by omega⟩
  simp only at this
  rw [← this]
  rfl

/-- The number at place j of the text. -/
def at' (s : ByteArray) (j : Nat) : Int := if h : j < s.size then val (s[j].toNat : Int) else -1
theorem at_val (s : ByteArray) (j : Nat) (h : j < s.size) : val (s[j].toNat : Int) = at' s j := by unfold at'; rw [dif_pos h]
/-- All pairs of figures from 0 to k - 1 are numbers. -/
def good (s : ByteArray) (k : Nat) : Prop := ∀ j, j < k → 0 ≤ at' s (2 * j) ∧ 0 ≤ at' s (2 * j + 1)
/-- The bytes that the first k pairs of figures say. -/
def pairs (s : ByteArray) (k : Nat) : List Int := (List.range k).map fun j => 16 * at' s (2 * j) + at' s (2 * j + 1)
theorem pairs_succ (s : ByteArray) (k : Nat) : pairs s (k + 1) = pairs s k ++ [16 * at' s (2 * k) + at' s (2 * k + 1)] := by simp [pairs, List.range_succ]
theorem pairs_length (s : ByteArray) (k : Nat) : (pairs s k).length = k := by simp [pairs]
theorem good_succ {s : ByteArray} {k : Nat} (h : good s k) (h0 : 0 ≤ at' s (2 * k)) (h1 : 0 ≤ at' s (2 * k + 1)) : good s (k + 1) := by
  intro j hj
  rcases Nat.lt_or_ge j k with h' | h'
  · exact h j h'
  · obtain rfl : j = k := by omega
    exact ⟨h0, h1⟩

theorem dec_next {s : ByteArray} {k : Nat} {w : World} {base : Nat} {v : Value} {x : Int} (hx : x = 16 * at' s (2 * k) + at' s (2 * k + 1))
    (h : w.ownsRow base 5 1 v (k + 1) ((pairs s k).map (Value.int .u8) ++ [.int .u8 x])) :
    w.ownsRow base 5 1 v (k + 1) ((pairs s (k + 1)).map (Value.int .u8)) := by
  rw [pairs_succ, List.map_append, ← hx]
  exact h

/-- make([]byte, 0, len(s)/2) -/
theorem make_half (s : ByteArray) (w : World) (hs : s.size ≤ 40000) : ∃ C : Array Value, C.size = s.size / 2 ∧
    (Instr.makeSlice 22 (.int .i64 0) (.int .i64 ((s.size : Int) / 2))).run Try.prog w = .ok (.slice (some ⟨w.heap.size, 0, none⟩) 0 (s.size / 2)) (w.alloc (.cells C 5)) := by
  obtain ⟨i0, hi0, hz0, hz1, hz2⟩ := info_parts info5
  have h := run_make (P := Try.prog) w 22 5 i0 _ Try.underlying22 hi0 hz0 .i64 .i64 0 ((s.size : Int) / 2) (by omega) (by omega) (by rw [hz2]; omega) (by omega)
  refine ⟨madeCells (Value.int .u8 0).cells (((s.size : Int) / 2).toNat * i0.size), ?_, ?_⟩
  · rw [size_madeCells, hz1]; omega
  · rw [h]; congr 2

set_option maxHeartbeats 1000000 in
theorem spec_good (s : ByteArray) (w : World) (n : Nat) (hs : s.size ≤ 40000) (hn : s.size = 2 * n) (hg : good s n) :
    Calls Try.prog 13 #[.string s] w fun e w' => e = .returned (.tuple #[.string (strOfNums (pairs s n)), .bool true]) ∧ Below w.heap.size w w' := by
  obtain ⟨i0, hi0, hz0, hz1, hz2⟩ := info_parts info5
  have hev : ((s.size : Int) % 2 != 0) = false := by simp; omega
  have HN := Lib.hid hn
  have HG := Lib.hid hg
  clear hn hg
  go_enter Try.func13, Try.ntmps13
  go_wp2
  go_loopw [4, 5] (fun v i wr => ∃ m k : Nat, m = 2 * k ∧ m ≤ s.size ∧ i = .int .i64 m ∧ wr.ownsRow w.heap.size 5 1 v k ((pairs s k).map (Value.int .u8)) ∧ Below w.heap.size w wr) (fun _ i _ => s.size - (intOf i).toNat)
  case atStart => exact ⟨0, 0, rfl, Nat.zero_le _, rfl, World.ownsRow_made w #[] 0 (Nat.le_refl _) (by decide) (by simp), (Below.refl _ _).alloc (Nat.le_refl _) _⟩
  case round =>
    obtain ⟨m, k, hm, hle, rfl, hown, hbel⟩ := hrel
    have HM := Lib.hid hm
    by_cases hlt : m < s.size
    · have hn := HN.out
      have hlt1 : m + 1 < s.size := by omega
      have hb0 := s[m].toNat_lt
      have hb1 := s[m + 1].toNat_lt
      have hv2 := (val_bd (s[m].toNat : Int)).2
      have hv3 := (val_bd (s[m + 1].toNat : Int)).2
      have hk : k ≤ 20000 := by omega
      have hkn : k < n := by omega
      have hg := HG.out k hkn
      have hv0 : 0 ≤ val (s[m].toNat : Int) := by rw [at_val s m hlt, hm]; exact hg.1
      have hv1 : 0 ≤ val (s[m + 1].toNat : Int) := by rw [at_val s (m + 1) hlt1, hm]; exact hg.2
      clear hg
      have hx : 16 * val (s[m].toNat : Int) + val (s[m + 1].toNat : Int) = 16 * at' s (2 * k) + at' s (2 * k + 1) := by
        rw [at_val s m hlt, at_val s (m + 1) hlt1, hm]
      have HX := Lib.hid hx
      clear hn hm hx
      go_wp2_with (first
        | (go_at_call 26; refine (val_any _ (by omega) (by omega) _).mono ?_; rintro e w' ⟨rfl, rfl⟩)
        | (at_builtin; refine wpList_append_own _ rfl _ _ 22 rfl w.heap.size 5 i0 (.int .u8 0) 1 1 Try.underlying22 hi0 hz0 hz1 hz2 rfl (by decide) _ _ _ rfl (hown.alloc _) ⟨wr.heap.size, 0, none⟩ 1 1 [.int .u8 (16 * val (s[m].toNat : Int) + val (s[m + 1].toNat : Int))] rfl rfl ?c1 ?c2 ?c3 ?c4 ?c5 ?_))
      case c1 => exact World.news_of_block (cs := #[.int .u8 (16 * val (s[m].toNat : Int) + val (s[m + 1].toNat : Int))]) (t := 5) (fr := (0, 0)) (heap_alloc_new wr _)
      case c2 => simp [Value.oneCell']
      case c3 => unfold maxLen; omega
      case c4 => omega
      case c5 => simp; have := hbel.size; omega
      intro v1 w1 hown1 hgrow _
      have hrel1 := dec_next HX.out hown1
      have hbel1 := ((hbel.alloc hbel.size _)).grown hgrow (by simp; have := hbel.size; omega) (fun q hq => (hown.lt q hq).1)
      clear hown hbel hown1 hgrow
      go_wp2
      go_roundw
      case rel => exact ⟨m + 2, k + 1, by have := HM.out; omega, by omega, by go_num, hrel1, hbel1⟩
      case measure => simp [intOf]; omega
    · have hms : m = s.size := by omega
      obtain rfl : k = n := by have := HN.out; omega
      have hconv := str_own hown
      clear hown hm hms
      go_wp2
      go_ret2
      exact ⟨rfl, hbel⟩

set_option maxHeartbeats 1000000 in
theorem spec_bad (s : ByteArray) (w : World) (n : Nat) (hs : s.size ≤ 40000) (hn : s.size = 2 * n) (hg : ¬ good s n) :
    Calls Try.prog 13 #[.string s] w fun e w' => e = .returned (.tuple #[.string ⟨#[]⟩, .bool false]) ∧ Below w.heap.size w w' := by
  obtain ⟨i0, hi0, hz0, hz1, hz2⟩ := info_parts info5
  have hev : ((s.size : Int) % 2 != 0) = false := by simp; omega
  have HN := Lib.hid hn
  have HG := Lib.hid hg
  clear hn hg
  go_enter Try.func13, Try.ntmps13
  go_wp2
  go_loopw [4, 5] (fun v i wr => ∃ m k : Nat, m = 2 * k ∧ m ≤ s.size ∧ i = .int .i64 m ∧ wr.ownsRow w.heap.size 5 1 v k ((pairs s k).map (Value.int .u8)) ∧ Below w.heap.size w wr ∧ good s k) (fun _ i _ => s.size - (intOf i).toNat)
  case atStart => exact ⟨0, 0, rfl, Nat.zero_le _, rfl, World.ownsRow_made w #[] 0 (Nat.le_refl _) (by decide) (by simp), (Below.refl _ _).alloc (Nat.le_refl _) _, fun j hj => by omega⟩
  case round =>
    obtain ⟨m, k, hm, hle, rfl, hown, hbel, hgk⟩ := hrel
    have HM := Lib.hid hm
    by_cases hlt : m < s.size
    · have hn := HN.out
      have hlt1 : m + 1 < s.size := by omega
      have hb0 := s[m].toNat_lt
      have hb1 := s[m + 1].toNat_lt
      have hv2 := (val_bd (s[m].toNat : Int)).2
      have hv3 := (val_bd (s[m + 1].toNat : Int)).2
      have hk : k ≤ 20000 := by omega
      have hkn : k < n := by omega
      have HK := Lib.hid hgk
      clear hgk
      by_cases hv0 : 0 ≤ val (s[m].toNat : Int)
      · by_cases hv1 : 0 ≤ val (s[m + 1].toNat : Int)
        · have hx : 16 * val (s[m].toNat : Int) + val (s[m + 1].toNat : Int) = 16 * at' s (2 * k) + at' s (2 * k + 1) := by
            rw [at_val s m hlt, at_val s (m + 1) hlt1, hm]
          have HX := Lib.hid hx
          have hgk1 : good s (k + 1) := good_succ HK.out (by rw [← hm, ← at_val s m hlt]; exact hv0) (by rw [← hm, ← at_val s (m + 1) hlt1]; exact hv1)
          have HGK := Lib.hid hgk1
          clear hgk1
          clear hn hm hx
          go_wp2_with (first
            | (go_at_call 26; refine (val_any _ (by omega) (by omega) _).mono ?_; rintro e w' ⟨rfl, rfl⟩)
            | (at_builtin; refine wpList_append_own _ rfl _ _ 22 rfl w.heap.size 5 i0 (.int .u8 0) 1 1 Try.underlying22 hi0 hz0 hz1 hz2 rfl (by decide) _ _ _ rfl (hown.alloc _) ⟨wr.heap.size, 0, none⟩ 1 1 [.int .u8 (16 * val (s[m].toNat : Int) + val (s[m + 1].toNat : Int))] rfl rfl ?c1 ?c2 ?c3 ?c4 ?c5 ?_))
          case c1 => exact World.news_of_block (cs := #[.int .u8 (16 * val (s[m].toNat : Int) + val (s[m + 1].toNat : Int))]) (t := 5) (fr := (0, 0)) (heap_alloc_new wr _)
          case c2 => simp [Value.oneCell']
          case c3 => unfold maxLen; omega
          case c4 => omega
          case c5 => simp; have := hbel.size; omega
          intro v1 w1 hown1 hgrow _
          have hrel1 := dec_next HX.out hown1
          have hbel1 := ((hbel.alloc hbel.size _)).grown hgrow (by simp; have := hbel.size; omega) (fun q hq => (hown.lt q hq).1)
          clear hown hbel hown1 hgrow
          go_wp2
          go_roundw
          case rel => exact ⟨m + 2, k + 1, by have := HM.out; omega, by omega, by go_num, hrel1, hbel1, HGK.out⟩
          case measure => simp [intOf]; omega
        · clear hn hm
          go_wp2_with (go_at_call 26; refine (val_any _ (by omega) (by omega) _).mono ?_; rintro e w' ⟨rfl, rfl⟩)
          go_ret2
          exact ⟨rfl, hbel⟩
      · clear hn hm
        go_wp2_with (go_at_call 26; refine (val_any _ (by omega) (by omega) _).mono ?_; rintro e w' ⟨rfl, rfl⟩)
        go_ret2
        exact ⟨rfl, hbel⟩
    · have hms : m = s.size := by omega
      obtain rfl : k = n := by have := HN.out; omega
      exact absurd hgk HG.out

theorem spec_long (s : ByteArray) (w : World) (hm : s.size ≤ maxLen) (h : 40000 < s.size ∨ s.size % 2 = 1) :
    Calls Try.prog 13 #[.string s] w fun e w' => e = .returned (.tuple #[.string ⟨#[]⟩, .bool false]) ∧ Below w.heap.size w w' := by
  unfold maxLen at hm
  by_cases h1 : (40000 : Int) < s.size
  · by_cases h2 : s.size % 2 = 1
    · have hev : ((s.size : Int) % 2 != 0) = true := by simp; omega
      clear h
      go_enter Try.func13, Try.ntmps13
      go_wp2
      go_ret2
      exact ⟨rfl, Below.refl _ _⟩
    · have hev : ((s.size : Int) % 2 != 0) = false := by simp; omega
      clear h
      go_enter Try.func13, Try.ntmps13
      go_wp2
      go_ret2
      exact ⟨rfl, Below.refl _ _⟩
  · have hev : ((s.size : Int) % 2 != 0) = true := by simp; omega
    clear h
    go_enter Try.func13, Try.ntmps13
    go_wp2
    go_ret2
    exact ⟨rfl, Below.refl _ _⟩

set_option maxHeartbeats 1000000 in
theorem impl_good (s : ByteArray) (w : World) (n : Nat) (hs : s.size ≤ 40000) (hn : s.size = 2 * n) (hg : good s n) :
    Calls Try.prog 14 #[.string s] w fun e w' => e = .returned (.tuple #[.string (strOfNums (pairs s n)), .bool true]) ∧ Below w.heap.size w w' := by
  obtain ⟨i0, hi0, hz0, hz1, hz2⟩ := info_parts info5
  have hev : ((s.size : Int) % 2 != 0) = false := by simp; omega
  have HN := Lib.hid hn
  have HG := Lib.hid hg
  clear hn hg
  obtain ⟨C, hC, hmk⟩ := make_half s w hs
  have hCh := Lib.hid hC
  clear hC
  go_enter Try.func14, Try.ntmps14
  go_wp2
  go_loopw [4, 5] (fun v i wr => ∃ m k : Nat, m = 2 * k ∧ m ≤ s.size ∧ i = .int .i64 m ∧ wr.ownsRow w.heap.size 5 1 v k ((pairs s k).map (Value.int .u8)) ∧ Below w.heap.size w wr) (fun _ i _ => s.size - (intOf i).toNat)
  case atStart => exact ⟨0, 0, rfl, Nat.zero_le _, rfl, World.ownsRow_made w C (s.size / 2) (Nat.le_refl _) (by unfold maxLen; omega) (by rw [hCh.out]; omega), (Below.refl _ _).alloc (Nat.le_refl _) _⟩
  case round =>
    obtain ⟨m, k, hm, hle, rfl, hown, hbel⟩ := hrel
    have HM := Lib.hid hm
    by_cases hlt : m < s.size
    · have hn := HN.out
      have hlt1 : m + 1 < s.size := by omega
      have hb0 := s[m].toNat_lt
      have hb1 := s[m + 1].toNat_lt
      have hv2 := (val_bd (s[m].toNat : Int)).2
      have hv3 := (val_bd (s[m + 1].toNat : Int)).2
      have hk : k ≤ 20000 := by omega
      have hkn : k < n := by omega
      have hg := HG.out k hkn
      have hv0 : 0 ≤ val (s[m].toNat : Int) := by rw [at_val s m hlt, hm]; exact hg.1
      have hv1 : 0 ≤ val (s[m + 1].toNat : Int) := by rw [at_val s (m + 1) hlt1, hm]; exact hg.2
      clear hg
      have hx : 16 * val (s[m].toNat : Int) + val (s[m + 1].toNat : Int) = 16 * at' s (2 * k) + at' s (2 * k + 1) := by
        rw [at_val s m hlt, at_val s (m + 1) hlt1, hm]
      have HX := Lib.hid hx
      have hor := or_num _ _ hv0 hv2 hv1 hv3
      clear hn hm hx
      go_wp2_with (first
        | (go_at_call 27; refine (index_any _ (by omega) (by omega) _).mono ?_; rintro e w' ⟨rfl, rfl⟩)
        | (at_builtin; refine wpList_append_own _ rfl _ _ 22 rfl w.heap.size 5 i0 (.int .u8 0) 1 1 Try.underlying22 hi0 hz0 hz1 hz2 rfl (by decide) _ _ _ rfl (hown.alloc _) ⟨wr.heap.size, 0, none⟩ 1 1 [.int .u8 (16 * val (s[m].toNat : Int) + val (s[m + 1].toNat : Int))] rfl rfl ?c1 ?c2 ?c3 ?c4 ?c5 ?_))
      case c1 => exact World.news_of_block (cs := #[.int .u8 (16 * val (s[m].toNat : Int) + val (s[m + 1].toNat : Int))]) (t := 5) (fr := (0, 0)) (heap_alloc_new wr _)
      case c2 => simp [Value.oneCell']
      case c3 => unfold maxLen; omega
      case c4 => omega
      case c5 => simp; have := hbel.size; omega
      intro v1 w1 hown1 hgrow _
      have hrel1 := dec_next HX.out hown1
      have hbel1 := ((hbel.alloc hbel.size _)).grown hgrow (by simp; have := hbel.size; omega) (fun q hq => (hown.lt q hq).1)
      clear hown hbel hown1 hgrow
      go_wp2
      go_roundw
      case rel => exact ⟨m + 2, k + 1, by have := HM.out; omega, by omega, by go_num, hrel1, hbel1⟩
      case measure => simp [intOf]; omega
    · have hms : m = s.size := by omega
      obtain rfl : k = n := by have := HN.out; omega
      have hconv := str_own hown
      clear hown hm hms
      go_wp2
      go_ret2
      exact ⟨rfl, hbel⟩

set_option maxHeartbeats 1000000 in
theorem impl_bad (s : ByteArray) (w : World) (n : Nat) (hs : s.size ≤ 40000) (hn : s.size = 2 * n) (hg : ¬ good s n) :
    Calls Try.prog 14 #[.string s] w fun e w' => e = .returned (.tuple #[.string ⟨#[]⟩, .bool false]) ∧ Below w.heap.size w w' := by
  obtain ⟨i0, hi0, hz0, hz1, hz2⟩ := info_parts info5
  have hev : ((s.size : Int) % 2 != 0) = false := by simp; omega
  have HN := Lib.hid hn
  have HG := Lib.hid hg
  clear hn hg
  obtain ⟨C, hC, hmk⟩ := make_half s w hs
  have hCh := Lib.hid hC
  clear hC
  go_enter Try.func14, Try.ntmps14
  go_wp2
  go_loopw [4, 5] (fun v i wr => ∃ m k : Nat, m = 2 * k ∧ m ≤ s.size ∧ i = .int .i64 m ∧ wr.ownsRow w.heap.size 5 1 v k ((pairs s k).map (Value.int .u8)) ∧ Below w.heap.size w wr ∧ good s k) (fun _ i _ => s.size - (intOf i).toNat)
  case atStart => exact ⟨0, 0, rfl, Nat.zero_le _, rfl, World.ownsRow_made w C (s.size / 2) (Nat.le_refl _) (by unfold maxLen; omega) (by rw [hCh.out]; omega), (Below.refl _ _).alloc (Nat.le_refl _) _, fun j hj => by omega⟩
  case round =>
    obtain ⟨m, k, hm, hle, rfl, hown, hbel, hgk⟩ := hrel
    have HM := Lib.hid hm
    by_cases hlt : m < s.size
    · have hn := HN.out
      have hlt1 : m + 1 < s.size := by omega
      have hb0 := s[m].toNat_lt
      have hb1 := s[m + 1].toNat_lt
      have hv2 := (val_bd (s[m].toNat : Int)).2
      have hv3 := (val_bd (s[m + 1].toNat : Int)).2
      have hk : k ≤ 20000 := by omega
      have hkn : k < n := by omega
      have HK := Lib.hid hgk
      clear hgk
      by_cases hv0 : 0 ≤ val (s[m].toNat : Int)
      · by_cases hv1 : 0 ≤ val (s[m + 1].toNat : Int)
        · have hx : 16 * val (s[m].toNat : Int) + val (s[m + 1].toNat : Int) = 16 * at' s (2 * k) + at' s (2 * k + 1) := by
            rw [at_val s m hlt, at_val s (m + 1) hlt1, hm]
          have HX := Lib.hid hx
          have hor := or_num _ _ hv0 hv2 hv1 hv3
          have hgk1 : good s (k + 1) := good_succ HK.out (by rw [← hm, ← at_val s m hlt]; exact hv0) (by rw [← hm, ← at_val s (m + 1) hlt1]; exact hv1)
          have HGK := Lib.hid hgk1
          clear hgk1
          clear hn hm hx
          go_wp2_with (first
            | (go_at_call 27; refine (index_any _ (by omega) (by omega) _).mono ?_; rintro e w' ⟨rfl, rfl⟩)
            | (at_builtin; refine wpList_append_own _ rfl _ _ 22 rfl w.heap.size 5 i0 (.int .u8 0) 1 1 Try.underlying22 hi0 hz0 hz1 hz2 rfl (by decide) _ _ _ rfl (hown.alloc _) ⟨wr.heap.size, 0, none⟩ 1 1 [.int .u8 (16 * val (s[m].toNat : Int) + val (s[m + 1].toNat : Int))] rfl rfl ?c1 ?c2 ?c3 ?c4 ?c5 ?_))
          case c1 => exact World.news_of_block (cs := #[.int .u8 (16 * val (s[m].toNat : Int) + val (s[m + 1].toNat : Int))]) (t := 5) (fr := (0, 0)) (heap_alloc_new wr _)
          case c2 => simp [Value.oneCell']
          case c3 => unfold maxLen; omega
          case c4 => omega
          case c5 => simp; have := hbel.size; omega
          intro v1 w1 hown1 hgrow _
          have hrel1 := dec_next HX.out hown1
          have hbel1 := ((hbel.alloc hbel.size _)).grown hgrow (by simp; have := hbel.size; omega) (fun q hq => (hown.lt q hq).1)
          clear hown hbel hown1 hgrow
          go_wp2
          go_roundw
          case rel => exact ⟨m + 2, k + 1, by have := HM.out; omega, by omega, by go_num, hrel1, hbel1, HGK.out⟩
          case measure => simp [intOf]; omega
        · clear hn hm
          go_wp2_with (go_at_call 27; refine (index_any _ (by omega) (by omega) _).mono ?_; rintro e w' ⟨rfl, rfl⟩)
          go_ret2
          exact ⟨rfl, hbel⟩
      · clear hn hm
        go_wp2_with (go_at_call 27; refine (index_any _ (by omega) (by omega) _).mono ?_; rintro e w' ⟨rfl, rfl⟩)
        go_ret2
        exact ⟨rfl, hbel⟩
    · have hms : m = s.size := by omega
      obtain rfl : k = n := by have := HN.out; omega
      exact absurd hgk HG.out

theorem impl_long (s : ByteArray) (w : World) (hm : s.size ≤ maxLen) (h : 40000 < s.size ∨ s.size % 2 = 1) :
    Calls Try.prog 14 #[.string s] w fun e w' => e = .returned (.tuple #[.string ⟨#[]⟩, .bool false]) ∧ Below w.heap.size w w' := by
  unfold maxLen at hm
  by_cases h1 : (40000 : Int) < s.size
  · by_cases h2 : s.size % 2 = 1
    · have hev : ((s.size : Int) % 2 != 0) = true := by simp; omega
      clear h
      go_enter Try.func14, Try.ntmps14
      go_wp2
      go_ret2
      exact ⟨rfl, Below.refl _ _⟩
    · have hev : ((s.size : Int) % 2 != 0) = false := by simp; omega
      clear h
      go_enter Try.func14, Try.ntmps14
      go_wp2
      go_ret2
      exact ⟨rfl, Below.refl _ _⟩
  · have hev : ((s.size : Int) % 2 != 0) = true := by simp; omega
    clear h
    go_enter Try.func14, Try.ntmps14
    go_wp2
    go_ret2
    exact ⟨rfl, Below.refl _ _⟩

end Go.Proofs.Ythemadiofegjmaa.Dec
