/-
  The program's EncodeHex and DecodeHex over the second translation: what each call returns, and that nothing that was there has turned; condition: the string is no longer than a string can be.
-/
import Derived.Test.YthemadiofegjmaaDoorFig
import Derived.Test.YthemadiofegjmaaDoorShelf
namespace Go.Proofs.YthemadiofegjmaaDoor.Hex
open Go.ChangeShapes Go.WideShapes Go.ChangeAt Go.RowKit
set_option linter.unusedVariables false

theorem enc_next {s : ByteArray} {k : Nat} {w : World} {base : Nat} {v : Value} (hlt : k < s.size)
    (h : w.ownsRow base 5 1 v (2 * k + 2) ((figs (s.data.toList.take k)).map (Value.int .u8) ++ [.int .u8 (fig ((s[k].toNat : Int) / 16)), .int .u8 (fig ((s[k].toNat : Int) % 16))])) :
    w.ownsRow base 5 1 v (2 * (k + 1)) ((figs (s.data.toList.take (k + 1))).map (Value.int .u8)) := by
  rw [take_snoc s k hlt, figs_snoc, List.map_append]
  exact h

/-- make([]byte, 0, 2*len(s)) -/
theorem make_room (s : ByteArray) (w : World) (hs : s.size ≤ 20000) : ∃ C : Array Value, C.size = 2 * s.size ∧
    (Instr.makeSlice 22 (.int .i64 0) (.int .i64 (2 * (s.size : Int)))).run Tryd.prog w = .ok (.slice (some ⟨w.heap.size, 0, none⟩) 0 (2 * s.size)) (w.alloc (.cells C 5)) := by
  obtain ⟨i0, hi0, hz0, hz1, hz2⟩ := info_parts info5
  have h := run_make (P := Tryd.prog) w 22 5 i0 _ Tryd.underlying22 hi0 hz0 .i64 .i64 0 (2 * (s.size : Int)) (by omega) (by omega) (by rw [hz2]; omega) (by omega)
  refine ⟨madeCells (Value.int .u8 0).cells ((2 * (s.size : Int)).toNat * i0.size), ?_, ?_⟩
  · rw [size_madeCells, hz1]; omega
  · rw [h]; congr 2

/-- The sixteen digits. -/
def digs : ByteArray := { data := #[48, 49, 50, 51, 52, 53, 54, 55, 56, 57, 97, 98, 99, 100, 101, 102] }
theorem dig_fig (n : Int) (h0 : 0 ≤ n) (h1 : n < 16) (h : n.toNat < ({ data := #[48, 49, 50, 51, 52, 53, 54, 55, 56, 57, 97, 98, 99, 100, 101, 102] } : ByteArray).size) :
    ((({ data := #[48, 49, 50, 51, 52, 53, 54, 55, 56, 57, 97, 98, 99, 100, 101, 102] } : ByteArray)[n.toNat]'h).toNat : Int) = fig n := by
  obtain ⟨k, rfl⟩ := Int.eq_ofNat_of_zero_le h0
  have hk : k < 16 := by omega
  have h16 : k = 0 ∨ k = 1 ∨ k = 2 ∨ k = 3 ∨ k = 4 ∨ k = 5 ∨ k = 6 ∨ k = 7 ∨ k = 8 ∨ k = 9 ∨ k = 10 ∨ k = 11 ∨ k = 12 ∨ k = 13 ∨ k = 14 ∨ k = 15 := by omega
  rcases h16 with rfl | rfl | rfl | rfl | rfl | rfl | rfl | rfl | rfl | rfl | rfl | rfl | rfl | rfl | rfl | rfl <;> rfl

set_option maxHeartbeats 1000000 in
theorem impl_encode (s : ByteArray) (w : World) (hs : s.size ≤ 20000) :
    Calls Tryd.prog 10 #[.string s] w fun e w' => e = .returned (.tuple #[.string (strOfNums (figs s.data.toList)), .bool true]) ∧ Below w.heap.size w w' := by
  obtain ⟨i0, hi0, hz0, hz1, hz2⟩ := info_parts info5
  obtain ⟨C, hC, hmk⟩ := make_room s w hs
  have hCh := Lib.hid hC
  clear hC
  go_enter Tryd.func10, Tryd.ntmps10
  go_wp2
  go_loopw [4, 15] (fun v i wr => ∃ k : Nat, k ≤ s.size ∧ i = .int .i64 k ∧ wr.ownsRow w.heap.size 5 1 v (2 * k) ((figs (s.data.toList.take k)).map (Value.int .u8)) ∧ Below w.heap.size w wr) (fun _ i _ => s.size - (intOf i).toNat)
  case atStart => exact ⟨0, Nat.zero_le _, rfl, World.ownsRow_made w C (2 * s.size) (Nat.le_refl _) (by unfold maxLen; omega) (by rw [hCh.out]; omega), (Below.refl _ _).alloc (Nat.le_refl _) _⟩
  case round =>
    obtain ⟨k, hk, rfl, hown, hbel⟩ := hrel
    by_cases hlt : k < s.size
    · have hb := s[k].toNat_lt
      have hc0 : 0 ≤ ((s[k].toNat : Int)) / 16 := by omega
      have hc1 : ((s[k].toNat : Int)) / 16 < 16 := by omega
      have hc2 : 0 ≤ ((s[k].toNat : Int)) % 16 := by omega
      have hc3 : ((s[k].toNat : Int)) % 16 < 16 := by omega
      have ha : bits BinOp.and .u8 (s[k].toNat : Int) 15 = (s[k].toNat : Int) % 16 := bits_mask .u8 8 (by decide) wraps_u8 4 (by decide) _ (by omega) (by omega)
      have hd1 := dig_fig _ hc0 hc1
      have hd2 := dig_fig _ hc2 hc3
      go_wp2
      go_region_law (refine step_append_lies _ (by rfl) _ _ _ (by rfl) w.heap.size 5 i0 _ 1 1 Tryd.underlying22 hi0 hz0 hz1 hz2 rfl (by omega) _ (2 * k) _ (by rfl) ((hown.alloc _).drew) ⟨wr.heap.size, 0, none⟩ 2 2 [.int .u8 (fig ((s[k].toNat : Int) / 16)), .int .u8 (fig ((s[k].toNat : Int) % 16))] (by rfl) (by rfl) (World.news_of_block (cs := #[.int .u8 (fig ((s[k].toNat : Int) / 16)), .int .u8 (fig ((s[k].toNat : Int) % 16))]) (t := 5) (fr := (0, 0)) (heap_alloc_new wr _)) (by simp [Value.oneCell']) (by omega) (by unfold maxLen; omega) (by omega) (by simp; have := hbel.size; omega) (wr.heap.size + 1) (by simp) ?_; intro gg cap w1 hown1 hgrow hat hgl)
      all_goals
        have hrel1 := enc_next hlt hown1
        have hbel1 := (((hbel.alloc hbel.size _).drew).grown hgrow (by simp; have := hbel.size; omega) (fun q hq => (hown.lt q hq).1))
        clear hown hbel hown1 hgrow hat hgl ha hd1 hd2
        go_wp2
        go_roundw
        case rel => exact ⟨k + 1, by omega, by go_num, hrel1, hbel1⟩
        case measure => simp [intOf]; omega
    · obtain rfl : k = s.size := by omega
      have hconv := str_own hown
      have ht : s.data.toList.take s.size = s.data.toList := List.take_of_length_le (by simp)
      rw [ht] at hconv
      clear hown ht
      go_wp2
      go_ret2
      exact ⟨rfl, hbel⟩

theorem impl_encode_long (s : ByteArray) (w : World) (hs : 20000 < s.size) (hm : s.size ≤ maxLen) :
    Calls Tryd.prog 10 #[.string s] w fun e w' => e = .returned (.tuple #[.string ⟨#[]⟩, .bool false]) ∧ Below w.heap.size w w' := by
  unfold maxLen at hm
  have h : (20000 : Int) < s.size := by omega
  go_enter Tryd.func10, Tryd.ntmps10
  go_wp2
  go_ret2
  exact ⟨rfl, Below.refl _ _⟩

/-- The number of a figure; -1 of any other byte. -/
def val (c : Int) : Int := if 48 ≤ c ∧ c ≤ 57 then c - 48 else if 97 ≤ c ∧ c ≤ 102 then c - 87 else -1
theorem val_bd (c : Int) : -1 ≤ val c ∧ val c ≤ 15 := by unfold val; split <;> (try split) <;> omega

theorem index_val_nat : ∀ n : Fin 256, Lib.indexByte [48, 49, 50, 51, 52, 53, 54, 55, 56, 57, 97, 98, 99, 100, 101, 102] (UInt8.ofNat n.val) = val (n.val : Int) := by decide +kernel

theorem or_nat : ∀ a b : Fin 16, bits BinOp.or .i64 ((a.val : Int) * 16) (b.val : Int) = 16 * (a.val : Int) + (b.val : Int) := by decide +kernel

theorem or_num (a b : Int) (h0 : 0 ≤ a) (h1 : a ≤ 15) (h2 : 0 ≤ b) (h3 : b ≤ 15) : bits BinOp.or .i64 (a * 16) b = 16 * a + b := by
  obtain ⟨x, rfl⟩ := Int.eq_ofNat_of_zero_le h0
  obtain ⟨y, rfl⟩ := Int.eq_ofNat_of_zero_le h2
  exact or_nat ⟨x, by omega⟩ ⟨y, by omega⟩

theorem index_any (c : Int) (h0 : 0 ≤ c) (h1 : c ≤ 255) (w : World) :
    Calls Tryd.prog 27 #[.string { data := #[48, 49, 50, 51, 52, 53, 54, 55, 56, 57, 97, 98, 99, 100, 101, 102] }, .int .u8 c] w fun e w' => e = .returned (.int .i64 (val c)) ∧ w = w' := by
  refine (Tryd.strings_IndexByte _ c w).mono fun e w' ⟨he, hw⟩ => ⟨?_, hw.symm⟩
  rw [he]
  obtain ⟨x, rfl⟩ := Int.eq_ofNat_of_zero_le h0
  have := index_val_nat ⟨x, by omega⟩
  simp only at this
  rw [← this]
  rfl

/-- The number at place j of the text. -/
def at' (s : ByteArray) (j : Nat) : Int := if h : j < s.size then val (s[j].toNat : Int) else -1
theorem at_val (s : ByteArray) (j : Nat) (h : j < s.size) : val (s[j].toNat : Int) = at' s j := by unfold at'; rw [dif_pos h]
/-- All pairs of figures from 0 to k - 1 are numbers. -/
def good (s : ByteArray) (k : Nat) : Prop := ∀ j, j < k → 0 ≤ at' s (2 * j) ∧ 0 ≤ at' s (2 * j + 1)
/-- The bytes that the first k pairs of figures say. -/
def pairs (s : ByteArray) (k : Nat) : List Int := (List.range k).map fun j => 16 * at' s (2 * j) + at' s (2 * j + 1)
theorem pairs_succ (s : ByteArray) (k : Nat) : pairs s (k + 1) = pairs s k ++ [16 * at' s (2 * k) + at' s (2 * k + 1)] := by simp [pairs, List.range_succ]
theorem pairs_length (s : ByteArray) (k : Nat) : (pairs s k).length = k := by simp [pairs]
theorem good_succ {s : ByteArray} {k : Nat} (h : good s k) (h0 : 0 ≤ at' s (2 * k)) (h1 : 0 ≤ at' s (2 * k + 1)) : good s (k + 1) := by
  intro j hj
  rcases Nat.lt_or_ge j k with h' | h'
  · exact h j h'
  · obtain rfl : j = k := by omega
    exact ⟨h0, h1⟩

theorem dec_next {s : ByteArray} {k : Nat} {w : World} {base : Nat} {v : Value} {x : Int} (hx : x = 16 * at' s (2 * k) + at' s (2 * k + 1))
    (h : w.ownsRow base 5 1 v (k + 1) ((pairs s k).map (Value.int .u8) ++ [.int .u8 x])) :
    w.ownsRow base 5 1 v (k + 1) ((pairs s (k + 1)).map (Value.int .u8)) := by
  rw [pairs_succ, List.map_append, ← hx]
  exact h

/-- make([]byte, 0, len(s)/2) -/
theorem make_half (s : ByteArray) (w : World) (hs : s.size ≤ 40000) : ∃ C : Array Value, C.size = s.size / 2 ∧
    (Instr.makeSlice 22 (.int .i64 0) (.int .i64 ((s.size : Int) / 2))).run Tryd.prog w = .ok (.slice (some ⟨w.heap.size, 0, none⟩) 0 (s.size / 2)) (w.alloc (.cells C 5)) := by
  obtain ⟨i0, hi0, hz0, hz1, hz2⟩ := info_parts info5
  have h := run_make (P := Tryd.prog) w 22 5 i0 _ Tryd.underlying22 hi0 hz0 .i64 .i64 0 ((s.size : Int) / 2) (by omega) (by omega) (by rw [hz2]; omega) (by omega)
  refine ⟨madeCells (Value.int .u8 0).cells (((s.size : Int) / 2).toNat * i0.size), ?_, ?_⟩
  · rw [size_madeCells, hz1]; omega
  · rw [h]; congr 2

set_option maxHeartbeats 1000000 in
theorem impl_good (s : ByteArray) (w : World) (n : Nat) (hs : s.size ≤ 40000) (hn : s.size = 2 * n) (hg : good s n) :
    Calls Tryd.prog 12 #[.string s] w fun e w' => e = .returned (.tuple #[.string (strOfNums (pairs s n)), .bool true]) ∧ Below w.heap.size w w' := by
  obtain ⟨i0, hi0, hz0, hz1, hz2⟩ := info_parts info5
  have hev : ((s.size : Int) % 2 != 0) = false := by simp; omega
  have HN := Lib.hid hn
  have HG := Lib.hid hg
  clear hn hg
  obtain ⟨C, hC, hmk⟩ := make_half s w hs
  have hCh := Lib.hid hC
  clear hC
  go_enter Tryd.func12, Tryd.ntmps12
  go_wp2
  go_loopw [4, 5] (fun v i wr => ∃ m k : Nat, m = 2 * k ∧ m ≤ s.size ∧ i = .int .i64 m ∧ wr.ownsRow w.heap.size 5 1 v k ((pairs s k).map (Value.int .u8)) ∧ Below w.heap.size w wr) (fun _ i _ => s.size - (intOf i).toNat)
  case atStart => exact ⟨0, 0, rfl, Nat.zero_le _, rfl, World.ownsRow_made w C (s.size / 2) (Nat.le_refl _) (by unfold maxLen; omega) (by rw [hCh.out]; omega), (Below.refl _ _).alloc (Nat.le_refl _) _⟩
  case round =>
    obtain ⟨m, k, hm, hle, rfl, hown, hbel⟩ := hrel
    have HM := Lib.hid hm
    by_cases hlt : m < s.size
    · have hn := HN.out
      have hlt1 : m + 1 < s.size := by omega
      have hb0 := s[m].toNat_lt
      have hb1 := s[m + 1].toNat_lt
      have hv2 := (val_bd (s[m].toNat : Int)).2
      have hv3 := (val_bd (s[m + 1].toNat : Int)).2
      have hk : k ≤ 20000 := by omega
      have hkn : k < n := by omega
      have hg := HG.out k hkn
      have hv0 : 0 ≤ val (s[m].toNat : Int) := by rw [at_val s m hlt, hm]; exact hg.1
      have hv1 : 0 ≤ val (s[m + 1].toNat : Int) := by rw [at_val s (m + 1) hlt1, hm]; exact hg.2
      clear hg
      have hx : 16 * val (s[m].toNat : Int) + val (s[m + 1].toNat : Int) = 16 * at' s (2 * k) + at' s (2 * k + 1) := by
        rw [at_val s m hlt, at_val s (m + 1) hlt1, hm]
      have HX := Lib.hid hx
      have hor := or_num _ _ hv0 hv2 hv1 hv3
      clear hn hm hx
      go_wp2_with (first
        | (go_at_call 27; refine (index_any _ (by omega) (by omega) _).mono ?_; rintro e w' ⟨rfl, rfl⟩)
        | (at_builtin; refine wpList_append_own _ rfl _ _ 22 rfl w.heap.size 5 i0 (.int .u8 0) 1 1 Tryd.underlying22 hi0 hz0 hz1 hz2 rfl (by decide) _ _ _ rfl (hown.alloc _) ⟨wr.heap.size, 0, none⟩ 1 1 [.int .u8 (16 * val (s[m].toNat : Int) + val (s[m + 1].toNat : Int))] rfl rfl ?c1 ?c2 ?c3 ?c4 ?c5 ?_))
      case c1 => exact World.news_of_block (cs := #[.int .u8 (16 * val (s[m].toNat : Int) + val (s[m + 1].toNat : Int))]) (t := 5) (fr := (0, 0)) (heap_alloc_new wr _)
      case c2 => simp [Value.oneCell']
      case c3 => unfold maxLen; omega
      case c4 => omega
      case c5 => simp; have := hbel.size; omega
      intro v1 w1 hown1 hgrow _
      have hrel1 := dec_next HX.out hown1
      have hbel1 := ((hbel.alloc hbel.size _)).grown hgrow (by simp; have := hbel.size; omega) (fun q hq => (hown.lt q hq).1)
      clear hown hbel hown1 hgrow
      go_wp2
      go_roundw
      case rel => exact ⟨m + 2, k + 1, by have := HM.out; omega, by omega, by go_num, hrel1, hbel1⟩
      case measure => simp [intOf]; omega
    · have hms : m = s.size := by omega
      obtain rfl : k = n := by have := HN.out; omega
      have hconv := str_own hown
      clear hown hm hms
      go_wp2
      go_ret2
      exact ⟨rfl, hbel⟩

set_option maxHeartbeats 1000000 in
theorem impl_bad (s : ByteArray) (w : World) (n : Nat) (hs : s.size ≤ 40000) (hn : s.size = 2 * n) (hg : ¬ good s n) :
    Calls Tryd.prog 12 #[.string s] w fun e w' => e = .returned (.tuple #[.string ⟨#[]⟩, .bool false]) ∧ Below w.heap.size w w' := by
  obtain ⟨i0, hi0, hz0, hz1, hz2⟩ := info_parts info5
  have hev : ((s.size : Int) % 2 != 0) = false := by simp; omega
  have HN := Lib.hid hn
  have HG := Lib.hid hg
  clear hn hg
  obtain ⟨C, hC, hmk⟩ := make_half s w hs
  have hCh := Lib.hid hC
  clear hC
  go_enter Tryd.func12, Tryd.ntmps12
  go_wp2
  go_loopw [4, 5] (fun v i wr => ∃ m k : Nat, m = 2 * k ∧ m ≤ s.size ∧ i = .int .i64 m ∧ wr.ownsRow w.heap.size 5 1 v k ((pairs s k).map (Value.int .u8)) ∧ Below w.heap.size w wr ∧ good s k) (fun _ i _ => s.size - (intOf i).toNat)
  case atStart => exact ⟨0, 0, rfl, Nat.zero_le _, rfl, World.ownsRow_made w C (s.size / 2) (Nat.le_refl _) (by unfold maxLen; omega) (by rw [hCh.out]; omega), (Below.refl _ _).alloc (Nat.le_refl _) _, fun j hj => by omega⟩
  case round =>
    obtain ⟨m, k, hm, hle, rfl, hown, hbel, hgk⟩ := hrel
    have HM := Lib.hid hm
    by_cases hlt : m < s.size
    · have hn := HN.out
      have hlt1 : m + 1 < s.size := by omega
      have hb0 := s[m].toNat_lt
      have hb1 := s[m + 1].toNat_lt
      have hv2 := (val_bd (s[m].toNat : Int)).2
      have hv3 := (val_bd (s[m + 1].toNat : Int)).2
      have hk : k ≤ 20000 := by omega
      have hkn : k < n := by omega
      have HK := Lib.hid hgk
      clear hgk
      by_cases hv0 : 0 ≤ val (s[m].toNat : Int)
      · by_cases hv1 : 0 ≤ val (s[m + 1].toNat : Int)
        · have hx : 16 * val (s[m].toNat : Int) + val (s[m + 1].toNat : Int) = 16 * at' s (2 * k) + at' s (2 * k + 1) := by
            rw [at_val s m hlt, at_val s (m + 1) hlt1, hm]
          have HX := Lib.hid hx
          have hor := or_num _ _ hv0 hv2 hv1 hv3
          have hgk1 : good s (k + 1) := good_succ HK.out (by rw [← hm, ← at_val s m hlt]; exact hv0) (by rw [← hm, ← at_val s (m + 1) hlt1]; exact hv1)
          have HGK := Lib.hid hgk1
          clear hgk1
          clear hn hm hx
          go_wp2_with (first
            | (go_at_call 27; refine (index_any _ (by omega) (by omega) _).mono ?_; rintro e w' ⟨rfl, rfl⟩)
            | (at_builtin; refine wpList_append_own _ rfl _ _ 22 rfl w.heap.size 5 i0 (.int .u8 0) 1 1 Tryd.underlying22 hi0 hz0 hz1 hz2 rfl (by decide) _ _ _ rfl (hown.alloc _) ⟨wr.heap.size, 0, none⟩ 1 1 [.int .u8 (16 * val (s[m].toNat : Int) + val (s[m + 1].toNat : Int))] rfl rfl ?c1 ?c2 ?c3 ?c4 ?c5 ?_))
          case c1 => exact World.news_of_block (cs := #[.int .u8 (16 * val (s[m].toNat : Int) + val (s[m + 1].toNat : Int))]) (t := 5) (fr := (0, 0)) (heap_alloc_new wr _)
          case c2 => simp [Value.oneCell']
          case c3 => unfold maxLen; omega
          case c4 => omega
          case c5 => simp; have := hbel.size; omega
          intro v1 w1 hown1 hgrow _
          have hrel1 := dec_next HX.out hown1
          have hbel1 := ((hbel.alloc hbel.size _)).grown hgrow (by simp; have := hbel.size; omega) (fun q hq => (hown.lt q hq).1)
          clear hown hbel hown1 hgrow
          go_wp2
          go_roundw
          case rel => exact ⟨m + 2, k + 1, by have := HM.out; omega, by omega, by go_num, hrel1, hbel1, HGK.out⟩
          case measure => simp [intOf]; omega
        · clear hn hm
          go_wp2_with (go_at_call 27; refine (index_any _ (by omega) (by omega) _).mono ?_; rintro e w' ⟨rfl, rfl⟩)
          go_ret2
          exact ⟨rfl, hbel⟩
      · clear hn hm
        go_wp2_with (go_at_call 27; refine (index_any _ (by omega) (by omega) _).mono ?_; rintro e w' ⟨rfl, rfl⟩)
        go_ret2
        exact ⟨rfl, hbel⟩
    · have hms : m = s.size := by omega
      obtain rfl : k = n := by have := HN.out; omega
      exact absurd hgk HG.out

theorem impl_long (s : ByteArray) (w : World) (hm : s.size ≤ maxLen) (h : 40000 < s.size ∨ s.size % 2 = 1) :
    Calls Tryd.prog 12 #[.string s] w fun e w' => e = .returned (.tuple #[.string ⟨#[]⟩, .bool false]) ∧ Below w.heap.size w w' := by
  unfold maxLen at hm
  by_cases h1 : (40000 : Int) < s.size
  · by_cases h2 : s.size % 2 = 1
    · have hev : ((s.size : Int) % 2 != 0) = true := by simp; omega
      clear h
      go_enter Tryd.func12, Tryd.ntmps12
      go_wp2
      go_ret2
      exact ⟨rfl, Below.refl _ _⟩
    · have hev : ((s.size : Int) % 2 != 0) = false := by simp; omega
      clear h
      go_enter Tryd.func12, Tryd.ntmps12
      go_wp2
      go_ret2
      exact ⟨rfl, Below.refl _ _⟩
  · have hev : ((s.size : Int) % 2 != 0) = true := by simp; omega
    clear h
    go_enter Tryd.func12, Tryd.ntmps12
    go_wp2
    go_ret2
    exact ⟨rfl, Below.refl _ _⟩

end Go.Proofs.YthemadiofegjmaaDoor.Hex
