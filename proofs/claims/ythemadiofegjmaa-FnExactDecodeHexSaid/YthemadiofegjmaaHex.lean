/-
  The model's and the program's EncodeHex: what each call returns, and that nothing that was there has turned; condition: the string is no longer than a string can be.
-/
import Derived.Test.YthemadiofegjmaaRows
import Derived.WalkKit
import Derived.ProofKit
import Derived.OpenShut
import Derived.Below
import Derived.LoopTactic
import Derived.Outline
import Derived.RegionTactic
import Derived.Deep.QuietTactic
import Derived.BigQuiet
import Derived.Handy
import Derived.Lib.Hide
import Derived.Deep.AppendLies
import Derived.Deep.RegionLaw
import Derived.OwnWalk
import Derived.Laws.BytesArg
import Derived.Laws.BitsLemmas
import Derived.Laws.MakeOwn
import Derived.BigRegion
namespace Go.Proofs.Ythemadiofegjmaa.Hex
open Go.ChangeShapes Go.WideShapes Go.ChangeAt Go.RowKit
set_option linter.unusedVariables false

theorem info5 : (Try.prog.info? 5).map (fun i => (i.zero, i.size, i.bytes)) = some (some (.int .u8 0), 1, 1) := by kernel_rfl

/-- The figure of a number from 0 to 15. -/
def fig (n : Int) : Int := if n < 10 then 48 + n else 87 + n
theorem fig_lo {n : Int} (h : n < 10) : fig n = 48 + n := if_pos h
theorem fig_hi {n : Int} (h : ¬ n < 10) : fig n = 87 + n := if_neg h

theorem fig_any (n : Int) (h0 : 0 ≤ n) (h1 : n ≤ 15) (w : World) : Calls Try.prog 25 #[.int .i64 n] w fun e w' => e = .returned (.int .u8 (fig n)) ∧ w' = w := by
  by_cases h : n < 10
  · have hf := (fig_lo h).symm
    go_enter Try.func25, Try.ntmps25
    go_wp2
    go_ret
    exact ⟨by congr 2, rfl⟩
  · have hf : Value.int .u8 (97 + n - 10) = .int .u8 (fig n) := by rw [fig_hi h]; congr 1; omega
    have HF := Lib.hid hf
    clear hf
    go_enter Try.func25, Try.ntmps25
    go_wp2
    go_ret
    exact ⟨by rw [← HF.out]; rfl, rfl⟩

theorem fig_eq (m n : Int) (hm : m = n) (h0 : 0 ≤ n) (h1 : n ≤ 15) (w : World) : Calls Try.prog 25 #[.int .i64 m] w fun e w' => e = .returned (.int .u8 (fig n)) ∧ w' = w := by
  subst hm; exact fig_any m h0 h1 w

/-- The figures of the bytes. -/
def figs : List UInt8 → List Int
  | [] => []
  | c :: r => fig ((c.toNat : Int) / 16) :: fig ((c.toNat : Int) % 16) :: figs r
theorem figs_snoc (l : List UInt8) (c : UInt8) : figs (l ++ [c]) = figs l ++ [fig ((c.toNat : Int) / 16), fig ((c.toNat : Int) % 16)] := by
  induction l with
  | nil => rfl
  | cons d r ih => simp [figs, ih]
theorem figs_length (l : List UInt8) : (figs l).length = 2 * l.length := by
  induction l with
  | nil => rfl
  | cons d r ih => simp [figs, ih]; omega
theorem take_snoc (s : ByteArray) (k : Nat) (h : k < s.size) : s.data.toList.take (k + 1) = s.data.toList.take k ++ [s[k]] := by
  rw [List.take_succ_eq_append_getElem (by simpa using h)]; rfl

/-- A slice of bytes that the call owns, as a string. -/
theorem str_own {w : World} {base : Nat} {v : Value} {n : Nat} {xs : List Int} (h : w.ownsRow base 5 1 v n (xs.map (Value.int .u8))) :
    (convert 22 9 v).run Try.prog w = .ok (.string (strOfNums xs)) w := by
  have hl : xs.length = n := by have := h.1; simpa using this
  rcases h.2 with ⟨rfl, rfl⟩ | ⟨g, cap, cur, rfl, hb, hh, hn, hc, hs, ht⟩
  · obtain rfl : xs = [] := List.length_eq_zero_iff.1 hl
    exact run_convert_bytes_nil w 22 5 Try.underlying22 Try.underlying5 0 0 9 Try.underlying9
  · refine run_convert_bytes_arg w 22 5 Try.underlying22 Try.underlying5 g 0 n cap xs hl (fun i hi => ?_) 9 Try.underlying9
    have hx := h.cells (g := g) rfl i (.int .u8 (xs.getD i 0)) (by simp [List.getD, List.getElem?_eq_getElem (show i < xs.length by omega)])
    by_cases h0 : i = 0
    · subst h0; simpa [Addr.add] using hx
    · simpa [Addr.add, h0] using hx

theorem enc_next {s : ByteArray} {k : Nat} {w : World} {base : Nat} {v : Value} (hlt : k < s.size)
    (h : w.ownsRow base 5 1 v (2 * k + 2) ((figs (s.data.toList.take k)).map (Value.int .u8) ++ [.int .u8 (fig ((s[k].toNat : Int) / 16)), .int .u8 (fig ((s[k].toNat : Int) % 16))])) :
    w.ownsRow base 5 1 v (2 * (k + 1)) ((figs (s.data.toList.take (k + 1))).map (Value.int .u8)) := by
  rw [take_snoc s k hlt, figs_snoc, List.map_append]
  exact h

set_option maxHeartbeats 1000000 in
theorem spec_encode (s : ByteArray) (w : World) (hs : s.size ≤ 20000) :
    Calls Try.prog 11 #[.string s] w fun e w' => e = .returned (.tuple #[.string (strOfNums (figs s.data.toList)), .bool true]) ∧ Below w.heap.size w w' := by
  obtain ⟨i0, hi0, hz0, hz1, hz2⟩ := info_parts info5
  go_enter Try.func11, Try.ntmps11
  go_wp2
  go_loopw [4, 5] (fun v i wr => ∃ k : Nat, k ≤ s.size ∧ i = .int .i64 k ∧ wr.ownsRow w.heap.size 5 1 v (2 * k) ((figs (s.data.toList.take k)).map (Value.int .u8)) ∧ Below w.heap.size w wr) (fun _ i _ => s.size - (intOf i).toNat)
  case atStart => exact ⟨0, Nat.zero_le _, rfl, World.ownsRow_made w #[] 0 (Nat.le_refl _) (by decide) (by simp), (Below.refl _ _).alloc (Nat.le_refl _) _⟩
  case round =>
    obtain ⟨k, hk, rfl, hown, hbel⟩ := hrel
    by_cases hlt : k < s.size
    · have hb := s[k].toNat_lt
      have hc0 : 0 ≤ ((s[k].toNat : Int)) / 16 := by omega
      have hc1 : ((s[k].toNat : Int)) / 16 ≤ 15 := by omega
      have hc2 : 0 ≤ ((s[k].toNat : Int)) % 16 := by omega
      have hc3 : ((s[k].toNat : Int)) % 16 ≤ 15 := by omega
      have hq : IntKind.i64.wrap ((IntKind.i64.wrap (s[k].toNat : Int)).tdiv 16) = (s[k].toNat : Int) / 16 := by
        rw [IntWalk.i64_in (s[k].toNat : Int) (by omega), Int.tdiv_eq_ediv_of_nonneg (by omega), IntWalk.i64_in _ (by omega)]
      have hr : (IntKind.i64.wrap (s[k].toNat : Int)).tmod 16 = (s[k].toNat : Int) % 16 := by
        rw [IntWalk.i64_in (s[k].toNat : Int) (by omega), Int.tmod_eq_emod_of_nonneg (by omega)]
      have HQ := Lib.hid hq
      have HR := Lib.hid hr
      clear hq hr
      go_wp2
      go_region_law (first
        | (go_simp; go_at_call 25; (first | ((with_reducible refine (fig_eq _ _ HQ.out hc0 hc1 _).mono ?_); rintro e w' ⟨rfl, rfl⟩) | ((with_reducible refine (fig_eq _ _ HR.out hc2 hc3 _).mono ?_); rintro e w' ⟨rfl, rfl⟩)))
        | (refine step_append_lies _ (by rfl) _ _ _ (by rfl) w.heap.size 5 i0 _ 1 1 Try.underlying22 hi0 hz0 hz1 hz2 rfl (by omega) _ (2 * k) _ (by rfl) ((hown.alloc _).drew) ⟨wr.heap.size, 0, none⟩ 2 2 [.int .u8 (fig ((s[k].toNat : Int) / 16)), .int .u8 (fig ((s[k].toNat : Int) % 16))] (by rfl) (by rfl) (World.news_of_block (cs := #[.int .u8 (fig ((s[k].toNat : Int) / 16)), .int .u8 (fig ((s[k].toNat : Int) % 16))]) (t := 5) (fr := (0, 0)) (heap_alloc_new wr _)) (by simp [Value.oneCell']) (by omega) (by unfold maxLen; omega) (by omega) (by simp; have := hbel.size; omega) (wr.heap.size + 1) (by simp) ?_; intro gg cap w1 hown1 hgrow hat hgl))
      all_goals
        have hrel1 := enc_next hlt hown1
        have hbel1 := (((hbel.alloc hbel.size _).drew).grown hgrow (by simp; have := hbel.size; omega) (fun q hq => (hown.lt q hq).1))
        clear hown hbel hown1 hgrow hat hgl
        go_wp2
        go_roundw
        case rel => exact ⟨k + 1, by omega, by go_num, hrel1, hbel1⟩
        case measure => simp [intOf]; omega
    · obtain rfl : k = s.size := by omega
      have hconv := str_own hown
      have ht : s.data.toList.take s.size = s.data.toList := List.take_of_length_le (by simp)
      rw [ht] at hconv
      clear hown ht
      go_wp2
      go_ret2
      exact ⟨rfl, hbel⟩

theorem spec_encode_long (s : ByteArray) (w : World) (hs : 20000 < s.size) (hm : s.size ≤ maxLen) :
    Calls Try.prog 11 #[.string s] w fun e w' => e = .returned (.tuple #[.string ⟨#[]⟩, .bool false]) ∧ Below w.heap.size w w' := by
  unfold maxLen at hm
  have h : (20000 : Int) < s.size := by omega
  go_enter Try.func11, Try.ntmps11
  go_wp2
  go_ret2
  exact ⟨rfl, Below.refl _ _⟩

/-- make([]byte, 0, 2*len(s)) -/
theorem make_room (s : ByteArray) (w : World) (hs : s.size ≤ 20000) : ∃ C : Array Value, C.size = 2 * s.size ∧
    (Instr.makeSlice 22 (.int .i64 0) (.int .i64 (2 * (s.size : Int)))).run Try.prog w = .ok (.slice (some ⟨w.heap.size, 0, none⟩) 0 (2 * s.size)) (w.alloc (.cells C 5)) := by
  obtain ⟨i0, hi0, hz0, hz1, hz2⟩ := info_parts info5
  have h := run_make (P := Try.prog) w 22 5 i0 _ Try.underlying22 hi0 hz0 .i64 .i64 0 (2 * (s.size : Int)) (by omega) (by omega) (by rw [hz2]; omega) (by omega)
  refine ⟨madeCells (Value.int .u8 0).cells ((2 * (s.size : Int)).toNat * i0.size), ?_, ?_⟩
  · rw [size_madeCells, hz1]; omega
  · rw [h]; congr 2

/-- The sixteen digits. -/
def digs : ByteArray := { data := #[48, 49, 50, 51, 52, 53, 54, 55, 56, 57, 97, 98, 99, 100, 101, 102] }
theorem dig_fig (n : Int) (h0 : 0 ≤ n) (h1 : n < 16) (h : n.toNat < ({ data := #[48, 49, 50, 51, 52, 53, 54, 55, 56, 57, 97, 98, 99, 100, 101, 102] } : ByteArray).size) :
    ((({ data := #[48, 49, 50, 51, 52, 53, 54, 55, 56, 57, 97, 98, 99, 100, 101, 102] } : ByteArray)[n.toNat]'h).toNat : Int) = fig n := by
  obtain ⟨k, rfl⟩ := Int.eq_ofNat_of_zero_le h0
  have hk : k < 16 := by omega
  have h16 : k = 0 ∨ k = 1 ∨ k = 2 ∨ k = 3 ∨ k = 4 ∨ k = 5 ∨ k = 6 ∨ k = 7 ∨ k = 8 ∨ k = 9 ∨ k = 10 ∨ k = 11 ∨ k = 12 ∨ k = 13 ∨ k = 14 ∨ k = 15 := by omega
  rcases h16 with rfl | rfl | rfl | rfl | rfl | rfl | rfl | rfl | rfl | rfl | rfl | rfl | rfl | rfl | rfl | rfl <;> rfl

set_option maxHeartbeats 1000000 in
theorem impl_encode (s : ByteArray) (w : World) (hs : s.size ≤ 20000) :
    Calls Try.prog 12 #[.string s] w fun e w' => e = .returned (.tuple #[.string (strOfNums (figs s.data.toList)), .bool true]) ∧ Below w.heap.size w w' := by
  obtain ⟨i0, hi0, hz0, hz1, hz2⟩ := info_parts info5
  obtain ⟨C, hC, hmk⟩ := make_room s w hs
  have hCh := Lib.hid hC
  clear hC
  go_enter Try.func12, Try.ntmps12
  go_wp2
  go_loopw [4, 15] (fun v i wr => ∃ k : Nat, k ≤ s.size ∧ i = .int .i64 k ∧ wr.ownsRow w.heap.size 5 1 v (2 * k) ((figs (s.data.toList.take k)).map (Value.int .u8)) ∧ Below w.heap.size w wr) (fun _ i _ => s.size - (intOf i).toNat)
  case atStart => exact ⟨0, Nat.zero_le _, rfl, World.ownsRow_made w C (2 * s.size) (Nat.le_refl _) (by unfold maxLen; omega) (by rw [hCh.out]; omega), (Below.refl _ _).alloc (Nat.le_refl _) _⟩
  case round =>
    obtain ⟨k, hk, rfl, hown, hbel⟩ := hrel
    by_cases hlt : k < s.size
    · have hb := s[k].toNat_lt
      have hc0 : 0 ≤ ((s[k].toNat : Int)) / 16 := by omega
      have hc1 : ((s[k].toNat : Int)) / 16 < 16 := by omega
      have hc2 : 0 ≤ ((s[k].toNat : Int)) % 16 := by omega
      have hc3 : ((s[k].toNat : Int)) % 16 < 16 := by omega
      have ha : bits BinOp.and .u8 (s[k].toNat : Int) 15 = (s[k].toNat : Int) % 16 := bits_mask .u8 8 (by decide) wraps_u8 4 (by decide) _ (by omega) (by omega)
      have hd1 := dig_fig _ hc0 hc1
      have hd2 := dig_fig _ hc2 hc3
      go_wp2
      go_region_law (refine step_append_lies _ (by rfl) _ _ _ (by rfl) w.heap.size 5 i0 _ 1 1 Try.underlying22 hi0 hz0 hz1 hz2 rfl (by omega) _ (2 * k) _ (by rfl) ((hown.alloc _).drew) ⟨wr.heap.size, 0, none⟩ 2 2 [.int .u8 (fig ((s[k].toNat : Int) / 16)), .int .u8 (fig ((s[k].toNat : Int) % 16))] (by rfl) (by rfl) (World.news_of_block (cs := #[.int .u8 (fig ((s[k].toNat : Int) / 16)), .int .u8 (fig ((s[k].toNat : Int) % 16))]) (t := 5) (fr := (0, 0)) (heap_alloc_new wr _)) (by simp [Value.oneCell']) (by omega) (by unfold maxLen; omega) (by omega) (by simp; have := hbel.size; omega) (wr.heap.size + 1) (by simp) ?_; intro gg cap w1 hown1 hgrow hat hgl)
      all_goals
        have hrel1 := enc_next hlt hown1
        have hbel1 := (((hbel.alloc hbel.size _).drew).grown hgrow (by simp; have := hbel.size; omega) (fun q hq => (hown.lt q hq).1))
        clear hown hbel hown1 hgrow hat hgl ha hd1 hd2
        go_wp2
        go_roundw
        case rel => exact ⟨k + 1, by omega, by go_num, hrel1, hbel1⟩
        case measure => simp [intOf]; omega
    · obtain rfl : k = s.size := by omega
      have hconv := str_own hown
      have ht : s.data.toList.take s.size = s.data.toList := List.take_of_length_le (by simp)
      rw [ht] at hconv
      clear hown ht
      go_wp2
      go_ret2
      exact ⟨rfl, hbel⟩

theorem impl_encode_long (s : ByteArray) (w : World) (hs : 20000 < s.size) (hm : s.size ≤ maxLen) :
    Calls Try.prog 12 #[.string s] w fun e w' => e = .returned (.tuple #[.string ⟨#[]⟩, .bool false]) ∧ Below w.heap.size w w' := by
  unfold maxLen at hm
  have h : (20000 : Int) < s.size := by omega
  go_enter Try.func12, Try.ntmps12
  go_wp2
  go_ret2
  exact ⟨rfl, Below.refl _ _⟩
end Go.Proofs.Ythemadiofegjmaa.Hex
