/-
  The model's and the program's FormatInt: what each call returns, and that nothing that was there has turned; condition: strconv's table of powers of ten holds its numbers.
-/
import Derived.Test.YtkkflpjpijnalaaDoorFig
import Derived.Test.YtkkflpjpijnalaaDoorShelf
import Derived.Lib.ItoaLen
import Derived.Lib.ItoaMem
import Derived.WalkSmall
namespace Go.Proofs.YtkkflpjpijnalaaDoor.Num
open Go.ChangeShapes Go.WideShapes Go.ChangeAt Go.RowKit
open Hex
set_option linter.unusedVariables false
set_option maxRecDepth 100000

theorem wf64 {n : Int} (h : (Lit.int .i64 n).wf = true) : -9223372036854775808 ≤ n ∧ n ≤ 9223372036854775807 := by
  simp only [Lit.wf, Bool.and_eq_true, decide_eq_true_eq] at h
  exact h

/-- The digits of m, none where m is 0. -/
def rest (m : Nat) : List UInt8 := if m = 0 then [] else Lib.decDigits m
theorem rest_step (m : Nat) (h : m ≠ 0) : rest m = rest (m / 10) ++ [UInt8.ofNat (48 + m % 10)] := by
  unfold rest
  rw [if_neg h]
  by_cases h1 : m < 10
  · rw [Lib.decDigits_one h1, if_pos (by omega), Nat.mod_eq_of_lt h1]; rfl
  · rw [Lib.decDigits, dif_neg h1, if_neg (by omega)]

/-- string([]byte{x}) -/
theorem one_str (w : World) (x : Int) : (convert 22 9 (.slice (some ⟨w.heap.size, 0, none⟩) 1 1)).run Tryd.prog (w.alloc (.cells #[.int .u8 x] 5)) = .ok (.string ⟨#[UInt8.ofNat x.toNat]⟩) (w.alloc (.cells #[.int .u8 x] 5)) :=
  run_convert_bytes_arg _ 22 5 Tryd.underlying22 Tryd.underlying5 w.heap.size 0 1 1 [x] rfl (fun i hi => by
    obtain rfl : i = 0 := by omega
    simp [go_sem]) 9 Tryd.underlying9

theorem cons_str (c : UInt8) (l : List UInt8) : (({ data := #[c] } : ByteArray) ++ ({ data := l.toArray } : ByteArray)) = { data := (c :: l).toArray } := by
  apply ByteArray.ext
  simp

theorem fig_byte (m : Nat) : UInt8.ofNat (fig ((m : Int) % 10)).toNat = UInt8.ofNat (48 + m % 10) := by
  rw [fig_lo (by omega)]
  congr 1

theorem digits_le {N : Nat} (h1 : (N : Int) ≤ 9223372036854775808) {m : Nat} {l : List UInt8} (h : rest m ++ l = Lib.decDigits N) : l.length ≤ 20 := by
  have h2 : (rest m ++ l).length = Lib.nDigits N := by rw [h, Lib.decDigits_length]
  rw [List.length_append] at h2
  have := Lib.nDigits_le20 N (by omega)
  omega

theorem rest_next {N m : Nat} {l : List UInt8} (hm : m ≠ 0) (h : rest m ++ l = Lib.decDigits N) : rest (m / 10) ++ (UInt8.ofNat (48 + m % 10) :: l) = Lib.decDigits N := by
  rw [← h, rest_step m hm, List.append_assoc]; rfl

set_option maxHeartbeats 1000000 in
theorem spec_format_pos (N : Nat) (w : World) (h0 : 0 < N) (h1 : (N : Int) ≤ 9223372036854775807) :
    Calls Tryd.prog 44 #[.int .i64 (N : Int)] w fun e w' => e = .returned (.string ⟨(Lib.decDigits N).toArray⟩) ∧ Below w.heap.size w w' := by
  have hne : ((N : Int) == 0) = false := by simp; omega
  have hlt : decide ((N : Int) < 0) = false := by simp
  go_enter Tryd.func44, Tryd.ntmps44
  go_wp2
  go_loopw [0, 4, 5] (fun v s d wr => ∃ (m : Nat) (l : List UInt8), v = .int .i64 (m : Int) ∧ m ≤ N ∧ s = .string ⟨l.toArray⟩ ∧ rest m ++ l = Lib.decDigits N ∧ Below w.heap.size w wr) (fun v _ _ _ => (intOf v).toNat)
  case atStart => exact ⟨N, [], rfl, Nat.le_refl _, rfl, by simp [rest]; omega, Below.refl _ _⟩
  case round =>
    obtain ⟨m, l, rfl, hm, rfl, hl, hbel⟩ := hrel
    have hll := digits_le (by omega) hl
    have HL := Lib.hid hl
    clear hl
    by_cases hz : m = 0
    · subst hz
      go_wp2
      go_ret
      refine ⟨?_, hbel⟩
      have := HL.out
      simp only [rest, if_pos, List.nil_append] at this
      rw [← this]
      rfl
    · have hnz : ((m : Int) != 0) = true := by simp; omega
      have hd0 : 0 ≤ (m : Int) % 10 := by omega
      have hd1 : (m : Int) % 10 ≤ 9 := by omega
      have hsz := hbel.size
      have hcv := one_str wr (fig ((m : Int) % 10))
      have hlen : ¬ (9223372036854775807 < 1 + l.length) := by omega
      go_wp2_with (go_at_call 50; refine (fig_any _ (by omega) (by omega) _).mono ?_; rintro e w' ⟨rfl, rfl⟩)
      refine ⟨⟨m / 10, UInt8.ofNat (48 + m % 10) :: l, by simp, by omega, ?_, rest_next hz HL.out, hbel.alloc hsz _⟩, by simp [intOf]; omega⟩
      rw [cons_str, fig_byte]

set_option maxHeartbeats 1000000 in
theorem spec_format_neg (N : Nat) (w : World) (h0 : 0 < N) (h1 : (N : Int) ≤ 9223372036854775808) :
    Calls Tryd.prog 44 #[.int .i64 (-(N : Int))] w fun e w' => e = .returned (.string ⟨(45 :: Lib.decDigits N).toArray⟩) ∧ Below w.heap.size w w' := by
  have hne : ((-(N : Int)) == 0) = false := by simp; omega
  have hlt : decide (-(N : Int) < 0) = true := by simp; omega
  go_enter Tryd.func44, Tryd.ntmps44
  go_wp2
  go_loopw [0, 4, 5] (fun v s d wr => ∃ (m : Nat) (l : List UInt8), v = .int .i64 (-(m : Int)) ∧ m ≤ N ∧ s = .string ⟨l.toArray⟩ ∧ rest m ++ l = Lib.decDigits N ∧ Below w.heap.size w wr) (fun v _ _ _ => (- intOf v).toNat)
  case atStart => exact ⟨N, [], rfl, Nat.le_refl _, rfl, by simp [rest]; omega, Below.refl _ _⟩
  case round =>
    obtain ⟨m, l, rfl, hm, rfl, hl, hbel⟩ := hrel
    have hll := digits_le h1 hl
    have HL := Lib.hid hl
    clear hl
    by_cases hz : m = 0
    · subst hz
      have hlen : ¬ (9223372036854775807 < 1 + l.length) := by omega
      go_wp2
      go_ret
      refine ⟨?_, hbel⟩
      have := HL.out
      simp only [rest, if_pos, List.nil_append] at this
      rw [← this]
      simp [cons_str]
    · have hnz : ((-(m : Int)) != 0) = true := by simp; omega
      have hd0 : 0 ≤ (m : Int) % 10 := by omega
      have hd1 : (m : Int) % 10 ≤ 9 := by omega
      have hsz := hbel.size
      have hlen : ¬ (9223372036854775807 < 1 + l.length) := by omega
      have hq : (-(m : Int)).tdiv 10 = -((m : Int) / 10) := by rw [Int.neg_tdiv, Int.tdiv_eq_ediv_of_nonneg (by omega)]
      by_cases hc : (m : Int) % 10 = 0
      · have hcn : m % 10 = 0 := by omega
        have hcv := one_str wr (fig 0)
        have ht : (-(m : Int)).tmod 10 = 0 := by rw [Int.neg_tmod, Int.tmod_eq_emod_of_nonneg (by omega), hc]; rfl
        have HC := Lib.hid hcn
        clear hc hcn hd0 hd1
        go_wp2_with (go_at_call 50; refine (fig_any _ (by omega) (by omega) _).mono ?_; rintro e w' ⟨rfl, rfl⟩)
        refine ⟨⟨m / 10, UInt8.ofNat (48 + m % 10) :: l, by simp, by omega, ?_, rest_next hz HL.out, hbel.alloc hsz _⟩, by simp [intOf]; omega⟩
        rw [cons_str, HC.out]
        rfl
      · have hcv := one_str wr (fig ((m : Int) % 10))
        have ht : (-(m : Int)).tmod 10 = -((m : Int) % 10) := by rw [Int.neg_tmod, Int.tmod_eq_emod_of_nonneg (by omega)]
        have hneg : decide (-((m : Int) % 10) < 0) = true := by simp; omega
        go_wp2_with (go_at_call 50; refine (fig_any _ (by omega) (by omega) _).mono ?_; rintro e w' ⟨rfl, rfl⟩)
        refine ⟨⟨m / 10, UInt8.ofNat (48 + m % 10) :: l, by simp, by omega, ?_, rest_next hz HL.out, hbel.alloc hsz _⟩, by simp [intOf]; omega⟩
        rw [cons_str, fig_byte]

theorem spec_format_zero (w : World) :
    Calls Tryd.prog 44 #[.int .i64 0] w fun e w' => e = .returned (.string ⟨#[48]⟩) ∧ Below w.heap.size w w' := by
  go_enter Tryd.func44, Tryd.ntmps44
  go_wp2
  go_ret
  exact ⟨rfl, Below.refl _ _⟩

/-- FormatInt's text of n. -/
def txt (n : Int) : ByteArray := ⟨(Lib.itoa n).toArray⟩

theorem spec_format (n : Int) (w : World) (h0 : -9223372036854775808 ≤ n) (h1 : n ≤ 9223372036854775807) :
    Calls Tryd.prog 44 #[.int .i64 n] w fun e w' => e = .returned (.string (txt n)) ∧ Below w.heap.size w w' := by
  unfold txt
  rcases Int.lt_trichotomy n 0 with h | rfl | h
  · obtain ⟨u, rfl⟩ : ∃ u : Nat, n = -(u : Int) := ⟨n.natAbs, by omega⟩
    rw [Lib.itoa_neg u (by omega)]
    exact spec_format_neg u w (by omega) (by omega)
  · refine (spec_format_zero w).mono fun e w' ⟨he, hb⟩ => ⟨?_, hb⟩
    rw [he, show (0 : Int) = ((0 : Nat) : Int) from rfl, Lib.itoa_nonneg, Lib.decDigits_one (by omega)]
    rfl
  · obtain ⟨u, rfl⟩ : ∃ u : Nat, n = u := ⟨n.toNat, by omega⟩
    rw [Lib.itoa_nonneg]
    exact spec_format_pos u w (by omega) h1

/-- strconv's table holds its numbers. -/
def Tab (w : World) : Prop := Lib.TabIs Tryd.prog w "internal/strconv.uint64pow10" .u64 Lib.pow10Tab

theorem tab_below {w w' : World} (h : Tab w) (hb : Below w.heap.size w w') : Tab w' := by
  have hlt : 2 < w.heap.size := World.block_lt_of_cell? w ⟨2, 0, none⟩ (h.cell (by kernel_rfl) 0 (by decide))
  exact var?_below hb (by kernel_rfl : Tryd.prog.globalNamed "internal/strconv.uint64pow10" = some 2) hlt h

theorem below_grow (w : World) (k : Nat) (os : Array Obj) : Below w.heap.size w (Sort.grow (w.drewN k) os) :=
  ⟨rfl, rfl, rfl, by simp [Sort.grow], fun i hi => by
    show ((w.drewN k).heap ++ os)[i]? = w.heap[i]?
    rw [Array.getElem?_append_left (by simpa using hi)]; rfl⟩

theorem impl_format (n : Int) (w : World) (h0 : -9223372036854775808 ≤ n) (h1 : n ≤ 9223372036854775807) (ht : Tab w) :
    Calls Tryd.prog 39 #[.int .i64 n] w fun e w' => e = .returned (.string (txt n)) ∧ Below w.heap.size w w' := by
  have HT := Lib.hid ht
  clear ht
  go_enter Tryd.func39, Tryd.ntmps39
  go_wp2_with (go_at_call 46; refine (Tryd.strconv_Itoa n h0 h1 _ HT.out).mono ?_; rintro e w' ⟨rfl, k, os, rfl⟩)
  go_ret
  exact ⟨rfl, below_grow _ _ _⟩

end Go.Proofs.YtkkflpjpijnalaaDoor.Num
