/-
  Texts of this seat, laid together: Mark, StK9, Cr8, Ins8, PsI8, Spans, Shelf7
-/
import Derived.Deep.RegionHeld3
import Derived.Laws.BytesArg
import Derived.Lib.ItoaNum
import Derived.Lib.ItoaLen
import Derived.StillTailTactics
import Derived.Deep.QuietTactic
import Derived.BigQuiet
import Derived.IntWalk
import Derived.Deep.Cut
import Derived.Laws.MakeOwn
import Derived.Laws.Entries
import Derived.Shelf.LaysM
import Derived.Shelf.Strconv.Clone
import Derived.Shelf.Bits.Mul64
import Derived.Test.YtkabofbbioaapaaProg
import Derived.Test.YtkabofbbioaapaaP01
import Derived.Test.YtkabofbbioaapaaP02
import Derived.Test.YtkabofbbioaapaaP03
import Derived.Test.YtkabofbbioaapaaP08
namespace Go.Proofs.Ytkabofbbioaapaa.Marking
open Go.ChangeShapes Go.WideShapes Go.ChangeAt Go.RowKit
open Kit
set_option linter.unusedVariables false
set_option linter.unusedSimpArgs false
set_option linter.unnecessarySimpa false
def rest (m : Nat) : List UInt8 := if m = 0 then [] else Lib.decDigits m
theorem rest_step (m : Nat) (h : m ≠ 0) : rest m = rest (m / 10) ++ [UInt8.ofNat (48 + m % 10)] := by
  unfold rest
  rw [if_neg h]
  by_cases h1 : m < 10
  · rw [Lib.decDigits_one h1, if_pos (by omega), Nat.mod_eq_of_lt h1]; rfl
  · rw [Lib.decDigits, dif_neg h1, if_neg (by omega)]
theorem cons_str (c : UInt8) (l : List UInt8) : (({ data := #[c] } : ByteArray) ++ ({ data := l.toArray } : ByteArray)) = { data := (c :: l).toArray } := by
  apply ByteArray.ext
  simp
theorem digits_le {N : Nat} (h1 : N < 18446744073709551616) {m : Nat} {l : List UInt8} (h : rest m ++ l = Lib.decDigits N) : l.length ≤ 20 := by
  have h2 : (rest m ++ l).length = Lib.nDigits N := by rw [h, Lib.decDigits_length]
  rw [List.length_append] at h2
  have := Lib.nDigits_le20 N h1
  omega
theorem rest_next {N m : Nat} {l : List UInt8} (hm : m ≠ 0) (h : rest m ++ l = Lib.decDigits N) : rest (m / 10) ++ (UInt8.ofNat (48 + m % 10) :: l) = Lib.decDigits N := by
  rw [← h, rest_step m hm, List.append_assoc]; rfl
theorem drewN_below {B : Nat} {a w : World} (h : Below B a w) (n : Nat) : Below B a (w.drewN n) := ⟨h.os, h.tape, h.output, h.size, h.block⟩
def mt (k : Nat) : ByteArray := ⟨(109 :: Lib.decDigits k).toArray⟩
end Go.Proofs.Ytkabofbbioaapaa.Marking
namespace Go.Proofs.Ytkabofbbioaapaa.Ins
open Go.ChangeShapes Go.WideShapes Go.ChangeAt Go.RowKit
set_option linter.unusedVariables false
set_option linter.unusedSimpArgs false
set_option linter.unnecessarySimpa false
theorem region_reads {P : Program} {id : Nat} {Q : Exit → Act → World → Prop} {a : Act} {w : World} {l : List Oper} (F : World → Prop) (hm : P.follows .mixedOrders = true) (hB : Region.lexB .any l.toArray = true)
    (hF : F w.drew) (h : ∀ wd, F wd → wpStill P l.toArray wd (fun b => Q .normal b wd) l a) : (Code.region id l.toArray true).wp P Q a w :=
  wp_region_still_lit hm hB (h w.drew hF)
theorem gen_any9 {p : World → Prop} {w : World} (F : World → Prop) (hF : F w) (h : ∀ W, F W → p W) : p w := h w hF
theorem drew_on {w wr : World} (h : Below w.heap.size w wr) : Below w.heap.size w wr.drew := h.trans ⟨rfl, rfl, rfl, Nat.le_refl _, fun _ _ => rfl⟩
theorem drewN_on {w wr : World} (h : Below w.heap.size w wr) (q : Nat) : Below w.heap.size w (wr.drewN q) := h.trans ⟨rfl, rfl, rfl, Nat.le_refl _, fun _ _ => rfl⟩
end Go.Proofs.Ytkabofbbioaapaa.Ins
namespace Go.Proofs.Ytkabofbbioaapaa.Ins
open Go.ChangeShapes Go.WideShapes Go.ChangeAt Go.RowKit
open Kit Point
set_option linter.unusedVariables false
set_option linter.unusedSimpArgs false
set_option linter.unnecessarySimpa false
theorem mul_bd {a b A B : Int} (ha : -A ≤ a ∧ a ≤ A) (hb : -B ≤ b ∧ b ≤ B) : -(A * B) ≤ a * b ∧ a * b ≤ A * B := by
  have hA : 0 ≤ A := by omega
  have hB : 0 ≤ B := by omega
  have n1 : a.natAbs ≤ A.toNat := by omega
  have n2 : b.natAbs ≤ B.toNat := by omega
  have n3 := Nat.mul_le_mul n1 n2
  rw [← Int.natAbs_mul] at n3
  have n4 : ((A.toNat * B.toNat : Nat) : Int) = A * B := by rw [Int.natCast_mul, Int.toNat_of_nonneg hA, Int.toNat_of_nonneg hB]
  have n5 : (((a * b).natAbs : Nat) : Int) ≤ A * B := by rw [← n4]; exact_mod_cast n3
  omega
end Go.Proofs.Ytkabofbbioaapaa.Ins
namespace Go.Proofs.Ytkabofbbioaapaa.Ins
open Go.ChangeShapes Go.WideShapes Go.ChangeAt Go.RowKit
open Kit Point
set_option linter.unusedVariables false
set_option linter.unusedSimpArgs false
set_option linter.unnecessarySimpa false
def insK (l : List Pt) (x y : Int) (k : Nat) : Bool := odd (((sides l).take k).map fun s => crs s.1 s.2 x y)
theorem insK_zero (l : List Pt) (x y : Int) : insK l x y 0 = false := by simp [insK, odd]
theorem insK_all (l : List Pt) (x y : Int) : insK l x y l.length = insP l x y := by
  unfold insK insP; rw [List.take_of_length_le (by rw [sides_len]; omega)]
theorem getp (l : List Pt) {k : Nat} (h : k < l.length) : l[k] = (pX l k, pY l k) := by
  simp [pX, pY, List.getD, List.getElem?_eq_getElem h]
theorem insK_succ (l : List Pt) (x y : Int) {k : Nat} (h : k < l.length) :
    insK l x y (k + 1) = (insK l x y k != crs (pX l k, pY l k) (pX l ((k + 1) % l.length), pY l ((k + 1) % l.length)) x y) := by
  unfold insK
  rw [List.take_add_one, sides_get l k h, List.map_append, odd_app]
  rw [getp l h, getp l (Nat.mod_lt (k + 1) (by omega))]
  simp [odd]
theorem ptsB_at {l : List Pt} (h : ptsB l = true) {k : Nat} (hk : k < l.length) : pokB (pX l k) (pY l k) = true := by
  rw [ptsB, List.all_eq_true] at h
  have := h _ (List.getElem_mem hk)
  rwa [getp l hk] at this
end Go.Proofs.Ytkabofbbioaapaa.Ins
namespace Go.Proofs.Ytkabofbbioaapaa.Ins
open Go.ChangeShapes Go.WideShapes Go.ChangeAt Go.RowKit
open Kit Point
set_option linter.unusedVariables false
set_option linter.unusedSimpArgs false
set_option linter.unnecessarySimpa false
def byd (lx ly hx hy x y : Int) : Int := (2 * (lx - x) - 1) * (hy - ly) + (2 * (y - ly) + 1) * (hx - lx)
def psL (lx ly hx hy x y : Int) : Int := if y < ly ∨ hy ≤ y then 0 else if 0 < byd lx ly hx hy x y then 2 else 1
def psV (ax ay bx b1 x y : Int) : Int := if b1 < ay then psL bx b1 ax ay x y else psL ax ay bx b1 x y
theorem byd_lt (lx ly hx hy x y : Int) : 0 < byd lx ly hx hy x y ↔ (2 * x + 1 - 2 * lx) * 2 * (hy - ly) < (2 * y + 1 - 2 * ly) * 2 * (hx - lx) := by
  unfold byd
  have e1 : (2 * x + 1 - 2 * lx) * 2 * (hy - ly) = -(2 * ((2 * (lx - x) - 1) * (hy - ly))) := by
    rw [show (2 * x + 1 - 2 * lx) * 2 = -(2 * (2 * (lx - x) - 1)) by omega, Int.neg_mul, Int.mul_assoc]
  have e2 : (2 * y + 1 - 2 * ly) * 2 * (hx - lx) = 2 * ((2 * (y - ly) + 1) * (hx - lx)) := by
    rw [show (2 * y + 1 - 2 * ly) * 2 = 2 * (2 * (y - ly) + 1) by omega, Int.mul_assoc]
  rw [e1, e2]; omega
theorem psL_two (lx ly hx hy x y : Int) : psL lx ly hx hy x y = 2 ↔ ly ≤ y ∧ y < hy ∧ 0 < byd lx ly hx hy x y := by
  unfold psL
  by_cases h : y < ly ∨ hy ≤ y
  · rw [if_pos h]; omega
  · rw [if_neg h]; by_cases h2 : 0 < byd lx ly hx hy x y
    · rw [if_pos h2]; omega
    · rw [if_neg h2]; omega
theorem ps_crs (ax ay bx b1 x y : Int) : decide (psV ax ay bx b1 x y = 2) = crs (ax, ay) (bx, b1) x y := by
  unfold psV crs
  by_cases hl : b1 < ay
  · rw [if_pos hl]
    simp only [psL_two, byd_lt]
    by_cases h : (decide (2 * y + 1 < 2 * ay) == decide (2 * y + 1 < 2 * b1)) = true
    · rw [if_pos h, decide_eq_false_iff_not]; simp only [beq_iff_eq, decide_eq_decide] at h; omega
    · rw [if_neg h, if_pos hl, decide_eq_decide]; simp only [beq_iff_eq, decide_eq_decide] at h
      refine ⟨fun k => k.2.2, fun k => ⟨by omega, by omega, k⟩⟩
  · rw [if_neg hl]
    simp only [psL_two, byd_lt]
    by_cases h : (decide (2 * y + 1 < 2 * ay) == decide (2 * y + 1 < 2 * b1)) = true
    · rw [if_pos h, decide_eq_false_iff_not]; simp only [beq_iff_eq, decide_eq_decide] at h; omega
    · rw [if_neg h, if_neg hl, decide_eq_decide]; simp only [beq_iff_eq, decide_eq_decide] at h
      refine ⟨fun k => k.2.2, fun k => ⟨by omega, by omega, k⟩⟩
set_option maxHeartbeats 1000000 in
theorem ps_impl (ax ay bx b1 x y : Int) (w : World) (ha : pokB ax ay = true) (hb : pokB bx b1 = true) (hx : inB x = true) (hy : inB y = true) :
    Calls Try.prog 104 #[.agg #[.int .i64 ax, .int .i64 ay, .int .i64 bx, .int .i64 b1], .int .i64 x, .int .i64 y] w fun e w' => e = .returned (.int .i64 (psV ax ay bx b1 x y)) ∧ Below w.heap.size w w' := by
  simp only [pokB, Bool.and_eq_true] at ha hb
  obtain ⟨a0, a1⟩ := ha
  obtain ⟨c0, c1⟩ := hb
  have a2 := inB_true a0; have a3 := inB_true a1; have c2 := inB_true c0; have c3 := inB_true c1; have x2 := inB_true hx; have y2 := inB_true hy
  clear a0 a1 c0 c1 hx hy
  by_cases hl : b1 < ay
  · have HV : psV ax ay bx b1 x y = psL bx b1 ax ay x y := by simp [psV, hl]
    rw [HV]
    clear HV
    obtain ⟨m0, m1⟩ := @mul_bd (2 * (bx - x) - 1) (ay - b1) 802 400 (by omega) (by omega)
    obtain ⟨m2, m3⟩ := @mul_bd (2 * (y - b1) + 1) (ax - bx) 802 400 (by omega) (by omega)
    rcases (show y < b1 ∨ (b1 ≤ y ∧ ay ≤ y) ∨ (b1 ≤ y ∧ y < ay) by omega) with h | ⟨h, h2⟩ | ⟨h, h2⟩
    · rw [show psL bx b1 ax ay x y = 0 by simp [psL, h]]
      go_enter Try.func104, Try.ntmps104
      go_upto_region 1 with (fail)
      go_region
      all_goals
        go_wp2
        go_ret
        exact ⟨rfl, by go_grown⟩
    · rw [show psL bx b1 ax ay x y = 0 by simp [psL, h2]]
      go_enter Try.func104, Try.ntmps104
      go_upto_region 1 with (fail)
      go_region
      all_goals
        go_wp2
        go_ret
        exact ⟨rfl, by go_grown⟩
    · have HL : psL bx b1 ax ay x y = if 0 < byd bx b1 ax ay x y then 2 else 1 := by
        unfold psL; rw [if_neg (by omega)]
      rw [HL]; clear HL
      by_cases hz : 0 < byd bx b1 ax ay x y
      · rw [if_pos hz]; unfold byd at hz
        go_enter Try.func104, Try.ntmps104
        go_upto_region 1 with (fail)
        go_region
        all_goals
          go_wp2
          go_ret
          exact ⟨rfl, by go_grown⟩
      · rw [if_neg hz]; unfold byd at hz
        go_enter Try.func104, Try.ntmps104
        go_upto_region 1 with (fail)
        go_region
        all_goals
          go_wp2
          go_ret
          exact ⟨rfl, by go_grown⟩
  · have HV : psV ax ay bx b1 x y = psL ax ay bx b1 x y := by simp [psV, hl]
    have hl : ay ≤ b1 := by omega
    rw [HV]
    clear HV
    obtain ⟨m0, m1⟩ := @mul_bd (2 * (ax - x) - 1) (b1 - ay) 802 400 (by omega) (by omega)
    obtain ⟨m2, m3⟩ := @mul_bd (2 * (y - ay) + 1) (bx - ax) 802 400 (by omega) (by omega)
    rcases (show y < ay ∨ (ay ≤ y ∧ b1 ≤ y) ∨ (ay ≤ y ∧ y < b1) by omega) with h | ⟨h, h2⟩ | ⟨h, h2⟩
    · rw [show psL ax ay bx b1 x y = 0 by simp [psL, h]]
      go_enter Try.func104, Try.ntmps104
      go_upto_region 1 with (fail)
      go_region
      all_goals
        go_wp2
        go_ret
        exact ⟨rfl, by go_grown⟩
    · rw [show psL ax ay bx b1 x y = 0 by simp [psL, h2]]
      go_enter Try.func104, Try.ntmps104
      go_upto_region 1 with (fail)
      go_region
      all_goals
        go_wp2
        go_ret
        exact ⟨rfl, by go_grown⟩
    · have HL : psL ax ay bx b1 x y = if 0 < byd ax ay bx b1 x y then 2 else 1 := by
        unfold psL; rw [if_neg (by omega)]
      rw [HL]; clear HL
      by_cases hz : 0 < byd ax ay bx b1 x y
      · rw [if_pos hz]; unfold byd at hz
        go_enter Try.func104, Try.ntmps104
        go_upto_region 1 with (fail)
        go_region
        all_goals
          go_wp2
          go_ret
          exact ⟨rfl, by go_grown⟩
      · rw [if_neg hz]; unfold byd at hz
        go_enter Try.func104, Try.ntmps104
        go_upto_region 1 with (fail)
        go_region
        all_goals
          go_wp2
          go_ret
          exact ⟨rfl, by go_grown⟩
end Go.Proofs.Ytkabofbbioaapaa.Ins
namespace Go.Proofs.Ytkabofbbioaapaa.Spans
open Go.ChangeShapes Go.WideShapes Go.ChangeAt Go.RowKit
open Kit Slabs Recs Marking
set_option linter.unusedVariables false
set_option linter.unusedSimpArgs false
set_option linter.unnecessarySimpa false
def Shape (F : Nat → List Value) (n : Nat) : Prop := ∀ i, i < n → ∃ (x0 : Int) (x1 : Int), F i = [.int .i64 x0, .int .i64 x1]
theorem cells_of {w : World} {g n : Nat} {F : Nat → List Value} (h : ∀ i, i < n → ∀ j u, (F i)[j]? = some u → w.cell? ⟨g, i * 2 + j, none⟩ = some u) {i : Nat} (hi : i < n) {x0 : Int} {x1 : Int} (e : F i = [.int .i64 x0, .int .i64 x1]) : w.cell? ⟨g, i * 2, none⟩ = some (.int .i64 x0) ∧ w.cell? ⟨g, i * 2 + 1, none⟩ = some (.int .i64 x1) := by
  have h0 := h i hi
  rw [e] at h0
  exact ⟨by simpa using h0 0 _ rfl, by simpa using h0 1 _ rfl⟩
def kl : List FK := [.int .i64, .int .i64]
theorem rec_at {w : World} {a : Option Addr} {n cap : Nat} {z : Nat → Nat → Value} (h : IsRecs kl w a n cap z) {i : Nat} (hi : i < n) : ∃ (x0 : Int) (x1 : Int), z i 0 = .int .i64 x0 ∧ z i 1 = .int .i64 x1 := by
  obtain ⟨_, _, h | ⟨g, o, _, _, h⟩⟩ := h
  · omega
  · obtain ⟨x0, e0, _⟩ := (h i hi 0 _ rfl).2
    obtain ⟨x1, e1, _⟩ := (h i hi 1 _ rfl).2
    exact ⟨x0, x1, e0, e1⟩
theorem rec_shape {w : World} {a : Option Addr} {n cap : Nat} {z : Nat → Nat → Value} (h : IsRecs kl w a n cap z) : Shape (fun i => [z i 0, z i 1]) n := by
  intro i hi
  obtain ⟨x0, x1, e0, e1⟩ := rec_at h hi
  exact ⟨x0, x1, by simp only [e0, e1]⟩
theorem rec_cells {w : World} {g o n : Nat} {z : Nat → Nat → Value} (h : ∀ i, i < n → ∀ j kd, kl[j]? = some kd → w.cell? ⟨g, o + (i * kl.length + j), none⟩ = some (z i j) ∧ kd.fits (z i j)) {i : Nat} (hi : i < n) : w.cell? ⟨g, o + i * 2, none⟩ = some (z i 0) ∧ w.cell? ⟨g, o + i * 2 + 1, none⟩ = some (z i 1) :=
  ⟨(h i hi 0 _ rfl).1, (h i hi 1 _ rfl).1⟩
theorem zero_at (n i j : Nat) (u : Value) (hi : i < n) (hu : ([.int .i64 0, .int .i64 0] : List Value)[j]? = some u) : (madeCells #[.int .i64 0, .int .i64 0] (n * 2))[i * 2 + j]? = some u := by
  have hj : j < 2 := by have := (List.getElem?_eq_some_iff.1 hu).1; simpa using this
  unfold madeCells
  rw [Array.getElem?_map, Array.getElem?_range, if_pos (by have := Nat.mul_le_mul_right 2 (show i + 1 ≤ n by omega); rw [Nat.succ_mul] at this; omega)]
  have h1 : (i * 2 + j) % 2 = j := by omega
  simp only [Option.map_some]
  have h2 : j = 0 ∨ j = 1 := by omega
  rcases h2 with rfl | rfl <;> (simp only [List.getElem?_cons_zero, List.getElem?_cons_succ, Option.some.injEq] at hu; subst hu; simp [h1] <;> (try simp at h1) <;> (try simp [h1]))
def marked (N i : Nat) : List Value := [.int .i64 ((N + i * 2 : Nat) : Int), .int .i64 ((N + i * 2 + 1 : Nat) : Int)]
end Go.Proofs.Ytkabofbbioaapaa.Spans
namespace Go.Proofs
open Go.Shelf
def Try.lays264_ren : Go.Shelf.Ren := ⟨fun | 264 => 94 | n => n, fun | 53 => 117 | 46 => 108 | n => n, fun | n => n⟩
theorem Try.lays264 : Go.Proofs.Lays.n264 Try.prog Try.lays264_ren := {
  mixed := by kernel_rfl
  f264 := Try.func94.trans (congrArg some (by kernel_rfl))
  t46 := Try.underlying108
  a46 := Try.isAgg108
  z46 := Try.sizeOf108
  v46 := Try.zeroValue108
  t53 := Try.underlying117
  a53 := Try.isAgg117
  z53 := Try.sizeOf117
  v53 := Try.zeroValue117 }
open Go.RowKit Go.Lib in
theorem Try.bits_Mul64 (x y : Nat) (hx : x < 18446744073709551616) (hy : y < 18446744073709551616) (w : World) :
    Calls Try.prog 94 #[.int .u64 x, .int .u64 y] w fun e w' => e = .returned (.tuple #[.int .u64 ((x * y / 18446744073709551616 : Nat) : Int), .int .u64 ((x * y % 18446744073709551616 : Nat) : Int)]) ∧ w' = w := Any.bits_Mul64 Try.lays264 x y hx hy w
def Try.lays212_ren : Go.Shelf.Ren := ⟨fun | 212 => 82 | 263 => 93 | 264 => 94 | n => n, fun | 46 => 108 | 51 => 114 | 146 => 115 | 53 => 117 | 148 => 118 | n => n, fun | n => n⟩
theorem Try.lays212 : Go.Proofs.Lays.n212 Try.prog Try.lays212_ren := {
  mixed := by kernel_rfl
  f212 := Try.func82.trans (congrArg some (by kernel_rfl))
  f263 := Try.func93.trans (congrArg some (by kernel_rfl))
  f264 := Try.func94.trans (congrArg some (by kernel_rfl))
  t46 := Try.underlying108
  a46 := Try.isAgg108
  z46 := Try.sizeOf108
  v46 := Try.zeroValue108
  t51 := Try.underlying114
  a51 := Try.isAgg114
  z51 := Try.sizeOf114
  v51 := Try.zeroValue114
  t53 := Try.underlying117
  a53 := Try.isAgg117
  z53 := Try.sizeOf117
  v53 := Try.zeroValue117
  t146 := Try.underlying115
  a146 := Try.isAgg115
  z146 := Try.sizeOf115
  v146 := Try.zeroValue115
  t148 := Try.underlying118
  a148 := Try.isAgg118
  z148 := Try.sizeOf118
  v148 := Try.zeroValue118 }
open Go.RowKit Go.Lib in
theorem Try.bits_Mul (x y : Nat) (hx : x < 18446744073709551616) (hy : y < 18446744073709551616) (w : World) :
    Calls Try.prog 82 #[.int .u64 x, .int .u64 y] w fun e w' => e = .returned (.tuple #[.int .u64 ((x * y / 18446744073709551616 : Nat) : Int), .int .u64 ((x * y % 18446744073709551616 : Nat) : Int)]) ∧ w' = w := Any.bits_Mul Try.lays212 x y hx hy w
end Go.Proofs
