/-
  Texts of this seat, laid together: Mark, Turn, StK9, Cr8, Ins8, Spans
-/
import Derived.Deep.RegionHeld3
import Derived.Laws.BytesArg
import Derived.Lib.ItoaNum
import Derived.Lib.ItoaLen
import Derived.Deep.CutRange
import Derived.StillTailTactics
import Derived.Deep.QuietTactic
import Derived.BigQuiet
import Derived.IntWalk
import Derived.Deep.Cut
import Derived.Laws.MakeOwn
import Derived.Laws.Entries
import Derived.Test.YtbdjnfnphilklaaM01
import Derived.Test.YtbdjnfnphilklaaM06
import Derived.Test.YtbdjnfnphilklaaM03
namespace Go.Proofs.Ytbdjnfnphilklaa.Marking
open Go.ChangeShapes Go.WideShapes Go.ChangeAt Go.RowKit
open Kit
set_option linter.unusedVariables false
set_option linter.unusedSimpArgs false
set_option linter.unnecessarySimpa false
def rest (m : Nat) : List UInt8 := if m = 0 then [] else Lib.decDigits m
theorem rest_step (m : Nat) (h : m ≠ 0) : rest m = rest (m / 10) ++ [UInt8.ofNat (48 + m % 10)] := by
  unfold rest
  rw [if_neg h]
  by_cases h1 : m < 10
  · rw [Lib.decDigits_one h1, if_pos (by omega), Nat.mod_eq_of_lt h1]; rfl
  · rw [Lib.decDigits, dif_neg h1, if_neg (by omega)]
theorem cons_str (c : UInt8) (l : List UInt8) : (({ data := #[c] } : ByteArray) ++ ({ data := l.toArray } : ByteArray)) = { data := (c :: l).toArray } := by
  apply ByteArray.ext
  simp
theorem digits_le {N : Nat} (h1 : N < 18446744073709551616) {m : Nat} {l : List UInt8} (h : rest m ++ l = Lib.decDigits N) : l.length ≤ 20 := by
  have h2 : (rest m ++ l).length = Lib.nDigits N := by rw [h, Lib.decDigits_length]
  rw [List.length_append] at h2
  have := Lib.nDigits_le20 N h1
  omega
theorem rest_next {N m : Nat} {l : List UInt8} (hm : m ≠ 0) (h : rest m ++ l = Lib.decDigits N) : rest (m / 10) ++ (UInt8.ofNat (48 + m % 10) :: l) = Lib.decDigits N := by
  rw [← h, rest_step m hm, List.append_assoc]; rfl
theorem drewN_below {B : Nat} {a w : World} (h : Below B a w) (n : Nat) : Below B a (w.drewN n) := ⟨h.os, h.tape, h.output, h.size, h.block⟩
def mt (k : Nat) : ByteArray := ⟨(109 :: Lib.decDigits k).toArray⟩
end Go.Proofs.Ytbdjnfnphilklaa.Marking
namespace Go.Proofs.Ytbdjnfnphilklaa.Turn
open Go.ChangeShapes Go.WideShapes Go.ChangeAt Go.RowKit
open Kit Point
set_option linter.unusedVariables false
set_option linter.unusedSimpArgs false
set_option linter.unnecessarySimpa false
def tokB (q s dx dy : Int) : Bool := decide (0 ≤ q ∧ q ≤ 3) && decide (1 ≤ s ∧ s ≤ 4) && inB dx && inB dy
theorem tok_true {q s dx dy : Int} (h : tokB q s dx dy = true) : (0 ≤ q ∧ q ≤ 3) ∧ (1 ≤ s ∧ s ≤ 4) ∧ (-200 ≤ dx ∧ dx ≤ 200) ∧ (-200 ≤ dy ∧ dy ≤ 200) := by
  simp only [tokB, inB, Bool.and_eq_true, decide_eq_true_eq] at h; omega
/-! ### The image -/
def rotX (q x y : Int) : Int := if q = 0 then x else if q = 1 then -y else if q = 2 then -x else y
def rotY (q x y : Int) : Int := if q = 0 then y else if q = 1 then x else if q = 2 then -y else -x
theorem rot_in {q x y : Int} (B : Int) (h : -B ≤ x ∧ x ≤ B) (k : -B ≤ y ∧ y ≤ B) : (-B ≤ rotX q x y ∧ rotX q x y ≤ B) ∧ (-B ≤ rotY q x y ∧ rotY q x y ≤ B) := by
  unfold rotX rotY
  by_cases h0 : q = 0
  · simp only [h0, if_true]; omega
  · by_cases h1 : q = 1
    · simp [h1]; omega
    · by_cases h2 : q = 2
      · simp [h2]; omega
      · simp [h0, h1, h2]; omega
theorem rot_next {k : Nat} (x y : Int) (h : (k : Int) < 3) : rotX ((k + 1 : Nat) : Int) x y = -rotY (k : Int) x y ∧ rotY ((k + 1 : Nat) : Int) x y = rotX (k : Int) x y := by
  have : k = 0 ∨ k = 1 ∨ k = 2 := by omega
  rcases this with rfl | rfl | rfl <;> simp [rotX, rotY]
theorem rot_zero (x y : Int) : rotX ((0 : Nat) : Int) x y = x ∧ rotY ((0 : Nat) : Int) x y = y := by simp [rotX, rotY]
theorem scale_big {x s : Int} (h : -20000 ≤ x ∧ x ≤ 20000) (hs : 1 ≤ s ∧ s ≤ 4) : -80000 ≤ x * s ∧ x * s ≤ 80000 := by
  have : s = 1 ∨ s = 2 ∨ s = 3 ∨ s = 4 := by omega
  rcases this with rfl | rfl | rfl | rfl <;> omega
theorem scale_in {x s : Int} (h : -200 ≤ x ∧ x ≤ 200) (hs : 1 ≤ s ∧ s ≤ 4) : -800 ≤ x * s ∧ x * s ≤ 800 := by
  have : s = 1 ∨ s = 2 ∨ s = 3 ∨ s = 4 := by omega
  rcases this with rfl | rfl | rfl | rfl <;> omega
def imX (q s dx x y : Int) : Int := rotX q (x * s) (y * s) + dx
def imY (q s dy x y : Int) : Int := rotY q (x * s) (y * s) + dy
end Go.Proofs.Ytbdjnfnphilklaa.Turn
namespace Go.Proofs.Ytbdjnfnphilklaa.Ins
open Go.ChangeShapes Go.WideShapes Go.ChangeAt Go.RowKit
set_option linter.unusedVariables false
set_option linter.unusedSimpArgs false
set_option linter.unnecessarySimpa false
theorem region_reads {P : Program} {id : Nat} {Q : Exit → Act → World → Prop} {a : Act} {w : World} {l : List Oper} (F : World → Prop) (hm : P.follows .mixedOrders = true) (hB : Region.lexB .any l.toArray = true)
    (hF : F w.drew) (h : ∀ wd, F wd → wpStill P l.toArray wd (fun b => Q .normal b wd) l a) : (Code.region id l.toArray true).wp P Q a w :=
  wp_region_still_lit hm hB (h w.drew hF)
theorem gen_any9 {p : World → Prop} {w : World} (F : World → Prop) (hF : F w) (h : ∀ W, F W → p W) : p w := h w hF
theorem drew_on {w wr : World} (h : Below w.heap.size w wr) : Below w.heap.size w wr.drew := h.trans ⟨rfl, rfl, rfl, Nat.le_refl _, fun _ _ => rfl⟩
theorem drewN_on {w wr : World} (h : Below w.heap.size w wr) (q : Nat) : Below w.heap.size w (wr.drewN q) := h.trans ⟨rfl, rfl, rfl, Nat.le_refl _, fun _ _ => rfl⟩
end Go.Proofs.Ytbdjnfnphilklaa.Ins
namespace Go.Proofs.Ytbdjnfnphilklaa.Ins
open Go.ChangeShapes Go.WideShapes Go.ChangeAt Go.RowKit
open Kit Point
set_option linter.unusedVariables false
set_option linter.unusedSimpArgs false
set_option linter.unnecessarySimpa false
theorem mul_bd {a b A B : Int} (ha : -A ≤ a ∧ a ≤ A) (hb : -B ≤ b ∧ b ≤ B) : -(A * B) ≤ a * b ∧ a * b ≤ A * B := by
  have hA : 0 ≤ A := by omega
  have hB : 0 ≤ B := by omega
  have n1 : a.natAbs ≤ A.toNat := by omega
  have n2 : b.natAbs ≤ B.toNat := by omega
  have n3 := Nat.mul_le_mul n1 n2
  rw [← Int.natAbs_mul] at n3
  have n4 : ((A.toNat * B.toNat : Nat) : Int) = A * B := by rw [Int.natCast_mul, Int.toNat_of_nonneg hA, Int.toNat_of_nonneg hB]
  have n5 : (((a * b).natAbs : Nat) : Int) ≤ A * B := by rw [← n4]; exact_mod_cast n3
  omega
end Go.Proofs.Ytbdjnfnphilklaa.Ins
namespace Go.Proofs.Ytbdjnfnphilklaa.Ins
open Go.ChangeShapes Go.WideShapes Go.ChangeAt Go.RowKit
open Kit Point
set_option linter.unusedVariables false
set_option linter.unusedSimpArgs false
set_option linter.unnecessarySimpa false
def insK (l : List Pt) (x y : Int) (k : Nat) : Bool := odd (((sides l).take k).map fun s => crs s.1 s.2 x y)
theorem insK_zero (l : List Pt) (x y : Int) : insK l x y 0 = false := by simp [insK, odd]
theorem insK_all (l : List Pt) (x y : Int) : insK l x y l.length = insP l x y := by
  unfold insK insP; rw [List.take_of_length_le (by rw [sides_len]; omega)]
theorem getp (l : List Pt) {k : Nat} (h : k < l.length) : l[k] = (pX l k, pY l k) := by
  simp [pX, pY, List.getD, List.getElem?_eq_getElem h]
theorem insK_succ (l : List Pt) (x y : Int) {k : Nat} (h : k < l.length) :
    insK l x y (k + 1) = (insK l x y k != crs (pX l k, pY l k) (pX l ((k + 1) % l.length), pY l ((k + 1) % l.length)) x y) := by
  unfold insK
  rw [List.take_add_one, sides_get l k h, List.map_append, odd_app]
  rw [getp l h, getp l (Nat.mod_lt (k + 1) (by omega))]
  simp [odd]
theorem ptsB_at {l : List Pt} (h : ptsB l = true) {k : Nat} (hk : k < l.length) : pokB (pX l k) (pY l k) = true := by
  rw [ptsB, List.all_eq_true] at h
  have := h _ (List.getElem_mem hk)
  rwa [getp l hk] at this
end Go.Proofs.Ytbdjnfnphilklaa.Ins
namespace Go.Proofs.Ytbdjnfnphilklaa.Spans
open Go.ChangeShapes Go.WideShapes Go.ChangeAt Go.RowKit
open Kit Slabs Recs Marking
set_option linter.unusedVariables false
set_option linter.unusedSimpArgs false
set_option linter.unnecessarySimpa false
def Shape (F : Nat → List Value) (n : Nat) : Prop := ∀ i, i < n → ∃ (x0 : Int) (x1 : Int), F i = [.int .i64 x0, .int .i64 x1]
theorem cells_of {w : World} {g n : Nat} {F : Nat → List Value} (h : ∀ i, i < n → ∀ j u, (F i)[j]? = some u → w.cell? ⟨g, i * 2 + j, none⟩ = some u) {i : Nat} (hi : i < n) {x0 : Int} {x1 : Int} (e : F i = [.int .i64 x0, .int .i64 x1]) : w.cell? ⟨g, i * 2, none⟩ = some (.int .i64 x0) ∧ w.cell? ⟨g, i * 2 + 1, none⟩ = some (.int .i64 x1) := by
  have h0 := h i hi
  rw [e] at h0
  exact ⟨by simpa using h0 0 _ rfl, by simpa using h0 1 _ rfl⟩
def kl : List FK := [.int .i64, .int .i64]
theorem rec_at {w : World} {a : Option Addr} {n cap : Nat} {z : Nat → Nat → Value} (h : IsRecs kl w a n cap z) {i : Nat} (hi : i < n) : ∃ (x0 : Int) (x1 : Int), z i 0 = .int .i64 x0 ∧ z i 1 = .int .i64 x1 := by
  obtain ⟨_, _, h | ⟨g, o, _, _, h⟩⟩ := h
  · omega
  · obtain ⟨x0, e0, _⟩ := (h i hi 0 _ rfl).2
    obtain ⟨x1, e1, _⟩ := (h i hi 1 _ rfl).2
    exact ⟨x0, x1, e0, e1⟩
theorem rec_shape {w : World} {a : Option Addr} {n cap : Nat} {z : Nat → Nat → Value} (h : IsRecs kl w a n cap z) : Shape (fun i => [z i 0, z i 1]) n := by
  intro i hi
  obtain ⟨x0, x1, e0, e1⟩ := rec_at h hi
  exact ⟨x0, x1, by simp only [e0, e1]⟩
theorem rec_cells {w : World} {g o n : Nat} {z : Nat → Nat → Value} (h : ∀ i, i < n → ∀ j kd, kl[j]? = some kd → w.cell? ⟨g, o + (i * kl.length + j), none⟩ = some (z i j) ∧ kd.fits (z i j)) {i : Nat} (hi : i < n) : w.cell? ⟨g, o + i * 2, none⟩ = some (z i 0) ∧ w.cell? ⟨g, o + i * 2 + 1, none⟩ = some (z i 1) :=
  ⟨(h i hi 0 _ rfl).1, (h i hi 1 _ rfl).1⟩
theorem zero_at (n i j : Nat) (u : Value) (hi : i < n) (hu : ([.int .i64 0, .int .i64 0] : List Value)[j]? = some u) : (madeCells #[.int .i64 0, .int .i64 0] (n * 2))[i * 2 + j]? = some u := by
  have hj : j < 2 := by have := (List.getElem?_eq_some_iff.1 hu).1; simpa using this
  unfold madeCells
  rw [Array.getElem?_map, Array.getElem?_range, if_pos (by have := Nat.mul_le_mul_right 2 (show i + 1 ≤ n by omega); rw [Nat.succ_mul] at this; omega)]
  have h1 : (i * 2 + j) % 2 = j := by omega
  simp only [Option.map_some]
  have h2 : j = 0 ∨ j = 1 := by omega
  rcases h2 with rfl | rfl <;> (simp only [List.getElem?_cons_zero, List.getElem?_cons_succ, Option.some.injEq] at hu; subst hu; simp [h1] <;> (try simp at h1) <;> (try simp [h1]))
def marked (N i : Nat) : List Value := [.int .i64 ((N + i * 2 : Nat) : Int), .int .i64 ((N + i * 2 + 1 : Nat) : Int)]
end Go.Proofs.Ytbdjnfnphilklaa.Spans
