/-
  The laws' helpers on slices of the type Token: what each call returns and leaves.
-/
import Derived.Test.YtkkflpjpijnalaaSlab
import Derived.Test.YtkkflpjpijnalaaRecs
import Derived.Test.YtkkflpjpijnalaaMark
import Derived.Laws.MakeOwn
import Derived.Laws.Entries
import Derived.Deep.RegionHeld3
namespace Go.Proofs.Ytkkflpjpijnalaa.Tokens
open Go.ChangeShapes Go.WideShapes Go.ChangeAt Go.RowKit
open Kit Slabs Recs Marking
set_option linter.unusedVariables false
set_option linter.unusedSimpArgs false
set_option linter.unnecessarySimpa false

theorem to_any (x0 : ByteArray) (x1 : Int) (w : World) : Calls Try.prog 9 #[.agg #[.string x0, .int .i64 x1]] w fun e w' => e = .returned (.agg #[.string x0, .int .i64 x1]) ∧ Below w.heap.size w w' := by
  go_enter Try.func9, Try.ntmps9
  go_wp2
  go_returns
  exact ⟨rfl, by go_grown⟩


/-- The first n elements are such structs. -/
def Shape (F : Nat → List Value) (n : Nat) : Prop := ∀ i, i < n → ∃ (x0 : ByteArray) (x1 : Int), F i = [.string x0, .int .i64 x1]

theorem cells_of {w : World} {g n : Nat} {F : Nat → List Value} (h : ∀ i, i < n → ∀ j u, (F i)[j]? = some u → w.cell? ⟨g, i * 2 + j, none⟩ = some u) {i : Nat} (hi : i < n) {x0 : ByteArray} {x1 : Int} (e : F i = [.string x0, .int .i64 x1]) : w.cell? ⟨g, i * 2, none⟩ = some (.string x0) ∧ w.cell? ⟨g, i * 2 + 1, none⟩ = some (.int .i64 x1) := by
  have h0 := h i hi
  rw [e] at h0
  exact ⟨by simpa using h0 0 _ rfl, by simpa using h0 1 _ rfl⟩


def kl : List FK := [.string, .int .i64]

/-- What a struct that came in holds. -/
theorem rec_at {w : World} {a : Option Addr} {n cap : Nat} {z : Nat → Nat → Value} (h : IsRecs kl w a n cap z) {i : Nat} (hi : i < n) : ∃ (x0 : ByteArray) (x1 : Int), z i 0 = .string x0 ∧ z i 1 = .int .i64 x1 := by
  obtain ⟨_, _, h | ⟨g, o, _, _, h⟩⟩ := h
  · omega
  · obtain ⟨x0, e0, _⟩ := (h i hi 0 _ rfl).2
    obtain ⟨x1, e1, _⟩ := (h i hi 1 _ rfl).2
    exact ⟨x0, x1, e0, e1⟩

theorem rec_shape {w : World} {a : Option Addr} {n cap : Nat} {z : Nat → Nat → Value} (h : IsRecs kl w a n cap z) : Shape (fun i => [z i 0, z i 1]) n := by
  intro i hi
  obtain ⟨x0, x1, e0, e1⟩ := rec_at h hi
  exact ⟨x0, x1, by simp only [e0, e1]⟩

theorem rec_cells {w : World} {g o n : Nat} {z : Nat → Nat → Value} (h : ∀ i, i < n → ∀ j kd, kl[j]? = some kd → w.cell? ⟨g, o + (i * kl.length + j), none⟩ = some (z i j) ∧ kd.fits (z i j)) {i : Nat} (hi : i < n) : w.cell? ⟨g, o + i * 2, none⟩ = some (z i 0) ∧ w.cell? ⟨g, o + i * 2 + 1, none⟩ = some (z i 1) :=
  ⟨(h i hi 0 _ rfl).1, (h i hi 1 _ rfl).1⟩

theorem zero_at (n i j : Nat) (u : Value) (hi : i < n) (hu : ([.string ByteArray.empty, .int .i64 0] : List Value)[j]? = some u) : (madeCells #[.string ByteArray.empty, .int .i64 0] (n * 2))[i * 2 + j]? = some u := by
  have hj : j < 2 := by have := (List.getElem?_eq_some_iff.1 hu).1; simpa using this
  unfold madeCells
  rw [Array.getElem?_map, Array.getElem?_range, if_pos (by have := Nat.mul_le_mul_right 2 (show i + 1 ≤ n by omega); rw [Nat.succ_mul] at this; omega)]
  have h1 : (i * 2 + j) % 2 = j := by omega
  simp only [Option.map_some]
  have h2 : j = 0 ∨ j = 1 := by omega
  rcases h2 with rfl | rfl <;> (simp only [List.getElem?_cons_zero, List.getElem?_cons_succ, Option.some.injEq] at hu; subst hu; simp [h1] <;> (try simp at h1) <;> (try simp [h1]))



/-- The marks of element i, the first mark of all being N. -/
def marked (N i : Nat) : List Value := [.string (mt (N + i * 2)), .int .i64 ((N + i * 2 + 1 : Nat) : Int)]



def strSize : Value → Nat
  | .string s => s.size
  | _ => 0

/-- The bytes of the strings of the first n elements. -/
def total (z : Nat → Nat → Value) : Nat → Nat
  | 0 => 0
  | n + 1 => total z n + strSize (z n 0)

theorem sz_any (x0 : ByteArray) (x1 : Int) (L : Int) (w : World) (h0 : 0 ≤ L) (h1 : L ≤ 1048576) (hm : x0.size ≤ maxLen) : Calls Try.prog 7 #[.agg #[.string x0, .int .i64 x1], .int .i64 L] w fun e w' => e = .returned (.int .i64 (if (x0.size : Int) ≤ L then L - (x0.size : Int) else -1)) ∧ Below w.heap.size w w' := by
  unfold maxLen at hm
  by_cases h : (x0.size : Int) ≤ L
  · have h2 : ¬ (L - (x0.size : Int) < 0) := by omega
    go_enter Try.func7, Try.ntmps7
    go_wp2
    all_goals go_ret
    all_goals exact ⟨by simp [h], by go_grown⟩
  · have h2 : L - (x0.size : Int) < 0 := by omega
    go_enter Try.func7, Try.ntmps7
    go_wp2
    all_goals go_ret
    all_goals exact ⟨by simp [h], by go_grown⟩


end Go.Proofs.Ytkkflpjpijnalaa.Tokens
