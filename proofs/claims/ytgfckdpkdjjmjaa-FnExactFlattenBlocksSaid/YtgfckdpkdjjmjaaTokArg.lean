/-
  A slice of tokens that came in, as a list of tokens; condition: as the reading says.
-/
import Derived.Test.YtgfckdpkdjjmjaaFlatB
import Derived.Test.YtgfckdpkdjjmjaaTokens
namespace Go.Proofs.Ytgfckdpkdjjmjaa.Blk
open Go.ChangeShapes Go.WideShapes Go.ChangeAt Go.RowKit
open Kit Scan Slabs Recs
set_option linter.unusedVariables false
set_option linter.unusedSimpArgs false
set_option linter.unnecessarySimpa false

def strOf : Value → ByteArray
  | .string s => s
  | _ => ⟨#[]⟩

/-- The tokens that came in. -/
def lst (z : Nat → Nat → Value) (n : Nat) : List Tok := toL (fun i => strOf (z i 0)) (fun i => intOf (z i 1)) n
theorem lst_len (z : Nat → Nat → Value) (n : Nat) : (lst z n).length = n := toL_len _ _ _

theorem total_ge (z : Nat → Nat → Value) : ∀ n i, i < n → Tokens.strSize (z i 0) ≤ Tokens.total z n
  | n + 1, i, h => by
    simp only [Tokens.total]
    by_cases e : i < n
    · have := total_ge z n i e; omega
    · obtain rfl : i = n := by omega
      omega

theorem recs_is {w : World} {a : Option Addr} {n cap : Nat} {z : Nat → Nat → Value} (h : IsRecs Tokens.kl w a n cap z) :
    (∀ i, i < n → [z i 0, z i 1] = [Value.string (strOf (z i 0)), .int .i64 (intOf (z i 1))]) ∧ ∀ i, i < n → (strOf (z i 0)).size = Tokens.strSize (z i 0) := by
  have key : ∀ i, i < n → ∃ (s : ByteArray) (m : Int), z i 0 = .string s ∧ z i 1 = .int .i64 m := by
    intro i hi
    obtain ⟨_, _, h | ⟨g, o, _, _, h⟩⟩ := h
    · omega
    · obtain ⟨s, e0, _⟩ := (h i hi 0 _ rfl).2
      obtain ⟨m, e1, hm⟩ := (h i hi 1 _ rfl).2
      exact ⟨s, m, e0, e1⟩
  refine ⟨fun i hi => ?_, fun i hi => ?_⟩
  · obtain ⟨s, m, e0, e1⟩ := key i hi
    simp only [e0, e1, strOf, intOf]
  · obtain ⟨s, m, e0, e1⟩ := key i hi
    rw [e0]; rfl

theorem lst_size {z : Nat → Nat → Value} {n : Nat} (h : ∀ i, i < n → (strOf (z i 0)).size = Tokens.strSize (z i 0)) (hb : Tokens.total z n ≤ 1048576) : ∀ t ∈ lst z n, t.1.size ≤ 281474976710656 := by
  intro t ht
  simp only [lst, toL, List.mem_map, List.mem_range] at ht
  obtain ⟨i, hi, rfl⟩ := ht
  have := total_ge z n i hi
  rw [h i hi]; omega

theorem rdt_of {W : World} {B n : Nat} {v : Value} {z : Nat → Nat → Value} (hz : ∀ i, i < n → [z i 0, z i 1] = [Value.string (strOf (z i 0)), .int .i64 (intOf (z i 1))]) (h : Slab W B v n 2 (fun i => [z i 0, z i 1])) : Rdt W v (lst z n) :=
  Rdt.of_slab (h.same hz)

/-- The cells of the i-th token of a list. -/
def tkF (A : List Tok) (i : Nat) : List Value := [.string (A.getD i (⟨#[]⟩, 0)).1, .int .i64 (A.getD i (⟨#[]⟩, 0)).2]
theorem tkF_len (A : List Tok) (i : Nat) : (tkF A i).length = 2 := rfl
theorem tkF_shape (A : List Tok) (n : Nat) : Tokens.Shape (tkF A) n := fun i _ => ⟨_, _, rfl⟩

theorem tkF_cells : ∀ A : List Tok, cellsL A = flat (tkF A) A.length := by
  intro A
  have key : ∀ n, n ≤ A.length → cellsL (A.take n) = flat (tkF A) n := by
    intro n
    induction n with
    | zero => intro _; rfl
    | succ n ih =>
      intro hn
      have hlt : n < A.length := by omega
      rw [flat_succ, ← ih (by omega), List.take_succ_eq_append_getElem hlt, cellsL_append]
      congr 1
      simp [cellsL, tkF, List.getD, List.getElem?_eq_getElem hlt]
  have := key A.length (Nat.le_refl _)
  rwa [List.take_length] at this

end Go.Proofs.Ytgfckdpkdjjmjaa.Blk
