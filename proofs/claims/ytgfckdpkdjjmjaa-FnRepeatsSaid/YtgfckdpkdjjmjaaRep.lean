/-
  The model's BlocksOk, FlatLength and FlattenBlocks: what each call returns and leaves; condition: at most 1048576 tokens.
-/
import Derived.Test.YtgfckdpkdjjmjaaFlatC
import Derived.Deep.Onto
namespace Go.Proofs.Ytgfckdpkdjjmjaa.Blk
open Go.ChangeShapes Go.WideShapes Go.ChangeAt Go.RowKit
open Kit Scan Slabs
set_option linter.unusedVariables false
set_option linter.unusedSimpArgs false
set_option linter.unnecessarySimpa false
set_option maxRecDepth 100000

theorem ok_spec (w : World) (v : Value) (L : List Tok) (hn : L.length ≤ 1048576) (hS : ∀ t ∈ L, t.1.size ≤ 281474976710656) (h : Rdt w v L) :
    Calls Try.prog 15 #[v] w fun e w' => e = .returned (.bool (decide (0 ≤ bdV L))) ∧ Below w.heap.size w w' := by
  have HD := Lib.hid (depth_spec w v L hn hS h)
  clear h hS
  go_enter Try.func15, Try.ntmps15
  go_wp2_with fail
  ((with_reducible refine HD.out.mono ?_); rintro e w1 ⟨rfl, hb⟩)
  go_wp2
  go_ret
  exact ⟨rfl, hb⟩

/-- What FlatLength answers. -/
def FlenIs (L : List Tok) (x : Int) : Prop := (0 ≤ bdV L ∧ ∃ f d, Fl L f d ∧ d ≤ 3 ∧ L.length ≤ 60 ∧ x = (f.length : Int)) ∨ (bdV L < 0 ∧ x = -1)

/-- What FlattenBlocks answers: the tokens and the Bool. -/
def FbIs (L A : List Tok) (B : Bool) : Prop := (0 ≤ bdV L ∧ ∃ f d, Fl L f d ∧ d ≤ 3 ∧ L.length ≤ 60 ∧ B = decide (f.length ≤ 200) ∧ A = if f.length ≤ 200 then f else []) ∨ (bdV L < 0 ∧ B = false ∧ A = [])

theorem flen_ex (L : List Tok) : ∃ x, FlenIs L x := by
  rcases Int.lt_or_le (bdV L) 0 with h | h
  · exact ⟨-1, .inr ⟨h, rfl⟩⟩
  · obtain ⟨f, d, F, _, h60, h3⟩ := bd_fl h
    exact ⟨_, .inl ⟨h, f, d, F, h3, h60, rfl⟩⟩
theorem fb_ex (L : List Tok) : ∃ A B, FbIs L A B := by
  rcases Int.lt_or_le (bdV L) 0 with h | h
  · exact ⟨[], false, .inr ⟨h, rfl, rfl⟩⟩
  · obtain ⟨f, d, F, _, h60, h3⟩ := bd_fl h
    exact ⟨_, _, .inl ⟨h, f, d, F, h3, h60, rfl, rfl⟩⟩

theorem fl_bound {L f : List Tok} {d : Nat} (F : Fl L f d) (h60 : L.length ≤ 60) (hd : d ≤ 3) : f.length ≤ 43740 := by
  have h1 := fl_len F
  have h2 : 9 ^ d ≤ 9 ^ 3 := Nat.pow_le_pow_right (by omega) hd
  have h3 : L.length * 9 ^ d ≤ 60 * 9 ^ 3 := Nat.mul_le_mul h60 h2
  omega

theorem flen_bound {L : List Tok} {x : Int} (h : FlenIs L x) : -1 ≤ x ∧ x ≤ 43740 := by
  rcases h with ⟨_, f, d, F, hd, h60, rfl⟩ | ⟨_, rfl⟩
  · have := fl_bound F h60 hd; omega
  · omega

theorem fb_bound {L A : List Tok} {B : Bool} (h : FbIs L A B) : A.length ≤ 200 := by
  rcases h with ⟨_, f, d, F, hd, h60, _, rfl⟩ | ⟨_, _, rfl⟩
  · split
    · assumption
    · simp
  · simp

theorem len_spec (w : World) (v : Value) (L : List Tok) (hn : L.length ≤ 1048576) (hS : ∀ t ∈ L, t.1.size ≤ 281474976710656) (h : Rdt w v L) (x : Int) (hx : FlenIs L x) :
    Calls Try.prog 21 #[v] w fun e w' => e = .returned (.int .i64 x) ∧ Below w.heap.size w w' := by
  have HD := Lib.hid (ok_spec w v L hn hS h)
  have HR := Lib.hid h
  clear h hS
  rcases hx with ⟨h0, f, d, F, hd, h60, rfl⟩ | ⟨h0, rfl⟩
  · have hdec : decide (0 ≤ bdV L) = true := by simpa using h0
    have HF := Lib.hid F
    have hfb := fl_bound F h60 hd
    clear F
    go_enter Try.func21, Try.ntmps21
    go_wp2_with fail
    ((with_reducible refine HD.out.mono ?_); rintro e w1 ⟨rfl, hb⟩)
    rw [hdec]
    go_wp2_with fail
    ((with_reducible refine (flat_spec _ L f d rfl h60 hd HF.out _ _ (HR.out.on hb)).mono ?_); rintro e w2 ⟨u, rfl, ho, hu, hb2⟩)
    have hB := on_of hb hb2
    rcases ho.2 with ⟨h1, _⟩ | ⟨g, cap, cur, h1, _⟩
    · exact absurd h1 hu
    · subst h1
      clear ho hu
      go_wp2
      go_ret
      exact ⟨rfl, hB⟩
  · have hdec : decide (0 ≤ bdV L) = false := by simpa using h0
    go_enter Try.func21, Try.ntmps21
    go_wp2_with fail
    ((with_reducible refine HD.out.mono ?_); rintro e w1 ⟨rfl, hb⟩)
    rw [hdec]
    go_wp2
    go_ret
    exact ⟨rfl, hb⟩

/-- What FlattenBlocks leaves. -/
def FbLeft (A : List Tok) (B : Bool) (w : World) (e : Ending) (w' : World) : Prop := ∃ u : Value, e = .returned (.tuple #[u, .bool B]) ∧ w'.ownsRow w.heap.size 31 2 u A.length (cellsL A) ∧ Below w.heap.size w w'

theorem fb_spec (w : World) (v : Value) (L : List Tok) (hn : L.length ≤ 1048576) (hS : ∀ t ∈ L, t.1.size ≤ 281474976710656) (h : Rdt w v L) (A : List Tok) (B : Bool) (hA : FbIs L A B) :
    Calls Try.prog 18 #[v] w (FbLeft A B w) := by
  have ho0 : ∀ W : World, w.heap.size ≤ W.heap.size → (W.alloc (.cells #[] 31)).ownsRow w.heap.size 31 2 (.slice (some ⟨W.heap.size, 0, none⟩) 0 0) 0 [] := fun W hW => World.ownsRow_made W #[] 0 hW (by decide) (by simp)
  rcases hA with ⟨h0, f, d, F, hd, h60, rfl, rfl⟩ | ⟨h0, rfl, rfl⟩
  · have HD := Lib.hid (len_spec w v L hn hS h (f.length : Int) (.inl ⟨h0, f, d, F, hd, h60, rfl⟩))
    have HR := Lib.hid h
    have HF := Lib.hid F
    have HO := Lib.hid ho0
    have hfb := fl_bound F h60 hd
    clear h hS F ho0
    by_cases h200 : f.length ≤ 200
    · have hdec : decide (0 ≤ (f.length : Int) ∧ (f.length : Int) ≤ 200) = true := by simp; omega
      rw [if_pos h200, show decide (f.length ≤ 200) = true by simpa using h200]
      go_enter Try.func18, Try.ntmps18
      go_wp2_with fail
      ((with_reducible refine HD.out.mono ?_); rintro e w1 ⟨rfl, hb⟩)
      go_wp2_with fail
      (refine (Point.in_any _ _ _ _).mono ?_; rintro e w1' ⟨rfl, rfl⟩; rw [hdec])
      go_wp2_with fail
      ((with_reducible refine (flat_spec _ L f d rfl h60 hd HF.out _ _ (HR.out.on hb)).mono ?_); rintro e w2 ⟨u, rfl, ho, hu, hb2⟩)
      have HX := Lib.hid (And.intro (World.ownsRow.mono ho hb.size) (on_of hb hb2))
      clear ho hu hb hb2
      go_wp2
      refine bodyPost_ret (by simp [results, Try.results18, go_sem, *]; try rfl) rfl ?_
      exact ⟨u, rfl, HX.out.1, HX.out.2⟩
    · have hdec : decide (0 ≤ (f.length : Int) ∧ (f.length : Int) ≤ 200) = false := by simp; omega
      rw [if_neg h200, show decide (f.length ≤ 200) = false by simpa using h200]
      go_enter Try.func18, Try.ntmps18
      go_wp2_with fail
      ((with_reducible refine HD.out.mono ?_); rintro e w1 ⟨rfl, hb⟩)
      go_wp2_with fail
      (refine (Point.in_any _ _ _ _).mono ?_; rintro e w1' ⟨rfl, rfl⟩; rw [hdec])
      go_wp2
      refine bodyPost_ret (by simp [results, Try.results18, go_sem, *]; try rfl) rfl ?_
      exact ⟨_, rfl, HO.out _ hb.size, hb.alloc hb.size _⟩
  · have HD := Lib.hid (len_spec w v L hn hS h (-1) (.inr ⟨h0, rfl⟩))
    have HO := Lib.hid ho0
    have hdec : decide (0 ≤ (-1 : Int) ∧ (-1 : Int) ≤ 200) = false := by simp
    clear h hS ho0
    go_enter Try.func18, Try.ntmps18
    go_wp2_with fail
    ((with_reducible refine HD.out.mono ?_); rintro e w1 ⟨rfl, hb⟩)
    go_wp2_with fail
    (refine (Point.in_any _ _ _ _).mono ?_; rintro e w1' ⟨rfl, rfl⟩; rw [hdec])
    go_wp2
    refine bodyPost_ret (by simp [results, Try.results18, go_sem, *]; try rfl) rfl ?_
    exact ⟨_, rfl, HO.out _ hb.size, hb.alloc hb.size _⟩

end Go.Proofs.Ytgfckdpkdjjmjaa.Blk
