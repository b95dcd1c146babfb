/-
  Chapter 5's StackOk and the copies (the model's): what each call returns and leaves; condition: at most 2000000 numbers.
-/
import Derived.Test.YtnpbhmeanfolnaaInts
import Derived.Test.YtnpbhmeanfolnaaPoint
namespace Go.Proofs.Ytnpbhmeanfolnaa.Stack
open Go.ChangeShapes Go.WideShapes Go.ChangeAt Go.RowKit
open Kit Slabs Ints
set_option linter.unusedVariables false
set_option linter.unusedSimpArgs false
set_option linter.unnecessarySimpa false
set_option maxRecDepth 100000

/-- A slice of n numbers that can be read. -/
def Rd (w : World) (v : Value) (n : Nat) (X : Nat → Int) : Prop :=
  ∃ (a : Option Addr) (cap : Nat), v = .slice a n cap ∧ n ≤ cap ∧ (n = 0 ∨ ∃ g o, a = some ⟨g, o, none⟩ ∧ g < w.heap.size ∧ ∀ i, i < n → w.cell? ⟨g, o + i, none⟩ = some (.int .i64 (X i)))

theorem Rd.of_slab {w : World} {B n : Nat} {v : Value} {X : Nat → Int} (h : Slab w B v n 1 (ic X)) : Rd w v n X := by
  obtain ⟨a, cap, hv, hc, h⟩ := h
  refine ⟨a, cap, hv, hc, ?_⟩
  rcases h with h | ⟨g, ha, _, h2, _, h4⟩
  · exact .inl h
  · exact .inr ⟨g, 0, ha, h2, fun i hi => by have := h4 i hi 0 _ rfl; simpa using this⟩

theorem Rd.on {w w' : World} {v : Value} {n : Nat} {X : Nat → Int} (h : Rd w v n X) (hb : Below w.heap.size w w') : Rd w' v n X := by
  obtain ⟨a, cap, hv, hc, h⟩ := h
  refine ⟨a, cap, hv, hc, ?_⟩
  rcases h with h | ⟨g, o, ha, h2, h4⟩
  · exact .inl h
  · exact .inr ⟨g, o, ha, Nat.lt_of_lt_of_le h2 hb.size, fun i hi => (hb.cell (p := ⟨g, _, none⟩) h2).trans (h4 i hi)⟩

/-- A part of a slice. -/
theorem Rd.part {w : World} {a : Option Addr} {cap n : Nat} {X : Nat → Int} (h : Rd w (.slice a n cap) n X) (i m : Nat) (him : i + m ≤ n) (hm : m ≠ 0) : ∃ g o, a = some ⟨g, o, none⟩ ∧ Rd w (.slice (some ⟨g, o + i, none⟩) m (cap - i)) m (fun j => X (i + j)) := by
  obtain ⟨a', cap', hv, hc, h⟩ := h
  injection hv with h1 h2 h3
  subst h1; subst h3
  rcases h with h | ⟨g, o, ha, h2, h4⟩
  · omega
  · exact ⟨g, o, ha, _, _, rfl, by omega, .inr ⟨g, o + i, rfl, h2, fun j hj => by have := h4 (i + j) (by omega); rw [Nat.add_assoc]; exact this⟩⟩

theorem flat_ic (X : Nat → Int) (n j : Nat) (h : j < n) : (flat (ic X) n)[j]? = some (.int .i64 (X j)) := by
  have := flat_get (ic_len X) (n := n) (i := j) (j := 0) h (by omega)
  simpa [ic] using this

theorem flat_ic_len (X : Nat → Int) (n : Nat) : (flat (ic X) n).length = n := by
  have := flat_length (ic_len X) n; simpa using this

theorem flat_one (X : Nat → Int) (n : Nat) : ∀ u ∈ flat (ic X) n, u.oneCell' = true := by
  intro u hu
  obtain ⟨j, hj, rfl⟩ := List.mem_iff_getElem.1 hu
  have hn : j < n := by rw [flat_ic_len] at hj; exact hj
  have h1 := flat_ic X n j hn
  rw [List.getElem?_eq_getElem hj] at h1
  rw [Option.some.inj h1]; simp [Value.oneCell']

set_option maxHeartbeats 1000000 in
theorem copy_spec (w : World) (v : Value) (n : Nat) (X : Nat → Int) (hn : n ≤ 2000000) (h : Rd w v n X) :
    Calls Try.prog 50 #[v] w fun e w' => ∃ u, e = .returned u ∧ w'.ownsRow w.heap.size 3 1 u n (flat (ic X) n) ∧ Below w.heap.size w w' := by
  obtain ⟨i0, hi0, hz0, hz1, hz2⟩ := info_parts info3
  have ho := World.ownsRow_made w #[] (e := 3) (size := 1) 0 (Nat.le_refl _) (by decide) (by simp)
  obtain ⟨a, cap, rfl, hc, h⟩ := h
  rcases h with h | ⟨g, o, rfl, hg, hcs⟩
  · subst h
    cases a with
    | none =>
      go_enter Try.func50, Try.ntmps50
      go_wp2
      go_ret
      exact ⟨_, rfl, ho, by go_grown⟩
    | some ad =>
      have HO := Lib.hid ho
      clear ho
      go_enter Try.func50, Try.ntmps50
      go_wp2_with (at_builtin; refine wpList_append_own _ rfl _ _ 24 rfl w.heap.size 3 i0 (.int .i64 0) 1 8 Try.underlying24 hi0 hz0 hz1 hz2 rfl (by decide) _ 0 [] rfl HO.out ad 0 cap [] rfl rfl ?c1 ?c2 ?c3 ?c4 ?c5 ?_)
      case c1 => intro j u hu; simp at hu
      case c2 => simp
      case c3 => unfold maxLen; omega
      case c4 => omega
      case c5 => simp
      intro v2 w2 hown hgrow _
      have hB := ((Below.refl w.heap.size w).alloc (Nat.le_refl _) (.cells #[] 3)).grown hgrow (by simp) (fun q hq => by have := (HO.out.lt q hq).1; omega)
      have HX := Lib.hid (And.intro hown hB)
      clear hown hB hgrow
      go_wp2
      go_ret
      exact ⟨_, rfl, by simpa [flat_zero] using HX.out.1, HX.out.2⟩
  · have HO := Lib.hid (And.intro ho hcs)
    clear ho hcs
    go_enter Try.func50, Try.ntmps50
    go_wp2_with (at_builtin; refine wpList_append_own _ rfl _ _ 24 rfl w.heap.size 3 i0 (.int .i64 0) 1 8 Try.underlying24 hi0 hz0 hz1 hz2 rfl (by decide) _ 0 [] rfl HO.out.1 ⟨g, o, none⟩ n cap (flat (ic X) n) rfl ?c0 ?c1 ?c2 ?c3 ?c4 ?c5 ?_)
    case c0 => rw [flat_ic_len]; omega
    case c1 =>
      intro j u hu
      have hj : j < n := by have := (List.getElem?_eq_some_iff.1 hu).1; rw [flat_ic_len] at this; exact this
      rw [flat_ic X n j hj] at hu
      injection hu with hu
      subst hu
      have h1 := HO.out.2 j hj
      have h2 : (w.alloc (.cells #[] 3)).cell? ⟨g, o + j, none⟩ = some (.int .i64 (X j)) := (World.cell?_alloc_lt _ _ _ hg).trans h1
      by_cases h0 : j = 0
      · subst h0; simpa [Addr.add] using h2
      · simpa [Addr.add, h0] using h2
    case c2 => exact flat_one X n
    case c3 => unfold maxLen; omega
    case c4 => omega
    case c5 => simp
    intro v2 w2 hown hgrow _
    have hB := ((Below.refl w.heap.size w).alloc (Nat.le_refl _) (.cells #[] 3)).grown hgrow (by simp) (fun q hq => by have := (HO.out.1.lt q hq).1; omega)
    have HX := Lib.hid (And.intro hown hB)
    clear hown hB hgrow
    go_wp2
    go_ret
    exact ⟨_, rfl, by simpa using HX.out.1, HX.out.2⟩

/-- Are the first n numbers in their range? -/
def numsB (X : Nat → Int) (n : Nat) : Bool := (List.range n).all fun i => decide (-9999 ≤ X i ∧ X i ≤ 9999)
def stB (X : Nat → Int) (n : Nat) : Bool := decide (n ≤ 12) && numsB X n

theorem numsB_succ (X : Nat → Int) (n : Nat) : numsB X (n + 1) = (numsB X n && decide (-9999 ≤ X n ∧ X n ≤ 9999)) := by
  simp [numsB, List.range_succ]

theorem numsB_iff (X : Nat → Int) (n : Nat) : numsB X n = true ↔ ∀ i, i < n → -9999 ≤ X i ∧ X i ≤ 9999 := by
  simp [numsB, List.all_eq_true]

theorem numsB_no {X : Nat → Int} {n i : Nat} (hi : i < n) (h : ¬ (-9999 ≤ X i ∧ X i ≤ 9999)) : numsB X n = false := by
  rw [← Bool.not_eq_true, numsB_iff]; exact fun h2 => h (h2 i hi)

set_option maxHeartbeats 1000000 in
theorem stok_spec (w : World) (v : Value) (n : Nat) (X : Nat → Int) (hn : n ≤ 2000000) (h : Rd w v n X) :
    Calls Try.prog 21 #[v] w fun e w' => e = .returned (.bool (stB X n)) ∧ w = w' := by
  obtain ⟨a, cap, rfl, hc, h⟩ := h
  by_cases hn0 : n = 0
  · subst hn0
    clear h
    go_enter Try.func21, Try.ntmps21
    go_wp2
    go_rounds 1
    go_ret
    exact ⟨rfl, rfl⟩
  · rcases h with h | ⟨g, o, rfl, hg, hcs⟩
    · exact absurd h hn0
    have HC := Lib.hid hcs
    clear hcs
    go_enter Try.func21, Try.ntmps21
    go_wp2
    go_loopw [3] (fun v3 wr => ∃ k : Nat, k ≤ n ∧ v3 = .int .i64 (k : Int) ∧ numsB X k = true ∧ wr = w) (fun v3 _ => n - (intOf v3).toNat)
    case atStart => exact ⟨0, Nat.zero_le _, rfl, rfl, rfl⟩
    case round =>
      obtain ⟨k, hk, rfl, hb, rfl⟩ := hrel
      have HB := Lib.hid hb
      clear hb
      by_cases hlt : k < n
      · have q0 := HC.out k hlt
        obtain ⟨x, hx⟩ : ∃ x, X k = x := ⟨_, rfl⟩
        rw [hx] at q0
        have i0 : (0 : Int) ≤ (k : Int) := by omega
        have i1 : (k : Int) < (n : Int) := by omega
        by_cases hr : -9999 ≤ x ∧ x ≤ 9999
        · have hs : numsB X (k + 1) = true := by rw [numsB_succ, HB.out, hx]; simp; omega
          have HS := Lib.hid hs
          clear hs hx
          have hd : decide (-9999 ≤ x ∧ x ≤ 9999) = true := by simpa using hr
          go_wp2_with (go_at_call 49; refine (Point.in_any _ _ _ _).mono ?_; rintro e w' ⟨rfl, rfl⟩; rw [hd])
          go_roundw
          case rel => exact ⟨k + 1, by omega, by go_num, HS.out, by first | rfl | trivial⟩
          case measure => simp [intOf]; omega
        · have hno : stB X n = false := by rw [stB, numsB_no hlt (by rw [hx]; exact hr)]; simp
          have HS := Lib.hid hno
          clear hno hx
          have hd : decide (-9999 ≤ x ∧ x ≤ 9999) = false := by simpa using hr
          go_wp2_with (go_at_call 49; refine (Point.in_any _ _ _ _).mono ?_; rintro e w' ⟨rfl, rfl⟩; rw [hd])
          go_ret
          exact ⟨ret_bool HS.out.symm, by first | rfl | trivial⟩
      · obtain rfl : k = n := by omega
        go_wp2
        go_ret
        exact ⟨ret_bool (by rw [stB, HB.out, Bool.and_true]; apply decide_eq_decide.2; omega), rfl⟩

end Go.Proofs.Ytnpbhmeanfolnaa.Stack
