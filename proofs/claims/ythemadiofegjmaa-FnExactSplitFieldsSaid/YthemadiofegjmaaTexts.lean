/-
  The laws' own helpers on slices of strings (eqStringS, markText, markStringS, heldStringS): what each call returns and leaves; condition: the slices are the call's own.
-/
import Derived.Test.YthemadiofegjmaaSplit
import Derived.Deep.RegionHeld3
import Derived.Laws.BytesArg
import Derived.Lib.ItoaNum
import Derived.Lib.ItoaLen
namespace Go.Proofs.Ythemadiofegjmaa.Texts
open Go.ChangeShapes Go.WideShapes Go.ChangeAt Go.RowKit
open Split
set_option linter.unusedVariables false

/-- The digits of m, none where m is 0. -/
def rest (m : Nat) : List UInt8 := if m = 0 then [] else Lib.decDigits m
theorem rest_step (m : Nat) (h : m ≠ 0) : rest m = rest (m / 10) ++ [UInt8.ofNat (48 + m % 10)] := by
  unfold rest
  rw [if_neg h]
  by_cases h1 : m < 10
  · rw [Lib.decDigits_one h1, if_pos (by omega), Nat.mod_eq_of_lt h1]; rfl
  · rw [Lib.decDigits, dif_neg h1, if_neg (by omega)]
theorem cons_str (c : UInt8) (l : List UInt8) : (({ data := #[c] } : ByteArray) ++ ({ data := l.toArray } : ByteArray)) = { data := (c :: l).toArray } := by
  apply ByteArray.ext
  simp
theorem digits_le {N : Nat} (h1 : N < 18446744073709551616) {m : Nat} {l : List UInt8} (h : rest m ++ l = Lib.decDigits N) : l.length ≤ 20 := by
  have h2 : (rest m ++ l).length = Lib.nDigits N := by rw [h, Lib.decDigits_length]
  rw [List.length_append] at h2
  have := Lib.nDigits_le20 N h1
  omega
theorem rest_next {N m : Nat} {l : List UInt8} (hm : m ≠ 0) (h : rest m ++ l = Lib.decDigits N) : rest (m / 10) ++ (UInt8.ofNat (48 + m % 10) :: l) = Lib.decDigits N := by
  rw [← h, rest_step m hm, List.append_assoc]; rfl

theorem drewN_below {B : Nat} {a w : World} (h : Below B a w) (n : Nat) : Below B a (w.drewN n) := ⟨h.os, h.tape, h.output, h.size, h.block⟩

/-- string([]byte{x}) -/
theorem one_str (w : World) (x : Int) : (convert 22 9 (.slice (some ⟨w.heap.size, 0, none⟩) 1 1)).run Try.prog (w.alloc (.cells #[.int .u8 x] 5)) = .ok (.string ⟨#[UInt8.ofNat x.toNat]⟩) (w.alloc (.cells #[.int .u8 x] 5)) :=
  run_convert_bytes_arg _ 22 5 Try.underlying22 Try.underlying5 w.heap.size 0 1 1 [x] rfl (fun i hi => by
    obtain rfl : i = 0 := by omega
    simp [go_sem]) 9 Try.underlying9

/-- markText's text of k. -/
def mt (k : Nat) : ByteArray := ⟨(109 :: Lib.decDigits k).toArray⟩

set_option maxHeartbeats 1000000 in
theorem mark_any (N : Nat) (w : World) (h0 : 0 < N) (h1 : N ≤ 1000000) :
    Calls Try.prog 29 #[.int .i64 (N : Int)] w fun e w' => e = .returned (.string (mt N)) ∧ Below w.heap.size w w' := by
  have hne : ¬ ((N : Int) ≤ 0) := by omega
  go_enter Try.func29, Try.ntmps29
  go_wp2
  go_loopw [0, 3] (fun v s wr => ∃ (m : Nat) (l : List UInt8), v = .int .i64 (m : Int) ∧ m ≤ N ∧ s = .string ⟨l.toArray⟩ ∧ rest m ++ l = Lib.decDigits N ∧ Below w.heap.size w wr) (fun v _ _ => (intOf v).toNat)
  case atStart => exact ⟨N, [], rfl, Nat.le_refl _, rfl, by simp [rest]; omega, Below.refl _ _⟩
  case round =>
    obtain ⟨m, l, rfl, hm, rfl, hl, hbel⟩ := hrel
    have hll := digits_le (by omega) hl
    have HL := Lib.hid hl
    have hlen : ¬ (9223372036854775807 < 1 + l.length) := by omega
    clear hl
    by_cases hz : m = 0
    · subst hz
      go_wp2
      go_ret
      refine ⟨?_, hbel⟩
      have := HL.out
      simp only [rest, if_pos, List.nil_append] at this
      unfold mt
      rw [← this]
      simp [cons_str]
    · have hnz : (0 : Int) < (m : Int) := by omega
      have hsz := hbel.size
      have hd0 : 0 ≤ (m : Int) % 10 := by omega
      have hd1 : (m : Int) % 10 ≤ 9 := by omega
      have hcv := one_str wr (48 + (m : Int) % 10)
      go_wp2
      refine ⟨⟨m / 10, UInt8.ofNat (48 + m % 10) :: l, by simp, by omega, ?_, rest_next hz HL.out, hbel.alloc hsz _⟩, by simp [intOf]; omega⟩
      rw [cons_str]
      congr 4
      rw [UInt8.ofNat_add]
      rfl

/-- Cell j of a slice of strings that the call owns. -/
theorem own_cell {w : World} {B : Nat} {l : List ByteArray} {g n c : Nat} (h : Owns w B (.slice (some ⟨g, 0, none⟩) n c) l) {j : Nat} (hj : j < l.length) : w.cell? ⟨g, j, none⟩ = some (.string l[j]) := by
  have hx := World.ownsRow.cells h (g := g) rfl j (.string l[j]) (by simp [hj])
  by_cases h0 : j = 0
  · subst h0; simpa [Addr.add] using hx
  · simpa [Addr.add, h0] using hx
theorem own_free {w : World} {B : Nat} {l : List ByteArray} {g n c : Nat} (h : Owns w B (.slice (some ⟨g, 0, none⟩) n c) l) (j : Nat) : w.frozen? ⟨g, j, none⟩ = false := by
  rcases h.2 with ⟨h1, _⟩ | ⟨g', cap, cur, h1, _, hh, _⟩
  · cases h1
  · injection h1 with h1 _ _
    injection h1 with h1
    injection h1 with h1 _ _
    subst h1
    simp [World.frozen?, hh]

set_option maxHeartbeats 1000000 in
theorem eq_any (w : World) (B1 B2 : Nat) (v1 v2 : Value) (l : List ByteArray) (hl : l.length ≤ 100000) (h1 : Owns w B1 v1 l) (h2 : Owns w B2 v2 l) :
    Calls Try.prog 17 #[v1, v2] w fun e w' => e = .returned (.bool true) ∧ Below w.heap.size w w' := by
  by_cases hn : l.length = 0
  · obtain ⟨p1, c1, rfl⟩ := Owns.form h1
    obtain ⟨p2, c2, rfl⟩ := Owns.form h2
    rw [hn]
    clear h1 h2 hl hn
    go_enter Try.func17, Try.ntmps17
    go_wp2
    go_loopw [5] (fun i wr => i = .int .i64 0 ∧ Below w.heap.size w wr) (fun _ _ => 0)
    case atStart => exact ⟨rfl, Below.refl _ _⟩
    case round =>
      obtain ⟨rfl, hbel⟩ := hrel
      go_wp2
      go_ret
      exact ⟨rfl, hbel⟩
  · obtain ⟨g1, c1, rfl⟩ : ∃ g c, v1 = .slice (some ⟨g, 0, none⟩) l.length c := by
      rcases own_form h1 with ⟨_, h⟩ | h
      · exact absurd h hn
      · exact h
    obtain ⟨g2, c2, rfl⟩ : ∃ g c, v2 = .slice (some ⟨g, 0, none⟩) l.length c := by
      rcases own_form h2 with ⟨_, h⟩ | h
      · exact absurd h hn
      · exact h
    have H1 := Lib.hid h1
    have H2 := Lib.hid h2
    clear h1 h2 hn
    go_enter Try.func17, Try.ntmps17
    go_wp2
    go_loopw [5] (fun i wr => ∃ k : Nat, k ≤ l.length ∧ i = .int .i64 (k : Int) ∧ Below w.heap.size w wr) (fun i _ => l.length - (intOf i).toNat)
    case atStart => exact ⟨0, Nat.zero_le _, rfl, Below.refl _ _⟩
    case round =>
      obtain ⟨k, hk, rfl, hbel⟩ := hrel
      by_cases hlt : k < l.length
      · have e1 := own_cell (H1.out.below hbel) hlt
        have e2 := own_cell (H2.out.below hbel) hlt
        have i0 : (0 : Int) ≤ (k : Int) := by omega
        have i1 : (k : Int) < (l.length : Int) := by omega
        go_wp2
        go_quiet (fail)
        go_wp2
        refine ⟨⟨k + 1, by omega, by go_num, drewN_below hbel _⟩, by simp [intOf]; omega⟩
      · go_wp2
        go_ret
        exact ⟨rfl, hbel⟩

/-- The marks of j places, from the N-th on. -/
def marks (N j : Nat) : List ByteArray := (List.range j).map fun t => mt (N + t)
theorem marks_length (N j : Nat) : (marks N j).length = j := by simp [marks]
theorem marks_succ (N j : Nat) : marks N (j + 1) = marks N j ++ [mt (N + j)] := by simp [marks, List.range_succ]
theorem marks_get (N j k : Nat) (h : k < (marks N j).length) : (marks N j)[k] = mt (N + k) := by simp [marks]
/-- The first j places are marked. -/
def upd (N : Nat) (l : List ByteArray) (j : Nat) : List ByteArray := marks N j ++ l.drop j
theorem upd_length (N : Nat) (l : List ByteArray) (j : Nat) (h : j ≤ l.length) : (upd N l j).length = l.length := by simp [upd, marks_length]; omega
theorem upd_set (N : Nat) (l : List ByteArray) (j : Nat) (h : j < l.length) : (upd N l j).set j (mt (N + j)) = upd N l (j + 1) := by
  unfold upd
  rw [List.set_append_right _ _ (by rw [marks_length]; omega), marks_length, Nat.sub_self, marks_succ, List.append_assoc]
  congr 1
  rw [List.drop_eq_getElem_cons h]
  rfl
theorem upd_end (N : Nat) (l : List ByteArray) : upd N l l.length = marks N l.length := by simp [upd]

theorem own_set {w : World} {B : Nat} {l : List ByteArray} {g c : Nat} (h : Owns w B (.slice (some ⟨g, 0, none⟩) l.length c) l) (j : Nat) (x : ByteArray) :
    Owns (w.setCell ⟨g, j, none⟩ (.string x)) B (.slice (some ⟨g, 0, none⟩) l.length c) (l.set j x) ∧ w.grownBy (w.setCell ⟨g, j, none⟩ (.string x)) (some g) := by
  have hs := World.ownsRow.stored h j (.string x)
  refine ⟨?_, hs.2⟩
  unfold Owns
  rw [List.length_set, List.map_set]
  exact hs.1

set_option maxHeartbeats 1000000 in
theorem mark_all (w : World) (B N : Nat) (v : Value) (l : List ByteArray) (hl : l.length ≤ 1000) (hN : N ≤ 1000) (hN0 : 0 < N) (hB : B ≤ w.heap.size) (h : Owns w B v l) :
    Calls Try.prog 18 #[v, .int .i64 (N : Int)] w fun e w' => e = .returned (.int .i64 ((N + l.length : Nat) : Int)) ∧ Owns w' B v (marks N l.length) ∧ Below B w w' := by
  by_cases hn : l.length = 0
  · obtain ⟨p1, c1, rfl⟩ := Owns.form h
    have hm : marks N l.length = l := by
      rw [hn]; exact (List.length_eq_zero_iff.1 hn).symm
    rw [hm]
    have H := Lib.hid h
    rw [hn]
    rw [hn] at H
    clear h hl hn hm
    go_enter Try.func18, Try.ntmps18
    go_wp2
    go_loopw [1, 5] (fun k i wr => i = .int .i64 0 ∧ k = .int .i64 (N : Int) ∧ wr = w) (fun _ _ _ => 0)
    case atStart => exact ⟨rfl, rfl, rfl⟩
    case round =>
      obtain ⟨rfl, rfl, rfl⟩ := hrel
      go_wp2
      go_ret
      exact ⟨rfl, H.out, Below.refl _ _⟩
  · obtain ⟨g, c, rfl⟩ : ∃ g c, v = .slice (some ⟨g, 0, none⟩) l.length c := by
      rcases own_form h with ⟨_, h⟩ | h
      · exact absurd h hn
      · exact h
    have hg := (World.ownsRow.lt h g rfl).1
    have H := Lib.hid h
    clear h hn
    go_enter Try.func18, Try.ntmps18
    go_wp2
    go_loopw [1, 5] (fun k i wr => ∃ j : Nat, j ≤ l.length ∧ i = .int .i64 (j : Int) ∧ k = .int .i64 ((N + j : Nat) : Int) ∧ Owns wr B (.slice (some ⟨g, 0, none⟩) (upd N l j).length c) (upd N l j) ∧ Below B w wr) (fun _ i _ => l.length - (intOf i).toNat)
    case atStart => exact ⟨0, Nat.zero_le _, rfl, rfl, by have := H.out; simpa [upd, marks] using this, Below.refl _ _⟩
    case round =>
      obtain ⟨j, hj, rfl, rfl, hown, hbel⟩ := hrel
      have HO := Lib.hid hown
      clear hown
      by_cases hlt : j < l.length
      · have hul := upd_length N l j hj
        have HUL := Lib.hid hul
        clear hul
        go_wp2_with (go_at_call 29; refine (mark_any (N + j) _ (by omega) (by omega)).mono ?_; rintro e w1 ⟨rfl, b1⟩; have ho := HO.out.below b1; have e1 := own_cell ho (j := j) (by rw [HUL.out]; exact hlt); have e2 := own_free ho j)
        obtain ⟨hs, hgr⟩ := own_set ho j (mt (N + j))
        rw [upd_set N l j hlt] at hs
        rw [show (upd N l j).length = (upd N l (j + 1)).length by rw [HUL.out, upd_length N l (j + 1) (by omega)]] at hs
        have hbel2 : Below B w (w1.setCell ⟨g, j, none⟩ (.string (mt (N + j)))) := (hbel.trans (b1.mono (Nat.le_trans hB hbel.size))).setCell (p := ⟨g, j, none⟩) hg _
        refine ⟨⟨j + 1, by omega, by go_num, by congr 1, hs, hbel2⟩, by simp [intOf]; omega⟩
      · obtain rfl : j = l.length := by omega
        have hfin := HO.out
        rw [upd_length N l l.length (Nat.le_refl _), upd_end] at hfin
        have HF := Lib.hid hfin
        clear hfin
        go_wp2
        go_ret
        exact ⟨rfl, HF.out, hbel⟩

set_option maxHeartbeats 1000000 in
theorem held_all (w : World) (B N n : Nat) (v : Value) (hl : n ≤ 1000) (hN : N ≤ 1000) (hN0 : 0 < N) (h : Owns w B v (marks N n)) :
    Calls Try.prog 19 #[v, .int .i64 (N : Int)] w fun e w' => e = .returned (.int .i64 ((N + n : Nat) : Int)) ∧ Below w.heap.size w w' := by
  by_cases hn : n = 0
  · obtain ⟨p1, c1, rfl⟩ := Owns.form h
    rw [marks_length, hn]
    clear h hl hn
    go_enter Try.func19, Try.ntmps19
    go_wp2
    go_loopw [1, 5] (fun k i wr => i = .int .i64 0 ∧ k = .int .i64 (N : Int) ∧ wr = w) (fun _ _ _ => 0)
    case atStart => exact ⟨rfl, rfl, rfl⟩
    case round =>
      obtain ⟨rfl, rfl, rfl⟩ := hrel
      go_wp2
      go_ret
      exact ⟨rfl, Below.refl _ _⟩
  · obtain ⟨g, c, rfl⟩ : ∃ g c, v = .slice (some ⟨g, 0, none⟩) n c := by
      rcases own_form h with ⟨_, h⟩ | ⟨g, c, h⟩
      · rw [marks_length] at h; exact absurd h hn
      · rw [marks_length] at h; exact ⟨g, c, h⟩
    have H := Lib.hid h
    clear h hn
    go_enter Try.func19, Try.ntmps19
    go_wp2
    go_loopw [1, 5] (fun k i wr => ∃ j : Nat, j ≤ n ∧ i = .int .i64 (j : Int) ∧ k = .int .i64 ((N + j : Nat) : Int) ∧ Below w.heap.size w wr) (fun _ i _ => n - (intOf i).toNat)
    case atStart => exact ⟨0, Nat.zero_le _, rfl, rfl, Below.refl _ _⟩
    case round =>
      obtain ⟨j, hj, rfl, rfl, hbel⟩ := hrel
      by_cases hlt : j < n
      · have e1 := own_cell (H.out.below hbel) (j := j) (by rw [marks_length]; exact hlt)
        rw [marks_get] at e1
        have i0 : (0 : Int) ≤ (j : Int) := by omega
        have i1 : (j : Int) < (n : Int) := by omega
        have hgl := World.block_lt_of_cell? _ _ e1
        have hsz := hbel.size
        go_wp2_with fail
        go_region_held3 (fun w' => w'.cell? ⟨g, j, none⟩ = some (.string (mt (N + j))) ∧ Below w.heap.size w w') (first | exact ⟨by simpa using e1, hbel.drew⟩ | exact ⟨by rw [b1.cell (p := ⟨g, j, none⟩) (by simpa using hgl)]; simpa using e1, (hbel.drew).trans (b1.mono (by simpa using hsz))⟩ | go_keep)
          (first | (go_at_call 29; refine (mark_any (N + j) _ (by omega) (by omega)).mono ?_; rintro e w1 ⟨rfl, b1⟩))
        all_goals
          go_wp2
          refine ⟨⟨j + 1, by omega, by go_num, by congr 1, ?_⟩, by simp [intOf]; omega⟩
          exact (‹_ ∧ Below w.heap.size w _›).2
      · obtain rfl : j = n := by omega
        go_wp2
        go_ret
        exact ⟨rfl, hbel⟩

theorem ans_one (s : ByteArray) : ∃ b l, Ans s b l := by
  by_cases h : Ok s
  · exact ⟨_, _, .inl ⟨h, rfl, rfl⟩⟩
  · exact ⟨_, _, .inr ⟨h, rfl, rfl⟩⟩
theorem ans_same {s : ByteArray} {b b' : Bool} {l l' : List ByteArray} (h : Ans s b l) (h' : Ans s b' l') : b' = b ∧ l' = l := by
  rcases h with ⟨h, rfl, rfl⟩ | ⟨h, rfl, rfl⟩ <;> rcases h' with ⟨h', rfl, rfl⟩ | ⟨h', rfl, rfl⟩
  · exact ⟨rfl, rfl⟩
  · exact absurd h h'
  · exact absurd h' h
  · exact ⟨rfl, rfl⟩
theorem ans_len {s : ByteArray} {b : Bool} {l : List ByteArray} (h : Ans s b l) : l.length ≤ 24 := by
  rcases h with ⟨h, rfl, rfl⟩ | ⟨h, rfl, rfl⟩
  · exact h.2.2
  · simp

/-- What SplitFields leaves where the answer is known. -/
def LeftIs (b : Bool) (l : List ByteArray) (w : World) (e : Ending) (w' : World) : Prop := ∃ v : Value, e = .returned (.tuple #[v, .bool b]) ∧ Owns w' w.heap.size v l ∧ Below w.heap.size w w'
theorem left_is {s : ByteArray} {b : Bool} {l : List ByteArray} (h : Ans s b l) {w w' : World} {e : Ending} (hl : Split.Left s w e w') : LeftIs b l w e w' := by
  obtain ⟨v, b', l', he, ha, ho, hb⟩ := hl
  obtain ⟨rfl, rfl⟩ := ans_same h ha
  exact ⟨v, he, ho, hb⟩
theorem spec_is (s : ByteArray) (b : Bool) (l : List ByteArray) (h : Ans s b l) (hs : s.size ≤ 1048576) (w : World) : Calls Try.prog 15 #[.string s] w (LeftIs b l w) := (spec_split s w hs).mono fun _ _ h' => left_is h h'
theorem impl_is (s : ByteArray) (b : Bool) (l : List ByteArray) (h : Ans s b l) (hs : s.size ≤ 1048576) (w : World) : Calls Try.prog 16 #[.string s] w (LeftIs b l w) := (impl_split s w hs).mono fun _ _ h' => left_is h h'

theorem mark_one (w : World) (B : Nat) (v : Value) (l : List ByteArray) (hl : l.length ≤ 24) (hB : B ≤ w.heap.size) (h : Owns w B v l) :
    Calls Try.prog 18 #[v, .int .i64 1] w fun e w' => e = .returned (.int .i64 (1 + (l.length : Int))) ∧ Owns w' B v (marks 1 l.length) ∧ Below B w w' := by
  have := mark_all w B 1 v l (by omega) (by omega) (by omega) hB h
  simpa using this
theorem held_one (w : World) (B n : Nat) (v : Value) (hl : n ≤ 24) (h : Owns w B v (marks 1 n)) :
    Calls Try.prog 19 #[v, .int .i64 1] w fun e w' => e = .returned (.int .i64 (1 + (n : Int))) ∧ Below w.heap.size w w' := by
  have := held_all w B 1 n v (by omega) (by omega) (by omega) h
  simpa using this

end Go.Proofs.Ythemadiofegjmaa.Texts
