/-
  The drawn lines (l01Pick, DrawSplitFields) and sameTexts: what each call returns and leaves; condition: the bytes that came in can be read.
-/
import Derived.Test.YthemadiofegjmaaDoorAgain
import Derived.Test.YthemadiofegjmaaDoorText
import Derived.Test.YthemadiofegjmaaDoorNum
namespace Go.Proofs.YthemadiofegjmaaDoor.Draw
open Go.ChangeShapes Go.WideShapes Go.ChangeAt Go.RowKit
open Hex Split
set_option linter.unusedVariables false

theorem ans_one (s : ByteArray) : ∃ b l, Ans s b l := by
  by_cases h : Ok s
  · exact ⟨_, _, .inl ⟨h, rfl, rfl⟩⟩
  · exact ⟨_, _, .inr ⟨h, rfl, rfl⟩⟩
theorem ans_same {s : ByteArray} {b b' : Bool} {l l' : List ByteArray} (h : Ans s b l) (h' : Ans s b' l') : b' = b ∧ l' = l := by
  rcases h with ⟨h, rfl, rfl⟩ | ⟨h, rfl, rfl⟩ <;> rcases h' with ⟨h', rfl, rfl⟩ | ⟨h', rfl, rfl⟩
  · exact ⟨rfl, rfl⟩
  · exact absurd h h'
  · exact absurd h' h
  · exact ⟨rfl, rfl⟩
theorem ans_len {s : ByteArray} {b : Bool} {l : List ByteArray} (h : Ans s b l) : l.length ≤ 24 := by
  rcases h with ⟨h, rfl, rfl⟩ | ⟨h, rfl, rfl⟩
  · exact h.2.2
  · simp

/-- What SplitFields leaves where the answer is known. -/
def LeftIs (b : Bool) (l : List ByteArray) (w : World) (e : Ending) (w' : World) : Prop := ∃ v : Value, e = .returned (.tuple #[v, .bool b]) ∧ Owns w' w.heap.size v l ∧ Below w.heap.size w w'
theorem left_is {s : ByteArray} {b : Bool} {l : List ByteArray} (h : Ans s b l) {w w' : World} {e : Ending} (hl : Split.Left s w e w') : LeftIs b l w e w' := by
  obtain ⟨v, b', l', he, ha, ho, hb⟩ := hl
  obtain ⟨rfl, rfl⟩ := ans_same h ha
  exact ⟨v, he, ho, hb⟩
theorem spec_is (s : ByteArray) (b : Bool) (l : List ByteArray) (h : Ans s b l) (hs : s.size ≤ 1048576) (w : World) : Calls Tryd.prog 17 #[.string s] w (LeftIs b l w) := (spec_split s w hs).mono fun _ _ h' => left_is h h'
theorem impl_is (s : ByteArray) (b : Bool) (l : List ByteArray) (h : Ans s b l) (hs : s.size ≤ 1048576) (w : World) : Calls Tryd.prog 16 #[.string s] w (LeftIs b l w) := (impl_split s w hs).mono fun _ _ h' => left_is h h'


theorem own_cell {w : World} {B : Nat} {l : List ByteArray} {g n c : Nat} (h : Owns w B (.slice (some ⟨g, 0, none⟩) n c) l) {j : Nat} (hj : j < l.length) : w.cell? ⟨g, j, none⟩ = some (.string l[j]) := by
  have hx := World.ownsRow.cells h (g := g) rfl j (.string l[j]) (by simp [hj])
  by_cases h0 : j = 0
  · subst h0; simpa [Addr.add] using hx
  · simpa [Addr.add, h0] using hx

set_option maxHeartbeats 1000000 in
theorem same_any (w : World) (B1 B2 : Nat) (v1 v2 : Value) (l : List ByteArray) (hl : l.length ≤ 100000) (h1 : Owns w B1 v1 l) (h2 : Owns w B2 v2 l) :
    Calls Tryd.prog 18 #[v1, v2] w fun e w' => e = .returned (.bool true) ∧ Below w.heap.size w w' := by
  by_cases hn : l.length = 0
  · obtain ⟨p1, c1, rfl⟩ := Owns.form h1
    obtain ⟨p2, c2, rfl⟩ := Owns.form h2
    rw [hn]
    clear h1 h2 hl hn
    go_enter Tryd.func18, Tryd.ntmps18
    go_wp2
    go_loopw [5] (fun i wr => i = .int .i64 0 ∧ Below w.heap.size w wr) (fun _ _ => 0)
    case atStart => exact ⟨rfl, Below.refl _ _⟩
    case round =>
      obtain ⟨rfl, hbel⟩ := hrel
      go_wp2
      go_ret
      exact ⟨rfl, hbel⟩
  · obtain ⟨g1, c1, rfl⟩ : ∃ g c, v1 = .slice (some ⟨g, 0, none⟩) l.length c := by
      rcases own_form h1 with ⟨_, h⟩ | h
      · exact absurd h hn
      · exact h
    obtain ⟨g2, c2, rfl⟩ : ∃ g c, v2 = .slice (some ⟨g, 0, none⟩) l.length c := by
      rcases own_form h2 with ⟨_, h⟩ | h
      · exact absurd h hn
      · exact h
    have H1 := Lib.hid h1
    have H2 := Lib.hid h2
    clear h1 h2 hn
    go_enter Tryd.func18, Tryd.ntmps18
    go_wp2
    go_loopw [5] (fun i wr => ∃ k : Nat, k ≤ l.length ∧ i = .int .i64 (k : Int) ∧ Below w.heap.size w wr) (fun i _ => l.length - (intOf i).toNat)
    case atStart => exact ⟨0, Nat.zero_le _, rfl, Below.refl _ _⟩
    case round =>
      obtain ⟨k, hk, rfl, hbel⟩ := hrel
      by_cases hlt : k < l.length
      · have e1 := own_cell (H1.out.below hbel) hlt
        have e2 := own_cell (H2.out.below hbel) hlt
        have i0 : (0 : Int) ≤ (k : Int) := by omega
        have i1 : (k : Int) < (l.length : Int) := by omega
        go_wp2
        go_quiet (fail)
        go_wp2
        refine ⟨⟨k + 1, by omega, by go_num, ⟨hbel.os, hbel.tape, hbel.output, hbel.size, hbel.block⟩⟩, by simp [intOf]; omega⟩
      · go_wp2
        go_ret
        exact ⟨rfl, hbel⟩

theorem pick_on (W w0 w : World) (b : Nat) (a : Option Addr) (len cap : Nat) (z : List Int) (g n c : Nat) (hg : g ≠ b) (hn : 0 < n) (hm : n ≤ 1000000) (hc : ∀ k, k < n → ∃ q : ByteArray, q.size ≤ 2 ∧ w.cell? ⟨g, k, none⟩ = some (.string q)) (d : Drawn W a len cap z b w0 w) :
    Calls Tryd.prog 30 #[.pointer (some ⟨b, 0, none⟩), .slice (some ⟨g, 0, none⟩) n c] w fun e w' => ∃ q : ByteArray, q.size ≤ 2 ∧ e = .returned (.string q) ∧ Drawn W a len cap z b w0 w' := by
  have HC : Hid (∀ k, k < n → ∃ q : ByteArray, q.size ≤ 2 ∧ w.cell? ⟨g, k, none⟩ = some (.string q)) := hc
  clear hc
  have d0 := d.1.same
  have HD : Hid (Drawn W a len cap z b w0 w) := d
  clear d
  go_enter Tryd.func30, Tryd.ntmps30
  go_wp2_with (go_at_call 24; refine (below_on W w _ b a len cap z n (by assumption)).mono ?_; rintro e w' ⟨r, hr, rfl, d1⟩; obtain ⟨k, rfl⟩ := Int.eq_ofNat_of_zero_le hr.1; have hk : (k : Int) < n := hr.2.1 (by omega); obtain ⟨q, hq, hcq⟩ := HC.out k (by omega); have hcq' := d1.2.cell hcq (by intro e; exact hg (by simpa using e)))
  go_ret
  exact ⟨_, hq, rfl, HD.out.trans d1⟩

/-- The six endings of a drawn line. -/
theorem six_cells (w : World) (T : TypeId) : ∀ k, k < 6 → ∃ q : ByteArray, q.size ≤ 2 ∧ (w.alloc (.cells #[.string { data := #[32] }, .string { data := #[32, 32] }, .string { data := #[9] }, .string { data := #[10] }, .string { data := #[127] }, .string { data := #[233] }] T)).cell? ⟨w.heap.size, k, none⟩ = some (.string q) := by
  intro k hk
  have h : k = 0 ∨ k = 1 ∨ k = 2 ∨ k = 3 ∨ k = 4 ∨ k = 5 := by omega
  rcases h with rfl | rfl | rfl | rfl | rfl | rfl
  all_goals
    refine ⟨_, ?_, by simp [go_sem]; rfl⟩
    decide

/-- string([]byte{x}) -/
theorem one_on (w : World) (x : Int) : (convert 22 9 (.slice (some ⟨w.heap.size, 0, none⟩) 1 1)).run Tryd.prog (w.alloc (.cells #[.int .u8 x] 5)) = .ok (.string ⟨#[UInt8.ofNat x.toNat]⟩) (w.alloc (.cells #[.int .u8 x] 5)) := Num.one_str w x

theorem long_on (W w0 w : World) (b : Nat) (a : Option Addr) (len cap : Nat) (z : List Int) (n x : Int) (h0 : 0 ≤ n) (h1 : n ≤ 1000000) (d : Drawn W a len cap z b w0 w) :
    Calls Tryd.prog 23 #[.int .i64 n, .int .u8 x] w fun e w' => ∃ s : ByteArray, (s.size : Int) = n ∧ e = .returned (.string s) ∧ Drawn W a len cap z b w0 w' := by
  obtain ⟨k, rfl⟩ := Int.eq_ofNat_of_zero_le h0
  exact (Draw.long_any k x w (by omega)).mono fun e w' ⟨s, hs, he, hb⟩ => ⟨s, by rw [hs], he, d.grown (row := none) ⟨hb.os, hb.tape, hb.output, hb.size, fun k hk _ => hb.block k hk⟩ (fun k hk => by cases hk)⟩

set_option maxRecDepth 100000 in
set_option maxHeartbeats 2000000 in
theorem line_any (w : World) (a : Option Addr) (len cap : Nat) (z : List Int) (h : IsRow .u8 w a len cap z) :
    Calls Tryd.prog 15 #[.slice a len cap] w fun e w' => ∃ s : ByteArray, s.size ≤ 1000 ∧ e = .returned (.string s) ∧ Below w.heap.size w w' := by
  go_enter Tryd.func15, Tryd.ntmps15
  go_wp2_with (first
    | (go_at_call 21; refine (new_any w _ _ _ z h).mono ?_; rintro e w' ⟨rfl, d1⟩; have d2 := d1.same; clear d1)
    | (go_at_call 22; refine (once_on w _ _ _ a len cap z _ (by assumption)).mono ?_; rintro e w' ⟨r, rfl, d1⟩; cases r)
    | (go_at_call 24; refine (below_on w _ _ _ a len cap z _ (by assumption)).mono ?_; rintro e w' ⟨q, ⟨hq0, hq1, hq2⟩, rfl, d1⟩; have hq3 := hq1 (by omega)))
  · obtain ⟨M, rfl⟩ : ∃ M : Int, M = q := ⟨_, rfl⟩
    have hM0 : 0 ≤ M := by omega
    have hM1 : M ≤ 25 := by omega
    have hd := d1.1
    clear d1 hq0 hq1 hq2 hq3
    go_loopw [5, 6] (fun s i wr => ∃ (k : Nat) (t : ByteArray), (k : Int) ≤ M ∧ i = .int .i64 (k : Int) ∧ s = .string t ∧ t.size ≤ 8 * k ∧ Draws w a len cap z w.heap.size wr) (fun _ i _ => (M - intOf i).toNat)
    case atStart => exact ⟨0, ⟨#[]⟩, by omega, rfl, rfl, by decide, hd⟩
    case round =>
      obtain ⟨k, t, hk, rfl, rfl, ht, hdr⟩ := hrel
      have d2 := hdr.same
      clear hd
      by_cases hlt : (k : Int) < M
      · by_cases hk0 : (0 : Int) < (k : Int)
        · go_wp2_with (go_at_call 24; ((with_reducible refine (below_on w _ _ _ a len cap z 2 d2).mono ?_); rintro e w1 ⟨q1, ⟨hq0, hq1, hq2⟩, rfl, d3⟩; have hq3 := hq1 (by omega); clear hq1 hq2))
          go_wp2_with (go_at_call 24; ((with_reducible refine (below_on w _ _ _ a len cap z 3 d3).mono ?_); rintro e w2 ⟨q2, ⟨hr0, hr1, hr2⟩, rfl, d4⟩; have hr3 := hr1 (by omega); have hp0 : 0 ≤ q1 * q2 := Int.mul_nonneg hq0 hr0; have hp1 : q1 * q2 ≤ 2 := Int.le_trans (Int.mul_le_mul (by omega : q1 ≤ 1) (by omega : q2 ≤ 2) hr0 (by omega)) (by omega); clear hr1 hr2))
          go_wp2_with (go_at_call 23; ((with_reducible refine (long_on w _ _ _ a len cap z _ _ (by omega) (by omega) d4).mono ?_); rintro e w3 ⟨u, hu, rfl, d5⟩))
          have hT : (t ++ u).size ≤ 8 * k + 3 := by rw [ByteArray.size_append]; omega
          generalize t ++ u = T at hT ⊢
          clear hu hp0 hp1 hq0 hq3 hr0 hr3 d2 d3 d4 hdr
          go_loopw [5, 7] (fun s i wi => ∃ (j : Nat) (x : ByteArray), j ≤ 5 ∧ i = .int .i64 (j : Int) ∧ s = .string x ∧ x.size ≤ 8 * k + 3 + j ∧ Draws w a len cap z w.heap.size wi) (fun _ i _ => (5 - intOf i).toNat)
          case atStart => exact ⟨0, T, by omega, rfl, rfl, by omega, d5.1⟩
          case round =>
            obtain ⟨j, x, hj, rfl, rfl, hx, hdi⟩ := hrel
            have e2 := hdi.same
            clear hdi d5
            go_wp2_with (go_at_call 24; ((with_reducible refine (below_on w _ _ _ a len cap z 5 e2).mono ?_); rintro e w4 ⟨q3, ⟨ha0, ha1, ha2⟩, rfl, e3⟩; have ha3 := ha1 (by omega); clear ha1 ha2 e2; by_cases hjq : (j : Int) ≤ q3))
            · go_wp2_with (go_at_call 24; ((with_reducible refine (below_on w _ _ _ a len cap z 94 e3).mono ?_); rintro e w5 ⟨q4, ⟨hb0, hb1, hb2⟩, rfl, e4⟩; have hb3 := hb1 (by omega); have hcv := one_on w5 (33 + q4); clear hb1 hb2 e3))
              refine ⟨⟨j + 1, x ++ { data := #[UInt8.ofNat (33 + q4).toNat] }, by omega, by go_num, rfl, ?_, (e4.alloc _).1⟩, by simp [intOf]; omega⟩
              rw [ByteArray.size_append]
              show x.size + 1 ≤ _
              omega
            · go_wp2
              exact ⟨⟨k + 1, x, by omega, by go_num, rfl, by omega, e3.1⟩, by simp [intOf]; omega⟩
        · go_wp2_with (first | (go_at_call 22; ((with_reducible refine (once_on w _ _ _ a len cap z 5 d2).mono ?_); rintro e w0 ⟨r, rfl, d2⟩; cases r)) | (go_at_call 24; ((with_reducible refine (below_on w _ _ _ a len cap z 2 d2).mono ?_); rintro e w1 ⟨q1, ⟨hq0, hq1, hq2⟩, rfl, d3⟩; have hq3 := hq1 (by omega); clear hq1 hq2)) | (go_at_call 24; ((with_reducible refine (below_on w _ _ _ a len cap z 3 d3).mono ?_); rintro e w2 ⟨q2, ⟨hr0, hr1, hr2⟩, rfl, d4⟩; have hr3 := hr1 (by omega); have hp0 : 0 ≤ q1 * q2 := Int.mul_nonneg hq0 hr0; have hp1 : q1 * q2 ≤ 2 := Int.le_trans (Int.mul_le_mul (by omega : q1 ≤ 1) (by omega : q2 ≤ 2) hr0 (by omega)) (by omega); clear hr1 hr2)) | (go_at_call 23; ((with_reducible refine (long_on w _ _ _ a len cap z _ _ (by omega) (by omega) d4).mono ?_); rintro e w3 ⟨u, hu, rfl, d5⟩)))
          · have hT : t.size ≤ 8 * k + 3 := by omega
            have d5 := d2
            generalize t = T at hT ⊢
            clear d2 hdr
            go_loopw [5, 7] (fun s i wi => ∃ (j : Nat) (x : ByteArray), j ≤ 5 ∧ i = .int .i64 (j : Int) ∧ s = .string x ∧ x.size ≤ 8 * k + 3 + j ∧ Draws w a len cap z w.heap.size wi) (fun _ i _ => (5 - intOf i).toNat)
            case atStart => exact ⟨0, T, by omega, rfl, rfl, by omega, d5.1⟩
            case round =>
              obtain ⟨j, x, hj, rfl, rfl, hx, hdi⟩ := hrel
              have e2 := hdi.same
              clear hdi d5
              go_wp2_with (go_at_call 24; ((with_reducible refine (below_on w _ _ _ a len cap z 5 e2).mono ?_); rintro e w4 ⟨q3, ⟨ha0, ha1, ha2⟩, rfl, e3⟩; have ha3 := ha1 (by omega); clear ha1 ha2 e2; by_cases hjq : (j : Int) ≤ q3))
              · go_wp2_with (go_at_call 24; ((with_reducible refine (below_on w _ _ _ a len cap z 94 e3).mono ?_); rintro e w5 ⟨q4, ⟨hb0, hb1, hb2⟩, rfl, e4⟩; have hb3 := hb1 (by omega); have hcv := one_on w5 (33 + q4); clear hb1 hb2 e3))
                refine ⟨⟨j + 1, x ++ { data := #[UInt8.ofNat (33 + q4).toNat] }, by omega, by go_num, rfl, ?_, (e4.alloc _).1⟩, by simp [intOf]; omega⟩
                rw [ByteArray.size_append]
                show x.size + 1 ≤ _
                omega
              · go_wp2
                exact ⟨⟨k + 1, x, by omega, by go_num, rfl, by omega, e3.1⟩, by simp [intOf]; omega⟩
          · have hT : (t ++ u).size ≤ 8 * k + 3 := by rw [ByteArray.size_append]; omega
            generalize t ++ u = T at hT ⊢
            clear hu hp0 hp1 hq0 hq3 hr0 hr3 d3 d4 hdr
            go_loopw [5, 7] (fun s i wi => ∃ (j : Nat) (x : ByteArray), j ≤ 5 ∧ i = .int .i64 (j : Int) ∧ s = .string x ∧ x.size ≤ 8 * k + 3 + j ∧ Draws w a len cap z w.heap.size wi) (fun _ i _ => (5 - intOf i).toNat)
            case atStart => exact ⟨0, T, by omega, rfl, rfl, by omega, d5.1⟩
            case round =>
              obtain ⟨j, x, hj, rfl, rfl, hx, hdi⟩ := hrel
              have e2 := hdi.same
              clear hdi d5
              go_wp2_with (go_at_call 24; ((with_reducible refine (below_on w _ _ _ a len cap z 5 e2).mono ?_); rintro e w4 ⟨q3, ⟨ha0, ha1, ha2⟩, rfl, e3⟩; have ha3 := ha1 (by omega); clear ha1 ha2 e2; by_cases hjq : (j : Int) ≤ q3))
              · go_wp2_with (go_at_call 24; ((with_reducible refine (below_on w _ _ _ a len cap z 94 e3).mono ?_); rintro e w5 ⟨q4, ⟨hb0, hb1, hb2⟩, rfl, e4⟩; have hb3 := hb1 (by omega); have hcv := one_on w5 (33 + q4); clear hb1 hb2 e3))
                refine ⟨⟨j + 1, x ++ { data := #[UInt8.ofNat (33 + q4).toNat] }, by omega, by go_num, rfl, ?_, (e4.alloc _).1⟩, by simp [intOf]; omega⟩
                rw [ByteArray.size_append]
                show x.size + 1 ≤ _
                omega
              · go_wp2
                exact ⟨⟨k + 1, x, by omega, by go_num, rfl, by omega, e3.1⟩, by simp [intOf]; omega⟩
      · have ht2 : t.size ≤ 200 := by omega
        have ht3 : (t.size : Int) < 600 := by omega
        go_wp2_with (first
          | (go_at_call 24; ((with_reducible refine (below_on w _ _ _ a len cap z 12 d2).mono ?_); rintro e w1 ⟨q1, ⟨hq0, hq1, hq2⟩, rfl, d3⟩; clear hq1 hq2))
          | (go_at_call 30; ((refine (pick_on w _ _ _ a len cap z _ _ _ (Drawn.ne d3) (by decide) (by decide) (six_cells _ _) (Drawn.alloc d3 _)).mono ?_); rintro e w2 ⟨p, hp, rfl, d4⟩))
          | (go_at_call 24; ((with_reducible refine (below_on w _ _ _ a len cap z 2 d3).mono ?_); rintro e w2 ⟨q2, ⟨hr0, hr1, hr2⟩, rfl, d4⟩; have hr3 := hr1 (by omega); clear hr1 hr2))
          | (go_at_call 23; ((with_reducible refine (long_on w _ _ _ a len cap z _ _ (by omega) (by omega) d4).mono ?_); rintro e w3 ⟨u, hu, rfl, d5⟩)))
        all_goals go_ret
        · exact ⟨_, by rw [ByteArray.size_append]; omega, rfl, d4.1.below⟩
        · exact ⟨_, by rw [ByteArray.size_append]; omega, rfl, d5.1.below⟩
        · exact ⟨_, by omega, rfl, d3.1.below⟩
  · generalize hM : 24 + q = M
    have hM0 : 0 ≤ M := by omega
    have hM1 : M ≤ 25 := by omega
    have hd := d1.1
    clear hM d1 hq0 hq1 hq2 hq3
    go_loopw [5, 6] (fun s i wr => ∃ (k : Nat) (t : ByteArray), (k : Int) ≤ M ∧ i = .int .i64 (k : Int) ∧ s = .string t ∧ t.size ≤ 8 * k ∧ Draws w a len cap z w.heap.size wr) (fun _ i _ => (M - intOf i).toNat)
    case atStart => exact ⟨0, ⟨#[]⟩, by omega, rfl, rfl, by decide, hd⟩
    case round =>
      obtain ⟨k, t, hk, rfl, rfl, ht, hdr⟩ := hrel
      have d2 := hdr.same
      clear hd
      by_cases hlt : (k : Int) < M
      · by_cases hk0 : (0 : Int) < (k : Int)
        · go_wp2_with (go_at_call 24; ((with_reducible refine (below_on w _ _ _ a len cap z 2 d2).mono ?_); rintro e w1 ⟨q1, ⟨hq0, hq1, hq2⟩, rfl, d3⟩; have hq3 := hq1 (by omega); clear hq1 hq2))
          go_wp2_with (go_at_call 24; ((with_reducible refine (below_on w _ _ _ a len cap z 3 d3).mono ?_); rintro e w2 ⟨q2, ⟨hr0, hr1, hr2⟩, rfl, d4⟩; have hr3 := hr1 (by omega); have hp0 : 0 ≤ q1 * q2 := Int.mul_nonneg hq0 hr0; have hp1 : q1 * q2 ≤ 2 := Int.le_trans (Int.mul_le_mul (by omega : q1 ≤ 1) (by omega : q2 ≤ 2) hr0 (by omega)) (by omega); clear hr1 hr2))
          go_wp2_with (go_at_call 23; ((with_reducible refine (long_on w _ _ _ a len cap z _ _ (by omega) (by omega) d4).mono ?_); rintro e w3 ⟨u, hu, rfl, d5⟩))
          have hT : (t ++ u).size ≤ 8 * k + 3 := by rw [ByteArray.size_append]; omega
          generalize t ++ u = T at hT ⊢
          clear hu hp0 hp1 hq0 hq3 hr0 hr3 d2 d3 d4 hdr
          go_loopw [5, 7] (fun s i wi => ∃ (j : Nat) (x : ByteArray), j ≤ 5 ∧ i = .int .i64 (j : Int) ∧ s = .string x ∧ x.size ≤ 8 * k + 3 + j ∧ Draws w a len cap z w.heap.size wi) (fun _ i _ => (5 - intOf i).toNat)
          case atStart => exact ⟨0, T, by omega, rfl, rfl, by omega, d5.1⟩
          case round =>
            obtain ⟨j, x, hj, rfl, rfl, hx, hdi⟩ := hrel
            have e2 := hdi.same
            clear hdi d5
            go_wp2_with (go_at_call 24; ((with_reducible refine (below_on w _ _ _ a len cap z 5 e2).mono ?_); rintro e w4 ⟨q3, ⟨ha0, ha1, ha2⟩, rfl, e3⟩; have ha3 := ha1 (by omega); clear ha1 ha2 e2; by_cases hjq : (j : Int) ≤ q3))
            · go_wp2_with (go_at_call 24; ((with_reducible refine (below_on w _ _ _ a len cap z 94 e3).mono ?_); rintro e w5 ⟨q4, ⟨hb0, hb1, hb2⟩, rfl, e4⟩; have hb3 := hb1 (by omega); have hcv := one_on w5 (33 + q4); clear hb1 hb2 e3))
              refine ⟨⟨j + 1, x ++ { data := #[UInt8.ofNat (33 + q4).toNat] }, by omega, by go_num, rfl, ?_, (e4.alloc _).1⟩, by simp [intOf]; omega⟩
              rw [ByteArray.size_append]
              show x.size + 1 ≤ _
              omega
            · go_wp2
              exact ⟨⟨k + 1, x, by omega, by go_num, rfl, by omega, e3.1⟩, by simp [intOf]; omega⟩
        · go_wp2_with (first | (go_at_call 22; ((with_reducible refine (once_on w _ _ _ a len cap z 5 d2).mono ?_); rintro e w0 ⟨r, rfl, d2⟩; cases r)) | (go_at_call 24; ((with_reducible refine (below_on w _ _ _ a len cap z 2 d2).mono ?_); rintro e w1 ⟨q1, ⟨hq0, hq1, hq2⟩, rfl, d3⟩; have hq3 := hq1 (by omega); clear hq1 hq2)) | (go_at_call 24; ((with_reducible refine (below_on w _ _ _ a len cap z 3 d3).mono ?_); rintro e w2 ⟨q2, ⟨hr0, hr1, hr2⟩, rfl, d4⟩; have hr3 := hr1 (by omega); have hp0 : 0 ≤ q1 * q2 := Int.mul_nonneg hq0 hr0; have hp1 : q1 * q2 ≤ 2 := Int.le_trans (Int.mul_le_mul (by omega : q1 ≤ 1) (by omega : q2 ≤ 2) hr0 (by omega)) (by omega); clear hr1 hr2)) | (go_at_call 23; ((with_reducible refine (long_on w _ _ _ a len cap z _ _ (by omega) (by omega) d4).mono ?_); rintro e w3 ⟨u, hu, rfl, d5⟩)))
          · have hT : t.size ≤ 8 * k + 3 := by omega
            have d5 := d2
            generalize t = T at hT ⊢
            clear d2 hdr
            go_loopw [5, 7] (fun s i wi => ∃ (j : Nat) (x : ByteArray), j ≤ 5 ∧ i = .int .i64 (j : Int) ∧ s = .string x ∧ x.size ≤ 8 * k + 3 + j ∧ Draws w a len cap z w.heap.size wi) (fun _ i _ => (5 - intOf i).toNat)
            case atStart => exact ⟨0, T, by omega, rfl, rfl, by omega, d5.1⟩
            case round =>
              obtain ⟨j, x, hj, rfl, rfl, hx, hdi⟩ := hrel
              have e2 := hdi.same
              clear hdi d5
              go_wp2_with (go_at_call 24; ((with_reducible refine (below_on w _ _ _ a len cap z 5 e2).mono ?_); rintro e w4 ⟨q3, ⟨ha0, ha1, ha2⟩, rfl, e3⟩; have ha3 := ha1 (by omega); clear ha1 ha2 e2; by_cases hjq : (j : Int) ≤ q3))
              · go_wp2_with (go_at_call 24; ((with_reducible refine (below_on w _ _ _ a len cap z 94 e3).mono ?_); rintro e w5 ⟨q4, ⟨hb0, hb1, hb2⟩, rfl, e4⟩; have hb3 := hb1 (by omega); have hcv := one_on w5 (33 + q4); clear hb1 hb2 e3))
                refine ⟨⟨j + 1, x ++ { data := #[UInt8.ofNat (33 + q4).toNat] }, by omega, by go_num, rfl, ?_, (e4.alloc _).1⟩, by simp [intOf]; omega⟩
                rw [ByteArray.size_append]
                show x.size + 1 ≤ _
                omega
              · go_wp2
                exact ⟨⟨k + 1, x, by omega, by go_num, rfl, by omega, e3.1⟩, by simp [intOf]; omega⟩
          · have hT : (t ++ u).size ≤ 8 * k + 3 := by rw [ByteArray.size_append]; omega
            generalize t ++ u = T at hT ⊢
            clear hu hp0 hp1 hq0 hq3 hr0 hr3 d3 d4 hdr
            go_loopw [5, 7] (fun s i wi => ∃ (j : Nat) (x : ByteArray), j ≤ 5 ∧ i = .int .i64 (j : Int) ∧ s = .string x ∧ x.size ≤ 8 * k + 3 + j ∧ Draws w a len cap z w.heap.size wi) (fun _ i _ => (5 - intOf i).toNat)
            case atStart => exact ⟨0, T, by omega, rfl, rfl, by omega, d5.1⟩
            case round =>
              obtain ⟨j, x, hj, rfl, rfl, hx, hdi⟩ := hrel
              have e2 := hdi.same
              clear hdi d5
              go_wp2_with (go_at_call 24; ((with_reducible refine (below_on w _ _ _ a len cap z 5 e2).mono ?_); rintro e w4 ⟨q3, ⟨ha0, ha1, ha2⟩, rfl, e3⟩; have ha3 := ha1 (by omega); clear ha1 ha2 e2; by_cases hjq : (j : Int) ≤ q3))
              · go_wp2_with (go_at_call 24; ((with_reducible refine (below_on w _ _ _ a len cap z 94 e3).mono ?_); rintro e w5 ⟨q4, ⟨hb0, hb1, hb2⟩, rfl, e4⟩; have hb3 := hb1 (by omega); have hcv := one_on w5 (33 + q4); clear hb1 hb2 e3))
                refine ⟨⟨j + 1, x ++ { data := #[UInt8.ofNat (33 + q4).toNat] }, by omega, by go_num, rfl, ?_, (e4.alloc _).1⟩, by simp [intOf]; omega⟩
                rw [ByteArray.size_append]
                show x.size + 1 ≤ _
                omega
              · go_wp2
                exact ⟨⟨k + 1, x, by omega, by go_num, rfl, by omega, e3.1⟩, by simp [intOf]; omega⟩
      · have ht2 : t.size ≤ 200 := by omega
        have ht3 : (t.size : Int) < 600 := by omega
        go_wp2_with (first
          | (go_at_call 24; ((with_reducible refine (below_on w _ _ _ a len cap z 12 d2).mono ?_); rintro e w1 ⟨q1, ⟨hq0, hq1, hq2⟩, rfl, d3⟩; clear hq1 hq2))
          | (go_at_call 30; ((refine (pick_on w _ _ _ a len cap z _ _ _ (Drawn.ne d3) (by decide) (by decide) (six_cells _ _) (Drawn.alloc d3 _)).mono ?_); rintro e w2 ⟨p, hp, rfl, d4⟩))
          | (go_at_call 24; ((with_reducible refine (below_on w _ _ _ a len cap z 2 d3).mono ?_); rintro e w2 ⟨q2, ⟨hr0, hr1, hr2⟩, rfl, d4⟩; have hr3 := hr1 (by omega); clear hr1 hr2))
          | (go_at_call 23; ((with_reducible refine (long_on w _ _ _ a len cap z _ _ (by omega) (by omega) d4).mono ?_); rintro e w3 ⟨u, hu, rfl, d5⟩)))
        all_goals go_ret
        · exact ⟨_, by rw [ByteArray.size_append]; omega, rfl, d4.1.below⟩
        · exact ⟨_, by rw [ByteArray.size_append]; omega, rfl, d5.1.below⟩
        · exact ⟨_, by omega, rfl, d3.1.below⟩

end Go.Proofs.YthemadiofegjmaaDoor.Draw
