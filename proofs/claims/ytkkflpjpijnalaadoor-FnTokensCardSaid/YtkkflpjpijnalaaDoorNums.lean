/-
  The numbers from -999 to 999 as texts, and the model's l04Number; condition: at most 1048576 bytes.
-/
import Derived.Test.YtkkflpjpijnalaaDoorScan
import Derived.Test.YtkkflpjpijnalaaDoorParse
import Derived.Test.YtkkflpjpijnalaaDoorAgain
import Derived.BigQuiet
import Derived.Deep.QuietTactic
namespace Go.Proofs.YtkkflpjpijnalaaDoor.Nums
open Go.ChangeShapes Go.WideShapes Go.ChangeAt Go.RowKit
open Kit Num Scan
open Split (byt byt_in byt_end)
set_option linter.unusedVariables false
set_option linter.unusedSimpArgs false
set_option linter.unnecessarySimpa false
set_option maxRecDepth 100000

theorem digits_inj {u v : Nat} (h : Lib.decDigits u = Lib.decDigits v) : u = v := by
  have h1 := dec_digits u
  rw [h, dec_digits v] at h1
  exact (Option.some.inj h1).symm

theorem digit_nat {d : Nat} (h : d < 10) : (UInt8.ofNat (48 + d)).toNat = 48 + d := by
  have : d = 0 ∨ d = 1 ∨ d = 2 ∨ d = 3 ∨ d = 4 ∨ d = 5 ∨ d = 6 ∨ d = 7 ∨ d = 8 ∨ d = 9 := by omega
  rcases this with rfl | rfl | rfl | rfl | rfl | rfl | rfl | rfl | rfl | rfl <;> rfl

theorem digits_range (u : Nat) : ∀ c ∈ Lib.decDigits u, 48 ≤ c.toNat ∧ c.toNat ≤ 57 := by
  induction u using Nat.strongRecOn with
  | _ u ih =>
    intro c hc
    by_cases h : u < 10
    · rw [Lib.decDigits_one h, List.mem_singleton] at hc
      subst hc
      rw [digit_nat h]; omega
    · rw [Lib.decDigits, dif_neg h, List.mem_append] at hc
      rcases hc with hc | hc
      · exact ih (u / 10) (by omega) c hc
      · rw [List.mem_singleton] at hc
        subst hc
        rw [digit_nat (by omega)]; omega

theorem txt_minus {u : Nat} (h : 1 ≤ u) : (txt (-(u : Int))).data.toList = 45 :: Lib.decDigits u := by
  unfold txt; rw [Lib.itoa_neg u h]

/-- Two numbers with one text are one. -/
theorem txt_inj {m n : Int} (h : txt m = txt n) : m = n := by
  have h1 : (txt m).data.toList = (txt n).data.toList := by rw [h]
  have no : ∀ (u v : Nat), 1 ≤ u → 45 :: Lib.decDigits u ≠ Lib.decDigits v := by
    intro u v _ he
    have := digits_range v 45 (by rw [← he]; simp)
    have h45 : (45 : UInt8).toNat = 45 := rfl
    omega
  rcases Int.lt_or_le m 0 with hm | hm <;> rcases Int.lt_or_le n 0 with hn | hn
  · obtain ⟨u, rfl⟩ : ∃ u : Nat, m = -(u : Int) := ⟨m.natAbs, by omega⟩
    obtain ⟨v, rfl⟩ : ∃ v : Nat, n = -(v : Int) := ⟨n.natAbs, by omega⟩
    rw [txt_minus (by omega), txt_minus (by omega), List.cons.injEq] at h1
    rw [digits_inj h1.2]
  · obtain ⟨u, rfl⟩ : ∃ u : Nat, m = -(u : Int) := ⟨m.natAbs, by omega⟩
    obtain ⟨v, rfl⟩ : ∃ v : Nat, n = v := ⟨n.toNat, by omega⟩
    rw [txt_minus (by omega), txt_list] at h1
    exact absurd h1 (no u v (by omega))
  · obtain ⟨u, rfl⟩ : ∃ u : Nat, m = u := ⟨m.toNat, by omega⟩
    obtain ⟨v, rfl⟩ : ∃ v : Nat, n = -(v : Int) := ⟨n.natAbs, by omega⟩
    rw [txt_minus (by omega), txt_list] at h1
    exact absurd h1.symm (no v u (by omega))
  · obtain ⟨u, rfl⟩ : ∃ u : Nat, m = u := ⟨m.toNat, by omega⟩
    obtain ⟨v, rfl⟩ : ∃ v : Nat, n = v := ⟨n.toNat, by omega⟩
    rw [txt_list, txt_list] at h1
    rw [digits_inj h1]

/-- The number from -999 to 999 that a text denotes. -/
def numOf (s : ByteArray) : Option Int := ((List.range 1999).map fun k : Nat => (k : Int) - 999).find? fun m => decide (txt m = s)

theorem numOf_some {s : ByteArray} {m : Int} (h0 : -999 ≤ m) (h1 : m ≤ 999) (h : s = txt m) : numOf s = some m := by
  unfold numOf
  cases hf : ((List.range 1999).map fun k : Nat => (k : Int) - 999).find? fun m => decide (txt m = s) with
  | none =>
    rw [List.find?_eq_none] at hf
    exact absurd (hf m (by simp only [List.mem_map, List.mem_range]; exact ⟨(m + 999).toNat, by omega, by omega⟩)) (by simp [h])
  | some x =>
    have hx := List.find?_some hf
    simp only [decide_eq_true_eq] at hx
    rw [txt_inj (hx.trans h)]

theorem numOf_is {s : ByteArray} {m : Int} (h : numOf s = some m) : -999 ≤ m ∧ m ≤ 999 ∧ s = txt m := by
  unfold numOf at h
  have h1 := List.mem_of_find?_eq_some h
  have h2 := List.find?_some h
  simp only [decide_eq_true_eq] at h2
  simp only [List.mem_map, List.mem_range] at h1
  obtain ⟨k, hk, rfl⟩ := h1
  exact ⟨by omega, by omega, h2.symm⟩

theorem numOf_none {s : ByteArray} (h : ∀ m : Int, -999 ≤ m → m ≤ 999 → s ≠ txt m) : numOf s = none := by
  cases hf : numOf s with
  | none => rfl
  | some m =>
    obtain ⟨h0, h1, h2⟩ := numOf_is hf
    exact absurd h2 (h m h0 h1)

/-- What l04Number says. -/
def NumAns (s : ByteArray) (e : Ending) : Prop := ∃ x : Int, e = .returned (.tuple #[.int .i64 x, .bool (numOf s).isSome]) ∧ ∀ m, numOf s = some m → x = m

theorem num_yes {s : ByteArray} {m : Int} {b : Bool} (h0 : -999 ≤ m) (h1 : m ≤ 999) (h : s = txt m) (hb : b = true) : NumAns s (.returned (.tuple #[.int .i64 m, .bool b])) := by
  subst hb
  have := numOf_some h0 h1 h
  exact ⟨m, by rw [this]; rfl, fun k hk => by rw [this] at hk; exact Option.some.inj hk⟩

theorem num_no {s : ByteArray} (x : Int) {b : Bool} (h : ∀ m : Int, -999 ≤ m → m ≤ 999 → s ≠ txt m) (hb : b = false) : NumAns s (.returned (.tuple #[.int .i64 x, .bool b])) := by
  subst hb
  have := numOf_none h
  exact ⟨x, by rw [this]; rfl, fun k hk => by rw [this] at hk; cases hk⟩

theorem list_ext {s t : ByteArray} (h : s.data.toList = t.data.toList) : s = t := by
  apply ByteArray.ext; apply Array.ext'; exact h

/-- A text behind a minus. -/
theorem minus_list {s : ByteArray} (h : 1 < s.size) (h0 : byt s 0 = 45) : s.data.toList = 45 :: (s.extract 1 s.size).data.toList := by
  rw [byt_in s 0 (by omega)] at h0
  have h1 : 0 < s.data.toList.length := by simp; omega
  have h2 : s.data.toList[0] = 45 := by
    have : s[0] = s.data.toList[0] := rfl
    rw [← this]
    apply UInt8.toNat_inj.1
    have h45 : (45 : UInt8).toNat = 45 := rfl
    omega
  have h3 : (s.extract 1 s.size).data.toList = s.data.toList.drop 1 := by
    rw [Split.extract_list]
    rw [List.take_of_length_le (by simp)]
  rw [h3, ← h2]
  exact (List.drop_eq_getElem_cons (i := 0) h1).symm ▸ rfl

theorem minus_back {s : ByteArray} (h : 1 < s.size) (h0 : byt s 0 = 45) {u : Nat} (hu : 1 ≤ u) : s = txt (-(u : Int)) ↔ s.extract 1 s.size = txt (u : Int) := by
  have hl := minus_list h h0
  constructor
  · intro e
    apply list_ext
    rw [txt_list]
    have : s.data.toList = 45 :: Lib.decDigits u := (congrArg (fun t : ByteArray => t.data.toList) e).trans (txt_minus hu)
    rw [hl, List.cons.injEq] at this
    exact this.2
  · intro e
    apply list_ext
    rw [txt_minus hu, hl, e, txt_list]

theorem minus_only {s : ByteArray} {m : Int} (h : s = txt m) : (m < 0 ↔ (1 < s.size ∧ byt s 0 = 45)) := by
  subst h
  rcases Int.lt_or_le m 0 with hm | hm
  · obtain ⟨u, rfl⟩ : ∃ u : Nat, m = -(u : Int) := ⟨m.natAbs, by omega⟩
    have h1 := txt_minus (u := u) (by omega)
    refine ⟨fun _ => ?_, fun _ => hm⟩
    have hlen : (txt (-(u : Int))).size = (Lib.decDigits u).length + 1 := by
      have := congrArg List.length h1; simpa using this
    have hne : 0 < (Lib.decDigits u).length := by rw [Lib.decDigits_length]; exact Lib.nDigits_pos u
    refine ⟨by omega, ?_⟩
    have h2 : (txt (-(u : Int))).data.toList[0]? = some 45 := by rw [h1]; rfl
    exact (Split.byt_list h2).2
  · obtain ⟨u, rfl⟩ : ∃ u : Nat, m = u := ⟨m.toNat, by omega⟩
    refine ⟨fun h => by omega, fun ⟨h1, h2⟩ => ?_⟩
    exfalso
    have h3 := txt_list u
    have h4 : 0 < (Lib.decDigits u).length := by rw [Lib.decDigits_length]; exact Lib.nDigits_pos u
    have h5 : (txt (u : Int)).data.toList[0]? = some ((Lib.decDigits u)[0]'h4) := by rw [h3]; exact List.getElem?_eq_getElem h4
    have h6 := (Split.byt_list h5).2
    have h7 := digits_range u _ (List.getElem_mem (l := Lib.decDigits u) (n := 0) h4)
    omega

theorem parse_any (s : ByteArray) (hm : s.size ≤ 1048576) : (∃ n : Nat, n ≤ 1000000000 ∧ s = txt (n : Int) ∧ ∀ w : World, Calls Tryd.prog 45 #[.string s] w fun e w' => e = .returned (.tuple #[.int .i64 (n : Int), .bool true]) ∧ Below w.heap.size w w') ∨
    (NoNum s ∧ ∀ w : World, Calls Tryd.prog 45 #[.string s] w fun e w' => e = .returned (.tuple #[.int .i64 0, .bool false]) ∧ Below w.heap.size w w') := by
  by_cases h : ∃ n : Nat, n ≤ 1000000000 ∧ s = txt (n : Int)
  · obtain ⟨n, hn, hs⟩ := h
    exact .inl ⟨n, hn, hs, spec_parse_yes n hn s hs⟩
  · have hno : NoNum s := fun n hn hs => h ⟨n, hn, hs⟩
    exact .inr ⟨hno, spec_parse_no s hm hno⟩

set_option maxHeartbeats 1000000 in
theorem number_spec (s : ByteArray) (hm : s.size ≤ 1048576) (w : World) : Calls Tryd.prog 31 #[.string s] w fun e w' => NumAns s e ∧ Below w.heap.size w w' := by
  by_cases h : 1 < s.size ∧ byt s 0 = 45
  · obtain ⟨h1, h2⟩ := h
    have hb := byt_in s 0 (by omega)
    have h3 : (1 : Int) < (s.size : Int) := by omega
    have h4 : (s[0]'(by omega)).toNat = 45 := by omega
    have hx : (s.extract 1 s.size).size ≤ 1048576 := by simp; omega
    have hne : ∀ m : Int, 0 ≤ m → s ≠ txt m := fun m hm e => by have := (minus_only e).2 ⟨h1, h2⟩; omega
    rcases parse_any (s.extract 1 s.size) hx with ⟨n, hn, hs, hC⟩ | ⟨hno, hC⟩
    · have HC := Lib.hid hC
      have HS := Lib.hid hs
      clear hC hs
      by_cases hr : 1 ≤ n ∧ n ≤ 999
      · go_enter Tryd.func31, Tryd.ntmps31
        go_wp2_with (first | (go_at_call 45; (with_reducible refine (HC.out _).mono ?_); rintro e w' ⟨rfl, hb⟩) | (go_at_call 43; refine (Point.in_any _ _ _ _).mono ?_; rintro e w' ⟨rfl, rfl⟩))
        refine bodyPost_ret (by simp [results, Tryd.results31, go_sem, *]; try rfl) rfl ?_
        exact ⟨num_yes (m := -(n : Int)) (by omega) (by omega) ((minus_back h1 h2 hr.1).2 HS.out) (by first | rfl | (simp; omega)), hb⟩
      · have hr2 : ¬ (1 ≤ (n : Int) ∧ (n : Int) ≤ 999) := by omega
        go_enter Tryd.func31, Tryd.ntmps31
        go_wp2_with (first | (go_at_call 45; (with_reducible refine (HC.out _).mono ?_); rintro e w' ⟨rfl, hb⟩) | (go_at_call 43; refine (Point.in_any _ _ _ _).mono ?_; rintro e w' ⟨rfl, rfl⟩))
        all_goals
          refine bodyPost_ret (by simp [results, Tryd.results31, go_sem, *]; try rfl) rfl ?_
          refine ⟨num_no (-(n : Int)) (fun m hm0 hm1 hs => ?_) (by first | rfl | (simp; omega)), hb⟩
          rcases Int.lt_or_le m 0 with hneg | hpos
          · obtain ⟨u, rfl⟩ : ∃ u : Nat, m = -(u : Int) := ⟨m.natAbs, by omega⟩
            have h5 := (minus_back h1 h2 (by omega)).1 hs
            have h6 := txt_inj (h5.symm.trans HS.out)
            omega
          · exact hne m hpos hs
    · have HC := Lib.hid hC
      have HN := Lib.hid hno
      clear hC hno
      go_enter Tryd.func31, Tryd.ntmps31
      go_wp2_with (first | (go_at_call 45; (with_reducible refine (HC.out _).mono ?_); rintro e w' ⟨rfl, hb⟩) | (go_at_call 43; refine (Point.in_any _ _ _ _).mono ?_; rintro e w' ⟨rfl, rfl⟩))
      refine bodyPost_ret (by simp [results, Tryd.results31, go_sem, *]; try rfl) rfl ?_
      refine ⟨num_no 0 (fun m hm0 hm1 hs => ?_) (by first | rfl | (simp; omega)), hb⟩
      rcases Int.lt_or_le m 0 with hneg | hpos
      · obtain ⟨u, rfl⟩ : ∃ u : Nat, m = -(u : Int) := ⟨m.natAbs, by omega⟩
        exact HN.out u (by omega) ((minus_back h1 h2 (by omega)).1 hs)
      · exact hne m hpos hs
  · have hpos : ∀ m : Int, s = txt m → 0 ≤ m := fun m hs => by
      have := minus_only hs
      rcases Int.lt_or_le m 0 with h1 | h1
      · exact absurd (this.1 h1) h
      · exact h1
    have HP := Lib.hid hpos
    clear hpos
    by_cases h1 : 1 < s.size
    · have h2 : ¬ byt s 0 = 45 := fun h2 => h ⟨h1, h2⟩
      have hb0 := byt_in s 0 (by omega)
      have h3 : (1 : Int) < (s.size : Int) := by omega
      have h4 : ¬ ((s[0]'(by omega)).toNat : Int) = 45 := by omega
      clear h h2 hb0
      rcases parse_any s hm with ⟨n, hn, hs, hC⟩ | ⟨hno, hC⟩
      · have HC := Lib.hid hC
        have HS := Lib.hid hs
        clear hC hs
        by_cases hr : (n : Int) ≤ 999
        · go_enter Tryd.func31, Tryd.ntmps31
          go_wp2_with (first | (go_at_call 45; (with_reducible refine (HC.out _).mono ?_); rintro e w' ⟨rfl, hb⟩) | (go_at_call 43; refine (Point.in_any _ _ _ _).mono ?_; rintro e w' ⟨rfl, rfl⟩))
          refine bodyPost_ret (by simp [results, Tryd.results31, go_sem, *]; try rfl) rfl ?_
          exact ⟨num_yes (by omega) hr HS.out (by first | rfl | (simp; omega)), hb⟩
        · go_enter Tryd.func31, Tryd.ntmps31
          go_wp2_with (first | (go_at_call 45; (with_reducible refine (HC.out _).mono ?_); rintro e w' ⟨rfl, hb⟩) | (go_at_call 43; refine (Point.in_any _ _ _ _).mono ?_; rintro e w' ⟨rfl, rfl⟩))
          refine bodyPost_ret (by simp [results, Tryd.results31, go_sem, *]; try rfl) rfl ?_
          refine ⟨num_no (n : Int) (fun m hm0 hm1 hs => ?_) (by first | rfl | (simp; omega)), hb⟩
          have := txt_inj (hs.symm.trans HS.out)
          omega
      · have HC := Lib.hid hC
        have HN := Lib.hid hno
        clear hC hno
        go_enter Tryd.func31, Tryd.ntmps31
        go_wp2_with (first | (go_at_call 45; (with_reducible refine (HC.out _).mono ?_); rintro e w' ⟨rfl, hb⟩) | (go_at_call 43; refine (Point.in_any _ _ _ _).mono ?_; rintro e w' ⟨rfl, rfl⟩))
        refine bodyPost_ret (by simp [results, Tryd.results31, go_sem, *]; try rfl) rfl ?_
        refine ⟨num_no 0 (fun m hm0 hm1 hs => ?_) (by first | rfl | (simp; omega)), hb⟩
        have h5 := HP.out m hs
        exact HN.out m.toNat (by omega) (by rw [show ((m.toNat : Nat) : Int) = m by omega]; exact hs)
    · have h3 : ¬ (1 : Int) < (s.size : Int) := by omega
      clear h
      rcases parse_any s hm with ⟨n, hn, hs, hC⟩ | ⟨hno, hC⟩
      · have HC := Lib.hid hC
        have HS := Lib.hid hs
        clear hC hs
        by_cases hr : (n : Int) ≤ 999
        · go_enter Tryd.func31, Tryd.ntmps31
          go_wp2_with (first | (go_at_call 45; (with_reducible refine (HC.out _).mono ?_); rintro e w' ⟨rfl, hb⟩) | (go_at_call 43; refine (Point.in_any _ _ _ _).mono ?_; rintro e w' ⟨rfl, rfl⟩))
          refine bodyPost_ret (by simp [results, Tryd.results31, go_sem, *]; try rfl) rfl ?_
          exact ⟨num_yes (by omega) hr HS.out (by first | rfl | (simp; omega)), hb⟩
        · go_enter Tryd.func31, Tryd.ntmps31
          go_wp2_with (first | (go_at_call 45; (with_reducible refine (HC.out _).mono ?_); rintro e w' ⟨rfl, hb⟩) | (go_at_call 43; refine (Point.in_any _ _ _ _).mono ?_; rintro e w' ⟨rfl, rfl⟩))
          refine bodyPost_ret (by simp [results, Tryd.results31, go_sem, *]; try rfl) rfl ?_
          refine ⟨num_no (n : Int) (fun m hm0 hm1 hs => ?_) (by first | rfl | (simp; omega)), hb⟩
          have := txt_inj (hs.symm.trans HS.out)
          omega
      · have HC := Lib.hid hC
        have HN := Lib.hid hno
        clear hC hno
        go_enter Tryd.func31, Tryd.ntmps31
        go_wp2_with (first | (go_at_call 45; (with_reducible refine (HC.out _).mono ?_); rintro e w' ⟨rfl, hb⟩) | (go_at_call 43; refine (Point.in_any _ _ _ _).mono ?_; rintro e w' ⟨rfl, rfl⟩))
        refine bodyPost_ret (by simp [results, Tryd.results31, go_sem, *]; try rfl) rfl ?_
        refine ⟨num_no 0 (fun m hm0 hm1 hs => ?_) (by first | rfl | (simp; omega)), hb⟩
        have h5 := HP.out m hs
        exact HN.out m.toNat (by omega) (by rw [show ((m.toNat : Nat) : Int) = m by omega]; exact hs)

end Go.Proofs.YtkkflpjpijnalaaDoor.Nums
