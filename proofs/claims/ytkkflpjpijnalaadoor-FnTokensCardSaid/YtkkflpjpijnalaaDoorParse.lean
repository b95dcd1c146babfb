/-
  The model's and the program's ParseUint: what each call returns, and that nothing that was there has turned; condition: strconv's table and its two errors are as the program's text lays them.
-/
import Derived.Test.YtkkflpjpijnalaaDoorNum
import Derived.Stop.LaidErr
import Derived.Lib.AtoiTie
import Derived.Lib.AtoiAllCases
import Derived.LaidLaws
namespace Go.Proofs.YtkkflpjpijnalaaDoor.Num
open Go.ChangeShapes Go.WideShapes Go.ChangeAt Go.RowKit
open Hex
open Go.Shelf
set_option linter.unusedVariables false
set_option maxRecDepth 100000

theorem decFrom_append : ∀ (a b : List UInt8) (acc : Nat), Lib.decFrom acc (a ++ b) = (Lib.decFrom acc a).bind fun q => Lib.decFrom q b
  | [], b, acc => rfl
  | c :: r, b, acc => by
    simp only [List.cons_append, Lib.decFrom]
    cases Lib.digitVal c with
    | none => rfl
    | some d => exact decFrom_append r b _

theorem digit_of (d : Nat) (h : d < 10) : Lib.digitVal (UInt8.ofNat (48 + d)) = some d := by
  have : d = 0 ∨ d = 1 ∨ d = 2 ∨ d = 3 ∨ d = 4 ∨ d = 5 ∨ d = 6 ∨ d = 7 ∨ d = 8 ∨ d = 9 := by omega
  rcases this with rfl | rfl | rfl | rfl | rfl | rfl | rfl | rfl | rfl | rfl <;> rfl

/-- The digits of u say u. -/
theorem dec_digits (u : Nat) : Lib.decFrom 0 (Lib.decDigits u) = some u := by
  induction u using Nat.strongRecOn with
  | _ u ih =>
    by_cases h : u < 10
    · rw [Lib.decDigits_one h]
      simp only [Lib.decFrom]
      rw [digit_of u h]
      simp
    · rw [Lib.decDigits, dif_neg h, decFrom_append, ih (u / 10) (by omega)]
      simp only [Option.bind_some, Lib.decFrom, digit_of (u % 10) (by omega)]
      congr 1
      omega

theorem digits_ne (u : Nat) : Lib.decDigits u ≠ [] := by
  intro h
  have := Lib.decDigits_length u
  have := Lib.nDigits_pos u
  rw [h] at *
  simp at *
  omega

theorem nDigits_le10 (u : Nat) (h : u ≤ 1000000000) : Lib.nDigits u ≤ 10 := by
  have h1 := Lib.nDigits_pos u
  rcases Nat.lt_or_ge (Lib.nDigits u) 11 with h2 | h2
  · omega
  · exfalso
    have key : ∀ (k v : Nat), Lib.nDigits v = k + 1 → v ≠ 0 → 10 ^ k ≤ v := by
      intro k
      induction k with
      | zero => intro v _ hv; rw [Nat.pow_zero]; omega
      | succ k ih =>
        intro v hk hv
        by_cases hs : v < 10
        · rw [Lib.nDigits_small hs] at hk; omega
        · rw [Lib.nDigits_big hs] at hk
          have := ih (v / 10) (by omega) (by omega)
          rw [Nat.pow_succ]; omega
    have h0 : u ≠ 0 := by rintro rfl; rw [Lib.nDigits_small (by omega)] at h2; omega
    have h3 := key (Lib.nDigits u - 1) u (by omega) h0
    have h4 : (10 : Nat) ^ 10 ≤ 10 ^ (Lib.nDigits u - 1) := Nat.pow_le_pow_right (by decide) (by omega)
    have h5 : (10 : Nat) ^ 10 = 10000000000 := by decide
    omega

theorem txt_list (n : Nat) : (txt (n : Int)).data.toList = Lib.decDigits n := by unfold txt; rw [Lib.itoa_nonneg]
theorem txt_size (n : Nat) (h : n ≤ 1000000000) : (txt (n : Int)).size ≤ 10 := by
  have : (txt (n : Int)).size = (Lib.decDigits n).length := by rw [← txt_list]; simp
  rw [this, Lib.decDigits_length]; exact nDigits_le10 n h

theorem atoi_digits (n : Nat) (h : n ≤ 1000000000) : Lib.atoiAll (Lib.decDigits n) = .ok (n : Int) := by
  rw [Lib.atoiAll_short _ (by rw [Lib.decDigits_length]; have := nDigits_le10 n h; omega)]
  have hd := dec_digits n
  cases hl : Lib.decDigits n with
  | nil => exact absurd hl (digits_ne n)
  | cons c r =>
    rw [hl] at hd
    obtain ⟨d, hc⟩ := Lib.digit_of_decFrom (c :: r) 0 n hd 0 c rfl
    have h1 : 48 ≤ c.toNat := by
      unfold Lib.digitVal at hc
      split at hc
      · omega
      · cases hc
    have e1 : (c == 45) = false := by
      apply Bool.eq_false_iff.2
      intro e
      have : c = 45 := by simpa using e
      subst this
      revert h1; decide
    have e2 : (c == 43) = false := by
      apply Bool.eq_false_iff.2
      intro e
      have : c = 43 := by simpa using e
      subst this
      revert h1; decide
    simp only [Lib.atoi, e1, e2, Lib.decNat, List.isEmpty_cons, hd, Bool.false_eq_true, if_false, Option.map_some, Lib.NumEnd.ofOption]

/-- The text of no number from 0 to 1000000000. -/
def NoNum (s : ByteArray) : Prop := ∀ n : Nat, n ≤ 1000000000 → s ≠ txt (n : Int)

theorem digit_test {b : UInt8} : (∃ d, Lib.digitVal b = some d) ↔ 48 ≤ b.toNat ∧ b.toNat ≤ 57 := by
  unfold Lib.digitVal
  constructor
  · rintro ⟨d, h⟩
    split at h
    · assumption
    · cases h
  · intro h; exact ⟨_, if_pos h⟩

theorem dec_next {s : ByteArray} {k q : Nat} (hk : k < s.size) (h : Lib.decFrom 0 (s.data.toList.take k) = some q) (h0 : 48 ≤ s[k].toNat) (h1 : s[k].toNat ≤ 57) : Lib.decFrom 0 (s.data.toList.take (k + 1)) = some (q * 10 + (s[k].toNat - 48)) :=
  Lib.decFrom_take _ k 0 q s[k] _ h (by rw [List.getElem?_eq_getElem (by simpa using hk)]; rfl) (by unfold Lib.digitVal; rw [if_pos ⟨h0, h1⟩])

theorem dec_small {s : ByteArray} {k q : Nat} (hk : k ≤ 10) (h : Lib.decFrom 0 (s.data.toList.take k) = some q) : q < 10000000000 := by
  have h1 := Lib.decFrom_lt _ 0 q h
  have h2 : (s.data.toList.take k).length ≤ 10 := by rw [List.length_take]; omega
  have h3 := Nat.pow_le_pow_right (n := 10) (by decide) h2
  have e : (10 : Nat) ^ 10 = 10000000000 := by decide
  omega

theorem same_text (a b : ByteArray) (h : a = b) : (a.toList == b.toList) = true := by rw [h]; simp
theorem other_text (a b : ByteArray) (h : a ≠ b) : (a.toList == b.toList) = false := by
  apply Bool.eq_false_iff.2
  intro e
  apply h
  have : a.toList = b.toList := by simpa using e
  rw [ByteArray.toList_eq, ByteArray.toList_eq] at this
  exact ByteArray.ext (Array.toList_inj.1 this)

set_option maxHeartbeats 1000000 in
theorem spec_parse_yes (n : Nat) (hn : n ≤ 1000000000) (s : ByteArray) (hs : s = txt (n : Int)) (w : World) :
    Calls Tryd.prog 45 #[.string s] w fun e w' => e = .returned (.tuple #[.int .i64 (n : Int), .bool true]) ∧ Below w.heap.size w w' := by
  have hsz : s.size ≤ 10 := by rw [hs]; exact txt_size n hn
  have hl : s.data.toList = Lib.decDigits n := by rw [hs]; exact txt_list n
  have hd : Lib.decFrom 0 s.data.toList = some n := by rw [hl]; exact dec_digits n
  have HS := Lib.hid hs
  have HD := Lib.hid hd
  clear hs hl hd
  go_enter Tryd.func45, Tryd.ntmps45
  go_wp2
  go_loopw [4, 5] (fun v i wr => ∃ k q : Nat, k ≤ s.size ∧ i = .int .i64 (k : Int) ∧ v = .int .i64 (q : Int) ∧ Lib.decFrom 0 (s.data.toList.take k) = some q ∧ Below w.heap.size w wr) (fun _ i _ => s.size - (intOf i).toNat)
  case atStart => exact ⟨0, 0, Nat.zero_le _, rfl, rfl, by simp [Lib.decFrom], Below.refl _ _⟩
  case round =>
    obtain ⟨k, q, hk, rfl, rfl, hq, hbel⟩ := hrel
    have hq1 := dec_small (by omega) hq
    have HQ := Lib.hid hq
    clear hq
    by_cases hlt : k < s.size
    · obtain ⟨d0, d1⟩ := digit_test.1 (Lib.digit_of_decFrom _ 0 n HD.out k s[k] (by rw [List.getElem?_eq_getElem (by simpa using hlt)]; rfl))
      have e0 : (48 : Int) ≤ (s[k].toNat : Int) := by omega
      have e1 : (s[k].toNat : Int) ≤ 57 := by omega
      go_wp2
      refine ⟨⟨k + 1, q * 10 + (s[k].toNat - 48), by omega, by go_num, by congr 1; omega, dec_next hlt HQ.out d0 d1, hbel⟩, by simp [intOf]; omega⟩
    · obtain rfl : k = s.size := by omega
      have ht : s.data.toList.take s.size = s.data.toList := List.take_of_length_le (by simp)
      have hqn : q = n := by
        have := HQ.out
        rw [ht, HD.out] at this
        exact (Option.some.inj this).symm
      subst hqn
      have hcmp := same_text (txt (q : Int)) s HS.out.symm
      have hsz2 := hbel.size
      have hq2 : ¬ ((1000000000 : Int) < (q : Int)) := by omega
      clear ht
      go_wp2_with (go_at_call 44; refine (spec_format _ _ (by omega) (by omega)).mono ?_; rintro e w1 ⟨rfl, b1⟩)
      go_ret2
      exact ⟨rfl, hbel.trans (b1.mono hsz2)⟩

set_option maxHeartbeats 1000000 in
theorem spec_parse_no (s : ByteArray) (hm : s.size ≤ 1048576) (hs : NoNum s) (w : World) :
    Calls Tryd.prog 45 #[.string s] w fun e w' => e = .returned (.tuple #[.int .i64 0, .bool false]) ∧ Below w.heap.size w w' := by
  have HS := Lib.hid hs
  clear hs
  by_cases hsz : s.size ≤ 10
  · go_enter Tryd.func45, Tryd.ntmps45
    go_wp2
    go_loopw [4, 5] (fun v i wr => ∃ k q : Nat, k ≤ s.size ∧ i = .int .i64 (k : Int) ∧ v = .int .i64 (q : Int) ∧ Lib.decFrom 0 (s.data.toList.take k) = some q ∧ Below w.heap.size w wr) (fun _ i _ => s.size - (intOf i).toNat)
    case atStart => exact ⟨0, 0, Nat.zero_le _, rfl, rfl, by simp [Lib.decFrom], Below.refl _ _⟩
    case round =>
      obtain ⟨k, q, hk, rfl, rfl, hq, hbel⟩ := hrel
      have hq1 := dec_small (by omega) hq
      have HQ := Lib.hid hq
      clear hq
      by_cases hlt : k < s.size
      · by_cases e0 : (48 : Int) ≤ (s[k].toNat : Int)
        · by_cases e1 : (s[k].toNat : Int) ≤ 57
          · go_wp2
            refine ⟨⟨k + 1, q * 10 + (s[k].toNat - 48), by omega, by go_num, by congr 1; omega, dec_next hlt HQ.out (by omega) (by omega), hbel⟩, by simp [intOf]; omega⟩
          · go_wp2
            go_ret2
            exact ⟨rfl, hbel⟩
        · go_wp2
          go_ret2
          exact ⟨rfl, hbel⟩
      · obtain rfl : k = s.size := by omega
        have hsz2 := hbel.size
        by_cases hq2 : ((1000000000 : Int) < (q : Int))
        · go_wp2
          go_ret2
          exact ⟨rfl, hbel⟩
        · have hcmp := other_text (txt (q : Int)) s (HS.out q (by omega)).symm
          go_wp2_with (go_at_call 44; refine (spec_format _ _ (by omega) (by omega)).mono ?_; rintro e w1 ⟨rfl, b1⟩)
          go_ret2
          exact ⟨rfl, hbel.trans (b1.mono hsz2)⟩
  · have h1 : (10 : Int) < s.size := by omega
    go_enter Tryd.func45, Tryd.ntmps45
    go_wp2
    go_ret2
    exact ⟨rfl, Below.refl _ _⟩

/-- The two errors are errors: they hold a pointer each. -/
def Errs (w : World) : Prop := (∃ a, w.var? Tryd.prog "strconv.ErrRange" = some #[.iface 105 (.pointer (some a))]) ∧ ∃ a, w.var? Tryd.prog "strconv.ErrSyntax" = some #[.iface 105 (.pointer (some a))]

theorem star : "*" ++ "errors.errorString" = "*errors.errorString" := by decide
theorem row85 (u : TypeId) (h : Tryd.prog.typeName? 3 u = some "*errors.errorString") : u = 105 :=
  typeName_ptr_named (nm := "errors.errorString") (by rw [star]; kernel_rfl) (by kernel_rfl) (by decide) u (by rw [star]; exact h)

theorem errs_of {w : World} (h : laidMet Tryd.prog [("strconv.ErrRange", Rows.laid_strconv_ErrRange), ("strconv.ErrSyntax", Rows.laid_strconv_ErrSyntax)] w) : Errs w := by
  obtain ⟨a1, t1, hv1, _⟩ := laid_sentinel (g := 1) h (by kernel_rfl) (by kernel_rfl) Tryd.underlying72 row85 Tryd.underlying105 Tryd.underlying107 rfl rfl Tryd.underlying9 (by kernel_rfl) (by kernel_rfl)
  obtain ⟨a2, t2, hv2, _⟩ := laid_sentinel (g := 0) h.tail (by kernel_rfl) (by kernel_rfl) Tryd.underlying72 row85 Tryd.underlying105 Tryd.underlying107 rfl rfl Tryd.underlying9 (by kernel_rfl) (by kernel_rfl)
  exact ⟨⟨a1, hv1⟩, ⟨a2, hv2⟩⟩

theorem var_lt {w : World} {n : String} {g : Nat} {cs : Array Value} (hg : Tryd.prog.globalNamed n = some g) (h : w.var? Tryd.prog n = some cs) : g < w.heap.size := by
  rcases Nat.lt_or_ge g w.heap.size with h' | h'
  · exact h'
  · simp [World.var?, hg, Array.getElem?_eq_none h'] at h

theorem errs_below {w w' : World} (h : Errs w) (hb : Below w.heap.size w w') : Errs w' := by
  obtain ⟨⟨a1, h1⟩, a2, h2⟩ := h
  have g1 : Tryd.prog.globalNamed "strconv.ErrRange" = some 1 := by kernel_rfl
  have g2 : Tryd.prog.globalNamed "strconv.ErrSyntax" = some 0 := by kernel_rfl
  exact ⟨⟨a1, var?_below hb g1 (var_lt g1 h1) h1⟩, a2, var?_below hb g2 (var_lt g2 h2) h2⟩

theorem atoi_below {w w' : World} (h : w' = w ∨ ∃ t, w' = Lib.bytesWorld w 5 t) : Below w.heap.size w w' := by
  rcases h with rfl | ⟨t, rfl⟩
  · exact Below.refl _ _
  · exact Lib.bytesWorld_below _ _ _

set_option maxHeartbeats 1000000 in
theorem impl_parse_yes (n : Nat) (hn : n ≤ 1000000000) (s : ByteArray) (hs : s = txt (n : Int)) (w : World) (hT : Tab w) :
    Calls Tryd.prog 42 #[.string s] w fun e w' => e = .returned (.tuple #[.int .i64 (n : Int), .bool true]) ∧ Below w.heap.size w w' := by
  have hsz : s.size ≤ 10 := by rw [hs]; exact txt_size n hn
  have ha : Lib.atoiAll s.data.toList = .ok (n : Int) := by rw [hs, txt_list]; exact atoi_digits n hn
  have hcmp := same_text (txt (n : Int)) s hs.symm
  have HA := Lib.hid ha
  have HT := Lib.hid hT
  have hn2 : ¬ ((1000000000 : Int) < (n : Int)) := by omega
  clear hs ha hT
  go_enter Tryd.func42, Tryd.ntmps42
  go_wp2_with (first
    | (go_at_call 49; refine (Tryd.strconv_Atoi_ok s (by omega) (n : Int) HA.out _).mono ?_; rintro e w1 ⟨rfl, h1⟩; have b1 := atoi_below h1; clear h1)
    | (go_at_call 39; refine (impl_format _ _ (by omega) (by omega) (tab_below HT.out b1)).mono ?_; rintro e w2 ⟨rfl, b2⟩))
  go_ret2
  exact ⟨rfl, b1.trans (b2.mono b1.size)⟩

theorem atoi_syn (s : ByteArray) (hlim : s.size ≤ 281474976710656) (h1 : ∀ v, Lib.atoiAll s.data.toList ≠ .ok v) (h2 : Lib.atoiAll s.data.toList ≠ .range) (a : Addr) {w : World} (hv : w.var? Tryd.prog "strconv.ErrSyntax" = some #[.iface 105 (.pointer (some a))]) :
    Calls Tryd.prog 49 #[.string s] w fun e w' => ∃ N, e = .returned (.tuple #[.int .i64 0, .iface 83 (.pointer (some ⟨N, 0, none⟩))]) ∧ Below w.heap.size w w' := by
  rcases ha : Lib.atoiAll s.data.toList with v | _ | _
  · exact absurd ha (h1 v)
  · exact (Any.strconv_Atoi_syntax_var Tryd.laysC172 s hlim ha _ _ w hv).mono fun _ _ ⟨N, he, _, _, hb⟩ => ⟨N, he, hb⟩
  · exact absurd ha h2
theorem atoi_rng (s : ByteArray) (hlim : s.size ≤ 281474976710656) (h : Lib.atoiAll s.data.toList = .range) (a : Addr) {w : World} (hv : w.var? Tryd.prog "strconv.ErrRange" = some #[.iface 105 (.pointer (some a))]) :
    Calls Tryd.prog 49 #[.string s] w fun e w' => ∃ N, e = .returned (.tuple #[.int .i64 (Lib.atoiSat s.data.toList), .iface 83 (.pointer (some ⟨N, 0, none⟩))]) ∧ Below w.heap.size w w' :=
  (Any.strconv_Atoi_range_var Tryd.laysC172 s hlim h _ _ w hv).mono fun _ _ ⟨N, he, _, _, hb⟩ => ⟨N, he, hb⟩

set_option maxHeartbeats 1000000 in
theorem impl_parse_no (s : ByteArray) (hm : s.size ≤ 1048576) (hs : NoNum s) (w : World) (hT : Tab w) (hE : Errs w) :
    Calls Tryd.prog 42 #[.string s] w fun e w' => e = .returned (.tuple #[.int .i64 0, .bool false]) ∧ Below w.heap.size w w' := by
  have HT := Lib.hid hT
  have HS := Lib.hid hs
  obtain ⟨⟨a1, e1⟩, a2, e2⟩ := hE
  have HE1 := Lib.hid e1
  have HE2 := Lib.hid e2
  clear hT hs e1 e2
  rcases ha : Lib.atoiAll s.data.toList with v | _ | _
  · have hbd := Lib.atoiAll_bounds ha
    have HA := Lib.hid ha
    clear ha
    by_cases hv0 : v < 0
    · go_enter Tryd.func42, Tryd.ntmps42
      go_wp2_with (go_at_call 49; refine (Tryd.strconv_Atoi_ok s (by omega) v HA.out _).mono ?_; rintro e w1 ⟨rfl, h1⟩; have b1 := atoi_below h1; clear h1)
      go_ret2
      exact ⟨rfl, b1⟩
    · by_cases hv1 : 1000000000 < v
      · go_enter Tryd.func42, Tryd.ntmps42
        go_wp2_with (go_at_call 49; refine (Tryd.strconv_Atoi_ok s (by omega) v HA.out _).mono ?_; rintro e w1 ⟨rfl, h1⟩; have b1 := atoi_below h1; clear h1)
        go_ret2
        exact ⟨rfl, b1⟩
      · obtain ⟨u, rfl⟩ : ∃ u : Nat, v = u := ⟨v.toNat, by omega⟩
        have hcmp := other_text (txt (u : Int)) s (HS.out u (by omega)).symm
        go_enter Tryd.func42, Tryd.ntmps42
        go_wp2_with (first
          | (go_at_call 49; refine (Tryd.strconv_Atoi_ok s (by omega) (u : Int) HA.out _).mono ?_; rintro e w1 ⟨rfl, h1⟩; have b1 := atoi_below h1; clear h1)
          | (go_at_call 39; refine (impl_format _ _ (by omega) (by omega) (tab_below HT.out b1)).mono ?_; rintro e w2 ⟨rfl, b2⟩))
        go_ret2
        exact ⟨rfl, b1.trans (b2.mono b1.size)⟩
  · have hbad := atoi_syn s (by omega) (fun v e => by rw [ha] at e; cases e) (fun e => by rw [ha] at e; cases e) _ HE2.out
    have HBAD := Lib.hid hbad
    clear ha hbad
    go_enter Tryd.func42, Tryd.ntmps42
    go_wp2_with (go_at_call 49; refine HBAD.out.mono ?_; rintro e w1 ⟨N, rfl, b1⟩)
    go_ret2
    exact ⟨rfl, b1⟩
  · have hbad := atoi_rng s (by omega) ha _ HE1.out
    have HBAD := Lib.hid hbad
    clear ha hbad
    go_enter Tryd.func42, Tryd.ntmps42
    go_wp2_with (go_at_call 49; refine HBAD.out.mono ?_; rintro e w1 ⟨N, rfl, b1⟩)
    go_ret2
    exact ⟨rfl, b1⟩

end Go.Proofs.YtkkflpjpijnalaaDoor.Num
