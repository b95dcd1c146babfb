/-
  Texts of this seat, laid together: Fb9
-/
import Derived.Test.YtifmdgncgokikaaGreatV24
import Derived.Test.YtifmdgncgokikaaGreatV22
namespace Go.Proofs.YtifmdgncgokikaaGreat.Ins
open Go.ChangeShapes Go.WideShapes Go.ChangeAt Go.RowKit
open Kit Point
set_option linter.unusedVariables false
set_option linter.unusedSimpArgs false
set_option linter.unnecessarySimpa false
theorem cnt_split {q : Nat → Bool} {n k : Nat} (hk : k ≤ n) (h1 : ∀ t, t < k → q t = true) (h2 : ∀ t, k ≤ t → t < n → q t = false) : (List.range n).countP q = k := by
  have e := cnt_edge q n (fun a b hab hb hp => by
    rcases Nat.lt_or_ge b k with h | h
    · exact h1 a (by omega)
    · rw [h2 b h hb] at hp; cases hp)
  have hle : (List.range n).countP q ≤ n := by have := List.countP_le_length (p := q) (l := List.range n); simpa using this
  rcases Nat.lt_trichotomy ((List.range n).countP q) k with h | h | h
  · have := (e _ (by omega)).1 (h1 _ h); omega
  · exact h
  · have := (e k (by omega)).2 h; rw [h2 k (Nat.le_refl _) (by omega)] at this; cases this
theorem fnb_split {ax ay bx b1 y : Int} {k : Nat} (hk : k ≤ 401) (h1 : ∀ t : Nat, t < k → psV ax ay bx b1 ((t : Int) - 200) y = 2) (h2 : ∀ t : Nat, k ≤ t → t < 401 → psV ax ay bx b1 ((t : Int) - 200) y ≠ 2) : fnb ax ay bx b1 y = (k : Int) - 200 := by
  unfold fnb
  rw [cnt_split hk (fun t ht => by simpa using h1 t ht) (fun t h3 h4 => by simpa using h2 t h3 h4)]
set_option maxHeartbeats 1000000 in
theorem clo_impl (ax ay bx b1 y : Int) (g0 g1 : Nat) (i : Int) (w : World) (F : Four w g0 ax ay bx b1) (hc : w.cell? ⟨g1, 0, none⟩ = some (.int .i64 y)) (ha : pokB ax ay = true) (hb : pokB bx b1 = true) (hy : inB y = true) (hi : 0 ≤ i ∧ i ≤ 400) :
    Calls Tryz.prog 96 #[.int .i64 i, .pointer (some ⟨g0, 0, none⟩), .pointer (some ⟨g1, 0, none⟩)] w fun e w' => e = .returned (.bool (decide (psV ax ay bx b1 (i - 200) y ≠ 2))) ∧ Below w.heap.size w w' := by
  obtain ⟨c0, c1, c2, c3, _⟩ := F
  have hx : inB (i - 200) = true := by simp [inB]; omega
  have hw : IntKind.i64.wrap (i - 200) = i - 200 := by rw [IntKind.wrap_i64]; omega
  have HP := Lib.hid (And.intro ha (And.intro hb (And.intro hy hx)))
  clear ha hb hy hx
  go_enter Tryz.func96, Tryz.ntmps96
  go_wp2_with fail
  ((with_reducible refine (ps_impl ax ay bx b1 (i - 200) y _ HP.out.1 HP.out.2.1 HP.out.2.2.2 HP.out.2.2.1).mono ?_); rintro e w1 ⟨rfl, bb⟩)
  obtain ⟨r, hr⟩ : ∃ r, psV ax ay bx b1 (i - 200) y = r := ⟨_, rfl⟩
  have HR := Lib.hid hr
  rw [hr]
  clear c0 c1 c2 c3 hc hr
  go_wp2
  go_ret
  exact ⟨ret_bool (by rw [HR.out]; by_cases h : r = 2 <;> simp [h]), bb⟩
set_option maxHeartbeats 1000000 in
theorem srch_impl (ax ay bx b1 y : Int) (g0 g1 : Nat) (w : World) (F : Four w g0 ax ay bx b1) (hc : w.cell? ⟨g1, 0, none⟩ = some (.int .i64 y)) (ha : pokB ax ay = true) (hb : pokB bx b1 = true) (hy : inB y = true) :
    Calls Tryz.prog 95 #[.int .i64 401, .func (.func 96) #[] #[.pointer (some ⟨g0, 0, none⟩), .pointer (some ⟨g1, 0, none⟩)]] w fun e w' => ∃ k : Nat, e = .returned (.int .i64 (k : Int)) ∧ fnb ax ay bx b1 y = (k : Int) - 200 ∧ k ≤ 401 ∧ Below w.heap.size w w' := by
  have HP := Lib.hid (And.intro F (And.intro hc (And.intro ha (And.intro hb hy))))
  have hl0 := F.lt
  have hl1 := World.block_lt_of_cell? w _ hc
  have HL := Lib.hid (And.intro hl0 hl1)
  clear F hc ha hb hy hl0 hl1
  go_enter Tryz.func95, Tryz.ntmps95
  go_wp2
  go_loopw [5, 6] (fun s5 s6 wr => ∃ (lo hi : Nat), s5 = .int .i64 (lo : Int) ∧ s6 = .int .i64 (hi : Int) ∧ lo ≤ hi ∧ hi ≤ 401 ∧ Below w.heap.size w wr ∧
    Hid ((∀ t : Nat, t < lo → psV ax ay bx b1 ((t : Int) - 200) y = 2) ∧ (∀ t : Nat, hi ≤ t → t < 401 → psV ax ay bx b1 ((t : Int) - 200) y ≠ 2))) (fun s5 s6 _ => (intOf s6).toNat - (intOf s5).toNat)
  case atStart => exact ⟨0, 401, rfl, rfl, by omega, by omega, Below.refl _ _, Lib.hid ⟨fun t ht => by omega, fun t h1 h2 => by omega⟩⟩
  case round =>
    obtain ⟨lo, hi, rfl, rfl, hlh, hin, hB, I⟩ := hrel
    have HB := Lib.hid hB
    clear hB
    by_cases hlt : lo < hi
    · have hlti : (lo : Int) < (hi : Int) := by omega
      go_wp2_with fail
      have hcl := clo_impl ax ay bx b1 y g0 g1 (((lo + hi) / 2 : Nat) : Int) wr (HP.out.1.keep HB.out HL.out.1) ((HB.out.cell (p := ⟨g1, 0, none⟩) HL.out.2).trans HP.out.2.1) HP.out.2.2.1 HP.out.2.2.2.1 HP.out.2.2.2.2 (by omega)
      rw [show (((lo + hi) / 2 : Nat) : Int) = ((lo : Int) + (hi : Int)) / 2 by omega] at hcl
      refine hcl.mono ?_
      rintro e w1 ⟨rfl, bb⟩
      clear hcl
      have HB1 := Lib.hid (on_of HB.out bb)
      clear bb
      have HM : Hid (psV ax ay bx b1 (((lo : Int) + (hi : Int)) / 2 - 200) y = psV ax ay bx b1 (((((lo + hi) / 2 : Nat)) : Int) - 200) y) := Lib.hid (by rw [show (((lo + hi) / 2 : Nat) : Int) = ((lo : Int) + (hi : Int)) / 2 by omega])
      generalize psV ax ay bx b1 (((lo : Int) + (hi : Int)) / 2 - 200) y = r at *
      by_cases hr : r = 2
      · have HR := Lib.hid (HM.out.symm.trans hr)
        clear HM
        simp only [hr, ne_eq, not_true, decide_false]
        go_wp2
        go_roundw
        case rel =>
          refine ⟨(lo + hi) / 2 + 1, hi, by rw [show ((((lo + hi) / 2 + 1 : Nat)) : Int) = ((lo : Int) + (hi : Int)) / 2 + 1 by omega], rfl, by omega, hin, HB1.out, Lib.hid ⟨fun t ht => ps_mono (show (t : Int) - 200 ≤ ((((lo + hi) / 2 : Nat)) : Int) - 200 by omega) HR.out, I.out.2⟩⟩
        case measure => simp [intOf]; omega
      · have HR := Lib.hid (show psV ax ay bx b1 (((((lo + hi) / 2 : Nat)) : Int) - 200) y ≠ 2 by rw [← HM.out]; exact hr)
        clear HM
        simp only [hr, ne_eq, not_false_eq_true, decide_true]
        go_wp2
        go_roundw
        case rel =>
          refine ⟨lo, (lo + hi) / 2, rfl, by rw [show ((((lo + hi) / 2 : Nat)) : Int) = ((lo : Int) + (hi : Int)) / 2 by omega], by omega, by omega, HB1.out, Lib.hid ⟨I.out.1, fun t h1 h2 h3 => HR.out (ps_mono (by omega) h3)⟩⟩
        case measure => simp [intOf]; omega
    · obtain rfl : lo = hi := by omega
      go_wp2
      go_ret
      exact ⟨lo, rfl, fnb_split hin I.out.1 I.out.2, hin, HB.out⟩
set_option maxHeartbeats 1000000 in
theorem fnb_impl (ax ay bx b1 y : Int) (w : World) (ha : pokB ax ay = true) (hb : pokB bx b1 = true) (hy : inB y = true) :
    Calls Tryz.prog 91 #[.agg #[.int .i64 ax, .int .i64 ay, .int .i64 bx, .int .i64 b1], .int .i64 y] w fun e w' => e = .returned (.int .i64 (fnb ax ay bx b1 y)) ∧ Below w.heap.size w w' := by
  have HP := Lib.hid (And.intro ha (And.intro hb hy))
  clear ha hb hy
  go_enter Tryz.func91, Tryz.ntmps91
  go_wp2_with fail
  refine (srch_impl ax ay bx b1 y w.heap.size (w.heap.size + 1) _ ?_ ?_ HP.out.1 HP.out.2.1 HP.out.2.2).mono ?_
  · exact Four.alloc (Four.new w _ _ _ _ _) _
  · simp [go_sem]
  · rintro e w1 ⟨k, rfl, hk, hk1, bb⟩
    have HB1 := Lib.hid (on_of (W := w) (by go_grown) bb)
    have hw : IntKind.i64.wrap ((k : Int) - 200) = (k : Int) - 200 := by rw [IntKind.wrap_i64]; omega
    have HK := Lib.hid hk
    clear bb hk
    go_wp2
    go_ret
    exact ⟨by rw [HK.out]; rfl, HB1.out⟩
end Go.Proofs.YtifmdgncgokikaaGreat.Ins
