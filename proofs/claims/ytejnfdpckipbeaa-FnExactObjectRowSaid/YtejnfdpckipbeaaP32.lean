/-
  Texts of this seat, laid together: Dt9, Is9, Dot
-/
import Derived.Laws.BitsLemmas
import Derived.Test.YtejnfdpckipbeaaP27
import Derived.Test.YtejnfdpckipbeaaP10
import Derived.Test.YtejnfdpckipbeaaP04
namespace Go.Proofs.Ytejnfdpckipbeaa.Ins
open Go.ChangeShapes Go.WideShapes Go.ChangeAt Go.RowKit
open Kit Point
set_option linter.unusedVariables false
set_option linter.unusedSimpArgs false
set_option linter.unnecessarySimpa false
def dtK (l : List Pt) : Nat → Int
  | 0 => 0
  | k + 1 => IntKind.i64.wrap (dtK l k + IntKind.i64.wrap (pY l k - pX l k))
def dtV (l : List Pt) : Int := if spB l then dtK l l.length else 0
theorem wrap_in (x y : Int) : IntKind.i64.wrap (x + IntKind.i64.wrap y) = IntKind.i64.wrap (x + y) := by
  simp only [IntKind.wrap_i64]; omega
theorem wrap_in2 (x y z : Int) : IntKind.i64.wrap (IntKind.i64.wrap (x + y) - z) = IntKind.i64.wrap (x + IntKind.i64.wrap (y - z)) := by
  simp only [IntKind.wrap_i64]; omega
theorem dt_bad {l : List Pt} (h : spB l = false) : dtV l = 0 := by simp [dtV, h]
theorem dt_good {l : List Pt} (h : spB l = true) : dtV l = dtK l l.length := by simp [dtV, h]
set_option maxRecDepth 100000 in
set_option maxHeartbeats 1000000 in
theorem dots_impl (w : World) (a : Option Addr) (c : Nat) (l : List Pt) (hn : l.length ≤ 1048576) (h : PathAt w a l) :
    Calls Try.prog 15 #[.slice a l.length c] w fun e w' => e = .returned (.int .i64 (dtV l)) ∧ Below w.heap.size w w' := by
  have hok := sok_impl w a c l hn h
  have H := Lib.hid (And.intro h hn)
  obtain ⟨n, hN⟩ : ∃ n, l.length = n := ⟨_, rfl⟩
  have HN := Lib.hid hN
  rw [hN] at hn hok ⊢
  clear hN
  cases hs : spB l
  · have HV := Lib.hid (dt_bad hs)
    rw [hs] at hok
    have HK := Lib.hid hok
    clear hs hok h
    go_enter Try.func15, Try.ntmps15
    go_wp2_with fail
    ((with_reducible refine HK.out.mono ?_); rintro e w1 ⟨rfl, bb⟩)
    go_wp2
    go_ret
    exact ⟨by rw [HV.out]; rfl, bb⟩
  · have HV := Lib.hid (dt_good hs)
    rw [hs] at hok
    have HK := Lib.hid hok
    clear hs hok
    rcases h with rfl | ⟨g, rfl, hg, _⟩
    · obtain rfl : 0 = n := HN.out
      go_enter Try.func15, Try.ntmps15
      go_wp2_with fail
      ((with_reducible refine HK.out.mono ?_); rintro e w1 ⟨rfl, bb⟩)
      go_wp2
      go_rounds 1
      go_ret
      exact ⟨by rw [HV.out]; rfl, bb⟩
    · go_enter Try.func15, Try.ntmps15
      go_wp2_with fail
      ((with_reducible refine HK.out.mono ?_); rintro e w1 ⟨rfl, bb⟩)
      have HB1 := Lib.hid bb
      clear bb
      go_wp2
      go_loopw [3, 11] (fun v3 v11 wr => ∃ k : Nat, v11 = .int .i64 (k : Int) ∧ v3 = .int .i64 (dtK l k) ∧ k ≤ n ∧ Below w.heap.size w wr) (fun v3 v11 _ => n - (intOf v11).toNat)
      case atStart => exact ⟨0, rfl, rfl, Nat.zero_le _, HB1.out⟩
      case round =>
        obtain ⟨k, rfl, rfl, hk, hB⟩ := hrel
        have HB := Lib.hid hB
        by_cases hlt : k < n
        · obtain ⟨hlg, q1, q2⟩ := (H.out.1.on hB).cells (k := k) (by rw [HN.out]; exact hlt)
          have i0 : (0 : Int) ≤ (k : Int) := by omega
          have i1 : (k : Int) < (n : Int) := by omega
          have hd : dtK l (k + 1) = IntKind.i64.wrap (dtK l k + IntKind.i64.wrap (pY l k - pX l k)) := rfl
          obtain ⟨p, hp⟩ : ∃ p, pX l k = p := ⟨_, rfl⟩
          obtain ⟨q, hq⟩ : ∃ q, pY l k = q := ⟨_, rfl⟩
          obtain ⟨s, hs⟩ : ∃ s, dtK l k = s := ⟨_, rfl⟩
          rw [hp, hq, hs] at hd
          rw [hp] at q1; rw [hq] at q2
          rw [hs]
          have HD := Lib.hid hd
          clear hB hp hq hs hd
          go_wp2
          go_roundw
          case rel => exact ⟨k + 1, by go_num, by rw [HD.out]; first | rfl | (simp only [IntKind.wrap_i64, wrap64]), by omega, HB.out.alloc HB.out.size _⟩
          case measure => simp [intOf]; omega
        · obtain rfl : k = n := by omega
          clear hB
          go_wp2
          go_ret
          exact ⟨by rw [HV.out, HN.out]; rfl, HB.out⟩
set_option maxRecDepth 100000 in
set_option maxHeartbeats 2000000 in
theorem dots_spec (w : World) (a : Option Addr) (c : Nat) (l : List Pt) (hn : l.length ≤ 1048576) (h : PathAt w a l) :
    Calls Try.prog 88 #[.slice a l.length c] w fun e w' => e = .returned (.int .i64 (dtV l)) ∧ Below w.heap.size w w' := by
  have hok := fun (W : World) (hW : PathAt W a l) => sok_spec W a c l hn hW
  have H := Lib.hid (And.intro h hn)
  obtain ⟨n, hN⟩ : ∃ n, l.length = n := ⟨_, rfl⟩
  have HN := Lib.hid hN
  rw [hN] at hn hok ⊢
  clear hN
  rcases h with rfl | ⟨g, rfl, hg, _⟩
  · obtain rfl : 0 = n := HN.out
    have hd : dtV [] = 0 := rfl
    have HD := Lib.hid hd
    clear hok hd
    go_enter Try.func88, Try.ntmps88
    go_wp2
    go_rounds 1
    go_ret
    exact ⟨by rw [HD.out]; rfl, Below.refl _ _⟩
  · cases hs : spB l
    · have HV := Lib.hid (dt_bad hs)
      rw [hs] at hok
      have HK := Lib.hid hok
      clear hs hok
      by_cases hn0 : 0 < n
      · have hn0i : (0 : Int) < (n : Int) := by omega
        go_enter Try.func88, Try.ntmps88
        go_wp2
        go_loopw [3, 4] (fun v3 v4 wr => v4 = .int .i64 0 ∧ v3 = .int .i64 0 ∧ Below w.heap.size w wr) (fun _ _ _ => 0)
        case atStart => exact ⟨rfl, rfl, Below.refl _ _⟩
        case round =>
          obtain ⟨rfl, rfl, hB⟩ := hrel
          have HB := Lib.hid hB
          clear hB
          go_wp2_with fail
          ((with_reducible refine (HK.out _ (H.out.1.on HB.out)).mono ?_); rintro e w1 ⟨rfl, bb⟩)
          have HB1 := Lib.hid (on_of HB.out bb)
          clear bb
          go_wp2
          go_ret
          exact ⟨by rw [HV.out]; rfl, HB1.out⟩
      · obtain rfl : n = 0 := by omega
        go_enter Try.func88, Try.ntmps88
        go_wp2
        go_rounds 1
        go_ret
        exact ⟨by rw [HV.out]; rfl, Below.refl _ _⟩
    · have HV := Lib.hid (dt_good hs)
      rw [hs] at hok
      have HK := Lib.hid hok
      clear hs hok
      go_enter Try.func88, Try.ntmps88
      go_wp2
      go_loopw [3, 4] (fun v3 v4 wr => ∃ k : Nat, v4 = .int .i64 (k : Int) ∧ v3 = .int .i64 (dtK l k) ∧ k ≤ n ∧ Below w.heap.size w wr) (fun v3 v4 _ => n - (intOf v4).toNat)
      case atStart => exact ⟨0, rfl, rfl, Nat.zero_le _, Below.refl _ _⟩
      case round =>
        obtain ⟨k, rfl, rfl, hk, hB⟩ := hrel
        have HB := Lib.hid hB
        by_cases hlt : k < n
        · have i0 : (0 : Int) ≤ (k : Int) := by omega
          have i1 : (k : Int) < (n : Int) := by omega
          have hd : dtK l (k + 1) = IntKind.i64.wrap (dtK l k + IntKind.i64.wrap (pY l k - pX l k)) := rfl
          rw [← wrap_in2] at hd
          obtain ⟨p, hp⟩ : ∃ p, pX l k = p := ⟨_, rfl⟩
          obtain ⟨q, hq⟩ : ∃ q, pY l k = q := ⟨_, rfl⟩
          obtain ⟨s, hs⟩ : ∃ s, dtK l k = s := ⟨_, rfl⟩
          rw [hp, hq, hs] at hd
          rw [hs]
          have HD := Lib.hid hd
          have HPQ := Lib.hid (And.intro hp hq)
          clear hB hp hq hs hd
          go_wp2_with fail
          ((with_reducible refine (HK.out _ (H.out.1.on HB.out)).mono ?_); rintro e w1 ⟨rfl, bb⟩)
          have HB1 := Lib.hid (on_of HB.out bb)
          clear bb
          obtain ⟨hlg, q1, q2⟩ := (H.out.1.on HB1.out).cells (k := k) (by rw [HN.out]; exact hlt)
          rw [HPQ.out.1] at q1; rw [HPQ.out.2] at q2
          go_wp2
          go_quiet (fail)
          have HB2 := Lib.hid (drewN_on HB1.out nq)
          clear q1 q2 hlg
          go_wp2
          go_roundw
          case rel => exact ⟨k + 1, by go_num, by rw [HD.out]; first | rfl | (simp only [IntKind.wrap_i64, wrap64]), by omega, HB2.out⟩
          case measure => simp [intOf]; omega
        · obtain rfl : k = n := by omega
          clear hB
          go_wp2
          go_ret
          exact ⟨by rw [HV.out, HN.out]; rfl, HB.out⟩
end Go.Proofs.Ytejnfdpckipbeaa.Ins
namespace Go.Proofs.Ytejnfdpckipbeaa.Ins
open Go.ChangeShapes Go.WideShapes Go.ChangeAt Go.RowKit Go.Shelf
open Kit Point
set_option linter.unusedVariables false
set_option linter.unusedSimpArgs false
set_option linter.unnecessarySimpa false
theorem cont_impl (p q x : Int) (w : World) : Calls Try.prog 57 #[.agg #[.int .i64 p, .int .i64 q], .int .i64 x] w fun e w' => e = .returned (.bool (decide (p ≤ x ∧ x < q))) ∧ Below w.heap.size w w' := by
  by_cases h1 : p ≤ x
  · by_cases h2 : x < q
    all_goals
      go_enter Try.func57, Try.ntmps57
      go_wp2
      go_ret
      exact ⟨ret_bool (by simp [h1, h2]), by go_grown⟩
  · go_enter Try.func57, Try.ntmps57
    go_wp2
    go_ret
    exact ⟨ret_bool (by simp [h1]; intro h; omega), by go_grown⟩
def encP (p : Pt) : List Value := [.int .i64 p.1, .int .i64 p.2]
theorem in_pred (x : Int) (B : Nat) (w : World) (hB : B < w.heap.size) (hcell : w.cell? ⟨B, 0, none⟩ = some (.int .i64 x)) :
    PredBelow Try.prog 56 #[.pointer (some ⟨B, 0, none⟩)] (fun p => .agg (encP p).toArray) (fun p => decide (p.1 ≤ x ∧ x < p.2)) w := fun W p hb => by
  have hc : W.cell? ⟨B, 0, none⟩ = some (.int .i64 x) := (hb.cell (p := ⟨B, 0, none⟩) hB).trans hcell
  have hBW : B < W.heap.size := Nat.lt_of_lt_of_le hB hb.size
  have HB := Lib.hid hb
  clear hb hcell
  show Calls Try.prog 56 #[.agg #[.int .i64 p.1, .int .i64 p.2], .pointer (some ⟨B, 0, none⟩)] W _
  go_enter Try.func56, Try.ntmps56
  go_wp2_with fail
  ((with_reducible refine (cont_impl _ _ _ _).mono ?_); rintro e w1 ⟨rfl, bb⟩)
  have HB1 := Lib.hid (on_of (W := W) (by go_grown) bb)
  clear bb hc
  go_wp2
  go_ret
  exact ⟨ret_bool (by simp), HB.out.trans (HB1.out.mono HB.out.size)⟩
set_option maxHeartbeats 1000000 in
theorem in_impl9 (w : World) (a : Option Addr) (c : Nat) (l : List Pt) (x : Int) (hn : l.length ≤ 1048576) (h : PathAt w a l) :
    Calls Try.prog 18 #[.slice a l.length c, .int .i64 x] w fun e w' => e = .returned (.bool (inS l x)) ∧ Below w.heap.size w w' := by
  have HP := Lib.hid h
  rcases h with rfl | ⟨g, rfl, hg, hc⟩
  · go_enter Try.func18, Try.ntmps18
    go_wp2
    go_rounds 1
    go_wp2
    go_ret
    exact ⟨rfl, by go_grown⟩
  · have eg : ∀ args w, (callFunc 56 args).run Try.prog w = .ok (.enter 56 args) w := enters_of Try.func56 (by kernel_rfl) rfl
    have hcon := AnyQ.slices_ContainsFunc Try.containsF 2 Try.isAgg83 Try.sizeOf83 encP (fun _ => rfl) (fun p : Pt => decide (p.1 ≤ x ∧ x < p.2)) 56 #[.pointer (some ⟨w.heap.size, 0, none⟩)] eg g 0 l.length c l (w.alloc (.cells #[.int .i64 x] 3))
      (in_pred x w.heap.size _ (by simp) (by simp [go_sem])) (Nat.le_refl _) (by omega) (by simp; omega) (fun j hj i v hi => by
        have h1 := hc j hj
        have hb := (Below.refl w.heap.size w).alloc (Nat.le_refl _) (.cells #[.int .i64 x] 3)
        rw [getElem!_pos l j hj, getk l hj] at hi
        match i, hi with
        | 0, hi => simp [encP] at hi; rw [← hi, Nat.zero_add]; exact (hb.cell (p := ⟨g, j * 2, none⟩) hg).trans h1.1
        | 1, hi => simp [encP] at hi; rw [← hi, Nat.zero_add]; exact (hb.cell (p := ⟨g, j * 2 + 1, none⟩) hg).trans h1.2
        | i + 2, hi => simp [encP] at hi)
    change Calls Try.prog 55 _ _ _ at hcon
    rw [List.take_length] at hcon
    have e0 : l.any (fun p : Pt => decide (p.1 ≤ x ∧ x < p.2)) = inS l x := rfl
    rw [e0] at hcon
    clear hc e0
    generalize inS l x = r at hcon ⊢
    generalize l.length = n at hcon ⊢
    go_enter Try.func18, Try.ntmps18
    go_wp2_with (go_at_call 55; refine hcon.mono ?_; rintro e w' ⟨rfl, hb'⟩)
    go_ret
    exact ⟨rfl, on_of (W := w) (by go_grown) hb'⟩
end Go.Proofs.Ytejnfdpckipbeaa.Ins
namespace Go.Proofs.Ytejnfdpckipbeaa.Dot
open Go.ChangeShapes Go.WideShapes Go.ChangeAt Go.RowKit
open Kit Point Box
set_option linter.unusedVariables false
set_option linter.unusedSimpArgs false
set_option linter.unnecessarySimpa false
attribute [local go_sem ↓] run_mx run_mn
def inboxB (x0 y0 x1 y1 x y : Int) : Bool := bokB x0 y0 x1 y1 && decide (x0 ≤ x ∧ x < x1 ∧ y0 ≤ y ∧ y < y1)
theorem nxt_of (x : Int) (h : -9223372036854775808 ≤ x ∧ x ≤ 9223372036854775807) : (x < 9223372036854775807 ∧ wrap64 (x + 1) = x + 1) ∨ (x = 9223372036854775807 ∧ wrap64 (x + 1) = -9223372036854775808) := by
  by_cases hx : x < 9223372036854775807
  · exact .inl ⟨hx, IntWalk.wrap64_in _ (by omega)⟩
  · have : x = 9223372036854775807 := by omega
    subst this
    exact .inr ⟨rfl, by go_arith⟩
theorem inbox_iff {x0 y0 x1 y1 x y p q a b c d : Int} (hm : MeetOf x0 y0 x1 y1 x y p q a b c d)
    (kx : (x < 9223372036854775807 ∧ p = x + 1) ∨ (x = 9223372036854775807 ∧ p = -9223372036854775808)) (ky : (y < 9223372036854775807 ∧ q = y + 1) ∨ (y = 9223372036854775807 ∧ q = -9223372036854775808)) :
    (a = x ∧ b = y ∧ c = p ∧ d = q) ↔ inboxB x0 y0 x1 y1 x y = true := by
  simp only [inboxB, Bool.and_eq_true, decide_eq_true_eq, MeetOf, ← Bool.not_eq_true, bok_iff, mx, mn] at *
  omega
theorem run_eql_box (w : World) (a b c d x y p q : Int) : (binOp .eql 26 (.agg #[.int .i64 a, .int .i64 b, .int .i64 c, .int .i64 d]) (.agg #[.int .i64 x, .int .i64 y, .int .i64 p, .int .i64 q])).run Try.prog w = .ok (.bool (decide (a = x ∧ b = y ∧ c = p ∧ d = q))) w := by
  by_cases h1 : a = x <;> by_cases h2 : b = y <;> by_cases h3 : c = p <;> by_cases h4 : d = q
  all_goals simp [go_sem, *]
attribute [local go_sem ↓] run_eql_box
set_option maxHeartbeats 1000000 in
theorem inbox_impl (x0 y0 x1 y1 x y : Int) (w : World) (hx : -9223372036854775808 ≤ x ∧ x ≤ 9223372036854775807) (hy : -9223372036854775808 ≤ y ∧ y ≤ 9223372036854775807) : Calls Try.prog 17 #[.agg #[.int .i64 x0, .int .i64 y0, .int .i64 x1, .int .i64 y1], .int .i64 x, .int .i64 y] w fun e w' => e = .returned (.bool (inboxB x0 y0 x1 y1 x y)) ∧ Below w.heap.size w w' := by
  have kx := Lib.hid (nxt_of x hx)
  have ky := Lib.hid (nxt_of y hy)
  obtain ⟨p, hp⟩ : ∃ p, wrap64 (x + 1) = p := ⟨_, rfl⟩
  obtain ⟨q, hq⟩ : ∃ q, wrap64 (y + 1) = q := ⟨_, rfl⟩
  clear hx hy
  rw [hp] at kx
  rw [hq] at ky
  go_enter Try.func17, Try.ntmps17
  go_wp2
  clear hp hq
  go_region_held3 (fun w' => w'.cell? ⟨w.heap.size, 0, none⟩ = some (.int .i64 x0) ∧ w'.cell? ⟨w.heap.size, 1, none⟩ = some (.int .i64 y0) ∧ w'.cell? ⟨w.heap.size, 2, none⟩ = some (.int .i64 x1) ∧ w'.cell? ⟨w.heap.size, 3, none⟩ = some (.int .i64 y1) ∧ w'.cell? ⟨w.heap.size + 1, 0, none⟩ = some (.int .i64 x) ∧ w'.cell? ⟨w.heap.size + 1, 1, none⟩ = some (.int .i64 y) ∧ w'.cell? ⟨w.heap.size + 1, 2, none⟩ = some (.int .i64 p) ∧ w'.cell? ⟨w.heap.size + 1, 3, none⟩ = some (.int .i64 q) ∧ Below w.heap.size w w' ∧ w.heap.size + 1 < w'.heap.size)
    (refine ⟨?_, ?_, ?_, ?_, ?_, ?_, ?_, ?_, ?_, ?_⟩ <;> first | exact hB | (go_grown; done) | (rw [hc _ _ (by first | (simp; done) | (simp; omega))]; simp [*]; done) | go_keep)
    ((go_at_call 54; refine (meet_impl' _ _ _ _ _ _ _ _ _).mono ?_; rintro e w' ⟨a, b, c, d, hm, rfl, hb⟩; obtain ⟨hc, hf⟩ := bcell hb; have hB := on_of (W := w) (by go_grown) hb; have hz := hb.size; have hz1 : w.heap.size + 1 < w'.heap.size := (by have := hb.size; (try simp at this); omega)))
  go_wp2
  go_ret
  refine ⟨ret_bool ?_, hB⟩
  rw [Bool.eq_iff_iff, ← inbox_iff hm kx.out ky.out]
  simp
end Go.Proofs.Ytejnfdpckipbeaa.Dot
