/-
  Texts of this seat, laid together: Hb12, Hi12, Tb12
-/
import Derived.Test.YtbdjnfnphilklaaM33
import Derived.Test.YtbdjnfnphilklaaM21
namespace Go.Proofs.Ytbdjnfnphilklaa.Own
open Go.ChangeShapes Go.WideShapes Go.ChangeAt Go.RowKit
open Kit Slabs Ints Point
open Go.Proofs.Ytbdjnfnphilklaa.Ins (Pt Bx obx obK)
set_option linter.unusedVariables false
set_option linter.unusedSimpArgs false
set_option linter.unnecessarySimpa false
set_option maxRecDepth 100000
def hgB (n : Int) : Bool := decide (n = 1 ∨ n = 2 ∨ n = 4 ∨ n = 8 ∨ n = 16 ∨ n = 32)
theorem hg_div {n : Int} (h0 : 0 < n) : (Int.tmod 32 n = 0) ↔ (n = 1 ∨ n = 2 ∨ n = 4 ∨ n = 8 ∨ n = 16 ∨ n = 32) := by
  by_cases h : n ≤ 32
  · obtain ⟨m, rfl⟩ : ∃ m : Nat, n = (m : Int) := ⟨n.toNat, by omega⟩
    have hm : m < 33 := by omega
    have : ∀ m : Fin 33, (0 : Int) < (m.1 : Int) → ((Int.tmod 32 (m.1 : Int) = 0) ↔ ((m.1 : Int) = 1 ∨ (m.1 : Int) = 2 ∨ (m.1 : Int) = 4 ∨ (m.1 : Int) = 8 ∨ (m.1 : Int) = 16 ∨ (m.1 : Int) = 32)) := by decide
    exact this ⟨m, hm⟩ h0
  · have : Int.tmod 32 n = 32 := by
      rw [Int.tmod_eq_emod_of_nonneg (by omega)]
      exact Int.emod_eq_of_lt (by omega) (by omega)
    rw [this]; omega
theorem hg_true {n : Int} (h : hgB n = true) : n = 1 ∨ n = 2 ∨ n = 4 ∨ n = 8 ∨ n = 16 ∨ n = 32 := by simpa [hgB] using h
def cbV (n : Int) : Int := if hgB n then Int.tdiv 32 n else 0
theorem cbV_no {n : Int} (h : hgB n = false) : cbV n = 0 := by simp [cbV, h]
theorem cbV_yes {n : Int} (h : hgB n = true) : cbV n = Int.tdiv 32 n := by simp [cbV, h]
theorem cb_mul {n : Int} (h : hgB n = true) : cbV n * n = 32 ∧ 0 < cbV n ∧ cbV n ≤ 32 ∧ 0 < n ∧ n ≤ 32 := by
  rcases hg_true h with rfl | rfl | rfl | rfl | rfl | rfl <;> decide
def bnB (h b : Int) : Bool := decide (0 ≤ b ∧ b < cbV h)
theorem bn_hg {h b : Int} (hb : bnB h b = true) : hgB h = true := by
  cases e : hgB h
  · simp only [bnB, decide_eq_true_eq, cbV_no e] at hb; omega
  · rfl
theorem bn_rows {h b : Int} (hb : bnB h b = true) : 0 ≤ b ∧ 0 < h ∧ h ≤ 32 ∧ 0 ≤ b * h ∧ b * h + h ≤ 32 ∧ b < 32 := by
  have hg := bn_hg hb
  obtain ⟨h1, h2, h3, h4, h5⟩ := cb_mul hg
  simp only [bnB, decide_eq_true_eq] at hb
  have h6 : (b + 1) * h ≤ cbV h * h := Int.mul_le_mul_of_nonneg_right (by omega) (by omega)
  rw [h1, Int.add_mul, Int.one_mul] at h6
  exact ⟨hb.1, h4, h5, Int.mul_nonneg hb.1 (by omega), h6, by omega⟩
theorem mtx_in (b : Bx) : Ins.mtx b Ins.pgx = ⟨0, 0, 0, 0⟩ ∨ (0 ≤ (Ins.mtx b Ins.pgx).x0 ∧ (Ins.mtx b Ins.pgx).x0 < (Ins.mtx b Ins.pgx).x1 ∧ (Ins.mtx b Ins.pgx).x1 ≤ 32 ∧ 0 ≤ (Ins.mtx b Ins.pgx).y0 ∧ (Ins.mtx b Ins.pgx).y0 < (Ins.mtx b Ins.pgx).y1 ∧ (Ins.mtx b Ins.pgx).y1 ≤ 32) := by
  unfold Ins.mtx
  split
  · rename_i h
    right; obtain ⟨_, _, h3, h4⟩ := h
    simp only [Ins.pgx, mx, mn] at *; omega
  · exact .inl rfl
theorem obx_in (l : List Pt) (g x0 y0 x1 y1 : Int) : obx l g x0 y0 x1 y1 = ⟨0, 0, 0, 0⟩ ∨ (0 ≤ (obx l g x0 y0 x1 y1).x0 ∧ (obx l g x0 y0 x1 y1).x0 < (obx l g x0 y0 x1 y1).x1 ∧ (obx l g x0 y0 x1 y1).x1 ≤ 32 ∧ 0 ≤ (obx l g x0 y0 x1 y1).y0 ∧ (obx l g x0 y0 x1 y1).y0 < (obx l g x0 y0 x1 y1).y1 ∧ (obx l g x0 y0 x1 y1).y1 ≤ 32) := by
  unfold Ins.obx
  split
  · exact mtx_in _
  · exact .inl rfl
def tbX (B : Bx) (h b : Int) : Bool := bnB h b && decide (0 < (B.x1 - B.x0) * (B.y1 - B.y0) ∧ B.y0 < b * h + h ∧ b * h < B.y1)
def tbB (l : List Pt) (g x0 y0 x1 y1 h b : Int) : Bool := tbX (obx l g x0 y0 x1 y1) h b
def PgB (B : Bx) : Prop := B = ⟨0, 0, 0, 0⟩ ∨ (0 ≤ B.x0 ∧ B.x0 < B.x1 ∧ B.x1 ≤ 32 ∧ 0 ≤ B.y0 ∧ B.y0 < B.y1 ∧ B.y1 ≤ 32)
theorem pgb_dots {B : Bx} (hB : PgB B) : Box.dots B.x0 B.y0 B.x1 B.y1 = (B.x1 - B.x0) * (B.y1 - B.y0) := by
  unfold Box.dots
  rcases hB with rfl | h
  · rfl
  · rw [if_pos]; simp [bokB, inB]; omega
def mbx (B : Bx) (h b : Int) : Bx := Ins.mtx B ⟨0, b * h, 32, (b + 1) * h⟩
def bxZ (B : Bx) : Bool := decide (B.x0 = 0 ∧ B.y0 = 0 ∧ B.x1 = 0 ∧ B.y1 = 0)
theorem mbx_touch {B : Bx} {h b : Int} (hB : PgB B) (hb : bnB h b = true) : (!bxZ (mbx B h b)) = tbX B h b := by
  obtain ⟨b0, b1, b2, b3, b4, b5⟩ := bn_rows hb
  have e : (b + 1) * h = b * h + h := by rw [Int.add_mul, Int.one_mul]
  unfold tbX mbx
  rw [hb, e, Bool.true_and]
  rcases hB with rfl | ⟨k0, k1, k2, k3, k4, k5⟩
  · have : Ins.mtx ⟨0, 0, 0, 0⟩ ⟨0, b * h, 32, b * h + h⟩ = ⟨0, 0, 0, 0⟩ := by
      unfold Ins.mtx
      rw [if_neg]
      rintro ⟨_, _, h3, _⟩
      simp only [mx, mn] at h3; omega
    rw [this]; simp [bxZ]
  · have hd : 0 < (B.x1 - B.x0) * (B.y1 - B.y0) := Int.mul_pos (by omega) (by omega)
    generalize hr : b * h = r at *
    by_cases ht : B.y0 < r + h ∧ r < B.y1
    · have : Ins.mtx B ⟨0, r, 32, r + h⟩ = ⟨mx B.x0 0, mx B.y0 r, mn B.x1 32, mn B.y1 (r + h)⟩ := by
        unfold Ins.mtx
        rw [if_pos]
        refine ⟨?_, ?_, ?_, ?_⟩
        · simp [Ins.Bx.ok, bokB, inB]; omega
        · simp [Ins.Bx.ok, bokB, inB]; omega
        · simp only [mx, mn]; omega
        · simp only [mx, mn]; omega
      rw [this]
      have h1 : bxZ ⟨mx B.x0 0, mx B.y0 r, mn B.x1 32, mn B.y1 (r + h)⟩ = false := by
        unfold bxZ
        rw [decide_eq_false_iff_not]
        rintro ⟨_, _, h3, _⟩
        have h3' : mn B.x1 32 = 0 := h3
        simp only [mn] at h3'; omega
      rw [h1]; simp [hd, ht.1, ht.2]
    · have : Ins.mtx B ⟨0, r, 32, r + h⟩ = ⟨0, 0, 0, 0⟩ := by
        unfold Ins.mtx
        rw [if_neg]
        rintro ⟨_, _, _, h4⟩
        simp only [mx, mn] at h4; omega
      rw [this]
      have : decide (0 < (B.x1 - B.x0) * (B.y1 - B.y0) ∧ B.y0 < r + h ∧ r < B.y1) = false := by
        rw [decide_eq_false_iff_not]; rintro ⟨_, h2⟩; exact ht h2
      rw [this]; simp [bxZ]
theorem tb_no {B : Bx} {h b : Int} (hb : bnB h b = false) : tbX B h b = false := by simp [tbX, hb]
end Go.Proofs.Ytbdjnfnphilklaa.Own
namespace Go.Proofs.Ytbdjnfnphilklaa.Own
open Go.ChangeShapes Go.WideShapes Go.ChangeAt Go.RowKit
open Kit Slabs Ints Point
open Go.Proofs.Ytbdjnfnphilklaa.Ins (Pt Bx obx obK)
set_option linter.unusedVariables false
set_option linter.unusedSimpArgs false
set_option linter.unnecessarySimpa false
set_option maxRecDepth 100000
theorem ish_impl (n : Int) (w : World) : Calls Try.prog 92 #[.int .i64 n] w fun e w' => e = .returned (.bool (hgB n)) ∧ Below w.heap.size w w' := by
  by_cases h0 : 0 < n
  · have hz : ¬ n = 0 := by omega
    obtain ⟨m, hm⟩ : ∃ m, Int.tmod 32 n = m := ⟨_, rfl⟩
    have hm2 : 32 % n = m := by rw [← hm, Int.tmod_eq_emod_of_nonneg (by omega)]
    have hmw : IntKind.i64.wrap m = m := by
      have h1 : 0 ≤ Int.tmod 32 n := Int.tmod_nonneg _ (by omega)
      have h2 : Int.tmod 32 n ≤ 32 := by
        rw [Int.tmod_eq_emod_of_nonneg (by omega)]
        by_cases h : n ≤ 32
        · have := Int.emod_lt_of_pos 32 h0; omega
        · rw [Int.emod_eq_of_lt (by omega) (by omega)]; omega
      rw [hm] at h1 h2
      exact IntWalk.i64_in _ ⟨by omega, by omega⟩
    have hV : Hid (hgB n = (m == 0)) := Lib.hid (by
      have := hg_div h0
      rw [hm] at this
      unfold hgB
      rw [← decide_eq_decide.2 this]
      cases h : decide (m = 0) <;> simp_all)
    go_enter Try.func92, Try.ntmps92
    go_wp2
    go_ret
    exact ⟨ret_bool (by rw [hV.out]), Below.refl _ _⟩
  · have hV : Hid (hgB n = false) := Lib.hid (by simp [hgB]; omega)
    go_enter Try.func92, Try.ntmps92
    go_wp2
    go_ret
    exact ⟨ret_bool (by rw [hV.out]), Below.refl _ _⟩
theorem ish_spec (n : Int) (w : World) : Calls Try.prog 31 #[.int .i64 n] w fun e w' => e = .returned (.bool (hgB n)) ∧ Below w.heap.size w w' := by
  have hV : Hid (hgB n = (n == 1 || n == 2 || n == 4 || n == 8 || n == 16 || n == 32)) := Lib.hid (by
    simp only [hgB, Bool.decide_or, Bool.or_assoc]; rfl)
  cases h1 : n == 1
  · cases h2 : n == 2
    · cases h3 : n == 4
      · cases h4 : n == 8
        · cases h5 : n == 16
          · cases h6 : n == 32
            all_goals
              go_enter Try.func31, Try.ntmps31
              go_wp2
              go_ret
              exact ⟨ret_bool (by rw [hV.out, h1, h2, h3, h4, h5, h6]; rfl), Below.refl _ _⟩
          · go_enter Try.func31, Try.ntmps31
            go_wp2
            go_ret
            exact ⟨ret_bool (by rw [hV.out, h1, h2, h3, h4, h5]; rfl), Below.refl _ _⟩
        · go_enter Try.func31, Try.ntmps31
          go_wp2
          go_ret
          exact ⟨ret_bool (by rw [hV.out, h1, h2, h3, h4]; rfl), Below.refl _ _⟩
      · go_enter Try.func31, Try.ntmps31
        go_wp2
        go_ret
        exact ⟨ret_bool (by rw [hV.out, h1, h2, h3]; rfl), Below.refl _ _⟩
    · go_enter Try.func31, Try.ntmps31
      go_wp2
      go_ret
      exact ⟨ret_bool (by rw [hV.out, h1, h2]; rfl), Below.refl _ _⟩
  · go_enter Try.func31, Try.ntmps31
    go_wp2
    go_ret
    exact ⟨ret_bool (by rw [hV.out, h1]; rfl), Below.refl _ _⟩
theorem cb_impl (n : Int) (w : World) : Calls Try.prog 62 #[.int .i64 n] w fun e w' => e = .returned (.int .i64 (cbV n)) ∧ Below w.heap.size w w' := by
  have HC := Lib.hid (fun W => ish_impl n W)
  cases h : hgB n
  · have hV := Lib.hid (cbV_no h)
    rw [h] at HC
    clear h
    go_enter Try.func62, Try.ntmps62
    go_wp2_with fail
    ((with_reducible refine (HC.out _).mono ?_); rintro e w1 ⟨rfl, bb⟩)
    go_wp2
    go_ret
    exact ⟨ret_int (by rw [hV.out]), bb⟩
  · obtain ⟨h1, h2, h3, h4, h5⟩ := cb_mul h
    have hz : ¬ n = 0 := by omega
    have hV := Lib.hid (cbV_yes h)
    rw [cbV_yes h] at h2 h3
    obtain ⟨m, hm⟩ : ∃ m, Int.tdiv 32 n = m := ⟨_, rfl⟩
    have hm2 : 32 / n = m := by rw [← hm, Int.tdiv_eq_ediv_of_nonneg (by omega)]
    rw [hm] at h2 h3 hV
    have hmw : IntKind.i64.wrap m = m := IntWalk.i64_in _ ⟨by omega, by omega⟩
    rw [h] at HC
    clear h h1 h2 h3
    go_enter Try.func62, Try.ntmps62
    go_wp2_with fail
    ((with_reducible refine (HC.out _).mono ?_); rintro e w1 ⟨rfl, bb⟩)
    go_wp2
    go_ret
    exact ⟨ret_int (by rw [hV.out]), bb⟩
theorem cb_spec (n : Int) (w : World) : Calls Try.prog 11 #[.int .i64 n] w fun e w' => e = .returned (.int .i64 (cbV n)) ∧ Below w.heap.size w w' := by
  have HC := Lib.hid (fun W => ish_spec n W)
  cases h : hgB n
  · have hV := Lib.hid (cbV_no h)
    rw [h] at HC
    clear h
    go_enter Try.func11, Try.ntmps11
    go_wp2_with fail
    ((with_reducible refine (HC.out _).mono ?_); rintro e w1 ⟨rfl, bb⟩)
    go_wp2
    go_ret
    exact ⟨ret_int (by rw [hV.out]), bb⟩
  · obtain ⟨h1, h2, h3, h4, h5⟩ := cb_mul h
    have hz : ¬ n = 0 := by omega
    have hV := Lib.hid (cbV_yes h)
    rw [cbV_yes h] at h2 h3
    obtain ⟨m, hm⟩ : ∃ m, Int.tdiv 32 n = m := ⟨_, rfl⟩
    have hm2 : 32 / n = m := by rw [← hm, Int.tdiv_eq_ediv_of_nonneg (by omega)]
    rw [hm] at h2 h3 hV
    have hmw : IntKind.i64.wrap m = m := IntWalk.i64_in _ ⟨by omega, by omega⟩
    rw [h] at HC
    clear h h1 h2 h3
    go_enter Try.func11, Try.ntmps11
    go_wp2_with fail
    ((with_reducible refine (HC.out _).mono ?_); rintro e w1 ⟨rfl, bb⟩)
    go_wp2
    go_ret
    exact ⟨ret_int (by rw [hV.out]), bb⟩
theorem isband_impl (n b : Int) (w : World) : Calls Try.prog 32 #[.int .i64 n, .int .i64 b] w fun e w' => e = .returned (.bool (bnB n b)) ∧ Below w.heap.size w w' := by
  have HC := Lib.hid (fun W => cb_impl n W)
  by_cases h0 : 0 ≤ b
  · have hV : Hid (bnB n b = decide (b < cbV n)) := Lib.hid (by simp [bnB, h0])
    generalize cbV n = m at *
    go_enter Try.func32, Try.ntmps32
    go_wp2_with fail
    ((with_reducible refine (HC.out _).mono ?_); rintro e w1 ⟨rfl, bb⟩)
    go_wp2
    go_ret
    exact ⟨ret_bool (by rw [hV.out]), bb⟩
  · have hV : Hid (bnB n b = false) := Lib.hid (by simp [bnB, h0])
    go_enter Try.func32, Try.ntmps32
    go_wp2
    go_ret
    exact ⟨ret_bool (by rw [hV.out]), Below.refl _ _⟩
theorem l12ok_spec (n b : Int) (w : World) : Calls Try.prog 45 #[.int .i64 n, .int .i64 b] w fun e w' => e = .returned (.bool (bnB n b)) ∧ Below w.heap.size w w' := by
  have HC := Lib.hid (fun W => cb_spec n W)
  have hV : Hid (bnB n b = decide (0 ≤ b ∧ b ≤ cbV n - 1)) := Lib.hid (by unfold bnB; apply decide_eq_decide.2; omega)
  have hc : 0 ≤ cbV n ∧ cbV n ≤ 32 := by
    cases h : hgB n
    · rw [cbV_no h]; omega
    · have := cb_mul h; omega
  generalize cbV n = m at *
  have hmw : IntKind.i64.wrap (m - 1) = m - 1 := IntWalk.i64_in _ ⟨by omega, by omega⟩
  go_enter Try.func45, Try.ntmps45
  go_wp2_with fail
  ((with_reducible refine (HC.out _).mono ?_); rintro e w1 ⟨rfl, bb⟩)
  go_wp2_with fail
  (refine (Point.in_any _ _ _ _).mono ?_; rintro e w2 ⟨rfl, rfl⟩)
  go_wp2
  go_ret
  exact ⟨ret_bool (by rw [hV.out, Bool.decide_and]), bb⟩
end Go.Proofs.Ytbdjnfnphilklaa.Own
namespace Go.Proofs.Ytbdjnfnphilklaa.Own
open Go.ChangeShapes Go.WideShapes Go.ChangeAt Go.RowKit
open Kit Slabs Ints Point
open Go.Proofs.Ytbdjnfnphilklaa.Ins (Pt Bx obx obK gen_any9)
set_option linter.unusedVariables false
set_option linter.unusedSimpArgs false
set_option linter.unnecessarySimpa false
set_option maxRecDepth 100000
theorem run_neq_bx (w : World) (a b c d x y p q : Int) : (binOp .neq 38 (.agg #[.int .i64 a, .int .i64 b, .int .i64 c, .int .i64 d]) (.agg #[.int .i64 x, .int .i64 y, .int .i64 p, .int .i64 q])).run Try.prog w = .ok (.bool (!decide (a = x ∧ b = y ∧ c = p ∧ d = q))) w := by
  by_cases h1 : a = x <;> by_cases h2 : b = y <;> by_cases h3 : c = p <;> by_cases h4 : d = q
  all_goals simp [go_sem, *]
attribute [local go_sem ↓] run_neq_bx
theorem bandbox_impl (h b : Int) (hb : bnB h b = true) (w : World) : Calls Try.prog 69 #[.int .i64 h, .int .i64 b] w fun e w' => e = .returned (.agg #[.int .i64 0, .int .i64 (b * h), .int .i64 32, .int .i64 ((b + 1) * h)]) ∧ Below w.heap.size w w' := by
  obtain ⟨b0, b1, b2, b3, b4, b5⟩ := bn_rows hb
  have e : (b + 1) * h = b * h + h := by rw [Int.add_mul, Int.one_mul]
  have e1 : IntKind.i64.wrap (b * h) = b * h := IntWalk.i64_in _ ⟨by omega, by omega⟩
  have e2 : IntKind.i64.wrap (b + 1) = b + 1 := IntWalk.i64_in _ ⟨by omega, by omega⟩
  have e3 : IntKind.i64.wrap ((b + 1) * h) = (b + 1) * h := IntWalk.i64_in _ ⟨by omega, by omega⟩
  have HE := Lib.hid e
  clear e
  go_enter Try.func69, Try.ntmps69
  go_wp2
  refine bodyPost_ret (by simp [results, Try.results69, go_sem, *]; try rfl) rfl ?_
  exact ⟨rfl, by go_grown⟩
def OnX (w W : World) (a : Option Addr) (n c : Nat) (g x0 y0 x1 y1 : Int) : Prop := Blk W w.heap.size (sixv a n c g x0 y0 x1 y1) ∧ Below w.heap.size w W
theorem OnX.new (w : World) (a : Option Addr) (n c : Nat) (g x0 y0 x1 y1 : Int) : OnX w (w.alloc (.cells #[.slice a n c, .int .i64 g, .int .i64 x0, .int .i64 y0, .int .i64 x1, .int .i64 y1] 40)) a n c g x0 y0 x1 y1 :=
  ⟨Blk.new w #[.slice a n c, .int .i64 g, .int .i64 x0, .int .i64 y0, .int .i64 x1, .int .i64 y1] 40 rfl, by go_grown⟩
theorem OnX.on {w W V : World} {a : Option Addr} {n c : Nat} {g x0 y0 x1 y1 : Int} (h : OnX w W a n c g x0 y0 x1 y1) (hb : Below W.heap.size W V) : OnX w V a n c g x0 y0 x1 y1 := ⟨h.1.keep hb, on_of h.2 hb⟩
theorem OnX.bel {w W : World} {a : Option Addr} {n c : Nat} {g x0 y0 x1 y1 : Int} (h : OnX w W a n c g x0 y0 x1 y1) : Below w.heap.size w W := h.2
theorem OnX.six {w W : World} {a : Option Addr} {n c : Nat} {g x0 y0 x1 y1 : Int} (h : OnX w W a n c g x0 y0 x1 y1) : Blk W w.heap.size (sixv a n c g x0 y0 x1 y1) := h.1
theorem pgb_obx (l : List Pt) (g x0 y0 x1 y1 : Int) : PgB (obx l g x0 y0 x1 y1) := obx_in l g x0 y0 x1 y1
set_option maxHeartbeats 4000000 in
theorem touch_impl (w : World) (a : Option Addr) (c : Nat) (l : List Pt) (g x0 y0 x1 y1 ht bd : Int) (hn : l.length ≤ 1048576) (h : Ins.PathAt w a l) :
    Calls Try.prog 36 #[.agg #[.slice a l.length c, .int .i64 g, .int .i64 x0, .int .i64 y0, .int .i64 x1, .int .i64 y1], .int .i64 ht, .int .i64 bd] w fun e w' => e = .returned (.bool (tbB l g x0 y0 x1 y1 ht bd)) ∧ Below w.heap.size w w' := by
  have HP := Lib.hid (And.intro h hn)
  have HI := Lib.hid (fun W => isband_impl ht bd W)
  have HX0 := OnX.new w a l.length c g x0 y0 x1 y1
  cases hb : bnB ht bd
  · rw [hb] at HI
    have HV := Lib.hid (show tbB l g x0 y0 x1 y1 ht bd = false from tb_no hb)
    clear hb h hn
    go_enter Try.func36, Try.ntmps36
    go_upto_region 1 with fail
    refine gen_any9 (fun W => OnX w W a l.length c g x0 y0 x1 y1) HX0 ?_
    intro W hS
    have HS := Lib.hid hS
    clear hS
    go_wp2_with fail
    ((with_reducible refine (HI.out _).mono ?_); rintro e w1 ⟨rfl, bb⟩)
    have HB := Lib.hid (HS.out.on bb).bel
    clear bb
    go_wp2
    go_ret
    exact ⟨ret_bool HV.out.symm, HB.out⟩
  · have HO := Lib.hid (fun W (h : Ins.PathAt W a l) => Ins.obox_impl W a c l g x0 y0 x1 y1 hn h)
    have HBB := Lib.hid (fun W => bandbox_impl ht bd hb W)
    have HM := Lib.hid (fun W => Ins.meetbox_impl (obx l g x0 y0 x1 y1) ⟨0, bd * ht, 32, (bd + 1) * ht⟩ W)
    have HV := Lib.hid (show tbB l g x0 y0 x1 y1 ht bd = !bxZ (mbx (obx l g x0 y0 x1 y1) ht bd) from (mbx_touch (pgb_obx l g x0 y0 x1 y1) hb).symm)
    unfold mbx at HV
    rw [hb] at HI
    generalize Ins.mtx (obx l g x0 y0 x1 y1) ⟨0, bd * ht, 32, (bd + 1) * ht⟩ = m at *
    generalize obx l g x0 y0 x1 y1 = o at *
    obtain ⟨p0, p1, p2, p3⟩ := m
    obtain ⟨q0, q1, q2, q3⟩ := o
    simp only [Ins.Bx.v] at HO HM
    simp only [bxZ] at HV
    clear hb h hn
    go_enter Try.func36, Try.ntmps36
    go_upto_region 1 with fail
    refine gen_any9 (fun W => OnX w W a l.length c g x0 y0 x1 y1) HX0 ?_
    intro W hS
    have HS := Lib.hid hS
    clear hS
    go_wp2_with fail
    ((with_reducible refine (HI.out _).mono ?_); rintro e w1 ⟨rfl, bb⟩)
    have HS := Lib.hid (HS.out.on bb)
    clear bb
    obtain ⟨k0, k1, k2, k3, k4, k5, hzX⟩ := sixc HS.out.six
    go_wp2_with fail
    clear k0 k1 k2 k3 k4 k5 hzX
    ((with_reducible refine (HO.out _ (HP.out.1.on HS.out.bel)).mono ?_); rintro e w2 ⟨rfl, bb⟩)
    have HS := Lib.hid (HS.out.on bb)
    clear bb
    go_wp2_with fail
    ((with_reducible refine (HBB.out _).mono ?_); rintro e w3 ⟨rfl, bb⟩)
    have HS := Lib.hid (HS.out.on bb)
    clear bb
    go_wp2_with fail
    ((with_reducible refine (HM.out _).mono ?_); rintro e w4 ⟨rfl, bb⟩)
    have HS := Lib.hid (HS.out.on bb)
    clear bb
    go_wp2
    go_ret
    exact ⟨ret_bool (by rw [HV.out]; simp only [Bool.decide_and, Bool.not_and]), HS.out.bel⟩
end Go.Proofs.Ytbdjnfnphilklaa.Own
