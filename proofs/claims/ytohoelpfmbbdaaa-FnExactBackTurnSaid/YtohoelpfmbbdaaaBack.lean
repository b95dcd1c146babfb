/-
  BackTurn (program and model): what each call returns and that nothing that was there has turned; no condition.
-/
import Derived.Test.YtohoelpfmbbdaaaJoin
namespace Go.Proofs.Ytohoelpfmbbdaaa.Back
open Go.ChangeShapes Go.WideShapes Go.ChangeAt Go.RowKit
open Kit Point Turn Apply Join
set_option linter.unusedVariables false
set_option linter.unusedSimpArgs false
set_option linter.unnecessarySimpa false

def bq (q : Int) : Int := if q = 0 then 0 else 4 - q

theorem bq_mod {q : Int} (h : 0 ≤ q ∧ q ≤ 3) : (4 - q).tmod 4 = bq q := by
  unfold bq; rw [Int.tmod_eq_emod_of_nonneg (by omega)]; split <;> omega

theorem bq_in {q : Int} (h : 0 ≤ q ∧ q ≤ 3) : 0 ≤ bq q ∧ bq q ≤ 3 := by unfold bq; split <;> omega

def bkB (q s dx dy : Int) : Bool := tokB q s dx dy && decide (s = 1)

def bkX (q dx dy : Int) : Int := rotX (bq q) (-dx) (-dy)
def bkY (q dx dy : Int) : Int := rotY (bq q) (-dx) (-dy)

theorem bk_im (q dx dy : Int) : imX (bq q) 1 0 (-dx) (-dy) = bkX q dx dy ∧ imY (bq q) 1 0 (-dx) (-dy) = bkY q dx dy := by
  simp [imX, imY, bkX, bkY]

theorem bk_neg (q dx dy : Int) : imX (bq q) 1 0 dx dy = -bkX q dx dy ∧ imY (bq q) 1 0 dx dy = -bkY q dx dy := by
  simp only [imX, imY, bkX, bkY, rotX, rotY, Int.mul_one, Int.add_zero]
  by_cases h0 : bq q = 0
  · simp [h0]
  · by_cases h1 : bq q = 1
    · simp [h1]
    · by_cases h2 : bq q = 2
      · simp [h2]
      · simp [h0, h1, h2]

theorem bk_tok {q : Int} (h : 0 ≤ q ∧ q ≤ 3) : tokB (bq q) 1 0 0 = true := by
  have := bq_in h
  simp [tokB, inB]; omega

def bkV (q s dx dy : Int) : Value :=
  .tuple #[.agg #[.int .i64 (sel (bkB q s dx dy) (bq q)), .int .i64 (sel (bkB q s dx dy) 1), .int .i64 (sel (bkB q s dx dy) (bkX q dx dy)), .int .i64 (sel (bkB q s dx dy) (bkY q dx dy))], .bool (bkB q s dx dy)]

theorem bk_no {q s dx dy : Int} (h : bkB q s dx dy = false) : Ending.returned (.tuple #[.agg #[.int .i64 0, .int .i64 0, .int .i64 0, .int .i64 0], .bool false]) = .returned (bkV q s dx dy) := by
  simp [bkV, h, sel]

theorem bk_yes {q dx dy a b Q : Int} (h1 : tokB q 1 dx dy = true) (ha : bkX q dx dy = a) (hb : bkY q dx dy = b) (hQ : bq q = Q) : Ending.returned (.tuple #[.agg #[.int .i64 Q, .int .i64 1, .int .i64 a, .int .i64 b], .bool true]) = .returned (bkV q 1 dx dy) := by
  simp [bkV, bkB, h1, sel, ha, hb, hQ]

structure Solo (w0 w : World) (q s dx dy : Int) : Prop where
  a : Four w w0.heap.size q s dx dy
  r : Four w (w0.heap.size + 1) 0 0 0 0
  g : Below w0.heap.size w0 w

theorem Solo.start (w : World) (q s dx dy : Int) (T : TypeId) : Solo w ((w.alloc (.cells #[.int .i64 q, .int .i64 s, .int .i64 dx, .int .i64 dy] T)).alloc (.cells #[.int .i64 0, .int .i64 0, .int .i64 0, .int .i64 0] T)) q s dx dy :=
  ⟨(Four.new w T q s dx dy).alloc _, Four.newAt _ T 0 0 0 0 (by simp), by go_grown⟩

theorem Solo.on {w0 w w' : World} {q s dx dy : Int} (h : Solo w0 w q s dx dy) (hb : Below w.heap.size w w') : Solo w0 w' q s dx dy :=
  ⟨h.a.keep hb h.a.lt, h.r.keep hb h.r.lt, on_of h.g hb⟩

set_option maxHeartbeats 2000000 in
theorem back_impl (q s dx dy : Int) (w : World) :
    Calls Try.prog 14 #[.agg #[.int .i64 q, .int .i64 s, .int .i64 dx, .int .i64 dy]] w fun e w' => e = .returned (bkV q s dx dy) ∧ Below w.heap.size w w' := by
  have F0 := Lib.hid (Solo.start w q s dx dy 25)
  cases h1 : tokB q s dx dy
  · go_enter Try.func14, Try.ntmps14
    go_wp2_with fail
    (refine (turn_impl _ _ _ _ _).mono ?_; rintro e w1 ⟨rfl, hb1⟩)
    have F1 := F0.out.on hb1
    obtain ⟨a0, a1, a2, a3, a4⟩ := Four.lay F1.a
    obtain ⟨c0, c1, c2, c3, c4⟩ := Four.lay F1.r
    have hB := F1.g
    clear F1 hb1
    go_wp2_with fail
    refine bodyPost_ret (by simp [results, Try.results14, go_sem, *]; try rfl) rfl ?_
    exact ⟨bk_no (by simp [bkB, h1]), by go_grown⟩
  · by_cases h2 : s = 1
    · subst h2
      obtain ⟨a, ha⟩ : ∃ a, bkX q dx dy = a := ⟨_, rfl⟩
      obtain ⟨b, hb⟩ : ∃ b, bkY q dx dy = b := ⟨_, rfl⟩
      obtain ⟨Q, hQ⟩ : ∃ Q, bq q = Q := ⟨_, rfl⟩
      have t1 := tok_true h1
      have hm := bq_mod t1.1
      have hnx : -200 ≤ -dx ∧ -dx ≤ 200 := by omega
      have hny : -200 ≤ -dy ∧ -dy ≤ 200 := by omega
      have e1 : IntKind.i64.wrap (-dx) = -dx := by rw [IntKind.wrap_i64]; omega
      have e2 : IntKind.i64.wrap (-dy) = -dy := by rw [IntKind.wrap_i64]; omega
      have hk := bk_tok t1.1
      have hi := bk_im q dx dy
      rw [hQ] at hm hk hi
      rw [ha, hb] at hi
      have HI := Lib.hid (And.intro (And.intro ha hb) (And.intro hQ hi))
      clear ha hb hQ hi
      go_enter Try.func14, Try.ntmps14
      go_wp2_with fail
      (refine (turn_impl _ _ _ _ _).mono ?_; rintro e w1 ⟨rfl, hb1⟩)
      have F1 := F0.out.on hb1
      have G1 := Lib.hid F1
      obtain ⟨a0, a1, a2, a3, a4⟩ := Four.lay F1.a
      obtain ⟨c0, c1, c2, c3, c4⟩ := Four.lay F1.r
      have hB := F1.g
      clear F1 hb1
      go_upto_region 4 with fail
      go_wp2_with fail
      have hr : w.heap.size + 1 < w1.heap.size := G1.out.r.lt
      refine gen_world (fun W => Solo w W q 1 dx dy ∧ Four W w1.heap.size Q 1 0 0) ⟨G1.out.on ((Below.refl _ _).alloc (Nat.le_refl _) _), Four.new _ 25 Q 1 0 0⟩ ?_
      clear a0 a1 a2 a3 a4 c0 c1 c2 c3 c4 hB
      rintro W ⟨FW, FS⟩
      have hw := FW.g
      have hl2 : w1.heap.size < W.heap.size := FS.lt
      have hl1 : w.heap.size + 1 < W.heap.size := by omega
      have hl0 : w.heap.size < W.heap.size := by omega
      have hne0 : w.heap.size ≠ w.heap.size + 1 := by omega
      have hne1 : w1.heap.size ≠ w.heap.size + 1 := by omega
      obtain ⟨a0, a1, a2, a3, a4⟩ := Four.lay FW.a
      obtain ⟨c0, c1, c2, c3, c4⟩ := Four.lay FW.r
      obtain ⟨d0, d1, d2, d3, d4⟩ := Four.lay FS
      clear FW FS
      go_cut [2, 3] (fun s2 s3 wx => s2 = .pointer (some ⟨w.heap.size + 1, 0, none⟩) ∧ s3 = .bool true ∧ wx.cell? ⟨w.heap.size + 1, 0, none⟩ = some (.int .i64 Q) ∧ wx.cell? ⟨w.heap.size + 1, 1, none⟩ = some (.int .i64 1) ∧ wx.cell? ⟨w.heap.size + 1, 2, none⟩ = some (.int .i64 a) ∧ wx.cell? ⟨w.heap.size + 1, 3, none⟩ = some (.int .i64 b) ∧ Below w.heap.size w wx)
      case first =>
        go_region_held3 (fun w' => (∀ b o, b < W.heap.size → b ≠ w.heap.size + 1 → w'.cell? ⟨b, o, none⟩ = W.cell? ⟨b, o, none⟩) ∧ Below w.heap.size w w') (first | (refine keepR _ ?_ hw; go_grown; done) | (refine keepR4 ?_ hw (by omega) _ _ _ _; go_grown; done)) (first | (go_at_call 31; (try rw [e1, e2]); (with_reducible refine (image_impl_to _ _ _ _ _ _ _ _ _ hk hnx hny HI.out.2.2.1 HI.out.2.2.2).mono ?_); rintro e w' ⟨rfl, hb⟩; have hB := on_of (W := W) (by go_grown) hb; obtain ⟨hc, hf, hz⟩ := bcell3 hB; have hs := hB.size; clear hb) | (go_at_call 32; (with_reducible refine (at_impl _ _ _ _ _ _ _).mono ?_); rintro e w' ⟨rfl, hb⟩; have hB := on_of (W := W) (by go_grown) hb; obtain ⟨hc, hf, hz⟩ := bcell3 hB; have hs := hB.size; clear hb))
        all_goals
          go_wp2_with fail
          go_meet
          have FR : Four w' (w.heap.size + 1) 0 0 0 0 := ⟨(hc _ _ hl1).trans c0, (hc _ _ hl1).trans c1, (hc _ _ hl1).trans c2, (hc _ _ hl1).trans c3, fun o => (hf _ o hl1).trans (c4 o)⟩
          have FN := FR.set Q 1 a b
          exact ⟨rfl, rfl, FN.c0, FN.c1, FN.c2, FN.c3, (keepR4 hB hw (by omega) _ _ _ _).2⟩
      case rest =>
        obtain ⟨rfl, rfl, k0, k1, k2, k3, hkk⟩ := hcut
        go_wp2_with fail
        refine bodyPost_ret (by simp [results, Try.results14, go_sem, *]; try rfl) rfl ?_
        exact ⟨bk_yes h1 HI.out.1.1 HI.out.1.2 HI.out.2.1, hkk⟩
    · go_enter Try.func14, Try.ntmps14
      go_wp2_with fail
      (refine (turn_impl _ _ _ _ _).mono ?_; rintro e w1 ⟨rfl, hb1⟩)
      have F1 := F0.out.on hb1
      obtain ⟨a0, a1, a2, a3, a4⟩ := Four.lay F1.a
      obtain ⟨c0, c1, c2, c3, c4⟩ := Four.lay F1.r
      have hB := F1.g
      clear F1 hb1
      go_wp2_with fail
      refine bodyPost_ret (by simp [results, Try.results14, go_sem, *]; try rfl) rfl ?_
      exact ⟨bk_no (by simp [bkB, h2]), by go_grown⟩

set_option maxHeartbeats 2000000 in
theorem back_spec (q s dx dy : Int) (w : World) :
    Calls Try.prog 23 #[.agg #[.int .i64 q, .int .i64 s, .int .i64 dx, .int .i64 dy]] w fun e w' => e = .returned (bkV q s dx dy) ∧ Below w.heap.size w w' := by
  have F0 := Lib.hid (Solo.start w q s dx dy 25)
  cases h1 : tokB q s dx dy
  · go_enter Try.func23, Try.ntmps23
    go_wp2_with fail
    (refine (turn_spec _ _ _ _ _).mono ?_; rintro e w1 ⟨rfl, hb1⟩)
    have F1 := F0.out.on hb1
    obtain ⟨a0, a1, a2, a3, a4⟩ := Four.lay F1.a
    obtain ⟨c0, c1, c2, c3, c4⟩ := Four.lay F1.r
    have hB := F1.g
    clear F1 hb1
    go_wp2_with fail
    refine bodyPost_ret (by simp [results, Try.results23, go_sem, *]; try rfl) rfl ?_
    exact ⟨bk_no (by simp [bkB, h1]), by go_grown⟩
  · by_cases h2 : s = 1
    · subst h2
      obtain ⟨A, hA⟩ : ∃ A, imX (bq q) 1 0 dx dy = A := ⟨_, rfl⟩
      obtain ⟨B, hB⟩ : ∃ B, imY (bq q) 1 0 dx dy = B := ⟨_, rfl⟩
      obtain ⟨Q, hQ⟩ : ∃ Q, bq q = Q := ⟨_, rfl⟩
      have t1 := tok_true h1
      have hm := bq_mod t1.1
      have hk := bk_tok t1.1
      have hn := bk_neg q dx dy
      have hr : (-200 ≤ A ∧ A ≤ 200) ∧ (-200 ≤ B ∧ B ≤ 200) := by
        rw [← hA, ← hB]
        have := rot_in (q := bq q) (x := dx) (y := dy) 200 t1.2.2.1 t1.2.2.2
        simpa [imX, imY] using this
      rw [hA, hB] at hn
      rw [hQ] at hm hk hA hB
      have HI := Lib.hid (And.intro (And.intro hA hB) (And.intro hQ (And.intro (show bkX q dx dy = -A by omega) (show bkY q dx dy = -B by omega))))
      have T1 := Lib.hid t1
      clear hA hB hQ hn
      go_enter Try.func23, Try.ntmps23
      go_wp2_with fail
      (refine (turn_spec _ _ _ _ _).mono ?_; rintro e w1 ⟨rfl, hb1⟩)
      have F1 := F0.out.on hb1
      have G1 := Lib.hid (And.intro (F1.on ((Below.refl _ _).alloc (Nat.le_refl _) (.cells #[.int .i64 Q, .int .i64 1, .int .i64 0, .int .i64 0] 25))) (Four.new w1 25 Q 1 0 0))
      obtain ⟨a0, a1, a2, a3, a4⟩ := Four.lay F1.a
      obtain ⟨c0, c1, c2, c3, c4⟩ := Four.lay F1.r
      have l0 := F1.a.lt
      have l1 := F1.r.lt
      clear F1 hb1
      go_wp2_with fail
      (refine (image_spec_to _ _ _ _ _ _ _ _ _ hk T1.out.2.2.1 T1.out.2.2.2 HI.out.1.1 HI.out.1.2).mono ?_; rintro e w2 ⟨rfl, hb2⟩)
      have F2 := G1.out.1.on hb2
      have P2 := G1.out.2.keep hb2 G1.out.2.lt
      have l2 := P2.lt
      clear hb2 a0 a1 a2 a3 a4 c0 c1 c2 c3 c4
      go_upto_region 5 with fail
      refine gen_world (fun W => Solo w W q 1 dx dy ∧ Four W w1.heap.size Q 1 0 0 ∧ Two W w2.heap.size A B) ⟨F2.on ((Below.refl _ _).alloc (Nat.le_refl _) _), P2.alloc _, Two.new _ 27 A B⟩ ?_
      rintro W ⟨FW, FP, FT⟩
      have hw := FW.g
      obtain ⟨c0, c1, c2, c3, c4⟩ := Four.lay FW.r
      obtain ⟨d0, d1, d2, d3, d4⟩ := Four.lay FP
      obtain ⟨e0, e1, e2⟩ := FT
      clear FW FP F2 P2
      have l3 : w.heap.size ≤ w1.heap.size := by omega
      have l4 : w.heap.size ≤ w.heap.size + 1 := by omega
      have n1 : w1.heap.size ≠ w.heap.size + 1 := by omega
      have n2 : w2.heap.size ≠ w.heap.size + 1 := by omega
      have n3 : w2.heap.size ≠ w1.heap.size := by omega
      have n4 := n1.symm
      have n5 := n2.symm
      have n6 := n3.symm
      generalize w.heap.size + 1 = g0 at *
      generalize w1.heap.size = g1 at *
      generalize w2.heap.size = g2 at *
      go_wp2_with fail
      refine bodyPost_ret (by simp [results, Try.results23, go_sem, *]; try rfl) rfl ?_
      exact ⟨bk_yes h1 HI.out.2.2.1 HI.out.2.2.2 HI.out.2.1, by go_grown⟩
    · go_enter Try.func23, Try.ntmps23
      go_wp2_with fail
      (refine (turn_spec _ _ _ _ _).mono ?_; rintro e w1 ⟨rfl, hb1⟩)
      have F1 := F0.out.on hb1
      obtain ⟨a0, a1, a2, a3, a4⟩ := Four.lay F1.a
      obtain ⟨c0, c1, c2, c3, c4⟩ := Four.lay F1.r
      have hB := F1.g
      clear F1 hb1
      go_wp2_with fail
      refine bodyPost_ret (by simp [results, Try.results23, go_sem, *]; try rfl) rfl ?_
      exact ⟨bk_no (by simp [bkB, h2]), by go_grown⟩

end Go.Proofs.Ytohoelpfmbbdaaa.Back
