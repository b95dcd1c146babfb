/-
  JoinTurns (program and model): what each call returns and that nothing that was there has turned; no condition.
-/
import Derived.Test.YtohoelpfmbbdaaaApply
import Derived.BigQuiet
import Derived.Deep.QuietTactic
import Derived.Deep.RegionHeld3
import Derived.Deep.DeepCutAuto
namespace Go.Proofs.Ytohoelpfmbbdaaa.Join
open Go.ChangeShapes Go.WideShapes Go.ChangeAt Go.RowKit
open Kit Point Turn Apply
set_option linter.unusedVariables false
set_option linter.unusedSimpArgs false
set_option linter.unnecessarySimpa false

def jq (q r : Int) : Int := if q + r < 4 then q + r else q + r - 4

theorem jq_mod {q r : Int} (h : 0 ≤ q ∧ q ≤ 3) (k : 0 ≤ r ∧ r ≤ 3) : (q + r).tmod 4 = jq q r := by
  unfold jq; rw [Int.tmod_eq_emod_of_nonneg (by omega)]; split <;> omega

theorem jq_in {q r : Int} (h : 0 ≤ q ∧ q ≤ 3) (k : 0 ≤ r ∧ r ≤ 3) : 0 ≤ jq q r ∧ jq q r ≤ 3 := by unfold jq; split <;> omega

theorem im_zero (q s dx dy : Int) : imX q s dx 0 0 = dx ∧ imY q s dy 0 0 = dy := by
  simp [imX, imY, rotX, rotY]

theorem mul16 {s t : Int} (h : 1 ≤ s ∧ s ≤ 4) (k : 1 ≤ t ∧ t ≤ 4) : 1 ≤ s * t ∧ s * t ≤ 16 := by
  have : s = 1 ∨ s = 2 ∨ s = 3 ∨ s = 4 := by omega
  rcases this with rfl | rfl | rfl | rfl <;> omega

/-- The blocks that the call makes first: two transformations, the result. -/
structure Pair (w0 w : World) (q s dx dy r t ex ey : Int) : Prop where
  a : Four w w0.heap.size q s dx dy
  b : Four w (w0.heap.size + 1) r t ex ey
  r : Four w (w0.heap.size + 1 + 1) 0 0 0 0
  g : Below w0.heap.size w0 w

theorem Pair.start (w : World) (q s dx dy r t ex ey : Int) (T : TypeId) : Pair w (((w.alloc (.cells #[.int .i64 q, .int .i64 s, .int .i64 dx, .int .i64 dy] T)).alloc (.cells #[.int .i64 r, .int .i64 t, .int .i64 ex, .int .i64 ey] T)).alloc (.cells #[.int .i64 0, .int .i64 0, .int .i64 0, .int .i64 0] T)) q s dx dy r t ex ey := by
  refine ⟨((Four.new w T q s dx dy).alloc _).alloc _, ?_, ?_, by go_grown⟩
  · have := (Four.new (w.alloc (.cells #[.int .i64 q, .int .i64 s, .int .i64 dx, .int .i64 dy] T)) T r t ex ey).alloc (.cells #[.int .i64 0, .int .i64 0, .int .i64 0, .int .i64 0] T)
    simpa using this
  · have := Four.new ((w.alloc (.cells #[.int .i64 q, .int .i64 s, .int .i64 dx, .int .i64 dy] T)).alloc (.cells #[.int .i64 r, .int .i64 t, .int .i64 ex, .int .i64 ey] T)) T 0 0 0 0
    simpa using this

theorem Pair.on {w0 w w' : World} {q s dx dy r t ex ey : Int} (h : Pair w0 w q s dx dy r t ex ey) (hb : Below w.heap.size w w') : Pair w0 w' q s dx dy r t ex ey :=
  ⟨h.a.keep hb h.a.lt, h.b.keep hb h.b.lt, h.r.keep hb h.r.lt, on_of h.g hb⟩

theorem Four.lay {w : World} {b : Nat} {x0 y0 x1 y1 : Int} (h : Four w b x0 y0 x1 y1) : w.cell? ⟨b, 0, none⟩ = some (.int .i64 x0) ∧ w.cell? ⟨b, 1, none⟩ = some (.int .i64 y0) ∧ w.cell? ⟨b, 2, none⟩ = some (.int .i64 x1) ∧ w.cell? ⟨b, 3, none⟩ = some (.int .i64 y1) ∧ (∀ o, w.frozen? ⟨b, o, none⟩ = false) := ⟨h.c0, h.c1, h.c2, h.c3, h.fr⟩

theorem Four.newAt (w : World) {b : Nat} (T : TypeId) (x0 y0 x1 y1 : Int) (h : w.heap.size = b) : Four (w.alloc (.cells #[.int .i64 x0, .int .i64 y0, .int .i64 x1, .int .i64 y1] T)) b x0 y0 x1 y1 := by
  subst h; exact Four.new w T x0 y0 x1 y1

theorem keepR {w W w' : World} (R : Nat) (hb : Below W.heap.size W w') (h0 : Below w.heap.size w W) : (∀ b o, b < W.heap.size → b ≠ R → w'.cell? ⟨b, o, none⟩ = W.cell? ⟨b, o, none⟩) ∧ Below w.heap.size w w' :=
  ⟨fun b o h _ => hb.cell (p := ⟨b, o, none⟩) h, on_of h0 hb⟩
theorem keepR4 {w W w' : World} {R : Nat} (hb : Below W.heap.size W w') (h0 : Below w.heap.size w W) (hR : w.heap.size ≤ R) (v0 v1 v2 v3 : Value) : (∀ b o, b < W.heap.size → b ≠ R → ((((w'.setCell ⟨R, 0, none⟩ v0).setCell ⟨R, 1, none⟩ v1).setCell ⟨R, 2, none⟩ v2).setCell ⟨R, 3, none⟩ v3).cell? ⟨b, o, none⟩ = W.cell? ⟨b, o, none⟩) ∧ Below w.heap.size w ((((w'.setCell ⟨R, 0, none⟩ v0).setCell ⟨R, 1, none⟩ v1).setCell ⟨R, 2, none⟩ v2).setCell ⟨R, 3, none⟩ v3) := by
  refine ⟨fun b o h hne => ?_, ?_⟩
  · rw [World.cell?_setCell_far _ _ _ _ hne.symm, World.cell?_setCell_far _ _ _ _ hne.symm, World.cell?_setCell_far _ _ _ _ hne.symm, World.cell?_setCell_far _ _ _ _ hne.symm]
    exact hb.cell (p := ⟨b, o, none⟩) h
  · have h1 := on_of h0 hb
    have hs := h1.size
    go_grown

/-- The image by its numbers, as letters; the point in its range. -/
theorem image_impl_to (q s dx dy x y a b : Int) (w : World) (ht : tokB q s dx dy = true) (hx : -200 ≤ x ∧ x ≤ 200) (hy : -200 ≤ y ∧ y ≤ 200) (ha : imX q s dx x y = a) (hb : imY q s dy x y = b) :
    Calls Try.prog 31 #[.agg #[.int .i64 q, .int .i64 s, .int .i64 dx, .int .i64 dy], .agg #[.int .i64 x, .int .i64 y]] w fun e w' => e = .returned (.agg #[.int .i64 a, .int .i64 b]) ∧ Below w.heap.size w w' := by
  rw [← ha, ← hb]; exact image_impl q s dx dy x y w ht hx hy
theorem image_zero (q s dx dy : Int) (w : World) (ht : tokB q s dx dy = true) :
    Calls Try.prog 31 #[.agg #[.int .i64 q, .int .i64 s, .int .i64 dx, .int .i64 dy], .agg #[.int .i64 0, .int .i64 0]] w fun e w' => e = .returned (.agg #[.int .i64 dx, .int .i64 dy]) ∧ Below w.heap.size w w' :=
  image_impl_to q s dx dy 0 0 dx dy w ht (by omega) (by omega) (im_zero q s dx dy).1 (im_zero q s dx dy).2

set_option maxHeartbeats 2000000 in
theorem then_impl (q s dx dy r t ex ey a b Q S : Int) (w : World) (h1 : tokB q s dx dy = true) (h2 : tokB r t ex ey = true) (ha : imX r t ex dx dy = a) (hb : imY r t ey dx dy = b) (hQ : jq q r = Q) (hS : s * t = S) :
    Calls Try.prog 28 #[.agg #[.int .i64 q, .int .i64 s, .int .i64 dx, .int .i64 dy], .agg #[.int .i64 r, .int .i64 t, .int .i64 ex, .int .i64 ey]] w fun e w' => e = .returned (.agg #[.int .i64 Q, .int .i64 S, .int .i64 a, .int .i64 b]) ∧ Below w.heap.size w w' := by
  have F0 := Pair.start w q s dx dy r t ex ey 25
  have t1 := tok_true h1
  have t2 := tok_true h2
  have m1 := mul16 t1.2.1 t2.2.1
  have m2 := jq_mod t1.1 t2.1
  have HI := Lib.hid (And.intro ha hb)
  rw [hS] at m1
  rw [hQ] at m2
  clear ha hb
  go_enter Try.func28, Try.ntmps28
  go_upto_region 2 with fail
  go_wp2_with fail
  refine gen_world (fun W => Pair w W q s dx dy r t ex ey ∧ Four W (w.heap.size + 1 + 1 + 1) Q S 0 0) ⟨F0.on ((Below.refl _ _).alloc (Nat.le_refl _) _), Four.newAt _ 25 Q S 0 0 (by simp)⟩ ?_
  clear F0
  rintro W ⟨FW, FS⟩
  have hw := FW.g
  have hl : w.heap.size + 1 + 1 + 1 < W.heap.size := FS.lt
  have hl2 : w.heap.size + 1 + 1 < W.heap.size := by omega
  have hl1 : w.heap.size + 1 < W.heap.size := by omega
  have hl0 : w.heap.size < W.heap.size := by omega
  have hne0 : w.heap.size ≠ w.heap.size + 1 + 1 := by omega
  have hne1 : w.heap.size + 1 ≠ w.heap.size + 1 + 1 := by omega
  obtain ⟨a0, a1, a2, a3, a4⟩ := Four.lay FW.a
  obtain ⟨b0, b1, b2, b3, b4⟩ := Four.lay FW.b
  obtain ⟨c0, c1, c2, c3, c4⟩ := Four.lay FW.r
  obtain ⟨d0, d1, d2, d3, d4⟩ := Four.lay FS
  clear FW FS
  go_cut [4] (fun s4 wx => s4 = .pointer (some ⟨w.heap.size + 1 + 1, 0, none⟩) ∧ wx.cell? ⟨w.heap.size + 1 + 1, 0, none⟩ = some (.int .i64 Q) ∧ wx.cell? ⟨w.heap.size + 1 + 1, 1, none⟩ = some (.int .i64 S) ∧ wx.cell? ⟨w.heap.size + 1 + 1, 2, none⟩ = some (.int .i64 a) ∧ wx.cell? ⟨w.heap.size + 1 + 1, 3, none⟩ = some (.int .i64 b) ∧ Below w.heap.size w wx)
  case first =>
    go_region_held3 (fun w' => (∀ b o, b < W.heap.size → b ≠ w.heap.size + 1 + 1 → w'.cell? ⟨b, o, none⟩ = W.cell? ⟨b, o, none⟩) ∧ Below w.heap.size w w') (first | (refine keepR _ ?_ hw; go_grown; done) | (refine keepR4 ?_ hw (by omega) _ _ _ _; go_grown; done)) (first | (go_at_call 31; (first | (with_reducible refine (image_zero _ _ _ _ _ h1).mono ?_) | (with_reducible refine (image_impl_to _ _ _ _ _ _ _ _ _ h2 t1.2.2.1 t1.2.2.2 HI.out.1 HI.out.2).mono ?_)); rintro e w' ⟨rfl, hb⟩; have hB := on_of (W := W) (by go_grown) hb; obtain ⟨hc, hf, hz⟩ := bcell3 hB; have hs := hB.size; clear hb) | (go_at_call 32; (with_reducible refine (at_impl _ _ _ _ _ _ _).mono ?_); rintro e w' ⟨rfl, hb⟩; have hB := on_of (W := W) (by go_grown) hb; obtain ⟨hc, hf, hz⟩ := bcell3 hB; have hs := hB.size; clear hb))
    all_goals
      go_wp2_with fail
      go_meet
      have FR : Four w' (w.heap.size + 1 + 1) 0 0 0 0 := ⟨(hc _ _ hl2).trans c0, (hc _ _ hl2).trans c1, (hc _ _ hl2).trans c2, (hc _ _ hl2).trans c3, fun o => (hf _ o hl2).trans (c4 o)⟩
      have FN := FR.set Q S a b
      exact ⟨rfl, FN.c0, FN.c1, FN.c2, FN.c3, (keepR4 hB hw (by omega) _ _ _ _).2⟩
  case rest =>
    obtain ⟨rfl, k0, k1, k2, k3, hk⟩ := hcut
    go_wp2_with fail
    refine bodyPost_ret (by simp [results, Try.results28, go_sem, *]; try rfl) rfl ?_
    exact ⟨rfl, hk⟩

/-- Is there a joined transformation? And what comes out. -/
def jnB (q s dx dy r t ex ey : Int) : Bool := tokB q s dx dy && tokB r t ex ey && tokB (jq q r) (s * t) (imX r t ex dx dy) (imY r t ey dx dy)

def jnV (q s dx dy r t ex ey : Int) : Value :=
  .tuple #[.agg #[.int .i64 (sel (jnB q s dx dy r t ex ey) (jq q r)), .int .i64 (sel (jnB q s dx dy r t ex ey) (s * t)), .int .i64 (sel (jnB q s dx dy r t ex ey) (imX r t ex dx dy)), .int .i64 (sel (jnB q s dx dy r t ex ey) (imY r t ey dx dy))], .bool (jnB q s dx dy r t ex ey)]

theorem jn_no {q s dx dy r t ex ey : Int} (h : jnB q s dx dy r t ex ey = false) : Ending.returned (.tuple #[.agg #[.int .i64 0, .int .i64 0, .int .i64 0, .int .i64 0], .bool false]) = .returned (jnV q s dx dy r t ex ey) := by
  simp [jnV, h, sel]

theorem jn_no3 {q s dx dy r t ex ey a b Q S : Int} (ha : imX r t ex dx dy = a) (hb : imY r t ey dx dy = b) (hQ : jq q r = Q) (hS : s * t = S) (h3 : tokB Q S a b = false) : Ending.returned (.tuple #[.agg #[.int .i64 0, .int .i64 0, .int .i64 0, .int .i64 0], .bool false]) = .returned (jnV q s dx dy r t ex ey) :=
  jn_no (by simp only [jnB, ha, hb, hQ, hS, h3, Bool.and_false])

theorem jn_yes {q s dx dy r t ex ey a b Q S : Int} (h1 : tokB q s dx dy = true) (h2 : tokB r t ex ey = true) (ha : imX r t ex dx dy = a) (hb : imY r t ey dx dy = b) (hQ : jq q r = Q) (hS : s * t = S) (h3 : tokB Q S a b = true) : Ending.returned (.tuple #[.agg #[.int .i64 Q, .int .i64 S, .int .i64 a, .int .i64 b], .bool true]) = .returned (jnV q s dx dy r t ex ey) := by
  have : jnB q s dx dy r t ex ey = true := by simp only [jnB, h1, h2, ha, hb, hQ, hS, h3, Bool.and_self]
  simp [jnV, this, sel, ha, hb, hQ, hS]

set_option maxHeartbeats 2000000 in
theorem join_impl (q s dx dy r t ex ey : Int) (w : World) :
    Calls Try.prog 11 #[.agg #[.int .i64 q, .int .i64 s, .int .i64 dx, .int .i64 dy], .agg #[.int .i64 r, .int .i64 t, .int .i64 ex, .int .i64 ey]] w fun e w' => e = .returned (jnV q s dx dy r t ex ey) ∧ Below w.heap.size w w' := by
  have F0 := Lib.hid (Pair.start w q s dx dy r t ex ey 25)
  cases h1 : tokB q s dx dy
  · go_enter Try.func11, Try.ntmps11
    go_wp2_with fail
    (refine (turn_impl _ _ _ _ _).mono ?_; rintro e w1 ⟨rfl, hb1⟩)
    have F1 := F0.out.on hb1
    obtain ⟨a0, a1, a2, a3, a4⟩ := Four.lay F1.a
    obtain ⟨b0, b1, b2, b3, b4⟩ := Four.lay F1.b
    obtain ⟨c0, c1, c2, c3, c4⟩ := Four.lay F1.r
    have hB := F1.g
    clear F1 hb1
    go_wp2_with fail
    refine bodyPost_ret (by simp [results, Try.results11, go_sem, *]; try rfl) rfl ?_
    exact ⟨jn_no (by simp [jnB, h1]), by go_grown⟩
  · cases h2 : tokB r t ex ey
    · go_enter Try.func11, Try.ntmps11
      go_wp2_with fail
      (refine (turn_impl _ _ _ _ _).mono ?_; rintro e w1 ⟨rfl, hb1⟩)
      have F1 := F0.out.on hb1
      have G1 := Lib.hid F1
      obtain ⟨a0, a1, a2, a3, a4⟩ := Four.lay F1.a
      obtain ⟨b0, b1, b2, b3, b4⟩ := Four.lay F1.b
      clear F1 hb1
      go_wp2_with fail
      (refine (turn_impl _ _ _ _ _).mono ?_; rintro e w2 ⟨rfl, hb2⟩)
      have F2 := G1.out.on hb2
      obtain ⟨a0, a1, a2, a3, a4⟩ := Four.lay F2.a
      obtain ⟨b0, b1, b2, b3, b4⟩ := Four.lay F2.b
      obtain ⟨c0, c1, c2, c3, c4⟩ := Four.lay F2.r
      have hB := F2.g
      clear F2 hb2
      go_wp2_with fail
      refine bodyPost_ret (by simp [results, Try.results11, go_sem, *]; try rfl) rfl ?_
      exact ⟨jn_no (by simp [jnB, h2]), by go_grown⟩
    · obtain ⟨a, ha⟩ : ∃ a, imX r t ex dx dy = a := ⟨_, rfl⟩
      obtain ⟨b, hb⟩ : ∃ b, imY r t ey dx dy = b := ⟨_, rfl⟩
      obtain ⟨Q, hQ⟩ : ∃ Q, jq q r = Q := ⟨_, rfl⟩
      obtain ⟨S, hS⟩ : ∃ S, s * t = S := ⟨_, rfl⟩
      have HI := Lib.hid (And.intro (And.intro ha hb) (And.intro hQ hS))
      clear ha hb hQ hS
      cases h3 : tokB Q S a b
      all_goals
        go_enter Try.func11, Try.ntmps11
        go_wp2_with fail
        (refine (turn_impl _ _ _ _ _).mono ?_; rintro e w1 ⟨rfl, hb1⟩)
        have F1 := F0.out.on hb1
        have G1 := Lib.hid F1
        obtain ⟨a0, a1, a2, a3, a4⟩ := Four.lay F1.a
        obtain ⟨b0, b1, b2, b3, b4⟩ := Four.lay F1.b
        clear F1 hb1
        go_wp2_with fail
        (refine (turn_impl _ _ _ _ _).mono ?_; rintro e w2 ⟨rfl, hb2⟩)
        have F2 := G1.out.on hb2
        have G2 := Lib.hid F2
        obtain ⟨a0, a1, a2, a3, a4⟩ := Four.lay F2.a
        obtain ⟨b0, b1, b2, b3, b4⟩ := Four.lay F2.b
        clear F2 hb2
        go_wp2_with fail
        (refine (then_impl _ _ _ _ _ _ _ _ _ _ _ _ _ h1 h2 HI.out.1.1 HI.out.1.2 HI.out.2.1 HI.out.2.2).mono ?_; rintro e w3 ⟨rfl, hb3⟩)
        have F3 := (G2.out.on hb3).on ((Below.refl _ _).alloc (Nat.le_refl _) (.cells #[.int .i64 Q, .int .i64 S, .int .i64 a, .int .i64 b] 25))
        have P3 := Four.new w3 25 Q S a b
        have G3 := Lib.hid (And.intro F3 P3)
        have hs3 := hb3.size
        clear F3 P3 hb3
        go_wp2_with fail
        (refine (turn_impl _ _ _ _ _).mono ?_; rintro e w4 ⟨rfl, hb4⟩)
        have F4 := G3.out.1.on hb4
        have P4 := G3.out.2.keep hb4 G3.out.2.lt
        obtain ⟨c0, c1, c2, c3, c4⟩ := Four.lay F4.r
        obtain ⟨p0, p1, p2, p3, p4⟩ := Four.lay P4
        have hB := F4.g
        clear F4 P4 hb4
        go_wp2_with fail
        refine bodyPost_ret (by simp [results, Try.results11, go_sem, *]; try rfl) rfl ?_
      · exact ⟨jn_no3 HI.out.1.1 HI.out.1.2 HI.out.2.1 HI.out.2.2 h3, by go_grown⟩
      · exact ⟨jn_yes h1 h2 HI.out.1.1 HI.out.1.2 HI.out.2.1 HI.out.2.2 h3, by go_grown⟩

theorem image_spec_to (q s dx dy x y a b : Int) (w : World) (ht : tokB q s dx dy = true) (hx : -200 ≤ x ∧ x ≤ 200) (hy : -200 ≤ y ∧ y ≤ 200) (ha : imX q s dx x y = a) (hb : imY q s dy x y = b) :
    Calls Try.prog 36 #[.agg #[.int .i64 q, .int .i64 s, .int .i64 dx, .int .i64 dy], .agg #[.int .i64 x, .int .i64 y]] w fun e w' => e = .returned (.agg #[.int .i64 a, .int .i64 b]) ∧ Below w.heap.size w w' := by
  rw [← ha, ← hb]; exact image_spec q s dx dy x y w ht hx hy

set_option maxHeartbeats 2000000 in
theorem join_spec (q s dx dy r t ex ey : Int) (w : World) :
    Calls Try.prog 21 #[.agg #[.int .i64 q, .int .i64 s, .int .i64 dx, .int .i64 dy], .agg #[.int .i64 r, .int .i64 t, .int .i64 ex, .int .i64 ey]] w fun e w' => e = .returned (jnV q s dx dy r t ex ey) ∧ Below w.heap.size w w' := by
  have F0 := Lib.hid (Pair.start w q s dx dy r t ex ey 25)
  cases h1 : tokB q s dx dy
  · go_enter Try.func21, Try.ntmps21
    go_wp2_with fail
    (refine (turn_spec _ _ _ _ _).mono ?_; rintro e w1 ⟨rfl, hb1⟩)
    have F1 := F0.out.on hb1
    obtain ⟨a0, a1, a2, a3, a4⟩ := Four.lay F1.a
    obtain ⟨b0, b1, b2, b3, b4⟩ := Four.lay F1.b
    obtain ⟨c0, c1, c2, c3, c4⟩ := Four.lay F1.r
    have hB := F1.g
    clear F1 hb1
    go_wp2_with fail
    refine bodyPost_ret (by simp [results, Try.results21, go_sem, *]; try rfl) rfl ?_
    exact ⟨jn_no (by simp [jnB, h1]), by go_grown⟩
  · cases h2 : tokB r t ex ey
    · go_enter Try.func21, Try.ntmps21
      go_wp2_with fail
      (refine (turn_spec _ _ _ _ _).mono ?_; rintro e w1 ⟨rfl, hb1⟩)
      have F1 := F0.out.on hb1
      have G1 := Lib.hid F1
      obtain ⟨a0, a1, a2, a3, a4⟩ := Four.lay F1.a
      obtain ⟨b0, b1, b2, b3, b4⟩ := Four.lay F1.b
      clear F1 hb1
      go_wp2_with fail
      (refine (turn_spec _ _ _ _ _).mono ?_; rintro e w2 ⟨rfl, hb2⟩)
      have F2 := G1.out.on hb2
      obtain ⟨a0, a1, a2, a3, a4⟩ := Four.lay F2.a
      obtain ⟨b0, b1, b2, b3, b4⟩ := Four.lay F2.b
      obtain ⟨c0, c1, c2, c3, c4⟩ := Four.lay F2.r
      have hB := F2.g
      clear F2 hb2
      go_wp2_with fail
      refine bodyPost_ret (by simp [results, Try.results21, go_sem, *]; try rfl) rfl ?_
      exact ⟨jn_no (by simp [jnB, h2]), by go_grown⟩
    · obtain ⟨a, ha⟩ : ∃ a, imX r t ex dx dy = a := ⟨_, rfl⟩
      obtain ⟨b, hb⟩ : ∃ b, imY r t ey dx dy = b := ⟨_, rfl⟩
      obtain ⟨Q, hQ⟩ : ∃ Q, jq q r = Q := ⟨_, rfl⟩
      obtain ⟨S, hS⟩ : ∃ S, s * t = S := ⟨_, rfl⟩
      have HI := Lib.hid (And.intro (And.intro ha hb) (And.intro hQ hS))
      clear ha hb hQ hS
      cases h3 : tokB Q S a b
      all_goals
        have t1 := tok_true h1
        have t2 := tok_true h2
        have m1 := mul16 t1.2.1 t2.2.1
        have m2 := jq_mod t1.1 t2.1
        rw [HI.out.2.2] at m1
        rw [HI.out.2.1] at m2
        have hS := HI.out.2.2
        have T1 := Lib.hid t1
        go_enter Try.func21, Try.ntmps21
        go_wp2_with fail
        (refine (turn_spec _ _ _ _ _).mono ?_; rintro e w1 ⟨rfl, hb1⟩)
        have F1 := F0.out.on hb1
        have G1 := Lib.hid F1
        obtain ⟨a0, a1, a2, a3, a4⟩ := Four.lay F1.a
        obtain ⟨b0, b1, b2, b3, b4⟩ := Four.lay F1.b
        clear F1 hb1
        go_wp2_with fail
        (refine (turn_spec _ _ _ _ _).mono ?_; rintro e w2 ⟨rfl, hb2⟩)
        have F2 := G1.out.on hb2
        have G2 := Lib.hid F2
        obtain ⟨a0, a1, a2, a3, a4⟩ := Four.lay F2.a
        obtain ⟨b0, b1, b2, b3, b4⟩ := Four.lay F2.b
        clear F2 hb2
        go_wp2_with fail
        (refine (image_spec_to _ _ _ _ _ _ _ _ _ h2 T1.out.2.2.1 T1.out.2.2.2 HI.out.1.1 HI.out.1.2).mono ?_; rintro e w3 ⟨rfl, hb3⟩)
        have F3 := (G2.out.on hb3).on ((Below.refl _ _).alloc (Nat.le_refl _) (.cells #[.int .i64 a, .int .i64 b] 27))
        have P3 := Two.new w3 27 a b
        have G3 := Lib.hid (And.intro (F3.on ((Below.refl _ _).alloc (Nat.le_refl _) (.cells #[.int .i64 Q, .int .i64 S, .int .i64 a, .int .i64 b] 25))) (Four.newAt (b := w3.heap.size + 1) (w3.alloc (.cells #[.int .i64 a, .int .i64 b] 27)) 25 Q S a b (by simp)))
        obtain ⟨a0, a1, a2, a3, a4⟩ := Four.lay (G2.out.on hb3).a
        obtain ⟨b0, b1, b2, b3, b4⟩ := Four.lay (G2.out.on hb3).b
        have l0 := (G2.out.on hb3).a.lt
        have l1 := (G2.out.on hb3).b.lt
        clear F3 P3 hb3
        go_wp2_with fail
        (refine (turn_spec _ _ _ _ _).mono ?_; rintro e w4 ⟨rfl, hb4⟩)
        have F4 := G3.out.1.on hb4
        have P4 := G3.out.2.keep hb4 G3.out.2.lt
        obtain ⟨c0, c1, c2, c3, c4⟩ := Four.lay F4.r
        obtain ⟨p0, p1, p2, p3, p4⟩ := Four.lay P4
        have hB := F4.g
        clear F4 P4 hb4
        go_wp2_with fail
        refine bodyPost_ret (by simp [results, Try.results21, go_sem, *]; try rfl) rfl ?_
      · exact ⟨jn_no3 HI.out.1.1 HI.out.1.2 HI.out.2.1 HI.out.2.2 h3, by go_grown⟩
      · exact ⟨jn_yes h1 h2 HI.out.1.1 HI.out.1.2 HI.out.2.1 HI.out.2.2 h3, by go_grown⟩

end Go.Proofs.Ytohoelpfmbbdaaa.Join
