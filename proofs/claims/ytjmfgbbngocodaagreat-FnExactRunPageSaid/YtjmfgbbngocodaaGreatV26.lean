/-
  Texts of this seat, laid together: Join, Pts, Box
-/
import Derived.BigQuiet
import Derived.Deep.QuietTactic
import Derived.Deep.RegionHeld3
import Derived.Deep.DeepCutAuto
import Derived.LoopTactic
import Derived.OwnWalk
import Derived.Test.YtjmfgbbngocodaaGreatV09
import Derived.Test.YtjmfgbbngocodaaGreatV01
namespace Go.Proofs.YtjmfgbbngocodaaGreat.Join
open Go.ChangeShapes Go.WideShapes Go.ChangeAt Go.RowKit
open Kit Point Turn Apply
set_option linter.unusedVariables false
set_option linter.unusedSimpArgs false
set_option linter.unnecessarySimpa false
def jq (q r : Int) : Int := if q + r < 4 then q + r else q + r - 4
theorem jq_mod {q r : Int} (h : 0 ≤ q ∧ q ≤ 3) (k : 0 ≤ r ∧ r ≤ 3) : (q + r).tmod 4 = jq q r := by
  unfold jq; rw [Int.tmod_eq_emod_of_nonneg (by omega)]; split <;> omega
theorem im_zero (q s dx dy : Int) : imX q s dx 0 0 = dx ∧ imY q s dy 0 0 = dy := by
  simp [imX, imY, rotX, rotY]
theorem mul16 {s t : Int} (h : 1 ≤ s ∧ s ≤ 4) (k : 1 ≤ t ∧ t ≤ 4) : 1 ≤ s * t ∧ s * t ≤ 16 := by
  have : s = 1 ∨ s = 2 ∨ s = 3 ∨ s = 4 := by omega
  rcases this with rfl | rfl | rfl | rfl <;> omega
structure Pair (w0 w : World) (q s dx dy r t ex ey : Int) : Prop where
  a : Four w w0.heap.size q s dx dy
  b : Four w (w0.heap.size + 1) r t ex ey
  r : Four w (w0.heap.size + 1 + 1) 0 0 0 0
  g : Below w0.heap.size w0 w
theorem Pair.start (w : World) (q s dx dy r t ex ey : Int) (T : TypeId) : Pair w (((w.alloc (.cells #[.int .i64 q, .int .i64 s, .int .i64 dx, .int .i64 dy] T)).alloc (.cells #[.int .i64 r, .int .i64 t, .int .i64 ex, .int .i64 ey] T)).alloc (.cells #[.int .i64 0, .int .i64 0, .int .i64 0, .int .i64 0] T)) q s dx dy r t ex ey := by
  refine ⟨((Four.new w T q s dx dy).alloc _).alloc _, ?_, ?_, by go_grown⟩
  · have := (Four.new (w.alloc (.cells #[.int .i64 q, .int .i64 s, .int .i64 dx, .int .i64 dy] T)) T r t ex ey).alloc (.cells #[.int .i64 0, .int .i64 0, .int .i64 0, .int .i64 0] T)
    simpa using this
  · have := Four.new ((w.alloc (.cells #[.int .i64 q, .int .i64 s, .int .i64 dx, .int .i64 dy] T)).alloc (.cells #[.int .i64 r, .int .i64 t, .int .i64 ex, .int .i64 ey] T)) T 0 0 0 0
    simpa using this
theorem Pair.on {w0 w w' : World} {q s dx dy r t ex ey : Int} (h : Pair w0 w q s dx dy r t ex ey) (hb : Below w.heap.size w w') : Pair w0 w' q s dx dy r t ex ey :=
  ⟨h.a.keep hb h.a.lt, h.b.keep hb h.b.lt, h.r.keep hb h.r.lt, on_of h.g hb⟩
theorem image_impl_to (q s dx dy x y a b : Int) (w : World) (ht : tokB q s dx dy = true) (hx : -200 ≤ x ∧ x ≤ 200) (hy : -200 ≤ y ∧ y ≤ 200) (ha : imX q s dx x y = a) (hb : imY q s dy x y = b) :
    Calls Tryz.prog 162 #[.agg #[.int .i64 q, .int .i64 s, .int .i64 dx, .int .i64 dy], .agg #[.int .i64 x, .int .i64 y]] w fun e w' => e = .returned (.agg #[.int .i64 a, .int .i64 b]) ∧ Below w.heap.size w w' := by
  rw [← ha, ← hb]; exact image_impl q s dx dy x y w ht hx hy
theorem image_zero (q s dx dy : Int) (w : World) (ht : tokB q s dx dy = true) :
    Calls Tryz.prog 162 #[.agg #[.int .i64 q, .int .i64 s, .int .i64 dx, .int .i64 dy], .agg #[.int .i64 0, .int .i64 0]] w fun e w' => e = .returned (.agg #[.int .i64 dx, .int .i64 dy]) ∧ Below w.heap.size w w' :=
  image_impl_to q s dx dy 0 0 dx dy w ht (by omega) (by omega) (im_zero q s dx dy).1 (im_zero q s dx dy).2
set_option maxHeartbeats 2000000 in
theorem then_impl (q s dx dy r t ex ey a b Q S : Int) (w : World) (h1 : tokB q s dx dy = true) (h2 : tokB r t ex ey = true) (ha : imX r t ex dx dy = a) (hb : imY r t ey dx dy = b) (hQ : jq q r = Q) (hS : s * t = S) :
    Calls Tryz.prog 164 #[.agg #[.int .i64 q, .int .i64 s, .int .i64 dx, .int .i64 dy], .agg #[.int .i64 r, .int .i64 t, .int .i64 ex, .int .i64 ey]] w fun e w' => e = .returned (.agg #[.int .i64 Q, .int .i64 S, .int .i64 a, .int .i64 b]) ∧ Below w.heap.size w w' := by
  have F0 := Pair.start w q s dx dy r t ex ey 38
  have t1 := tok_true h1
  have t2 := tok_true h2
  have m1 := mul16 t1.2.1 t2.2.1
  have m2 := jq_mod t1.1 t2.1
  have HI := Lib.hid (And.intro ha hb)
  rw [hS] at m1
  rw [hQ] at m2
  clear ha hb
  go_enter Tryz.func164, Tryz.ntmps164
  go_upto_region 2 with fail
  go_wp2_with fail
  refine gen_world (fun W => Pair w W q s dx dy r t ex ey ∧ Four W (w.heap.size + 1 + 1 + 1) Q S 0 0) ⟨F0.on ((Below.refl _ _).alloc (Nat.le_refl _) _), Four.newAt _ 38 Q S 0 0 (by simp)⟩ ?_
  clear F0
  rintro W ⟨FW, FS⟩
  have hw := FW.g
  have hl : w.heap.size + 1 + 1 + 1 < W.heap.size := FS.lt
  have hl2 : w.heap.size + 1 + 1 < W.heap.size := by omega
  have hl1 : w.heap.size + 1 < W.heap.size := by omega
  have hl0 : w.heap.size < W.heap.size := by omega
  have hne0 : w.heap.size ≠ w.heap.size + 1 + 1 := by omega
  have hne1 : w.heap.size + 1 ≠ w.heap.size + 1 + 1 := by omega
  obtain ⟨a0, a1, a2, a3, a4⟩ := Four.lay FW.a
  obtain ⟨b0, b1, b2, b3, b4⟩ := Four.lay FW.b
  obtain ⟨c0, c1, c2, c3, c4⟩ := Four.lay FW.r
  obtain ⟨d0, d1, d2, d3, d4⟩ := Four.lay FS
  clear FW FS
  go_cut [4] (fun s4 wx => s4 = .pointer (some ⟨w.heap.size + 1 + 1, 0, none⟩) ∧ wx.cell? ⟨w.heap.size + 1 + 1, 0, none⟩ = some (.int .i64 Q) ∧ wx.cell? ⟨w.heap.size + 1 + 1, 1, none⟩ = some (.int .i64 S) ∧ wx.cell? ⟨w.heap.size + 1 + 1, 2, none⟩ = some (.int .i64 a) ∧ wx.cell? ⟨w.heap.size + 1 + 1, 3, none⟩ = some (.int .i64 b) ∧ Below w.heap.size w wx)
  case first =>
    go_region_held3 (fun w' => (∀ b o, b < W.heap.size → b ≠ w.heap.size + 1 + 1 → w'.cell? ⟨b, o, none⟩ = W.cell? ⟨b, o, none⟩) ∧ Below w.heap.size w w') (first | (refine keepR _ ?_ hw; go_grown; done) | (refine keepR4 ?_ hw (by omega) _ _ _ _; go_grown; done)) (first | (go_at_call 162; (first | (with_reducible refine (image_zero _ _ _ _ _ h1).mono ?_) | (with_reducible refine (image_impl_to _ _ _ _ _ _ _ _ _ h2 t1.2.2.1 t1.2.2.2 HI.out.1 HI.out.2).mono ?_)); rintro e w' ⟨rfl, hb⟩; have hB := on_of (W := W) (by go_grown) hb; obtain ⟨hc, hf, hz⟩ := bcell3 hB; have hs := hB.size; clear hb) | (go_at_call 166; (with_reducible refine (at_impl _ _ _ _ _ _ _).mono ?_); rintro e w' ⟨rfl, hb⟩; have hB := on_of (W := W) (by go_grown) hb; obtain ⟨hc, hf, hz⟩ := bcell3 hB; have hs := hB.size; clear hb))
    all_goals
      go_wp2_with fail
      go_meet
      have FR : Four w' (w.heap.size + 1 + 1) 0 0 0 0 := ⟨(hc _ _ hl2).trans c0, (hc _ _ hl2).trans c1, (hc _ _ hl2).trans c2, (hc _ _ hl2).trans c3, fun o => (hf _ o hl2).trans (c4 o)⟩
      have FN := FR.set Q S a b
      exact ⟨rfl, FN.c0, FN.c1, FN.c2, FN.c3, (keepR4 hB hw (by omega) _ _ _ _).2⟩
  case rest =>
    obtain ⟨rfl, k0, k1, k2, k3, hk⟩ := hcut
    go_wp2_with fail
    refine bodyPost_ret (by simp [results, Tryz.results164, go_sem, *]; try rfl) rfl ?_
    exact ⟨rfl, hk⟩
def jnB (q s dx dy r t ex ey : Int) : Bool := tokB q s dx dy && tokB r t ex ey && tokB (jq q r) (s * t) (imX r t ex dx dy) (imY r t ey dx dy)
def jnV (q s dx dy r t ex ey : Int) : Value :=
  .tuple #[.agg #[.int .i64 (sel (jnB q s dx dy r t ex ey) (jq q r)), .int .i64 (sel (jnB q s dx dy r t ex ey) (s * t)), .int .i64 (sel (jnB q s dx dy r t ex ey) (imX r t ex dx dy)), .int .i64 (sel (jnB q s dx dy r t ex ey) (imY r t ey dx dy))], .bool (jnB q s dx dy r t ex ey)]
theorem jn_no {q s dx dy r t ex ey : Int} (h : jnB q s dx dy r t ex ey = false) : Ending.returned (.tuple #[.agg #[.int .i64 0, .int .i64 0, .int .i64 0, .int .i64 0], .bool false]) = .returned (jnV q s dx dy r t ex ey) := by
  simp [jnV, h, sel]
theorem jn_no3 {q s dx dy r t ex ey a b Q S : Int} (ha : imX r t ex dx dy = a) (hb : imY r t ey dx dy = b) (hQ : jq q r = Q) (hS : s * t = S) (h3 : tokB Q S a b = false) : Ending.returned (.tuple #[.agg #[.int .i64 0, .int .i64 0, .int .i64 0, .int .i64 0], .bool false]) = .returned (jnV q s dx dy r t ex ey) :=
  jn_no (by simp only [jnB, ha, hb, hQ, hS, h3, Bool.and_false])
theorem jn_yes {q s dx dy r t ex ey a b Q S : Int} (h1 : tokB q s dx dy = true) (h2 : tokB r t ex ey = true) (ha : imX r t ex dx dy = a) (hb : imY r t ey dx dy = b) (hQ : jq q r = Q) (hS : s * t = S) (h3 : tokB Q S a b = true) : Ending.returned (.tuple #[.agg #[.int .i64 Q, .int .i64 S, .int .i64 a, .int .i64 b], .bool true]) = .returned (jnV q s dx dy r t ex ey) := by
  have : jnB q s dx dy r t ex ey = true := by simp only [jnB, h1, h2, ha, hb, hQ, hS, h3, Bool.and_self]
  simp [jnV, this, sel, ha, hb, hQ, hS]
set_option maxHeartbeats 2000000 in
theorem join_impl (q s dx dy r t ex ey : Int) (w : World) :
    Calls Tryz.prog 156 #[.agg #[.int .i64 q, .int .i64 s, .int .i64 dx, .int .i64 dy], .agg #[.int .i64 r, .int .i64 t, .int .i64 ex, .int .i64 ey]] w fun e w' => e = .returned (jnV q s dx dy r t ex ey) ∧ Below w.heap.size w w' := by
  have F0 := Lib.hid (Pair.start w q s dx dy r t ex ey 38)
  cases h1 : tokB q s dx dy
  · go_enter Tryz.func156, Tryz.ntmps156
    go_wp2_with fail
    (refine (turn_impl _ _ _ _ _).mono ?_; rintro e w1 ⟨rfl, hb1⟩)
    have F1 := F0.out.on hb1
    obtain ⟨a0, a1, a2, a3, a4⟩ := Four.lay F1.a
    obtain ⟨b0, b1, b2, b3, b4⟩ := Four.lay F1.b
    obtain ⟨c0, c1, c2, c3, c4⟩ := Four.lay F1.r
    have hB := F1.g
    clear F1 hb1
    go_wp2_with fail
    refine bodyPost_ret (by simp [results, Tryz.results156, go_sem, *]; try rfl) rfl ?_
    exact ⟨jn_no (by simp [jnB, h1]), by go_grown⟩
  · cases h2 : tokB r t ex ey
    · go_enter Tryz.func156, Tryz.ntmps156
      go_wp2_with fail
      (refine (turn_impl _ _ _ _ _).mono ?_; rintro e w1 ⟨rfl, hb1⟩)
      have F1 := F0.out.on hb1
      have G1 := Lib.hid F1
      obtain ⟨a0, a1, a2, a3, a4⟩ := Four.lay F1.a
      obtain ⟨b0, b1, b2, b3, b4⟩ := Four.lay F1.b
      clear F1 hb1
      go_wp2_with fail
      (refine (turn_impl _ _ _ _ _).mono ?_; rintro e w2 ⟨rfl, hb2⟩)
      have F2 := G1.out.on hb2
      obtain ⟨a0, a1, a2, a3, a4⟩ := Four.lay F2.a
      obtain ⟨b0, b1, b2, b3, b4⟩ := Four.lay F2.b
      obtain ⟨c0, c1, c2, c3, c4⟩ := Four.lay F2.r
      have hB := F2.g
      clear F2 hb2
      go_wp2_with fail
      refine bodyPost_ret (by simp [results, Tryz.results156, go_sem, *]; try rfl) rfl ?_
      exact ⟨jn_no (by simp [jnB, h2]), by go_grown⟩
    · obtain ⟨a, ha⟩ : ∃ a, imX r t ex dx dy = a := ⟨_, rfl⟩
      obtain ⟨b, hb⟩ : ∃ b, imY r t ey dx dy = b := ⟨_, rfl⟩
      obtain ⟨Q, hQ⟩ : ∃ Q, jq q r = Q := ⟨_, rfl⟩
      obtain ⟨S, hS⟩ : ∃ S, s * t = S := ⟨_, rfl⟩
      have HI := Lib.hid (And.intro (And.intro ha hb) (And.intro hQ hS))
      clear ha hb hQ hS
      cases h3 : tokB Q S a b
      all_goals
        go_enter Tryz.func156, Tryz.ntmps156
        go_wp2_with fail
        (refine (turn_impl _ _ _ _ _).mono ?_; rintro e w1 ⟨rfl, hb1⟩)
        have F1 := F0.out.on hb1
        have G1 := Lib.hid F1
        obtain ⟨a0, a1, a2, a3, a4⟩ := Four.lay F1.a
        obtain ⟨b0, b1, b2, b3, b4⟩ := Four.lay F1.b
        clear F1 hb1
        go_wp2_with fail
        (refine (turn_impl _ _ _ _ _).mono ?_; rintro e w2 ⟨rfl, hb2⟩)
        have F2 := G1.out.on hb2
        have G2 := Lib.hid F2
        obtain ⟨a0, a1, a2, a3, a4⟩ := Four.lay F2.a
        obtain ⟨b0, b1, b2, b3, b4⟩ := Four.lay F2.b
        clear F2 hb2
        go_wp2_with fail
        (refine (then_impl _ _ _ _ _ _ _ _ _ _ _ _ _ h1 h2 HI.out.1.1 HI.out.1.2 HI.out.2.1 HI.out.2.2).mono ?_; rintro e w3 ⟨rfl, hb3⟩)
        have F3 := (G2.out.on hb3).on ((Below.refl _ _).alloc (Nat.le_refl _) (.cells #[.int .i64 Q, .int .i64 S, .int .i64 a, .int .i64 b] 38))
        have P3 := Four.new w3 38 Q S a b
        have G3 := Lib.hid (And.intro F3 P3)
        have hs3 := hb3.size
        clear F3 P3 hb3
        go_wp2_with fail
        (refine (turn_impl _ _ _ _ _).mono ?_; rintro e w4 ⟨rfl, hb4⟩)
        have F4 := G3.out.1.on hb4
        have P4 := G3.out.2.keep hb4 G3.out.2.lt
        obtain ⟨c0, c1, c2, c3, c4⟩ := Four.lay F4.r
        obtain ⟨p0, p1, p2, p3, p4⟩ := Four.lay P4
        have hB := F4.g
        clear F4 P4 hb4
        go_wp2_with fail
        refine bodyPost_ret (by simp [results, Tryz.results156, go_sem, *]; try rfl) rfl ?_
      · exact ⟨jn_no3 HI.out.1.1 HI.out.1.2 HI.out.2.1 HI.out.2.2 h3, by go_grown⟩
      · exact ⟨jn_yes h1 h2 HI.out.1.1 HI.out.1.2 HI.out.2.1 HI.out.2.2 h3, by go_grown⟩
theorem image_spec_to (q s dx dy x y a b : Int) (w : World) (ht : tokB q s dx dy = true) (hx : -200 ≤ x ∧ x ≤ 200) (hy : -200 ≤ y ∧ y ≤ 200) (ha : imX q s dx x y = a) (hb : imY q s dy x y = b) :
    Calls Tryz.prog 66 #[.agg #[.int .i64 q, .int .i64 s, .int .i64 dx, .int .i64 dy], .agg #[.int .i64 x, .int .i64 y]] w fun e w' => e = .returned (.agg #[.int .i64 a, .int .i64 b]) ∧ Below w.heap.size w w' := by
  rw [← ha, ← hb]; exact image_spec q s dx dy x y w ht hx hy
set_option maxHeartbeats 2000000 in
theorem join_spec (q s dx dy r t ex ey : Int) (w : World) :
    Calls Tryz.prog 70 #[.agg #[.int .i64 q, .int .i64 s, .int .i64 dx, .int .i64 dy], .agg #[.int .i64 r, .int .i64 t, .int .i64 ex, .int .i64 ey]] w fun e w' => e = .returned (jnV q s dx dy r t ex ey) ∧ Below w.heap.size w w' := by
  have F0 := Lib.hid (Pair.start w q s dx dy r t ex ey 38)
  cases h1 : tokB q s dx dy
  · go_enter Tryz.func70, Tryz.ntmps70
    go_wp2_with fail
    (refine (turn_spec _ _ _ _ _).mono ?_; rintro e w1 ⟨rfl, hb1⟩)
    have F1 := F0.out.on hb1
    obtain ⟨a0, a1, a2, a3, a4⟩ := Four.lay F1.a
    obtain ⟨b0, b1, b2, b3, b4⟩ := Four.lay F1.b
    obtain ⟨c0, c1, c2, c3, c4⟩ := Four.lay F1.r
    have hB := F1.g
    clear F1 hb1
    go_wp2_with fail
    refine bodyPost_ret (by simp [results, Tryz.results70, go_sem, *]; try rfl) rfl ?_
    exact ⟨jn_no (by simp [jnB, h1]), by go_grown⟩
  · cases h2 : tokB r t ex ey
    · go_enter Tryz.func70, Tryz.ntmps70
      go_wp2_with fail
      (refine (turn_spec _ _ _ _ _).mono ?_; rintro e w1 ⟨rfl, hb1⟩)
      have F1 := F0.out.on hb1
      have G1 := Lib.hid F1
      obtain ⟨a0, a1, a2, a3, a4⟩ := Four.lay F1.a
      obtain ⟨b0, b1, b2, b3, b4⟩ := Four.lay F1.b
      clear F1 hb1
      go_wp2_with fail
      (refine (turn_spec _ _ _ _ _).mono ?_; rintro e w2 ⟨rfl, hb2⟩)
      have F2 := G1.out.on hb2
      obtain ⟨a0, a1, a2, a3, a4⟩ := Four.lay F2.a
      obtain ⟨b0, b1, b2, b3, b4⟩ := Four.lay F2.b
      obtain ⟨c0, c1, c2, c3, c4⟩ := Four.lay F2.r
      have hB := F2.g
      clear F2 hb2
      go_wp2_with fail
      refine bodyPost_ret (by simp [results, Tryz.results70, go_sem, *]; try rfl) rfl ?_
      exact ⟨jn_no (by simp [jnB, h2]), by go_grown⟩
    · obtain ⟨a, ha⟩ : ∃ a, imX r t ex dx dy = a := ⟨_, rfl⟩
      obtain ⟨b, hb⟩ : ∃ b, imY r t ey dx dy = b := ⟨_, rfl⟩
      obtain ⟨Q, hQ⟩ : ∃ Q, jq q r = Q := ⟨_, rfl⟩
      obtain ⟨S, hS⟩ : ∃ S, s * t = S := ⟨_, rfl⟩
      have HI := Lib.hid (And.intro (And.intro ha hb) (And.intro hQ hS))
      clear ha hb hQ hS
      cases h3 : tokB Q S a b
      all_goals
        have t1 := tok_true h1
        have t2 := tok_true h2
        have m1 := mul16 t1.2.1 t2.2.1
        have m2 := jq_mod t1.1 t2.1
        rw [HI.out.2.2] at m1
        rw [HI.out.2.1] at m2
        have hS := HI.out.2.2
        have T1 := Lib.hid t1
        go_enter Tryz.func70, Tryz.ntmps70
        go_wp2_with fail
        (refine (turn_spec _ _ _ _ _).mono ?_; rintro e w1 ⟨rfl, hb1⟩)
        have F1 := F0.out.on hb1
        have G1 := Lib.hid F1
        obtain ⟨a0, a1, a2, a3, a4⟩ := Four.lay F1.a
        obtain ⟨b0, b1, b2, b3, b4⟩ := Four.lay F1.b
        clear F1 hb1
        go_wp2_with fail
        (refine (turn_spec _ _ _ _ _).mono ?_; rintro e w2 ⟨rfl, hb2⟩)
        have F2 := G1.out.on hb2
        have G2 := Lib.hid F2
        obtain ⟨a0, a1, a2, a3, a4⟩ := Four.lay F2.a
        obtain ⟨b0, b1, b2, b3, b4⟩ := Four.lay F2.b
        clear F2 hb2
        go_wp2_with fail
        (refine (image_spec_to _ _ _ _ _ _ _ _ _ h2 T1.out.2.2.1 T1.out.2.2.2 HI.out.1.1 HI.out.1.2).mono ?_; rintro e w3 ⟨rfl, hb3⟩)
        have F3 := (G2.out.on hb3).on ((Below.refl _ _).alloc (Nat.le_refl _) (.cells #[.int .i64 a, .int .i64 b] 109))
        have P3 := Two.new w3 109 a b
        have G3 := Lib.hid (And.intro (F3.on ((Below.refl _ _).alloc (Nat.le_refl _) (.cells #[.int .i64 Q, .int .i64 S, .int .i64 a, .int .i64 b] 38))) (Four.newAt (b := w3.heap.size + 1) (w3.alloc (.cells #[.int .i64 a, .int .i64 b] 109)) 38 Q S a b (by simp)))
        obtain ⟨a0, a1, a2, a3, a4⟩ := Four.lay (G2.out.on hb3).a
        obtain ⟨b0, b1, b2, b3, b4⟩ := Four.lay (G2.out.on hb3).b
        have l0 := (G2.out.on hb3).a.lt
        have l1 := (G2.out.on hb3).b.lt
        clear F3 P3 hb3
        go_wp2_with fail
        (refine (turn_spec _ _ _ _ _).mono ?_; rintro e w4 ⟨rfl, hb4⟩)
        have F4 := G3.out.1.on hb4
        have P4 := G3.out.2.keep hb4 G3.out.2.lt
        obtain ⟨c0, c1, c2, c3, c4⟩ := Four.lay F4.r
        obtain ⟨p0, p1, p2, p3, p4⟩ := Four.lay P4
        have hB := F4.g
        clear F4 P4 hb4
        go_wp2_with fail
        refine bodyPost_ret (by simp [results, Tryz.results70, go_sem, *]; try rfl) rfl ?_
      · exact ⟨jn_no3 HI.out.1.1 HI.out.1.2 HI.out.2.1 HI.out.2.2 h3, by go_grown⟩
      · exact ⟨jn_yes h1 h2 HI.out.1.1 HI.out.1.2 HI.out.2.1 HI.out.2.2 h3, by go_grown⟩
end Go.Proofs.YtjmfgbbngocodaaGreat.Join

namespace Go.Proofs.YtjmfgbbngocodaaGreat.Pts
open Go.ChangeShapes Go.WideShapes Go.ChangeAt Go.RowKit
open Kit Point
set_option linter.unusedVariables false
set_option linter.unusedSimpArgs false
set_option linter.unnecessarySimpa false
attribute [local go_sem ↓] run_mx run_mn
def PtsAt (w : World) (g n : Nat) (X Y : Nat → Int) : Prop := ∀ i, i < n → w.cell? ⟨g, i * 2, none⟩ = some (.int .i64 (X i)) ∧ w.cell? ⟨g, i * 2 + 1, none⟩ = some (.int .i64 (Y i))
def acc (f : Int → Int → Int) (X : Nat → Int) : Nat → Int
  | 0 => X 0
  | k + 1 => f (acc f X k) (X k)
def okB (X Y : Nat → Int) : Nat → Bool
  | 0 => true
  | k + 1 => okB X Y k && pokB (X k) (Y k)
theorem okB_bad {X Y : Nat → Int} {k n : Nat} (hk : k < n) (h : pokB (X k) (Y k) = false) : okB X Y n = false := by
  induction n with
  | zero => omega
  | succ m ih =>
    by_cases e : k = m
    · subst e; simp [okB, h]
    · simp [okB, ih (by omega)]
theorem okB_good {X Y : Nat → Int} {n : Nat} (h : ∀ i, i < n → pokB (X i) (Y i) = true) : okB X Y n = true := by
  induction n with
  | zero => rfl
  | succ m ih => simp [okB, ih (fun i hi => h i (by omega)), h m (by omega)]
def boxofV (X Y : Nat → Int) (n : Nat) : Value :=
  .agg #[.int .i64 (sel (decide (0 < n) && okB X Y n) (acc mn X n)), .int .i64 (sel (decide (0 < n) && okB X Y n) (acc mn Y n)), .int .i64 (sel (decide (0 < n) && okB X Y n) (acc mx X n)), .int .i64 (sel (decide (0 < n) && okB X Y n) (acc mx Y n))]
theorem boxof_zero (X Y : Nat → Int) : Ending.returned (.agg #[.int .i64 0, .int .i64 0, .int .i64 0, .int .i64 0]) = .returned (boxofV X Y 0) := by simp [boxofV, sel]
theorem boxof_bad {X Y : Nat → Int} {k n : Nat} (hk : k < n) (h : pokB (X k) (Y k) = false) : Ending.returned (.agg #[.int .i64 0, .int .i64 0, .int .i64 0, .int .i64 0]) = .returned (boxofV X Y n) := by simp [boxofV, sel, okB_bad hk h]
theorem boxof_good {X Y : Nat → Int} {n : Nat} (h0 : 0 < n) (h : ∀ i, i < n → pokB (X i) (Y i) = true) : Ending.returned (.agg #[.int .i64 (acc mn X n), .int .i64 (acc mn Y n), .int .i64 (acc mx X n), .int .i64 (acc mx Y n)]) = .returned (boxofV X Y n) := by simp [boxofV, sel, okB_good h, h0]
set_option maxHeartbeats 2000000 in
theorem boxof_impl (g n c : Nat) (X Y : Nat → Int) (w : World) (hn : n ≤ 1048576) (hg : g < w.heap.size) (hp : PtsAt w g n X Y) :
    Calls Tryz.prog 154 #[.slice (some ⟨g, 0, none⟩) n c] w fun e w' => e = .returned (boxofV X Y n) ∧ Below w.heap.size w w' := by
  by_cases h0 : n = 0
  · subst h0
    go_enter Tryz.func154, Tryz.ntmps154
    go_wp2
    go_returns
    exact ⟨boxof_zero X Y, by go_grown⟩
  · have hp0 := hp 0 (by omega)
    simp only [Nat.zero_mul, Nat.zero_add] at hp0
    obtain ⟨e0, e1⟩ := hp0
    have HP := Lib.hid hp
    clear hp
    have hn0 : (0 : Int) < (n : Int) := by omega
    have hn9 : ((n : Int) == 0) = false := by simp; omega
    go_enter Tryz.func154, Tryz.ntmps154
    go_wp2
    go_loopw [25] (fun v25 wr => ∃ k : Nat, k ≤ n ∧ v25 = .int .i64 (k : Int) ∧ (∀ i, i < k → pokB (X i) (Y i) = true) ∧ Four wr w.heap.size 0 0 0 0 ∧ Four wr (w.heap.size + 1 + 1) (acc mn X k) (acc mn Y k) (acc mx X k) (acc mx Y k) ∧ w.heap.size + 1 + 1 < wr.heap.size ∧ Below w.heap.size w wr) (fun v25 _ => n - (intOf v25).toNat)
    case atStart => exact ⟨0, Nat.zero_le _, rfl, fun i hi => by omega, ⟨by simp [go_sem], by simp [go_sem], by simp [go_sem], by simp [go_sem], fun o => by simp [go_sem]⟩, ⟨by simp [go_sem, acc], by simp [go_sem, acc], by simp [go_sem, acc], by simp [go_sem, acc], fun o => by simp [go_sem]⟩, by simp, by go_grown⟩
    case round =>
      obtain ⟨k, hk, rfl, hok, F0, F1, hsz, hbel⟩ := hrel
      have HO := Lib.hid hok
      clear hok
      have hs0 : w.heap.size < wr.heap.size := by omega
      by_cases hlt : k < n
      · have hpk := HP.out k hlt
        have q0 : wr.cell? ⟨g, k * 2, none⟩ = some (.int .i64 (X k)) := by rw [hbel.cell (p := ⟨g, k * 2, none⟩) hg]; exact hpk.1
        have q1 : wr.cell? ⟨g, k * 2 + 1, none⟩ = some (.int .i64 (Y k)) := by rw [hbel.cell (p := ⟨g, k * 2 + 1, none⟩) hg]; exact hpk.2
        clear hpk
        have i0 : (0 : Int) ≤ (k : Int) := by omega
        have i1 : (k : Int) < (n : Int) := by omega
        cases hpk : pokB (X k) (Y k)
        · go_wp2_with (go_at_call 143; (with_reducible refine (pok_impl _ _ _).mono ?_); rintro e w' ⟨rfl, hb⟩; have hB := on_of (W := w) (by go_grown) hb; obtain ⟨r0, r1, r2, r3, rf⟩ := Four.keep (Four.alloc F0 _) hb (by simp; omega); obtain ⟨b0, b1, b2, b3, bf⟩ := Four.keep (Four.alloc F1 _) hb (by simp; omega); have p0 := (bcell hb).1 wr.heap.size 0 (by simp); have p1 := (bcell hb).1 wr.heap.size 1 (by simp); simp only [World.cell?_alloc_new] at p0 p1; have hsw := hb.size; simp at hsw; clear hb)
          refine bodyPost_ret (by simp [results, Tryz.results154, go_sem, *]; try rfl) rfl ?_
          exact ⟨boxof_bad hlt hpk, by go_grown⟩
        · go_wp2_with (go_at_call 143; (with_reducible refine (pok_impl _ _ _).mono ?_); rintro e w' ⟨rfl, hb⟩; have hB := on_of (W := w) (by go_grown) hb; obtain ⟨r0, r1, r2, r3, rf⟩ := Four.keep (Four.alloc F0 _) hb (by simp; omega); obtain ⟨b0, b1, b2, b3, bf⟩ := Four.keep (Four.alloc F1 _) hb (by simp; omega); have p0 := (bcell hb).1 wr.heap.size 0 (by simp); have p1 := (bcell hb).1 wr.heap.size 1 (by simp); simp only [World.cell?_alloc_new] at p0 p1; have hsw := hb.size; simp at hsw; clear hb)
          have G0 : Four w' w.heap.size 0 0 0 0 := ⟨r0, r1, r2, r3, rf⟩
          have G1 : Four w' (w.heap.size + 1 + 1) (acc mn X k) (acc mn Y k) (acc mx X k) (acc mx Y k) := ⟨b0, b1, b2, b3, bf⟩
          go_roundw
          case rel =>
            refine ⟨k + 1, by omega, by go_num, fun i hi => ?_, Four.other (Four.other (Four.other (Four.other G0 (by omega) _ _) (by omega) _ _) (by omega) _ _) (by omega) _ _, Four.set G1 _ _ _ _, by simp; omega, by go_grown⟩
            by_cases e : i = k
            · subst e; exact hpk
            · exact HO.out i (by omega)
          case measure => simp [intOf]; omega
      · obtain rfl : k = n := by omega
        obtain ⟨r0, r1, r2, r3, rf⟩ := F0
        obtain ⟨b0, b1, b2, b3, bf⟩ := F1
        go_wp2
        refine bodyPost_ret (by simp [results, Tryz.results154, go_sem, *]; try rfl) rfl ?_
        exact ⟨boxof_good (by omega) HO.out, by go_grown⟩
set_option maxHeartbeats 2000000 in
theorem boxof_spec (g n c : Nat) (X Y : Nat → Int) (w : World) (hn : n ≤ 1048576) (hg : g < w.heap.size) (hp : PtsAt w g n X Y) :
    Calls Tryz.prog 68 #[.slice (some ⟨g, 0, none⟩) n c] w fun e w' => e = .returned (boxofV X Y n) ∧ Below w.heap.size w w' := by
  have HP := Lib.hid hp
  clear hp
  go_enter Tryz.func68, Tryz.ntmps68
  go_wp2
  go_loopw [4] (fun v4 wr => ∃ k : Nat, k ≤ n ∧ v4 = .int .i64 (k : Int) ∧ (∀ i, i < k → pokB (X i) (Y i) = true) ∧ Four wr w.heap.size 0 0 0 0 ∧ Four wr (w.heap.size + 1) (sel (decide (0 < k)) (acc mn X k)) (sel (decide (0 < k)) (acc mn Y k)) (sel (decide (0 < k)) (acc mx X k)) (sel (decide (0 < k)) (acc mx Y k)) ∧ w.heap.size + 1 < wr.heap.size ∧ Below w.heap.size w wr) (fun v4 _ => n - (intOf v4).toNat)
  case atStart => exact ⟨0, Nat.zero_le _, rfl, fun i hi => by omega, ⟨by simp [go_sem], by simp [go_sem], by simp [go_sem], by simp [go_sem], fun o => by simp [go_sem]⟩, ⟨by simp [go_sem, sel], by simp [go_sem, sel], by simp [go_sem, sel], by simp [go_sem, sel], fun o => by simp [go_sem]⟩, by simp, by go_grown⟩
  case round =>
    obtain ⟨k, hk, rfl, hok, F0, F1, hsz, hbel⟩ := hrel
    have HO := Lib.hid hok
    clear hok
    have hs0 : w.heap.size < wr.heap.size := by omega
    by_cases hlt : k < n
    · have hpk := HP.out k hlt
      have q0 : wr.cell? ⟨g, k * 2, none⟩ = some (.int .i64 (X k)) := by rw [hbel.cell (p := ⟨g, k * 2, none⟩) hg]; exact hpk.1
      have q1 : wr.cell? ⟨g, k * 2 + 1, none⟩ = some (.int .i64 (Y k)) := by rw [hbel.cell (p := ⟨g, k * 2 + 1, none⟩) hg]; exact hpk.2
      clear hpk
      have i0 : (0 : Int) ≤ (k : Int) := by omega
      have i1 : (k : Int) < (n : Int) := by omega
      have hok1 : pokB (X k) (Y k) = true → ∀ i, i < k + 1 → pokB (X i) (Y i) = true := fun h i hi => by
        by_cases e : i = k
        · subst e; exact h
        · exact HO.out i (by omega)
      have HO1 := Lib.hid hok1
      clear hok1
      cases hpk : pokB (X k) (Y k)
      · go_wp2_with (go_at_call 110; (with_reducible refine (pok_spec _ _ _).mono ?_); rintro e w' ⟨rfl, hb⟩; have hB := on_of (W := w) (by go_grown) hb; obtain ⟨r0, r1, r2, r3, rf⟩ := Four.keep (Four.alloc F0 _) hb (by simp; omega); obtain ⟨b0, b1, b2, b3, bf⟩ := Four.keep (Four.alloc F1 _) hb (by simp; omega); have p0 := (bcell hb).1 wr.heap.size 0 (by simp); have p1 := (bcell hb).1 wr.heap.size 1 (by simp); simp only [World.cell?_alloc_new] at p0 p1; have hsw := hb.size; simp at hsw; clear hb)
        refine bodyPost_ret (by simp [results, Tryz.results68, go_sem, *]; try rfl) rfl ?_
        exact ⟨boxof_bad hlt hpk, by go_grown⟩
      · by_cases hk0 : k = 0
        · subst hk0
          have hk9 : (((0 : Nat) : Int) == 0) = true := by simp
          go_wp2_with (go_at_call 110; (with_reducible refine (pok_spec _ _ _).mono ?_); rintro e w' ⟨rfl, hb⟩; have hB := on_of (W := w) (by go_grown) hb; obtain ⟨r0, r1, r2, r3, rf⟩ := Four.keep (Four.alloc F0 _) hb (by simp; omega); obtain ⟨b0, b1, b2, b3, bf⟩ := Four.keep (Four.alloc F1 _) hb (by simp; omega); have p0 := (bcell hb).1 wr.heap.size 0 (by simp); have p1 := (bcell hb).1 wr.heap.size 1 (by simp); simp only [World.cell?_alloc_new] at p0 p1; have hsw := hb.size; simp at hsw; clear hb)
          have G0 : Four w' w.heap.size 0 0 0 0 := ⟨r0, r1, r2, r3, rf⟩
          have G1 : Four w' (w.heap.size + 1) _ _ _ _ := ⟨b0, b1, b2, b3, bf⟩
          go_roundw
          case rel =>
            refine ⟨1, by omega, by go_num, HO1.out hpk, ?_, ?_, by simp; omega, by go_grown⟩
            · refine Four.other (Four.other (Four.other (Four.other ?_ (by omega) _ _) (by omega) _ _) (by omega) _ _) (by omega) _ _
              exact Four.other (Four.other (Four.other (Four.other G0 (by omega) _ _) (by omega) _ _) (by omega) _ _) (by omega) _ _
            · simp only [sel, show decide (0 < 1) = true by simp, if_true]
              exact Four.set (Four.set G1 _ _ _ _) _ _ _ _
          case measure => simp [intOf]; omega
        · have hk9 : ((k : Int) == 0) = false := by simp; omega
          simp only [sel, show decide (0 < k) = true by simp; omega, if_true] at F1
          go_wp2_with (go_at_call 110; (with_reducible refine (pok_spec _ _ _).mono ?_); rintro e w' ⟨rfl, hb⟩; have hB := on_of (W := w) (by go_grown) hb; obtain ⟨r0, r1, r2, r3, rf⟩ := Four.keep (Four.alloc F0 _) hb (by simp; omega); obtain ⟨b0, b1, b2, b3, bf⟩ := Four.keep (Four.alloc F1 _) hb (by simp; omega); have p0 := (bcell hb).1 wr.heap.size 0 (by simp); have p1 := (bcell hb).1 wr.heap.size 1 (by simp); simp only [World.cell?_alloc_new] at p0 p1; have hsw := hb.size; simp at hsw; clear hb)
          have G0 : Four w' w.heap.size 0 0 0 0 := ⟨r0, r1, r2, r3, rf⟩
          have G1 : Four w' (w.heap.size + 1) _ _ _ _ := ⟨b0, b1, b2, b3, bf⟩
          go_roundw
          case rel =>
            refine ⟨k + 1, by omega, by go_num, HO1.out hpk, Four.other (Four.other (Four.other (Four.other G0 (by omega) _ _) (by omega) _ _) (by omega) _ _) (by omega) _ _, ?_, by simp; omega, by go_grown⟩
            simp only [sel, show decide (0 < k + 1) = true by simp, if_true]
            exact Four.set G1 _ _ _ _
          case measure => simp [intOf]; omega
    · obtain rfl : k = n := by omega
      obtain ⟨r0, r1, r2, r3, rf⟩ := F0
      obtain ⟨b0, b1, b2, b3, bf⟩ := F1
      go_wp2
      refine bodyPost_ret (by simp [results, Tryz.results68, go_sem, *]; try rfl) rfl ?_
      refine ⟨?_, by go_grown⟩
      by_cases hk0 : k = 0
      · subst hk0; exact boxof_zero X Y
      · have := boxof_good (n := k) (X := X) (Y := Y) (by omega) HO.out
        simpa [sel, show 0 < k by omega] using this
end Go.Proofs.YtjmfgbbngocodaaGreat.Pts

namespace Go.Proofs.YtjmfgbbngocodaaGreat.Box
open Go.ChangeShapes Go.WideShapes Go.ChangeAt Go.RowKit
open Kit Point
set_option linter.unusedVariables false
set_option linter.unusedSimpArgs false
set_option linter.unnecessarySimpa false
attribute [local go_sem ↓] run_mx run_mn
def dots (x0 y0 x1 y1 : Int) : Int := if bokB x0 y0 x1 y1 = true then (x1 - x0) * (y1 - y0) else 0
theorem area_le {a b : Int} (h0 : 0 ≤ a) (h1 : a ≤ 400) (h2 : 0 ≤ b) (h3 : b ≤ 400) : 0 ≤ a * b ∧ a * b ≤ 160000 :=
  ⟨Int.mul_nonneg h0 h2, Int.le_trans (Int.mul_le_mul h1 h3 h2 (by omega)) (by omega)⟩
set_option maxHeartbeats 400000 in
theorem dots_impl (x0 y0 x1 y1 : Int) (w : World) : Calls Tryz.prog 163 #[.agg #[.int .i64 x0, .int .i64 y0, .int .i64 x1, .int .i64 y1]] w fun e w' => e = .returned (.int .i64 (dots x0 y0 x1 y1)) ∧ Below w.heap.size w w' := by
  cases h : bokB x0 y0 x1 y1
  · go_enter Tryz.func163, Tryz.ntmps163
    go_wp2_with (go_at_call 114; refine (bok_impl _ _ _ _ _).mono ?_; rintro e w' ⟨rfl, hb⟩; have hB := on_of (W := w) (by go_grown) hb; obtain ⟨hc, hf⟩ := bcell hb; have hz : w.heap.size < w'.heap.size := (by have := hb.size; (try simp at this); omega); clear hb)
    go_ret
    exact ⟨ret_int (by simp [dots, h]), by go_grown⟩
  · obtain ⟨b0, b1, b2, b3, b4, b5⟩ := bok_true h
    obtain ⟨a0, a1⟩ := area_le (a := x1 - x0) (b := y1 - y0) (by omega) (by omega) (by omega) (by omega)
    go_enter Tryz.func163, Tryz.ntmps163
    go_wp2_with (go_at_call 114; refine (bok_impl _ _ _ _ _).mono ?_; rintro e w' ⟨rfl, hb⟩; have hB := on_of (W := w) (by go_grown) hb; obtain ⟨hc, hf⟩ := bcell hb; have hz : w.heap.size < w'.heap.size := (by have := hb.size; (try simp at this); omega); clear hb)
    go_ret
    exact ⟨ret_int (by simp [dots, h]), by go_grown⟩
def DotsOf (x0 y0 x1 y1 n : Int) : Prop := (n = 0 ∧ ¬ (x0 < x1 ∧ y0 < y1)) ∨ (1 ≤ n ∧ x0 < x1 ∧ y0 < y1)
theorem dots_of {x0 y0 x1 y1 : Int} (h0 : -200 ≤ x0 ∧ x0 ≤ 200) (h1 : -200 ≤ y0 ∧ y0 ≤ 200) (h2 : -200 ≤ x1 ∧ x1 ≤ 200) (h3 : -200 ≤ y1 ∧ y1 ≤ 200) : DotsOf x0 y0 x1 y1 (dots x0 y0 x1 y1) := by
  unfold dots DotsOf
  by_cases h : x0 < x1 ∧ y0 < y1
  · have hb : bokB x0 y0 x1 y1 = true := by simp [bokB, inB]; omega
    rw [if_pos hb]
    have := Int.mul_pos (show 0 < x1 - x0 by omega) (show 0 < y1 - y0 by omega)
    exact .inr ⟨by omega, h⟩
  · refine .inl ⟨?_, h⟩
    by_cases hb : bokB x0 y0 x1 y1 = true
    · rw [if_pos hb]
      obtain ⟨_, _, _, _, a, b⟩ := bok_true hb
      by_cases hx : x0 = x1
      · subst hx; simp
      · have : y0 = y1 := by omega
        subst this; simp
    · rw [if_neg hb]
theorem dots_impl' (x0 y0 x1 y1 : Int) (w : World) (h : (-200 ≤ x0 ∧ x0 ≤ 200) ∧ (-200 ≤ y0 ∧ y0 ≤ 200) ∧ (-200 ≤ x1 ∧ x1 ≤ 200) ∧ (-200 ≤ y1 ∧ y1 ≤ 200)) : Calls Tryz.prog 163 #[.agg #[.int .i64 x0, .int .i64 y0, .int .i64 x1, .int .i64 y1]] w fun e w' => ∃ n : Int, DotsOf x0 y0 x1 y1 n ∧ e = .returned (.int .i64 n) ∧ Below w.heap.size w w' :=
  (dots_impl _ _ _ _ w).mono fun _ _ ⟨he, hb⟩ => ⟨_, dots_of h.1 h.2.1 h.2.2.1 h.2.2.2, he, hb⟩
def meetB (x0 y0 x1 y1 u0 v0 u1 v1 : Int) : Bool := bokB x0 y0 x1 y1 && bokB u0 v0 u1 v1 && decide (mx x0 u0 < mn x1 u1 ∧ mx y0 v0 < mn y1 v1)
def meetV (x0 y0 x1 y1 u0 v0 u1 v1 : Int) : Value :=
  .agg #[.int .i64 (sel (meetB x0 y0 x1 y1 u0 v0 u1 v1) (mx x0 u0)), .int .i64 (sel (meetB x0 y0 x1 y1 u0 v0 u1 v1) (mx y0 v0)), .int .i64 (sel (meetB x0 y0 x1 y1 u0 v0 u1 v1) (mn x1 u1)), .int .i64 (sel (meetB x0 y0 x1 y1 u0 v0 u1 v1) (mn y1 v1))]
theorem meet_no {x0 y0 x1 y1 u0 v0 u1 v1 : Int} (h : bokB x0 y0 x1 y1 = false ∨ bokB u0 v0 u1 v1 = false ∨ ¬ (mx x0 u0 < mn x1 u1 ∧ mx y0 v0 < mn y1 v1)) : Ending.returned (.agg #[.int .i64 0, .int .i64 0, .int .i64 0, .int .i64 0]) = .returned (meetV x0 y0 x1 y1 u0 v0 u1 v1) := by
  have hm : meetB x0 y0 x1 y1 u0 v0 u1 v1 = false := by
    rcases h with h | h | h
    · simp [meetB, h]
    · simp [meetB, h]
    · simp only [meetB, Bool.and_eq_false_iff, decide_eq_false_iff_not]; exact .inr h
  simp [meetV, hm, sel]
theorem meet_yes {x0 y0 x1 y1 u0 v0 u1 v1 : Int} (h1 : bokB x0 y0 x1 y1 = true) (h2 : bokB u0 v0 u1 v1 = true) (h3 : mx x0 u0 < mn x1 u1 ∧ mx y0 v0 < mn y1 v1) : Ending.returned (.agg #[.int .i64 (mx x0 u0), .int .i64 (mx y0 v0), .int .i64 (mn x1 u1), .int .i64 (mn y1 v1)]) = .returned (meetV x0 y0 x1 y1 u0 v0 u1 v1) := by
  have hm : meetB x0 y0 x1 y1 u0 v0 u1 v1 = true := by
    simp only [meetB, h1, h2, Bool.true_and, decide_eq_true_eq]; exact h3
  simp [meetV, hm, sel]
set_option maxHeartbeats 2000000 in
theorem meet_impl (x0 y0 x1 y1 u0 v0 u1 v1 : Int) (w : World) : Calls Tryz.prog 153 #[.agg #[.int .i64 x0, .int .i64 y0, .int .i64 x1, .int .i64 y1], .agg #[.int .i64 u0, .int .i64 v0, .int .i64 u1, .int .i64 v1]] w fun e w' => e = .returned (meetV x0 y0 x1 y1 u0 v0 u1 v1) ∧ Below w.heap.size w w' := by
  cases h1 : bokB x0 y0 x1 y1 <;> cases h2 : bokB u0 v0 u1 v1
  · go_enter Tryz.func153, Tryz.ntmps153
    go_wp2_with (go_at_call 114; refine (bok_impl _ _ _ _ _).mono ?_; rintro e w' ⟨rfl, hb⟩; have hB := on_of (W := w) (by go_grown) hb; obtain ⟨hc, hf⟩ := bcell hb; have hz : w.heap.size < w'.heap.size := (by have := hb.size; (try simp at this); omega); have hz1 : w.heap.size + 1 < w'.heap.size := (by have := hb.size; (try simp at this); omega); have hz2 : w.heap.size + 1 + 1 < w'.heap.size := (by have := hb.size; (try simp at this); omega); clear hb)
    refine bodyPost_ret (by simp [results, Tryz.results153, go_sem, hc, hz2]; try rfl) rfl ?_
    exact ⟨meet_no (.inl h1), by go_grown⟩
  · go_enter Tryz.func153, Tryz.ntmps153
    go_wp2_with (go_at_call 114; refine (bok_impl _ _ _ _ _).mono ?_; rintro e w' ⟨rfl, hb⟩; have hB := on_of (W := w) (by go_grown) hb; obtain ⟨hc, hf⟩ := bcell hb; have hz : w.heap.size < w'.heap.size := (by have := hb.size; (try simp at this); omega); have hz1 : w.heap.size + 1 < w'.heap.size := (by have := hb.size; (try simp at this); omega); have hz2 : w.heap.size + 1 + 1 < w'.heap.size := (by have := hb.size; (try simp at this); omega); clear hb)
    refine bodyPost_ret (by simp [results, Tryz.results153, go_sem, hc, hz2]; try rfl) rfl ?_
    exact ⟨meet_no (.inl h1), by go_grown⟩
  · go_enter Tryz.func153, Tryz.ntmps153
    go_wp2_with (go_at_call 114; refine (bok_impl _ _ _ _ _).mono ?_; rintro e w' ⟨rfl, hb⟩; have hB := on_of (W := w) (by go_grown) hb; obtain ⟨hc, hf⟩ := bcell hb; have hz : w.heap.size < w'.heap.size := (by have := hb.size; (try simp at this); omega); have hz1 : w.heap.size + 1 < w'.heap.size := (by have := hb.size; (try simp at this); omega); have hz2 : w.heap.size + 1 + 1 < w'.heap.size := (by have := hb.size; (try simp at this); omega); clear hb)
    refine bodyPost_ret (by simp [results, Tryz.results153, go_sem, *]; try rfl) rfl ?_
    exact ⟨meet_no (.inr (.inl h2)), by go_grown⟩
  · have r1 := bok_true h1
    have r2 := bok_true h2
    have m0 := mx_in (a := x0) (b := u0) (by omega) (by omega)
    have m1 := mx_in (a := y0) (b := v0) (by omega) (by omega)
    have m2 := mn_in (a := x1) (b := u1) (by omega) (by omega)
    have m3 := mn_in (a := y1) (b := v1) (by omega) (by omega)
    go_enter Tryz.func153, Tryz.ntmps153
    go_wp2_with (first | (go_at_call 114; refine (bok_impl _ _ _ _ _).mono ?_; rintro e w' ⟨rfl, hb⟩; have hB := on_of (W := w) (by go_grown) hb; obtain ⟨hc, hf⟩ := bcell hb; have hz : w.heap.size < w'.heap.size := (by have := hb.size; (try simp at this); omega); have hz1 : w.heap.size + 1 < w'.heap.size := (by have := hb.size; (try simp at this); omega); have hz2 : w.heap.size + 1 + 1 < w'.heap.size := (by have := hb.size; (try simp at this); omega); clear hb) | (go_at_call 163; refine (dots_impl' _ _ _ _ _ ⟨m0, m1, m2, m3⟩).mono ?_; rintro e w' ⟨n, hn, rfl, hb⟩; have hB := on_of (W := w) (by go_grown) hb; obtain ⟨hc, hf⟩ := bcell hb; have hz : w.heap.size + 1 + 1 < w'.heap.size := (by have := hb.size; (try simp at this); omega); have hz1 := hb.size; clear hb; rcases hn with ⟨rfl, hn⟩ | ⟨hn1, hn⟩))
    all_goals refine bodyPost_ret (by simp [results, Tryz.results153, go_sem, *]; try rfl) rfl ?_
    all_goals first | exact ⟨meet_no (.inr (.inr hn)), by go_grown⟩ | exact ⟨meet_yes h1 h2 hn, by go_grown⟩
set_option maxHeartbeats 2000000 in
theorem meet_spec (x0 y0 x1 y1 u0 v0 u1 v1 : Int) (w : World) : Calls Tryz.prog 67 #[.agg #[.int .i64 x0, .int .i64 y0, .int .i64 x1, .int .i64 y1], .agg #[.int .i64 u0, .int .i64 v0, .int .i64 u1, .int .i64 v1]] w fun e w' => e = .returned (meetV x0 y0 x1 y1 u0 v0 u1 v1) ∧ Below w.heap.size w w' := by
  cases h1 : bokB x0 y0 x1 y1 <;> cases h2 : bokB u0 v0 u1 v1
  all_goals
    go_enter Tryz.func67, Tryz.ntmps67
    go_wp2_with (go_at_call 108; refine (bok_spec _ _ _ _ _).mono ?_; rintro e w' ⟨rfl, hb⟩; have hB := on_of (W := w) (by go_grown) hb; obtain ⟨hc, hf⟩ := bcell hb; have hz : w.heap.size < w'.heap.size := (by have := hb.size; (try simp at this); omega); have hz1 : w.heap.size + 1 < w'.heap.size := (by have := hb.size; (try simp at this); omega); have hz2 : w.heap.size + 1 + 1 < w'.heap.size := (by have := hb.size; (try simp at this); omega); have hz3 : w.heap.size + 1 + 1 + 1 < w'.heap.size := (by have := hb.size; (try simp at this); omega); clear hb)
    all_goals refine bodyPost_ret (by simp [results, Tryz.results67, go_sem, *]; try rfl) rfl ?_
  all_goals first | exact ⟨meet_no (.inl h1), by go_grown⟩ | exact ⟨meet_no (.inr (.inl h2)), by go_grown⟩ | exact ⟨meet_no (.inr (.inr (by omega))), by go_grown⟩ | exact ⟨meet_yes h1 h2 (by omega), by go_grown⟩
end Go.Proofs.YtjmfgbbngocodaaGreat.Box

