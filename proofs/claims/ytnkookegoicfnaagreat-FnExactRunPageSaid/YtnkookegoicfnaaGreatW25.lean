/-
  Texts of this seat, laid together: Join, FlatC
-/
import Derived.BigQuiet
import Derived.Deep.QuietTactic
import Derived.Deep.RegionHeld3
import Derived.Deep.DeepCutAuto
import Derived.Deep.AppendLies
import Derived.Test.YtnkookegoicfnaaGreatW09
import Derived.Test.YtnkookegoicfnaaGreatW17
namespace Go.Proofs.YtnkookegoicfnaaGreat.Join
open Go.ChangeShapes Go.WideShapes Go.ChangeAt Go.RowKit
open Kit Point Turn Apply
set_option linter.unusedVariables false
set_option linter.unusedSimpArgs false
set_option linter.unnecessarySimpa false
def jq (q r : Int) : Int := if q + r < 4 then q + r else q + r - 4
theorem jq_mod {q r : Int} (h : 0 ≤ q ∧ q ≤ 3) (k : 0 ≤ r ∧ r ≤ 3) : (q + r).tmod 4 = jq q r := by
  unfold jq; rw [Int.tmod_eq_emod_of_nonneg (by omega)]; split <;> omega
theorem im_zero (q s dx dy : Int) : imX q s dx 0 0 = dx ∧ imY q s dy 0 0 = dy := by
  simp [imX, imY, rotX, rotY]
theorem mul16 {s t : Int} (h : 1 ≤ s ∧ s ≤ 4) (k : 1 ≤ t ∧ t ≤ 4) : 1 ≤ s * t ∧ s * t ≤ 16 := by
  have : s = 1 ∨ s = 2 ∨ s = 3 ∨ s = 4 := by omega
  rcases this with rfl | rfl | rfl | rfl <;> omega
structure Pair (w0 w : World) (q s dx dy r t ex ey : Int) : Prop where
  a : Four w w0.heap.size q s dx dy
  b : Four w (w0.heap.size + 1) r t ex ey
  r : Four w (w0.heap.size + 1 + 1) 0 0 0 0
  g : Below w0.heap.size w0 w
theorem Pair.start (w : World) (q s dx dy r t ex ey : Int) (T : TypeId) : Pair w (((w.alloc (.cells #[.int .i64 q, .int .i64 s, .int .i64 dx, .int .i64 dy] T)).alloc (.cells #[.int .i64 r, .int .i64 t, .int .i64 ex, .int .i64 ey] T)).alloc (.cells #[.int .i64 0, .int .i64 0, .int .i64 0, .int .i64 0] T)) q s dx dy r t ex ey := by
  refine ⟨((Four.new w T q s dx dy).alloc _).alloc _, ?_, ?_, by go_grown⟩
  · have := (Four.new (w.alloc (.cells #[.int .i64 q, .int .i64 s, .int .i64 dx, .int .i64 dy] T)) T r t ex ey).alloc (.cells #[.int .i64 0, .int .i64 0, .int .i64 0, .int .i64 0] T)
    simpa using this
  · have := Four.new ((w.alloc (.cells #[.int .i64 q, .int .i64 s, .int .i64 dx, .int .i64 dy] T)).alloc (.cells #[.int .i64 r, .int .i64 t, .int .i64 ex, .int .i64 ey] T)) T 0 0 0 0
    simpa using this
theorem Pair.on {w0 w w' : World} {q s dx dy r t ex ey : Int} (h : Pair w0 w q s dx dy r t ex ey) (hb : Below w.heap.size w w') : Pair w0 w' q s dx dy r t ex ey :=
  ⟨h.a.keep hb h.a.lt, h.b.keep hb h.b.lt, h.r.keep hb h.r.lt, on_of h.g hb⟩
theorem image_impl_to (q s dx dy x y a b : Int) (w : World) (ht : tokB q s dx dy = true) (hx : -200 ≤ x ∧ x ≤ 200) (hy : -200 ≤ y ∧ y ≤ 200) (ha : imX q s dx x y = a) (hb : imY q s dy x y = b) :
    Calls Tryz.prog 161 #[.agg #[.int .i64 q, .int .i64 s, .int .i64 dx, .int .i64 dy], .agg #[.int .i64 x, .int .i64 y]] w fun e w' => e = .returned (.agg #[.int .i64 a, .int .i64 b]) ∧ Below w.heap.size w w' := by
  rw [← ha, ← hb]; exact image_impl q s dx dy x y w ht hx hy
theorem image_zero (q s dx dy : Int) (w : World) (ht : tokB q s dx dy = true) :
    Calls Tryz.prog 161 #[.agg #[.int .i64 q, .int .i64 s, .int .i64 dx, .int .i64 dy], .agg #[.int .i64 0, .int .i64 0]] w fun e w' => e = .returned (.agg #[.int .i64 dx, .int .i64 dy]) ∧ Below w.heap.size w w' :=
  image_impl_to q s dx dy 0 0 dx dy w ht (by omega) (by omega) (im_zero q s dx dy).1 (im_zero q s dx dy).2
set_option maxHeartbeats 2000000 in
theorem then_impl (q s dx dy r t ex ey a b Q S : Int) (w : World) (h1 : tokB q s dx dy = true) (h2 : tokB r t ex ey = true) (ha : imX r t ex dx dy = a) (hb : imY r t ey dx dy = b) (hQ : jq q r = Q) (hS : s * t = S) :
    Calls Tryz.prog 163 #[.agg #[.int .i64 q, .int .i64 s, .int .i64 dx, .int .i64 dy], .agg #[.int .i64 r, .int .i64 t, .int .i64 ex, .int .i64 ey]] w fun e w' => e = .returned (.agg #[.int .i64 Q, .int .i64 S, .int .i64 a, .int .i64 b]) ∧ Below w.heap.size w w' := by
  have F0 := Pair.start w q s dx dy r t ex ey 38
  have t1 := tok_true h1
  have t2 := tok_true h2
  have m1 := mul16 t1.2.1 t2.2.1
  have m2 := jq_mod t1.1 t2.1
  have HI := Lib.hid (And.intro ha hb)
  rw [hS] at m1
  rw [hQ] at m2
  clear ha hb
  go_enter Tryz.func163, Tryz.ntmps163
  go_upto_region 2 with fail
  go_wp2_with fail
  refine gen_world (fun W => Pair w W q s dx dy r t ex ey ∧ Four W (w.heap.size + 1 + 1 + 1) Q S 0 0) ⟨F0.on ((Below.refl _ _).alloc (Nat.le_refl _) _), Four.newAt _ 38 Q S 0 0 (by simp)⟩ ?_
  clear F0
  rintro W ⟨FW, FS⟩
  have hw := FW.g
  have hl : w.heap.size + 1 + 1 + 1 < W.heap.size := FS.lt
  have hl2 : w.heap.size + 1 + 1 < W.heap.size := by omega
  have hl1 : w.heap.size + 1 < W.heap.size := by omega
  have hl0 : w.heap.size < W.heap.size := by omega
  have hne0 : w.heap.size ≠ w.heap.size + 1 + 1 := by omega
  have hne1 : w.heap.size + 1 ≠ w.heap.size + 1 + 1 := by omega
  obtain ⟨a0, a1, a2, a3, a4⟩ := Four.lay FW.a
  obtain ⟨b0, b1, b2, b3, b4⟩ := Four.lay FW.b
  obtain ⟨c0, c1, c2, c3, c4⟩ := Four.lay FW.r
  obtain ⟨d0, d1, d2, d3, d4⟩ := Four.lay FS
  clear FW FS
  go_cut [4] (fun s4 wx => s4 = .pointer (some ⟨w.heap.size + 1 + 1, 0, none⟩) ∧ wx.cell? ⟨w.heap.size + 1 + 1, 0, none⟩ = some (.int .i64 Q) ∧ wx.cell? ⟨w.heap.size + 1 + 1, 1, none⟩ = some (.int .i64 S) ∧ wx.cell? ⟨w.heap.size + 1 + 1, 2, none⟩ = some (.int .i64 a) ∧ wx.cell? ⟨w.heap.size + 1 + 1, 3, none⟩ = some (.int .i64 b) ∧ Below w.heap.size w wx)
  case first =>
    go_region_held3 (fun w' => (∀ b o, b < W.heap.size → b ≠ w.heap.size + 1 + 1 → w'.cell? ⟨b, o, none⟩ = W.cell? ⟨b, o, none⟩) ∧ Below w.heap.size w w') (first | (refine keepR _ ?_ hw; go_grown; done) | (refine keepR4 ?_ hw (by omega) _ _ _ _; go_grown; done)) (first | (go_at_call 161; (first | (with_reducible refine (image_zero _ _ _ _ _ h1).mono ?_) | (with_reducible refine (image_impl_to _ _ _ _ _ _ _ _ _ h2 t1.2.2.1 t1.2.2.2 HI.out.1 HI.out.2).mono ?_)); rintro e w' ⟨rfl, hb⟩; have hB := on_of (W := W) (by go_grown) hb; obtain ⟨hc, hf, hz⟩ := bcell3 hB; have hs := hB.size; clear hb) | (go_at_call 165; (with_reducible refine (at_impl _ _ _ _ _ _ _).mono ?_); rintro e w' ⟨rfl, hb⟩; have hB := on_of (W := W) (by go_grown) hb; obtain ⟨hc, hf, hz⟩ := bcell3 hB; have hs := hB.size; clear hb))
    all_goals
      go_wp2_with fail
      go_meet
      have FR : Four w' (w.heap.size + 1 + 1) 0 0 0 0 := ⟨(hc _ _ hl2).trans c0, (hc _ _ hl2).trans c1, (hc _ _ hl2).trans c2, (hc _ _ hl2).trans c3, fun o => (hf _ o hl2).trans (c4 o)⟩
      have FN := FR.set Q S a b
      exact ⟨rfl, FN.c0, FN.c1, FN.c2, FN.c3, (keepR4 hB hw (by omega) _ _ _ _).2⟩
  case rest =>
    obtain ⟨rfl, k0, k1, k2, k3, hk⟩ := hcut
    go_wp2_with fail
    refine bodyPost_ret (by simp [results, Tryz.results163, go_sem, *]; try rfl) rfl ?_
    exact ⟨rfl, hk⟩
def jnB (q s dx dy r t ex ey : Int) : Bool := tokB q s dx dy && tokB r t ex ey && tokB (jq q r) (s * t) (imX r t ex dx dy) (imY r t ey dx dy)
def jnV (q s dx dy r t ex ey : Int) : Value :=
  .tuple #[.agg #[.int .i64 (sel (jnB q s dx dy r t ex ey) (jq q r)), .int .i64 (sel (jnB q s dx dy r t ex ey) (s * t)), .int .i64 (sel (jnB q s dx dy r t ex ey) (imX r t ex dx dy)), .int .i64 (sel (jnB q s dx dy r t ex ey) (imY r t ey dx dy))], .bool (jnB q s dx dy r t ex ey)]
theorem jn_no {q s dx dy r t ex ey : Int} (h : jnB q s dx dy r t ex ey = false) : Ending.returned (.tuple #[.agg #[.int .i64 0, .int .i64 0, .int .i64 0, .int .i64 0], .bool false]) = .returned (jnV q s dx dy r t ex ey) := by
  simp [jnV, h, sel]
theorem jn_no3 {q s dx dy r t ex ey a b Q S : Int} (ha : imX r t ex dx dy = a) (hb : imY r t ey dx dy = b) (hQ : jq q r = Q) (hS : s * t = S) (h3 : tokB Q S a b = false) : Ending.returned (.tuple #[.agg #[.int .i64 0, .int .i64 0, .int .i64 0, .int .i64 0], .bool false]) = .returned (jnV q s dx dy r t ex ey) :=
  jn_no (by simp only [jnB, ha, hb, hQ, hS, h3, Bool.and_false])
theorem jn_yes {q s dx dy r t ex ey a b Q S : Int} (h1 : tokB q s dx dy = true) (h2 : tokB r t ex ey = true) (ha : imX r t ex dx dy = a) (hb : imY r t ey dx dy = b) (hQ : jq q r = Q) (hS : s * t = S) (h3 : tokB Q S a b = true) : Ending.returned (.tuple #[.agg #[.int .i64 Q, .int .i64 S, .int .i64 a, .int .i64 b], .bool true]) = .returned (jnV q s dx dy r t ex ey) := by
  have : jnB q s dx dy r t ex ey = true := by simp only [jnB, h1, h2, ha, hb, hQ, hS, h3, Bool.and_self]
  simp [jnV, this, sel, ha, hb, hQ, hS]
set_option maxHeartbeats 2000000 in
theorem join_impl (q s dx dy r t ex ey : Int) (w : World) :
    Calls Tryz.prog 155 #[.agg #[.int .i64 q, .int .i64 s, .int .i64 dx, .int .i64 dy], .agg #[.int .i64 r, .int .i64 t, .int .i64 ex, .int .i64 ey]] w fun e w' => e = .returned (jnV q s dx dy r t ex ey) ∧ Below w.heap.size w w' := by
  have F0 := Lib.hid (Pair.start w q s dx dy r t ex ey 38)
  cases h1 : tokB q s dx dy
  · go_enter Tryz.func155, Tryz.ntmps155
    go_wp2_with fail
    (refine (turn_impl _ _ _ _ _).mono ?_; rintro e w1 ⟨rfl, hb1⟩)
    have F1 := F0.out.on hb1
    obtain ⟨a0, a1, a2, a3, a4⟩ := Four.lay F1.a
    obtain ⟨b0, b1, b2, b3, b4⟩ := Four.lay F1.b
    obtain ⟨c0, c1, c2, c3, c4⟩ := Four.lay F1.r
    have hB := F1.g
    clear F1 hb1
    go_wp2_with fail
    refine bodyPost_ret (by simp [results, Tryz.results155, go_sem, *]; try rfl) rfl ?_
    exact ⟨jn_no (by simp [jnB, h1]), by go_grown⟩
  · cases h2 : tokB r t ex ey
    · go_enter Tryz.func155, Tryz.ntmps155
      go_wp2_with fail
      (refine (turn_impl _ _ _ _ _).mono ?_; rintro e w1 ⟨rfl, hb1⟩)
      have F1 := F0.out.on hb1
      have G1 := Lib.hid F1
      obtain ⟨a0, a1, a2, a3, a4⟩ := Four.lay F1.a
      obtain ⟨b0, b1, b2, b3, b4⟩ := Four.lay F1.b
      clear F1 hb1
      go_wp2_with fail
      (refine (turn_impl _ _ _ _ _).mono ?_; rintro e w2 ⟨rfl, hb2⟩)
      have F2 := G1.out.on hb2
      obtain ⟨a0, a1, a2, a3, a4⟩ := Four.lay F2.a
      obtain ⟨b0, b1, b2, b3, b4⟩ := Four.lay F2.b
      obtain ⟨c0, c1, c2, c3, c4⟩ := Four.lay F2.r
      have hB := F2.g
      clear F2 hb2
      go_wp2_with fail
      refine bodyPost_ret (by simp [results, Tryz.results155, go_sem, *]; try rfl) rfl ?_
      exact ⟨jn_no (by simp [jnB, h2]), by go_grown⟩
    · obtain ⟨a, ha⟩ : ∃ a, imX r t ex dx dy = a := ⟨_, rfl⟩
      obtain ⟨b, hb⟩ : ∃ b, imY r t ey dx dy = b := ⟨_, rfl⟩
      obtain ⟨Q, hQ⟩ : ∃ Q, jq q r = Q := ⟨_, rfl⟩
      obtain ⟨S, hS⟩ : ∃ S, s * t = S := ⟨_, rfl⟩
      have HI := Lib.hid (And.intro (And.intro ha hb) (And.intro hQ hS))
      clear ha hb hQ hS
      cases h3 : tokB Q S a b
      all_goals
        go_enter Tryz.func155, Tryz.ntmps155
        go_wp2_with fail
        (refine (turn_impl _ _ _ _ _).mono ?_; rintro e w1 ⟨rfl, hb1⟩)
        have F1 := F0.out.on hb1
        have G1 := Lib.hid F1
        obtain ⟨a0, a1, a2, a3, a4⟩ := Four.lay F1.a
        obtain ⟨b0, b1, b2, b3, b4⟩ := Four.lay F1.b
        clear F1 hb1
        go_wp2_with fail
        (refine (turn_impl _ _ _ _ _).mono ?_; rintro e w2 ⟨rfl, hb2⟩)
        have F2 := G1.out.on hb2
        have G2 := Lib.hid F2
        obtain ⟨a0, a1, a2, a3, a4⟩ := Four.lay F2.a
        obtain ⟨b0, b1, b2, b3, b4⟩ := Four.lay F2.b
        clear F2 hb2
        go_wp2_with fail
        (refine (then_impl _ _ _ _ _ _ _ _ _ _ _ _ _ h1 h2 HI.out.1.1 HI.out.1.2 HI.out.2.1 HI.out.2.2).mono ?_; rintro e w3 ⟨rfl, hb3⟩)
        have F3 := (G2.out.on hb3).on ((Below.refl _ _).alloc (Nat.le_refl _) (.cells #[.int .i64 Q, .int .i64 S, .int .i64 a, .int .i64 b] 38))
        have P3 := Four.new w3 38 Q S a b
        have G3 := Lib.hid (And.intro F3 P3)
        have hs3 := hb3.size
        clear F3 P3 hb3
        go_wp2_with fail
        (refine (turn_impl _ _ _ _ _).mono ?_; rintro e w4 ⟨rfl, hb4⟩)
        have F4 := G3.out.1.on hb4
        have P4 := G3.out.2.keep hb4 G3.out.2.lt
        obtain ⟨c0, c1, c2, c3, c4⟩ := Four.lay F4.r
        obtain ⟨p0, p1, p2, p3, p4⟩ := Four.lay P4
        have hB := F4.g
        clear F4 P4 hb4
        go_wp2_with fail
        refine bodyPost_ret (by simp [results, Tryz.results155, go_sem, *]; try rfl) rfl ?_
      · exact ⟨jn_no3 HI.out.1.1 HI.out.1.2 HI.out.2.1 HI.out.2.2 h3, by go_grown⟩
      · exact ⟨jn_yes h1 h2 HI.out.1.1 HI.out.1.2 HI.out.2.1 HI.out.2.2 h3, by go_grown⟩
theorem image_spec_to (q s dx dy x y a b : Int) (w : World) (ht : tokB q s dx dy = true) (hx : -200 ≤ x ∧ x ≤ 200) (hy : -200 ≤ y ∧ y ≤ 200) (ha : imX q s dx x y = a) (hb : imY q s dy x y = b) :
    Calls Tryz.prog 66 #[.agg #[.int .i64 q, .int .i64 s, .int .i64 dx, .int .i64 dy], .agg #[.int .i64 x, .int .i64 y]] w fun e w' => e = .returned (.agg #[.int .i64 a, .int .i64 b]) ∧ Below w.heap.size w w' := by
  rw [← ha, ← hb]; exact image_spec q s dx dy x y w ht hx hy
set_option maxHeartbeats 2000000 in
theorem join_spec (q s dx dy r t ex ey : Int) (w : World) :
    Calls Tryz.prog 70 #[.agg #[.int .i64 q, .int .i64 s, .int .i64 dx, .int .i64 dy], .agg #[.int .i64 r, .int .i64 t, .int .i64 ex, .int .i64 ey]] w fun e w' => e = .returned (jnV q s dx dy r t ex ey) ∧ Below w.heap.size w w' := by
  have F0 := Lib.hid (Pair.start w q s dx dy r t ex ey 38)
  cases h1 : tokB q s dx dy
  · go_enter Tryz.func70, Tryz.ntmps70
    go_wp2_with fail
    (refine (turn_spec _ _ _ _ _).mono ?_; rintro e w1 ⟨rfl, hb1⟩)
    have F1 := F0.out.on hb1
    obtain ⟨a0, a1, a2, a3, a4⟩ := Four.lay F1.a
    obtain ⟨b0, b1, b2, b3, b4⟩ := Four.lay F1.b
    obtain ⟨c0, c1, c2, c3, c4⟩ := Four.lay F1.r
    have hB := F1.g
    clear F1 hb1
    go_wp2_with fail
    refine bodyPost_ret (by simp [results, Tryz.results70, go_sem, *]; try rfl) rfl ?_
    exact ⟨jn_no (by simp [jnB, h1]), by go_grown⟩
  · cases h2 : tokB r t ex ey
    · go_enter Tryz.func70, Tryz.ntmps70
      go_wp2_with fail
      (refine (turn_spec _ _ _ _ _).mono ?_; rintro e w1 ⟨rfl, hb1⟩)
      have F1 := F0.out.on hb1
      have G1 := Lib.hid F1
      obtain ⟨a0, a1, a2, a3, a4⟩ := Four.lay F1.a
      obtain ⟨b0, b1, b2, b3, b4⟩ := Four.lay F1.b
      clear F1 hb1
      go_wp2_with fail
      (refine (turn_spec _ _ _ _ _).mono ?_; rintro e w2 ⟨rfl, hb2⟩)
      have F2 := G1.out.on hb2
      obtain ⟨a0, a1, a2, a3, a4⟩ := Four.lay F2.a
      obtain ⟨b0, b1, b2, b3, b4⟩ := Four.lay F2.b
      obtain ⟨c0, c1, c2, c3, c4⟩ := Four.lay F2.r
      have hB := F2.g
      clear F2 hb2
      go_wp2_with fail
      refine bodyPost_ret (by simp [results, Tryz.results70, go_sem, *]; try rfl) rfl ?_
      exact ⟨jn_no (by simp [jnB, h2]), by go_grown⟩
    · obtain ⟨a, ha⟩ : ∃ a, imX r t ex dx dy = a := ⟨_, rfl⟩
      obtain ⟨b, hb⟩ : ∃ b, imY r t ey dx dy = b := ⟨_, rfl⟩
      obtain ⟨Q, hQ⟩ : ∃ Q, jq q r = Q := ⟨_, rfl⟩
      obtain ⟨S, hS⟩ : ∃ S, s * t = S := ⟨_, rfl⟩
      have HI := Lib.hid (And.intro (And.intro ha hb) (And.intro hQ hS))
      clear ha hb hQ hS
      cases h3 : tokB Q S a b
      all_goals
        have t1 := tok_true h1
        have t2 := tok_true h2
        have m1 := mul16 t1.2.1 t2.2.1
        have m2 := jq_mod t1.1 t2.1
        rw [HI.out.2.2] at m1
        rw [HI.out.2.1] at m2
        have hS := HI.out.2.2
        have T1 := Lib.hid t1
        go_enter Tryz.func70, Tryz.ntmps70
        go_wp2_with fail
        (refine (turn_spec _ _ _ _ _).mono ?_; rintro e w1 ⟨rfl, hb1⟩)
        have F1 := F0.out.on hb1
        have G1 := Lib.hid F1
        obtain ⟨a0, a1, a2, a3, a4⟩ := Four.lay F1.a
        obtain ⟨b0, b1, b2, b3, b4⟩ := Four.lay F1.b
        clear F1 hb1
        go_wp2_with fail
        (refine (turn_spec _ _ _ _ _).mono ?_; rintro e w2 ⟨rfl, hb2⟩)
        have F2 := G1.out.on hb2
        have G2 := Lib.hid F2
        obtain ⟨a0, a1, a2, a3, a4⟩ := Four.lay F2.a
        obtain ⟨b0, b1, b2, b3, b4⟩ := Four.lay F2.b
        clear F2 hb2
        go_wp2_with fail
        (refine (image_spec_to _ _ _ _ _ _ _ _ _ h2 T1.out.2.2.1 T1.out.2.2.2 HI.out.1.1 HI.out.1.2).mono ?_; rintro e w3 ⟨rfl, hb3⟩)
        have F3 := (G2.out.on hb3).on ((Below.refl _ _).alloc (Nat.le_refl _) (.cells #[.int .i64 a, .int .i64 b] 109))
        have P3 := Two.new w3 109 a b
        have G3 := Lib.hid (And.intro (F3.on ((Below.refl _ _).alloc (Nat.le_refl _) (.cells #[.int .i64 Q, .int .i64 S, .int .i64 a, .int .i64 b] 38))) (Four.newAt (b := w3.heap.size + 1) (w3.alloc (.cells #[.int .i64 a, .int .i64 b] 109)) 38 Q S a b (by simp)))
        obtain ⟨a0, a1, a2, a3, a4⟩ := Four.lay (G2.out.on hb3).a
        obtain ⟨b0, b1, b2, b3, b4⟩ := Four.lay (G2.out.on hb3).b
        have l0 := (G2.out.on hb3).a.lt
        have l1 := (G2.out.on hb3).b.lt
        clear F3 P3 hb3
        go_wp2_with fail
        (refine (turn_spec _ _ _ _ _).mono ?_; rintro e w4 ⟨rfl, hb4⟩)
        have F4 := G3.out.1.on hb4
        have P4 := G3.out.2.keep hb4 G3.out.2.lt
        obtain ⟨c0, c1, c2, c3, c4⟩ := Four.lay F4.r
        obtain ⟨p0, p1, p2, p3, p4⟩ := Four.lay P4
        have hB := F4.g
        clear F4 P4 hb4
        go_wp2_with fail
        refine bodyPost_ret (by simp [results, Tryz.results70, go_sem, *]; try rfl) rfl ?_
      · exact ⟨jn_no3 HI.out.1.1 HI.out.1.2 HI.out.2.1 HI.out.2.2 h3, by go_grown⟩
      · exact ⟨jn_yes h1 h2 HI.out.1.1 HI.out.1.2 HI.out.2.1 HI.out.2.2 h3, by go_grown⟩
end Go.Proofs.YtnkookegoicfnaaGreat.Join

namespace Go.Proofs.YtnkookegoicfnaaGreat.Blk
open Go.ChangeShapes Go.WideShapes Go.ChangeAt Go.RowKit
open Kit Scan Slabs
set_option linter.unusedVariables false
set_option linter.unusedSimpArgs false
set_option linter.unnecessarySimpa false
set_option maxRecDepth 100000
theorem info_tk : (Tryz.prog.info? 50).map (fun i => (i.zero, i.size, i.bytes)) = some (some (.agg #[.string ⟨#[]⟩, .int .i64 0]), 2, 24) := by kernel_rfl
theorem get_at {pre r : List Tok} {t : Tok} : (pre ++ t :: r)[pre.length]? = some t := by simp
theorem get_next {pre r : List Tok} {t u : Tok} : (pre ++ t :: u :: r)[pre.length + 1]? = some u := by simp
theorem end_at {w : World} {v : Value} {L pre : List Tok} {c p e : Tok} {b r f : List Tok} {d k : Nat} (hL : L = pre ++ c :: p :: (b ++ e :: r)) (hk : pre.length = k) (hn : L.length ≤ 1048576) (h : Rdt w v L) (hp : isRep p = true) (he : isEnd e = true) (F : Fl b f d) :
    Calls Tryz.prog 136 #[v, .int .i64 ((k : Int) + 1)] w fun e' w' => e' = .returned (.int .i64 ((k + 2 + b.length : Nat) : Int)) ∧ w' = w := by
  have e1 : L = (pre ++ [c]) ++ p :: (b ++ e :: r) := by rw [hL]; simp
  rw [e1] at h hn
  have h1 := end_spec w v (pre ++ [c]) p e b r f d hn h hp he F
  have e2 : (((pre ++ [c]).length : Nat) : Int) = (k : Int) + 1 := by simp [hk]
  have e3 : (pre ++ [c]).length + 1 + b.length = k + 2 + b.length := by simp [hk]
  rw [e2, e3] at h1
  exact h1
theorem Rdt.part {w : World} {g o cap k : Nat} {L pre b z : List Tok} {x y : Tok} (h : Rdt w (.slice (some ⟨g, o, none⟩) L.length cap) L) (hL : L = pre ++ x :: y :: (b ++ z)) (hk : pre.length = k) :
    Rdt w (.slice (some ⟨g, o + (k + 2) * 2, none⟩) b.length (cap - (k + 2))) b := by
  obtain ⟨a', cap', hv, hc, h⟩ := h
  injection hv with h1 h2 h3
  subst h1; subst h3
  have hlen : L.length = k + 2 + (b.length + z.length) := by rw [hL]; simp [hk]; omega
  refine ⟨_, _, rfl, by omega, ?_⟩
  rcases h with h | ⟨g', o', ha, hg, hcs⟩
  · rw [h] at hlen; simp at hlen; omega
  · injection ha with ha
    injection ha with e1 e2
    subst e1; subst e2
    refine .inr ⟨g, _, rfl, hg, fun i s m hi => ?_⟩
    have hget : L[k + 2 + i]? = some (s, m) := by
      have hi2 : i < b.length := (List.getElem?_eq_some_iff.1 hi).1
      rw [hL, List.getElem?_append_right (by omega), show k + 2 + i - pre.length = i + 2 by omega]
      simp only [List.getElem?_cons_succ]
      rw [List.getElem?_append_left hi2]; exact hi
    have := hcs _ s m hget
    rw [show o + (k + 2) * 2 + i * 2 = o + (k + 2 + i) * 2 by omega]
    exact this
theorem owns_below {w w' : World} {B : Nat} {T : TypeId} {c n : Nat} {v : Value} {xs : List Value} (h : w.ownsRow B T c v n xs) (hb : Below w.heap.size w w') : w'.ownsRow B T c v n xs :=
  h.kept (row := none) ⟨hb.os, hb.tape, hb.output, hb.size, fun k hk _ => hb.block k hk⟩ (by cases v.ownBlock <;> simp)
set_option maxHeartbeats 8000000 in
theorem flat_spec : ∀ (N : Nat) (L f : List Tok) (d : Nat), L.length = N → L.length ≤ 60 → d ≤ 3 → Fl L f d → ∀ (w : World) (v : Value), Rdt w v L →
    Calls Tryz.prog 100 #[v] w fun e w' => ∃ u, e = .returned u ∧ w'.ownsRow w.heap.size 50 2 u f.length (cellsL f) ∧ u ≠ .slice none 0 0 ∧ Below w.heap.size w w' := by
  intro N
  induction N using Nat.strongRecOn with
  | _ N ih =>
    intro L f d hN h60 hd3 F w v h
    subst hN
    obtain ⟨i0, hi0, hz0, hz1, hz2⟩ := info_parts info_tk
    obtain ⟨a, cap, rfl, hc, h⟩ := h
    have ho0 := World.ownsRow_made w #[] (e := 50) (size := 2) 0 (Nat.le_refl _) (by decide) (by simp)
    rcases h with rfl | ⟨g, o, rfl, hg, hcs⟩
    · have hf : f = [] := by cases F; rfl
      subst hf
      have HO := Lib.hid ho0
      clear ho0 ih F
      go_enter Tryz.func100, Tryz.ntmps100
      go_wp2
      go_loopw [3, 4] (fun v3 v4 wr => v3 = .slice (some ⟨w.heap.size, 0, none⟩) 0 0 ∧ v4 = .int .i64 0 ∧ wr = w.alloc (.cells #[] 50)) (fun _ _ _ => 0)
      case atStart => exact ⟨rfl, rfl, rfl⟩
      case round =>
        obtain ⟨rfl, rfl, rfl⟩ := hrel
        go_wp2
        go_ret
        exact ⟨_, rfl, HO.out, by simp, by go_grown⟩
    · have HC := Lib.hid (And.intro hcs ih)
      have HF := Lib.hid (And.intro F ho0)
      have hf60 : f.length ≤ 43740 := by
        have h1 := fl_len F
        have h2 : 9 ^ d ≤ 9 ^ 3 := Nat.pow_le_pow_right (by omega) hd3
        have h3 : L.length * 9 ^ d ≤ 60 * 9 ^ 3 := Nat.mul_le_mul h60 h2
        omega
      clear hcs ih F ho0
      go_enter Tryz.func100, Tryz.ntmps100
      go_wp2
      go_loopw [3, 4] (fun v3 v4 wr => ∃ (pre suf fp fs : List Tok) (ds : Nat), L = pre ++ suf ∧ v4 = .int .i64 (pre.length : Int) ∧ Fl suf fs ds ∧ ds ≤ d ∧ f = fp ++ fs ∧ wr.ownsRow w.heap.size 50 2 v3 fp.length (cellsL fp) ∧ v3 ≠ .slice none 0 0 ∧ w.heap.size ≤ wr.heap.size ∧ Below w.heap.size w wr) (fun _ v4 _ => L.length - (intOf v4).toNat)
      case atStart => exact ⟨[], L, [], f, d, rfl, rfl, HF.out.1, Nat.le_refl _, rfl, HF.out.2, by simp, by simp, (Below.refl _ _).alloc (Nat.le_refl _) _⟩
      case round =>
        obtain ⟨pre, suf, fp, fs, ds, hL, rfl, Fs, hds, hf, hown, hne, hws, hbel⟩ := hrel
        obtain ⟨k, hk⟩ : ∃ k, pre.length = k := ⟨_, rfl⟩
        rw [hk]
        have hRd : ∀ W, Below w.heap.size w W → Rdt W (.slice (some ⟨g, o, none⟩) L.length cap) L := fun W hb => ⟨_, _, rfl, hc, .inr ⟨g, o, rfl, Nat.lt_of_lt_of_le hg hb.size, fun i s m hi => ⟨(hb.cell (p := ⟨g, _, none⟩) hg).trans (HC.out.1 i s m hi).1, (hb.cell (p := ⟨g, _, none⟩) hg).trans (HC.out.1 i s m hi).2⟩⟩⟩
        have HR := Lib.hid hRd
        clear hRd
        have i0' : (0 : Int) ≤ (k : Int) := by omega
        have hgl := Nat.lt_of_lt_of_le hg hbel.size
        have HNE := Lib.hid hne
        clear hne
        cases Fs with
        | nil =>
          have hkl : ¬ ((k : Int) < (L.length : Int)) := by rw [hL]; simp [hk]
          have HX := Lib.hid (And.intro hown hf)
          clear hown hf hL
          go_wp2
          go_ret
          exact ⟨_, rfl, by rw [HX.out.2, List.append_nil]; exact HX.out.1, HNE.out, hbel⟩
        | @tok t r fr _ hr he htk hnx Fr =>
          have hlen : L.length = k + (r.length + 1) := by rw [hL]; simp [hk]
          obtain ⟨s, q⟩ := t
          have hget : L[k]? = some (s, q) := by rw [hL, ← hk]; exact get_at
          have c0 : wr.cell? ⟨g, o + k * 2, none⟩ = some (.string s) := (hbel.cell (p := ⟨g, _, none⟩) hg).trans (HC.out.1 k s q hget).1
          have c1 : wr.cell? ⟨g, o + k * 2 + 1, none⟩ = some (.int .i64 q) := (hbel.cell (p := ⟨g, _, none⟩) hg).trans (HC.out.1 k s q hget).2
          have hfl : fp.length + 1 ≤ f.length := by rw [hf]; simp
          have hL2 : L = (pre ++ [(s, q)]) ++ r := by rw [hL]; simp
          have hf2 : f = (fp ++ [(s, q)]) ++ fr := by rw [hf]; simp
          have i1 : (k : Int) < (L.length : Int) := by omega
          have HL := Lib.hid (And.intro hL2 (And.intro hf2 Fr))
          cases r with
          | nil =>
            have i2 : (L.length : Int) ≤ (k : Int) + 1 := by rw [hlen]; simp
            clear hL hf hL2 hf2 Fr hget hr he htk hnx hlen
            go_wp2_with (at_builtin; refine wpList_append_own _ rfl _ _ 59 rfl w.heap.size 50 i0 (.agg #[.string ⟨#[]⟩, .int .i64 0]) 2 24 Tryz.underlying59 hi0 hz0 hz1 hz2 rfl (by decide) _ _ _ rfl (hown.alloc _) ⟨wr.heap.size, 0, none⟩ 1 1 [.string s, .int .i64 q] rfl rfl (World.news_of_block (cs := #[.string s, .int .i64 q]) (t := 50) (fr := (0, 0)) (heap_alloc_new wr _)) ?c2 ?c3 ?c4 ?c5 ?_)
            case c2 => simp [Value.oneCell']
            case c3 => unfold maxLen; omega
            case c4 => omega
            case c5 => simp; omega
            intro v2 w2 hown2 hgrow hnil
            have hne2 : v2 ≠ .slice none 0 0 := hnil
            have hB2 : Below w.heap.size w w2 := (hbel.alloc hws _).grown hgrow (by simp; omega) (fun p hp => ((hown.alloc (.cells #[.string s, .int .i64 q] 50)).lt p hp).1)
            have hown3 : w2.ownsRow w.heap.size 50 2 v2 (fp ++ [(s, q)]).length (cellsL (fp ++ [(s, q)])) := by rw [cellsL_append, List.length_append]; exact hown2
            have H2 := Lib.hid (And.intro hown3 (And.intro hne2 hB2))
            clear hown hown2 hown3 hgrow hB2 hnil hne2
            go_wp2
            go_roundw
            case rel => exact ⟨pre ++ [(s, q)], [], _, fr, _, HL.out.1, by first | (simp [hk]; done) | go_num, HL.out.2.2, hds, HL.out.2.1, H2.out.1, H2.out.2.1, H2.out.2.2.size, H2.out.2.2⟩
            case measure => simp [intOf]; omega
          | cons u r =>
            have hu := hnx u r rfl
            obtain ⟨s2, q2⟩ := u
            have hget2 : L[k + 1]? = some (s2, q2) := by rw [hL, ← hk]; exact get_next
            have c2 : wr.cell? ⟨g, o + (k + 1) * 2, none⟩ = some (.string s2) := (hbel.cell (p := ⟨g, _, none⟩) hg).trans (HC.out.1 (k + 1) s2 q2 hget2).1
            have er : (s2.toList == [114, 101, 112, 101, 97, 116]) = false := hu
            have i2 : (k : Int) + 1 < (L.length : Int) := by rw [hlen]; simp; omega
            clear hL hf hL2 hf2 Fr hget hget2 hr he htk hnx hlen hu
            go_wp2_with (at_builtin; refine wpList_append_own _ rfl _ _ 59 rfl w.heap.size 50 i0 (.agg #[.string ⟨#[]⟩, .int .i64 0]) 2 24 Tryz.underlying59 hi0 hz0 hz1 hz2 rfl (by decide) _ _ _ rfl (hown.alloc _) ⟨wr.heap.size, 0, none⟩ 1 1 [.string s, .int .i64 q] rfl rfl (World.news_of_block (cs := #[.string s, .int .i64 q]) (t := 50) (fr := (0, 0)) (heap_alloc_new wr _)) ?c2 ?c3 ?c4 ?c5 ?_)
            case c2 => simp [Value.oneCell']
            case c3 => unfold maxLen; omega
            case c4 => omega
            case c5 => simp; omega
            intro v2 w2 hown2 hgrow hnil
            have hne2 : v2 ≠ .slice none 0 0 := hnil
            have hB2 : Below w.heap.size w w2 := (hbel.alloc hws _).grown hgrow (by simp; omega) (fun p hp => ((hown.alloc (.cells #[.string s, .int .i64 q] 50)).lt p hp).1)
            have hown3 : w2.ownsRow w.heap.size 50 2 v2 (fp ++ [(s, q)]).length (cellsL (fp ++ [(s, q)])) := by rw [cellsL_append, List.length_append]; exact hown2
            have H2 := Lib.hid (And.intro hown3 (And.intro hne2 hB2))
            clear hown hown2 hown3 hgrow hB2 hnil hne2
            go_wp2
            go_roundw
            case rel => exact ⟨pre ++ [(s, q)], (s2, q2) :: r, _, fr, _, HL.out.1, by first | (simp [hk]; done) | go_num, HL.out.2.2, hds, HL.out.2.1, H2.out.1, H2.out.2.1, H2.out.2.2.size, H2.out.2.2⟩
            case measure => simp [intOf]; omega
        | @rep c p e b fb r g2 d2 k2 n hc1 hc2 hn9 hp he hpt het Fb Fr =>
          have hlen : L.length = k + (b.length + r.length + 3) := by rw [hL]; simp [hk]; omega
          obtain ⟨s, q⟩ := c
          obtain ⟨s2, q2⟩ := p
          have hget : L[k]? = some (s, q) := by rw [hL, ← hk]; exact get_at
          have hget2 : L[k + 1]? = some (s2, q2) := by rw [hL, ← hk]; exact get_next
          have c1 : wr.cell? ⟨g, o + k * 2 + 1, none⟩ = some (.int .i64 q) := (hbel.cell (p := ⟨g, _, none⟩) hg).trans (HC.out.1 k s q hget).2
          have c2 : wr.cell? ⟨g, o + (k + 1) * 2, none⟩ = some (.string s2) := (hbel.cell (p := ⟨g, _, none⟩) hg).trans (HC.out.1 (k + 1) s2 q2 hget2).1
          have er : (s2.toList == [114, 101, 112, 101, 97, 116]) = true := hp
          have i1 : (k : Int) < (L.length : Int) := by omega
          have i2 : (k : Int) + 1 < (L.length : Int) := by omega
          simp only at hc2
          subst hc2
          have hend := end_at hL hk (by omega) (HR.out wr hbel) hp he Fb
          have HE := Lib.hid hend
          have HL := Lib.hid (And.intro hL (And.intro hf (And.intro Fb Fr)))
          have hkm : k + b.length + 3 ≤ L.length := by omega
          clear hend hL hf Fb Fr hget hget2 hc1 hp he hlen hpt het
          go_wp2_with fail
          ((with_reducible refine HE.out.mono ?_); rintro e2 w2 ⟨rfl, rfl⟩)
          go_wp2_with fail
          have hpart := Rdt.part (HR.out _ hbel) HL.out.1 hk
          have hb60 : b.length ≤ 60 := by omega
          have hd2 : d2 ≤ 3 := by omega
          have hfb : fb.length ≤ 43740 := by
            have h1 := fl_len HL.out.2.2.1
            have h2 : 9 ^ d2 ≤ 9 ^ 3 := Nat.pow_le_pow_right (by omega) hd2
            have h3 : b.length * 9 ^ d2 ≤ 60 * 9 ^ 3 := Nat.mul_le_mul hb60 h2
            omega
          ((with_reducible refine (HC.out.2 b.length (by omega) b fb d2 rfl hb60 hd2 HL.out.2.2.1 _ _ hpart).mono ?_); rintro e3 w3 ⟨vp, rfl, hpo, hpne, hb3⟩)
          have hown3 := owns_below hown hb3
          have HPN := Lib.hid hpne
          clear hpne
          have hap : ∀ q, u3.ownBlock = some q → vp.ownBlock ≠ some q := fun q hq hp => by
            have h1 := (hown.lt q hq).2
            have h2 := (hpo.lt q hp).1
            omega
          have hB3 := on_of hbel hb3
          have hs2 := hbel.size
          have hfn : fp.length + n * fb.length ≤ f.length := by rw [HL.out.2.1]; simp [rpt]
          have H3 := Lib.hid (And.intro hown3 (And.intro hpo (And.intro hap hB3)))
          clear hown hb3 hpo hap hB3 hown3 hpart c1 c2
          go_wp2_with fail
          go_loopw [3, 7] (fun v3 v7 wr2 => ∃ i : Nat, i ≤ n ∧ v7 = .int .i64 (i : Int) ∧ wr2.ownsRow w.heap.size 50 2 v3 (fp ++ rpt i fb).length (cellsL (fp ++ rpt i fb)) ∧ wr2.ownsRow w2.heap.size 50 2 vp fb.length (cellsL fb) ∧ (∀ q, v3.ownBlock = some q → vp.ownBlock ≠ some q) ∧ v3 ≠ .slice none 0 0 ∧ Below w.heap.size w wr2) (fun _ v7 _ => n - (intOf v7).toNat)
          case atStart => exact ⟨0, Nat.zero_le _, rfl, by simpa [rpt] using H3.out.1, H3.out.2.1, H3.out.2.2.1, HNE.out, H3.out.2.2.2⟩
          case round =>
            obtain ⟨i, hi, rfl, ho, hpo, hap, hvn, hb⟩ := hrel
            have hget : L[k]? = some (s, (n : Int)) := by rw [HL.out.1, ← hk]; exact get_at
            have c1 := ((hb.cell (p := ⟨g, o + k * 2 + 1, none⟩) hg).trans (HC.out.1 k s (n : Int) hget).2)
            have hsz := hb.size
            clear hget
            by_cases hin : i < n
            · have j1 : (i : Int) < (n : Int) := by omega
              have hle : (i + 1) * fb.length ≤ n * fb.length := Nat.mul_le_mul_right _ hin
              have hlen : (fp ++ rpt i fb).length + fb.length ≤ 43740 := by
                have : (i + 1) * fb.length = i * fb.length + fb.length := Nat.succ_mul _ _
                simp [rpt]; omega
              rcases hpo.2 with ⟨hv, h0⟩ | ⟨gp, cp, cur, hv, _⟩
              · exact absurd hv HPN.out
              · subst hv
                have hpc := hpo.cells (g := gp) rfl
                have HP := Lib.hid (And.intro hpo (And.intro hap hpc))
                clear hpo hap hpc
                go_wp2_with (at_builtin; refine wpList_append_own_at _ rfl _ _ 59 rfl w.heap.size 50 i0 (.agg #[.string ⟨#[]⟩, .int .i64 0]) 2 24 Tryz.underlying59 hi0 hz0 hz1 hz2 rfl (by decide) _ _ _ rfl ho ⟨gp, 0, none⟩ fb.length cp (cellsL fb) rfl (cellsL_len fb) HP.out.2.2 (cellsL_one fb) ?d3 ?d4 ?d5 ?_)
                case d3 => unfold maxLen; omega
                case d4 => omega
                case d5 => omega
                intro v2 w5 ho5 hgrow hnil hloc
                have hn5 : v2 ≠ .slice none 0 0 := hnil
                have hB5 : Below w.heap.size w w5 := hb.grown hgrow (by omega) (fun q hq => (ho.lt q hq).1)
                have hpo5 : w5.ownsRow w2.heap.size 50 2 (.slice (some ⟨gp, 0, none⟩) fb.length cp) fb.length (cellsL fb) := HP.out.1.kept hgrow (.inr fun e => HP.out.2.1 gp e.symm rfl)
                have hap5 : ∀ q, v2.ownBlock = some q → (Value.slice (some ⟨gp, 0, none⟩) fb.length cp).ownBlock ≠ some q := fun q hq hp => by
                  have hgp := (HP.out.1.lt gp rfl).2
                  rcases hloc with h | h
                  · rw [h] at hq; exact HP.out.2.1 q hq hp
                  · rw [h] at hq
                    simp only [Value.ownBlock, Option.some.injEq] at hp hq
                    omega
                have ho6 : w5.ownsRow w.heap.size 50 2 v2 (fp ++ rpt (i + 1) fb).length (cellsL (fp ++ rpt (i + 1) fb)) := by
                  rw [rpt_succ, ← List.append_assoc, cellsL_append, List.length_append, List.length_append]; exact ho5
                have H5 := Lib.hid (And.intro ho6 (And.intro hpo5 (And.intro hap5 (And.intro hn5 hB5))))
                clear ho ho5 ho6 hgrow hloc hnil hn5 hB5 hpo5 hap5 hvn
                go_wp2
                go_roundw
                case rel => exact ⟨i + 1, by omega, by go_num, H5.out.1, H5.out.2.1, H5.out.2.2.1, H5.out.2.2.2.1, H5.out.2.2.2.2⟩
                case measure => simp [intOf]; omega
            · obtain rfl : i = n := by omega
              have H6 := Lib.hid (And.intro ho (And.intro hvn hb))
              clear ho hvn hpo hap
              go_wp2
              go_roundw
              case rel => exact ⟨pre ++ (s, (i : Int)) :: (s2, q2) :: (b ++ [e]), r, fp ++ rpt i fb, g2, k2, by rw [HL.out.1]; simp, by first | go_num | (simp [hk]; done), HL.out.2.2.2, by omega, by rw [HL.out.2.1]; simp, H6.out.1, H6.out.2.1, H6.out.2.2.size, H6.out.2.2⟩
              case measure => simp [intOf]; omega
end Go.Proofs.YtnkookegoicfnaaGreat.Blk

