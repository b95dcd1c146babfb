/-
  ApplyTurn (program and model): what each call returns and that nothing that was there has turned; no condition.
-/
import Derived.Test.YtohoelpfmbbdaaaTurn
namespace Go.Proofs.Ytohoelpfmbbdaaa.Apply
open Go.ChangeShapes Go.WideShapes Go.ChangeAt Go.RowKit
open Kit Point Turn
set_option linter.unusedVariables false
set_option linter.unusedSimpArgs false
set_option linter.unnecessarySimpa false

/-- Is the image taken? And the point that comes out. -/
def appB (q s dx dy x y : Int) : Bool := tokB q s dx dy && pokB x y && pokB (imX q s dx x y) (imY q s dy x y)
def apX (q s dx dy x y : Int) : Int := if appB q s dx dy x y = true then imX q s dx x y else x
def apY (q s dx dy x y : Int) : Int := if appB q s dx dy x y = true then imY q s dy x y else y

theorem pok_true {x y : Int} (h : pokB x y = true) : (-200 ≤ x ∧ x ≤ 200) ∧ (-200 ≤ y ∧ y ≤ 200) := by
  simp only [pokB, Bool.and_eq_true] at h; exact ⟨inB_true h.1, inB_true h.2⟩

theorem ap_yes {q s dx dy x y a b : Int} (h1 : tokB q s dx dy = true) (h2 : pokB x y = true) (ha : imX q s dx x y = a) (hb : imY q s dy x y = b) (h3 : pokB a b = true) : Ending.returned (.agg #[.int .i64 a, .int .i64 b]) = .returned (.agg #[.int .i64 (apX q s dx dy x y), .int .i64 (apY q s dx dy x y)]) := by
  have : appB q s dx dy x y = true := by simp only [appB, h1, h2, ha, hb, h3, Bool.and_self]
  simp only [apX, apY, this, if_true, ha, hb]

theorem ap_no {q s dx dy x y : Int} (h : appB q s dx dy x y = false) : Ending.returned (.agg #[.int .i64 x, .int .i64 y]) = .returned (.agg #[.int .i64 (apX q s dx dy x y), .int .i64 (apY q s dx dy x y)]) := by
  simp [apX, apY, h]

theorem ap_no3 {q s dx dy x y a b : Int} (ha : imX q s dx x y = a) (hb : imY q s dy x y = b) (h3 : pokB a b = false) : Ending.returned (.agg #[.int .i64 x, .int .i64 y]) = .returned (.agg #[.int .i64 (apX q s dx dy x y), .int .i64 (apY q s dx dy x y)]) :=
  ap_no (by simp [appB, ha, hb, h3])

/-- The image by its numbers, as letters. -/
theorem image_impl_at (q s dx dy x y a b : Int) (w : World) (ht : tokB q s dx dy = true) (hp : pokB x y = true) (ha : imX q s dx x y = a) (hb : imY q s dy x y = b) :
    Calls Try.prog 31 #[.agg #[.int .i64 q, .int .i64 s, .int .i64 dx, .int .i64 dy], .agg #[.int .i64 x, .int .i64 y]] w fun e w' => e = .returned (.agg #[.int .i64 a, .int .i64 b]) ∧ Below w.heap.size w w' := by
  rw [← ha, ← hb]; exact image_impl q s dx dy x y w ht (pok_true hp).1 (pok_true hp).2
theorem image_spec_at (q s dx dy x y a b : Int) (w : World) (ht : tokB q s dx dy = true) (hp : pokB x y = true) (ha : imX q s dx x y = a) (hb : imY q s dy x y = b) :
    Calls Try.prog 36 #[.agg #[.int .i64 q, .int .i64 s, .int .i64 dx, .int .i64 dy], .agg #[.int .i64 x, .int .i64 y]] w fun e w' => e = .returned (.agg #[.int .i64 a, .int .i64 b]) ∧ Below w.heap.size w w' := by
  rw [← ha, ← hb]; exact image_spec q s dx dy x y w ht (pok_true hp).1 (pok_true hp).2

/-- The blocks that the call makes first: the transformation, the point, the result. -/
theorem Two.keep {w w' : World} {b B : Nat} {x y : Int} (h : Two w b x y) (hb : Below B w w') (hl : b < B) : Two w' b x y :=
  ⟨(hb.cell (p := ⟨b, 0, none⟩) hl).trans h.c0, (hb.cell (p := ⟨b, 1, none⟩) hl).trans h.c1, fun o => (hb.frozen (p := ⟨b, o, none⟩) hl).trans (h.fr o)⟩

structure Three (w0 w : World) (q s dx dy x y : Int) : Prop where
  t : Four w w0.heap.size q s dx dy
  p : Two w (w0.heap.size + 1) x y
  r : Two w (w0.heap.size + 1 + 1) 0 0
  b : Below w0.heap.size w0 w

theorem Three.start (w : World) (q s dx dy x y : Int) (T T' : TypeId) : Three w (((w.alloc (.cells #[.int .i64 q, .int .i64 s, .int .i64 dx, .int .i64 dy] T)).alloc (.cells #[.int .i64 x, .int .i64 y] T')).alloc (.cells #[.int .i64 0, .int .i64 0] T')) q s dx dy x y := by
  refine ⟨((Four.new w T q s dx dy).alloc _).alloc _, ?_, ?_, by go_grown⟩
  · have := (Two.new (w.alloc (.cells #[.int .i64 q, .int .i64 s, .int .i64 dx, .int .i64 dy] T)) T' x y).alloc (.cells #[.int .i64 0, .int .i64 0] T')
    simpa using this
  · have := Two.new ((w.alloc (.cells #[.int .i64 q, .int .i64 s, .int .i64 dx, .int .i64 dy] T)).alloc (.cells #[.int .i64 x, .int .i64 y] T')) T' 0 0
    simpa using this

theorem Three.on {w0 w w' : World} {q s dx dy x y : Int} (h : Three w0 w q s dx dy x y) (hb : Below w.heap.size w w') : Three w0 w' q s dx dy x y :=
  ⟨h.t.keep hb h.t.lt, Two.keep h.p hb h.p.lt, Two.keep h.r hb h.r.lt, on_of h.b hb⟩

theorem Three.lay {w0 w : World} {q s dx dy x y : Int} (h : Three w0 w q s dx dy x y) : 
    (w.cell? ⟨w0.heap.size, 0, none⟩ = some (.int .i64 q) ∧ w.cell? ⟨w0.heap.size, 1, none⟩ = some (.int .i64 s) ∧ w.cell? ⟨w0.heap.size, 2, none⟩ = some (.int .i64 dx) ∧ w.cell? ⟨w0.heap.size, 3, none⟩ = some (.int .i64 dy) ∧ (∀ o, w.frozen? ⟨w0.heap.size, o, none⟩ = false)) ∧
    (w.cell? ⟨w0.heap.size + 1, 0, none⟩ = some (.int .i64 x) ∧ w.cell? ⟨w0.heap.size + 1, 1, none⟩ = some (.int .i64 y) ∧ (∀ o, w.frozen? ⟨w0.heap.size + 1, o, none⟩ = false)) ∧
    (w.cell? ⟨w0.heap.size + 1 + 1, 0, none⟩ = some (.int .i64 0) ∧ w.cell? ⟨w0.heap.size + 1 + 1, 1, none⟩ = some (.int .i64 0) ∧ (∀ o, w.frozen? ⟨w0.heap.size + 1 + 1, o, none⟩ = false)) :=
  ⟨⟨h.t.c0, h.t.c1, h.t.c2, h.t.c3, h.t.fr⟩, ⟨h.p.c0, h.p.c1, h.p.fr⟩, ⟨h.r.c0, h.r.c1, h.r.fr⟩⟩

set_option maxHeartbeats 1000000 in
theorem apply_impl (q s dx dy x y : Int) (w : World) :
    Calls Try.prog 13 #[.agg #[.int .i64 q, .int .i64 s, .int .i64 dx, .int .i64 dy], .agg #[.int .i64 x, .int .i64 y]] w fun e w' => e = .returned (.agg #[.int .i64 (apX q s dx dy x y), .int .i64 (apY q s dx dy x y)]) ∧ Below w.heap.size w w' := by
  have F0 := Three.start w q s dx dy x y 25 27
  have G0 := Lib.hid F0
  clear F0
  cases h1 : tokB q s dx dy
  · go_enter Try.func13, Try.ntmps13
    go_wp2_with fail
    (refine (turn_impl _ _ _ _ _).mono ?_; rintro e w1 ⟨rfl, hb1⟩)
    have F1 := G0.out.on hb1
    have hB1 := F1.b
    obtain ⟨⟨a0, a1, a2, a3, a4⟩, ⟨b0, b1, b2⟩, ⟨c0, c1, c2⟩⟩ := F1.lay
    clear F1
    go_wp2_with fail
    refine bodyPost_ret (by simp [results, Try.results13, go_sem, *]; try rfl) rfl ?_
    exact ⟨ap_no (by simp [appB, h1]), by go_grown⟩
  · cases h2 : pokB x y
    · go_enter Try.func13, Try.ntmps13
      go_wp2_with fail
      (refine (turn_impl _ _ _ _ _).mono ?_; rintro e w1 ⟨rfl, hb1⟩)
      have F1 := G0.out.on hb1
      have G1 := Lib.hid F1
      obtain ⟨⟨a0, a1, a2, a3, a4⟩, ⟨b0, b1, b2⟩, ⟨c0, c1, c2⟩⟩ := F1.lay
      clear F1 hb1
      go_wp2_with fail
      (refine (pok_impl _ _ _).mono ?_; rintro e w2 ⟨rfl, hb2⟩)
      have F2 := G1.out.on hb2
      have hB2 := F2.b
      obtain ⟨⟨a0, a1, a2, a3, a4⟩, ⟨b0, b1, b2⟩, ⟨c0, c1, c2⟩⟩ := F2.lay
      clear F2 hb2
      go_wp2_with fail
      refine bodyPost_ret (by simp [results, Try.results13, go_sem, *]; try rfl) rfl ?_
      exact ⟨ap_no (by simp [appB, h2]), by go_grown⟩
    · obtain ⟨a, ha⟩ : ∃ a, imX q s dx x y = a := ⟨_, rfl⟩
      obtain ⟨b, hb⟩ : ∃ b, imY q s dy x y = b := ⟨_, rfl⟩
      have HI := Lib.hid (And.intro ha hb)
      clear ha hb
      cases h3 : pokB a b
      all_goals
        go_enter Try.func13, Try.ntmps13
        go_wp2_with fail
        (refine (turn_impl _ _ _ _ _).mono ?_; rintro e w1 ⟨rfl, hb1⟩)
        have F1 := G0.out.on hb1
        have G1 := Lib.hid F1
        obtain ⟨⟨a0, a1, a2, a3, a4⟩, ⟨b0, b1, b2⟩, ⟨c0, c1, c2⟩⟩ := F1.lay
        clear F1 hb1
        go_wp2_with fail
        (refine (pok_impl _ _ _).mono ?_; rintro e w2 ⟨rfl, hb2⟩)
        have F2 := G1.out.on hb2
        have G2 := Lib.hid F2
        obtain ⟨⟨a0, a1, a2, a3, a4⟩, ⟨b0, b1, b2⟩, ⟨c0, c1, c2⟩⟩ := F2.lay
        clear F2 hb2
        go_wp2_with fail
        (refine (image_impl_at _ _ _ _ _ _ _ _ _ h1 h2 HI.out.1 HI.out.2).mono ?_; rintro e w3 ⟨rfl, hb3⟩)
        have F3 := G2.out.on hb3
        have F3' := F3.on ((Below.refl _ _).alloc (Nat.le_refl _) (.cells #[.int .i64 a, .int .i64 b] 27))
        have P3 := Two.new w3 27 a b
        have G3 := Lib.hid (And.intro F3' P3)
        obtain ⟨⟨a0, a1, a2, a3, a4⟩, ⟨b0, b1, b2⟩, ⟨c0, c1, c2⟩⟩ := F3.lay
        clear F3 F3' P3 hb3
        go_wp2_with fail
        (refine (pok_impl _ _ _).mono ?_; rintro e w4 ⟨rfl, hb4⟩)
        have F4 := G3.out.1.on hb4
        have P4 := Two.keep G3.out.2 hb4 G3.out.2.lt
        have hB4 := F4.b
        obtain ⟨⟨a0, a1, a2, a3, a4⟩, ⟨b0, b1, b2⟩, ⟨c0, c1, c2⟩⟩ := F4.lay
        obtain ⟨p0, p1, p2⟩ := P4
        clear F4 hb4
        go_wp2_with fail
        refine bodyPost_ret (by simp [results, Try.results13, go_sem, *]; try rfl) rfl ?_
      · exact ⟨ap_no3 HI.out.1 HI.out.2 h3, by go_grown⟩
      · exact ⟨ap_yes h1 h2 HI.out.1 HI.out.2 h3, by go_grown⟩

set_option maxHeartbeats 1000000 in
theorem apply_spec (q s dx dy x y : Int) (w : World) :
    Calls Try.prog 18 #[.agg #[.int .i64 q, .int .i64 s, .int .i64 dx, .int .i64 dy], .agg #[.int .i64 x, .int .i64 y]] w fun e w' => e = .returned (.agg #[.int .i64 (apX q s dx dy x y), .int .i64 (apY q s dx dy x y)]) ∧ Below w.heap.size w w' := by
  have F0 := Three.start w q s dx dy x y 25 27
  have G0 := Lib.hid F0
  clear F0
  cases h1 : tokB q s dx dy
  · go_enter Try.func18, Try.ntmps18
    go_wp2_with fail
    (refine (turn_spec _ _ _ _ _).mono ?_; rintro e w1 ⟨rfl, hb1⟩)
    have F1 := G0.out.on hb1
    have hB1 := F1.b
    obtain ⟨⟨a0, a1, a2, a3, a4⟩, ⟨b0, b1, b2⟩, ⟨c0, c1, c2⟩⟩ := F1.lay
    clear F1
    go_wp2_with fail
    refine bodyPost_ret (by simp [results, Try.results18, go_sem, *]; try rfl) rfl ?_
    exact ⟨ap_no (by simp [appB, h1]), by go_grown⟩
  · cases h2 : pokB x y
    · go_enter Try.func18, Try.ntmps18
      go_wp2_with fail
      (refine (turn_spec _ _ _ _ _).mono ?_; rintro e w1 ⟨rfl, hb1⟩)
      have F1 := G0.out.on hb1
      have G1 := Lib.hid F1
      obtain ⟨⟨a0, a1, a2, a3, a4⟩, ⟨b0, b1, b2⟩, ⟨c0, c1, c2⟩⟩ := F1.lay
      clear F1 hb1
      go_wp2_with fail
      (refine (pok_spec _ _ _).mono ?_; rintro e w2 ⟨rfl, hb2⟩)
      have F2 := G1.out.on hb2
      have hB2 := F2.b
      obtain ⟨⟨a0, a1, a2, a3, a4⟩, ⟨b0, b1, b2⟩, ⟨c0, c1, c2⟩⟩ := F2.lay
      clear F2 hb2
      go_wp2_with fail
      refine bodyPost_ret (by simp [results, Try.results18, go_sem, *]; try rfl) rfl ?_
      exact ⟨ap_no (by simp [appB, h2]), by go_grown⟩
    · obtain ⟨a, ha⟩ : ∃ a, imX q s dx x y = a := ⟨_, rfl⟩
      obtain ⟨b, hb⟩ : ∃ b, imY q s dy x y = b := ⟨_, rfl⟩
      have HI := Lib.hid (And.intro ha hb)
      clear ha hb
      cases h3 : pokB a b
      · go_enter Try.func18, Try.ntmps18
        go_wp2_with fail
        (refine (turn_spec _ _ _ _ _).mono ?_; rintro e w1 ⟨rfl, hb1⟩)
        have F1 := G0.out.on hb1
        have G1 := Lib.hid F1
        obtain ⟨⟨a0, a1, a2, a3, a4⟩, ⟨b0, b1, b2⟩, ⟨c0, c1, c2⟩⟩ := F1.lay
        clear F1 hb1
        go_wp2_with fail
        (refine (pok_spec _ _ _).mono ?_; rintro e w2 ⟨rfl, hb2⟩)
        have F2 := G1.out.on hb2
        have G2 := Lib.hid F2
        obtain ⟨⟨a0, a1, a2, a3, a4⟩, ⟨b0, b1, b2⟩, ⟨c0, c1, c2⟩⟩ := F2.lay
        clear F2 hb2
        go_wp2_with fail
        (refine (image_spec_at _ _ _ _ _ _ _ _ _ h1 h2 HI.out.1 HI.out.2).mono ?_; rintro e w3 ⟨rfl, hb3⟩)
        have F3 := G2.out.on hb3
        have G3 := Lib.hid F3
        obtain ⟨⟨a0, a1, a2, a3, a4⟩, ⟨b0, b1, b2⟩, ⟨c0, c1, c2⟩⟩ := F3.lay
        clear F3 hb3
        go_wp2_with fail
        (refine (pok_spec _ _ _).mono ?_; rintro e w4 ⟨rfl, hb4⟩)
        have F4 := G3.out.on hb4
        have hB4 := F4.b
        obtain ⟨⟨a0, a1, a2, a3, a4⟩, ⟨b0, b1, b2⟩, ⟨c0, c1, c2⟩⟩ := F4.lay
        clear F4 hb4
        go_wp2_with fail
        refine bodyPost_ret (by simp [results, Try.results18, go_sem, *]; try rfl) rfl ?_
        exact ⟨ap_no3 HI.out.1 HI.out.2 h3, by go_grown⟩
      · go_enter Try.func18, Try.ntmps18
        go_wp2_with fail
        (refine (turn_spec _ _ _ _ _).mono ?_; rintro e w1 ⟨rfl, hb1⟩)
        have F1 := G0.out.on hb1
        have G1 := Lib.hid F1
        obtain ⟨⟨a0, a1, a2, a3, a4⟩, ⟨b0, b1, b2⟩, ⟨c0, c1, c2⟩⟩ := F1.lay
        clear F1 hb1
        go_wp2_with fail
        (refine (pok_spec _ _ _).mono ?_; rintro e w2 ⟨rfl, hb2⟩)
        have F2 := G1.out.on hb2
        have G2 := Lib.hid F2
        obtain ⟨⟨a0, a1, a2, a3, a4⟩, ⟨b0, b1, b2⟩, ⟨c0, c1, c2⟩⟩ := F2.lay
        clear F2 hb2
        go_wp2_with fail
        (refine (image_spec_at _ _ _ _ _ _ _ _ _ h1 h2 HI.out.1 HI.out.2).mono ?_; rintro e w3 ⟨rfl, hb3⟩)
        have F3 := G2.out.on hb3
        have G3 := Lib.hid F3
        obtain ⟨⟨a0, a1, a2, a3, a4⟩, ⟨b0, b1, b2⟩, ⟨c0, c1, c2⟩⟩ := F3.lay
        clear F3 hb3
        go_wp2_with fail
        (refine (pok_spec _ _ _).mono ?_; rintro e w4 ⟨rfl, hb4⟩)
        have F4 := G3.out.on hb4
        have G4 := Lib.hid F4
        obtain ⟨⟨a0, a1, a2, a3, a4⟩, ⟨b0, b1, b2⟩, ⟨c0, c1, c2⟩⟩ := F4.lay
        clear F4 hb4
        go_wp2_with fail
        (refine (image_spec_at _ _ _ _ _ _ _ _ _ h1 h2 HI.out.1 HI.out.2).mono ?_; rintro e w5 ⟨rfl, hb5⟩)
        have F5 := G4.out.on hb5
        have hB5 := F5.b
        obtain ⟨⟨a0, a1, a2, a3, a4⟩, ⟨b0, b1, b2⟩, ⟨c0, c1, c2⟩⟩ := F5.lay
        clear F5 hb5
        go_wp2_with fail
        refine bodyPost_ret (by simp [results, Try.results18, go_sem, *]; try rfl) rfl ?_
        exact ⟨ap_yes h1 h2 HI.out.1 HI.out.2 h3, by go_grown⟩

end Go.Proofs.Ytohoelpfmbbdaaa.Apply
