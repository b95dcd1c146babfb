/-
  Texts of this seat, laid together: Rl10
-/
import Derived.Test.YtifmdgncgokikaaP37
import Derived.Test.YtifmdgncgokikaaP38
namespace Go.Proofs.Ytifmdgncgokikaa.Ins
open Go.ChangeShapes Go.WideShapes Go.ChangeAt Go.RowKit
open Kit Point
open Go.Proofs.Ytifmdgncgokikaa.Own (Ob grayB)
set_option linter.unusedVariables false
set_option linter.unusedSimpArgs false
set_option linter.unnecessarySimpa false
theorem acc_mn_ge {X : Nat → Int} {A : Int} : ∀ {n : Nat}, 0 < n → (∀ k, k < n → A ≤ X k) → A ≤ Pts.acc mn X n
  | 0, h, _ => by omega
  | m + 1, _, h => by
    show A ≤ min (Pts.acc mn X m) (X m)
    have h1 := acc_lo (X := X) (A := A) m (fun k hk => h k (by omega))
    have h2 := h m (by omega)
    omega
theorem acc_mx_le {X : Nat → Int} {A : Int} : ∀ {n : Nat}, 0 < n → (∀ k, k < n → X k ≤ A) → Pts.acc mx X n ≤ A
  | 0, h, _ => by omega
  | m + 1, _, h => by
    show max (Pts.acc mx X m) (X m) ≤ A
    have h1 := acc_hi (X := X) (A := A) m (fun k hk => h k (by omega))
    have h2 := h m (by omega)
    omega
theorem shp_at {l : List Pt} (h : Shp l) {k : Nat} (hk : k < l.length) : (-4 ≤ pX l k ∧ pX l k ≤ 36) ∧ (-4 ≤ pY l k ∧ pY l k ≤ 36) := by
  have := h _ (List.getElem_mem hk)
  rw [getp l hk] at this
  unfold Draw.InPage at this
  exact this
theorem shp_pts {l : List Pt} (h : Shp l) : ptsB l = true := by
  rw [ptsB, List.all_eq_true]
  intro p hp
  have := h p hp
  unfold Draw.InPage at this
  simp [pokB, inB]; omega
structure PbIs (l : List Pt) (b : Bx) : Prop where
  bd : -4 ≤ b.x0 ∧ b.x0 ≤ b.x1 ∧ b.x1 ≤ 36 ∧ -4 ≤ b.y0 ∧ b.y0 ≤ b.y1 ∧ b.y1 ≤ 36
  pt : ∀ k, k < l.length → (b.x0 ≤ pX l k ∧ pX l k ≤ b.x1) ∧ (b.y0 ≤ pY l k ∧ pY l k ≤ b.y1)
theorem pbx_is {l : List Pt} (h : Shp l) (h0 : 0 < l.length) : PbIs l (pbx l) := by
  unfold pbx
  rw [if_pos ⟨shp_pts h, h0⟩]
  have hp : ∀ k, k < l.length → (Pts.acc mn (pX l) l.length ≤ pX l k ∧ pX l k ≤ Pts.acc mx (pX l) l.length) ∧ (Pts.acc mn (pY l) l.length ≤ pY l k ∧ pY l k ≤ Pts.acc mx (pY l) l.length) := fun k hk =>
    ⟨⟨acc_mn _ _ k hk, acc_mx _ _ k hk⟩, ⟨acc_mn _ _ k hk, acc_mx _ _ k hk⟩⟩
  have e1 := acc_mn_ge (X := pX l) (A := -4) h0 (fun k hk => (shp_at h hk).1.1)
  have e2 := acc_mx_le (X := pX l) (A := 36) h0 (fun k hk => (shp_at h hk).1.2)
  have e3 := acc_mn_ge (X := pY l) (A := -4) h0 (fun k hk => (shp_at h hk).2.1)
  have e4 := acc_mx_le (X := pY l) (A := 36) h0 (fun k hk => (shp_at h hk).2.2)
  have := hp 0 h0
  exact ⟨⟨e1, by dsimp only; omega, e2, e3, by dsimp only; omega, e4⟩, hp⟩
theorem cols_none {l : List Pt} {y : Int} (h : (∀ k, k < l.length → y < pY l k) ∨ (∀ k, k < l.length → pY l k ≤ y)) : ∀ k, k ≤ l.length → colsK l y k = []
  | 0, _ => rfl
  | k + 1, hk => by
    have ih := cols_none h k (by omega)
    have hm : (k + 1) % l.length < l.length := Nat.mod_lt _ (by omega)
    have e : psg (sdk l k) y = false := by
      unfold psg sdk
      rcases h with h | h
      · have h1 := h k (by omega); have h2 := h _ hm
        simp only [decide_eq_false (show ¬ pY l k ≤ y by omega), decide_eq_false (show ¬ pY l ((k + 1) % l.length) ≤ y by omega)]; rfl
      · have h1 := h k (by omega); have h2 := h _ hm
        simp only [decide_eq_true h1, decide_eq_true h2]; rfl
    show (if psg (sdk l k) y then _ else colsK l y k) = []
    rw [e]; simpa using ih
theorem ins_rows {l : List Pt} {b : Bx} (hb : PbIs l b) {x y : Int} (hx : -200 ≤ x ∧ x ≤ 200) (h : insP l x y = true) : (b.x0 ≤ x ∧ x < b.x1) ∧ (b.y0 ≤ y ∧ y < b.y1) := by
  have hbd := hb.bd
  have e := cols_ins l (y := y) hx l.length (Nat.le_refl _)
  rw [insK_all, h] at e
  have hn : colsK l y l.length ≠ [] := fun e0 => by rw [e0] at e; simp [above] at e
  refine ⟨⟨?_, ?_⟩, ?_, ?_⟩
  · apply Classical.byContradiction; intro hc
    have := ins_out0 (l := l) (y := y) (x := x) (X0 := b.x0) (by omega) (by omega) (fun k hk => by have := hb.pt k hk; omega)
    rw [h] at this; cases this
  · apply Classical.byContradiction; intro hc
    have := ins_out (l := l) (y := y) (x := x) (X1 := b.x1) hx (by omega) (fun k hk => by have := hb.pt k hk; omega)
    rw [h] at this; cases this
  · apply Classical.byContradiction; intro hc
    exact hn (cols_none (.inl fun k hk => by have := hb.pt k hk; omega) _ (Nat.le_refl _))
  · apply Classical.byContradiction; intro hc
    exact hn (cols_none (.inr fun k hk => by have := hb.pt k hk; omega) _ (Nat.le_refl _))
theorem mtK_in (l : List Pt) (a b : Int) : ∀ k, ∀ q ∈ mtK l a b k, a ≤ q.1 ∧ q.2 ≤ b
  | 0, q, h => by simp [mtK] at h
  | k + 1, q, h => by
    have e : mtK l a b (k + 1) = if mx (pX l k) a < mn (pY l k) b then mtK l a b k ++ [(mx (pX l k) a, mn (pY l k) b)] else mtK l a b k := rfl
    rw [e] at h
    split at h
    · rcases List.mem_append.1 h with h | h
      · exact mtK_in l a b k q h
      · rw [List.mem_singleton.1 h]; unfold mx mn; dsimp only; omega
    · exact mtK_in l a b k q h
theorem sum_in : ∀ {l : List Pt} {A B : Int}, Sep l → A ≤ B → (∀ q ∈ l, A ≤ q.1 ∧ q.2 ≤ B) → 0 ≤ sumD l ∧ sumD l ≤ B - A
  | [], A, B, _, h, _ => by rw [sumD_nil]; omega
  | p :: r, A, B, hs, hA, h => by
    obtain ⟨h1, h2, h3⟩ := hs
    have hp := h p List.mem_cons_self
    have ih := sum_in (A := p.2) (B := B) h3 hp.2 (fun q hq => ⟨by have := h2 q hq; omega, (h q (List.mem_cons_of_mem _ hq)).2⟩)
    rw [sumD_cons]; omega
theorem sps_sep (l : List Pt) (y : Int) : okS (spsV l y) = true := by
  unfold spsV; split
  · exact (sep_iff _).2 (prs_sep (cols_sorted l y _))
  · rfl
theorem mt_in10 {m : List Pt} (h : spB m = true) (a b x : Int) : inS (mtV m a b) x = (inS m x && (decide (a ≤ x) && decide (x < b))) := by
  have h1 : okS m = true := by simp only [spB, Bool.and_eq_true] at h; exact h.2
  have hk := (mt_ok h1 a b m.length (Nat.le_refl _)).ins x
  rw [List.take_of_length_le (Nat.le_refl _)] at hk
  rw [mt_good a b h]; exact hk
theorem mt_dots10 {m : List Pt} (h : spB m = true) {a b : Int} (hab : a ≤ b ∧ b - a ≤ 1000) : 0 ≤ dtV (mtV m a b) ∧ dtV (mtV m a b) ≤ b - a := by
  have h1 : okS m = true := by simp only [spB, Bool.and_eq_true] at h; exact h.2
  have h8 : m.length ≤ 8 := by simp only [spB, Bool.and_eq_true, decide_eq_true_eq] at h; exact h.1
  have hM := mt_ok h1 a b m.length (Nat.le_refl _)
  have hi := mtK_in m a b m.length
  have hl := mtV_len m a b
  rw [mt_good a b h] at *
  have hs := sum_in hM.sep hab.1 hi
  have hok : spB (mtK m a b m.length) = true := by
    have := (sep_iff _).2 hM.sep
    simp [spB, this]; omega
  rw [dtV_sum (fun q hq => by have := hi q hq; have := hM.sep.pos q hq; omega) (by omega) hok]
  exact hs
/-! ### a drawn object -/
structure DrO (l : List Pt) (g x0 y0 x1 y1 : Int) : Prop where
  l3 : 3 ≤ l.length
  l6 : l.length ≤ 6
  S : Shp l
  G : 0 ≤ g ∧ g ≤ 255
  X : Draw.BoxIn x0 y0 x1 y1
variable {l : List Pt} {g x0 y0 x1 y1 : Int}
theorem DrO.ok (h : DrO l g x0 y0 x1 y1) : obK l g x0 y0 x1 y1 = true := by
  have h1 := shp_ok h.S (by have := h.l6; omega)
  have h3 := h.l3
  have hg := h.G
  have hX := h.X
  unfold Draw.BoxIn at hX
  simp [obK, h1, h3, grayB, bokB, inB]; omega
structure VbIs (l : List Pt) (x0 y0 x1 y1 : Int) (b : Bx) : Prop where
  bd : 0 ≤ b.x0 ∧ b.x0 ≤ b.x1 ∧ b.x1 ≤ 32 ∧ 0 ≤ b.y0 ∧ b.y0 ≤ b.y1 ∧ b.y1 ≤ 32
  sub : ∀ x y : Int, b.x0 ≤ x → x < b.x1 → b.y0 ≤ y → y < b.y1 → (x0 ≤ x ∧ x < x1) ∧ (y0 ≤ y ∧ y < y1)
  all : ∀ x y : Int, (0 ≤ x ∧ x < 32) → (0 ≤ y ∧ y < 32) → insP l x y = true → (x0 ≤ x ∧ x < x1) → (y0 ≤ y ∧ y < y1) → (b.x0 ≤ x ∧ x < b.x1) ∧ (b.y0 ≤ y ∧ y < b.y1)
theorem DrO.box (h : DrO l g x0 y0 x1 y1) : VbIs l x0 y0 x1 y1 (obx l g x0 y0 x1 y1) := by
  rw [obx_yes h.ok]
  have hP := pbx_is h.S (by have := h.l3; omega)
  have hX := h.X
  unfold Draw.BoxIn at hX
  have hin : ∀ x y : Int, (0 ≤ x ∧ x < 32) → insP l x y = true → ((pbx l).x0 ≤ x ∧ x < (pbx l).x1) ∧ ((pbx l).y0 ≤ y ∧ y < (pbx l).y1) := fun x y hx hi => ins_rows hP (by omega) hi
  have hbd := hP.bd
  unfold vis
  generalize pbx l = P at *
  clear hP
  have okP : P.ok = true := by simp [Bx.ok, bokB, inB]; omega
  have okC : (Bx.mk x0 y0 x1 y1).ok = true := by simp [Bx.ok, bokB, inB]; omega
  have okG : pgx.ok = true := by decide
  have key : ∀ (B D : Bx), B.ok = true → D.ok = true → (mtx B D = ⟨0, 0, 0, 0⟩ ∧ ¬ (mx B.x0 D.x0 < mn B.x1 D.x1 ∧ mx B.y0 D.y0 < mn B.y1 D.y1)) ∨ (mtx B D = ⟨mx B.x0 D.x0, mx B.y0 D.y0, mn B.x1 D.x1, mn B.y1 D.y1⟩ ∧ mx B.x0 D.x0 < mn B.x1 D.x1 ∧ mx B.y0 D.y0 < mn B.y1 D.y1) := fun B D h1 h2 => by
    unfold mtx
    by_cases hc : mx B.x0 D.x0 < mn B.x1 D.x1 ∧ mx B.y0 D.y0 < mn B.y1 D.y1
    · rw [if_pos ⟨h1, h2, hc⟩]; exact .inr ⟨rfl, hc⟩
    · rw [if_neg (fun h => hc h.2.2)]; exact .inl ⟨rfl, hc⟩
  rcases key P ⟨x0, y0, x1, y1⟩ okP okC with ⟨e, hc⟩ | ⟨e, hc⟩
  · rw [e]
    have e2 : mtx ⟨0, 0, 0, 0⟩ pgx = ⟨0, 0, 0, 0⟩ := by
      rcases key ⟨0, 0, 0, 0⟩ pgx (by decide) okG with ⟨e2, _⟩ | ⟨_, h1, _⟩
      · exact e2
      · simp only [pgx] at h1; unfold mx mn at h1; omega
    rw [e2]
    refine ⟨by dsimp only; omega, fun x y h1 h2 h3 h4 => by dsimp only at *; omega, fun x y hx hy hi h1 h2 => ?_⟩
    have := hin x y hx hi
    exfalso
    apply hc
    unfold mx mn; dsimp only; omega
  · have okM : (mtx P ⟨x0, y0, x1, y1⟩).ok = true := by
      rcases mtx_is P ⟨x0, y0, x1, y1⟩ with h | h
      · rw [e] at h; injection h with a1 a2 a3 a4; dsimp only at *; omega
      · exact h.2.2
    rw [e] at okM ⊢
    rcases key _ pgx okM okG with ⟨e2, hc2⟩ | ⟨e2, hc2⟩
    · rw [e2]
      refine ⟨by dsimp only; omega, fun x y h1 h2 h3 h4 => by dsimp only at *; omega, fun x y hx hy hi h1 h2 => ?_⟩
      have := hin x y hx hi
      exfalso
      apply hc2
      unfold mx mn pgx; dsimp only; omega
    · rw [e2]
      simp only [pgx] at hc2 ⊢
      unfold mx mn at *
      dsimp only at *
      refine ⟨by dsimp only; omega, fun x y h1 h2 h3 h4 => by dsimp only at *; omega, fun x y hx hy hi h1 h2 => ?_⟩
      have := hin x y hx hi
      dsimp only; omega
theorem DrO.row_in (h : DrO l g x0 y0 x1 y1) {x y : Int} (hx : 0 ≤ x ∧ x < 32) (hy : 0 ≤ y ∧ y < 32) : inS (orow l g x0 y0 x1 y1 y) x = (inpB l x y && Dot.inboxB x0 y0 x1 y1 x y) := by
  have hb := h.box
  have hX := h.X
  unfold Draw.BoxIn at hX
  have hC : bokB x0 y0 x1 y1 = true := by simp [bokB, inB]; omega
  have hs := sps_ins (x := x) (y := y) h.S h.l6 (by omega) (by omega)
  have hok := sps_okB (y := y) h.l6
  have hi : inpB l x y = true → insP l x y = true := fun e => by simp only [inpB, Bool.and_eq_true] at e; exact e.2
  unfold orow
  generalize obx l g x0 y0 x1 y1 = b at *
  simp only [Dot.inboxB, hC, Bool.true_and]
  by_cases hr : b.y0 ≤ y ∧ y < b.y1
  · rw [if_pos hr, mt_in10 hok, ← hs]
    cases e : inpB l x y
    · simp
    · rw [Bool.true_and, Bool.true_and, ← Bool.decide_and, decide_eq_decide]
      constructor
      · intro h1
        have := hb.sub x y h1.1 h1.2 hr.1 hr.2
        omega
      · intro h1
        exact (hb.all x y hx hy (hi e) (by omega) (by omega)).1
  · rw [if_neg hr, inS_nil]
    cases e : inpB l x y
    · simp
    · rw [Bool.true_and, eq_comm, decide_eq_false_iff_not]
      intro h1
      exact hr (hb.all x y hx hy (hi e) (by omega) (by omega)).2
theorem DrO.box_in (h : DrO l g x0 y0 x1 y1) {x y : Int} (hx : 0 ≤ x ∧ x < 32) (hy : 0 ≤ y ∧ y < 32) (hp : inpB l x y = true) (hc : Dot.inboxB x0 y0 x1 y1 x y = true) :
    Dot.inboxB (obx l g x0 y0 x1 y1).x0 (obx l g x0 y0 x1 y1).y0 (obx l g x0 y0 x1 y1).x1 (obx l g x0 y0 x1 y1).y1 x y = true := by
  have hb := h.box
  have hi : insP l x y = true := by simp only [inpB, Bool.and_eq_true] at hp; exact hp.2
  generalize obx l g x0 y0 x1 y1 = b at *
  simp only [Dot.inboxB, Bool.and_eq_true, decide_eq_true_eq] at hc ⊢
  have h1 := hb.all x y hx hy hi (by omega) (by omega)
  have h2 := hb.bd
  refine ⟨?_, by omega⟩
  simp [bokB, inB]; omega
theorem DrO.row_dots (h : DrO l g x0 y0 x1 y1) (y : Int) : 0 ≤ dtV (orow l g x0 y0 x1 y1 y) ∧
    ((obx l g x0 y0 x1 y1).y0 ≤ y ∧ y < (obx l g x0 y0 x1 y1).y1 → dtV (orow l g x0 y0 x1 y1 y) ≤ (obx l g x0 y0 x1 y1).x1 - (obx l g x0 y0 x1 y1).x0) ∧
    (¬ ((obx l g x0 y0 x1 y1).y0 ≤ y ∧ y < (obx l g x0 y0 x1 y1).y1) → dtV (orow l g x0 y0 x1 y1 y) = 0) := by
  have hb := h.box.bd
  have hok := sps_okB (y := y) h.l6
  unfold orow
  generalize obx l g x0 y0 x1 y1 = b at *
  by_cases hr : b.y0 ≤ y ∧ y < b.y1
  · rw [if_pos hr]
    have := mt_dots10 hok (a := b.x0) (b := b.x1) (by omega)
    exact ⟨this.1, fun _ => this.2, fun h => absurd hr h⟩
  · rw [if_neg hr]
    exact ⟨by decide, fun h => absurd h hr, fun _ => by decide⟩
theorem odK_le {f : Nat → Int} {W Y0 Y1 : Int} (hW : 0 ≤ W ∧ W ≤ 32) (hY : 0 ≤ Y0 ∧ Y0 ≤ Y1 ∧ Y1 ≤ 32) (hf : ∀ k : Nat, 0 ≤ f k ∧ (Y0 ≤ (k : Int) ∧ (k : Int) < Y1 → f k ≤ W) ∧ (¬ (Y0 ≤ (k : Int) ∧ (k : Int) < Y1) → f k = 0)) :
    ∀ k : Nat, k ≤ 32 → 0 ≤ odK f k ∧ odK f k ≤ 32 * (k : Int) ∧ odK f k ≤ W * ((if (k : Int) < Y0 then Y0 else if (k : Int) < Y1 then (k : Int) else Y1) - Y0)
  | 0, _ => by
    refine ⟨Int.le_refl _, Int.le_refl _, ?_⟩
    show (0 : Int) ≤ _
    refine Int.mul_nonneg hW.1 ?_
    split <;> (try split) <;> omega
  | k + 1, hk => by
    obtain ⟨h1, h2, h3⟩ := odK_le hW hY hf k (by omega)
    obtain ⟨f0, f1, f2⟩ := hf k
    have fb : f k ≤ 32 := by
      by_cases hr : Y0 ≤ (k : Int) ∧ (k : Int) < Y1
      · have := f1 hr; omega
      · have := f2 hr; omega
    have e : odK f (k + 1) = odK f k + f k := by
      show IntKind.i64.wrap (odK f k + f k) = _
      rw [IntKind.wrap_i64]; omega
    rw [e]
    refine ⟨by omega, by omega, ?_⟩
    by_cases hr : Y0 ≤ (k : Int) ∧ (k : Int) < Y1
    · have hm := f1 hr
      have e1 : ((if (k : Int) < Y0 then Y0 else if (k : Int) < Y1 then (k : Int) else Y1) - Y0) = (k : Int) - Y0 := by rw [if_neg (by omega), if_pos (by omega)]
      have e2 : ((if ((k + 1 : Nat) : Int) < Y0 then Y0 else if ((k + 1 : Nat) : Int) < Y1 then ((k + 1 : Nat) : Int) else Y1) - Y0) = (k : Int) - Y0 + 1 := by
        rw [if_neg (by omega)]; split <;> omega
      rw [e1] at h3
      rw [e2, Int.mul_add, Int.mul_one]
      omega
    · have hm := f2 hr
      have e2 : ((if ((k + 1 : Nat) : Int) < Y0 then Y0 else if ((k + 1 : Nat) : Int) < Y1 then ((k + 1 : Nat) : Int) else Y1) - Y0) = ((if (k : Int) < Y0 then Y0 else if (k : Int) < Y1 then (k : Int) else Y1) - Y0) := by
        split <;> (try split) <;> (try split) <;> (try split) <;> omega
      rw [e2, hm]
      omega
theorem DrO.sum (h : DrO l g x0 y0 x1 y1) : odV l g x0 y0 x1 y1 ≤ Box.dots (obx l g x0 y0 x1 y1).x0 (obx l g x0 y0 x1 y1).y0 (obx l g x0 y0 x1 y1).x1 (obx l g x0 y0 x1 y1).y1 := by
  have hb := h.box.bd
  have hr := fun k : Nat => h.row_dots (k : Int)
  unfold odV
  generalize obx l g x0 y0 x1 y1 = b at *
  have := (odK_le (f := fun k => dtV (orow l g x0 y0 x1 y1 (k : Int))) (W := b.x1 - b.x0) (Y0 := b.y0) (Y1 := b.y1) (by omega) (by omega) hr 32 (Nat.le_refl _)).2.2
  have hok : bokB b.x0 b.y0 b.x1 b.y1 = true := by simp [bokB, inB]; omega
  unfold Box.dots
  rw [if_pos hok]
  have e : ((if ((32 : Nat) : Int) < b.y0 then b.y0 else if ((32 : Nat) : Int) < b.y1 then ((32 : Nat) : Int) else b.y1) - b.y0) = b.y1 - b.y0 := by
    split <;> (try split) <;> omega
  rw [e] at this
  exact this
/-! ### moving -/
structure Nice (o : Ob) (N : Int) : Prop where
  l3 : 3 ≤ o.path.length
  l8 : o.path.length ≤ 8
  pt : ∀ p ∈ o.path, (-N ≤ p.1 ∧ p.1 ≤ N) ∧ (-N ≤ p.2 ∧ p.2 ≤ N)
  G : 0 ≤ o.gray ∧ o.gray ≤ 255
  X : -N ≤ o.x0 ∧ o.x0 ≤ o.x1 ∧ o.x1 ≤ N ∧ -N ≤ o.y0 ∧ o.y0 ≤ o.y1 ∧ o.y1 ≤ N
theorem Nice.ok {o : Ob} {N : Int} (h : Nice o N) (hN : N ≤ 200) : Own.obB o = true := by
  have h1 : ptsB o.path = true := by
    rw [ptsB, List.all_eq_true]; intro p hp
    have := h.pt p hp
    simp [pokB, inB]; omega
  have hX := h.X
  have hg := h.G
  have h3 := h.l3
  have h8 := h.l8
  rw [obK_is]
  simp [obK, pathB, h1, h3, h8, grayB, bokB, inB]; omega
theorem Nice.mv {o : Ob} {N : Int} (h : Nice o N) (hN : N ≤ 150) {dx dy : Int} (hx : -1 ≤ dx ∧ dx ≤ 1) (hy : -1 ≤ dy ∧ dy ≤ 1) : Nice (mvO o dx dy) (N + 1) := by
  have hX := h.X
  have e : (mvO o dx dy).path = o.path.map (Ins.mv (dx, dy)) := by
    show shV o.path (dx, dy) = _
    refine shV_good (by simp [inB]; omega) (by simp [inB]; omega) fun k hk => ?_
    have := h.pt _ (List.getElem_mem hk)
    simp [shB, pokB, inB]; omega
  have w : ∀ a d : Int, -150 ≤ a ∧ a ≤ 150 → -1 ≤ d ∧ d ≤ 1 → IntKind.i64.wrap (a + d) = a + d := fun a d _ _ => by rw [IntKind.wrap_i64]; omega
  refine ⟨by rw [e, List.length_map]; exact h.l3, by rw [e, List.length_map]; exact h.l8, ?_, h.G, ?_⟩
  · rw [e]
    intro p hp
    obtain ⟨q, hq, rfl⟩ := List.mem_map.1 hp
    have := h.pt q hq
    unfold Ins.mv; dsimp only; omega
  · show _ ∧ _ ∧ _ ∧ _ ∧ _ ∧ _
    unfold mvO; dsimp only
    rw [w _ _ (by omega) hx, w _ _ (by omega) hy, w _ _ (by omega) hx, w _ _ (by omega) hy]; omega
theorem Nice.moved {o : Ob} {N : Int} (h : Nice o N) (hN : N ≤ 150) {dx dy : Int} (hx : -1 ≤ dx ∧ dx ≤ 1) (hy : -1 ≤ dy ∧ dy ≤ 1) : mvB o dx dy = true ∧ mvR o dx dy = mvO o dx dy := by
  have e : mvB o dx dy = true := by rw [mvB, h.ok (by omega), (h.mv hN hx hy).ok (by omega)]; rfl
  exact ⟨e, by rw [mvR, e]; rfl⟩
theorem DrO.nice (h : DrO l g x0 y0 x1 y1) : Nice ⟨l, g, x0, y0, x1, y1⟩ 36 := by
  have hX := h.X
  unfold Draw.BoxIn at hX
  refine ⟨h.l3, by have := h.l6; show l.length ≤ 8; omega, fun p hp => ?_, h.G, by dsimp only; omega⟩
  have := h.S p hp
  unfold Draw.InPage at this
  omega
end Go.Proofs.Ytifmdgncgokikaa.Ins
