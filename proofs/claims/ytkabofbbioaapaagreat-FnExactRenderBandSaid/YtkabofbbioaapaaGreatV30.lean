/-
  Texts of this seat, laid together: Rw10
-/
import Derived.Test.YtkabofbbioaapaaGreatV18
import Derived.Test.YtkabofbbioaapaaGreatV23
import Derived.Test.YtkabofbbioaapaaGreatV27
import Derived.Test.YtkabofbbioaapaaGreatV25
import Derived.Test.YtkabofbbioaapaaGreatV29
namespace Go.Proofs.YtkabofbbioaapaaGreat.Ins
open Go.ChangeShapes Go.WideShapes Go.ChangeAt Go.RowKit
open Kit Point
open Go.Proofs.YtkabofbbioaapaaGreat.Own (Blk Ob grayB)
set_option linter.unusedVariables false
set_option linter.unusedSimpArgs false
set_option linter.unnecessarySimpa false
set_option maxRecDepth 100000
theorem run_outline (a : Option Addr) (n c : Nat) (g x0 y0 x1 y1 : Int) (w : World) : (Instr.field 136 (.agg #[.slice a n c, .int .i64 g, .int .i64 x0, .int .i64 y0, .int .i64 x1, .int .i64 y1]) 0).run Tryz.prog w = .ok (.slice a n c) w := by
  kernel_rfl
attribute [local go_sem ↓] run_outline
def orow (l : List Pt) (g x0 y0 x1 y1 y : Int) : List Pt :=
  if (obx l g x0 y0 x1 y1).y0 ≤ y ∧ y < (obx l g x0 y0 x1 y1).y1 then mtV (spsV l y) (obx l g x0 y0 x1 y1).x0 (obx l g x0 y0 x1 y1).x1 else []
structure RwS (W : World) (w : World) (GA GB : Nat) (a : Option Addr) (n c : Nat) (g x0 y0 x1 y1 : Int) (b : Bx) : Prop where
  A : Blk W GA [.slice a n c, .int .i64 g, .int .i64 x0, .int .i64 y0, .int .i64 x1, .int .i64 y1]
  F : Four W GB b.x0 b.y0 b.x1 b.y1
  B : Below w.heap.size w W
theorem RwS.on {W w V : World} {GA GB : Nat} {a : Option Addr} {n c : Nat} {g x0 y0 x1 y1 : Int} {b : Bx} (h : RwS W w GA GB a n c g x0 y0 x1 y1 b) (hb : Below W.heap.size W V) : RwS V w GA GB a n c g x0 y0 x1 y1 b :=
  ⟨h.A.keep hb, h.F.keep hb h.F.lt, on_of h.B hb⟩
theorem RwS.cells {W w : World} {GA GB : Nat} {a : Option Addr} {n c : Nat} {g x0 y0 x1 y1 : Int} {b : Bx} (h : RwS W w GA GB a n c g x0 y0 x1 y1 b) :
    W.cell? ⟨GA, 0, none⟩ = some (.slice a n c) ∧ W.cell? ⟨GA, 1, none⟩ = some (.int .i64 g) ∧ W.cell? ⟨GA, 2, none⟩ = some (.int .i64 x0) ∧ W.cell? ⟨GA, 3, none⟩ = some (.int .i64 y0) ∧ W.cell? ⟨GA, 4, none⟩ = some (.int .i64 x1) ∧ W.cell? ⟨GA, 5, none⟩ = some (.int .i64 y1) ∧
    W.cell? ⟨GB, 0, none⟩ = some (.int .i64 b.x0) ∧ W.cell? ⟨GB, 1, none⟩ = some (.int .i64 b.y0) ∧ W.cell? ⟨GB, 2, none⟩ = some (.int .i64 b.x1) ∧ W.cell? ⟨GB, 3, none⟩ = some (.int .i64 b.y1) ∧ GA < W.heap.size ∧ GB < W.heap.size :=
  ⟨h.A.1 0 _ rfl, h.A.1 1 _ rfl, h.A.1 2 _ rfl, h.A.1 3 _ rfl, h.A.1 4 _ rfl, h.A.1 5 _ rfl, h.F.c0, h.F.c1, h.F.c2, h.F.c3, h.A.2.2, h.F.lt⟩
theorem sp_low {W W' : World} {B : Nat} {m : List Pt} {u : Value} (h : W'.ownsRow W.heap.size 94 2 u m.length (cellsP m)) (hB : B ≤ W.heap.size) : W'.ownsRow B 94 2 u m.length (cellsP m) := Own.row_base h hB
theorem outl_sps (w : World) (a : Option Addr) (c : Nat) (l : List Pt) (y : Int) (hn : l.length ≤ 1048576) (h : PathAt w a l) :
    Calls Tryz.prog 104 #[.slice a l.length c, .int .i64 y] w (SpIs w (spsV l y)) := by
  have HC := Lib.hid (sa_impl w a c l y hn h)
  clear h hn
  go_enter Tryz.func104, Tryz.ntmps104
  go_wp2_with fail
  ((with_reducible refine HC.out.mono ?_); rintro e w1 ⟨v, rfl, hv, bb⟩)
  go_wp2
  go_ret
  exact ⟨v, rfl, hv, bb⟩
theorem mtx_is (b d : Bx) : mtx b d = ⟨0, 0, 0, 0⟩ ∨ ((mtx b d).x0 < (mtx b d).x1 ∧ (mtx b d).y0 < (mtx b d).y1 ∧ (mtx b d).ok = true) := by
  unfold mtx
  split
  · rename_i h
    obtain ⟨h1, h2, h3, h4⟩ := h
    refine .inr ⟨h3, h4, ?_⟩
    have r1 := bok_true h1
    have r2 := bok_true h2
    have m0 := mx_in (a := b.x0) (b := d.x0) (by omega) (by omega)
    have m1 := mx_in (a := b.y0) (b := d.y0) (by omega) (by omega)
    have m2 := mn_in (a := b.x1) (b := d.x1) (by omega) (by omega)
    have m3 := mn_in (a := b.y1) (b := d.y1) (by omega) (by omega)
    simp only [Bx.ok, bokB, inB, Bool.and_eq_true, decide_eq_true_eq]
    omega
  · exact .inl rfl
theorem obx_is (l : List Pt) (g x0 y0 x1 y1 : Int) : obx l g x0 y0 x1 y1 = ⟨0, 0, 0, 0⟩ ∨ ((obx l g x0 y0 x1 y1).x0 < (obx l g x0 y0 x1 y1).x1 ∧ (obx l g x0 y0 x1 y1).y0 < (obx l g x0 y0 x1 y1).y1 ∧ (obx l g x0 y0 x1 y1).ok = true) := by
  unfold obx
  split
  · exact mtx_is _ _
  · exact .inl rfl
theorem obx_flat (l : List Pt) (g x0 y0 x1 y1 y : Int) (h : Box.dots (obx l g x0 y0 x1 y1).x0 (obx l g x0 y0 x1 y1).y0 (obx l g x0 y0 x1 y1).x1 (obx l g x0 y0 x1 y1).y1 = 0) : ¬ ((obx l g x0 y0 x1 y1).y0 ≤ y ∧ y < (obx l g x0 y0 x1 y1).y1) := by
  rcases obx_is l g x0 y0 x1 y1 with e | ⟨h1, h2, h3⟩
  · rw [e]; simp only; omega
  · have r := bok_true h3
    have := Box.dots_of (x0 := (obx l g x0 y0 x1 y1).x0) (y0 := (obx l g x0 y0 x1 y1).y0) (x1 := (obx l g x0 y0 x1 y1).x1) (y1 := (obx l g x0 y0 x1 y1).y1) (by omega) (by omega) (by omega) (by omega)
    rw [h] at this
    rcases this with ⟨_, h⟩ | ⟨h, _⟩
    · exact absurd ⟨h1, h2⟩ h
    · omega
set_option maxHeartbeats 4000000 in
theorem orow_impl (w : World) (a : Option Addr) (c : Nat) (l : List Pt) (g x0 y0 x1 y1 y : Int) (hn : l.length ≤ 1048576) (h : PathAt w a l) :
    Calls Tryz.prog 57 #[.agg #[.slice a l.length c, .int .i64 g, .int .i64 x0, .int .i64 y0, .int .i64 x1, .int .i64 y1], .int .i64 y] w (SpIs w (orow l g x0 y0 x1 y1 y)) := by
  have HP := Lib.hid h
  have HO := Lib.hid (fun W (h : PathAt W a l) => obox_impl W a c l g x0 y0 x1 y1 hn h)
  have HN := Lib.hid hn
  have HL : Hid ((spsV l y).length ≤ 1048576) := Lib.hid (by have := spsV_len l y; omega)
  obtain ⟨m, hm⟩ : ∃ m, orow l g x0 y0 x1 y1 y = m := ⟨_, rfl⟩
  have HM := Lib.hid hm
  rw [hm]
  clear hm h hn
  unfold orow at HM
  generalize obx l g x0 y0 x1 y1 = b at *
  obtain ⟨b0, b1, b2, b3⟩ := b
  simp only [Bx.v] at HO
  simp only at HM
  have HS0 : Hid (Blk (w.alloc (.cells #[.slice a l.length c, .int .i64 g, .int .i64 x0, .int .i64 y0, .int .i64 x1, .int .i64 y1] 52)) w.heap.size [.slice a l.length c, .int .i64 g, .int .i64 x0, .int .i64 y0, .int .i64 x1, .int .i64 y1] ∧ Below w.heap.size w (w.alloc (.cells #[.slice a l.length c, .int .i64 g, .int .i64 x0, .int .i64 y0, .int .i64 x1, .int .i64 y1] 52))) := Lib.hid ⟨Blk.new w _ 52 rfl, by go_grown⟩
  go_enter Tryz.func57, Tryz.ntmps57
  go_wp2_with fail
  ((with_reducible refine (HO.out _ (HP.out.on HS0.out.2)).mono ?_); rintro e w1 ⟨rfl, bb⟩)
  have HS1 := Lib.hid (And.intro (HS0.out.1.keep bb) (on_of HS0.out.2 bb))
  clear bb
  go_upto_region 2 with fail
  refine gen_any9 (fun W => RwS W w w.heap.size w1.heap.size a l.length c g x0 y0 x1 y1 ⟨b0, b1, b2, b3⟩) ⟨(by first | exact HS1.out.1.alloc _ | fail), (by first | exact Four.new _ _ _ _ _ _ | exact ⟨by simp [go_sem], by simp [go_sem], by simp [go_sem], by simp [go_sem], fun o => by simp [go_sem]⟩), (by have := HS1.out.2; have := HS1.out.2.size; go_grown)⟩ ?_
  intro W hS
  have HS := Lib.hid hS
  obtain ⟨GA, hGA⟩ : ∃ x, w.heap.size = x := ⟨_, rfl⟩
  obtain ⟨GB, hGB⟩ : ∃ x, w1.heap.size = x := ⟨_, rfl⟩
  simp only [hGA, hGB] at HS ⊢
  clear hS
  obtain ⟨k0, k1, k2, k3, k4, k5, e0, e1, e2, e3, hzA, hzB⟩ := HS.out.cells
  by_cases h1 : y < b1
  · have HE : Hid (m = []) := Lib.hid (by rw [← HM.out, if_neg (by omega)])
    go_wp2
    go_ret
    rw [HE.out]
    exact sp_none _ _ (by have := HS.out.B; go_grown)
  · by_cases h3 : b3 ≤ y
    · have HE : Hid (m = []) := Lib.hid (by rw [← HM.out, if_neg (by omega)])
      go_wp2
      go_ret
      rw [HE.out]
      exact sp_none _ _ (by have := HS.out.B; go_grown)
    · have HE : Hid (m = mtV (spsV l y) b0 b2) := Lib.hid (by rw [← HM.out, if_pos (by omega)])
      have HPW := Lib.hid (HP.out.on (show Below w.heap.size w W from hGA ▸ HS.out.B))
      go_upto_region 4 with fail
      clear k0 k1 k2 k3 k4 k5 e0 e1 e2 e3
      have hK : ∀ w', Below W.heap.size W w' → w'.cell? ⟨GA, 0, none⟩ = some (.slice a l.length c) ∧ w'.cell? ⟨GA, 1, none⟩ = some (.int .i64 g) ∧ w'.cell? ⟨GA, 2, none⟩ = some (.int .i64 x0) ∧ w'.cell? ⟨GA, 3, none⟩ = some (.int .i64 y0) ∧ w'.cell? ⟨GA, 4, none⟩ = some (.int .i64 x1) ∧ w'.cell? ⟨GA, 5, none⟩ = some (.int .i64 y1) ∧ w'.cell? ⟨GB, 0, none⟩ = some (.int .i64 b0) ∧ w'.cell? ⟨GB, 2, none⟩ = some (.int .i64 b2) ∧ Below W.heap.size W w' := fun w' hb =>
        have q := (HS.out.on hb).cells
        ⟨q.1, q.2.1, q.2.2.1, q.2.2.2.1, q.2.2.2.2.1, q.2.2.2.2.2.1, q.2.2.2.2.2.2.1, q.2.2.2.2.2.2.2.2.1, hb⟩
      have HK := Lib.hid hK
      clear hK
      go_region_held3 (fun w' => w'.cell? ⟨GA, 0, none⟩ = some (.slice a l.length c) ∧ w'.cell? ⟨GA, 1, none⟩ = some (.int .i64 g) ∧ w'.cell? ⟨GA, 2, none⟩ = some (.int .i64 x0) ∧ w'.cell? ⟨GA, 3, none⟩ = some (.int .i64 y0) ∧ w'.cell? ⟨GA, 4, none⟩ = some (.int .i64 x1) ∧ w'.cell? ⟨GA, 5, none⟩ = some (.int .i64 y1) ∧ w'.cell? ⟨GB, 0, none⟩ = some (.int .i64 b0) ∧ w'.cell? ⟨GB, 2, none⟩ = some (.int .i64 b2) ∧ Below W.heap.size W w') (first | exact HK.out _ hB | exact HK.out _ (by go_grown))
        (first
          | (go_at_call 103; (with_reducible refine (fig_of _ _ _ _ _ _ _ _ _).mono ?_); rintro e wz ⟨rfl, bb⟩; have hB := on_of (W := W) (by first | exact hB | go_grown) bb; clear bb)
          | (go_at_call 104; (with_reducible refine (outl_sps _ _ _ _ _ HN.out (HPW.out.on (by first | exact hB | go_grown))).mono ?_); rintro e wz ⟨v, rfl, hv, bb⟩; have hB := on_of (W := W) (by first | exact hB | go_grown) bb; obtain ⟨va, vc, rfl, hp⟩ := path_of_owns hv; have HV := Lib.hid hp; clear hp hv bb)
          | (go_at_call 102; (refine (meet_impl _ _ _ _ _ _ HL.out HV.out).mono ?_); rintro e wz ⟨v, rfl, hv, bb⟩; have hC := hB; have HR := Lib.hid hv; have hB := on_of (W := W) (by first | exact hB | go_grown) bb; clear bb hv))
      all_goals
        have hlow := HS.out.B.size
        have hlow2 := hC.size
        have HF := Lib.hid (And.intro (sp_low HR.out (B := w.heap.size) (by omega)) (on_of (show Below w.heap.size w W from hGA ▸ HS.out.B) hB))
        clear hlow hlow2
        go_wp2
        go_ret
        rw [HE.out]
        exact ⟨_, rfl, HF.out⟩
set_option maxHeartbeats 4000000 in
theorem orow_spec (w : World) (a : Option Addr) (c : Nat) (l : List Pt) (g x0 y0 x1 y1 y : Int) (hn : l.length ≤ 1048576) (h : PathAt w a l) :
    Calls Tryz.prog 84 #[.agg #[.slice a l.length c, .int .i64 g, .int .i64 x0, .int .i64 y0, .int .i64 x1, .int .i64 y1], .int .i64 y] w (SpIs w (orow l g x0 y0 x1 y1 y)) := by
  have HP := Lib.hid h
  have HO := Lib.hid (fun W (h : PathAt W a l) => obox_spec W a c l g x0 y0 x1 y1 hn h)
  have HN := Lib.hid hn
  have HL : Hid ((spsV l y).length ≤ 1048576) := Lib.hid (by have := spsV_len l y; omega)
  obtain ⟨m, hm⟩ : ∃ m, orow l g x0 y0 x1 y1 y = m := ⟨_, rfl⟩
  have HM := Lib.hid hm
  rw [hm]
  clear hm h hn
  unfold orow at HM
  have HZ := Lib.hid (obx_flat l g x0 y0 x1 y1 y)
  generalize obx l g x0 y0 x1 y1 = b at *
  obtain ⟨b0, b1, b2, b3⟩ := b
  simp only [Bx.v] at HO
  simp only at HM HZ
  have HS0 : Hid (Blk (w.alloc (.cells #[.slice a l.length c, .int .i64 g, .int .i64 x0, .int .i64 y0, .int .i64 x1, .int .i64 y1] 52)) w.heap.size [.slice a l.length c, .int .i64 g, .int .i64 x0, .int .i64 y0, .int .i64 x1, .int .i64 y1] ∧ Below w.heap.size w (w.alloc (.cells #[.slice a l.length c, .int .i64 g, .int .i64 x0, .int .i64 y0, .int .i64 x1, .int .i64 y1] 52))) := Lib.hid ⟨Blk.new w _ 52 rfl, by go_grown⟩
  go_enter Tryz.func84, Tryz.ntmps84
  go_wp2_with fail
  ((with_reducible refine (HO.out _ (HP.out.on HS0.out.2)).mono ?_); rintro e w1 ⟨rfl, bb⟩)
  have HS1 := Lib.hid (And.intro (HS0.out.1.keep bb) (on_of HS0.out.2 bb))
  clear bb
  go_upto_region 2 with fail
  refine gen_any9 (fun W => RwS W w w.heap.size w1.heap.size a l.length c g x0 y0 x1 y1 ⟨b0, b1, b2, b3⟩) ⟨(by first | exact HS1.out.1.alloc _ | fail), (by first | exact Four.new _ _ _ _ _ _ | exact ⟨by simp [go_sem], by simp [go_sem], by simp [go_sem], by simp [go_sem], fun o => by simp [go_sem]⟩), (by have := HS1.out.2; have := HS1.out.2.size; go_grown)⟩ ?_
  intro W hS
  have HS := Lib.hid hS
  obtain ⟨GA, hGA⟩ : ∃ x, w.heap.size = x := ⟨_, rfl⟩
  obtain ⟨GB, hGB⟩ : ∃ x, w1.heap.size = x := ⟨_, rfl⟩
  simp only [hGA, hGB] at HS ⊢
  clear hS
  have HD := Lib.hid (fun W => Box.dots_spec b0 b1 b2 b3 W)
  generalize hd : Box.dots b0 b1 b2 b3 = d at HD HZ
  clear hd
  obtain ⟨k0, k1, k2, k3, k4, k5, e0, e1, e2, e3, hzA, hzB⟩ := HS.out.cells
  go_wp2_with fail
  clear k0 k1 k2 k3 k4 k5 e0 e1 e2 e3 hzA hzB
  ((with_reducible refine (HD.out _).mono ?_); rintro e w2 ⟨rfl, bb⟩)
  have HS := Lib.hid (HS.out.on bb)
  clear bb
  obtain ⟨k0, k1, k2, k3, k4, k5, e0, e1, e2, e3, hzA, hzB⟩ := HS.out.cells
  by_cases h0 : d = 0
  · have HE : Hid (m = []) := Lib.hid (by rw [← HM.out, if_neg (HZ.out h0)])
    have h0' : (d == 0) = true := by simpa using h0
    clear h0
    go_wp2
    go_ret
    rw [HE.out]
    exact sp_made _ _ (by have := HS.out.B; go_grown)
  have h0' : (d == 0) = false := by simpa using h0
  clear h0
  by_cases h1 : y < b1
  · have HE : Hid (m = []) := Lib.hid (by rw [← HM.out, if_neg (by omega)])
    go_wp2
    go_ret
    rw [HE.out]
    exact sp_made _ _ (by have := HS.out.B; go_grown)
  · by_cases h3 : b3 ≤ y
    · have HE : Hid (m = []) := Lib.hid (by rw [← HM.out, if_neg (by omega)])
      go_wp2
      go_ret
      rw [HE.out]
      exact sp_made _ _ (by have := HS.out.B; go_grown)
    · have HE : Hid (m = mtV (spsV l y) b0 b2) := Lib.hid (by rw [← HM.out, if_pos (by omega)])
      have HPW := Lib.hid (HP.out.on (show Below w.heap.size w w2 from hGA ▸ HS.out.B))
      go_upto_region 4 with fail
      clear k0 k1 k2 k3 k4 k5 e0 e1 e2 e3
      have hK : ∀ w', Below w2.heap.size w2 w' → w'.cell? ⟨GA, 0, none⟩ = some (.slice a l.length c) ∧ w'.cell? ⟨GA, 1, none⟩ = some (.int .i64 g) ∧ w'.cell? ⟨GA, 2, none⟩ = some (.int .i64 x0) ∧ w'.cell? ⟨GA, 3, none⟩ = some (.int .i64 y0) ∧ w'.cell? ⟨GA, 4, none⟩ = some (.int .i64 x1) ∧ w'.cell? ⟨GA, 5, none⟩ = some (.int .i64 y1) ∧ w'.cell? ⟨GB, 0, none⟩ = some (.int .i64 b0) ∧ w'.cell? ⟨GB, 2, none⟩ = some (.int .i64 b2) ∧ Below w2.heap.size w2 w' := fun w' hb =>
        have q := (HS.out.on hb).cells
        ⟨q.1, q.2.1, q.2.2.1, q.2.2.2.1, q.2.2.2.2.1, q.2.2.2.2.2.1, q.2.2.2.2.2.2.1, q.2.2.2.2.2.2.2.2.1, hb⟩
      have HK := Lib.hid hK
      clear hK
      go_region_held3 (fun w' => w'.cell? ⟨GA, 0, none⟩ = some (.slice a l.length c) ∧ w'.cell? ⟨GA, 1, none⟩ = some (.int .i64 g) ∧ w'.cell? ⟨GA, 2, none⟩ = some (.int .i64 x0) ∧ w'.cell? ⟨GA, 3, none⟩ = some (.int .i64 y0) ∧ w'.cell? ⟨GA, 4, none⟩ = some (.int .i64 x1) ∧ w'.cell? ⟨GA, 5, none⟩ = some (.int .i64 y1) ∧ w'.cell? ⟨GB, 0, none⟩ = some (.int .i64 b0) ∧ w'.cell? ⟨GB, 2, none⟩ = some (.int .i64 b2) ∧ Below w2.heap.size w2 w') (first | exact HK.out _ hB | exact HK.out _ (by go_grown))
        (first
          | (go_at_call 119; (with_reducible refine (sa_spec _ _ _ _ _ HN.out (HPW.out.on (by first | exact hB | go_grown))).mono ?_); rintro e wz ⟨v, rfl, hv, bb⟩; have hB := on_of (W := w2) (by first | exact hB | go_grown) bb; obtain ⟨va, vc, rfl, hp⟩ := path_of_owns hv; have HV := Lib.hid hp; clear hp hv bb)
          | (go_at_call 118; (refine (meet_spec _ _ _ _ _ _ HL.out HV.out).mono ?_); rintro e wz ⟨v, rfl, hv, bb⟩; have hC := hB; have HR := Lib.hid hv; have hB := on_of (W := w2) (by first | exact hB | go_grown) bb; clear bb hv))
      all_goals
        have hlow := HS.out.B.size
        have hlow2 := hC.size
        have HF := Lib.hid (And.intro (sp_low HR.out (B := w.heap.size) (by omega)) (on_of (show Below w.heap.size w w2 from hGA ▸ HS.out.B) hB))
        clear hlow hlow2
        go_wp2
        go_ret
        rw [HE.out]
        exact ⟨_, rfl, HF.out⟩
end Go.Proofs.YtkabofbbioaapaaGreat.Ins
