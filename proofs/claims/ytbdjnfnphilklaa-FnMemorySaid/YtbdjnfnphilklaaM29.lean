/-
  Texts of this seat, laid together: Rw10, Ra11
-/
import Derived.Test.YtbdjnfnphilklaaM21
import Derived.Test.YtbdjnfnphilklaaM26
import Derived.Test.YtbdjnfnphilklaaM20
import Derived.Test.YtbdjnfnphilklaaM16
import Derived.Test.YtbdjnfnphilklaaM28
namespace Go.Proofs.Ytbdjnfnphilklaa.Ins
open Go.ChangeShapes Go.WideShapes Go.ChangeAt Go.RowKit
open Kit Point
open Go.Proofs.Ytbdjnfnphilklaa.Own (Blk Ob grayB)
set_option linter.unusedVariables false
set_option linter.unusedSimpArgs false
set_option linter.unnecessarySimpa false
set_option maxRecDepth 100000
theorem run_outline (a : Option Addr) (n c : Nat) (g x0 y0 x1 y1 : Int) (w : World) : (Instr.field 121 (.agg #[.slice a n c, .int .i64 g, .int .i64 x0, .int .i64 y0, .int .i64 x1, .int .i64 y1]) 0).run Try.prog w = .ok (.slice a n c) w := by
  kernel_rfl
attribute [local go_sem ↓] run_outline
def orow (l : List Pt) (g x0 y0 x1 y1 y : Int) : List Pt :=
  if (obx l g x0 y0 x1 y1).y0 ≤ y ∧ y < (obx l g x0 y0 x1 y1).y1 then mtV (spsV l y) (obx l g x0 y0 x1 y1).x0 (obx l g x0 y0 x1 y1).x1 else []
structure RwS (W : World) (w : World) (GA GB : Nat) (a : Option Addr) (n c : Nat) (g x0 y0 x1 y1 : Int) (b : Bx) : Prop where
  A : Blk W GA [.slice a n c, .int .i64 g, .int .i64 x0, .int .i64 y0, .int .i64 x1, .int .i64 y1]
  F : Four W GB b.x0 b.y0 b.x1 b.y1
  B : Below w.heap.size w W
theorem RwS.on {W w V : World} {GA GB : Nat} {a : Option Addr} {n c : Nat} {g x0 y0 x1 y1 : Int} {b : Bx} (h : RwS W w GA GB a n c g x0 y0 x1 y1 b) (hb : Below W.heap.size W V) : RwS V w GA GB a n c g x0 y0 x1 y1 b :=
  ⟨h.A.keep hb, h.F.keep hb h.F.lt, on_of h.B hb⟩
theorem RwS.cells {W w : World} {GA GB : Nat} {a : Option Addr} {n c : Nat} {g x0 y0 x1 y1 : Int} {b : Bx} (h : RwS W w GA GB a n c g x0 y0 x1 y1 b) :
    W.cell? ⟨GA, 0, none⟩ = some (.slice a n c) ∧ W.cell? ⟨GA, 1, none⟩ = some (.int .i64 g) ∧ W.cell? ⟨GA, 2, none⟩ = some (.int .i64 x0) ∧ W.cell? ⟨GA, 3, none⟩ = some (.int .i64 y0) ∧ W.cell? ⟨GA, 4, none⟩ = some (.int .i64 x1) ∧ W.cell? ⟨GA, 5, none⟩ = some (.int .i64 y1) ∧
    W.cell? ⟨GB, 0, none⟩ = some (.int .i64 b.x0) ∧ W.cell? ⟨GB, 1, none⟩ = some (.int .i64 b.y0) ∧ W.cell? ⟨GB, 2, none⟩ = some (.int .i64 b.x1) ∧ W.cell? ⟨GB, 3, none⟩ = some (.int .i64 b.y1) ∧ GA < W.heap.size ∧ GB < W.heap.size :=
  ⟨h.A.1 0 _ rfl, h.A.1 1 _ rfl, h.A.1 2 _ rfl, h.A.1 3 _ rfl, h.A.1 4 _ rfl, h.A.1 5 _ rfl, h.F.c0, h.F.c1, h.F.c2, h.F.c3, h.A.2.2, h.F.lt⟩
theorem sp_low {W W' : World} {B : Nat} {m : List Pt} {u : Value} (h : W'.ownsRow W.heap.size 96 2 u m.length (cellsP m)) (hB : B ≤ W.heap.size) : W'.ownsRow B 96 2 u m.length (cellsP m) := Own.row_base h hB
theorem outl_sps (w : World) (a : Option Addr) (c : Nat) (l : List Pt) (y : Int) (hn : l.length ≤ 1048576) (h : PathAt w a l) :
    Calls Try.prog 104 #[.slice a l.length c, .int .i64 y] w (SpIs w (spsV l y)) := by
  have HC := Lib.hid (sa_impl w a c l y hn h)
  clear h hn
  go_enter Try.func104, Try.ntmps104
  go_wp2_with fail
  ((with_reducible refine HC.out.mono ?_); rintro e w1 ⟨v, rfl, hv, bb⟩)
  go_wp2
  go_ret
  exact ⟨v, rfl, hv, bb⟩
theorem mtx_is (b d : Bx) : mtx b d = ⟨0, 0, 0, 0⟩ ∨ ((mtx b d).x0 < (mtx b d).x1 ∧ (mtx b d).y0 < (mtx b d).y1 ∧ (mtx b d).ok = true) := by
  unfold mtx
  split
  · rename_i h
    obtain ⟨h1, h2, h3, h4⟩ := h
    refine .inr ⟨h3, h4, ?_⟩
    have r1 := bok_true h1
    have r2 := bok_true h2
    have m0 := mx_in (a := b.x0) (b := d.x0) (by omega) (by omega)
    have m1 := mx_in (a := b.y0) (b := d.y0) (by omega) (by omega)
    have m2 := mn_in (a := b.x1) (b := d.x1) (by omega) (by omega)
    have m3 := mn_in (a := b.y1) (b := d.y1) (by omega) (by omega)
    simp only [Bx.ok, bokB, inB, Bool.and_eq_true, decide_eq_true_eq]
    omega
  · exact .inl rfl
theorem obx_is (l : List Pt) (g x0 y0 x1 y1 : Int) : obx l g x0 y0 x1 y1 = ⟨0, 0, 0, 0⟩ ∨ ((obx l g x0 y0 x1 y1).x0 < (obx l g x0 y0 x1 y1).x1 ∧ (obx l g x0 y0 x1 y1).y0 < (obx l g x0 y0 x1 y1).y1 ∧ (obx l g x0 y0 x1 y1).ok = true) := by
  unfold obx
  split
  · exact mtx_is _ _
  · exact .inl rfl
theorem obx_flat (l : List Pt) (g x0 y0 x1 y1 y : Int) (h : Box.dots (obx l g x0 y0 x1 y1).x0 (obx l g x0 y0 x1 y1).y0 (obx l g x0 y0 x1 y1).x1 (obx l g x0 y0 x1 y1).y1 = 0) : ¬ ((obx l g x0 y0 x1 y1).y0 ≤ y ∧ y < (obx l g x0 y0 x1 y1).y1) := by
  rcases obx_is l g x0 y0 x1 y1 with e | ⟨h1, h2, h3⟩
  · rw [e]; simp only; omega
  · have r := bok_true h3
    have := Box.dots_of (x0 := (obx l g x0 y0 x1 y1).x0) (y0 := (obx l g x0 y0 x1 y1).y0) (x1 := (obx l g x0 y0 x1 y1).x1) (y1 := (obx l g x0 y0 x1 y1).y1) (by omega) (by omega) (by omega) (by omega)
    rw [h] at this
    rcases this with ⟨_, h⟩ | ⟨h, _⟩
    · exact absurd ⟨h1, h2⟩ h
    · omega
set_option maxHeartbeats 4000000 in
theorem orow_impl (w : World) (a : Option Addr) (c : Nat) (l : List Pt) (g x0 y0 x1 y1 y : Int) (hn : l.length ≤ 1048576) (h : PathAt w a l) :
    Calls Try.prog 74 #[.agg #[.slice a l.length c, .int .i64 g, .int .i64 x0, .int .i64 y0, .int .i64 x1, .int .i64 y1], .int .i64 y] w (SpIs w (orow l g x0 y0 x1 y1 y)) := by
  have HP := Lib.hid h
  have HO := Lib.hid (fun W (h : PathAt W a l) => obox_impl W a c l g x0 y0 x1 y1 hn h)
  have HN := Lib.hid hn
  have HL : Hid ((spsV l y).length ≤ 1048576) := Lib.hid (by have := spsV_len l y; omega)
  obtain ⟨m, hm⟩ : ∃ m, orow l g x0 y0 x1 y1 y = m := ⟨_, rfl⟩
  have HM := Lib.hid hm
  rw [hm]
  clear hm h hn
  unfold orow at HM
  generalize obx l g x0 y0 x1 y1 = b at *
  obtain ⟨b0, b1, b2, b3⟩ := b
  simp only [Bx.v] at HO
  simp only at HM
  have HS0 : Hid (Blk (w.alloc (.cells #[.slice a l.length c, .int .i64 g, .int .i64 x0, .int .i64 y0, .int .i64 x1, .int .i64 y1] 40)) w.heap.size [.slice a l.length c, .int .i64 g, .int .i64 x0, .int .i64 y0, .int .i64 x1, .int .i64 y1] ∧ Below w.heap.size w (w.alloc (.cells #[.slice a l.length c, .int .i64 g, .int .i64 x0, .int .i64 y0, .int .i64 x1, .int .i64 y1] 40))) := Lib.hid ⟨Blk.new w _ 40 rfl, by go_grown⟩
  go_enter Try.func74, Try.ntmps74
  go_wp2_with fail
  ((with_reducible refine (HO.out _ (HP.out.on HS0.out.2)).mono ?_); rintro e w1 ⟨rfl, bb⟩)
  have HS1 := Lib.hid (And.intro (HS0.out.1.keep bb) (on_of HS0.out.2 bb))
  clear bb
  go_upto_region 2 with fail
  refine gen_any9 (fun W => RwS W w w.heap.size w1.heap.size a l.length c g x0 y0 x1 y1 ⟨b0, b1, b2, b3⟩) ⟨(by first | exact HS1.out.1.alloc _ | fail), (by first | exact Four.new _ _ _ _ _ _ | exact ⟨by simp [go_sem], by simp [go_sem], by simp [go_sem], by simp [go_sem], fun o => by simp [go_sem]⟩), (by have := HS1.out.2; have := HS1.out.2.size; go_grown)⟩ ?_
  intro W hS
  have HS := Lib.hid hS
  obtain ⟨GA, hGA⟩ : ∃ x, w.heap.size = x := ⟨_, rfl⟩
  obtain ⟨GB, hGB⟩ : ∃ x, w1.heap.size = x := ⟨_, rfl⟩
  simp only [hGA, hGB] at HS ⊢
  clear hS
  obtain ⟨k0, k1, k2, k3, k4, k5, e0, e1, e2, e3, hzA, hzB⟩ := HS.out.cells
  by_cases h1 : y < b1
  · have HE : Hid (m = []) := Lib.hid (by rw [← HM.out, if_neg (by omega)])
    go_wp2
    go_ret
    rw [HE.out]
    exact sp_none _ _ (by have := HS.out.B; go_grown)
  · by_cases h3 : b3 ≤ y
    · have HE : Hid (m = []) := Lib.hid (by rw [← HM.out, if_neg (by omega)])
      go_wp2
      go_ret
      rw [HE.out]
      exact sp_none _ _ (by have := HS.out.B; go_grown)
    · have HE : Hid (m = mtV (spsV l y) b0 b2) := Lib.hid (by rw [← HM.out, if_pos (by omega)])
      have HPW := Lib.hid (HP.out.on (show Below w.heap.size w W from hGA ▸ HS.out.B))
      go_upto_region 4 with fail
      clear k0 k1 k2 k3 k4 k5 e0 e1 e2 e3
      have hK : ∀ w', Below W.heap.size W w' → w'.cell? ⟨GA, 0, none⟩ = some (.slice a l.length c) ∧ w'.cell? ⟨GA, 1, none⟩ = some (.int .i64 g) ∧ w'.cell? ⟨GA, 2, none⟩ = some (.int .i64 x0) ∧ w'.cell? ⟨GA, 3, none⟩ = some (.int .i64 y0) ∧ w'.cell? ⟨GA, 4, none⟩ = some (.int .i64 x1) ∧ w'.cell? ⟨GA, 5, none⟩ = some (.int .i64 y1) ∧ w'.cell? ⟨GB, 0, none⟩ = some (.int .i64 b0) ∧ w'.cell? ⟨GB, 2, none⟩ = some (.int .i64 b2) ∧ Below W.heap.size W w' := fun w' hb =>
        have q := (HS.out.on hb).cells
        ⟨q.1, q.2.1, q.2.2.1, q.2.2.2.1, q.2.2.2.2.1, q.2.2.2.2.2.1, q.2.2.2.2.2.2.1, q.2.2.2.2.2.2.2.2.1, hb⟩
      have HK := Lib.hid hK
      clear hK
      go_region_held3 (fun w' => w'.cell? ⟨GA, 0, none⟩ = some (.slice a l.length c) ∧ w'.cell? ⟨GA, 1, none⟩ = some (.int .i64 g) ∧ w'.cell? ⟨GA, 2, none⟩ = some (.int .i64 x0) ∧ w'.cell? ⟨GA, 3, none⟩ = some (.int .i64 y0) ∧ w'.cell? ⟨GA, 4, none⟩ = some (.int .i64 x1) ∧ w'.cell? ⟨GA, 5, none⟩ = some (.int .i64 y1) ∧ w'.cell? ⟨GB, 0, none⟩ = some (.int .i64 b0) ∧ w'.cell? ⟨GB, 2, none⟩ = some (.int .i64 b2) ∧ Below W.heap.size W w') (first | exact HK.out _ hB | exact HK.out _ (by go_grown))
        (first
          | (go_at_call 99; (with_reducible refine (fig_of _ _ _ _ _ _ _ _ _).mono ?_); rintro e wz ⟨rfl, bb⟩; have hB := on_of (W := W) (by first | exact hB | go_grown) bb; clear bb)
          | (go_at_call 104; (with_reducible refine (outl_sps _ _ _ _ _ HN.out (HPW.out.on (by first | exact hB | go_grown))).mono ?_); rintro e wz ⟨v, rfl, hv, bb⟩; have hB := on_of (W := W) (by first | exact hB | go_grown) bb; obtain ⟨va, vc, rfl, hp⟩ := path_of_owns hv; have HV := Lib.hid hp; clear hp hv bb)
          | (go_at_call 103; (refine (meet_impl _ _ _ _ _ _ HL.out HV.out).mono ?_); rintro e wz ⟨v, rfl, hv, bb⟩; have hC := hB; have HR := Lib.hid hv; have hB := on_of (W := W) (by first | exact hB | go_grown) bb; clear bb hv))
      all_goals
        have hlow := HS.out.B.size
        have hlow2 := hC.size
        have HF := Lib.hid (And.intro (sp_low HR.out (B := w.heap.size) (by omega)) (on_of (show Below w.heap.size w W from hGA ▸ HS.out.B) hB))
        clear hlow hlow2
        go_wp2
        go_ret
        rw [HE.out]
        exact ⟨_, rfl, HF.out⟩
end Go.Proofs.Ytbdjnfnphilklaa.Ins
namespace Go.Proofs.Ytbdjnfnphilklaa.Own
open Go.ChangeShapes Go.WideShapes Go.ChangeAt Go.RowKit
open Kit Slabs Ints
open Go.Proofs.Ytbdjnfnphilklaa.Ins (Pt inS inS_app inS_nil inS_cons)
set_option linter.unusedVariables false
set_option linter.unusedSimpArgs false
set_option linter.unnecessarySimpa false
/-! ### Lists -/
def pnt (g : Int) (L : List Pt) (r : List Int) : List Int := r.mapIdx fun i v => if inS L (i : Int) then g else v
theorem pnt_len (g : Int) (L : List Pt) (r : List Int) : (pnt g L r).length = r.length := by simp [pnt]
theorem pnt_same {g : Int} {L M : List Pt} {r : List Int} (h : ∀ i, i < r.length → inS L (i : Int) = inS M (i : Int)) : pnt g L r = pnt g M r := by
  apply List.ext_getElem
  · simp [pnt]
  · intro i h1 h2
    simp only [pnt, List.getElem_mapIdx]
    rw [h i (by simpa [pnt] using h1)]
theorem pnt_nil (g : Int) (r : List Int) : pnt g [] r = r := by
  apply List.ext_getElem
  · simp [pnt]
  · intro i h1 h2
    simp [pnt, inS_nil]
theorem inS_one (L : List Pt) (f t x : Int) : inS (L ++ [(f, t)]) x = (inS L x || decide (f ≤ x ∧ x < t)) := by
  rw [inS_app, inS_cons, inS_nil, Bool.or_false]
theorem pnt_none {g : Int} {L : List Pt} {r : List Int} {f t : Int} (h : t ≤ f) : pnt g (L ++ [(f, t)]) r = pnt g L r :=
  pnt_same fun i _ => by rw [inS_one, decide_eq_false (by omega), Bool.or_false]
theorem pnt_set {g : Int} {L : List Pt} {r : List Int} {f x : Int} {k : Nat} (hx : x = (k : Int)) (hf : f ≤ x) : (pnt g (L ++ [(f, x)]) r).set k g = pnt g (L ++ [(f, x + 1)]) r := by
  subst hx
  apply List.ext_getElem
  · simp [pnt]
  · intro i h1 h2
    rw [List.getElem_set]
    simp only [pnt, List.getElem_mapIdx, inS_one]
    by_cases e : k = i
    · subst e
      rw [if_pos rfl, decide_eq_true (p := f ≤ (k : Int) ∧ (k : Int) < (k : Int) + 1) (by omega)]
      simp
    · rw [if_neg e]
      have : decide (f ≤ (i : Int) ∧ (i : Int) < (k : Int)) = decide (f ≤ (i : Int) ∧ (i : Int) < (k : Int) + 1) := by
        apply decide_eq_decide.2; omega
      rw [this]
def ivs (r : List Int) : List Value := r.map (Value.int .i64)
theorem ivs_len (r : List Int) : (ivs r).length = r.length := by simp [ivs]
theorem ivs_at {r : List Int} {i : Nat} (h : i < r.length) : (ivs r)[i]? = some (.int .i64 (r.getD i 0)) := by
  simp [ivs, List.getD, List.getElem?_eq_getElem h]
theorem ivs_set (r : List Int) (i : Nat) (v : Int) : (ivs r).set i (.int .i64 v) = ivs (r.set i v) := by simp [ivs]
theorem ivs_one (r : List Int) : ∀ u ∈ ivs r, u.oneCell' = true := by
  intro u hu
  obtain ⟨x, _, rfl⟩ := List.mem_map.1 hu
  rfl
/-! ### Memory -/
theorem Blk.setAt {w : World} {b : Nat} {vs : List Value} {i : Nat} (h : Blk w b vs) (hi : i < vs.length) (v : Value) : Blk (w.setCell ⟨b, i, none⟩ v) b (vs.set i v) := by
  have e : vs = vs.take i ++ vs[i] :: vs.drop (i + 1) := by rw [← List.drop_eq_getElem_cons hi, List.take_append_drop]
  have e2 : vs.set i v = vs.take i ++ v :: vs.drop (i + 1) := List.set_eq_take_append_cons_drop.trans (by rw [if_pos hi])
  rw [e2]
  rw [e] at h
  exact Blk.put h (by simp; omega) v
theorem Blk.ivAt {w : World} {b : Nat} {r : List Int} (h : Blk w b (ivs r)) {i : Nat} (hi : i < r.length) : w.cell? ⟨b, i, none⟩ = some (.int .i64 (r.getD i 0)) := h.1 i _ (ivs_at hi)
theorem Blk.turn {w w' : World} {b c : Nat} {vs : List Value} (h : Blk w b vs) (ht : Turns w w' (fun k => k = c)) (hne : b ≠ c) : Blk w' b vs := h.turned ht hne
theorem Turns.alloc {w w' : World} {S : Nat → Prop} (h : Turns w w' S) (o : Obj) : Turns w (w'.alloc o) S := h.trans (Turns.of_below ((Below.refl _ _).alloc (Nat.le_refl _) o))
theorem Turns.call {w w' w2 : World} {S : Nat → Prop} (h : Turns w w' S) (k : Below w'.heap.size w' w2) : Turns w w2 S := h.trans (Turns.of_below k)
theorem Turns.one {w w' : World} {c : Nat} (h : Turns w w' (fun k => k = c)) (o : Nat) (v : Value) : Turns w (w'.setCell ⟨c, o, none⟩ v) (fun k => k = c) := turns_set h rfl o v
theorem Turns.drew {w w' : World} {S : Nat → Prop} (h : Turns w w' S) : Turns w w'.drew S := ⟨h.os, h.tape, h.output, h.size, h.block⟩
theorem Lies.turned {w w' : World} {a : Option Addr} {cs : List Value} {S : Nat → Prop} (h : Lies w a cs) (ht : Turns w w' S) (hS : ∀ g o, a = some ⟨g, o, none⟩ → ¬ S g) : Lies w' a cs := by
  rcases h with h | ⟨g, o, rfl, hg, hc⟩
  · exact .inl h
  · exact .inr ⟨g, o, rfl, Nat.lt_of_lt_of_le hg ht.size, fun j u hu => by rw [World.cell?_of_block (w := w) (ht.block g hg (hS g o rfl))]; exact hc j u hu⟩
abbrev KSS : Kd := .sl (.sl .int)
def dR (R : List (List Int)) : List Dt := R.map fun r => Dt.sl (dI r)
theorem len_dR (R : List (List Int)) : (dR R).length = R.length := by simp [dR]
theorem dR_at (R : List (List Int)) (k : Nat) (h : k < R.length) : (dR R)[k]? = some (.sl (dI (R.getD k []))) := by
  simp [dR, List.getD, List.getElem?_eq_getElem h]
theorem dR_set (R : List (List Int)) (k : Nat) (r : List Int) : (dR R).set k (.sl (dI r)) = dR (R.set k r) := by simp [dR]
def tot (R : List (List Int)) : Nat := (R.map List.length).sum
theorem bulk_dR (R : List (List Int)) : bulkL (dR R) = tot R := by
  induction R with
  | nil => rfl
  | cons r R ih =>
    have : dR (r :: R) = .sl (dI r) :: dR R := rfl
    rw [this]
    simp only [bulkL, Dt.bulk, ih, len_dI, bulk_dI, tot, List.map_cons, List.sum_cons]; omega
theorem tot_at {R : List (List Int)} {k : Nat} (h : k < R.length) : (R.getD k []).length ≤ tot R := by
  induction R generalizing k with
  | nil => simp at h
  | cons r R ih =>
    cases k with
    | zero => simp [tot]
    | succ k =>
      have := ih (k := k) (by simpa using h)
      simp only [tot, List.map_cons, List.sum_cons, List.getD_cons_succ] at *; omega
theorem tot_take {R : List (List Int)} {k : Nat} (h : k < R.length) : tot (R.take (k + 1)) = tot (R.take k) + (R.getD k []).length := by
  rw [List.take_succ_eq_append_getElem h]
  simp only [tot, List.map_append, List.sum_append, List.map_cons, List.map_nil, List.sum_cons, List.sum_nil, Nat.add_zero]
  simp [List.getD, List.getElem?_eq_getElem h]
theorem tot_parts (R : List (List Int)) (k : Nat) : tot R = tot (R.take k) + tot (R.drop k) := by
  have : tot (R.take k ++ R.drop k) = tot (R.take k) + tot (R.drop k) := by
    simp only [tot, List.map_append, List.sum_append]
  rw [← this, List.take_append_drop]
def RR (w : World) (a : Option Addr) (R : List (List Int)) : Prop := R = [] ∨ ∃ g o, a = some ⟨g, o, none⟩ ∧ g < w.heap.size ∧ ∀ i, i < R.length → ∃ a' c', w.cell? ⟨g, o + i, none⟩ = some (.slice a' (R.getD i []).length c') ∧ Lies w a' (ivs (R.getD i []))
theorem RR.on {w w' : World} {a : Option Addr} {R : List (List Int)} (h : RR w a R) (hb : Below w.heap.size w w') : RR w' a R := by
  rcases h with h | ⟨g, o, rfl, hg, hc⟩
  · exact .inl h
  · refine .inr ⟨g, o, rfl, Nat.lt_of_lt_of_le hg hb.size, fun i hi => ?_⟩
    obtain ⟨a', c', h1, h2⟩ := hc i hi
    exact ⟨a', c', (hb.cell (p := ⟨g, o + i, none⟩) hg).trans h1, h2.on hb⟩
theorem RR.some {w : World} {a : Option Addr} {R : List (List Int)} (h : RR w a R) (h0 : R.length ≠ 0) : ∃ g o, a = some ⟨g, o, none⟩ ∧ g < w.heap.size ∧ ∀ i, i < R.length → ∃ a' c', w.cell? ⟨g, o + i, none⟩ = some (.slice a' (R.getD i []).length c') ∧ Lies w a' (ivs (R.getD i [])) := by
  rcases h with rfl | h
  · exact absurd rfl h0
  · exact h
theorem lies_at {w : World} {a : Option Addr} {r : List Int} (h : Lies w a (ivs r)) (h0 : r.length ≠ 0) : ∃ g o, a = some ⟨g, o, none⟩ ∧ g < w.heap.size ∧ ∀ i, i < r.length → w.cell? ⟨g, o + i, none⟩ = some (.int .i64 (r.getD i 0)) := by
  rcases h with h | ⟨g, o, rfl, hg, hc⟩
  · have := ivs_len r; rw [h] at this; exact absurd this.symm h0
  · exact ⟨g, o, rfl, hg, fun i hi => hc i _ (ivs_at hi)⟩
theorem came_ints {w : World} {v : Value} {d : Dt} (h : Came w (.sl .int) [v] d) : ∃ a c r, v = .slice a r.length c ∧ d = .sl (dI r) ∧ Lies w a (ivs r) ∧ r.length ≤ maxLen := by
  have hl : ∃ a n c, v = .slice a n c ∧ n ≤ maxLen := by
    cases h with
    | nil a cap hm => exact ⟨_, _, _, rfl, Nat.zero_le _⟩
    | sl h1 h2 h3 h4 h5 h6 => exact ⟨_, _, _, rfl, Nat.le_trans h3 h4⟩
  obtain ⟨a, n, c, rfl, hm⟩ := hl
  obtain ⟨es, rfl, hn, he, hr⟩ := ints_of h
  have hle : (es.map Dt.num).length = n := by simpa using hn
  refine ⟨a, c, es.map Dt.num, by rw [hle], ?_, ?_, by rw [hle]; exact hm⟩
  · congr 1
    apply List.ext_getElem
    · simp [dI]
    · intro i h1 h2
      have h3 : es[i]? = ((List.range n).map (fun i => Dt.int ((es.map Dt.num).getD i 0)))[i]? := by rw [← he]
      rw [List.getElem?_eq_getElem h1] at h3
      simp only [List.getElem?_map, List.getElem?_range (show i < n by omega), Option.map_some, Option.some.injEq] at h3
      rw [h3]
      simp [dI, List.getD, List.getElem?_eq_getElem h1]
      try (rw [h3]; simp [Dt.num])
  · by_cases h0 : n = 0
    · subst h0
      exact .inl (by have := ivs_len (es.map Dt.num); rw [hle] at this; exact List.eq_nil_of_length_eq_zero this)
    · obtain ⟨g, o, rfl, hg, hc⟩ := hr h0
      refine .inr ⟨g, o, rfl, hg, fun j u hu => ?_⟩
      have hj : j < (es.map Dt.num).length := by have := (List.getElem?_eq_some_iff.1 hu).1; rw [ivs_len] at this; exact this
      rw [ivs_at hj, Option.some.injEq] at hu
      subst hu
      exact hc j (by omega)
theorem came_rows {w : World} {g : Nat} : ∀ {o : Nat} {ds : List Dt}, CameR w (.sl .int) g o ds → ∃ R, ds = dR R ∧ (∀ r ∈ R, r.length ≤ maxLen) ∧ ∀ i, i < R.length → ∃ a' c', w.cell? ⟨g, o + i, none⟩ = some (.slice a' (R.getD i []).length c') ∧ Lies w a' (ivs (R.getD i []))
  | _, _, .nil => ⟨[], rfl, by simp, fun i hi => by simp at hi⟩
  | o, _, .cons (cs := cs) hc h r => by
    obtain ⟨R, rfl, hm, hR⟩ := came_rows r
    have hl := h.len
    obtain ⟨v, rfl⟩ : ∃ v, cs = [v] := by
      match cs, hl with
      | [v], _ => exact ⟨v, rfl⟩
    obtain ⟨a, c, q, rfl, rfl, hq, hqm⟩ := came_ints h
    refine ⟨q :: R, rfl, ?_, fun i hi => ?_⟩
    · intro x hx
      rcases List.mem_cons.1 hx with rfl | hx
      · exact hqm
      · exact hm x hx
    · cases i with
      | zero => exact ⟨a, c, by have := hc 0 _ rfl; simpa using this, hq⟩
      | succ i =>
        obtain ⟨a', c', h1, h2⟩ := hR i (by simpa using hi)
        refine ⟨a', c', ?_, by simpa using h2⟩
        simp only [List.getD_cons_succ]
        rw [show o + (i + 1) = o + Kd.sz (.sl .int) + i by simp only [Kd.sz]; omega]
        exact h1
theorem came_ss {w : World} {a : Option Addr} {n c : Nat} {d : Dt} (h : Came w KSS [.slice a n c] d) : ∃ R, d = .sl (dR R) ∧ R.length = n ∧ n ≤ maxLen ∧ (∀ r ∈ R, r.length ≤ maxLen) ∧ RR w a R := by
  cases h with
  | nil a cap hm => exact ⟨[], rfl, rfl, Nat.zero_le _, by simp, .inl rfl⟩
  | @sl _ g o n cap es hl hn hnc hm hg hr =>
    obtain ⟨R, rfl, h1, h2⟩ := came_rows hr
    exact ⟨R, rfl, by rw [← hl, len_dR], Nat.le_trans hnc hm, h1, .inr ⟨g, o, rfl, hg, h2⟩⟩
theorem own_ints {w : World} {v : Value} {r : List Int} {f : List Nat} (h : Own w (.sl .int) [v] (.sl (dI r)) f) : ∃ a c, v = .slice a r.length c ∧ Lies w a (ivs r) ∧ (r.length ≠ 0 → ∃ b, a = some ⟨b, 0, none⟩ ∧ f = [b] ∧ r.length ≤ c ∧ Blk w b (ivs r)) := by
  have hl : ∃ a c, v = .slice a r.length c := by
    rcases h.sl_is with ⟨a, cap, rfl, hd, hf⟩ | ⟨g, n, cap, es, P, fq, rfl, hd, hf, hl, hn, hnc, hP, ho, hb⟩
    · have : r = [] := by
        cases r with
        | nil => rfl
        | cons x t => simp [dI] at hd
      exact ⟨a, cap, by rw [this]; rfl⟩
    · simp only [Dt.sl.injEq] at hd
      subst hd
      rw [len_dI] at hl
      exact ⟨_, _, by rw [hl]⟩
  obtain ⟨a, c, rfl⟩ := hl
  have key : r.length ≠ 0 → ∃ b, a = some ⟨b, 0, none⟩ ∧ f = [b] ∧ r.length ≤ c ∧ Blk w b (ivs r) := by
    intro h0
    obtain ⟨hs, hf, hk, hc⟩ := ints_slab h (B := 0) (fun _ _ => Nat.zero_le _)
    rw [len_dI] at hs hf hk hc
    obtain ⟨a', cap, hv, hnc, h3⟩ := hs
    simp only [Value.slice.injEq] at hv
    obtain ⟨rfl, _, rfl⟩ := hv
    rcases h3 with h3 | ⟨g, rfl, hB, hg, hfr, hcell⟩
    · exact absurd h3 h0
    · refine ⟨g, rfl, by rw [hf]; simp [rowOf, h0, Value.ownBlock], hnc, fun o v hv => ?_, hfr, hg⟩
      have ho : o < r.length := by have := (List.getElem?_eq_some_iff.1 hv).1; rw [ivs_len] at this; exact this
      rw [ivs_at ho, Option.some.injEq] at hv
      subst hv
      have := hcell o ho 0 _ rfl
      simp only [at_dI r ho, Dt.num, Nat.mul_one, Nat.add_zero] at this
      exact this
  refine ⟨a, c, rfl, ?_, key⟩
  by_cases h0 : r.length = 0
  · exact .inl (List.eq_nil_of_length_eq_zero (by rw [ivs_len]; exact h0))
  · obtain ⟨b, rfl, _, _, hb⟩ := key h0
    exact .inr ⟨b, 0, rfl, hb.2.2, fun j u hu => by rw [Nat.zero_add]; exact hb.1 j u hu⟩
theorem ints_at {w : World} {b : Nat} {r : List Int} {c : Nat} (h : Blk w b (ivs r)) (h0 : r.length ≠ 0) (hc : r.length ≤ c) : Own w (.sl .int) [.slice (some ⟨b, 0, none⟩) r.length c] (.sl (dI r)) [b] := by
  have ho : ∀ r : List Int, OwnL w (List.replicate r.length .int) (ivs r) (dI r) [] := by
    intro r
    induction r with
    | nil => exact .nil
    | cons x r ih => exact OwnL.cons (cs := [.int .i64 x]) (fp := []) (.int x) ih
  exact own_sl h (ho r) (fun k hk => (List.mem_replicate.1 hk).2) (len_dI r) h0 hc
theorem OwnL.nth {w : World} {e : Kd} (he : e.sz = 1) : ∀ {n : Nat} {P : List Value} {es : List Dt} {fq : List Nat}, OwnL w (List.replicate n e) P es fq → ∀ {k : Nat}, k < n → ∃ v d f, P[k]? = some v ∧ es[k]? = some d ∧ Own w e [v] d f ∧ (∀ b ∈ f, b ∈ fq) ∧
    (fq.Nodup → ∀ (w' : World) (d' : Dt), Turns w w' (fun b => b ∈ f) → Own w' e [v] d' f → OwnL w' (List.replicate n e) P (es.set k d') fq)
  | 0, _, _, _, _, k, hk => by omega
  | n + 1, _, _, _, h, k, hk => by
    rw [List.replicate_succ] at h
    cases h with
    | @cons _ cs d fp _ cs' ds fp' h r =>
      have hl := h.len
      rw [he] at hl
      obtain ⟨v, rfl⟩ : ∃ v, cs = [v] := by
        match cs, hl with
        | [v], _ => exact ⟨v, rfl⟩
      cases k with
      | zero =>
        refine ⟨v, d, fp, rfl, rfl, h, fun b hb => List.mem_append_left _ hb, fun hn w' d' ht hd => ?_⟩
        obtain ⟨_, _, dj⟩ := nodup_parts hn
        exact OwnL.cons (cs := [v]) hd (r.turned ht (fun b hb hf => dj b hf hb))
      | succ k =>
        obtain ⟨u, d1, f, h1, h2, h3, h4, h5⟩ := OwnL.nth he r (k := k) (by omega)
        refine ⟨u, d1, f, by simpa using h1, by simpa using h2, h3, fun b hb => List.mem_append_right _ (h4 b hb), fun hn w' d' ht hd => ?_⟩
        obtain ⟨_, n2, dj⟩ := nodup_parts hn
        exact OwnL.cons (cs := [v]) (h.turned ht (fun b hb hf => dj b hb (h4 b hf))) (h5 n2 w' d' ht hd)
theorem own_ss {w : World} {v : Value} {R : List (List Int)} {fp : List Nat} (h : Own w KSS [v] (.sl (dR R)) fp) : ∃ a c, v = .slice a R.length c ∧ RR w a R ∧ (R.length ≠ 0 → ∃ g P fq, a = some ⟨g, 0, none⟩ ∧ fp = g :: fq ∧ R.length ≤ c ∧ Blk w g P ∧ OwnL w (List.replicate R.length (.sl .int)) P (dR R) fq) := by
  rcases h.sl_is with ⟨a, cap, rfl, hd, hf⟩ | ⟨g, n, cap, es, P, fq, rfl, hd, hf, hl, hn, hnc, hP, ho, hb⟩
  · have : R = [] := by
      cases R with
      | nil => rfl
      | cons r R => simp [dR] at hd
    subst this
    exact ⟨a, cap, rfl, .inl rfl, fun h => absurd rfl h⟩
  · simp only [Dt.sl.injEq] at hd
    subst hd
    rw [len_dR] at hl
    subst hl
    refine ⟨_, _, rfl, .inr ⟨g, 0, rfl, hb.2.2, fun i hi => ?_⟩, fun _ => ⟨g, P, fq, rfl, hf, hnc, hb, ho⟩⟩
    obtain ⟨v, d, f, h1, h2, h3, _⟩ := OwnL.nth rfl ho hi
    rw [dR_at R i hi, Option.some.injEq] at h2
    subst h2
    obtain ⟨a', c', rfl, hlie, _⟩ := own_ints h3
    exact ⟨a', c', by rw [Nat.zero_add]; exact hb.1 i _ h1, hlie⟩
theorem ss_own {w : World} {g c : Nat} {P : List Value} {R : List (List Int)} {fq : List Nat} (hb : Blk w g P) (ho : OwnL w (List.replicate R.length (.sl .int)) P (dR R) fq) (h0 : R.length ≠ 0) (hc : R.length ≤ c) : Own w KSS [.slice (some ⟨g, 0, none⟩) R.length c] (.sl (dR R)) (g :: fq) :=
  own_sl hb ho (fun k hk => (List.mem_replicate.1 hk).2) (len_dR R) h0 hc
end Go.Proofs.Ytbdjnfnphilklaa.Own
