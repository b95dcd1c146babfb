/-
  Texts of this seat, laid together: As9b, Lw9
-/
import Derived.Test.YtbdjnfnphilklaaGreatV24
import Derived.Test.YtbdjnfnphilklaaGreatV07
import Derived.Test.YtbdjnfnphilklaaGreatV26
import Derived.Test.YtbdjnfnphilklaaGreatV23
namespace Go.Proofs.YtbdjnfnphilklaaGreat.Ins
open Go.ChangeShapes Go.WideShapes Go.ChangeAt Go.RowKit
open Kit Point
set_option linter.unusedVariables false
set_option linter.unusedSimpArgs false
set_option linter.unnecessarySimpa false
def BoxIn (w : World) (B : Nat) (x0 y0 x1 y1 : Int) : Prop := w.heap[B]? = some (.cells #[.int .i64 x0, .int .i64 y0, .int .i64 x1, .int .i64 y1] 51 (0, 0))
theorem BoxIn.lt {w : World} {B : Nat} {x0 y0 x1 y1 : Int} (h : BoxIn w B x0 y0 x1 y1) : B < w.heap.size := (Array.getElem?_eq_some_iff.1 h).1
theorem BoxIn.lay {w : World} {B : Nat} {x0 y0 x1 y1 : Int} (h : BoxIn w B x0 y0 x1 y1) : w.cell? ⟨B, 2, none⟩ = some (.int .i64 x1) := by simp [World.cell?, show w.heap[B]? = _ from h]
theorem BoxIn.keep {w w' : World} {B : Nat} {x0 y0 x1 y1 : Int} (h : BoxIn w B x0 y0 x1 y1) (hb : Below w.heap.size w w') : BoxIn w' B x0 y0 x1 y1 := (hb.block B h.lt).trans h
theorem BoxIn.app {W w3 : World} {B n0 k : Nat} {x0 y0 x1 y1 : Int} {v : Value} {xs : List Value} {tmp : Obj} (h : BoxIn W B x0 y0 x1 y1) (hown : W.ownsRow n0 105 2 v k xs) (hg : (W.alloc tmp).grownBy w3 v.ownBlock) : BoxIn w3 B x0 y0 x1 y1 := by
  refine (hg.block B (by rw [World.size_alloc]; have := h.lt; omega) fun e => ?_).trans ((Below.heap_alloc _ _ _ h.lt).trans h)
  rcases hown.2 with ⟨rfl, _⟩ | ⟨g, cap, cur, rfl, _, hgb, _⟩
  · simp [Value.ownBlock] at e
  · obtain rfl : B = g := by simpa [Value.ownBlock] using e
    rw [show W.heap[B]? = _ from h] at hgb
    simp at hgb
theorem step_at {f : Int → Bool} {x : Int} {r : Bool} (out : List Pt) (on : Bool) (fr : Int) (h : f x = r) : Scn.step f ⟨out, on, fr⟩ x = ⟨if r = false ∧ on = true then out ++ [(fr, x)] else out, r, if r = true ∧ on = false then x else fr⟩ := by subst h; rfl
theorem sps_bad {l : List Pt} {y : Int} (h : (pathB l && inB y) = false) : spsV l y = [] := by unfold spsV; rw [h]; rfl
set_option maxRecDepth 100000 in
set_option maxHeartbeats 4000000 in
theorem sa_spec (w : World) (a : Option Addr) (c : Nat) (l : List Pt) (y : Int) (hn : l.length ≤ 1048576) (h : PathAt w a l) :
    Calls Tryz.prog 113 #[.slice a l.length c, .int .i64 y] w (SpIs w (spsV l y)) := by
  obtain ⟨i0, hi0, hz0, hz1, hz2⟩ := info_parts info_sp9
  have hpa := h.on ((Below.refl _ w).alloc (Nat.le_refl _) (.cells #[] 105))
  have ho0 := World.ownsRow_made w #[] (e := 105) (size := 2) 0 (Nat.le_refl _) (by decide) (by simp)
  have H := Lib.hid (And.intro h (And.intro hn (And.intro hpa ho0)))
  clear h hn hpa ho0
  rcases (show pathB l = false ∨ (pathB l = true ∧ inB y = false) ∨ (pathB l = true ∧ inB y = true) by cases pathB l <;> cases inB y <;> simp) with h1 | ⟨h1, h2⟩ | ⟨h1, h2⟩
  · rw [sps_bad (by rw [h1]; rfl)]
    go_enter Tryz.func113, Tryz.ntmps113
    go_wp2_with fail
    ((with_reducible refine (pts_spec _ _ _ _ H.out.2.1 H.out.2.2.1).mono ?_); rintro e w1 ⟨rfl, bb⟩)
    have HB1 := Lib.hid (on_of (W := w) (by go_grown) bb)
    have HO := Lib.hid (owns_below H.out.2.2.2 bb)
    clear bb
    rw [h1]
    go_wp2
    go_ret
    exact ⟨_, rfl, HO.out, HB1.out⟩
  · rw [sps_bad (by rw [h1, h2]; rfl)]
    go_enter Tryz.func113, Tryz.ntmps113
    go_wp2_with fail
    ((with_reducible refine (pts_spec _ _ _ _ H.out.2.1 H.out.2.2.1).mono ?_); rintro e w1 ⟨rfl, bb⟩)
    have HB1 := Lib.hid (on_of (W := w) (by go_grown) bb)
    have HO := Lib.hid (owns_below H.out.2.2.2 bb)
    clear bb
    rw [h1]
    go_wp2_with (go_at_call 128; refine (in2_any _ _).mono ?_; rintro e w' ⟨rfl, rfl⟩)
    go_ret
    exact ⟨_, rfl, HO.out, HB1.out⟩
  · have hpts : ptsB l = true := by simp only [pathB, Bool.and_eq_true] at h1; exact h1.2
    have hv : spsV l y = prs (colsK l y l.length) := by simp [spsV, h1, h2]
    rw [hv]
    have HY := Lib.hid (And.intro hpts h2)
    clear hv hpts
    go_enter Tryz.func113, Tryz.ntmps113
    go_wp2_with fail
    ((with_reducible refine (pts_spec _ _ _ _ H.out.2.1 H.out.2.2.1).mono ?_); rintro e w1 ⟨rfl, bb⟩)
    have HB1 := Lib.hid (on_of (W := w) (by go_grown) bb)
    have HO1 := Lib.hid (owns_below H.out.2.2.2 bb)
    clear bb
    rw [h1]
    go_wp2_with (go_at_call 128; refine (in2_any _ _).mono ?_; rintro e w' ⟨rfl, rfl⟩)
    obtain ⟨x0, y0, x1, y1, hx, hall, hbox⟩ := box_at w1 a c l H.out.2.1 (H.out.1.on HB1.out) HY.out.1
    have hsc := scn_sps (l := l) (y := y) (X0 := x0) (X1 := x1) ⟨hx.1, hx.2.1⟩ hx.2.2 hall
    have HX := Lib.hid (And.intro hsc hx)
    have HBX := Lib.hid hbox
    clear hsc hall hbox h1 h2
    ((with_reducible refine HBX.out.mono ?_); rintro e w2 ⟨rfl, bb⟩)
    have HB2 := Lib.hid (on_of HB1.out bb)
    have HO2 := Lib.hid (owns_below HO1.out bb)
    clear bb HBX
    have hb2 := HB2.out.size
    obtain ⟨K, hK⟩ : ∃ K, (x1 + 1 - x0).toNat = K := ⟨_, rfl⟩
    rw [hK] at HX
    have hKb : K ≤ 401 := by omega
    have hKx : x0 + (K : Int) = x1 + 1 := by omega
    rw [← HX.out.1]
    clear hK
    go_wp2
    obtain ⟨B, hB⟩ : ∃ B, w2.heap.size = B := ⟨_, rfl⟩
    have F0 : BoxIn (w2.alloc (.cells #[.int .i64 x0, .int .i64 y0, .int .i64 x1, .int .i64 y1] 51)) B x0 y0 x1 y1 := by rw [← hB]; exact World.alloc_heap_new w2 _
    rw [hB]
    go_loopw [5, 7, 8, 9] (fun v5 v7 v8 v9 wr => ∃ k : Nat, v9 = .int .i64 (x0 + (k : Int)) ∧ k ≤ K ∧ v7 = .int .i64 (scn (fun x => insP l x y) x0 k).from' ∧ v8 = .bool (scn (fun x => insP l x y) x0 k).on ∧
      wr.ownsRow w.heap.size 105 2 v5 (scn (fun x => insP l x y) x0 k).out.length (cellsP (scn (fun x => insP l x y) x0 k).out) ∧ Hid (BoxIn wr B x0 y0 x1 y1) ∧ Below w.heap.size w wr) (fun v5 v7 v8 v9 _ => (x1 + 1 - intOf v9).toNat)
    case atStart => exact ⟨0, by simp, Nat.zero_le _, rfl, rfl, HO2.out.alloc _, Lib.hid F0, HB2.out.alloc hb2 _⟩
    case round =>
      obtain ⟨k, rfl, hk, rfl, rfl, hown, hF, hBl⟩ := hrel
      have HB := Lib.hid hBl
      have HO := Lib.hid hown
      have hlen := scn_len (fun x => insP l x y) x0 k
      have hst : scn (fun x => insP l x y) x0 (k + 1) = (scn (fun x => insP l x y) x0 k).step (fun x => insP l x y) (x0 + (k : Int)) := rfl
      have f2 := hF.out.lay
      by_cases hlt : k < K
      · have i1 : x0 + (k : Int) ≤ x1 := by omega
        obtain ⟨s, hs⟩ : ∃ s, scn (fun x => insP l x y) x0 k = s := ⟨_, rfl⟩
        rw [hs] at hst HO hlen ⊢
        obtain ⟨out, on, fr⟩ := s
        dsimp only at HO hlen hst ⊢
        have HST := Lib.hid hst
        have hxin : inB (x0 + (k : Int)) = true := by have := HX.out.2; simp [inB]; omega
        have HXI := Lib.hid hxin
        clear hst hown hBl hs hxin
        go_wp2_with fail
        ((with_reducible refine (in_spec _ _ _ l _ y H.out.2.1 (H.out.1.on HB.out) HY.out.1 HXI.out HY.out.2).mono ?_); rintro e w4 ⟨rfl, bb⟩)
        have HB4 := Lib.hid (on_of HB.out bb)
        have HO4 := Lib.hid (owns_below HO.out bb)
        have HF4 := Lib.hid (hF.out.keep bb)
        clear bb f2
        obtain ⟨r, hr⟩ : ∃ r, insP l (x0 + (k : Int)) y = r := ⟨_, rfl⟩
        have HE : Hid (scn (fun x => insP l x y) x0 (k + 1) = ⟨if r = false ∧ on = true then out ++ [(fr, x0 + (k : Int))] else out, r, if r = true ∧ on = false then x0 + (k : Int) else fr⟩) := Lib.hid (HST.out.trans (step_at out on fr hr))
        rw [hr]
        have hw1 : IntKind.i64.wrap (x0 + (k : Int) + 1) = x0 + (k : Int) + 1 := by have := HX.out.2; rw [IntKind.wrap_i64]; omega
        have h4s := HB4.out.size
        clear hr HST
        cases r <;> cases on
        · go_wp2
          go_roundw
          case rel => exact ⟨k + 1, by rw [show (((k + 1 : Nat)) : Int) = (k : Int) + 1 by omega]; go_num, by omega, by rw [HE.out]; rfl, by rw [HE.out], by rw [HE.out]; exact HO4.out, HF4, HB4.out⟩
          case measure => simp [intOf]; omega
        · have HE' : Hid (scn (fun x => insP l x y) x0 (k + 1) = ⟨out ++ [(fr, x0 + (k : Int))], false, fr⟩) := Lib.hid (by rw [HE.out]; simp)
          go_wp2_with (at_builtin; refine wpList_append_own _ rfl _ _ 102 rfl w.heap.size 105 i0 _ 2 16 Tryz.underlying102 hi0 hz0 hz1 hz2 rfl (by decide) _ _ _ rfl (HO4.out.alloc _) ⟨w4.heap.size, 0, none⟩ 1 1 [.int .i64 fr, .int .i64 (x0 + (k : Int))] rfl rfl two_new (by simp [Value.oneCell']) (by unfold maxLen; omega) (by omega) (by simp; omega) ?_; intro v2 w5 hown2 hgrow _; have H5 := Lib.hid (And.intro hown2 (below_app HO4.out HB4.out h4s hgrow)); have HF5 := Lib.hid (HF4.out.app HO4.out hgrow); clear hown2 hgrow)
          go_roundw
          case rel => exact ⟨k + 1, by rw [show (((k + 1 : Nat)) : Int) = (k : Int) + 1 by omega]; go_num, by omega, by rw [HE'.out], by rw [HE'.out], by rw [HE'.out, cellsP_snoc, List.length_append]; exact H5.out.1, HF5, H5.out.2⟩
          case measure => simp [intOf]; omega
        · go_wp2
          go_roundw
          case rel => exact ⟨k + 1, by rw [show (((k + 1 : Nat)) : Int) = (k : Int) + 1 by omega]; go_num, by omega, by rw [HE.out]; rfl, by rw [HE.out], by rw [HE.out]; exact HO4.out, HF4, HB4.out⟩
          case measure => simp [intOf]; omega
        · go_wp2
          go_roundw
          case rel => exact ⟨k + 1, by rw [show (((k + 1 : Nat)) : Int) = (k : Int) + 1 by omega]; go_num, by omega, by rw [HE.out]; rfl, by rw [HE.out], by rw [HE.out]; exact HO4.out, HF4, HB4.out⟩
          case measure => simp [intOf]; omega
      · obtain rfl : k = K := by omega
        have i1 : ¬ (x0 + (k : Int) ≤ x1) := by omega
        clear hst hlen hown hBl
        go_wp2
        go_ret
        exact ⟨_, rfl, by rw [← HX.out.1]; exact HO.out, HB.out⟩
end Go.Proofs.YtbdjnfnphilklaaGreat.Ins
namespace Go.Proofs.YtbdjnfnphilklaaGreat.Ins
open Go.ChangeShapes Go.WideShapes Go.ChangeAt Go.RowKit
open Kit Point Slabs Recs
set_option linter.unusedVariables false
set_option linter.unusedSimpArgs false
set_option linter.unnecessarySimpa false
theorem recs_keep9 {w w' : World} {a : Option Addr} {n c : Nat} {z : Nat → Nat → Value} (h : IsRecs Spans.kl w a n c z) (hb : Below w.heap.size w w') : IsRecs Spans.kl w' a n c z := by
  obtain ⟨h1, h2, h3⟩ := h
  refine ⟨h1, h2, ?_⟩
  rcases h3 with h3 | ⟨g, o, ha, hg, h4⟩
  · exact .inl h3
  · exact .inr ⟨g, o, ha, Nat.lt_of_lt_of_le hg hb.size, fun i hi j kd hk => ⟨(hb.cell (p := ⟨g, _, none⟩) hg).trans (h4 i hi j kd hk).1, (h4 i hi j kd hk).2⟩⟩
theorem slab_path9 {w : World} {B n : Nat} {v : Value} {z : Nat → Nat → Value} (h : Slab w B v n 2 (fun i => [z i 0, z i 1])) (hs : Spans.Shape (fun i => [z i 0, z i 1]) n) :
    ∃ a c, v = .slice a (plst z n).length c ∧ PathAt w a (plst z n) := slab_path h (show Points.Shape _ _ from hs)
theorem pcF_shape9 (l : List Pt) (n : Nat) : Spans.Shape (pcF l) n := fun i _ => ⟨_, _, rfl⟩
theorem slab_owns9 {w : World} {B : Nat} {v : Value} {m : List Pt} (h : w.ownsRow B 105 2 v m.length (cellsP m)) : Slab w B v m.length 2 (pcF m) :=
  Slab.of_owns (by rw [flat_pc]; exact h) (pcF_len m)
variable {w : World} {B n : Nat} {v : Value} {z : Nat → Nat → Value}
theorem sok_spec_v (h : Slab w B v n 2 (fun i => [z i 0, z i 1])) (hs : Spans.Shape (fun i => [z i 0, z i 1]) n) (hn : n ≤ 1048576) :
    Calls Tryz.prog 127 #[v] w fun e w' => e = .returned (.bool (spB (plst z n))) ∧ Below w.heap.size w w' := by
  obtain ⟨a, c, rfl, hp⟩ := slab_path9 h hs; exact sok_spec w a c _ (by rw [plst_len]; exact hn) hp
theorem sok_impl_v (h : Slab w B v n 2 (fun i => [z i 0, z i 1])) (hs : Spans.Shape (fun i => [z i 0, z i 1]) n) (hn : n ≤ 1048576) :
    Calls Tryz.prog 133 #[v] w fun e w' => e = .returned (.bool (spB (plst z n))) ∧ Below w.heap.size w w' := by
  obtain ⟨a, c, rfl, hp⟩ := slab_path9 h hs; exact sok_impl w a c _ (by rw [plst_len]; exact hn) hp
theorem meet_spec_v (h : Slab w B v n 2 (fun i => [z i 0, z i 1])) (hs : Spans.Shape (fun i => [z i 0, z i 1]) n) (hn : n ≤ 1048576) (x y : Int) :
    Calls Tryz.prog 112 #[v, .int .i64 x, .int .i64 y] w fun e w' => ∃ u : Value, e = .returned u ∧ Slab w' w.heap.size u (mtV (plst z n) x y).length 2 (pcF (mtV (plst z n) x y)) ∧ Below w.heap.size w w' := by
  obtain ⟨a, c, rfl, hp⟩ := slab_path9 h hs
  exact (meet_spec w a c _ x y (by rw [plst_len]; exact hn) hp).mono fun e w' ⟨u, he, ho, hb⟩ => ⟨u, he, slab_owns9 ho, hb⟩
theorem meet_impl_v (h : Slab w B v n 2 (fun i => [z i 0, z i 1])) (hs : Spans.Shape (fun i => [z i 0, z i 1]) n) (hn : n ≤ 1048576) (x y : Int) :
    Calls Tryz.prog 123 #[v, .int .i64 x, .int .i64 y] w fun e w' => ∃ u : Value, e = .returned u ∧ Slab w' w.heap.size u (mtV (plst z n) x y).length 2 (pcF (mtV (plst z n) x y)) ∧ Below w.heap.size w w' := by
  obtain ⟨a, c, rfl, hp⟩ := slab_path9 h hs
  exact (meet_impl w a c _ x y (by rw [plst_len]; exact hn) hp).mono fun e w' ⟨u, he, ho, hb⟩ => ⟨u, he, slab_owns9 ho, hb⟩
theorem spsV_len (l : List Pt) (y : Int) : 2 * (spsV l y).length ≤ l.length := by
  unfold spsV
  split
  · have := cols_len l y l.length; rw [prs_len]; omega
  · simp
theorem sa_spec_v (h : Slab w B v n 2 (fun i => [z i 0, z i 1])) (hs : Points.Shape (fun i => [z i 0, z i 1]) n) (hn : n ≤ 1048576) (y : Int) :
    Calls Tryz.prog 113 #[v, .int .i64 y] w fun e w' => ∃ u : Value, e = .returned u ∧ Slab w' w.heap.size u (spsV (plst z n) y).length 2 (pcF (spsV (plst z n) y)) ∧ Below w.heap.size w w' := by
  obtain ⟨a, c, rfl, hp⟩ := slab_path h hs
  exact (sa_spec w a c _ y (by rw [plst_len]; exact hn) hp).mono fun e w' ⟨u, he, ho, hb⟩ => ⟨u, he, slab_owns9 ho, hb⟩
theorem sa_impl_v (h : Slab w B v n 2 (fun i => [z i 0, z i 1])) (hs : Points.Shape (fun i => [z i 0, z i 1]) n) (hn : n ≤ 1048576) (y : Int) :
    Calls Tryz.prog 135 #[v, .int .i64 y] w fun e w' => ∃ u : Value, e = .returned u ∧ Slab w' w.heap.size u (spsV (plst z n) y).length 2 (pcF (spsV (plst z n) y)) ∧ Below w.heap.size w w' := by
  obtain ⟨a, c, rfl, hp⟩ := slab_path h hs
  exact (sa_impl w a c _ y (by rw [plst_len]; exact hn) hp).mono fun e w' ⟨u, he, ho, hb⟩ => ⟨u, he, slab_owns9 ho, hb⟩
end Go.Proofs.YtbdjnfnphilklaaGreat.Ins
