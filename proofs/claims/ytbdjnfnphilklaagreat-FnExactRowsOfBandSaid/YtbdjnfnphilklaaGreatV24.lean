/-
  Texts of this seat, laid together: Sa9, Me9, Mm9, As9
-/
import Derived.Test.YtbdjnfnphilklaaGreatV23
import Derived.Test.YtbdjnfnphilklaaGreatV07
import Derived.Test.YtbdjnfnphilklaaGreatV09
import Derived.Test.YtbdjnfnphilklaaGreatV22
import Derived.Test.YtbdjnfnphilklaaGreatV17
namespace Go.Proofs.YtbdjnfnphilklaaGreat.Ins
open Go.ChangeShapes Go.WideShapes Go.ChangeAt Go.RowKit Go.Shelf
open Kit Point
set_option linter.unusedVariables false
set_option linter.unusedSimpArgs false
set_option linter.unnecessarySimpa false
attribute [local go_sem] Oper.semAt_some
theorem info_sp9 : (Tryz.prog.info? 105).map (fun i => (i.zero, i.size, i.bytes)) = some (some (.agg #[.int .i64 0, .int .i64 0]), 2, 16) := by kernel_rfl
def SpIs (w : World) (m : List Pt) (e : Ending) (w' : World) : Prop := ∃ v, e = .returned v ∧ w'.ownsRow w.heap.size 105 2 v m.length (cellsP m) ∧ Below w.heap.size w w'
theorem sp_none (w w' : World) (h : Below w.heap.size w w') : SpIs w [] (.returned (.slice none 0 0)) w' := ⟨_, rfl, World.ownsRow_nil _ _ _ _, h⟩
theorem two_new {V : World} {x y : Int} {T : TypeId} : ∀ j u, ([.int .i64 x, .int .i64 y] : List Value)[j]? = some u → (V.alloc (.cells #[.int .i64 x, .int .i64 y] T)).cell? ((⟨V.heap.size, 0, none⟩ : Addr).add j) = some u := by
  intro j u hj
  rw [Addr.add_lit]
  have hlt : j < 2 := by have := (List.getElem?_eq_some_iff.1 hj).1; simpa using this
  have : j = 0 ∨ j = 1 := by omega
  rcases this with rfl | rfl <;> (simp at hj; subst hj; simp [go_sem])
theorem hold_turn {n0 B k : Nat} {xs : List Value} {V V' : World} {row : Option Nat} (h : ∃ v, Boxed V B 102 v ∧ V.ownsRow n0 105 2 v k xs) (hg : V.grownBy V' row) (hr : ∀ r, row = some r → ∃ o : Obj, V.heap[r]? = some o ∧ o.isCells = false) :
    ∃ v, Boxed V' B 102 v ∧ V'.ownsRow n0 105 2 v k xs := by
  obtain ⟨v, h1, h2⟩ := h
  refine ⟨v, boxed_turn h1 hg hr, h2.kept hg ?_⟩
  rcases h2.2 with ⟨rfl, _⟩ | ⟨g, cap, cur, rfl, _, hgb, _⟩
  · exact .inl rfl
  · refine .inr fun e => ?_
    obtain ⟨o, ho, hc⟩ := hr g (by simpa [Value.ownBlock] using e.symm)
    rw [hgb] at ho; cases ho; cases hc
theorem keepT_app {V V1 : World} {B n0 k : Nat} {v v' : Value} {xs : List Value} {tmp : Obj} (h1 : Boxed V B 102 v) (h2 : V.ownsRow n0 105 2 v k xs) (hg : (V.alloc tmp).grownBy V1 v.ownBlock) : KeepT V (V1.setCell ⟨B, 0, none⟩ v') := by
  intro i c t z hi ht1 ht2
  have hlt := (Array.getElem?_eq_some_iff.1 hi).1
  have hiB : i ≠ B := by
    rintro rfl
    rw [show V.heap[i]? = _ from h1] at hi
    simp at hi; exact ht2 hi.2.1.symm
  have hiv : some i ≠ v.ownBlock := by
    intro e
    rcases h2.2 with ⟨rfl, _⟩ | ⟨g, cap, cur, rfl, _, hgb, _⟩
    · simp [Value.ownBlock] at e
    · obtain rfl : i = g := by simpa [Value.ownBlock] using e
      rw [hgb] at hi
      simp at hi; exact ht1 hi.2.1.symm
  rw [Below.heap_setCell _ _ _ i hiB, hg.block i (by rw [World.size_alloc]; omega) hiv, Below.heap_alloc _ _ _ hlt]
  exact hi
set_option maxRecDepth 100000 in
set_option maxHeartbeats 2000000 in
theorem sa_impl (w : World) (a : Option Addr) (c : Nat) (l : List Pt) (y : Int) (hn : l.length ≤ 1048576) (h : PathAt w a l) :
    Calls Tryz.prog 135 #[.slice a l.length c, .int .i64 y] w (SpIs w (spsV l y)) := by
  have H := Lib.hid (And.intro h hn)
  clear h hn
  rcases (show pathB l = false ∨ (pathB l = true ∧ inB y = false) ∨ (pathB l = true ∧ inB y = true) by cases pathB l <;> cases inB y <;> simp) with h1 | ⟨h1, h2⟩ | ⟨h1, h2⟩
  iterate 2
    · have hv : spsV l y = [] := by simp [spsV, *]
      rw [hv]
      clear hv
      go_enter Tryz.func135, Tryz.ntmps135
      go_wp2_with (first
        | (go_at_call 108; refine (path_impl _ _ _ _ H.out.2 H.out.1).mono ?_; rintro e w' ⟨rfl, hb⟩)
        | (go_at_call 136; refine (coord_any _ _).mono ?_; rintro e w' ⟨rfl, rfl⟩))
      go_ret
      exact sp_none _ _ (by assumption)
  · have hv : spsV l y = prs (colsK l y l.length) := by simp [spsV, *]
    have hpts : ptsB l = true := by simp only [pathB, Bool.and_eq_true] at h1; exact h1.2
    have h8 : l.length ≤ 8 := by simp only [pathB, Bool.and_eq_true, decide_eq_true_eq] at h1; exact h1.1
    have HK := Lib.hid (And.intro hv (And.intro hpts (And.intro h2 h8)))
    rw [hv]
    clear hv hpts h8
    have hnd : ∀ k, Fence.wide.depth.isSome = true → 1 ≤ k := fun k h => by simp [Fence.wide] at h
    obtain ⟨q, _⟩ : ∃ q : Nat, q = q := ⟨0, rfl⟩
    refine (callsIn_wide (n := q)).1 ?_
    refine callsIn_of_wp_marks Tryz.func135 rfl trivial ?_ rfl
    simp only [Tryz.ntmps135, List.size_toArray, List.length_cons, List.length_nil, Nat.reduceAdd, Nat.reduceSub, Array.replicate_succ, Array.replicate_zero, List.push_toArray, List.append_toArray, List.nil_append, List.cons_append]
    gi_wp2_with fail
    refine ⟨trivial, hnd _, (callsIn_wide.2 (path_impl _ _ _ _ H.out.2 H.out.1)).mono ?_⟩
    rintro e w1 ⟨rfl, hb1⟩
    have HB1 := Lib.hid hb1
    clear hb1
    gi_wp2_with fail
    refine ⟨trivial, hnd _, (callsIn_wide.2 (coord_any _ _)).mono ?_⟩
    rintro e w2 ⟨rfl, rfl⟩
    gi_wp2_with fail
    refine ⟨trivial, hnd _, (callsIn_wide.2 (sr_call _ _ _ _ _)).mono ?_⟩
    rintro e w3 ⟨rfl, rfl⟩
    gi_wp2_with fail
    obtain ⟨i0, hi0, hz0, hz1, hz2⟩ := info_parts info_sp9
    obtain ⟨W, hW⟩ : ∃ W, (((w1.alloc (.cells #[.slice none 0 0] 102)).alloc (.cells #[.slice a l.length c] 50)).alloc (.cells #[.int .i64 y] 3)) = W := ⟨_, rfl⟩
    have hWs : W.heap.size = w1.heap.size + 3 := by rw [← hW]; simp
    have hWb : Below w1.heap.size w1 W := by rw [← hW]; go_grown
    have hS0 : Boxed W w1.heap.size 102 (.slice none 0 0) := by rw [← hW]; exact ((Boxed.new w1 _ _).alloc _).alloc _
    have hB0 : Boxed W (w1.heap.size + 1) 50 (.slice a l.length c) := by
      have := Boxed.new (w1.alloc (.cells #[.slice none 0 0] 102)) 50 (.slice a l.length c)
      rw [World.size_alloc] at this
      rw [← hW]; exact this.alloc _
    have hB1 : Boxed W (w1.heap.size + 1 + 1) 3 (.int .i64 y) := by
      have := Boxed.new ((w1.alloc (.cells #[.slice none 0 0] 102)).alloc (.cells #[.slice a l.length c] 50)) 3 (.int .i64 y)
      rw [World.size_alloc, World.size_alloc] at this
      rw [← hW]; exact this
    rw [hW]
    clear hW
    have hwW : Below w.heap.size w W := on_of HB1.out hWb
    have hw1 := HB1.out.size
    have hG := sr_gives (w1.heap.size + 1) (w1.heap.size + 1 + 1) a c l y W (by have := HK.out.2.2.2; omega) (H.out.1.on hwW) HK.out.2.1 HK.out.2.2.1 hB0 hB1
    have hlen : (prs (colsK l y l.length)).length ≤ 8 := by
      have h1 := cols_len l y l.length
      have h2 := HK.out.2.2.2
      rw [prs_len]; omega
    generalize prs (colsK l y l.length) = sp at *
    refine range_all (gf := 141) (lb := #[.pointer (some ⟨w1.heap.size + 1, 0, none⟩), .pointer (some ⟨w1.heap.size + 1 + 1, 0, none⟩)]) rfl (enters_of Tryz.func141 (by kernel_rfl) rfl)
      hG (fun h k => KeepT.trans h k) KeepT.putObj (fun _ => rfl)
      (fun pre V => (∃ v, Boxed V w1.heap.size 102 v ∧ V.ownsRow w.heap.size 105 2 v pre.length (cellsP pre)) ∧ Below w.heap.size w V) ?hI ⟨⟨_, hS0, World.ownsRow_nil _ _ _ _⟩, hwW⟩
      (fun pre p b V => ∃ Bx, b = { tmps := #[.slice a l.length c, .int .i64 y, undef, undef, .slice none 0 0, .pointer (some ⟨w1.heap.size, 0, none⟩), .pointer (some ⟨Bx, 0, none⟩), .slice a l.length c, .bool true, .bool false, .bool false, .int .i64 y, .bool true, .bool false, .bool false, .slice a l.length c, .int .i64 y,
          .func (.func 141) #[] #[.pointer (some ⟨w1.heap.size + 1, 0, none⟩), .pointer (some ⟨w1.heap.size + 1 + 1, 0, none⟩)], .agg #[.int .i64 p.1, .int .i64 p.2], undef, undef, undef, undef, undef], defers := [] } ∧
        V.heap[Bx]? = some (.cells #[.int .i64 p.1, .int .i64 p.2] 105 (0, 0)) ∧ (∃ v, Boxed V w1.heap.size 102 v ∧ V.ownsRow w.heap.size 105 2 v pre.length (cellsP pre)) ∧ Below w.heap.size w V) ?hAx ?assign ?body ?done
    case hI =>
      rintro s X Y row ⟨h1, h2⟩ hg hr
      exact ⟨hold_turn h1 hg fun r e => (hr r e).2, ownFrom_below (β := Unit) (Nat.le_refl _) (by omega) () X Y row h2 hg hr⟩
    case hAx =>
      rintro pre p b s X Y row ⟨Bx, hb, hbx, h1, h2⟩ hg hr
      refine ⟨Bx, hb, ?_, hold_turn h1 hg fun r e => (hr r e).2, ownFrom_below (β := Unit) (Nat.le_refl _) (by omega) () X Y row h2 hg hr⟩
      refine (hg.block Bx (Array.getElem?_eq_some_iff.1 hbx).1 fun e => ?_).trans hbx
      obtain ⟨o, ho, hc⟩ := (hr Bx e.symm).2
      rw [hbx] at ho; cases ho; cases hc
    case assign =>
      rintro l0 m0 pre p suf V hx ⟨⟨v, h1, h2⟩, h3⟩
      gi_wp2
      refine ⟨(KeepsOthers.alloc _ _).from _, KeepT.below ((Below.refl _ V).alloc (Nat.le_refl _) _), ⟨V.heap.size, by first | rfl | trivial, World.alloc_heap_new _ _, ⟨v, h1.alloc _, h2.alloc _⟩, h3.alloc h3.size _⟩⟩
    case body =>
      rintro l0 m0 pre p suf b V hx ⟨Bx, rfl, hbx, ⟨v, h1, h2⟩, h3⟩
      have hpl : pre.length < 8 := by rw [hx] at hlen; simp at hlen; omega
      have c1 := h1.cell
      have c2 : V.cell? ⟨Bx, 0, none⟩ = some (.int .i64 p.1) := by simp [World.cell?, hbx]
      have c3 : V.cell? ⟨Bx, 1, none⟩ = some (.int .i64 p.2) := by simp [World.cell?, hbx]
      have hle : w.heap.size ≤ V.heap.size := h3.size
      clear hbx
      gi_wp2_with (gi_at_builtin; refine wpListIn_append_own _ rfl _ _ 102 rfl w.heap.size 105 i0 _ 2 16 Tryz.underlying102 hi0 hz0 hz1 hz2 rfl (by decide) _ _ _ rfl (h2.alloc _) ⟨V.heap.size, 0, none⟩ 1 1 [.int .i64 p.1, .int .i64 p.2] rfl rfl two_new (by simp [Value.oneCell']) (by unfold maxLen; omega) (by omega) (by simp; omega) ?_; intro v' w4 hown' hgrow _; obtain ⟨g', cap', rfl⟩ := ownsRow_succ hown'; obtain ⟨hv1, hv2, hr2, hk2, hb2⟩ := h1.appended (by decide) h2 hle hw1 hown' hgrow; have hc1 := hv1.cell; have hf1 := hv1.frozen)
      refine ⟨hk2.from _, keepT_app h1 h2 hgrow, ⟨_, hv2, ?_⟩, h3.trans hb2⟩
      rw [cellsP_snoc, List.length_append]; exact hr2
    case done =>
      rintro D V hD ⟨⟨v, h1, h2⟩, h3⟩ hK
      have c1 := h1.cell
      gi_wp2
      refine ⟨by simp, .inl ⟨_, _, rfl, run_takeDeferred hK, ?_⟩⟩
      exact ⟨_, results_tmp rfl _ _ _, _, rfl, ownsRow_putObj h2 _ hK rfl, h3.grown (grownBy_putObj' V D _) h3.size (fun k e => by cases e; omega)⟩
end Go.Proofs.YtbdjnfnphilklaaGreat.Ins
namespace Go.Proofs.YtbdjnfnphilklaaGreat.Ins
open Go.ChangeShapes Go.WideShapes Go.ChangeAt Go.RowKit
open Kit Point
set_option linter.unusedVariables false
set_option linter.unusedSimpArgs false
set_option linter.unnecessarySimpa false
attribute [local go_sem ↓] run_mx run_mn
def mtK (l : List Pt) (a b : Int) : Nat → List Pt
  | 0 => []
  | k + 1 => if mx (pX l k) a < mn (pY l k) b then mtK l a b k ++ [(mx (pX l k) a, mn (pY l k) b)] else mtK l a b k
theorem mtK_len (l : List Pt) (a b : Int) : ∀ k, (mtK l a b k).length ≤ k
  | 0 => Nat.le_refl _
  | k + 1 => by
    have := mtK_len l a b k
    rw [mtK]; split
    · simp; omega
    · omega
def mtV (l : List Pt) (a b : Int) : List Pt := if spB l then mtK l a b l.length else []
theorem mt_bad {l : List Pt} (a b : Int) (h : spB l = false) : mtV l a b = [] := by simp [mtV, h]
theorem mt_good {l : List Pt} (a b : Int) (h : spB l = true) : mtV l a b = mtK l a b l.length := by simp [mtV, h]
theorem mtV_len (l : List Pt) (a b : Int) : (mtV l a b).length ≤ l.length := by
  unfold mtV; split
  · exact mtK_len l a b _
  · simp
theorem below_app {B k : Nat} {w W w3 : World} {T : TypeId} {v : Value} {xs : List Value} {tmp : Obj} (hown : W.ownsRow B T 2 v k xs) (hB : Below B w W) (hs : B ≤ W.heap.size) (hg : (W.alloc tmp).grownBy w3 v.ownBlock) : Below B w w3 :=
  (hB.alloc hs tmp).grown hg (by simp; omega) (fun p hp => ((hown.alloc tmp).lt p hp).1)
set_option maxRecDepth 100000 in
set_option maxHeartbeats 2000000 in
theorem meet_impl (w : World) (a : Option Addr) (c : Nat) (l : List Pt) (x y : Int) (hn : l.length ≤ 1048576) (h : PathAt w a l) :
    Calls Tryz.prog 123 #[.slice a l.length c, .int .i64 x, .int .i64 y] w (SpIs w (mtV l x y)) := by
  obtain ⟨i0, hi0, hz0, hz1, hz2⟩ := info_parts info_sp9
  have hok := sok_impl w a c l hn h
  have H := Lib.hid (And.intro h hn)
  obtain ⟨n, hN⟩ : ∃ n, l.length = n := ⟨_, rfl⟩
  have HN := Lib.hid hN
  rw [hN] at hn hok ⊢
  clear hN
  cases hs : spB l
  · rw [mt_bad x y hs]
    rw [hs] at hok
    have HK := Lib.hid hok
    clear hs hok h
    go_enter Tryz.func123, Tryz.ntmps123
    go_wp2_with fail
    ((with_reducible refine HK.out.mono ?_); rintro e w1 ⟨rfl, bb⟩)
    go_wp2
    go_ret
    exact sp_none _ _ bb
  · rw [mt_good x y hs, HN.out]
    have h8 : n ≤ 8 := by simp only [spB, Bool.and_eq_true, decide_eq_true_eq] at hs; have := HN.out; omega
    rw [hs] at hok
    have HK := Lib.hid hok
    clear hs hok
    rcases h with rfl | ⟨g, rfl, hg, _⟩
    · obtain rfl : 0 = n := HN.out
      go_enter Tryz.func123, Tryz.ntmps123
      go_wp2_with fail
      ((with_reducible refine HK.out.mono ?_); rintro e w1 ⟨rfl, bb⟩)
      go_wp2
      go_rounds 1
      go_ret
      exact sp_none _ _ bb
    · go_enter Tryz.func123, Tryz.ntmps123
      go_wp2_with fail
      ((with_reducible refine HK.out.mono ?_); rintro e w1 ⟨rfl, bb⟩)
      have HB1 := Lib.hid bb
      clear bb
      go_wp2
      go_loopw [7, 16] (fun v7 v16 wr => ∃ k : Nat, v16 = .int .i64 (k : Int) ∧ k ≤ n ∧ wr.ownsRow w.heap.size 105 2 v7 (mtK l x y k).length (cellsP (mtK l x y k)) ∧ Below w.heap.size w wr) (fun v7 v16 _ => n - (intOf v16).toNat)
      case atStart => exact ⟨0, rfl, Nat.zero_le _, World.ownsRow_nil _ _ _ _, HB1.out⟩
      case round =>
        obtain ⟨k, rfl, hk, hown, hB⟩ := hrel
        have HB := Lib.hid hB
        have HO := Lib.hid hown
        by_cases hlt : k < n
        · obtain ⟨hlg, q1, q2⟩ := (H.out.1.on hB).cells (k := k) (by rw [HN.out]; exact hlt)
          have i0' : (0 : Int) ≤ (k : Int) := by omega
          have i1 : (k : Int) < (n : Int) := by omega
          have hd : mtK l x y (k + 1) = if mx (pX l k) x < mn (pY l k) y then mtK l x y k ++ [(mx (pX l k) x, mn (pY l k) y)] else mtK l x y k := rfl
          have hml := mtK_len l x y k
          obtain ⟨p, hp⟩ : ∃ p, pX l k = p := ⟨_, rfl⟩
          obtain ⟨q, hq⟩ : ∃ q, pY l k = q := ⟨_, rfl⟩
          rw [hp] at q1; rw [hq] at q2
          rw [hp, hq] at hd
          have HD := Lib.hid hd
          clear hB hown hp hq hd
          go_wp2_with fail
          ((with_reducible refine (hasc_impl _ _ _).mono ?_); rintro e w4 ⟨rfl, bb⟩)
          have e0 := (bcell bb).1 (wr.heap.size + 1) 0 (by simp)
          have e1 := (bcell bb).1 (wr.heap.size + 1) 1 (by simp)
          have p0 : w4.cell? ⟨wr.heap.size + 1, 0, none⟩ = some (.int .i64 (mx p x)) := by rw [e0]; simp [go_sem]
          have p1 : w4.cell? ⟨wr.heap.size + 1, 1, none⟩ = some (.int .i64 (mn q y)) := by rw [e1]; simp [go_sem]
          have hb4 : Below wr.heap.size wr w4 := on_of (W := wr) (by go_grown) bb
          have HB4 := Lib.hid (HB.out.trans (hb4.mono HB.out.size))
          have hown4 : w4.ownsRow w.heap.size 105 2 u7 (mtK l x y k).length (cellsP (mtK l x y k)) := owns_below HO.out hb4
          have HO4 := Lib.hid hown4
          have hs4 : wr.heap.size + 1 < w4.heap.size := by have := bb.size; simp at this; omega
          clear bb e0 e1 hb4 hown4 q1 q2 hlg
          generalize wr.heap.size + 1 = g1 at *
          generalize mx p x = m0 at *
          generalize mn q y = m1 at *
          have h4s := HB4.out.size
          by_cases hm : m0 < m1
          · have HE := Lib.hid (show mtK l x y (k + 1) = mtK l x y k ++ [(m0, m1)] by rw [HD.out, if_pos hm])
            rw [decide_eq_true hm]
            go_wp2_with (at_builtin; refine wpList_append_own _ rfl _ _ 102 rfl w.heap.size 105 i0 _ 2 16 Tryz.underlying102 hi0 hz0 hz1 hz2 rfl (by decide) _ _ _ rfl (HO4.out.alloc _) ⟨w4.heap.size, 0, none⟩ 1 1 [.int .i64 m0, .int .i64 m1] rfl rfl two_new (by simp [Value.oneCell']) (by unfold maxLen; omega) (by omega) (by simp; omega) ?_; intro v2 w5 hown2 hgrow _; have H5 := Lib.hid (And.intro hown2 (below_app HO4.out HB4.out h4s hgrow)); clear hown2 hgrow p0 p1)
            go_roundw
            case rel => exact ⟨k + 1, by go_num, by omega, by rw [HE.out, cellsP_snoc, List.length_append]; exact H5.out.1, H5.out.2⟩
            case measure => simp [intOf]; omega
          · have HE := Lib.hid (show mtK l x y (k + 1) = mtK l x y k by rw [HD.out, if_neg hm])
            rw [decide_eq_false hm]
            clear p0 p1
            go_wp2
            go_roundw
            case rel => exact ⟨k + 1, by go_num, by omega, by rw [HE.out]; exact HO4.out, HB4.out⟩
            case measure => simp [intOf]; omega
        · obtain rfl : k = n := by omega
          clear hB hown
          go_wp2
          go_ret
          exact ⟨_, rfl, HO.out, HB.out⟩
end Go.Proofs.YtbdjnfnphilklaaGreat.Ins
namespace Go.Proofs.YtbdjnfnphilklaaGreat.Ins
open Go.ChangeShapes Go.WideShapes Go.ChangeAt Go.RowKit
open Kit Point
set_option linter.unusedVariables false
set_option linter.unusedSimpArgs false
set_option linter.unnecessarySimpa false
attribute [local go_sem ↓] run_mx run_mn
theorem sp_made (w w' : World) (h : Below w.heap.size w w') : SpIs w [] (.returned (.slice (some ⟨w'.heap.size, 0, none⟩) 0 0)) (w'.alloc (.cells #[] 105)) :=
  ⟨_, rfl, World.ownsRow_made w' #[] (e := 105) (size := 2) 0 h.size (by decide) (by simp), h.alloc h.size _⟩
set_option maxRecDepth 100000 in
set_option maxHeartbeats 2000000 in
theorem meet_spec (w : World) (a : Option Addr) (c : Nat) (l : List Pt) (x y : Int) (hn : l.length ≤ 1048576) (h : PathAt w a l) :
    Calls Tryz.prog 112 #[.slice a l.length c, .int .i64 x, .int .i64 y] w (SpIs w (mtV l x y)) := by
  obtain ⟨i0, hi0, hz0, hz1, hz2⟩ := info_parts info_sp9
  have hok := fun (W : World) (hW : PathAt W a l) => sok_spec W a c l hn hW
  have H := Lib.hid (And.intro h hn)
  have hpa := h.on ((Below.refl _ w).alloc (Nat.le_refl _) (.cells #[] 105))
  have ho0 := World.ownsRow_made w #[] (e := 105) (size := 2) 0 (Nat.le_refl _) (by decide) (by simp)
  have H0 := Lib.hid (And.intro hpa ho0)
  clear hpa ho0
  obtain ⟨n, hN⟩ : ∃ n, l.length = n := ⟨_, rfl⟩
  have HN := Lib.hid hN
  rw [hN] at hn hok ⊢
  clear hN
  cases hs : spB l
  · rw [mt_bad x y hs]
    rw [hs] at hok
    have HK := Lib.hid hok
    clear hs hok h
    go_enter Tryz.func112, Tryz.ntmps112
    go_wp2_with fail
    ((with_reducible refine (HK.out _ H0.out.1).mono ?_); rintro e w1 ⟨rfl, bb⟩)
    have HB1 := Lib.hid (on_of (W := w) (by go_grown) bb)
    have HO := Lib.hid (owns_below H0.out.2 bb)
    clear bb
    go_wp2
    go_ret
    exact ⟨_, rfl, HO.out, HB1.out⟩
  · rw [mt_good x y hs, HN.out]
    have h8 : n ≤ 8 := by simp only [spB, Bool.and_eq_true, decide_eq_true_eq] at hs; have := HN.out; omega
    rw [hs] at hok
    have HK := Lib.hid hok
    clear hs hok
    rcases h with rfl | ⟨g, rfl, hg, _⟩
    · obtain rfl : 0 = n := HN.out
      go_enter Tryz.func112, Tryz.ntmps112
      go_wp2_with fail
      ((with_reducible refine (HK.out _ H0.out.1).mono ?_); rintro e w1 ⟨rfl, bb⟩)
      have HB1 := Lib.hid (on_of (W := w) (by go_grown) bb)
      have HO := Lib.hid (owns_below H0.out.2 bb)
      clear bb
      go_wp2
      go_rounds 1
      go_ret
      exact ⟨_, rfl, HO.out, HB1.out⟩
    · go_enter Tryz.func112, Tryz.ntmps112
      go_wp2_with fail
      ((with_reducible refine (HK.out _ H0.out.1).mono ?_); rintro e w1 ⟨rfl, bb⟩)
      have HB1 := Lib.hid (on_of (W := w) (by go_grown) bb)
      have HO1 := Lib.hid (owns_below H0.out.2 bb)
      clear bb
      go_wp2
      go_loopw [7, 8] (fun v7 v8 wr => ∃ k : Nat, v8 = .int .i64 (k : Int) ∧ k ≤ n ∧ wr.ownsRow w.heap.size 105 2 v7 (mtK l x y k).length (cellsP (mtK l x y k)) ∧ Below w.heap.size w wr) (fun v7 v8 _ => n - (intOf v8).toNat)
      case atStart => exact ⟨0, rfl, Nat.zero_le _, HO1.out, HB1.out⟩
      case round =>
        obtain ⟨k, rfl, hk, hown, hB⟩ := hrel
        have HB := Lib.hid (drew_on hB)
        have HO := Lib.hid (show wr.drew.ownsRow w.heap.size 105 2 u7 (mtK l x y k).length (cellsP (mtK l x y k)) from hown)
        by_cases hlt : k < n
        · obtain ⟨hlg, q1, q2⟩ := (H.out.1.on hB).cells (k := k) (by rw [HN.out]; exact hlt)
          have i0' : (0 : Int) ≤ (k : Int) := by omega
          have i1 : (k : Int) < (n : Int) := by omega
          have hd : mtK l x y (k + 1) = if mx (pX l k) x < mn (pY l k) y then mtK l x y k ++ [(mx (pX l k) x, mn (pY l k) y)] else mtK l x y k := rfl
          have hml := mtK_len l x y k
          obtain ⟨p, hp⟩ : ∃ p, pX l k = p := ⟨_, rfl⟩
          obtain ⟨q, hq⟩ : ∃ q, pY l k = q := ⟨_, rfl⟩
          rw [hp] at q1; rw [hq] at q2
          rw [hp, hq] at hd
          have HD := Lib.hid hd
          have h4s := hB.size
          clear hB hown hp hq hd
          go_wp2
          go_region
          all_goals
            have p0 : (wr.alloc (.cells #[.int .i64 (mx p x), .int .i64 (mn q y)] 105)).cell? ⟨wr.heap.size, 0, none⟩ = some (.int .i64 (mx p x)) := by simp [go_sem]
            have p1 : (wr.alloc (.cells #[.int .i64 (mx p x), .int .i64 (mn q y)] 105)).cell? ⟨wr.heap.size, 1, none⟩ = some (.int .i64 (mn q y)) := by simp [go_sem]
            refine gen_any9 (fun W9 => W9.cell? ⟨wr.heap.size, 0, none⟩ = some (.int .i64 (mx p x)) ∧ W9.cell? ⟨wr.heap.size, 1, none⟩ = some (.int .i64 (mn q y)) ∧ Hid (W9.ownsRow w.heap.size 105 2 u7 (mtK l x y k).length (cellsP (mtK l x y k))) ∧ Hid (Below w.heap.size w W9) ∧ w.heap.size ≤ W9.heap.size) ⟨p0, p1, Lib.hid (HO.out.alloc _), Lib.hid (HB.out.alloc h4s _), by simp; omega⟩ ?_
            clear p0 p1 q1 q2 hlg HO HB h4s
            rintro W9 ⟨p0, p1, HO, HB, h4s⟩
            generalize wr.heap.size = g1 at *
            generalize mx p x = m0 at *
            generalize mn q y = m1 at *
            by_cases hm : m0 < m1
            · have HE := Lib.hid (show mtK l x y (k + 1) = mtK l x y k ++ [(m0, m1)] by rw [HD.out, if_pos hm])
              go_wp2_with (at_builtin; refine wpList_append_own _ rfl _ _ 102 rfl w.heap.size 105 i0 _ 2 16 Tryz.underlying102 hi0 hz0 hz1 hz2 rfl (by decide) _ _ _ rfl (HO.out.alloc _) ⟨W9.heap.size, 0, none⟩ 1 1 [.int .i64 m0, .int .i64 m1] rfl rfl two_new (by simp [Value.oneCell']) (by unfold maxLen; omega) (by omega) (by simp; omega) ?_; intro v2 w5 hown2 hgrow _; have H5 := Lib.hid (And.intro hown2 (below_app HO.out HB.out h4s hgrow)); clear hown2 hgrow p0 p1)
              go_roundw
              case rel => exact ⟨k + 1, by go_num, by omega, by rw [HE.out, cellsP_snoc, List.length_append]; exact H5.out.1, H5.out.2⟩
              case measure => simp [intOf]; omega
            · have HE := Lib.hid (show mtK l x y (k + 1) = mtK l x y k by rw [HD.out, if_neg hm])
              go_wp2
              go_roundw
              case rel => exact ⟨k + 1, by go_num, by omega, by rw [HE.out]; exact HO.out, HB.out⟩
              case measure => simp [intOf]; omega
        · obtain rfl : k = n := by omega
          have HB := Lib.hid hB
          have HO := Lib.hid hown
          clear hB hown
          go_wp2
          go_ret
          exact ⟨_, rfl, HO.out, HB.out⟩
end Go.Proofs.YtbdjnfnphilklaaGreat.Ins
namespace Go.Proofs.YtbdjnfnphilklaaGreat.Ins
open Go.ChangeShapes Go.WideShapes Go.ChangeAt Go.RowKit
open Kit Point
set_option linter.unusedVariables false
set_option linter.unusedSimpArgs false
set_option linter.unnecessarySimpa false
theorem scn_len (f : Int → Bool) (x0 : Int) : ∀ k : Nat, (scn f x0 k).out.length ≤ k
  | 0 => Nat.le_refl _
  | k + 1 => by
    have := scn_len f x0 k
    show ((scn f x0 k).step f (x0 + (k : Int))).out.length ≤ k + 1
    unfold Scn.step
    dsimp only
    split
    · simp; omega
    · omega
theorem acc_mn (X : Nat → Int) : ∀ n k, k < n → Pts.acc mn X n ≤ X k
  | 0, k, h => by omega
  | n + 1, k, h => by
    show min (Pts.acc mn X n) (X n) ≤ X k
    by_cases e : k = n
    · subst e; omega
    · have := acc_mn X n k (by omega); omega
theorem acc_mx (X : Nat → Int) : ∀ n k, k < n → X k ≤ Pts.acc mx X n
  | 0, k, h => by omega
  | n + 1, k, h => by
    show X k ≤ max (Pts.acc mx X n) (X n)
    by_cases e : k = n
    · subst e; omega
    · have := acc_mx X n k (by omega); omega
theorem acc_lo {X : Nat → Int} {A : Int} : ∀ n, (∀ k, k < n + 1 → A ≤ X k) → A ≤ Pts.acc mn X n
  | 0, h => h 0 (by omega)
  | n + 1, h => by
    have := acc_lo n (fun k hk => h k (by omega))
    have := h n (by omega)
    show A ≤ min (Pts.acc mn X n) (X n)
    omega
theorem acc_hi {X : Nat → Int} {A : Int} : ∀ n, (∀ k, k < n + 1 → X k ≤ A) → Pts.acc mx X n ≤ A
  | 0, h => h 0 (by omega)
  | n + 1, h => by
    have := acc_hi n (fun k hk => h k (by omega))
    have := h n (by omega)
    show max (Pts.acc mx X n) (X n) ≤ A
    omega
theorem box_at (w : World) (a : Option Addr) (c : Nat) (l : List Pt) (hn : l.length ≤ 1048576) (h : PathAt w a l) (hok : ptsB l = true) :
    ∃ x0 y0 x1 y1 : Int, (-200 ≤ x0 ∧ x0 ≤ x1 ∧ x1 ≤ 200) ∧ (∀ k, k < l.length → x0 ≤ pX l k ∧ pX l k ≤ x1) ∧
    Calls Tryz.prog 117 #[.slice a l.length c] w fun e w' => e = .returned (.agg #[.int .i64 x0, .int .i64 y0, .int .i64 x1, .int .i64 y1]) ∧ Below w.heap.size w w' := by
  rcases h with rfl | ⟨g, rfl, hg, hc⟩
  · refine ⟨0, 0, 0, 0, by omega, fun k hk => by simp at hk, ?_⟩
    go_enter Tryz.func117, Tryz.ntmps117
    go_wp2
    go_rounds 1
    refine bodyPost_ret (by simp [results, Tryz.results117, go_sem, *]; try rfl) rfl ?_
    exact ⟨rfl, by go_grown⟩
  · by_cases h0 : l.length = 0
    · refine ⟨0, 0, 0, 0, by omega, fun k hk => by omega, ?_⟩
      rw [h0]
      go_enter Tryz.func117, Tryz.ntmps117
      go_wp2
      go_rounds 1
      refine bodyPost_ret (by simp [results, Tryz.results117, go_sem, *]; try rfl) rfl ?_
      exact ⟨rfl, by go_grown⟩
    · have hp : Pts.PtsAt w g l.length (pX l) (pY l) := hc
      have hb := Pts.boxof_spec g l.length c (pX l) (pY l) w hn hg hp
      have hokB : Pts.okB (pX l) (pY l) l.length = true := Pts.okB_good fun i hi => ptsB_at hok hi
      have hval : Pts.boxofV (pX l) (pY l) l.length = .agg #[.int .i64 (Pts.acc mn (pX l) l.length), .int .i64 (Pts.acc mn (pY l) l.length), .int .i64 (Pts.acc mx (pX l) l.length), .int .i64 (Pts.acc mx (pY l) l.length)] := by
        simp [Pts.boxofV, sel, hokB, show 0 < l.length by omega]
      rw [hval] at hb
      have hr : ∀ k, k < l.length → -200 ≤ pX l k ∧ pX l k ≤ 200 := fun k hk => by
        have := ptsB_at hok hk
        simp only [pokB, Bool.and_eq_true] at this
        exact inB_true this.1
      have h1 := acc_mn (pX l) l.length 0 (by omega)
      have h2 := acc_mx (pX l) l.length 0 (by omega)
      obtain ⟨m, hm⟩ : ∃ m, l.length = m + 1 := ⟨l.length - 1, by omega⟩
      have e1 : -200 ≤ Pts.acc mn (pX l) l.length := by
        rw [hm]; show -200 ≤ min (Pts.acc mn (pX l) m) (pX l m)
        have := acc_lo (X := pX l) (A := -200) m (fun k hk => (hr k (by omega)).1)
        have := (hr m (by omega)).1
        omega
      have e2 : Pts.acc mx (pX l) l.length ≤ 200 := by
        rw [hm]; show max (Pts.acc mx (pX l) m) (pX l m) ≤ 200
        have := acc_hi (X := pX l) (A := 200) m (fun k hk => (hr k (by omega)).2)
        have := (hr m (by omega)).2
        omega
      exact ⟨_, _, _, _, ⟨e1, by omega, e2⟩, fun k hk => ⟨acc_mn (pX l) _ k hk, acc_mx (pX l) _ k hk⟩, hb⟩
end Go.Proofs.YtbdjnfnphilklaaGreat.Ins
