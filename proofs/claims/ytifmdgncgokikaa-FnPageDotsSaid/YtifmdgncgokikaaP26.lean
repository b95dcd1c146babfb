/-
  Texts of this seat, laid together: Me9, Mm9
-/
import Derived.Test.YtifmdgncgokikaaP15
import Derived.Test.YtifmdgncgokikaaP24
namespace Go.Proofs.Ytifmdgncgokikaa.Ins
open Go.ChangeShapes Go.WideShapes Go.ChangeAt Go.RowKit
open Kit Point
set_option linter.unusedVariables false
set_option linter.unusedSimpArgs false
set_option linter.unnecessarySimpa false
attribute [local go_sem ↓] run_mx run_mn
def mtK (l : List Pt) (a b : Int) : Nat → List Pt
  | 0 => []
  | k + 1 => if mx (pX l k) a < mn (pY l k) b then mtK l a b k ++ [(mx (pX l k) a, mn (pY l k) b)] else mtK l a b k
theorem mtK_len (l : List Pt) (a b : Int) : ∀ k, (mtK l a b k).length ≤ k
  | 0 => Nat.le_refl _
  | k + 1 => by
    have := mtK_len l a b k
    rw [mtK]; split
    · simp; omega
    · omega
def mtV (l : List Pt) (a b : Int) : List Pt := if spB l then mtK l a b l.length else []
theorem mt_bad {l : List Pt} (a b : Int) (h : spB l = false) : mtV l a b = [] := by simp [mtV, h]
theorem mt_good {l : List Pt} (a b : Int) (h : spB l = true) : mtV l a b = mtK l a b l.length := by simp [mtV, h]
theorem mtV_len (l : List Pt) (a b : Int) : (mtV l a b).length ≤ l.length := by
  unfold mtV; split
  · exact mtK_len l a b _
  · simp
theorem below_app {B k : Nat} {w W w3 : World} {T : TypeId} {v : Value} {xs : List Value} {tmp : Obj} (hown : W.ownsRow B T 2 v k xs) (hB : Below B w W) (hs : B ≤ W.heap.size) (hg : (W.alloc tmp).grownBy w3 v.ownBlock) : Below B w w3 :=
  (hB.alloc hs tmp).grown hg (by simp; omega) (fun p hp => ((hown.alloc tmp).lt p hp).1)
set_option maxRecDepth 100000 in
set_option maxHeartbeats 2000000 in
theorem meet_impl (w : World) (a : Option Addr) (c : Nat) (l : List Pt) (x y : Int) (hn : l.length ≤ 1048576) (h : PathAt w a l) :
    Calls Try.prog 49 #[.slice a l.length c, .int .i64 x, .int .i64 y] w (SpIs w (mtV l x y)) := by
  obtain ⟨i0, hi0, hz0, hz1, hz2⟩ := info_parts info_sp9
  have hok := sok_impl w a c l hn h
  have H := Lib.hid (And.intro h hn)
  obtain ⟨n, hN⟩ : ∃ n, l.length = n := ⟨_, rfl⟩
  have HN := Lib.hid hN
  rw [hN] at hn hok ⊢
  clear hN
  cases hs : spB l
  · rw [mt_bad x y hs]
    rw [hs] at hok
    have HK := Lib.hid hok
    clear hs hok h
    go_enter Try.func49, Try.ntmps49
    go_wp2_with fail
    ((with_reducible refine HK.out.mono ?_); rintro e w1 ⟨rfl, bb⟩)
    go_wp2
    go_ret
    exact sp_none _ _ bb
  · rw [mt_good x y hs, HN.out]
    have h8 : n ≤ 8 := by simp only [spB, Bool.and_eq_true, decide_eq_true_eq] at hs; have := HN.out; omega
    rw [hs] at hok
    have HK := Lib.hid hok
    clear hs hok
    rcases h with rfl | ⟨g, rfl, hg, _⟩
    · obtain rfl : 0 = n := HN.out
      go_enter Try.func49, Try.ntmps49
      go_wp2_with fail
      ((with_reducible refine HK.out.mono ?_); rintro e w1 ⟨rfl, bb⟩)
      go_wp2
      go_rounds 1
      go_ret
      exact sp_none _ _ bb
    · go_enter Try.func49, Try.ntmps49
      go_wp2_with fail
      ((with_reducible refine HK.out.mono ?_); rintro e w1 ⟨rfl, bb⟩)
      have HB1 := Lib.hid bb
      clear bb
      go_wp2
      go_loopw [7, 16] (fun v7 v16 wr => ∃ k : Nat, v16 = .int .i64 (k : Int) ∧ k ≤ n ∧ wr.ownsRow w.heap.size 78 2 v7 (mtK l x y k).length (cellsP (mtK l x y k)) ∧ Below w.heap.size w wr) (fun v7 v16 _ => n - (intOf v16).toNat)
      case atStart => exact ⟨0, rfl, Nat.zero_le _, World.ownsRow_nil _ _ _ _, HB1.out⟩
      case round =>
        obtain ⟨k, rfl, hk, hown, hB⟩ := hrel
        have HB := Lib.hid hB
        have HO := Lib.hid hown
        by_cases hlt : k < n
        · obtain ⟨hlg, q1, q2⟩ := (H.out.1.on hB).cells (k := k) (by rw [HN.out]; exact hlt)
          have i0' : (0 : Int) ≤ (k : Int) := by omega
          have i1 : (k : Int) < (n : Int) := by omega
          have hd : mtK l x y (k + 1) = if mx (pX l k) x < mn (pY l k) y then mtK l x y k ++ [(mx (pX l k) x, mn (pY l k) y)] else mtK l x y k := rfl
          have hml := mtK_len l x y k
          obtain ⟨p, hp⟩ : ∃ p, pX l k = p := ⟨_, rfl⟩
          obtain ⟨q, hq⟩ : ∃ q, pY l k = q := ⟨_, rfl⟩
          rw [hp] at q1; rw [hq] at q2
          rw [hp, hq] at hd
          have HD := Lib.hid hd
          clear hB hown hp hq hd
          go_wp2_with fail
          ((with_reducible refine (hasc_impl _ _ _).mono ?_); rintro e w4 ⟨rfl, bb⟩)
          have e0 := (bcell bb).1 (wr.heap.size + 1) 0 (by simp)
          have e1 := (bcell bb).1 (wr.heap.size + 1) 1 (by simp)
          have p0 : w4.cell? ⟨wr.heap.size + 1, 0, none⟩ = some (.int .i64 (mx p x)) := by rw [e0]; simp [go_sem]
          have p1 : w4.cell? ⟨wr.heap.size + 1, 1, none⟩ = some (.int .i64 (mn q y)) := by rw [e1]; simp [go_sem]
          have hb4 : Below wr.heap.size wr w4 := on_of (W := wr) (by go_grown) bb
          have HB4 := Lib.hid (HB.out.trans (hb4.mono HB.out.size))
          have hown4 : w4.ownsRow w.heap.size 78 2 u7 (mtK l x y k).length (cellsP (mtK l x y k)) := owns_below HO.out hb4
          have HO4 := Lib.hid hown4
          have hs4 : wr.heap.size + 1 < w4.heap.size := by have := bb.size; simp at this; omega
          clear bb e0 e1 hb4 hown4 q1 q2 hlg
          generalize wr.heap.size + 1 = g1 at *
          generalize mx p x = m0 at *
          generalize mn q y = m1 at *
          have h4s := HB4.out.size
          by_cases hm : m0 < m1
          · have HE := Lib.hid (show mtK l x y (k + 1) = mtK l x y k ++ [(m0, m1)] by rw [HD.out, if_pos hm])
            rw [decide_eq_true hm]
            go_wp2_with (at_builtin; refine wpList_append_own _ rfl _ _ 38 rfl w.heap.size 78 i0 _ 2 16 Try.underlying38 hi0 hz0 hz1 hz2 rfl (by decide) _ _ _ rfl (HO4.out.alloc _) ⟨w4.heap.size, 0, none⟩ 1 1 [.int .i64 m0, .int .i64 m1] rfl rfl two_new (by simp [Value.oneCell']) (by unfold maxLen; omega) (by omega) (by simp; omega) ?_; intro v2 w5 hown2 hgrow _; have H5 := Lib.hid (And.intro hown2 (below_app HO4.out HB4.out h4s hgrow)); clear hown2 hgrow p0 p1)
            go_roundw
            case rel => exact ⟨k + 1, by go_num, by omega, by rw [HE.out, cellsP_snoc, List.length_append]; exact H5.out.1, H5.out.2⟩
            case measure => simp [intOf]; omega
          · have HE := Lib.hid (show mtK l x y (k + 1) = mtK l x y k by rw [HD.out, if_neg hm])
            rw [decide_eq_false hm]
            clear p0 p1
            go_wp2
            go_roundw
            case rel => exact ⟨k + 1, by go_num, by omega, by rw [HE.out]; exact HO4.out, HB4.out⟩
            case measure => simp [intOf]; omega
        · obtain rfl : k = n := by omega
          clear hB hown
          go_wp2
          go_ret
          exact ⟨_, rfl, HO.out, HB.out⟩
end Go.Proofs.Ytifmdgncgokikaa.Ins
namespace Go.Proofs.Ytifmdgncgokikaa.Ins
open Go.ChangeShapes Go.WideShapes Go.ChangeAt Go.RowKit
open Kit Point
set_option linter.unusedVariables false
set_option linter.unusedSimpArgs false
set_option linter.unnecessarySimpa false
attribute [local go_sem ↓] run_mx run_mn
theorem sp_made (w w' : World) (h : Below w.heap.size w w') : SpIs w [] (.returned (.slice (some ⟨w'.heap.size, 0, none⟩) 0 0)) (w'.alloc (.cells #[] 78)) :=
  ⟨_, rfl, World.ownsRow_made w' #[] (e := 78) (size := 2) 0 h.size (by decide) (by simp), h.alloc h.size _⟩
set_option maxRecDepth 100000 in
set_option maxHeartbeats 2000000 in
theorem meet_spec (w : World) (a : Option Addr) (c : Nat) (l : List Pt) (x y : Int) (hn : l.length ≤ 1048576) (h : PathAt w a l) :
    Calls Try.prog 93 #[.slice a l.length c, .int .i64 x, .int .i64 y] w (SpIs w (mtV l x y)) := by
  obtain ⟨i0, hi0, hz0, hz1, hz2⟩ := info_parts info_sp9
  have hok := fun (W : World) (hW : PathAt W a l) => sok_spec W a c l hn hW
  have H := Lib.hid (And.intro h hn)
  have hpa := h.on ((Below.refl _ w).alloc (Nat.le_refl _) (.cells #[] 78))
  have ho0 := World.ownsRow_made w #[] (e := 78) (size := 2) 0 (Nat.le_refl _) (by decide) (by simp)
  have H0 := Lib.hid (And.intro hpa ho0)
  clear hpa ho0
  obtain ⟨n, hN⟩ : ∃ n, l.length = n := ⟨_, rfl⟩
  have HN := Lib.hid hN
  rw [hN] at hn hok ⊢
  clear hN
  cases hs : spB l
  · rw [mt_bad x y hs]
    rw [hs] at hok
    have HK := Lib.hid hok
    clear hs hok h
    go_enter Try.func93, Try.ntmps93
    go_wp2_with fail
    ((with_reducible refine (HK.out _ H0.out.1).mono ?_); rintro e w1 ⟨rfl, bb⟩)
    have HB1 := Lib.hid (on_of (W := w) (by go_grown) bb)
    have HO := Lib.hid (owns_below H0.out.2 bb)
    clear bb
    go_wp2
    go_ret
    exact ⟨_, rfl, HO.out, HB1.out⟩
  · rw [mt_good x y hs, HN.out]
    have h8 : n ≤ 8 := by simp only [spB, Bool.and_eq_true, decide_eq_true_eq] at hs; have := HN.out; omega
    rw [hs] at hok
    have HK := Lib.hid hok
    clear hs hok
    rcases h with rfl | ⟨g, rfl, hg, _⟩
    · obtain rfl : 0 = n := HN.out
      go_enter Try.func93, Try.ntmps93
      go_wp2_with fail
      ((with_reducible refine (HK.out _ H0.out.1).mono ?_); rintro e w1 ⟨rfl, bb⟩)
      have HB1 := Lib.hid (on_of (W := w) (by go_grown) bb)
      have HO := Lib.hid (owns_below H0.out.2 bb)
      clear bb
      go_wp2
      go_rounds 1
      go_ret
      exact ⟨_, rfl, HO.out, HB1.out⟩
    · go_enter Try.func93, Try.ntmps93
      go_wp2_with fail
      ((with_reducible refine (HK.out _ H0.out.1).mono ?_); rintro e w1 ⟨rfl, bb⟩)
      have HB1 := Lib.hid (on_of (W := w) (by go_grown) bb)
      have HO1 := Lib.hid (owns_below H0.out.2 bb)
      clear bb
      go_wp2
      go_loopw [7, 8] (fun v7 v8 wr => ∃ k : Nat, v8 = .int .i64 (k : Int) ∧ k ≤ n ∧ wr.ownsRow w.heap.size 78 2 v7 (mtK l x y k).length (cellsP (mtK l x y k)) ∧ Below w.heap.size w wr) (fun v7 v8 _ => n - (intOf v8).toNat)
      case atStart => exact ⟨0, rfl, Nat.zero_le _, HO1.out, HB1.out⟩
      case round =>
        obtain ⟨k, rfl, hk, hown, hB⟩ := hrel
        have HB := Lib.hid (drew_on hB)
        have HO := Lib.hid (show wr.drew.ownsRow w.heap.size 78 2 u7 (mtK l x y k).length (cellsP (mtK l x y k)) from hown)
        by_cases hlt : k < n
        · obtain ⟨hlg, q1, q2⟩ := (H.out.1.on hB).cells (k := k) (by rw [HN.out]; exact hlt)
          have i0' : (0 : Int) ≤ (k : Int) := by omega
          have i1 : (k : Int) < (n : Int) := by omega
          have hd : mtK l x y (k + 1) = if mx (pX l k) x < mn (pY l k) y then mtK l x y k ++ [(mx (pX l k) x, mn (pY l k) y)] else mtK l x y k := rfl
          have hml := mtK_len l x y k
          obtain ⟨p, hp⟩ : ∃ p, pX l k = p := ⟨_, rfl⟩
          obtain ⟨q, hq⟩ : ∃ q, pY l k = q := ⟨_, rfl⟩
          rw [hp] at q1; rw [hq] at q2
          rw [hp, hq] at hd
          have HD := Lib.hid hd
          have h4s := hB.size
          clear hB hown hp hq hd
          go_wp2
          go_region
          all_goals
            have p0 : (wr.alloc (.cells #[.int .i64 (mx p x), .int .i64 (mn q y)] 78)).cell? ⟨wr.heap.size, 0, none⟩ = some (.int .i64 (mx p x)) := by simp [go_sem]
            have p1 : (wr.alloc (.cells #[.int .i64 (mx p x), .int .i64 (mn q y)] 78)).cell? ⟨wr.heap.size, 1, none⟩ = some (.int .i64 (mn q y)) := by simp [go_sem]
            refine gen_any9 (fun W9 => W9.cell? ⟨wr.heap.size, 0, none⟩ = some (.int .i64 (mx p x)) ∧ W9.cell? ⟨wr.heap.size, 1, none⟩ = some (.int .i64 (mn q y)) ∧ Hid (W9.ownsRow w.heap.size 78 2 u7 (mtK l x y k).length (cellsP (mtK l x y k))) ∧ Hid (Below w.heap.size w W9) ∧ w.heap.size ≤ W9.heap.size) ⟨p0, p1, Lib.hid (HO.out.alloc _), Lib.hid (HB.out.alloc h4s _), by simp; omega⟩ ?_
            clear p0 p1 q1 q2 hlg HO HB h4s
            rintro W9 ⟨p0, p1, HO, HB, h4s⟩
            generalize wr.heap.size = g1 at *
            generalize mx p x = m0 at *
            generalize mn q y = m1 at *
            by_cases hm : m0 < m1
            · have HE := Lib.hid (show mtK l x y (k + 1) = mtK l x y k ++ [(m0, m1)] by rw [HD.out, if_pos hm])
              go_wp2_with (at_builtin; refine wpList_append_own _ rfl _ _ 38 rfl w.heap.size 78 i0 _ 2 16 Try.underlying38 hi0 hz0 hz1 hz2 rfl (by decide) _ _ _ rfl (HO.out.alloc _) ⟨W9.heap.size, 0, none⟩ 1 1 [.int .i64 m0, .int .i64 m1] rfl rfl two_new (by simp [Value.oneCell']) (by unfold maxLen; omega) (by omega) (by simp; omega) ?_; intro v2 w5 hown2 hgrow _; have H5 := Lib.hid (And.intro hown2 (below_app HO.out HB.out h4s hgrow)); clear hown2 hgrow p0 p1)
              go_roundw
              case rel => exact ⟨k + 1, by go_num, by omega, by rw [HE.out, cellsP_snoc, List.length_append]; exact H5.out.1, H5.out.2⟩
              case measure => simp [intOf]; omega
            · have HE := Lib.hid (show mtK l x y (k + 1) = mtK l x y k by rw [HD.out, if_neg hm])
              go_wp2
              go_roundw
              case rel => exact ⟨k + 1, by go_num, by omega, by rw [HE.out]; exact HO.out, HB.out⟩
              case measure => simp [intOf]; omega
        · obtain rfl : k = n := by omega
          have HB := Lib.hid hB
          have HO := Lib.hid hown
          clear hB hown
          go_wp2
          go_ret
          exact ⟨_, rfl, HO.out, HB.out⟩
end Go.Proofs.Ytifmdgncgokikaa.Ins
