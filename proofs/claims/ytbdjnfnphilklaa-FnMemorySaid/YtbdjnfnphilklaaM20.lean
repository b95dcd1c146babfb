/-
  Texts of this seat, laid together: Bo10, Me9, Lw8, Dt9, Mm9, As9, As9b, Shelf7
-/
import Derived.WalkKit
import Derived.Handy
import Derived.Lib.Hide
import Derived.Laws.BitsLemmas
import Derived.Shelf.LaysM
import Derived.Shelf.Strconv.Clone
import Derived.Shelf.Bits.Mul64
import Derived.Test.YtbdjnfnphilklaaProg
import Derived.Test.YtbdjnfnphilklaaM06
import Derived.Test.YtbdjnfnphilklaaM18
import Derived.Test.YtbdjnfnphilklaaM19
import Derived.Test.YtbdjnfnphilklaaM09
import Derived.Test.YtbdjnfnphilklaaM26
import Derived.Test.YtbdjnfnphilklaaM10
import Derived.Test.YtbdjnfnphilklaaM24
namespace Go.Proofs.Ytbdjnfnphilklaa.Ins
open Go.ChangeShapes Go.WideShapes Go.ChangeAt Go.RowKit
open Kit Point
set_option linter.unusedVariables false
set_option linter.unusedSimpArgs false
set_option linter.unnecessarySimpa false
structure Bx where
  x0 : Int
  y0 : Int
  x1 : Int
  y1 : Int
def Bx.v (b : Bx) : Value := .agg #[.int .i64 b.x0, .int .i64 b.y0, .int .i64 b.x1, .int .i64 b.y1]
def pbx (l : List Pt) : Bx :=
  if ptsB l = true ∧ 0 < l.length then ⟨Pts.acc mn (pX l) l.length, Pts.acc mn (pY l) l.length, Pts.acc mx (pX l) l.length, Pts.acc mx (pY l) l.length⟩ else ⟨0, 0, 0, 0⟩
def Bx.ok (b : Bx) : Bool := bokB b.x0 b.y0 b.x1 b.y1
def mtx (b d : Bx) : Bx :=
  if b.ok = true ∧ d.ok = true ∧ mx b.x0 d.x0 < mn b.x1 d.x1 ∧ mx b.y0 d.y0 < mn b.y1 d.y1 then ⟨mx b.x0 d.x0, mx b.y0 d.y0, mn b.x1 d.x1, mn b.y1 d.y1⟩ else ⟨0, 0, 0, 0⟩
def pgx : Bx := ⟨0, 0, 32, 32⟩
theorem meet_v (b d : Bx) : Box.meetV b.x0 b.y0 b.x1 b.y1 d.x0 d.y0 d.x1 d.y1 = (mtx b d).v := by
  unfold mtx
  by_cases h : b.ok = true ∧ d.ok = true ∧ mx b.x0 d.x0 < mn b.x1 d.x1 ∧ mx b.y0 d.y0 < mn b.y1 d.y1
  · rw [if_pos h]
    have hm : Box.meetB b.x0 b.y0 b.x1 b.y1 d.x0 d.y0 d.x1 d.y1 = true := by
      simp only [Box.meetB, show bokB b.x0 b.y0 b.x1 b.y1 = true from h.1, show bokB d.x0 d.y0 d.x1 d.y1 = true from h.2.1, Bool.true_and, decide_eq_true_eq]; exact h.2.2
    simp [Box.meetV, hm, sel, Bx.v]
  · rw [if_neg h]
    have hm : Box.meetB b.x0 b.y0 b.x1 b.y1 d.x0 d.y0 d.x1 d.y1 = false := by
      cases e : Box.meetB b.x0 b.y0 b.x1 b.y1 d.x0 d.y0 d.x1 d.y1
      · rfl
      · simp only [Box.meetB, Bool.and_eq_true, decide_eq_true_eq] at e
        exact absurd ⟨e.1.1, e.1.2, e.2⟩ h
    simp [Box.meetV, hm, sel, Bx.v]
theorem meetbox_impl (b d : Bx) (w : World) : Calls Try.prog 67 #[b.v, d.v] w fun e w' => e = .returned (mtx b d).v ∧ Below w.heap.size w w' := by
  rw [← meet_v]; exact Box.meet_impl _ _ _ _ _ _ _ _ w
theorem okB_pts (l : List Pt) : Pts.okB (pX l) (pY l) l.length = ptsB l := by
  cases h : ptsB l
  · rw [ptsB, List.all_eq_false] at h
    obtain ⟨p, hp, hb⟩ := h
    obtain ⟨k, hk, rfl⟩ := List.getElem_of_mem hp
    have e : l.getD k (0, 0) = l[k] := by simp [List.getD, List.getElem?_eq_getElem hk]
    exact Pts.okB_bad hk (by simp only [pX, pY, e]; simpa using hb)
  · refine Pts.okB_good fun i hi => ?_
    rw [ptsB, List.all_eq_true] at h
    have e : l.getD i (0, 0) = l[i] := by simp [List.getD, List.getElem?_eq_getElem hi]
    simpa only [pX, pY, e] using h _ (List.getElem_mem hi)
theorem boxof_v (l : List Pt) : Pts.boxofV (pX l) (pY l) l.length = (pbx l).v := by
  unfold pbx
  by_cases h : ptsB l = true ∧ 0 < l.length
  · rw [if_pos h]; simp [Pts.boxofV, sel, okB_pts, h.1, h.2, Bx.v]
  · rw [if_neg h]
    by_cases h1 : ptsB l = true
    · have h2 : l.length = 0 := by have : ¬ 0 < l.length := fun h2 => h ⟨h1, h2⟩; omega
      rw [h2]; simp [Pts.boxofV, sel, Bx.v]
    · have h1 : ptsB l = false := by simpa using h1
      simp [Pts.boxofV, sel, okB_pts, h1, Bx.v]
theorem boxof_impl_at (w : World) (a : Option Addr) (c : Nat) (l : List Pt) (h0 : 0 < l.length) (hn : l.length ≤ 1048576) (h : PathAt w a l) :
    Calls Try.prog 128 #[.slice a l.length c] w fun e w' => e = .returned (pbx l).v ∧ Below w.heap.size w w' := by
  rcases h with rfl | ⟨g, rfl, hg, hc⟩
  · simp at h0
  · rw [← boxof_v]
    exact Pts.boxof_impl g l.length c (pX l) (pY l) w hn hg hc
theorem box_path (w : World) (a : Option Addr) (c : Nat) (l : List Pt) (h0 : 0 < l.length) (hn : l.length ≤ 1048576) (h : PathAt w a l) :
    Calls Try.prog 116 #[.slice a l.length c] w fun e w' => e = .returned (pbx l).v ∧ Below w.heap.size w w' := by
  have HP := Lib.hid (And.intro h (And.intro h0 hn))
  obtain ⟨b, hb⟩ : ∃ b, pbx l = b := ⟨_, rfl⟩
  have HC : Hid (∀ W, PathAt W a l → Calls Try.prog 128 #[.slice a l.length c] W fun e w' => e = .returned (.agg #[.int .i64 b.x0, .int .i64 b.y0, .int .i64 b.x1, .int .i64 b.y1]) ∧ Below W.heap.size W w') := Lib.hid (fun W h => hb ▸ boxof_impl_at W a c l HP.out.2.1 HP.out.2.2 h)
  rw [hb]
  clear hb h h0 hn
  unfold Bx.v
  have HP := Lib.hid (HP.out.1.on (show Below w.heap.size w (w.alloc (.cells #[.int .i64 0, .int .i64 0, .int .i64 0, .int .i64 0] 38)) from by go_grown))
  go_enter Try.func116, Try.ntmps116
  go_wp2_with fail
  ((with_reducible refine (HC.out _ HP.out).mono ?_); rintro e w1 ⟨rfl, bb⟩)
  have hB := on_of (W := w) (by go_grown) bb
  obtain ⟨hc, hf⟩ := bcell bb
  have hz : w.heap.size < w1.heap.size := (by have := bb.size; (try simp at this); omega)
  clear bb
  go_wp2
  refine bodyPost_ret (by simp [results, Try.results116, go_sem, *]; try rfl) rfl ?_
  exact ⟨rfl, by go_grown⟩
theorem page_box (w : World) : Calls Try.prog 117 #[] w fun e w' => e = .returned pgx.v ∧ Below w.heap.size w w' := by
  go_enter Try.func117, Try.ntmps117
  go_wp2
  refine bodyPost_ret (by simp [results, Try.results117, go_sem, *]; try rfl) rfl ?_
  exact ⟨rfl, by go_grown⟩
theorem page_full (w : World) : Calls Try.prog 89 #[] w fun e w' => e = .returned pgx.v ∧ Below w.heap.size w w' := by
  go_enter Try.func89, Try.ntmps89
  go_wp2
  refine bodyPost_ret (by simp [results, Try.results89, go_sem, *]; try rfl) rfl ?_
  exact ⟨rfl, by go_grown⟩
def Bx.mv (b : Bx) (dx dy : Int) : Bx := ⟨IntKind.i64.wrap (b.x0 + dx), IntKind.i64.wrap (b.y0 + dy), IntKind.i64.wrap (b.x1 + dx), IntKind.i64.wrap (b.y1 + dy)⟩
theorem fig_of (w : World) (a : Option Addr) (n c : Nat) (g x0 y0 x1 y1 : Int) :
    Calls Try.prog 99 #[.agg #[.slice a n c, .int .i64 g, .int .i64 x0, .int .i64 y0, .int .i64 x1, .int .i64 y1]] w fun e w' => e = .returned (.agg #[.slice a n c, .int .i64 g, .int .i64 x0, .int .i64 y0, .int .i64 x1, .int .i64 y1]) ∧ Below w.heap.size w w' := by
  go_enter Try.func99, Try.ntmps99
  go_wp2
  refine bodyPost_ret (by simp [results, Try.results99, go_sem, *]; try rfl) rfl ?_
  exact ⟨rfl, by go_grown⟩
end Go.Proofs.Ytbdjnfnphilklaa.Ins
namespace Go.Proofs.Ytbdjnfnphilklaa.Ins
open Go.ChangeShapes Go.WideShapes Go.ChangeAt Go.RowKit
open Kit Point
set_option linter.unusedVariables false
set_option linter.unusedSimpArgs false
set_option linter.unnecessarySimpa false
attribute [local go_sem ↓] run_mx run_mn
def mtK (l : List Pt) (a b : Int) : Nat → List Pt
  | 0 => []
  | k + 1 => if mx (pX l k) a < mn (pY l k) b then mtK l a b k ++ [(mx (pX l k) a, mn (pY l k) b)] else mtK l a b k
theorem mtK_len (l : List Pt) (a b : Int) : ∀ k, (mtK l a b k).length ≤ k
  | 0 => Nat.le_refl _
  | k + 1 => by
    have := mtK_len l a b k
    rw [mtK]; split
    · simp; omega
    · omega
def mtV (l : List Pt) (a b : Int) : List Pt := if spB l then mtK l a b l.length else []
theorem mt_bad {l : List Pt} (a b : Int) (h : spB l = false) : mtV l a b = [] := by simp [mtV, h]
theorem mt_good {l : List Pt} (a b : Int) (h : spB l = true) : mtV l a b = mtK l a b l.length := by simp [mtV, h]
theorem mtV_len (l : List Pt) (a b : Int) : (mtV l a b).length ≤ l.length := by
  unfold mtV; split
  · exact mtK_len l a b _
  · simp
theorem below_app {B k : Nat} {w W w3 : World} {T : TypeId} {v : Value} {xs : List Value} {tmp : Obj} (hown : W.ownsRow B T 2 v k xs) (hB : Below B w W) (hs : B ≤ W.heap.size) (hg : (W.alloc tmp).grownBy w3 v.ownBlock) : Below B w w3 :=
  (hB.alloc hs tmp).grown hg (by simp; omega) (fun p hp => ((hown.alloc tmp).lt p hp).1)
set_option maxRecDepth 100000 in
set_option maxHeartbeats 2000000 in
theorem meet_impl (w : World) (a : Option Addr) (c : Nat) (l : List Pt) (x y : Int) (hn : l.length ≤ 1048576) (h : PathAt w a l) :
    Calls Try.prog 103 #[.slice a l.length c, .int .i64 x, .int .i64 y] w (SpIs w (mtV l x y)) := by
  obtain ⟨i0, hi0, hz0, hz1, hz2⟩ := info_parts info_sp9
  have hok := sok_impl w a c l hn h
  have H := Lib.hid (And.intro h hn)
  obtain ⟨n, hN⟩ : ∃ n, l.length = n := ⟨_, rfl⟩
  have HN := Lib.hid hN
  rw [hN] at hn hok ⊢
  clear hN
  cases hs : spB l
  · rw [mt_bad x y hs]
    rw [hs] at hok
    have HK := Lib.hid hok
    clear hs hok h
    go_enter Try.func103, Try.ntmps103
    go_wp2_with fail
    ((with_reducible refine HK.out.mono ?_); rintro e w1 ⟨rfl, bb⟩)
    go_wp2
    go_ret
    exact sp_none _ _ bb
  · rw [mt_good x y hs, HN.out]
    have h8 : n ≤ 8 := by simp only [spB, Bool.and_eq_true, decide_eq_true_eq] at hs; have := HN.out; omega
    rw [hs] at hok
    have HK := Lib.hid hok
    clear hs hok
    rcases h with rfl | ⟨g, rfl, hg, _⟩
    · obtain rfl : 0 = n := HN.out
      go_enter Try.func103, Try.ntmps103
      go_wp2_with fail
      ((with_reducible refine HK.out.mono ?_); rintro e w1 ⟨rfl, bb⟩)
      go_wp2
      go_rounds 1
      go_ret
      exact sp_none _ _ bb
    · go_enter Try.func103, Try.ntmps103
      go_wp2_with fail
      ((with_reducible refine HK.out.mono ?_); rintro e w1 ⟨rfl, bb⟩)
      have HB1 := Lib.hid bb
      clear bb
      go_wp2
      go_loopw [7, 16] (fun v7 v16 wr => ∃ k : Nat, v16 = .int .i64 (k : Int) ∧ k ≤ n ∧ wr.ownsRow w.heap.size 96 2 v7 (mtK l x y k).length (cellsP (mtK l x y k)) ∧ Below w.heap.size w wr) (fun v7 v16 _ => n - (intOf v16).toNat)
      case atStart => exact ⟨0, rfl, Nat.zero_le _, World.ownsRow_nil _ _ _ _, HB1.out⟩
      case round =>
        obtain ⟨k, rfl, hk, hown, hB⟩ := hrel
        have HB := Lib.hid hB
        have HO := Lib.hid hown
        by_cases hlt : k < n
        · obtain ⟨hlg, q1, q2⟩ := (H.out.1.on hB).cells (k := k) (by rw [HN.out]; exact hlt)
          have i0' : (0 : Int) ≤ (k : Int) := by omega
          have i1 : (k : Int) < (n : Int) := by omega
          have hd : mtK l x y (k + 1) = if mx (pX l k) x < mn (pY l k) y then mtK l x y k ++ [(mx (pX l k) x, mn (pY l k) y)] else mtK l x y k := rfl
          have hml := mtK_len l x y k
          obtain ⟨p, hp⟩ : ∃ p, pX l k = p := ⟨_, rfl⟩
          obtain ⟨q, hq⟩ : ∃ q, pY l k = q := ⟨_, rfl⟩
          rw [hp] at q1; rw [hq] at q2
          rw [hp, hq] at hd
          have HD := Lib.hid hd
          clear hB hown hp hq hd
          go_wp2_with fail
          ((with_reducible refine (hasc_impl _ _ _).mono ?_); rintro e w4 ⟨rfl, bb⟩)
          have e0 := (bcell bb).1 (wr.heap.size + 1) 0 (by simp)
          have e1 := (bcell bb).1 (wr.heap.size + 1) 1 (by simp)
          have p0 : w4.cell? ⟨wr.heap.size + 1, 0, none⟩ = some (.int .i64 (mx p x)) := by rw [e0]; simp [go_sem]
          have p1 : w4.cell? ⟨wr.heap.size + 1, 1, none⟩ = some (.int .i64 (mn q y)) := by rw [e1]; simp [go_sem]
          have hb4 : Below wr.heap.size wr w4 := on_of (W := wr) (by go_grown) bb
          have HB4 := Lib.hid (HB.out.trans (hb4.mono HB.out.size))
          have hown4 : w4.ownsRow w.heap.size 96 2 u7 (mtK l x y k).length (cellsP (mtK l x y k)) := owns_below HO.out hb4
          have HO4 := Lib.hid hown4
          have hs4 : wr.heap.size + 1 < w4.heap.size := by have := bb.size; simp at this; omega
          clear bb e0 e1 hb4 hown4 q1 q2 hlg
          generalize wr.heap.size + 1 = g1 at *
          generalize mx p x = m0 at *
          generalize mn q y = m1 at *
          have h4s := HB4.out.size
          by_cases hm : m0 < m1
          · have HE := Lib.hid (show mtK l x y (k + 1) = mtK l x y k ++ [(m0, m1)] by rw [HD.out, if_pos hm])
            rw [decide_eq_true hm]
            go_wp2_with (at_builtin; refine wpList_append_own _ rfl _ _ 93 rfl w.heap.size 96 i0 _ 2 16 Try.underlying93 hi0 hz0 hz1 hz2 rfl (by decide) _ _ _ rfl (HO4.out.alloc _) ⟨w4.heap.size, 0, none⟩ 1 1 [.int .i64 m0, .int .i64 m1] rfl rfl two_new (by simp [Value.oneCell']) (by unfold maxLen; omega) (by omega) (by simp; omega) ?_; intro v2 w5 hown2 hgrow _; have H5 := Lib.hid (And.intro hown2 (below_app HO4.out HB4.out h4s hgrow)); clear hown2 hgrow p0 p1)
            go_roundw
            case rel => exact ⟨k + 1, by go_num, by omega, by rw [HE.out, cellsP_snoc, List.length_append]; exact H5.out.1, H5.out.2⟩
            case measure => simp [intOf]; omega
          · have HE := Lib.hid (show mtK l x y (k + 1) = mtK l x y k by rw [HD.out, if_neg hm])
            rw [decide_eq_false hm]
            clear p0 p1
            go_wp2
            go_roundw
            case rel => exact ⟨k + 1, by go_num, by omega, by rw [HE.out]; exact HO4.out, HB4.out⟩
            case measure => simp [intOf]; omega
        · obtain rfl : k = n := by omega
          clear hB hown
          go_wp2
          go_ret
          exact ⟨_, rfl, HO.out, HB.out⟩
end Go.Proofs.Ytbdjnfnphilklaa.Ins
namespace Go.Proofs.Ytbdjnfnphilklaa.Ins
open Go.ChangeShapes Go.WideShapes Go.ChangeAt Go.RowKit
open Kit Point Slabs Recs
set_option linter.unusedVariables false
set_option linter.unusedSimpArgs false
set_option linter.unnecessarySimpa false
def plst (z : Nat → Nat → Value) (n : Nat) : List Pt := (List.range n).map fun i => (intOf (z i 0), intOf (z i 1))
theorem plst_len (z : Nat → Nat → Value) (n : Nat) : (plst z n).length = n := by simp [plst]
theorem plst_get (z : Nat → Nat → Value) {n i : Nat} (h : i < n) : (plst z n).getD i (0, 0) = (intOf (z i 0), intOf (z i 1)) := by
  simp [plst, List.getD, h]
theorem pX_plst (z : Nat → Nat → Value) {n i : Nat} (h : i < n) : pX (plst z n) i = intOf (z i 0) := by rw [pX, plst_get z h]
theorem pY_plst (z : Nat → Nat → Value) {n i : Nat} (h : i < n) : pY (plst z n) i = intOf (z i 1) := by rw [pY, plst_get z h]
theorem slab_path {w : World} {B n : Nat} {v : Value} {z : Nat → Nat → Value} (h : Slab w B v n 2 (fun i => [z i 0, z i 1])) (hs : Points.Shape (fun i => [z i 0, z i 1]) n) :
    ∃ a c, v = .slice a (plst z n).length c ∧ PathAt w a (plst z n) := by
  rw [plst_len]
  rcases h.writes with ⟨h0, a, c, hv⟩ | ⟨g, c, hv, _, W1⟩
  · subst h0; exact ⟨a, c, hv, .inl (by simp [plst])⟩
  · refine ⟨_, c, hv, .inr ⟨g, rfl, W1.here, fun i hi => ?_⟩⟩
    rw [plst_len] at hi
    obtain ⟨x0, x1, e⟩ := hs i hi
    have q := Points.cells_of W1.cell hi e
    have e' : [z i 0, z i 1] = [Value.int .i64 x0, .int .i64 x1] := e
    injection e' with e0 e1
    injection e1 with e1
    rw [pX_plst z hi, pY_plst z hi, e0, e1]
    exact q
theorem recs_keep8 {w W' : World} {a : Option Addr} {n c : Nat} {z : Nat → Nat → Value} (h : IsRecs Points.kl w a n c z) (hb : Below w.heap.size w W') : IsRecs Points.kl W' a n c z := by
  obtain ⟨h1, h2, h3⟩ := h
  refine ⟨h1, h2, ?_⟩
  rcases h3 with h3 | ⟨g, o, ha, hg, h4⟩
  · exact .inl h3
  · exact .inr ⟨g, o, ha, Nat.lt_of_lt_of_le hg hb.size, fun i hi j kd hk => ⟨(hb.cell (p := ⟨g, _, none⟩) hg).trans (h4 i hi j kd hk).1, (h4 i hi j kd hk).2⟩⟩
def pcF (l : List Pt) (i : Nat) : List Value := [.int .i64 (pX l i), .int .i64 (pY l i)]
theorem pcF_len (l : List Pt) (i : Nat) : (pcF l i).length = 2 := rfl
theorem pcF_shape (l : List Pt) (n : Nat) : Points.Shape (pcF l) n := fun i _ => ⟨_, _, rfl⟩
theorem pcF_cons (p : Pt) (l : List Pt) (i : Nat) : pcF (p :: l) (i + 1) = pcF l i := by simp [pcF, pX, pY]
theorem flat_pc : ∀ l : List Pt, flat (pcF l) l.length = cellsP l
  | [] => rfl
  | p :: l => by
    have e : flat (pcF (p :: l)) (l.length + 1) = pcF (p :: l) 0 ++ flat (fun i => pcF (p :: l) (i + 1)) l.length := by
      simp only [flat, List.range_succ_eq_map, List.flatMap_cons, List.flatMap_map]
    rw [List.length_cons, e, show (fun i => pcF (p :: l) (i + 1)) = pcF l from funext fun i => pcF_cons p l i, flat_pc l]
    simp [pcF, pX, pY, cellsP]
theorem slab_owns {w : World} {B : Nat} {v : Value} {m : List Pt} (h : w.ownsRow B 113 2 v m.length (cellsP m)) : Slab w B v m.length 2 (pcF m) :=
  Slab.of_owns (by rw [flat_pc]; exact h) (pcF_len m)
variable {w : World} {B n : Nat} {v : Value} {z : Nat → Nat → Value}
end Go.Proofs.Ytbdjnfnphilklaa.Ins
namespace Go.Proofs.Ytbdjnfnphilklaa.Ins
open Go.ChangeShapes Go.WideShapes Go.ChangeAt Go.RowKit
open Kit Point
set_option linter.unusedVariables false
set_option linter.unusedSimpArgs false
set_option linter.unnecessarySimpa false
def dtK (l : List Pt) : Nat → Int
  | 0 => 0
  | k + 1 => IntKind.i64.wrap (dtK l k + IntKind.i64.wrap (pY l k - pX l k))
def dtV (l : List Pt) : Int := if spB l then dtK l l.length else 0
theorem wrap_in (x y : Int) : IntKind.i64.wrap (x + IntKind.i64.wrap y) = IntKind.i64.wrap (x + y) := by
  simp only [IntKind.wrap_i64]; omega
theorem wrap_in2 (x y z : Int) : IntKind.i64.wrap (IntKind.i64.wrap (x + y) - z) = IntKind.i64.wrap (x + IntKind.i64.wrap (y - z)) := by
  simp only [IntKind.wrap_i64]; omega
theorem dt_bad {l : List Pt} (h : spB l = false) : dtV l = 0 := by simp [dtV, h]
theorem dt_good {l : List Pt} (h : spB l = true) : dtV l = dtK l l.length := by simp [dtV, h]
end Go.Proofs.Ytbdjnfnphilklaa.Ins
namespace Go.Proofs.Ytbdjnfnphilklaa.Ins
open Go.ChangeShapes Go.WideShapes Go.ChangeAt Go.RowKit
open Kit Point
set_option linter.unusedVariables false
set_option linter.unusedSimpArgs false
set_option linter.unnecessarySimpa false
attribute [local go_sem ↓] run_mx run_mn
theorem sp_made (w w' : World) (h : Below w.heap.size w w') : SpIs w [] (.returned (.slice (some ⟨w'.heap.size, 0, none⟩) 0 0)) (w'.alloc (.cells #[] 96)) :=
  ⟨_, rfl, World.ownsRow_made w' #[] (e := 96) (size := 2) 0 h.size (by decide) (by simp), h.alloc h.size _⟩
end Go.Proofs.Ytbdjnfnphilklaa.Ins
namespace Go.Proofs.Ytbdjnfnphilklaa.Ins
open Go.ChangeShapes Go.WideShapes Go.ChangeAt Go.RowKit
open Kit Point
set_option linter.unusedVariables false
set_option linter.unusedSimpArgs false
set_option linter.unnecessarySimpa false
theorem scn_len (f : Int → Bool) (x0 : Int) : ∀ k : Nat, (scn f x0 k).out.length ≤ k
  | 0 => Nat.le_refl _
  | k + 1 => by
    have := scn_len f x0 k
    show ((scn f x0 k).step f (x0 + (k : Int))).out.length ≤ k + 1
    unfold Scn.step
    dsimp only
    split
    · simp; omega
    · omega
theorem acc_mn (X : Nat → Int) : ∀ n k, k < n → Pts.acc mn X n ≤ X k
  | 0, k, h => by omega
  | n + 1, k, h => by
    show min (Pts.acc mn X n) (X n) ≤ X k
    by_cases e : k = n
    · subst e; omega
    · have := acc_mn X n k (by omega); omega
theorem acc_mx (X : Nat → Int) : ∀ n k, k < n → X k ≤ Pts.acc mx X n
  | 0, k, h => by omega
  | n + 1, k, h => by
    show X k ≤ max (Pts.acc mx X n) (X n)
    by_cases e : k = n
    · subst e; omega
    · have := acc_mx X n k (by omega); omega
theorem acc_lo {X : Nat → Int} {A : Int} : ∀ n, (∀ k, k < n + 1 → A ≤ X k) → A ≤ Pts.acc mn X n
  | 0, h => h 0 (by omega)
  | n + 1, h => by
    have := acc_lo n (fun k hk => h k (by omega))
    have := h n (by omega)
    show A ≤ min (Pts.acc mn X n) (X n)
    omega
theorem acc_hi {X : Nat → Int} {A : Int} : ∀ n, (∀ k, k < n + 1 → X k ≤ A) → Pts.acc mx X n ≤ A
  | 0, h => h 0 (by omega)
  | n + 1, h => by
    have := acc_hi n (fun k hk => h k (by omega))
    have := h n (by omega)
    show max (Pts.acc mx X n) (X n) ≤ A
    omega
end Go.Proofs.Ytbdjnfnphilklaa.Ins
namespace Go.Proofs.Ytbdjnfnphilklaa.Ins
open Go.ChangeShapes Go.WideShapes Go.ChangeAt Go.RowKit
open Kit Point
set_option linter.unusedVariables false
set_option linter.unusedSimpArgs false
set_option linter.unnecessarySimpa false
def BoxIn (w : World) (B : Nat) (x0 y0 x1 y1 : Int) : Prop := w.heap[B]? = some (.cells #[.int .i64 x0, .int .i64 y0, .int .i64 x1, .int .i64 y1] 38 (0, 0))
theorem BoxIn.lt {w : World} {B : Nat} {x0 y0 x1 y1 : Int} (h : BoxIn w B x0 y0 x1 y1) : B < w.heap.size := (Array.getElem?_eq_some_iff.1 h).1
theorem BoxIn.lay {w : World} {B : Nat} {x0 y0 x1 y1 : Int} (h : BoxIn w B x0 y0 x1 y1) : w.cell? ⟨B, 2, none⟩ = some (.int .i64 x1) := by simp [World.cell?, show w.heap[B]? = _ from h]
theorem BoxIn.keep {w w' : World} {B : Nat} {x0 y0 x1 y1 : Int} (h : BoxIn w B x0 y0 x1 y1) (hb : Below w.heap.size w w') : BoxIn w' B x0 y0 x1 y1 := (hb.block B h.lt).trans h
theorem BoxIn.app {W w3 : World} {B n0 k : Nat} {x0 y0 x1 y1 : Int} {v : Value} {xs : List Value} {tmp : Obj} (h : BoxIn W B x0 y0 x1 y1) (hown : W.ownsRow n0 96 2 v k xs) (hg : (W.alloc tmp).grownBy w3 v.ownBlock) : BoxIn w3 B x0 y0 x1 y1 := by
  refine (hg.block B (by rw [World.size_alloc]; have := h.lt; omega) fun e => ?_).trans ((Below.heap_alloc _ _ _ h.lt).trans h)
  rcases hown.2 with ⟨rfl, _⟩ | ⟨g, cap, cur, rfl, _, hgb, _⟩
  · simp [Value.ownBlock] at e
  · obtain rfl : B = g := by simpa [Value.ownBlock] using e
    rw [show W.heap[B]? = _ from h] at hgb
    simp at hgb
theorem step_at {f : Int → Bool} {x : Int} {r : Bool} (out : List Pt) (on : Bool) (fr : Int) (h : f x = r) : Scn.step f ⟨out, on, fr⟩ x = ⟨if r = false ∧ on = true then out ++ [(fr, x)] else out, r, if r = true ∧ on = false then x else fr⟩ := by subst h; rfl
theorem sps_bad {l : List Pt} {y : Int} (h : (pathB l && inB y) = false) : spsV l y = [] := by unfold spsV; rw [h]; rfl
end Go.Proofs.Ytbdjnfnphilklaa.Ins
namespace Go.Proofs
open Go.Shelf
def Try.lays264_ren : Go.Shelf.Ren := ⟨fun | 264 => 126 | n => n, fun | 53 => 145 | 46 => 114 | n => n, fun | n => n⟩
theorem Try.lays264 : Go.Proofs.Lays.n264 Try.prog Try.lays264_ren := {
  mixed := by kernel_rfl
  f264 := Try.func126.trans (congrArg some (by kernel_rfl))
  t46 := Try.underlying114
  a46 := Try.isAgg114
  z46 := Try.sizeOf114
  v46 := Try.zeroValue114
  t53 := Try.underlying145
  a53 := Try.isAgg145
  z53 := Try.sizeOf145
  v53 := Try.zeroValue145 }
open Go.RowKit Go.Lib in
theorem Try.bits_Mul64 (x y : Nat) (hx : x < 18446744073709551616) (hy : y < 18446744073709551616) (w : World) :
    Calls Try.prog 126 #[.int .u64 x, .int .u64 y] w fun e w' => e = .returned (.tuple #[.int .u64 ((x * y / 18446744073709551616 : Nat) : Int), .int .u64 ((x * y % 18446744073709551616 : Nat) : Int)]) ∧ w' = w := Any.bits_Mul64 Try.lays264 x y hx hy w
def Try.lays212_ren : Go.Shelf.Ren := ⟨fun | 212 => 113 | 263 => 125 | 264 => 126 | n => n, fun | 46 => 114 | 51 => 142 | 146 => 143 | 53 => 145 | 148 => 146 | n => n, fun | n => n⟩
theorem Try.lays212 : Go.Proofs.Lays.n212 Try.prog Try.lays212_ren := {
  mixed := by kernel_rfl
  f212 := Try.func113.trans (congrArg some (by kernel_rfl))
  f263 := Try.func125.trans (congrArg some (by kernel_rfl))
  f264 := Try.func126.trans (congrArg some (by kernel_rfl))
  t46 := Try.underlying114
  a46 := Try.isAgg114
  z46 := Try.sizeOf114
  v46 := Try.zeroValue114
  t51 := Try.underlying142
  a51 := Try.isAgg142
  z51 := Try.sizeOf142
  v51 := Try.zeroValue142
  t53 := Try.underlying145
  a53 := Try.isAgg145
  z53 := Try.sizeOf145
  v53 := Try.zeroValue145
  t146 := Try.underlying143
  a146 := Try.isAgg143
  z146 := Try.sizeOf143
  v146 := Try.zeroValue143
  t148 := Try.underlying146
  a148 := Try.isAgg146
  z148 := Try.sizeOf146
  v148 := Try.zeroValue146 }
open Go.RowKit Go.Lib in
theorem Try.bits_Mul (x y : Nat) (hx : x < 18446744073709551616) (hy : y < 18446744073709551616) (w : World) :
    Calls Try.prog 113 #[.int .u64 x, .int .u64 y] w fun e w' => e = .returned (.tuple #[.int .u64 ((x * y / 18446744073709551616 : Nat) : Int), .int .u64 ((x * y % 18446744073709551616 : Nat) : Int)]) ∧ w' = w := Any.bits_Mul Try.lays212 x y hx hy w
end Go.Proofs
