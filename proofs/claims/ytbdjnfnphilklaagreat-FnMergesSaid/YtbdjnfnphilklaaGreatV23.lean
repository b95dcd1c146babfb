/-
  Texts of this seat, laid together: InI8, Tc9, Sr9, Dt9, Is9, Im9, Shelf7, DrawBox
-/
import Derived.Laws.BitsLemmas
import Derived.Shelf.LaysM
import Derived.Shelf.Strconv.Clone
import Derived.Shelf.Bits.Mul64
import Derived.Test.YtbdjnfnphilklaaGreatProg
import Derived.Test.YtbdjnfnphilklaaGreatV07
import Derived.Test.YtbdjnfnphilklaaGreatV22
import Derived.Test.YtbdjnfnphilklaaGreatV03
import Derived.Test.YtbdjnfnphilklaaGreatV12
import Derived.Test.YtbdjnfnphilklaaGreatV20
import Derived.Test.YtbdjnfnphilklaaGreatV09
import Derived.Test.YtbdjnfnphilklaaGreatV25
namespace Go.Proofs.YtbdjnfnphilklaaGreat.Ins
open Go.ChangeShapes Go.WideShapes Go.ChangeAt Go.RowKit
open Kit Point Slabs
set_option linter.unusedVariables false
set_option linter.unusedSimpArgs false
set_option linter.unnecessarySimpa false
end Go.Proofs.YtbdjnfnphilklaaGreat.Ins
namespace Go.Proofs.YtbdjnfnphilklaaGreat.Ins
open Go.ChangeShapes Go.WideShapes Go.ChangeAt Go.RowKit
open Kit Point Slabs
set_option linter.unusedVariables false
set_option linter.unusedSimpArgs false
set_option linter.unnecessarySimpa false
theorem colsK_no {l : List Pt} {y : Int} {k : Nat} (h : psg (sdk l k) y = false) : colsK l y (k + 1) = colsK l y k := by rw [colsK, h]; simp
theorem colsK_yes {l : List Pt} {y : Int} {k : Nat} (h : psg (sdk l k) y = true) : colsK l y (k + 1) = tog (colsK l y k) (fnb (sdk l k).1.1 (sdk l k).1.2 (sdk l k).2.1 (sdk l k).2.2 y) := by rw [colsK, h]; simp
set_option maxHeartbeats 2000000 in
theorem tc_impl (w : World) (a : Option Addr) (c : Nat) (l : List Pt) (y : Int) (hn : l.length ≤ 100000) (h : PathAt w a l) (hpts : ptsB l = true) (hy : inB y = true) :
    Calls Tryz.prog 143 #[.slice a l.length c, .int .i64 y] w fun e w' => ∃ v, e = .returned v ∧ Cols w' w.heap.size v (colsK l y l.length) ∧ Below w.heap.size w w' := by
  have H := Lib.hid (And.intro h (And.intro hn (And.intro hpts hy)))
  clear h hn hpts hy
  go_enter Tryz.func143, Tryz.ntmps143
  go_wp2_with fail
  (refine (sd_impl _ _ _ _ (by have := H.out.2.1; omega) H.out.1).mono ?_; rintro e w3 ⟨v, rfl, hS, hB3⟩)
  have HB3 := Lib.hid hB3
  clear hB3
  obtain ⟨n, hN⟩ : ∃ n, l.length = n := ⟨_, rfl⟩
  have HN := Lib.hid hN
  have hn := H.out.2.1
  rw [hN] at hS hn ⊢
  clear hN
  rcases hS.writes with ⟨h0, a1, c1, rfl⟩ | ⟨g, c1, rfl, _, W1⟩
  · subst h0
    clear hS
    go_wp2
    go_rounds 1
    go_ret
    refine ⟨_, rfl, ?_, HB3.out⟩
    rw [HN.out]
    exact Cols.nil _ _
  · have HW := Lib.hid W1
    clear hS W1
    go_wp2
    go_loopw [5, 11] (fun v5 v11 wr => ∃ k : Nat, k ≤ n ∧ v11 = .int .i64 (k : Int) ∧ Cols wr w3.heap.size v5 (colsK l y k) ∧ Below w3.heap.size w3 wr) (fun v5 v11 _ => n - (intOf v11).toNat)
    case atStart => exact ⟨0, Nat.zero_le _, rfl, Cols.nil _ _, Below.refl _ _⟩
    case round =>
      obtain ⟨k, hk, rfl, hC, hB⟩ := hrel
      by_cases hlt : k < n
      · have W2 := HW.out.on hB
        obtain ⟨m, hm⟩ : ∃ m, (k + 1) % n = m := ⟨_, rfl⟩
        have hmn : m < n := by rw [← hm]; exact Nat.mod_lt _ (by omega)
        have hp1 := ptsB_at H.out.2.2.1 (k := k) (by rw [HN.out]; exact hlt)
        have hp2 := ptsB_at H.out.2.2.1 (k := m) (by rw [HN.out]; exact hmn)
        have hf : sdF l k = [.int .i64 (pX l k), .int .i64 (pY l k), .int .i64 (pX l m), .int .i64 (pY l m)] := by unfold sdF; rw [HN.out, hm]
        have hs : sdk l k = ((pX l k, pY l k), (pX l m, pY l m)) := by unfold sdk; rw [HN.out, hm]
        generalize pX l k = ax at hf hp1 hs
        generalize pY l k = ay at hf hp1 hs
        generalize pX l m = bx at hf hp2 hs
        generalize pY l m = b1 at hf hp2 hs
        obtain ⟨q1, q2, q3, q4⟩ := cells4_of W2.cell hlt hf
        have hgl := W2.here
        have HS := Lib.hid hs
        have HQ := Lib.hid (And.intro hp1 hp2)
        have HB := Lib.hid hB
        have HC := Lib.hid hC
        clear hs hp1 hp2 hf W2 hm hB hC
        have i0 : (0 : Int) ≤ (k : Int) := by omega
        have i1 : (k : Int) < (n : Int) := by omega
        go_wp2_with fail
        ((with_reducible refine (ps_impl ax ay bx b1 0 y _ HQ.out.1 HQ.out.2 (by decide) H.out.2.2.2).mono ?_); rintro e w4 ⟨rfl, bb⟩)
        have hB4 := on_of (HB.out.alloc HB.out.size _) bb
        have HB4 := Lib.hid hB4
        have hbb := (Below.refl wr.heap.size wr).alloc (Nat.le_refl _) (.cells #[.int .i64 ax, .int .i64 ay, .int .i64 bx, .int .i64 b1] 155)
        have hWr4 := on_of hbb bb
        have HC4 := Lib.hid (HC.out.keep hWr4)
        have F4 := Four.keep (Four.new wr 155 ax ay bx b1) bb (by rw [World.size_alloc]; omega)
        obtain ⟨f0, f1, f2, f3, ff⟩ := F4.lay
        clear hB4 bb q1 q2 q3 q4 hbb hWr4 HC F4
        have hz := ps_zero ax ay bx b1 0 y
        obtain ⟨r, hr⟩ : ∃ r, psV ax ay bx b1 0 y = r := ⟨_, rfl⟩
        rw [hr] at hz ⊢
        clear hr
        by_cases hr0 : r = 0
        · subst hr0
          have e := colsK_no (l := l) (y := y) (k := k) (by rw [HS.out]; exact hz.1 rfl)
          have HE := Lib.hid e
          clear e hz f0 f1 f2 f3 ff
          go_wp2
          go_roundw
          case rel => exact ⟨k + 1, by omega, by go_num, by rw [HE.out]; exact HC4.out, HB4.out⟩
          case measure => simp [intOf]; omega
        · have e := colsK_yes (l := l) (y := y) (k := k) (by
            rw [HS.out]; cases hp : psg ((ax, ay), (bx, b1)) y
            · exact absurd (hz.2 hp) hr0
            · rfl)
          rw [HS.out] at e
          have HE := Lib.hid e
          clear e hz
          go_wp2_with fail
          ((with_reducible refine (fnb_impl ax ay bx b1 y _ HQ.out.1 HQ.out.2 H.out.2.2.2).mono ?_); rintro e w5 ⟨rfl, bb⟩)
          clear f0 f1 f2 f3 ff
          have HB5 := Lib.hid (on_of HB4.out bb)
          have HC5 := Lib.hid (HC4.out.keep bb)
          clear bb
          go_wp2_with fail
          refine (tog_impl w5 w3.heap.size _ _ (fnb ax ay bx b1 y) HC5.out HB5.out.size (by have := cols_len l y k; omega) (cols_sorted l y k)).mono ?_
          rintro e w6 ⟨u, rfl, hC6, hB6⟩
          have HB6 := Lib.hid (HB5.out.trans hB6)
          have HC6 := Lib.hid hC6
          clear hC6 hB6
          go_wp2
          go_roundw
          case rel => exact ⟨k + 1, by omega, by go_num, by rw [HE.out]; exact HC6.out, HB6.out⟩
          case measure => simp [intOf]; omega
      · obtain rfl : k = n := by omega
        have HB := Lib.hid hB
        have HC := Lib.hid hC
        clear hB hC
        go_wp2
        go_ret
        refine ⟨_, rfl, ?_, HB3.out.trans (HB.out.mono HB3.out.size)⟩
        rw [HN.out]
        rcases HC.out with ⟨h1, h2⟩ | ⟨g2, c2, f2, h1, h2, h3⟩
        · exact .inl ⟨h1, h2⟩
        · exact .inr ⟨g2, c2, f2, h1, Nat.le_trans HB3.out.size h2, h3⟩
end Go.Proofs.YtbdjnfnphilklaaGreat.Ins
namespace Go.Proofs.YtbdjnfnphilklaaGreat.Ins
open Go.ChangeShapes Go.WideShapes Go.ChangeAt Go.RowKit Go.Shelf
open Kit Point
set_option linter.unusedVariables false
set_option linter.unusedSimpArgs false
set_option linter.unnecessarySimpa false
attribute [local go_sem] Oper.semAt_some
theorem own_low {β : Type} {A B : Nat} {J : β → World → Prop} (h : OwnFrom A J) (hAB : A ≤ B) : OwnFrom B J := fun s V V' row hs hg hr => h s V V' row hs hg fun r e => ⟨Nat.le_trans hAB (hr r e).1, (hr r e).2⟩
theorem boxed_turn {V V' : World} {row : Option Nat} {B : Nat} {t : TypeId} {v : Value} (h : Boxed V B t v) (hg : V.grownBy V' row) (hr : ∀ r, row = some r → ∃ o : Obj, V.heap[r]? = some o ∧ o.isCells = false) : Boxed V' B t v :=
  h.kept hg fun e => by obtain ⟨o, ho, hc⟩ := hr B e.symm; rw [show V.heap[B]? = _ from h] at ho; cases ho; cases hc
theorem row_turn {V V' : World} {row : Option Nat} {b n : Nat} {t : TypeId} {f : Nat → Value} (h : V.rowIs b t n f) (hg : V.grownBy V' row) (hr : ∀ r, row = some r → ∃ o : Obj, V.heap[r]? = some o ∧ o.isCells = false) : V'.rowIs b t n f :=
  h.of_block (hg.block b h.lt fun e => by
    obtain ⟨o, ho, hc⟩ := hr b e.symm
    obtain ⟨c, hb, _⟩ := h
    rw [hb] at ho; cases ho; cases hc)
def pairK (c : List Int) (k : Nat) : Pt := (c.getD (2 * k) 0, c.getD (2 * k + 1) 0)
theorem prs_range : ∀ (c : List Int) (m : Nat), c.length = 2 * m → (List.range m).map (pairK c) = prs c
  | [], m, h => by
    obtain rfl : m = 0 := by simp at h; omega
    rfl
  | [a], m, h => by simp at h; omega
  | a :: b :: r, m, h => by
    obtain ⟨k, rfl⟩ : ∃ k, m = k + 1 := ⟨m - 1, by simp at h; omega⟩
    have ih := prs_range r k (by simp at h; omega)
    rw [List.range_succ_eq_map, List.map_cons, List.map_map, prs, ← ih]
    congr 1
set_option maxRecDepth 100000 in
set_option maxHeartbeats 2000000 in
theorem sr_gives (b0 b1 : Nat) (a : Option Addr) (c : Nat) (l : List Pt) (y : Int) (w : World) (hn : l.length ≤ 100000) (h : PathAt w a l) (hpts : ptsB l = true) (hy : inB y = true)
    (h0 : Boxed w b0 50 (.slice a l.length c)) (h1 : Boxed w b1 3 (.int .i64 y)) :
    Gives Tryz.prog 141 #[.pointer (some ⟨b0, 0, none⟩), .pointer (some ⟨b1, 0, none⟩)] (fun p : Pt => #[.agg #[.int .i64 p.1, .int .i64 p.2]]) KeepT (prs (colsK l y l.length)) w := by
  intro lp n J W hW hJ hY hJ0
  have H0 : Boxed W b0 50 (.slice a l.length c) := (hW.block _ h0.lt).trans h0
  have H1 : Boxed W b1 3 (.int .i64 y) := (hW.block _ h1.lt).trans h1
  have c0 := H0.cell
  have c1 := H1.cell
  have hl0 := H0.lt
  have hl1 := H1.lt
  have HP := Lib.hid (And.intro (h.on hW) (And.intro hn (And.intro hpts hy)))
  clear h hn hpts hy
  refine callsIn_of_wp_marks Tryz.func141 rfl trivial ?_ rfl
  simp only [Tryz.ntmps141, List.size_toArray, List.length_cons, List.length_nil, Nat.reduceAdd, Nat.reduceSub, Array.replicate_succ, Array.replicate_zero, List.push_toArray, List.append_toArray, List.nil_append, List.cons_append]
  have hnd : ∀ k, Fence.wide.depth.isSome = true → 1 ≤ k := fun k h => by simp [Fence.wide] at h
  gi_wp2_with fail
  refine ⟨trivial, hnd _, (callsIn_wide.2 (tc_impl _ a c l y HP.out.2.1 (HP.out.1.on ((Below.refl _ W).alloc (Nat.le_refl _) _)) HP.out.2.2.1 HP.out.2.2.2)).mono ?_⟩
  rintro e w1 ⟨v, rfl, hC, hB⟩
  have hlen := cols_len l y l.length
  have hev := cols_even l y
  obtain ⟨m, hm⟩ : ∃ m, (colsK l y l.length).length = 2 * m := ⟨(colsK l y l.length).length / 2, by omega⟩
  have hprs := prs_range (colsK l y l.length) m hm
  have HR := Lib.hid (And.intro hprs hm)
  have hY0 : Boxed (W.alloc (.cells #[.func (.yield lp) #[] #[]] 144)) W.heap.size 144 (.func (.yield lp) #[] #[]) := Boxed.new W _ _
  have hY1 : Boxed w1 W.heap.size 144 (.func (.yield lp) #[] #[]) := (hB.block _ hY0.lt).trans hY0
  have hJ1 : J [] w1 := ownFrom_on hJ (hJ.alloc _ hJ0) hB
  rcases hC with ⟨rfl, hnil⟩ | ⟨g, cap, f, rfl, hg, hc, hmx, hr, hf⟩
  · have HN := Lib.hid hnil
    clear hnil hprs hm hev hlen
    gi_wp2_with fail
    refine ⟨trivial, hnd _, (callsIn_wide.2 (chunk_call _ _ _ _)).mono ?_⟩
    rintro e w2 ⟨rfl, rfl⟩
    gi_wp2_with fail
    have hB0 : Boxed ((w1.alloc (.cells #[.slice none 0 0] 69)).alloc (.cells #[.int .i64 2] 3)) w1.heap.size 69 (.slice none 0 0) := (Boxed.new w1 _ _).alloc _
    have hsz : W.heap.size ≤ ((w1.alloc (.cells #[.slice none 0 0] 69)).alloc (.cells #[.int .i64 2] 3)).heap.size := by
      have := hB.size; simp at this ⊢; omega
    have hJ2 := hJ.alloc (.cells #[.int .i64 2] 3) (hJ.alloc (.cells #[.slice none 0 0] 69) hJ1)
    refine range_all (gf := 144) (lb := #[.pointer (some ⟨w1.heap.size, 0, none⟩), .pointer (some ⟨w1.heap.size + 1, 0, none⟩)]) rfl (enters_of Tryz.func144 (by kernel_rfl) rfl)
      (chunk_none w1.heap.size (w1.heap.size + 1) 0 _ hB0) (fun h k => KeepT.trans h k) KeepT.putObj (fun _ => rfl)
      (fun pre V => J [] V) ?hI hJ2 (fun pre k b V => True) (fun _ _ _ _ _ _ _ _ _ _ => trivial) ?assign ?body ?done
    case hI =>
      rintro s X Z row h1 hg' hr'
      exact (own_low hJ hsz) _ X Z row h1 hg' hr'
    case assign =>
      intro l0 m0 pre k suf V hx hI
      simp at hx
    case body =>
      intro l0 m0 pre k suf b V hx hI
      simp at hx
    case done =>
      rintro D V hD hj hK
      gi_wp2
      refine ⟨by simp, .inl ⟨_, _, rfl, run_takeDeferred hK, ?_⟩⟩
      refine ⟨_, results_none rfl _ _ _, ⟨_, rfl⟩, ?_⟩
      rw [HN.out]
      exact hJ.putObj _ hj (Nat.le_trans hsz hD) hK rfl
  · gi_wp2_with fail
    refine ⟨trivial, hnd _, (callsIn_wide.2 (chunk_call _ _ _ _)).mono ?_⟩
    rintro e w2 ⟨rfl, rfl⟩
    gi_wp2_with fail
    have hB0 : Boxed ((w1.alloc (.cells #[.slice (some ⟨g, 0, none⟩) (2 * m) cap] 69)).alloc (.cells #[.int .i64 2] 3)) w1.heap.size 69 (.slice (some ⟨g, 0, none⟩) (2 * m) cap) := (Boxed.new w1 _ _).alloc _
    have hB1 : Boxed ((w1.alloc (.cells #[.slice (some ⟨g, 0, none⟩) (2 * m) cap] 69)).alloc (.cells #[.int .i64 2] 3)) (w1.heap.size + 1) 3 (.int .i64 2) := by
      have := Boxed.new (w1.alloc (.cells #[.slice (some ⟨g, 0, none⟩) (2 * m) cap] 69)) 3 (.int .i64 2)
      rwa [World.size_alloc] at this
    have hsz : W.heap.size ≤ ((w1.alloc (.cells #[.slice (some ⟨g, 0, none⟩) (2 * m) cap] 69)).alloc (.cells #[.int .i64 2] 3)).heap.size := by
      have := hB.size; simp at this ⊢; omega
    have hJ2 := hJ.alloc (.cells #[.int .i64 2] 3) (hJ.alloc (.cells #[.slice (some ⟨g, 0, none⟩) (2 * m) cap] 69) hJ1)
    have hY2 := (hY1.alloc (.cells #[.slice (some ⟨g, 0, none⟩) (2 * m) cap] 69)).alloc (.cells #[.int .i64 2] 3)
    have hr2 := (hr.alloc (.cells #[.slice (some ⟨g, 0, none⟩) (2 * m) cap] 69)).alloc (.cells #[.int .i64 2] 3)
    refine range_all (gf := 144) (lb := #[.pointer (some ⟨w1.heap.size, 0, none⟩), .pointer (some ⟨w1.heap.size + 1, 0, none⟩)]) rfl (enters_of Tryz.func144 (by kernel_rfl) rfl)
      (chunk_gives w1.heap.size (w1.heap.size + 1) g cap m _ hB0 hB1 (by omega) hmx) (fun h k => KeepT.trans h k) KeepT.putObj (fun _ => rfl)
      (fun pre V => J (pre.map (pairK (colsK l y l.length))) V ∧ Boxed V W.heap.size 144 (.func (.yield lp) #[] #[]) ∧ V.rowIs g 3 cap f) ?hI ⟨hJ2, hY2, hr2⟩
      (fun pre k b V => b = { tmps := #[.func (.yield lp) #[] #[], .pointer (some ⟨b0, 0, none⟩), .pointer (some ⟨b1, 0, none⟩), .pointer (some ⟨W.heap.size, 0, none⟩), .slice (some ⟨g, 2 * k, none⟩) 2 2, .slice a l.length c, .int .i64 y, .slice (some ⟨g, 0, none⟩) (2 * m) cap, .func (.func 144) #[] #[.pointer (some ⟨w1.heap.size, 0, none⟩), .pointer (some ⟨w1.heap.size + 1, 0, none⟩)], .slice (some ⟨g, 2 * k, none⟩) 2 2, undef, undef, undef, undef, undef, undef, undef, undef, undef, undef], defers := [] } ∧
        J (pre.map (pairK (colsK l y l.length))) V ∧ Boxed V W.heap.size 144 (.func (.yield lp) #[] #[]) ∧ V.rowIs g 3 cap f) ?hAx ?assign ?body ?done
    case hI =>
      rintro s X Z row ⟨h1, h2, h3⟩ hg' hr'
      exact ⟨(own_low hJ hsz) _ X Z row h1 hg' hr', boxed_turn h2 hg' fun r e => (hr' r e).2, row_turn h3 hg' fun r e => (hr' r e).2⟩
    case hAx =>
      rintro pre k b s X Z row ⟨h0, h1, h2, h3⟩ hg' hr'
      exact ⟨h0, (own_low hJ hsz) _ X Z row h1 hg' hr', boxed_turn h2 hg' fun r e => (hr' r e).2, row_turn h3 hg' fun r e => (hr' r e).2⟩
    case assign =>
      intro l0 m0 pre k suf V hx hI
      gi_wp2
      exact ⟨KeepsFrom.refl _ _, KeepT.refl _, by first | rfl | trivial, hI⟩
    case body =>
      rintro l0 m0 pre k suf b V hx ⟨rfl, hj, hy2, hr3⟩
      have hkm : k < m := by have : k ∈ List.range m := by rw [hx]; simp
                             simpa using this
      have q0 := hy2.cell
      have q1 : V.cell? ⟨g, 2 * k, none⟩ = some (.int .i64 ((colsK l y l.length).getD (2 * k) 0)) := by rw [hr3.cell (by omega), hf _ (by omega)]
      have q2 : V.cell? ⟨g, 2 * k + 1, none⟩ = some (.int .i64 ((colsK l y l.length).getD (2 * k + 1) 0)) := by rw [hr3.cell (by omega), hf _ (by omega)]
      have hxs : prs (colsK l y l.length) = pre.map (pairK (colsK l y l.length)) ++ pairK (colsK l y l.length) k :: suf.map (pairK (colsK l y l.length)) := by
        rw [← HR.out.1, hx]; simp
      obtain ⟨fn, tmps, assign, body, hy, hR⟩ := yield_at (hY 0 _ _ _ V.drew hxs (ownFrom_drew hJ hj)) l0 (m0 - 1)
      have hmx2 : Tryz.prog.follows .mixedOrders = true := by kernel_rfl
      have HM : Hid ((pre ++ [k]).map (pairK (colsK l y l.length)) = pre.map (pairK (colsK l y l.length)) ++ [((colsK l y l.length).getD (2 * k) 0, (colsK l y l.length).getD (2 * k + 1) 0)]) := Lib.hid (by simp [pairK])
      simp only [pairK] at hy hR
      generalize (colsK l y l.length).getD (2 * k) 0 = x0 at *
      generalize (colsK l y l.length).getD (2 * k + 1) 0 = x1 at *
      gi_wp2
      refine regionIn_tail 8 hmx2 (by kernel_rfl) (by kernel_rfl) ?_
      have q0 : V.drew.cell? ⟨W.heap.size, 0, none⟩ = some (.func (.yield lp) #[] #[]) := q0
      have q1 : V.drew.cell? ⟨g, 2 * k, none⟩ = some (.int .i64 x0) := q1
      have q2 : V.drew.cell? ⟨g, 2 * k + 1, none⟩ = some (.int .i64 x1) := q2
      simp only [List.take_succ_cons, List.take_zero, List.drop_succ_cons, List.drop_zero]
      repeat still_step
      refine wpStill_nil ?_
      gi_wp2
      refine ⟨fun h => by simp [Fence.wide] at h, hR.mono ?_⟩
      rintro e V' ⟨rfl, hJ3, hk3, hf3⟩
      gi_wp2
      refine ⟨(KeepsOthers.drew V).from _ |>.trans (keepsFrom_low hf3 hsz), (show KeepT V V.drew from fun _ _ _ _ h _ _ => h).trans hk3, ?_, ?_, ?_⟩
      · rw [HM.out]; exact hJ3
      · exact hk3.boxed (show Boxed V.drew _ _ _ from hy2) (by decide) (by decide)
      · exact hk3.row (show V.drew.rowIs _ _ _ _ from hr3) (by decide) (by decide)
    case done =>
      rintro D V hD ⟨hj, _, _⟩ hK
      gi_wp2
      refine ⟨by simp, .inl ⟨_, _, rfl, run_takeDeferred hK, ?_⟩⟩
      refine ⟨_, results_none rfl _ _ _, ⟨_, rfl⟩, ?_⟩
      rw [← HR.out.1]
      exact hJ.putObj _ hj (Nat.le_trans hsz hD) hK rfl
theorem sr_call (a : Option Addr) (n c : Nat) (y : Int) (w : World) :
    Calls Tryz.prog 140 #[.slice a n c, .int .i64 y] w fun e w' => e = .returned (.func (.func 141) #[] #[.pointer (some ⟨w.heap.size, 0, none⟩), .pointer (some ⟨w.heap.size + 1, 0, none⟩)]) ∧ w' = (w.alloc (.cells #[.slice a n c] 50)).alloc (.cells #[.int .i64 y] 3) := by
  go_enter Tryz.func140, Tryz.ntmps140
  go_wp2
  go_ret
  exact ⟨rfl, rfl⟩
end Go.Proofs.YtbdjnfnphilklaaGreat.Ins
namespace Go.Proofs.YtbdjnfnphilklaaGreat.Ins
open Go.ChangeShapes Go.WideShapes Go.ChangeAt Go.RowKit
open Kit Point
set_option linter.unusedVariables false
set_option linter.unusedSimpArgs false
set_option linter.unnecessarySimpa false
def dtK (l : List Pt) : Nat → Int
  | 0 => 0
  | k + 1 => IntKind.i64.wrap (dtK l k + IntKind.i64.wrap (pY l k - pX l k))
def dtV (l : List Pt) : Int := if spB l then dtK l l.length else 0
theorem wrap_in (x y : Int) : IntKind.i64.wrap (x + IntKind.i64.wrap y) = IntKind.i64.wrap (x + y) := by
  simp only [IntKind.wrap_i64]; omega
theorem wrap_in2 (x y z : Int) : IntKind.i64.wrap (IntKind.i64.wrap (x + y) - z) = IntKind.i64.wrap (x + IntKind.i64.wrap (y - z)) := by
  simp only [IntKind.wrap_i64]; omega
theorem dt_bad {l : List Pt} (h : spB l = false) : dtV l = 0 := by simp [dtV, h]
theorem dt_good {l : List Pt} (h : spB l = true) : dtV l = dtK l l.length := by simp [dtV, h]
end Go.Proofs.YtbdjnfnphilklaaGreat.Ins
namespace Go.Proofs.YtbdjnfnphilklaaGreat.Ins
open Go.ChangeShapes Go.WideShapes Go.ChangeAt Go.RowKit Go.Shelf
open Kit Point
set_option linter.unusedVariables false
set_option linter.unusedSimpArgs false
set_option linter.unnecessarySimpa false
def encP (p : Pt) : List Value := [.int .i64 p.1, .int .i64 p.2]
end Go.Proofs.YtbdjnfnphilklaaGreat.Ins
namespace Go.Proofs.YtbdjnfnphilklaaGreat.Ins
open Go.ChangeShapes Go.WideShapes Go.ChangeAt Go.RowKit
open Kit Point
set_option linter.unusedVariables false
set_option linter.unusedSimpArgs false
set_option linter.unnecessarySimpa false
theorem inS_hit {l : List Pt} {k : Nat} {x : Int} (hk : k < l.length) (h1 : pX l k ≤ x) (h2 : x < pY l k) : inS l x = true :=
  inS_true.2 ⟨l[k], List.getElem_mem hk, by rw [getk l hk]; exact h1, by rw [getk l hk]; exact h2⟩
theorem inS_miss {l : List Pt} {x : Int} (h : ∀ k, k < l.length → ¬ (pX l k ≤ x ∧ x < pY l k)) : inS l x = false := inS_false fun q hq => by
  obtain ⟨k, hk, rfl⟩ := List.getElem_of_mem hq
  have := h k hk
  rw [getk l hk]; show x < pX l k ∨ pY l k ≤ x; omega
end Go.Proofs.YtbdjnfnphilklaaGreat.Ins
namespace Go.Proofs
open Go.Shelf
end Go.Proofs
namespace Go.Proofs.YtbdjnfnphilklaaGreat.Draw
open Go.ChangeShapes Go.WideShapes Go.ChangeAt Go.RowKit
open Kit
set_option linter.unusedVariables false
set_option linter.unusedSimpArgs false
set_option linter.unnecessarySimpa false
attribute [local go_sem ↓] run_mx run_mn
def BoxIn (x0 y0 x1 y1 : Int) : Prop := -4 ≤ x0 ∧ x0 ≤ x1 ∧ x1 ≤ 36 ∧ -4 ≤ y0 ∧ y0 ≤ y1 ∧ y1 ≤ 36
theorem box_in {x y u v : Int} (hx : InPage x) (hy : InPage y) (hu : InPage u) (hv : InPage v) : BoxIn (mn x u) (mn y v) (mx x u) (mx y v) := by
  unfold BoxIn mn mx; unfold InPage at *; omega
set_option maxHeartbeats 2000000 in
theorem box_on (W w0 w : World) (b : Nat) (a : Option Addr) (len cap : Nat) (z : List Int) (d : Drawn W a len cap z b w0 w) :
    Calls Tryz.prog 102 #[.pointer (some ⟨b, 0, none⟩)] w fun e w' => ∃ x0 y0 x1 y1 : Int, BoxIn x0 y0 x1 y1 ∧ e = .returned (.agg #[.int .i64 x0, .int .i64 y0, .int .i64 x1, .int .i64 y1]) ∧ Drawn W a len cap z b w0 w' := by
  have hne := d.ne
  have D := (d.alloc (.cells #[.int .i64 0, .int .i64 0, .int .i64 0, .int .i64 0] 51)).1.same
  have hW := Nat.le_trans d.1.far (Nat.le_of_lt d.1.here)
  have hw0 := d.2.size
  have HD := Lib.hid d
  clear d
  go_enter Tryz.func102, Tryz.ntmps102
  go_wp2_with fail
  (refine (point_on W _ _ b a len cap z D).mono ?_; rintro e w1 ⟨x, y, hx, hy, rfl, d1⟩)
  have hne1 := d1.ne
  have D1 := (d1.alloc (.cells #[.int .i64 x, .int .i64 y] 110)).1.same
  go_wp2_with fail
  (refine (point_on W _ _ b a len cap z D1).mono ?_; rintro e w2 ⟨u, v, hu, hv, rfl, d2⟩)
  obtain ⟨p0, p1, pf⟩ := Two.drawn (Two.new w1 110 x y) d2 hne1
  have d3 := (d1.alloc (.cells #[.int .i64 x, .int .i64 y] 110)).trans d2
  have r0 := d3.keeps (Four.newZero w 51 0 (by omega)) hne
  have r1 := d3.keeps (Four.newZero w 51 1 (by omega)) hne
  have r2 := d3.keeps (Four.newZero w 51 2 (by omega)) hne
  have r3 := d3.keeps (Four.newZero w 51 3 (by omega)) hne
  have rf : ∀ o, w2.frozen? ⟨w.heap.size, o, none⟩ = false := fun o => d3.thaws (by simp) (by simp [go_sem]) hne
  have hs1 : w.heap.size < w1.heap.size := by have := d1.2.size; simp at this; omega
  have hs2 : w1.heap.size < w2.heap.size := by have := d2.2.size; simp at this; omega
  have hs3 : w.heap.size < w2.heap.size := by omega
  have d4 := (HD.out.alloc (.cells #[.int .i64 0, .int .i64 0, .int .i64 0, .int .i64 0] 51)).trans d3
  clear d1 d2 d3 D D1
  go_wp2_with fail
  refine bodyPost_ret (by simp [results, Tryz.results102, go_sem, *]; try rfl) rfl ?_
  exact ⟨_, _, _, _, box_in hx hy hu hv, rfl, ((((d4.setNew hw0 hW hne _ _).setNew hw0 hW hne _ _).setNew hw0 hW hne _ _).setNew hw0 hW hne _ _).alloc _⟩
end Go.Proofs.YtbdjnfnphilklaaGreat.Draw
