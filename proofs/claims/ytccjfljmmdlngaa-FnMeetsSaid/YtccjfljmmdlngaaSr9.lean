/-
  spansInRow (program): what the call returns, and that the iterator hands over the spans of the row one after the other.
-/
import Derived.Test.YtccjfljmmdlngaaCk9
import Derived.Test.YtccjfljmmdlngaaSt9
import Derived.Test.YtccjfljmmdlngaaTc9
namespace Go.Proofs.Ytccjfljmmdlngaa.Ins
open Go.ChangeShapes Go.WideShapes Go.ChangeAt Go.RowKit Go.Shelf
open Kit Point
set_option linter.unusedVariables false
set_option linter.unusedSimpArgs false
set_option linter.unnecessarySimpa false
attribute [local go_sem] Oper.semAt_some
theorem own_low {β : Type} {A B : Nat} {J : β → World → Prop} (h : OwnFrom A J) (hAB : A ≤ B) : OwnFrom B J := fun s V V' row hs hg hr => h s V V' row hs hg fun r e => ⟨Nat.le_trans hAB (hr r e).1, (hr r e).2⟩
theorem boxed_turn {V V' : World} {row : Option Nat} {B : Nat} {t : TypeId} {v : Value} (h : Boxed V B t v) (hg : V.grownBy V' row) (hr : ∀ r, row = some r → ∃ o : Obj, V.heap[r]? = some o ∧ o.isCells = false) : Boxed V' B t v :=
  h.kept hg fun e => by obtain ⟨o, ho, hc⟩ := hr B e.symm; rw [show V.heap[B]? = _ from h] at ho; cases ho; cases hc
theorem row_turn {V V' : World} {row : Option Nat} {b n : Nat} {t : TypeId} {f : Nat → Value} (h : V.rowIs b t n f) (hg : V.grownBy V' row) (hr : ∀ r, row = some r → ∃ o : Obj, V.heap[r]? = some o ∧ o.isCells = false) : V'.rowIs b t n f :=
  h.of_block (hg.block b h.lt fun e => by
    obtain ⟨o, ho, hc⟩ := hr b e.symm
    obtain ⟨c, hb, _⟩ := h
    rw [hb] at ho; cases ho; cases hc)
/-- Pair k of the columns. -/
def pairK (c : List Int) (k : Nat) : Pt := (c.getD (2 * k) 0, c.getD (2 * k + 1) 0)
theorem prs_range : ∀ (c : List Int) (m : Nat), c.length = 2 * m → (List.range m).map (pairK c) = prs c
  | [], m, h => by
    obtain rfl : m = 0 := by simp at h; omega
    rfl
  | [a], m, h => by simp at h; omega
  | a :: b :: r, m, h => by
    obtain ⟨k, rfl⟩ : ∃ k, m = k + 1 := ⟨m - 1, by simp at h; omega⟩
    have ih := prs_range r k (by simp at h; omega)
    rw [List.range_succ_eq_map, List.map_cons, List.map_map, prs, ← ih]
    congr 1
set_option maxRecDepth 100000 in
set_option maxHeartbeats 2000000 in
theorem sr_gives (b0 b1 : Nat) (a : Option Addr) (c : Nat) (l : List Pt) (y : Int) (w : World) (hn : l.length ≤ 100000) (h : PathAt w a l) (hpts : ptsB l = true) (hy : inB y = true)
    (h0 : Boxed w b0 24 (.slice a l.length c)) (h1 : Boxed w b1 3 (.int .i64 y)) :
    Gives Try.prog 61 #[.pointer (some ⟨b0, 0, none⟩), .pointer (some ⟨b1, 0, none⟩)] (fun p : Pt => #[.agg #[.int .i64 p.1, .int .i64 p.2]]) KeepT (prs (colsK l y l.length)) w := by
  intro lp n J W hW hJ hY hJ0
  have H0 : Boxed W b0 24 (.slice a l.length c) := (hW.block _ h0.lt).trans h0
  have H1 : Boxed W b1 3 (.int .i64 y) := (hW.block _ h1.lt).trans h1
  have c0 := H0.cell
  have c1 := H1.cell
  have hl0 := H0.lt
  have hl1 := H1.lt
  have HP := Lib.hid (And.intro (h.on hW) (And.intro hn (And.intro hpts hy)))
  clear h hn hpts hy
  refine callsIn_of_wp_marks Try.func61 rfl trivial ?_ rfl
  simp only [Try.ntmps61, List.size_toArray, List.length_cons, List.length_nil, Nat.reduceAdd, Nat.reduceSub, Array.replicate_succ, Array.replicate_zero, List.push_toArray, List.append_toArray, List.nil_append, List.cons_append]
  have hnd : ∀ k, Fence.wide.depth.isSome = true → 1 ≤ k := fun k h => by simp [Fence.wide] at h
  gi_wp2_with fail
  refine ⟨trivial, hnd _, (callsIn_wide.2 (tc_impl _ a c l y HP.out.2.1 (HP.out.1.on ((Below.refl _ W).alloc (Nat.le_refl _) _)) HP.out.2.2.1 HP.out.2.2.2)).mono ?_⟩
  rintro e w1 ⟨v, rfl, hC, hB⟩
  have hlen := cols_len l y l.length
  have hev := cols_even l y
  obtain ⟨m, hm⟩ : ∃ m, (colsK l y l.length).length = 2 * m := ⟨(colsK l y l.length).length / 2, by omega⟩
  have hprs := prs_range (colsK l y l.length) m hm
  have HR := Lib.hid (And.intro hprs hm)
  have hY0 : Boxed (W.alloc (.cells #[.func (.yield lp) #[] #[]] 71)) W.heap.size 71 (.func (.yield lp) #[] #[]) := Boxed.new W _ _
  have hY1 : Boxed w1 W.heap.size 71 (.func (.yield lp) #[] #[]) := (hB.block _ hY0.lt).trans hY0
  have hJ1 : J [] w1 := ownFrom_on hJ (hJ.alloc _ hJ0) hB
  rcases hC with ⟨rfl, hnil⟩ | ⟨g, cap, f, rfl, hg, hc, hmx, hr, hf⟩
  · have HN := Lib.hid hnil
    clear hnil hprs hm hev hlen
    gi_wp2_with fail
    refine ⟨trivial, hnd _, (callsIn_wide.2 (chunk_call _ _ _ _)).mono ?_⟩
    rintro e w2 ⟨rfl, rfl⟩
    gi_wp2_with fail
    have hB0 : Boxed ((w1.alloc (.cells #[.slice none 0 0] 26)).alloc (.cells #[.int .i64 2] 3)) w1.heap.size 26 (.slice none 0 0) := (Boxed.new w1 _ _).alloc _
    have hsz : W.heap.size ≤ ((w1.alloc (.cells #[.slice none 0 0] 26)).alloc (.cells #[.int .i64 2] 3)).heap.size := by
      have := hB.size; simp at this ⊢; omega
    have hJ2 := hJ.alloc (.cells #[.int .i64 2] 3) (hJ.alloc (.cells #[.slice none 0 0] 26) hJ1)
    refine range_all (gf := 69) (lb := #[.pointer (some ⟨w1.heap.size, 0, none⟩), .pointer (some ⟨w1.heap.size + 1, 0, none⟩)]) rfl (enters_of Try.func69 (by kernel_rfl) rfl)
      (chunk_none w1.heap.size (w1.heap.size + 1) 0 _ hB0) (fun h k => KeepT.trans h k) KeepT.putObj (fun _ => rfl)
      (fun pre V => J [] V) ?hI hJ2 (fun pre k b V => True) (fun _ _ _ _ _ _ _ _ _ _ => trivial) ?assign ?body ?done
    case hI =>
      rintro s X Z row h1 hg' hr'
      exact (own_low hJ hsz) _ X Z row h1 hg' hr'
    case assign =>
      intro l0 m0 pre k suf V hx hI
      simp at hx
    case body =>
      intro l0 m0 pre k suf b V hx hI
      simp at hx
    case done =>
      rintro D V hD hj hK
      gi_wp2
      refine ⟨by simp, .inl ⟨_, _, rfl, run_takeDeferred hK, ?_⟩⟩
      refine ⟨_, results_none rfl _ _ _, ⟨_, rfl⟩, ?_⟩
      rw [HN.out]
      exact hJ.putObj _ hj (Nat.le_trans hsz hD) hK rfl
  · gi_wp2_with fail
    refine ⟨trivial, hnd _, (callsIn_wide.2 (chunk_call _ _ _ _)).mono ?_⟩
    rintro e w2 ⟨rfl, rfl⟩
    gi_wp2_with fail
    have hB0 : Boxed ((w1.alloc (.cells #[.slice (some ⟨g, 0, none⟩) (2 * m) cap] 26)).alloc (.cells #[.int .i64 2] 3)) w1.heap.size 26 (.slice (some ⟨g, 0, none⟩) (2 * m) cap) := (Boxed.new w1 _ _).alloc _
    have hB1 : Boxed ((w1.alloc (.cells #[.slice (some ⟨g, 0, none⟩) (2 * m) cap] 26)).alloc (.cells #[.int .i64 2] 3)) (w1.heap.size + 1) 3 (.int .i64 2) := by
      have := Boxed.new (w1.alloc (.cells #[.slice (some ⟨g, 0, none⟩) (2 * m) cap] 26)) 3 (.int .i64 2)
      rwa [World.size_alloc] at this
    have hsz : W.heap.size ≤ ((w1.alloc (.cells #[.slice (some ⟨g, 0, none⟩) (2 * m) cap] 26)).alloc (.cells #[.int .i64 2] 3)).heap.size := by
      have := hB.size; simp at this ⊢; omega
    have hJ2 := hJ.alloc (.cells #[.int .i64 2] 3) (hJ.alloc (.cells #[.slice (some ⟨g, 0, none⟩) (2 * m) cap] 26) hJ1)
    have hY2 := (hY1.alloc (.cells #[.slice (some ⟨g, 0, none⟩) (2 * m) cap] 26)).alloc (.cells #[.int .i64 2] 3)
    have hr2 := (hr.alloc (.cells #[.slice (some ⟨g, 0, none⟩) (2 * m) cap] 26)).alloc (.cells #[.int .i64 2] 3)
    refine range_all (gf := 69) (lb := #[.pointer (some ⟨w1.heap.size, 0, none⟩), .pointer (some ⟨w1.heap.size + 1, 0, none⟩)]) rfl (enters_of Try.func69 (by kernel_rfl) rfl)
      (chunk_gives w1.heap.size (w1.heap.size + 1) g cap m _ hB0 hB1 (by omega) hmx) (fun h k => KeepT.trans h k) KeepT.putObj (fun _ => rfl)
      (fun pre V => J (pre.map (pairK (colsK l y l.length))) V ∧ Boxed V W.heap.size 71 (.func (.yield lp) #[] #[]) ∧ V.rowIs g 3 cap f) ?hI ⟨hJ2, hY2, hr2⟩
      (fun pre k b V => b = { tmps := #[.func (.yield lp) #[] #[], .pointer (some ⟨b0, 0, none⟩), .pointer (some ⟨b1, 0, none⟩), .pointer (some ⟨W.heap.size, 0, none⟩), .slice (some ⟨g, 2 * k, none⟩) 2 2, .slice a l.length c, .int .i64 y, .slice (some ⟨g, 0, none⟩) (2 * m) cap, .func (.func 69) #[] #[.pointer (some ⟨w1.heap.size, 0, none⟩), .pointer (some ⟨w1.heap.size + 1, 0, none⟩)], .slice (some ⟨g, 2 * k, none⟩) 2 2, undef, undef, undef, undef, undef, undef, undef, undef, undef, undef], defers := [] } ∧
        J (pre.map (pairK (colsK l y l.length))) V ∧ Boxed V W.heap.size 71 (.func (.yield lp) #[] #[]) ∧ V.rowIs g 3 cap f) ?hAx ?assign ?body ?done
    case hI =>
      rintro s X Z row ⟨h1, h2, h3⟩ hg' hr'
      exact ⟨(own_low hJ hsz) _ X Z row h1 hg' hr', boxed_turn h2 hg' fun r e => (hr' r e).2, row_turn h3 hg' fun r e => (hr' r e).2⟩
    case hAx =>
      rintro pre k b s X Z row ⟨h0, h1, h2, h3⟩ hg' hr'
      exact ⟨h0, (own_low hJ hsz) _ X Z row h1 hg' hr', boxed_turn h2 hg' fun r e => (hr' r e).2, row_turn h3 hg' fun r e => (hr' r e).2⟩
    case assign =>
      intro l0 m0 pre k suf V hx hI
      gi_wp2
      exact ⟨KeepsFrom.refl _ _, KeepT.refl _, by first | rfl | trivial, hI⟩
    case body =>
      rintro l0 m0 pre k suf b V hx ⟨rfl, hj, hy2, hr3⟩
      have hkm : k < m := by have : k ∈ List.range m := by rw [hx]; simp
                             simpa using this
      have q0 := hy2.cell
      have q1 : V.cell? ⟨g, 2 * k, none⟩ = some (.int .i64 ((colsK l y l.length).getD (2 * k) 0)) := by rw [hr3.cell (by omega), hf _ (by omega)]
      have q2 : V.cell? ⟨g, 2 * k + 1, none⟩ = some (.int .i64 ((colsK l y l.length).getD (2 * k + 1) 0)) := by rw [hr3.cell (by omega), hf _ (by omega)]
      have hxs : prs (colsK l y l.length) = pre.map (pairK (colsK l y l.length)) ++ pairK (colsK l y l.length) k :: suf.map (pairK (colsK l y l.length)) := by
        rw [← HR.out.1, hx]; simp
      obtain ⟨fn, tmps, assign, body, hy, hR⟩ := yield_at (hY 0 _ _ _ V.drew hxs (ownFrom_drew hJ hj)) l0 (m0 - 1)
      have hmx2 : Try.prog.follows .mixedOrders = true := by kernel_rfl
      have HM : Hid ((pre ++ [k]).map (pairK (colsK l y l.length)) = pre.map (pairK (colsK l y l.length)) ++ [((colsK l y l.length).getD (2 * k) 0, (colsK l y l.length).getD (2 * k + 1) 0)]) := Lib.hid (by simp [pairK])
      simp only [pairK] at hy hR
      generalize (colsK l y l.length).getD (2 * k) 0 = x0 at *
      generalize (colsK l y l.length).getD (2 * k + 1) 0 = x1 at *
      gi_wp2
      refine regionIn_tail 8 hmx2 (by kernel_rfl) (by kernel_rfl) ?_
      have q0 : V.drew.cell? ⟨W.heap.size, 0, none⟩ = some (.func (.yield lp) #[] #[]) := q0
      have q1 : V.drew.cell? ⟨g, 2 * k, none⟩ = some (.int .i64 x0) := q1
      have q2 : V.drew.cell? ⟨g, 2 * k + 1, none⟩ = some (.int .i64 x1) := q2
      simp only [List.take_succ_cons, List.take_zero, List.drop_succ_cons, List.drop_zero]
      repeat still_step
      refine wpStill_nil ?_
      gi_wp2
      refine ⟨fun h => by simp [Fence.wide] at h, hR.mono ?_⟩
      rintro e V' ⟨rfl, hJ3, hk3, hf3⟩
      gi_wp2
      refine ⟨(KeepsOthers.drew V).from _ |>.trans (keepsFrom_low hf3 hsz), (show KeepT V V.drew from fun _ _ _ _ h _ _ => h).trans hk3, ?_, ?_, ?_⟩
      · rw [HM.out]; exact hJ3
      · exact hk3.boxed (show Boxed V.drew _ _ _ from hy2) (by decide) (by decide)
      · exact hk3.row (show V.drew.rowIs _ _ _ _ from hr3) (by decide) (by decide)
    case done =>
      rintro D V hD ⟨hj, _, _⟩ hK
      gi_wp2
      refine ⟨by simp, .inl ⟨_, _, rfl, run_takeDeferred hK, ?_⟩⟩
      refine ⟨_, results_none rfl _ _ _, ⟨_, rfl⟩, ?_⟩
      rw [← HR.out.1]
      exact hJ.putObj _ hj (Nat.le_trans hsz hD) hK rfl
/-- spansInRow itself: both arguments are boxed; the function value captures the boxes. -/
theorem sr_call (a : Option Addr) (n c : Nat) (y : Int) (w : World) :
    Calls Try.prog 40 #[.slice a n c, .int .i64 y] w fun e w' => e = .returned (.func (.func 61) #[] #[.pointer (some ⟨w.heap.size, 0, none⟩), .pointer (some ⟨w.heap.size + 1, 0, none⟩)]) ∧ w' = (w.alloc (.cells #[.slice a n c] 24)).alloc (.cells #[.int .i64 y] 3) := by
  go_enter Try.func40, Try.ntmps40
  go_wp2
  go_ret
  exact ⟨rfl, rfl⟩
end Go.Proofs.Ytccjfljmmdlngaa.Ins
