/-
  Texts of this seat, laid together: Sr9, Sa9
-/
import Derived.Test.YtbdjnfnphilklaaM19
import Derived.Test.YtbdjnfnphilklaaM18
import Derived.Test.YtbdjnfnphilklaaM25
import Derived.Test.YtbdjnfnphilklaaM09
namespace Go.Proofs.Ytbdjnfnphilklaa.Ins
open Go.ChangeShapes Go.WideShapes Go.ChangeAt Go.RowKit Go.Shelf
open Kit Point
set_option linter.unusedVariables false
set_option linter.unusedSimpArgs false
set_option linter.unnecessarySimpa false
attribute [local go_sem] Oper.semAt_some
theorem own_low {β : Type} {A B : Nat} {J : β → World → Prop} (h : OwnFrom A J) (hAB : A ≤ B) : OwnFrom B J := fun s V V' row hs hg hr => h s V V' row hs hg fun r e => ⟨Nat.le_trans hAB (hr r e).1, (hr r e).2⟩
theorem boxed_turn {V V' : World} {row : Option Nat} {B : Nat} {t : TypeId} {v : Value} (h : Boxed V B t v) (hg : V.grownBy V' row) (hr : ∀ r, row = some r → ∃ o : Obj, V.heap[r]? = some o ∧ o.isCells = false) : Boxed V' B t v :=
  h.kept hg fun e => by obtain ⟨o, ho, hc⟩ := hr B e.symm; rw [show V.heap[B]? = _ from h] at ho; cases ho; cases hc
theorem row_turn {V V' : World} {row : Option Nat} {b n : Nat} {t : TypeId} {f : Nat → Value} (h : V.rowIs b t n f) (hg : V.grownBy V' row) (hr : ∀ r, row = some r → ∃ o : Obj, V.heap[r]? = some o ∧ o.isCells = false) : V'.rowIs b t n f :=
  h.of_block (hg.block b h.lt fun e => by
    obtain ⟨o, ho, hc⟩ := hr b e.symm
    obtain ⟨c, hb, _⟩ := h
    rw [hb] at ho; cases ho; cases hc)
def pairK (c : List Int) (k : Nat) : Pt := (c.getD (2 * k) 0, c.getD (2 * k + 1) 0)
theorem prs_range : ∀ (c : List Int) (m : Nat), c.length = 2 * m → (List.range m).map (pairK c) = prs c
  | [], m, h => by
    obtain rfl : m = 0 := by simp at h; omega
    rfl
  | [a], m, h => by simp at h; omega
  | a :: b :: r, m, h => by
    obtain ⟨k, rfl⟩ : ∃ k, m = k + 1 := ⟨m - 1, by simp at h; omega⟩
    have ih := prs_range r k (by simp at h; omega)
    rw [List.range_succ_eq_map, List.map_cons, List.map_map, prs, ← ih]
    congr 1
set_option maxRecDepth 100000 in
set_option maxHeartbeats 2000000 in
theorem sr_gives (b0 b1 : Nat) (a : Option Addr) (c : Nat) (l : List Pt) (y : Int) (w : World) (hn : l.length ≤ 100000) (h : PathAt w a l) (hpts : ptsB l = true) (hy : inB y = true)
    (h0 : Boxed w b0 36 (.slice a l.length c)) (h1 : Boxed w b1 3 (.int .i64 y)) :
    Gives Try.prog 131 #[.pointer (some ⟨b0, 0, none⟩), .pointer (some ⟨b1, 0, none⟩)] (fun p : Pt => #[.agg #[.int .i64 p.1, .int .i64 p.2]]) KeepT (prs (colsK l y l.length)) w := by
  intro lp n J W hW hJ hY hJ0
  have H0 : Boxed W b0 36 (.slice a l.length c) := (hW.block _ h0.lt).trans h0
  have H1 : Boxed W b1 3 (.int .i64 y) := (hW.block _ h1.lt).trans h1
  have c0 := H0.cell
  have c1 := H1.cell
  have hl0 := H0.lt
  have hl1 := H1.lt
  have HP := Lib.hid (And.intro (h.on hW) (And.intro hn (And.intro hpts hy)))
  clear h hn hpts hy
  refine callsIn_of_wp_marks Try.func131 rfl trivial ?_ rfl
  simp only [Try.ntmps131, List.size_toArray, List.length_cons, List.length_nil, Nat.reduceAdd, Nat.reduceSub, Array.replicate_succ, Array.replicate_zero, List.push_toArray, List.append_toArray, List.nil_append, List.cons_append]
  have hnd : ∀ k, Fence.wide.depth.isSome = true → 1 ≤ k := fun k h => by simp [Fence.wide] at h
  gi_wp2_with fail
  refine ⟨trivial, hnd _, (callsIn_wide.2 (tc_impl _ a c l y HP.out.2.1 (HP.out.1.on ((Below.refl _ W).alloc (Nat.le_refl _) _)) HP.out.2.2.1 HP.out.2.2.2)).mono ?_⟩
  rintro e w1 ⟨v, rfl, hC, hB⟩
  have hlen := cols_len l y l.length
  have hev := cols_even l y
  obtain ⟨m, hm⟩ : ∃ m, (colsK l y l.length).length = 2 * m := ⟨(colsK l y l.length).length / 2, by omega⟩
  have hprs := prs_range (colsK l y l.length) m hm
  have HR := Lib.hid (And.intro hprs hm)
  have hY0 : Boxed (W.alloc (.cells #[.func (.yield lp) #[] #[]] 150)) W.heap.size 150 (.func (.yield lp) #[] #[]) := Boxed.new W _ _
  have hY1 : Boxed w1 W.heap.size 150 (.func (.yield lp) #[] #[]) := (hB.block _ hY0.lt).trans hY0
  have hJ1 : J [] w1 := ownFrom_on hJ (hJ.alloc _ hJ0) hB
  rcases hC with ⟨rfl, hnil⟩ | ⟨g, cap, f, rfl, hg, hc, hmx, hr, hf⟩
  · have HN := Lib.hid hnil
    clear hnil hprs hm hev hlen
    gi_wp2_with fail
    refine ⟨trivial, hnd _, (callsIn_wide.2 (chunk_call _ _ _ _)).mono ?_⟩
    rintro e w2 ⟨rfl, rfl⟩
    gi_wp2_with fail
    have hB0 : Boxed ((w1.alloc (.cells #[.slice none 0 0] 27)).alloc (.cells #[.int .i64 2] 3)) w1.heap.size 27 (.slice none 0 0) := (Boxed.new w1 _ _).alloc _
    have hsz : W.heap.size ≤ ((w1.alloc (.cells #[.slice none 0 0] 27)).alloc (.cells #[.int .i64 2] 3)).heap.size := by
      have := hB.size; simp at this ⊢; omega
    have hJ2 := hJ.alloc (.cells #[.int .i64 2] 3) (hJ.alloc (.cells #[.slice none 0 0] 27) hJ1)
    refine range_all (gf := 134) (lb := #[.pointer (some ⟨w1.heap.size, 0, none⟩), .pointer (some ⟨w1.heap.size + 1, 0, none⟩)]) rfl (enters_of Try.func134 (by kernel_rfl) rfl)
      (chunk_none w1.heap.size (w1.heap.size + 1) 0 _ hB0) (fun h k => KeepT.trans h k) KeepT.putObj (fun _ => rfl)
      (fun pre V => J [] V) ?hI hJ2 (fun pre k b V => True) (fun _ _ _ _ _ _ _ _ _ _ => trivial) ?assign ?body ?done
    case hI =>
      rintro s X Z row h1 hg' hr'
      exact (own_low hJ hsz) _ X Z row h1 hg' hr'
    case assign =>
      intro l0 m0 pre k suf V hx hI
      simp at hx
    case body =>
      intro l0 m0 pre k suf b V hx hI
      simp at hx
    case done =>
      rintro D V hD hj hK
      gi_wp2
      refine ⟨by simp, .inl ⟨_, _, rfl, run_takeDeferred hK, ?_⟩⟩
      refine ⟨_, results_none rfl _ _ _, ⟨_, rfl⟩, ?_⟩
      rw [HN.out]
      exact hJ.putObj _ hj (Nat.le_trans hsz hD) hK rfl
  · gi_wp2_with fail
    refine ⟨trivial, hnd _, (callsIn_wide.2 (chunk_call _ _ _ _)).mono ?_⟩
    rintro e w2 ⟨rfl, rfl⟩
    gi_wp2_with fail
    have hB0 : Boxed ((w1.alloc (.cells #[.slice (some ⟨g, 0, none⟩) (2 * m) cap] 27)).alloc (.cells #[.int .i64 2] 3)) w1.heap.size 27 (.slice (some ⟨g, 0, none⟩) (2 * m) cap) := (Boxed.new w1 _ _).alloc _
    have hB1 : Boxed ((w1.alloc (.cells #[.slice (some ⟨g, 0, none⟩) (2 * m) cap] 27)).alloc (.cells #[.int .i64 2] 3)) (w1.heap.size + 1) 3 (.int .i64 2) := by
      have := Boxed.new (w1.alloc (.cells #[.slice (some ⟨g, 0, none⟩) (2 * m) cap] 27)) 3 (.int .i64 2)
      rwa [World.size_alloc] at this
    have hsz : W.heap.size ≤ ((w1.alloc (.cells #[.slice (some ⟨g, 0, none⟩) (2 * m) cap] 27)).alloc (.cells #[.int .i64 2] 3)).heap.size := by
      have := hB.size; simp at this ⊢; omega
    have hJ2 := hJ.alloc (.cells #[.int .i64 2] 3) (hJ.alloc (.cells #[.slice (some ⟨g, 0, none⟩) (2 * m) cap] 27) hJ1)
    have hY2 := (hY1.alloc (.cells #[.slice (some ⟨g, 0, none⟩) (2 * m) cap] 27)).alloc (.cells #[.int .i64 2] 3)
    have hr2 := (hr.alloc (.cells #[.slice (some ⟨g, 0, none⟩) (2 * m) cap] 27)).alloc (.cells #[.int .i64 2] 3)
    refine range_all (gf := 134) (lb := #[.pointer (some ⟨w1.heap.size, 0, none⟩), .pointer (some ⟨w1.heap.size + 1, 0, none⟩)]) rfl (enters_of Try.func134 (by kernel_rfl) rfl)
      (chunk_gives w1.heap.size (w1.heap.size + 1) g cap m _ hB0 hB1 (by omega) hmx) (fun h k => KeepT.trans h k) KeepT.putObj (fun _ => rfl)
      (fun pre V => J (pre.map (pairK (colsK l y l.length))) V ∧ Boxed V W.heap.size 150 (.func (.yield lp) #[] #[]) ∧ V.rowIs g 3 cap f) ?hI ⟨hJ2, hY2, hr2⟩
      (fun pre k b V => b = { tmps := #[.func (.yield lp) #[] #[], .pointer (some ⟨b0, 0, none⟩), .pointer (some ⟨b1, 0, none⟩), .pointer (some ⟨W.heap.size, 0, none⟩), .slice (some ⟨g, 2 * k, none⟩) 2 2, .slice a l.length c, .int .i64 y, .slice (some ⟨g, 0, none⟩) (2 * m) cap, .func (.func 134) #[] #[.pointer (some ⟨w1.heap.size, 0, none⟩), .pointer (some ⟨w1.heap.size + 1, 0, none⟩)], .slice (some ⟨g, 2 * k, none⟩) 2 2, undef, undef, undef, undef, undef, undef, undef, undef, undef, undef], defers := [] } ∧
        J (pre.map (pairK (colsK l y l.length))) V ∧ Boxed V W.heap.size 150 (.func (.yield lp) #[] #[]) ∧ V.rowIs g 3 cap f) ?hAx ?assign ?body ?done
    case hI =>
      rintro s X Z row ⟨h1, h2, h3⟩ hg' hr'
      exact ⟨(own_low hJ hsz) _ X Z row h1 hg' hr', boxed_turn h2 hg' fun r e => (hr' r e).2, row_turn h3 hg' fun r e => (hr' r e).2⟩
    case hAx =>
      rintro pre k b s X Z row ⟨h0, h1, h2, h3⟩ hg' hr'
      exact ⟨h0, (own_low hJ hsz) _ X Z row h1 hg' hr', boxed_turn h2 hg' fun r e => (hr' r e).2, row_turn h3 hg' fun r e => (hr' r e).2⟩
    case assign =>
      intro l0 m0 pre k suf V hx hI
      gi_wp2
      exact ⟨KeepsFrom.refl _ _, KeepT.refl _, by first | rfl | trivial, hI⟩
    case body =>
      rintro l0 m0 pre k suf b V hx ⟨rfl, hj, hy2, hr3⟩
      have hkm : k < m := by have : k ∈ List.range m := by rw [hx]; simp
                             simpa using this
      have q0 := hy2.cell
      have q1 : V.cell? ⟨g, 2 * k, none⟩ = some (.int .i64 ((colsK l y l.length).getD (2 * k) 0)) := by rw [hr3.cell (by omega), hf _ (by omega)]
      have q2 : V.cell? ⟨g, 2 * k + 1, none⟩ = some (.int .i64 ((colsK l y l.length).getD (2 * k + 1) 0)) := by rw [hr3.cell (by omega), hf _ (by omega)]
      have hxs : prs (colsK l y l.length) = pre.map (pairK (colsK l y l.length)) ++ pairK (colsK l y l.length) k :: suf.map (pairK (colsK l y l.length)) := by
        rw [← HR.out.1, hx]; simp
      obtain ⟨fn, tmps, assign, body, hy, hR⟩ := yield_at (hY 0 _ _ _ V.drew hxs (ownFrom_drew hJ hj)) l0 (m0 - 1)
      have hmx2 : Try.prog.follows .mixedOrders = true := by kernel_rfl
      have HM : Hid ((pre ++ [k]).map (pairK (colsK l y l.length)) = pre.map (pairK (colsK l y l.length)) ++ [((colsK l y l.length).getD (2 * k) 0, (colsK l y l.length).getD (2 * k + 1) 0)]) := Lib.hid (by simp [pairK])
      simp only [pairK] at hy hR
      generalize (colsK l y l.length).getD (2 * k) 0 = x0 at *
      generalize (colsK l y l.length).getD (2 * k + 1) 0 = x1 at *
      gi_wp2
      refine regionIn_tail 8 hmx2 (by kernel_rfl) (by kernel_rfl) ?_
      have q0 : V.drew.cell? ⟨W.heap.size, 0, none⟩ = some (.func (.yield lp) #[] #[]) := q0
      have q1 : V.drew.cell? ⟨g, 2 * k, none⟩ = some (.int .i64 x0) := q1
      have q2 : V.drew.cell? ⟨g, 2 * k + 1, none⟩ = some (.int .i64 x1) := q2
      simp only [List.take_succ_cons, List.take_zero, List.drop_succ_cons, List.drop_zero]
      repeat still_step
      refine wpStill_nil ?_
      gi_wp2
      refine ⟨fun h => by simp [Fence.wide] at h, hR.mono ?_⟩
      rintro e V' ⟨rfl, hJ3, hk3, hf3⟩
      gi_wp2
      refine ⟨(KeepsOthers.drew V).from _ |>.trans (keepsFrom_low hf3 hsz), (show KeepT V V.drew from fun _ _ _ _ h _ _ => h).trans hk3, ?_, ?_, ?_⟩
      · rw [HM.out]; exact hJ3
      · exact hk3.boxed (show Boxed V.drew _ _ _ from hy2) (by decide) (by decide)
      · exact hk3.row (show V.drew.rowIs _ _ _ _ from hr3) (by decide) (by decide)
    case done =>
      rintro D V hD ⟨hj, _, _⟩ hK
      gi_wp2
      refine ⟨by simp, .inl ⟨_, _, rfl, run_takeDeferred hK, ?_⟩⟩
      refine ⟨_, results_none rfl _ _ _, ⟨_, rfl⟩, ?_⟩
      rw [← HR.out.1]
      exact hJ.putObj _ hj (Nat.le_trans hsz hD) hK rfl
theorem sr_call (a : Option Addr) (n c : Nat) (y : Int) (w : World) :
    Calls Try.prog 130 #[.slice a n c, .int .i64 y] w fun e w' => e = .returned (.func (.func 131) #[] #[.pointer (some ⟨w.heap.size, 0, none⟩), .pointer (some ⟨w.heap.size + 1, 0, none⟩)]) ∧ w' = (w.alloc (.cells #[.slice a n c] 36)).alloc (.cells #[.int .i64 y] 3) := by
  go_enter Try.func130, Try.ntmps130
  go_wp2
  go_ret
  exact ⟨rfl, rfl⟩
end Go.Proofs.Ytbdjnfnphilklaa.Ins
namespace Go.Proofs.Ytbdjnfnphilklaa.Ins
open Go.ChangeShapes Go.WideShapes Go.ChangeAt Go.RowKit Go.Shelf
open Kit Point
set_option linter.unusedVariables false
set_option linter.unusedSimpArgs false
set_option linter.unnecessarySimpa false
attribute [local go_sem] Oper.semAt_some
theorem info_sp9 : (Try.prog.info? 96).map (fun i => (i.zero, i.size, i.bytes)) = some (some (.agg #[.int .i64 0, .int .i64 0]), 2, 16) := by kernel_rfl
def SpIs (w : World) (m : List Pt) (e : Ending) (w' : World) : Prop := ∃ v, e = .returned v ∧ w'.ownsRow w.heap.size 96 2 v m.length (cellsP m) ∧ Below w.heap.size w w'
theorem sp_none (w w' : World) (h : Below w.heap.size w w') : SpIs w [] (.returned (.slice none 0 0)) w' := ⟨_, rfl, World.ownsRow_nil _ _ _ _, h⟩
theorem two_new {V : World} {x y : Int} {T : TypeId} : ∀ j u, ([.int .i64 x, .int .i64 y] : List Value)[j]? = some u → (V.alloc (.cells #[.int .i64 x, .int .i64 y] T)).cell? ((⟨V.heap.size, 0, none⟩ : Addr).add j) = some u := by
  intro j u hj
  rw [Addr.add_lit]
  have hlt : j < 2 := by have := (List.getElem?_eq_some_iff.1 hj).1; simpa using this
  have : j = 0 ∨ j = 1 := by omega
  rcases this with rfl | rfl <;> (simp at hj; subst hj; simp [go_sem])
theorem hold_turn {n0 B k : Nat} {xs : List Value} {V V' : World} {row : Option Nat} (h : ∃ v, Boxed V B 93 v ∧ V.ownsRow n0 96 2 v k xs) (hg : V.grownBy V' row) (hr : ∀ r, row = some r → ∃ o : Obj, V.heap[r]? = some o ∧ o.isCells = false) :
    ∃ v, Boxed V' B 93 v ∧ V'.ownsRow n0 96 2 v k xs := by
  obtain ⟨v, h1, h2⟩ := h
  refine ⟨v, boxed_turn h1 hg hr, h2.kept hg ?_⟩
  rcases h2.2 with ⟨rfl, _⟩ | ⟨g, cap, cur, rfl, _, hgb, _⟩
  · exact .inl rfl
  · refine .inr fun e => ?_
    obtain ⟨o, ho, hc⟩ := hr g (by simpa [Value.ownBlock] using e.symm)
    rw [hgb] at ho; cases ho; cases hc
theorem keepT_app {V V1 : World} {B n0 k : Nat} {v v' : Value} {xs : List Value} {tmp : Obj} (h1 : Boxed V B 93 v) (h2 : V.ownsRow n0 96 2 v k xs) (hg : (V.alloc tmp).grownBy V1 v.ownBlock) : KeepT V (V1.setCell ⟨B, 0, none⟩ v') := by
  intro i c t z hi ht1 ht2
  have hlt := (Array.getElem?_eq_some_iff.1 hi).1
  have hiB : i ≠ B := by
    rintro rfl
    rw [show V.heap[i]? = _ from h1] at hi
    simp at hi; exact ht2 hi.2.1.symm
  have hiv : some i ≠ v.ownBlock := by
    intro e
    rcases h2.2 with ⟨rfl, _⟩ | ⟨g, cap, cur, rfl, _, hgb, _⟩
    · simp [Value.ownBlock] at e
    · obtain rfl : i = g := by simpa [Value.ownBlock] using e
      rw [hgb] at hi
      simp at hi; exact ht1 hi.2.1.symm
  rw [Below.heap_setCell _ _ _ i hiB, hg.block i (by rw [World.size_alloc]; omega) hiv, Below.heap_alloc _ _ _ hlt]
  exact hi
set_option maxRecDepth 100000 in
set_option maxHeartbeats 2000000 in
theorem sa_impl (w : World) (a : Option Addr) (c : Nat) (l : List Pt) (y : Int) (hn : l.length ≤ 1048576) (h : PathAt w a l) :
    Calls Try.prog 120 #[.slice a l.length c, .int .i64 y] w (SpIs w (spsV l y)) := by
  have H := Lib.hid (And.intro h hn)
  clear h hn
  rcases (show pathB l = false ∨ (pathB l = true ∧ inB y = false) ∨ (pathB l = true ∧ inB y = true) by cases pathB l <;> cases inB y <;> simp) with h1 | ⟨h1, h2⟩ | ⟨h1, h2⟩
  iterate 2
    · have hv : spsV l y = [] := by simp [spsV, *]
      rw [hv]
      clear hv
      go_enter Try.func120, Try.ntmps120
      go_wp2_with (first
        | (go_at_call 95; refine (path_impl _ _ _ _ H.out.2 H.out.1).mono ?_; rintro e w' ⟨rfl, hb⟩)
        | (go_at_call 127; refine (coord_any _ _).mono ?_; rintro e w' ⟨rfl, rfl⟩))
      go_ret
      exact sp_none _ _ (by assumption)
  · have hv : spsV l y = prs (colsK l y l.length) := by simp [spsV, *]
    have hpts : ptsB l = true := by simp only [pathB, Bool.and_eq_true] at h1; exact h1.2
    have h8 : l.length ≤ 8 := by simp only [pathB, Bool.and_eq_true, decide_eq_true_eq] at h1; exact h1.1
    have HK := Lib.hid (And.intro hv (And.intro hpts (And.intro h2 h8)))
    rw [hv]
    clear hv hpts h8
    have hnd : ∀ k, Fence.wide.depth.isSome = true → 1 ≤ k := fun k h => by simp [Fence.wide] at h
    obtain ⟨q, _⟩ : ∃ q : Nat, q = q := ⟨0, rfl⟩
    refine (callsIn_wide (n := q)).1 ?_
    refine callsIn_of_wp_marks Try.func120 rfl trivial ?_ rfl
    simp only [Try.ntmps120, List.size_toArray, List.length_cons, List.length_nil, Nat.reduceAdd, Nat.reduceSub, Array.replicate_succ, Array.replicate_zero, List.push_toArray, List.append_toArray, List.nil_append, List.cons_append]
    gi_wp2_with fail
    refine ⟨trivial, hnd _, (callsIn_wide.2 (path_impl _ _ _ _ H.out.2 H.out.1)).mono ?_⟩
    rintro e w1 ⟨rfl, hb1⟩
    have HB1 := Lib.hid hb1
    clear hb1
    gi_wp2_with fail
    refine ⟨trivial, hnd _, (callsIn_wide.2 (coord_any _ _)).mono ?_⟩
    rintro e w2 ⟨rfl, rfl⟩
    gi_wp2_with fail
    refine ⟨trivial, hnd _, (callsIn_wide.2 (sr_call _ _ _ _ _)).mono ?_⟩
    rintro e w3 ⟨rfl, rfl⟩
    gi_wp2_with fail
    obtain ⟨i0, hi0, hz0, hz1, hz2⟩ := info_parts info_sp9
    obtain ⟨W, hW⟩ : ∃ W, (((w1.alloc (.cells #[.slice none 0 0] 93)).alloc (.cells #[.slice a l.length c] 36)).alloc (.cells #[.int .i64 y] 3)) = W := ⟨_, rfl⟩
    have hWs : W.heap.size = w1.heap.size + 3 := by rw [← hW]; simp
    have hWb : Below w1.heap.size w1 W := by rw [← hW]; go_grown
    have hS0 : Boxed W w1.heap.size 93 (.slice none 0 0) := by rw [← hW]; exact ((Boxed.new w1 _ _).alloc _).alloc _
    have hB0 : Boxed W (w1.heap.size + 1) 36 (.slice a l.length c) := by
      have := Boxed.new (w1.alloc (.cells #[.slice none 0 0] 93)) 36 (.slice a l.length c)
      rw [World.size_alloc] at this
      rw [← hW]; exact this.alloc _
    have hB1 : Boxed W (w1.heap.size + 1 + 1) 3 (.int .i64 y) := by
      have := Boxed.new ((w1.alloc (.cells #[.slice none 0 0] 93)).alloc (.cells #[.slice a l.length c] 36)) 3 (.int .i64 y)
      rw [World.size_alloc, World.size_alloc] at this
      rw [← hW]; exact this
    rw [hW]
    clear hW
    have hwW : Below w.heap.size w W := on_of HB1.out hWb
    have hw1 := HB1.out.size
    have hG := sr_gives (w1.heap.size + 1) (w1.heap.size + 1 + 1) a c l y W (by have := HK.out.2.2.2; omega) (H.out.1.on hwW) HK.out.2.1 HK.out.2.2.1 hB0 hB1
    have hlen : (prs (colsK l y l.length)).length ≤ 8 := by
      have h1 := cols_len l y l.length
      have h2 := HK.out.2.2.2
      rw [prs_len]; omega
    generalize prs (colsK l y l.length) = sp at *
    refine range_all (gf := 131) (lb := #[.pointer (some ⟨w1.heap.size + 1, 0, none⟩), .pointer (some ⟨w1.heap.size + 1 + 1, 0, none⟩)]) rfl (enters_of Try.func131 (by kernel_rfl) rfl)
      hG (fun h k => KeepT.trans h k) KeepT.putObj (fun _ => rfl)
      (fun pre V => (∃ v, Boxed V w1.heap.size 93 v ∧ V.ownsRow w.heap.size 96 2 v pre.length (cellsP pre)) ∧ Below w.heap.size w V) ?hI ⟨⟨_, hS0, World.ownsRow_nil _ _ _ _⟩, hwW⟩
      (fun pre p b V => ∃ Bx, b = { tmps := #[.slice a l.length c, .int .i64 y, undef, undef, .slice none 0 0, .pointer (some ⟨w1.heap.size, 0, none⟩), .pointer (some ⟨Bx, 0, none⟩), .slice a l.length c, .bool true, .bool false, .bool false, .int .i64 y, .bool true, .bool false, .bool false, .slice a l.length c, .int .i64 y,
          .func (.func 131) #[] #[.pointer (some ⟨w1.heap.size + 1, 0, none⟩), .pointer (some ⟨w1.heap.size + 1 + 1, 0, none⟩)], .agg #[.int .i64 p.1, .int .i64 p.2], undef, undef, undef, undef, undef], defers := [] } ∧
        V.heap[Bx]? = some (.cells #[.int .i64 p.1, .int .i64 p.2] 96 (0, 0)) ∧ (∃ v, Boxed V w1.heap.size 93 v ∧ V.ownsRow w.heap.size 96 2 v pre.length (cellsP pre)) ∧ Below w.heap.size w V) ?hAx ?assign ?body ?done
    case hI =>
      rintro s X Y row ⟨h1, h2⟩ hg hr
      exact ⟨hold_turn h1 hg fun r e => (hr r e).2, ownFrom_below (β := Unit) (Nat.le_refl _) (by omega) () X Y row h2 hg hr⟩
    case hAx =>
      rintro pre p b s X Y row ⟨Bx, hb, hbx, h1, h2⟩ hg hr
      refine ⟨Bx, hb, ?_, hold_turn h1 hg fun r e => (hr r e).2, ownFrom_below (β := Unit) (Nat.le_refl _) (by omega) () X Y row h2 hg hr⟩
      refine (hg.block Bx (Array.getElem?_eq_some_iff.1 hbx).1 fun e => ?_).trans hbx
      obtain ⟨o, ho, hc⟩ := (hr Bx e.symm).2
      rw [hbx] at ho; cases ho; cases hc
    case assign =>
      rintro l0 m0 pre p suf V hx ⟨⟨v, h1, h2⟩, h3⟩
      gi_wp2
      refine ⟨(KeepsOthers.alloc _ _).from _, KeepT.below ((Below.refl _ V).alloc (Nat.le_refl _) _), ⟨V.heap.size, by first | rfl | trivial, World.alloc_heap_new _ _, ⟨v, h1.alloc _, h2.alloc _⟩, h3.alloc h3.size _⟩⟩
    case body =>
      rintro l0 m0 pre p suf b V hx ⟨Bx, rfl, hbx, ⟨v, h1, h2⟩, h3⟩
      have hpl : pre.length < 8 := by rw [hx] at hlen; simp at hlen; omega
      have c1 := h1.cell
      have c2 : V.cell? ⟨Bx, 0, none⟩ = some (.int .i64 p.1) := by simp [World.cell?, hbx]
      have c3 : V.cell? ⟨Bx, 1, none⟩ = some (.int .i64 p.2) := by simp [World.cell?, hbx]
      have hle : w.heap.size ≤ V.heap.size := h3.size
      clear hbx
      gi_wp2_with (gi_at_builtin; refine wpListIn_append_own _ rfl _ _ 93 rfl w.heap.size 96 i0 _ 2 16 Try.underlying93 hi0 hz0 hz1 hz2 rfl (by decide) _ _ _ rfl (h2.alloc _) ⟨V.heap.size, 0, none⟩ 1 1 [.int .i64 p.1, .int .i64 p.2] rfl rfl two_new (by simp [Value.oneCell']) (by unfold maxLen; omega) (by omega) (by simp; omega) ?_; intro v' w4 hown' hgrow _; obtain ⟨g', cap', rfl⟩ := ownsRow_succ hown'; obtain ⟨hv1, hv2, hr2, hk2, hb2⟩ := h1.appended (by decide) h2 hle hw1 hown' hgrow; have hc1 := hv1.cell; have hf1 := hv1.frozen)
      refine ⟨hk2.from _, keepT_app h1 h2 hgrow, ⟨_, hv2, ?_⟩, h3.trans hb2⟩
      rw [cellsP_snoc, List.length_append]; exact hr2
    case done =>
      rintro D V hD ⟨⟨v, h1, h2⟩, h3⟩ hK
      have c1 := h1.cell
      gi_wp2
      refine ⟨by simp, .inl ⟨_, _, rfl, run_takeDeferred hK, ?_⟩⟩
      exact ⟨_, results_tmp rfl _ _ _, _, rfl, ownsRow_putObj h2 _ hK rfl, h3.grown (grownBy_putObj' V D _) h3.size (fun k e => by cases e; omega)⟩
end Go.Proofs.Ytbdjnfnphilklaa.Ins
