/-
  SpansAt (program): what the call returns for any path and any row.
-/
import Derived.Test.YtccjfljmmdlngaaSr9
import Derived.Test.YtccjfljmmdlngaaSh8
namespace Go.Proofs.Ytccjfljmmdlngaa.Ins
open Go.ChangeShapes Go.WideShapes Go.ChangeAt Go.RowKit Go.Shelf
open Kit Point
set_option linter.unusedVariables false
set_option linter.unusedSimpArgs false
set_option linter.unnecessarySimpa false
attribute [local go_sem] Oper.semAt_some
theorem info_sp9 : (Try.prog.info? 61).map (fun i => (i.zero, i.size, i.bytes)) = some (some (.agg #[.int .i64 0, .int .i64 0]), 2, 16) := by kernel_rfl
/-- What SpansAt leaves. -/
def SpIs (w : World) (m : List Pt) (e : Ending) (w' : World) : Prop := ∃ v, e = .returned v ∧ w'.ownsRow w.heap.size 61 2 v m.length (cellsP m) ∧ Below w.heap.size w w'
theorem sp_none (w w' : World) (h : Below w.heap.size w w') : SpIs w [] (.returned (.slice none 0 0)) w' := ⟨_, rfl, World.ownsRow_nil _ _ _ _, h⟩
theorem two_new {V : World} {x y : Int} {T : TypeId} : ∀ j u, ([.int .i64 x, .int .i64 y] : List Value)[j]? = some u → (V.alloc (.cells #[.int .i64 x, .int .i64 y] T)).cell? ((⟨V.heap.size, 0, none⟩ : Addr).add j) = some u := by
  intro j u hj
  rw [Addr.add_lit]
  have hlt : j < 2 := by have := (List.getElem?_eq_some_iff.1 hj).1; simpa using this
  have : j = 0 ∨ j = 1 := by omega
  rcases this with rfl | rfl <;> (simp at hj; subst hj; simp [go_sem])
theorem hold_turn {n0 B k : Nat} {xs : List Value} {V V' : World} {row : Option Nat} (h : ∃ v, Boxed V B 28 v ∧ V.ownsRow n0 61 2 v k xs) (hg : V.grownBy V' row) (hr : ∀ r, row = some r → ∃ o : Obj, V.heap[r]? = some o ∧ o.isCells = false) :
    ∃ v, Boxed V' B 28 v ∧ V'.ownsRow n0 61 2 v k xs := by
  obtain ⟨v, h1, h2⟩ := h
  refine ⟨v, boxed_turn h1 hg hr, h2.kept hg ?_⟩
  rcases h2.2 with ⟨rfl, _⟩ | ⟨g, cap, cur, rfl, _, hgb, _⟩
  · exact .inl rfl
  · refine .inr fun e => ?_
    obtain ⟨o, ho, hc⟩ := hr g (by simpa [Value.ownBlock] using e.symm)
    rw [hgb] at ho; cases ho; cases hc
/-- What an append and the store of its result into the variable keep. -/
theorem keepT_app {V V1 : World} {B n0 k : Nat} {v v' : Value} {xs : List Value} {tmp : Obj} (h1 : Boxed V B 28 v) (h2 : V.ownsRow n0 61 2 v k xs) (hg : (V.alloc tmp).grownBy V1 v.ownBlock) : KeepT V (V1.setCell ⟨B, 0, none⟩ v') := by
  intro i c t z hi ht1 ht2
  have hlt := (Array.getElem?_eq_some_iff.1 hi).1
  have hiB : i ≠ B := by
    rintro rfl
    rw [show V.heap[i]? = _ from h1] at hi
    simp at hi; exact ht2 hi.2.1.symm
  have hiv : some i ≠ v.ownBlock := by
    intro e
    rcases h2.2 with ⟨rfl, _⟩ | ⟨g, cap, cur, rfl, _, hgb, _⟩
    · simp [Value.ownBlock] at e
    · obtain rfl : i = g := by simpa [Value.ownBlock] using e
      rw [hgb] at hi
      simp at hi; exact ht1 hi.2.1.symm
  rw [Below.heap_setCell _ _ _ i hiB, hg.block i (by rw [World.size_alloc]; omega) hiv, Below.heap_alloc _ _ _ hlt]
  exact hi
set_option maxRecDepth 100000 in
set_option maxHeartbeats 2000000 in
theorem sa_impl (w : World) (a : Option Addr) (c : Nat) (l : List Pt) (y : Int) (hn : l.length ≤ 1048576) (h : PathAt w a l) :
    Calls Try.prog 13 #[.slice a l.length c, .int .i64 y] w (SpIs w (spsV l y)) := by
  have H := Lib.hid (And.intro h hn)
  clear h hn
  rcases (show pathB l = false ∨ (pathB l = true ∧ inB y = false) ∨ (pathB l = true ∧ inB y = true) by cases pathB l <;> cases inB y <;> simp) with h1 | ⟨h1, h2⟩ | ⟨h1, h2⟩
  iterate 2
    · have hv : spsV l y = [] := by simp [spsV, *]
      rw [hv]
      clear hv
      go_enter Try.func13, Try.ntmps13
      go_wp2_with (first
        | (go_at_call 38; refine (path_impl _ _ _ _ H.out.2 H.out.1).mono ?_; rintro e w' ⟨rfl, hb⟩)
        | (go_at_call 39; refine (coord_any _ _).mono ?_; rintro e w' ⟨rfl, rfl⟩))
      go_ret
      exact sp_none _ _ (by assumption)
  · have hv : spsV l y = prs (colsK l y l.length) := by simp [spsV, *]
    have hpts : ptsB l = true := by simp only [pathB, Bool.and_eq_true] at h1; exact h1.2
    have h8 : l.length ≤ 8 := by simp only [pathB, Bool.and_eq_true, decide_eq_true_eq] at h1; exact h1.1
    have HK := Lib.hid (And.intro hv (And.intro hpts (And.intro h2 h8)))
    rw [hv]
    clear hv hpts h8
    have hnd : ∀ k, Fence.wide.depth.isSome = true → 1 ≤ k := fun k h => by simp [Fence.wide] at h
    obtain ⟨q, _⟩ : ∃ q : Nat, q = q := ⟨0, rfl⟩
    refine (callsIn_wide (n := q)).1 ?_
    refine callsIn_of_wp_marks Try.func13 rfl trivial ?_ rfl
    simp only [Try.ntmps13, List.size_toArray, List.length_cons, List.length_nil, Nat.reduceAdd, Nat.reduceSub, Array.replicate_succ, Array.replicate_zero, List.push_toArray, List.append_toArray, List.nil_append, List.cons_append]
    gi_wp2_with fail
    refine ⟨trivial, hnd _, (callsIn_wide.2 (path_impl _ _ _ _ H.out.2 H.out.1)).mono ?_⟩
    rintro e w1 ⟨rfl, hb1⟩
    have HB1 := Lib.hid hb1
    clear hb1
    gi_wp2_with fail
    refine ⟨trivial, hnd _, (callsIn_wide.2 (coord_any _ _)).mono ?_⟩
    rintro e w2 ⟨rfl, rfl⟩
    gi_wp2_with fail
    refine ⟨trivial, hnd _, (callsIn_wide.2 (sr_call _ _ _ _ _)).mono ?_⟩
    rintro e w3 ⟨rfl, rfl⟩
    gi_wp2_with fail
    obtain ⟨i0, hi0, hz0, hz1, hz2⟩ := info_parts info_sp9
    obtain ⟨W, hW⟩ : ∃ W, (((w1.alloc (.cells #[.slice none 0 0] 28)).alloc (.cells #[.slice a l.length c] 24)).alloc (.cells #[.int .i64 y] 3)) = W := ⟨_, rfl⟩
    have hWs : W.heap.size = w1.heap.size + 3 := by rw [← hW]; simp
    have hWb : Below w1.heap.size w1 W := by rw [← hW]; go_grown
    have hS0 : Boxed W w1.heap.size 28 (.slice none 0 0) := by rw [← hW]; exact ((Boxed.new w1 _ _).alloc _).alloc _
    have hB0 : Boxed W (w1.heap.size + 1) 24 (.slice a l.length c) := by
      have := Boxed.new (w1.alloc (.cells #[.slice none 0 0] 28)) 24 (.slice a l.length c)
      rw [World.size_alloc] at this
      rw [← hW]; exact this.alloc _
    have hB1 : Boxed W (w1.heap.size + 1 + 1) 3 (.int .i64 y) := by
      have := Boxed.new ((w1.alloc (.cells #[.slice none 0 0] 28)).alloc (.cells #[.slice a l.length c] 24)) 3 (.int .i64 y)
      rw [World.size_alloc, World.size_alloc] at this
      rw [← hW]; exact this
    rw [hW]
    clear hW
    have hwW : Below w.heap.size w W := on_of HB1.out hWb
    have hw1 := HB1.out.size
    have hG := sr_gives (w1.heap.size + 1) (w1.heap.size + 1 + 1) a c l y W (by have := HK.out.2.2.2; omega) (H.out.1.on hwW) HK.out.2.1 HK.out.2.2.1 hB0 hB1
    have hlen : (prs (colsK l y l.length)).length ≤ 8 := by
      have h1 := cols_len l y l.length
      have h2 := HK.out.2.2.2
      rw [prs_len]; omega
    generalize prs (colsK l y l.length) = sp at *
    refine range_all (gf := 61) (lb := #[.pointer (some ⟨w1.heap.size + 1, 0, none⟩), .pointer (some ⟨w1.heap.size + 1 + 1, 0, none⟩)]) rfl (enters_of Try.func61 (by kernel_rfl) rfl)
      hG (fun h k => KeepT.trans h k) KeepT.putObj (fun _ => rfl)
      (fun pre V => (∃ v, Boxed V w1.heap.size 28 v ∧ V.ownsRow w.heap.size 61 2 v pre.length (cellsP pre)) ∧ Below w.heap.size w V) ?hI ⟨⟨_, hS0, World.ownsRow_nil _ _ _ _⟩, hwW⟩
      (fun pre p b V => ∃ Bx, b = { tmps := #[.slice a l.length c, .int .i64 y, undef, undef, .slice none 0 0, .pointer (some ⟨w1.heap.size, 0, none⟩), .pointer (some ⟨Bx, 0, none⟩), .slice a l.length c, .bool true, .bool false, .bool false, .int .i64 y, .bool true, .bool false, .bool false, .slice a l.length c, .int .i64 y,
          .func (.func 61) #[] #[.pointer (some ⟨w1.heap.size + 1, 0, none⟩), .pointer (some ⟨w1.heap.size + 1 + 1, 0, none⟩)], .agg #[.int .i64 p.1, .int .i64 p.2], undef, undef, undef, undef, undef], defers := [] } ∧
        V.heap[Bx]? = some (.cells #[.int .i64 p.1, .int .i64 p.2] 61 (0, 0)) ∧ (∃ v, Boxed V w1.heap.size 28 v ∧ V.ownsRow w.heap.size 61 2 v pre.length (cellsP pre)) ∧ Below w.heap.size w V) ?hAx ?assign ?body ?done
    case hI =>
      rintro s X Y row ⟨h1, h2⟩ hg hr
      exact ⟨hold_turn h1 hg fun r e => (hr r e).2, ownFrom_below (β := Unit) (Nat.le_refl _) (by omega) () X Y row h2 hg hr⟩
    case hAx =>
      rintro pre p b s X Y row ⟨Bx, hb, hbx, h1, h2⟩ hg hr
      refine ⟨Bx, hb, ?_, hold_turn h1 hg fun r e => (hr r e).2, ownFrom_below (β := Unit) (Nat.le_refl _) (by omega) () X Y row h2 hg hr⟩
      refine (hg.block Bx (Array.getElem?_eq_some_iff.1 hbx).1 fun e => ?_).trans hbx
      obtain ⟨o, ho, hc⟩ := (hr Bx e.symm).2
      rw [hbx] at ho; cases ho; cases hc
    case assign =>
      rintro l0 m0 pre p suf V hx ⟨⟨v, h1, h2⟩, h3⟩
      gi_wp2
      refine ⟨(KeepsOthers.alloc _ _).from _, KeepT.below ((Below.refl _ V).alloc (Nat.le_refl _) _), ⟨V.heap.size, by first | rfl | trivial, World.alloc_heap_new _ _, ⟨v, h1.alloc _, h2.alloc _⟩, h3.alloc h3.size _⟩⟩
    case body =>
      rintro l0 m0 pre p suf b V hx ⟨Bx, rfl, hbx, ⟨v, h1, h2⟩, h3⟩
      have hpl : pre.length < 8 := by rw [hx] at hlen; simp at hlen; omega
      have c1 := h1.cell
      have c2 : V.cell? ⟨Bx, 0, none⟩ = some (.int .i64 p.1) := by simp [World.cell?, hbx]
      have c3 : V.cell? ⟨Bx, 1, none⟩ = some (.int .i64 p.2) := by simp [World.cell?, hbx]
      have hle : w.heap.size ≤ V.heap.size := h3.size
      clear hbx
      gi_wp2_with (gi_at_builtin; refine wpListIn_append_own _ rfl _ _ 28 rfl w.heap.size 61 i0 _ 2 16 Try.underlying28 hi0 hz0 hz1 hz2 rfl (by decide) _ _ _ rfl (h2.alloc _) ⟨V.heap.size, 0, none⟩ 1 1 [.int .i64 p.1, .int .i64 p.2] rfl rfl two_new (by simp [Value.oneCell']) (by unfold maxLen; omega) (by omega) (by simp; omega) ?_; intro v' w4 hown' hgrow _; obtain ⟨g', cap', rfl⟩ := ownsRow_succ hown'; obtain ⟨hv1, hv2, hr2, hk2, hb2⟩ := h1.appended (by decide) h2 hle hw1 hown' hgrow; have hc1 := hv1.cell; have hf1 := hv1.frozen)
      refine ⟨hk2.from _, keepT_app h1 h2 hgrow, ⟨_, hv2, ?_⟩, h3.trans hb2⟩
      rw [cellsP_snoc, List.length_append]; exact hr2
    case done =>
      rintro D V hD ⟨⟨v, h1, h2⟩, h3⟩ hK
      have c1 := h1.cell
      gi_wp2
      refine ⟨by simp, .inl ⟨_, _, rfl, run_takeDeferred hK, ?_⟩⟩
      exact ⟨_, results_tmp rfl _ _ _, _, rfl, ownsRow_putObj h2 _ hK rfl, h3.grown (grownBy_putObj' V D _) h3.size (fun k e => by cases e; omega)⟩
end Go.Proofs.Ytccjfljmmdlngaa.Ins
