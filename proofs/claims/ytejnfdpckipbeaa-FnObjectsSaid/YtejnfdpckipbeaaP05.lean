/-
  Texts of this seat, laid together: Bo10, Ck9
-/
import Derived.WalkKit
import Derived.Handy
import Derived.Lib.Hide
import Derived.Test.YtejnfdpckipbeaaP02
import Derived.Test.YtejnfdpckipbeaaP03
import Derived.Test.YtejnfdpckipbeaaP04
import Derived.Test.YtejnfdpckipbeaaP20
import Derived.Test.YtejnfdpckipbeaaP22
namespace Go.Proofs.Ytejnfdpckipbeaa.Ins
open Go.ChangeShapes Go.WideShapes Go.ChangeAt Go.RowKit
open Kit Point
set_option linter.unusedVariables false
set_option linter.unusedSimpArgs false
set_option linter.unnecessarySimpa false
structure Bx where
  x0 : Int
  y0 : Int
  x1 : Int
  y1 : Int
def Bx.v (b : Bx) : Value := .agg #[.int .i64 b.x0, .int .i64 b.y0, .int .i64 b.x1, .int .i64 b.y1]
def pbx (l : List Pt) : Bx :=
  if ptsB l = true ∧ 0 < l.length then ⟨Pts.acc mn (pX l) l.length, Pts.acc mn (pY l) l.length, Pts.acc mx (pX l) l.length, Pts.acc mx (pY l) l.length⟩ else ⟨0, 0, 0, 0⟩
def Bx.ok (b : Bx) : Bool := bokB b.x0 b.y0 b.x1 b.y1
def mtx (b d : Bx) : Bx :=
  if b.ok = true ∧ d.ok = true ∧ mx b.x0 d.x0 < mn b.x1 d.x1 ∧ mx b.y0 d.y0 < mn b.y1 d.y1 then ⟨mx b.x0 d.x0, mx b.y0 d.y0, mn b.x1 d.x1, mn b.y1 d.y1⟩ else ⟨0, 0, 0, 0⟩
def pgx : Bx := ⟨0, 0, 32, 32⟩
theorem meet_v (b d : Bx) : Box.meetV b.x0 b.y0 b.x1 b.y1 d.x0 d.y0 d.x1 d.y1 = (mtx b d).v := by
  unfold mtx
  by_cases h : b.ok = true ∧ d.ok = true ∧ mx b.x0 d.x0 < mn b.x1 d.x1 ∧ mx b.y0 d.y0 < mn b.y1 d.y1
  · rw [if_pos h]
    have hm : Box.meetB b.x0 b.y0 b.x1 b.y1 d.x0 d.y0 d.x1 d.y1 = true := by
      simp only [Box.meetB, show bokB b.x0 b.y0 b.x1 b.y1 = true from h.1, show bokB d.x0 d.y0 d.x1 d.y1 = true from h.2.1, Bool.true_and, decide_eq_true_eq]; exact h.2.2
    simp [Box.meetV, hm, sel, Bx.v]
  · rw [if_neg h]
    have hm : Box.meetB b.x0 b.y0 b.x1 b.y1 d.x0 d.y0 d.x1 d.y1 = false := by
      cases e : Box.meetB b.x0 b.y0 b.x1 b.y1 d.x0 d.y0 d.x1 d.y1
      · rfl
      · simp only [Box.meetB, Bool.and_eq_true, decide_eq_true_eq] at e
        exact absurd ⟨e.1.1, e.1.2, e.2⟩ h
    simp [Box.meetV, hm, sel, Bx.v]
theorem meetbox_impl (b d : Bx) (w : World) : Calls Try.prog 54 #[b.v, d.v] w fun e w' => e = .returned (mtx b d).v ∧ Below w.heap.size w w' := by
  rw [← meet_v]; exact Box.meet_impl _ _ _ _ _ _ _ _ w
theorem meetbox_spec (b d : Bx) (w : World) : Calls Try.prog 81 #[b.v, d.v] w fun e w' => e = .returned (mtx b d).v ∧ Below w.heap.size w w' := by
  rw [← meet_v]; exact Box.meet_spec _ _ _ _ _ _ _ _ w
theorem okB_pts (l : List Pt) : Pts.okB (pX l) (pY l) l.length = ptsB l := by
  cases h : ptsB l
  · rw [ptsB, List.all_eq_false] at h
    obtain ⟨p, hp, hb⟩ := h
    obtain ⟨k, hk, rfl⟩ := List.getElem_of_mem hp
    have e : l.getD k (0, 0) = l[k] := by simp [List.getD, List.getElem?_eq_getElem hk]
    exact Pts.okB_bad hk (by simp only [pX, pY, e]; simpa using hb)
  · refine Pts.okB_good fun i hi => ?_
    rw [ptsB, List.all_eq_true] at h
    have e : l.getD i (0, 0) = l[i] := by simp [List.getD, List.getElem?_eq_getElem hi]
    simpa only [pX, pY, e] using h _ (List.getElem_mem hi)
theorem boxof_v (l : List Pt) : Pts.boxofV (pX l) (pY l) l.length = (pbx l).v := by
  unfold pbx
  by_cases h : ptsB l = true ∧ 0 < l.length
  · rw [if_pos h]; simp [Pts.boxofV, sel, okB_pts, h.1, h.2, Bx.v]
  · rw [if_neg h]
    by_cases h1 : ptsB l = true
    · have h2 : l.length = 0 := by have : ¬ 0 < l.length := fun h2 => h ⟨h1, h2⟩; omega
      rw [h2]; simp [Pts.boxofV, sel, Bx.v]
    · have h1 : ptsB l = false := by simpa using h1
      simp [Pts.boxofV, sel, okB_pts, h1, Bx.v]
theorem boxof_impl_at (w : World) (a : Option Addr) (c : Nat) (l : List Pt) (h0 : 0 < l.length) (hn : l.length ≤ 1048576) (h : PathAt w a l) :
    Calls Try.prog 122 #[.slice a l.length c] w fun e w' => e = .returned (pbx l).v ∧ Below w.heap.size w w' := by
  rcases h with rfl | ⟨g, rfl, hg, hc⟩
  · simp at h0
  · rw [← boxof_v]
    exact Pts.boxof_impl g l.length c (pX l) (pY l) w hn hg hc
theorem boxof_spec_at (w : World) (a : Option Addr) (c : Nat) (l : List Pt) (h0 : 0 < l.length) (hn : l.length ≤ 1048576) (h : PathAt w a l) :
    Calls Try.prog 82 #[.slice a l.length c] w fun e w' => e = .returned (pbx l).v ∧ Below w.heap.size w w' := by
  rcases h with rfl | ⟨g, rfl, hg, hc⟩
  · simp at h0
  · rw [← boxof_v]
    exact Pts.boxof_spec g l.length c (pX l) (pY l) w hn hg hc
theorem box_path (w : World) (a : Option Addr) (c : Nat) (l : List Pt) (h0 : 0 < l.length) (hn : l.length ≤ 1048576) (h : PathAt w a l) :
    Calls Try.prog 98 #[.slice a l.length c] w fun e w' => e = .returned (pbx l).v ∧ Below w.heap.size w w' := by
  have HP := Lib.hid (And.intro h (And.intro h0 hn))
  obtain ⟨b, hb⟩ : ∃ b, pbx l = b := ⟨_, rfl⟩
  have HC : Hid (∀ W, PathAt W a l → Calls Try.prog 122 #[.slice a l.length c] W fun e w' => e = .returned (.agg #[.int .i64 b.x0, .int .i64 b.y0, .int .i64 b.x1, .int .i64 b.y1]) ∧ Below W.heap.size W w') := Lib.hid (fun W h => hb ▸ boxof_impl_at W a c l HP.out.2.1 HP.out.2.2 h)
  rw [hb]
  clear hb h h0 hn
  unfold Bx.v
  have HP := Lib.hid (HP.out.1.on (show Below w.heap.size w (w.alloc (.cells #[.int .i64 0, .int .i64 0, .int .i64 0, .int .i64 0] 26)) from by go_grown))
  go_enter Try.func98, Try.ntmps98
  go_wp2_with fail
  ((with_reducible refine (HC.out _ HP.out).mono ?_); rintro e w1 ⟨rfl, bb⟩)
  have hB := on_of (W := w) (by go_grown) bb
  obtain ⟨hc, hf⟩ := bcell bb
  have hz : w.heap.size < w1.heap.size := (by have := bb.size; (try simp at this); omega)
  clear bb
  go_wp2
  refine bodyPost_ret (by simp [results, Try.results98, go_sem, *]; try rfl) rfl ?_
  exact ⟨rfl, by go_grown⟩
theorem page_box (w : World) : Calls Try.prog 66 #[] w fun e w' => e = .returned pgx.v ∧ Below w.heap.size w w' := by
  go_enter Try.func66, Try.ntmps66
  go_wp2
  refine bodyPost_ret (by simp [results, Try.results66, go_sem, *]; try rfl) rfl ?_
  exact ⟨rfl, by go_grown⟩
theorem page_full (w : World) : Calls Try.prog 64 #[] w fun e w' => e = .returned pgx.v ∧ Below w.heap.size w w' := by
  go_enter Try.func64, Try.ntmps64
  go_wp2
  refine bodyPost_ret (by simp [results, Try.results64, go_sem, *]; try rfl) rfl ?_
  exact ⟨rfl, by go_grown⟩
def Bx.mv (b : Bx) (dx dy : Int) : Bx := ⟨IntKind.i64.wrap (b.x0 + dx), IntKind.i64.wrap (b.y0 + dy), IntKind.i64.wrap (b.x1 + dx), IntKind.i64.wrap (b.y1 + dy)⟩
theorem box_shift (b : Bx) (dx dy : Int) (w : World) : Calls Try.prog 106 #[b.v, .int .i64 dx, .int .i64 dy] w fun e w' => e = .returned (b.mv dx dy).v ∧ Below w.heap.size w w' := by
  obtain ⟨x0, y0, x1, y1⟩ := b
  unfold Bx.v Bx.mv
  dsimp only
  go_enter Try.func106, Try.ntmps106
  go_wp2
  refine bodyPost_ret (by simp [results, Try.results106, go_sem, *]; try rfl) rfl ?_
  exact ⟨by simp only [IntWalk.i64_left], by go_grown⟩
theorem fig_of (w : World) (a : Option Addr) (n c : Nat) (g x0 y0 x1 y1 : Int) :
    Calls Try.prog 45 #[.agg #[.slice a n c, .int .i64 g, .int .i64 x0, .int .i64 y0, .int .i64 x1, .int .i64 y1]] w fun e w' => e = .returned (.agg #[.slice a n c, .int .i64 g, .int .i64 x0, .int .i64 y0, .int .i64 x1, .int .i64 y1]) ∧ Below w.heap.size w w' := by
  go_enter Try.func45, Try.ntmps45
  go_wp2
  refine bodyPost_ret (by simp [results, Try.results45, go_sem, *]; try rfl) rfl ?_
  exact ⟨rfl, by go_grown⟩
theorem fig_obj (w : World) (a : Option Addr) (n c : Nat) (g x0 y0 x1 y1 : Int) :
    Calls Try.prog 59 #[.agg #[.slice a n c, .int .i64 g, .int .i64 x0, .int .i64 y0, .int .i64 x1, .int .i64 y1]] w fun e w' => e = .returned (.agg #[.slice a n c, .int .i64 g, .int .i64 x0, .int .i64 y0, .int .i64 x1, .int .i64 y1]) ∧ Below w.heap.size w w' := by
  go_enter Try.func59, Try.ntmps59
  go_wp2
  refine bodyPost_ret (by simp [results, Try.results59, go_sem, *]; try rfl) rfl ?_
  exact ⟨rfl, by go_grown⟩
end Go.Proofs.Ytejnfdpckipbeaa.Ins
namespace Go.Proofs.Ytejnfdpckipbeaa.Ins
open Go.ChangeShapes Go.WideShapes Go.ChangeAt Go.RowKit Go.Shelf
open Kit
set_option linter.unusedVariables false
set_option linter.unusedSimpArgs false
set_option linter.unnecessarySimpa false
attribute [local go_sem] Oper.semAt_some
attribute [local go_sem ↓] run_mn
def KeepT (V V' : World) : Prop := ∀ (k : Nat) (c : Array Value) (t : TypeId) (z : Nat × Nat), V.heap[k]? = some (.cells c t z) → t ≠ 83 → t ≠ 33 → V'.heap[k]? = some (.cells c t z)
theorem KeepT.trans {X Y Z : World} (h : KeepT X Y) (k : KeepT Y Z) : KeepT X Z := fun i c t z hi h1 h2 => k i c t z (h i c t z hi h1 h2) h1 h2
theorem KeepT.refl (X : World) : KeepT X X := fun _ _ _ _ h _ _ => h
theorem KeepT.putObj (V : World) (l : Nat) (r : Loop) (o : Obj) (h : V.heap[l]? = some (.loop r)) : KeepT V (V.putObj l o) := fun i c t z hi _ _ => by
  refine (World.putObj_heap_other fun e => ?_).trans hi
  subst e; rw [h] at hi; cases hi
theorem KeepT.below {V V' : World} (h : Below V.heap.size V V') : KeepT V V' := fun i c t z hi _ _ => (h.block i (Array.getElem?_eq_some_iff.1 hi).1).trans hi
theorem KeepT.boxed {V V' : World} (h : KeepT V V') {B : Nat} {t : TypeId} {v : Value} (hb : Boxed V B t v) (h1 : t ≠ 83) (h2 : t ≠ 33) : Boxed V' B t v := h B _ t _ hb h1 h2
theorem KeepT.row {V V' : World} (h : KeepT V V') {b n : Nat} {t : TypeId} {f : Nat → Value} (hr : V.rowIs b t n f) (h1 : t ≠ 83) (h2 : t ≠ 33) : V'.rowIs b t n f := by
  obtain ⟨c, hb, hn, hc⟩ := hr
  exact ⟨c, h b c t _ hb h1 h2, hn, hc⟩
theorem range_part {m k : Nat} (h : k < m) : List.range m = List.range k ++ k :: (List.range m).drop (k + 1) := by
  have h1 : (List.range m).take k = List.range k := by rw [List.take_range]; congr 1; omega
  have h2 : (List.range m).drop k = k :: (List.range m).drop (k + 1) := by
    rw [List.drop_eq_getElem_cons (by simpa using h)]; simp
  rw [← h2, ← h1, List.take_append_drop]
theorem ownFrom_drew {β : Type} {B : Nat} {J : β → World → Prop} (h : OwnFrom B J) {s : β} {V : World} (hs : J s V) : J s V.drew :=
  h s V V.drew none hs ⟨rfl, rfl, rfl, Nat.le_refl _, fun _ _ _ => rfl⟩ (fun r e => by cases e)
theorem ownFrom_on {β : Type} {B : Nat} {J : β → World → Prop} (h : OwnFrom B J) {s : β} {V V' : World} (hs : J s V) (hb : Below V.heap.size V V') : J s V' :=
  h s V V' none hs ⟨hb.os, hb.tape, hb.output, hb.size, fun k hk _ => hb.block k hk⟩ (fun r e => by cases e)
set_option maxRecDepth 100000 in
set_option maxHeartbeats 2000000 in
theorem chunk_gives (b0 b1 g c m : Nat) (w : World) (h0 : Boxed w b0 30 (.slice (some ⟨g, 0, none⟩) (2 * m) c)) (h1 : Boxed w b1 3 (.int .i64 2)) (hc : 2 * m ≤ c) (hm : c ≤ maxLen) :
    Gives Try.prog 129 #[.pointer (some ⟨b0, 0, none⟩), .pointer (some ⟨b1, 0, none⟩)] (fun k : Nat => #[.slice (some ⟨g, 2 * k, none⟩) 2 2]) KeepT (List.range m) w := by
  intro l n J W hW hJ hY hJ0
  have hm : c ≤ 9223372036854775807 := by unfold maxLen at hm; omega
  have H0 : Boxed W b0 30 (.slice (some ⟨g, 0, none⟩) (2 * m) c) := (hW.block _ h0.lt).trans h0
  have H1 : Boxed W b1 3 (.int .i64 2) := (hW.block _ h1.lt).trans h1
  refine callsIn_of_wp Try.func129 rfl trivial ?_ rfl
  simp only [Try.ntmps129, List.size_toArray, List.length_cons, List.length_nil, Nat.reduceAdd, Nat.reduceSub, Array.replicate_succ, Array.replicate_zero, List.push_toArray, List.append_toArray, List.nil_append, List.cons_append]
  gi_wp2
  gi_loopw [4] (fun p wr => ∃ k : Nat, k ≤ m ∧ p = .int .i64 (2 * (k : Int)) ∧ Boxed wr b0 30 (.slice (some ⟨g, 0, none⟩) (2 * m) c) ∧ Boxed wr b1 3 (.int .i64 2) ∧ J (List.range k) wr) (fun p wr => 2 * m - (intOf p).toNat)
  case atStart => exact ⟨0, Nat.zero_le _, rfl, H0, H1, hJ0⟩
  case round =>
    obtain ⟨k, hk, rfl, B0, B1, hJk⟩ := hrel
    have c0 := B0.cell
    have c1 := B1.cell
    by_cases hlt : k < m
    · have i0 : (0 : Int) ≤ 2 * (k : Int) := by omega
      have i1 : 2 * (k : Int) < 2 * (m : Int) := by omega
      have hck : ¬ (c = 2 * k) := by omega
      have hmn : mn 2 ((2 * m - 2 * k : Nat) : Int) = 2 := by unfold mn; omega
      have hw2 : wrap64 (2 * (k : Int) + 2) = 2 * (k : Int) + 2 := by unfold wrap64; omega
      have ht2 : (2 * (k : Int) + 2).toNat = 2 * k + 2 := by omega
      have j0 : (0 : Int) ≤ 2 * (k : Int) + 2 := by omega
      have j1 : 2 * (k : Int) + 2 ≤ (c : Int) := by omega
      have j2 : ¬ (2 * k + 2 = 2 * k) := by omega
      have j3 : max (2 * (k : Int) + 2) 0 = 2 * (k : Int) + 2 := by omega
      have j4 : 2 * (k : Int) ≤ 2 * (k : Int) + 2 := by omega
      obtain ⟨fn, tmps, assign, body, hy, hR⟩ := hY (n - 1) (List.range k) k _ wr.drew (range_part hlt) (ownFrom_drew hJ hJk)
      gi_wp2
      gi_region
      gi_wp2
      refine ⟨fun h => by simp [Fence.wide] at h, hR.mono ?_⟩
      rintro e W3 ⟨rfl, hJ3, hk3, _⟩
      have B03 : Boxed W3 b0 30 (.slice (some ⟨g, 0, none⟩) (2 * m) c) := hk3.boxed B0 (by decide) (by decide)
      have B13 : Boxed W3 b1 3 (.int .i64 2) := hk3.boxed B1 (by decide) (by decide)
      have c03 := B03.cell
      have c13 := B13.cell
      gi_wp2
      go_roundw
      case rel => exact ⟨k + 1, by omega, by go_num, B03, B13, by rw [List.range_succ]; exact hJ3⟩
      case measure => simp [intOf]; omega
    · obtain rfl : k = m := by omega
      gi_wp2
      go_end0
      exact ⟨⟨_, rfl⟩, hJk⟩
theorem chunk_none (b0 b1 g : Nat) (w : World) (h0 : Boxed w b0 30 (.slice none 0 0)) :
    Gives Try.prog 129 #[.pointer (some ⟨b0, 0, none⟩), .pointer (some ⟨b1, 0, none⟩)] (fun k : Nat => #[.slice (some ⟨g, 2 * k, none⟩) 2 2]) KeepT (List.range 0) w := by
  intro l n J W hW hJ hY hJ0
  have H0 : Boxed W b0 30 (.slice none 0 0) := (hW.block _ h0.lt).trans h0
  have c0 := H0.cell
  refine callsIn_of_wp Try.func129 rfl trivial ?_ rfl
  simp only [Try.ntmps129, List.size_toArray, List.length_cons, List.length_nil, Nat.reduceAdd, Nat.reduceSub, Array.replicate_succ, Array.replicate_zero, List.push_toArray, List.append_toArray, List.nil_append, List.cons_append]
  gi_wp2
  gi_loopw [4] (fun p wr => p = .int .i64 0 ∧ wr = W) (fun p wr => 0)
  case atStart => exact ⟨rfl, rfl⟩
  case round =>
    obtain ⟨rfl, rfl⟩ := hrel
    gi_wp2
    go_end0
    exact ⟨⟨_, rfl⟩, hJ0⟩
theorem chunk_call (a : Option Addr) (n c : Nat) (w : World) :
    Calls Try.prog 127 #[.slice a n c, .int .i64 2] w fun e w' => e = .returned (.func (.func 129) #[] #[.pointer (some ⟨w.heap.size, 0, none⟩), .pointer (some ⟨w.heap.size + 1, 0, none⟩)]) ∧ w' = (w.alloc (.cells #[.slice a n c] 30)).alloc (.cells #[.int .i64 2] 3) := by
  go_enter Try.func127, Try.ntmps127
  go_wp2
  go_ret
  exact ⟨rfl, rfl⟩
end Go.Proofs.Ytejnfdpckipbeaa.Ins
