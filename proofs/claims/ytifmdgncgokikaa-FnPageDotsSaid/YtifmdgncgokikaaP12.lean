/-
  Texts of this seat, laid together: Row, StK9, Inp8, InI8, Is9, Im9
-/
import Derived.Test.YtifmdgncgokikaaRows
import Derived.WalkKit
import Derived.ProofKit
import Derived.OpenShut
import Derived.Below
import Derived.StillTailTactics
import Derived.Deep.QuietTactic
import Derived.BigQuiet
import Derived.Test.YtifmdgncgokikaaP01
import Derived.Test.YtifmdgncgokikaaP22
import Derived.Test.YtifmdgncgokikaaP03
import Derived.Test.YtifmdgncgokikaaP25
import Derived.Test.YtifmdgncgokikaaP09
namespace Go.Proofs.Ytifmdgncgokikaa.Draw
open Go.ChangeShapes Go.WideShapes Go.ChangeAt Go.RowKit
set_option linter.unusedVariables false
def IsRow (k : IntKind) (w : World) (a : Option Addr) (len cap : Nat) (zs : List Int) : Prop :=
  (a = none ∧ len = 0 ∧ cap = 0 ∧ zs = []) ∨
  ∃ x, a = some x ∧ len ≤ cap ∧ cap ≤ maxLen ∧ zs.length = cap ∧ (∀ i, i < zs.length → w.cell? (x.add i) = some (.int k (zs.getD i 0))) ∧ ∀ n ∈ zs, (Lit.int k n).wf = true
end Go.Proofs.Ytifmdgncgokikaa.Draw
namespace Go.Proofs.Ytifmdgncgokikaa.Ins
open Go.ChangeShapes Go.WideShapes Go.ChangeAt Go.RowKit
set_option linter.unusedVariables false
set_option linter.unusedSimpArgs false
set_option linter.unnecessarySimpa false
theorem region_reads {P : Program} {id : Nat} {Q : Exit → Act → World → Prop} {a : Act} {w : World} {l : List Oper} (F : World → Prop) (hm : P.follows .mixedOrders = true) (hB : Region.lexB .any l.toArray = true)
    (hF : F w.drew) (h : ∀ wd, F wd → wpStill P l.toArray wd (fun b => Q .normal b wd) l a) : (Code.region id l.toArray true).wp P Q a w :=
  wp_region_still_lit hm hB (h w.drew hF)
theorem gen_any9 {p : World → Prop} {w : World} (F : World → Prop) (hF : F w) (h : ∀ W, F W → p W) : p w := h w hF
theorem drew_on {w wr : World} (h : Below w.heap.size w wr) : Below w.heap.size w wr.drew := h.trans ⟨rfl, rfl, rfl, Nat.le_refl _, fun _ _ => rfl⟩
theorem drewN_on {w wr : World} (h : Below w.heap.size w wr) (q : Nat) : Below w.heap.size w (wr.drewN q) := h.trans ⟨rfl, rfl, rfl, Nat.le_refl _, fun _ _ => rfl⟩
end Go.Proofs.Ytifmdgncgokikaa.Ins
namespace Go.Proofs.Ytifmdgncgokikaa.Ins
open Go.ChangeShapes Go.WideShapes Go.ChangeAt Go.RowKit
open Kit Point
set_option linter.unusedVariables false
set_option linter.unusedSimpArgs false
set_option linter.unnecessarySimpa false
def inpB (l : List Pt) (x y : Int) : Bool := pathB l && inB x && inB y && insP l x y
theorem three3 (a b c : Bool) : a = false ∨ (a = true ∧ b = false) ∨ (a = true ∧ b = true ∧ c = false) ∨ (a = true ∧ b = true ∧ c = true) := by
  cases a <;> cases b <;> cases c <;> simp
end Go.Proofs.Ytifmdgncgokikaa.Ins
namespace Go.Proofs.Ytifmdgncgokikaa.Ins
open Go.ChangeShapes Go.WideShapes Go.ChangeAt Go.RowKit
open Kit Point Slabs
set_option linter.unusedVariables false
set_option linter.unusedSimpArgs false
set_option linter.unnecessarySimpa false
end Go.Proofs.Ytifmdgncgokikaa.Ins
namespace Go.Proofs.Ytifmdgncgokikaa.Ins
open Go.ChangeShapes Go.WideShapes Go.ChangeAt Go.RowKit Go.Shelf
open Kit Point
set_option linter.unusedVariables false
set_option linter.unusedSimpArgs false
set_option linter.unnecessarySimpa false
theorem cont_impl (p q x : Int) (w : World) : Calls Try.prog 54 #[.agg #[.int .i64 p, .int .i64 q], .int .i64 x] w fun e w' => e = .returned (.bool (decide (p ≤ x ∧ x < q))) ∧ Below w.heap.size w w' := by
  by_cases h1 : p ≤ x
  · by_cases h2 : x < q
    all_goals
      go_enter Try.func54, Try.ntmps54
      go_wp2
      go_ret
      exact ⟨ret_bool (by simp [h1, h2]), by go_grown⟩
  · go_enter Try.func54, Try.ntmps54
    go_wp2
    go_ret
    exact ⟨ret_bool (by simp [h1]; intro h; omega), by go_grown⟩
def encP (p : Pt) : List Value := [.int .i64 p.1, .int .i64 p.2]
theorem in_pred (x : Int) (B : Nat) (w : World) (hB : B < w.heap.size) (hcell : w.cell? ⟨B, 0, none⟩ = some (.int .i64 x)) :
    PredBelow Try.prog 53 #[.pointer (some ⟨B, 0, none⟩)] (fun p => .agg (encP p).toArray) (fun p => decide (p.1 ≤ x ∧ x < p.2)) w := fun W p hb => by
  have hc : W.cell? ⟨B, 0, none⟩ = some (.int .i64 x) := (hb.cell (p := ⟨B, 0, none⟩) hB).trans hcell
  have hBW : B < W.heap.size := Nat.lt_of_lt_of_le hB hb.size
  have HB := Lib.hid hb
  clear hb hcell
  show Calls Try.prog 53 #[.agg #[.int .i64 p.1, .int .i64 p.2], .pointer (some ⟨B, 0, none⟩)] W _
  go_enter Try.func53, Try.ntmps53
  go_wp2_with fail
  ((with_reducible refine (cont_impl _ _ _ _).mono ?_); rintro e w1 ⟨rfl, bb⟩)
  have HB1 := Lib.hid (on_of (W := W) (by go_grown) bb)
  clear bb hc
  go_wp2
  go_ret
  exact ⟨ret_bool (by simp), HB.out.trans (HB1.out.mono HB.out.size)⟩
set_option maxHeartbeats 1000000 in
theorem in_impl9 (w : World) (a : Option Addr) (c : Nat) (l : List Pt) (x : Int) (hn : l.length ≤ 1048576) (h : PathAt w a l) :
    Calls Try.prog 18 #[.slice a l.length c, .int .i64 x] w fun e w' => e = .returned (.bool (inS l x)) ∧ Below w.heap.size w w' := by
  have HP := Lib.hid h
  rcases h with rfl | ⟨g, rfl, hg, hc⟩
  · go_enter Try.func18, Try.ntmps18
    go_wp2
    go_rounds 1
    go_wp2
    go_ret
    exact ⟨rfl, by go_grown⟩
  · have eg : ∀ args w, (callFunc 53 args).run Try.prog w = .ok (.enter 53 args) w := enters_of Try.func53 (by kernel_rfl) rfl
    have hcon := AnyQ.slices_ContainsFunc Try.containsF 2 Try.isAgg78 Try.sizeOf78 encP (fun _ => rfl) (fun p : Pt => decide (p.1 ≤ x ∧ x < p.2)) 53 #[.pointer (some ⟨w.heap.size, 0, none⟩)] eg g 0 l.length c l (w.alloc (.cells #[.int .i64 x] 3))
      (in_pred x w.heap.size _ (by simp) (by simp [go_sem])) (Nat.le_refl _) (by omega) (by simp; omega) (fun j hj i v hi => by
        have h1 := hc j hj
        have hb := (Below.refl w.heap.size w).alloc (Nat.le_refl _) (.cells #[.int .i64 x] 3)
        rw [getElem!_pos l j hj, getk l hj] at hi
        match i, hi with
        | 0, hi => simp [encP] at hi; rw [← hi, Nat.zero_add]; exact (hb.cell (p := ⟨g, j * 2, none⟩) hg).trans h1.1
        | 1, hi => simp [encP] at hi; rw [← hi, Nat.zero_add]; exact (hb.cell (p := ⟨g, j * 2 + 1, none⟩) hg).trans h1.2
        | i + 2, hi => simp [encP] at hi)
    change Calls Try.prog 52 _ _ _ at hcon
    rw [List.take_length] at hcon
    have e0 : l.any (fun p : Pt => decide (p.1 ≤ x ∧ x < p.2)) = inS l x := rfl
    rw [e0] at hcon
    clear hc e0
    generalize inS l x = r at hcon ⊢
    generalize l.length = n at hcon ⊢
    go_enter Try.func18, Try.ntmps18
    go_wp2_with (go_at_call 52; refine hcon.mono ?_; rintro e w' ⟨rfl, hb'⟩)
    go_ret
    exact ⟨rfl, on_of (W := w) (by go_grown) hb'⟩
end Go.Proofs.Ytifmdgncgokikaa.Ins
namespace Go.Proofs.Ytifmdgncgokikaa.Ins
open Go.ChangeShapes Go.WideShapes Go.ChangeAt Go.RowKit
open Kit Point
set_option linter.unusedVariables false
set_option linter.unusedSimpArgs false
set_option linter.unnecessarySimpa false
theorem inS_hit {l : List Pt} {k : Nat} {x : Int} (hk : k < l.length) (h1 : pX l k ≤ x) (h2 : x < pY l k) : inS l x = true :=
  inS_true.2 ⟨l[k], List.getElem_mem hk, by rw [getk l hk]; exact h1, by rw [getk l hk]; exact h2⟩
theorem inS_miss {l : List Pt} {x : Int} (h : ∀ k, k < l.length → ¬ (pX l k ≤ x ∧ x < pY l k)) : inS l x = false := inS_false fun q hq => by
  obtain ⟨k, hk, rfl⟩ := List.getElem_of_mem hq
  have := h k hk
  rw [getk l hk]; show x < pX l k ∨ pY l k ≤ x; omega
end Go.Proofs.Ytifmdgncgokikaa.Ins
