/-
  Texts of this seat, laid together: Pti8, Stack, DrawPlus, PlAll
-/
import Derived.LoopTactic
import Derived.OwnWalk
import Derived.WalkKit
import Derived.Handy
import Derived.Lib.Hide
import Derived.Deep.AppendLies
import Derived.Test.YtejnfdpckipbeaaP02
import Derived.Test.YtejnfdpckipbeaaP14
import Derived.Test.YtejnfdpckipbeaaP29
import Derived.Test.YtejnfdpckipbeaaP01
namespace Go.Proofs.Ytejnfdpckipbeaa.Ins
open Go.ChangeShapes Go.WideShapes Go.ChangeAt Go.RowKit
open Kit Point
set_option linter.unusedVariables false
set_option linter.unusedSimpArgs false
set_option linter.unnecessarySimpa false
set_option maxHeartbeats 1000000 in
theorem allpts_impl (w : World) (a : Option Addr) (c : Nat) (l : List (Int × Int)) (hn : l.length ≤ 1048576) (h : PathAt w a l) :
    Calls Try.prog 102 #[.slice a l.length c, .func (.func 103) #[] #[]] w fun e w' => e = .returned (.bool (ptsB l)) ∧ Below w.heap.size w w' := by
  have HP := Lib.hid h
  rcases h with rfl | ⟨g, rfl, hg, _⟩
  · go_enter Try.func102, Try.ntmps102
    go_wp2
    go_rounds 1
    go_ret
    exact ⟨rfl, Below.refl _ _⟩
  · obtain ⟨n, hN⟩ : ∃ n, l.length = n := ⟨_, rfl⟩
    have HN := Lib.hid hN
    rw [hN] at hn ⊢
    clear hN
    go_enter Try.func102, Try.ntmps102
    go_wp2
    go_loopw [9] (fun v9 wr => ∃ k : Nat, k ≤ n ∧ v9 = .int .i64 (k : Int) ∧ Hid (∀ i, i < k → pokB (pX l i) (pY l i) = true) ∧ Below w.heap.size w wr) (fun v9 _ => n - (intOf v9).toNat)
    case atStart => exact ⟨0, Nat.zero_le _, rfl, Lib.hid (fun i hi => absurd hi (Nat.not_lt_zero i)), Below.refl _ _⟩
    case round =>
      obtain ⟨k, hk, rfl, hb, hB⟩ := hrel
      by_cases hlt : k < n
      · have hP := HP.out.on hB
        rcases hP with he | ⟨g', hg', hlg, hc⟩
        · have := HN.out; rw [he] at this; simp at this; omega
        · injection hg' with hg'
          injection hg' with hg'
          subst hg'
          have q := hc k (by rw [HN.out]; exact hlt)
          obtain ⟨q1, q2⟩ := q
          obtain ⟨x, hx⟩ : ∃ x, pX l k = x := ⟨_, rfl⟩
          obtain ⟨y, hy⟩ : ∃ y, pY l k = y := ⟨_, rfl⟩
          rw [hx] at q1; rw [hy] at q2
          have i0 : (0 : Int) ≤ (k : Int) := by omega
          have i1 : (k : Int) < (n : Int) := by omega
          have HX := Lib.hid (And.intro hx hy)
          clear hx hy hc
          have HB := Lib.hid hB
          clear hB
          go_wp2_with fail
          ((with_reducible refine (pok_impl x y _).mono ?_); rintro e w1 ⟨rfl, bb⟩)
          have hB1 := on_of (HB.out.alloc HB.out.size _) bb
          have HB1 := Lib.hid hB1
          clear hB1 bb
          cases hp : pokB x y
          · have hno : ptsB l = false := by exact ptsB_bad (by rw [HN.out]; exact hlt) (by rw [HX.out.1, HX.out.2]; exact hp)
            have HS := Lib.hid hno
            clear hno hp
            go_wp2
            go_ret
            exact ⟨ret_bool HS.out.symm, HB1.out⟩
          · have hyes : ∀ i, i < k + 1 → pokB (pX l i) (pY l i) = true := fun i hi => by
              by_cases e : i = k
              · subst e; rw [HX.out.1, HX.out.2]; exact hp
              · exact hb.out i (by omega)
            have HS := Lib.hid hyes
            clear hyes hp
            go_wp2
            go_roundw
            case rel => exact ⟨k + 1, by omega, by go_num, HS, HB1.out⟩
            case measure => simp [intOf]; omega
      · obtain rfl : k = n := by omega
        have HB := Lib.hid hB
        clear hB
        go_wp2
        go_ret
        exact ⟨ret_bool (ptsB_good (fun i hi => hb.out i (by rw [← HN.out]; exact hi))).symm, HB.out⟩
theorem path_impl (w : World) (a : Option Addr) (c : Nat) (l : List (Int × Int)) (hn : l.length ≤ 1048576) (h : PathAt w a l) :
    Calls Try.prog 50 #[.slice a l.length c] w fun e w' => e = .returned (.bool (pathB l)) ∧ Below w.heap.size w w' := by
  by_cases h8 : l.length ≤ 8
  · obtain ⟨n, hN⟩ : ∃ n, l.length = n := ⟨_, rfl⟩
    have H := Lib.hid (And.intro h (And.intro hN hn))
    have h8' : (n : Int) ≤ 8 := by omega
    rw [hN]
    clear h hN hn
    go_enter Try.func50, Try.ntmps50
    go_wp2_with fail
    rw [← H.out.2.1]
    ((with_reducible refine (allpts_impl w a c l H.out.2.2 H.out.1).mono ?_); rintro e w1 ⟨rfl, bb⟩)
    have HB := Lib.hid bb
    clear bb
    go_wp2
    go_ret
    exact ⟨ret_bool (by simp [pathB, h8]), HB.out⟩
  · have h8' : ¬ (l.length : Int) ≤ 8 := by omega
    clear h
    go_enter Try.func50, Try.ntmps50
    go_wp2
    go_ret
    exact ⟨ret_bool (by simp [pathB, h8]), Below.refl _ _⟩
end Go.Proofs.Ytejnfdpckipbeaa.Ins
namespace Go.Proofs.Ytejnfdpckipbeaa.Stack
open Go.ChangeShapes Go.WideShapes Go.ChangeAt Go.RowKit
open Kit Slabs Ints
set_option linter.unusedVariables false
set_option linter.unusedSimpArgs false
set_option linter.unnecessarySimpa false
set_option maxRecDepth 100000
def Rd (w : World) (v : Value) (n : Nat) (X : Nat → Int) : Prop :=
  ∃ (a : Option Addr) (cap : Nat), v = .slice a n cap ∧ n ≤ cap ∧ (n = 0 ∨ ∃ g o, a = some ⟨g, o, none⟩ ∧ g < w.heap.size ∧ ∀ i, i < n → w.cell? ⟨g, o + i, none⟩ = some (.int .i64 (X i)))
theorem Rd.of_slab {w : World} {B n : Nat} {v : Value} {X : Nat → Int} (h : Slab w B v n 1 (ic X)) : Rd w v n X := by
  obtain ⟨a, cap, hv, hc, h⟩ := h
  refine ⟨a, cap, hv, hc, ?_⟩
  rcases h with h | ⟨g, ha, _, h2, _, h4⟩
  · exact .inl h
  · exact .inr ⟨g, 0, ha, h2, fun i hi => by have := h4 i hi 0 _ rfl; simpa using this⟩
theorem Rd.on {w w' : World} {v : Value} {n : Nat} {X : Nat → Int} (h : Rd w v n X) (hb : Below w.heap.size w w') : Rd w' v n X := by
  obtain ⟨a, cap, hv, hc, h⟩ := h
  refine ⟨a, cap, hv, hc, ?_⟩
  rcases h with h | ⟨g, o, ha, h2, h4⟩
  · exact .inl h
  · exact .inr ⟨g, o, ha, Nat.lt_of_lt_of_le h2 hb.size, fun i hi => (hb.cell (p := ⟨g, _, none⟩) h2).trans (h4 i hi)⟩
theorem Rd.part {w : World} {a : Option Addr} {cap n : Nat} {X : Nat → Int} (h : Rd w (.slice a n cap) n X) (i m : Nat) (him : i + m ≤ n) (hm : m ≠ 0) : ∃ g o, a = some ⟨g, o, none⟩ ∧ Rd w (.slice (some ⟨g, o + i, none⟩) m (cap - i)) m (fun j => X (i + j)) := by
  obtain ⟨a', cap', hv, hc, h⟩ := h
  injection hv with h1 h2 h3
  subst h1; subst h3
  rcases h with h | ⟨g, o, ha, h2, h4⟩
  · omega
  · exact ⟨g, o, ha, _, _, rfl, by omega, .inr ⟨g, o + i, rfl, h2, fun j hj => by have := h4 (i + j) (by omega); rw [Nat.add_assoc]; exact this⟩⟩
theorem flat_ic (X : Nat → Int) (n j : Nat) (h : j < n) : (flat (ic X) n)[j]? = some (.int .i64 (X j)) := by
  have := flat_get (ic_len X) (n := n) (i := j) (j := 0) h (by omega)
  simpa [ic] using this
theorem flat_ic_len (X : Nat → Int) (n : Nat) : (flat (ic X) n).length = n := by
  have := flat_length (ic_len X) n; simpa using this
theorem flat_one (X : Nat → Int) (n : Nat) : ∀ u ∈ flat (ic X) n, u.oneCell' = true := by
  intro u hu
  obtain ⟨j, hj, rfl⟩ := List.mem_iff_getElem.1 hu
  have hn : j < n := by rw [flat_ic_len] at hj; exact hj
  have h1 := flat_ic X n j hn
  rw [List.getElem?_eq_getElem hj] at h1
  rw [Option.some.inj h1]; simp [Value.oneCell']
def numsB (X : Nat → Int) (n : Nat) : Bool := (List.range n).all fun i => decide (-9999 ≤ X i ∧ X i ≤ 9999)
def stB (X : Nat → Int) (n : Nat) : Bool := decide (n ≤ 12) && numsB X n
theorem numsB_succ (X : Nat → Int) (n : Nat) : numsB X (n + 1) = (numsB X n && decide (-9999 ≤ X n ∧ X n ≤ 9999)) := by
  simp [numsB, List.range_succ]
theorem numsB_iff (X : Nat → Int) (n : Nat) : numsB X n = true ↔ ∀ i, i < n → -9999 ≤ X i ∧ X i ≤ 9999 := by
  simp [numsB, List.all_eq_true]
theorem numsB_no {X : Nat → Int} {n i : Nat} (hi : i < n) (h : ¬ (-9999 ≤ X i ∧ X i ≤ 9999)) : numsB X n = false := by
  rw [← Bool.not_eq_true, numsB_iff]; exact fun h2 => h (h2 i hi)
end Go.Proofs.Ytejnfdpckipbeaa.Stack
namespace Go.Proofs.Ytejnfdpckipbeaa.Draw
open Go.ChangeShapes Go.WideShapes Go.ChangeAt Go.RowKit
open Kit
set_option linter.unusedVariables false
set_option linter.unusedSimpArgs false
set_option linter.unnecessarySimpa false
attribute [local go_sem ↓] run_mx run_mn
theorem Drawn.grown {W w0 w w' : World} {a : Option Addr} {len cap : Nat} {z : List Int} {b : Nat} {row : Option Nat} (h : Drawn W a len cap z b w0 w) (hg : w.grownBy w' row) (hr : ∀ k, row = some k → w0.heap.size ≤ k ∧ W.heap.size ≤ k ∧ k ≠ b) : Drawn W a len cap z b w0 w' := by
  obtain ⟨d, g⟩ := h
  obtain ⟨i, q, hi, hl, c0, c1, c2, f1, f2⟩ := d.cur
  have hb : w'.heap[b]? = w.heap[b]? := hg.block b d.here (fun e => (hr b e.symm).2.2 rfl)
  refine ⟨⟨d.row, d.far, Nat.lt_of_lt_of_le d.here hg.size, ⟨i, q, hi, hl, ?_, ?_, ?_, ?_, ?_⟩, d.below.grown hg (Nat.le_trans d.far (Nat.le_of_lt d.here)) (fun k hk => (hr k hk).2.1)⟩, ?_⟩
  · rw [World.cell?_of_block (w := w) hb]; exact c0
  · rw [World.cell?_of_block (w := w) hb]; exact c1
  · rw [World.cell?_of_block (w := w) hb]; exact c2
  · rw [World.frozen?_of_block (w := w) hb]; exact f1
  · rw [World.frozen?_of_block (w := w) hb]; exact f2
  · refine ⟨hg.os.trans g.os, hg.tape.trans g.tape, hg.output.trans g.output, Nat.le_trans g.size hg.size, fun k hk hne => ?_⟩
    rw [hg.block k (Nat.lt_of_lt_of_le hk g.size) (fun e => by have := (hr k e.symm).1; omega)]
    exact g.block k hk hne
theorem Drawn.setNew {W w0 w : World} {a : Option Addr} {len cap : Nat} {z : List Int} {b : Nat} (h : Drawn W a len cap z b w0 w) {R : Nat} (h0 : w0.heap.size ≤ R) (hW : W.heap.size ≤ R) (hb : R ≠ b) (o : Nat) (v : Value) : Drawn W a len cap z b w0 (w.setCell ⟨R, o, none⟩ v) :=
  h.grown (grown_set (World.grownBy.refl w (some R)) o v) (fun k hk => by injection hk with hk; subst hk; exact ⟨h0, hW, hb⟩)
theorem Drawn.keeps {W w0 w : World} {a : Option Addr} {len cap : Nat} {z : List Int} {b : Nat} (h : Drawn W a len cap z b w0 w) {R o : Nat} {v : Value} (hc : w0.cell? ⟨R, o, none⟩ = some v) (hb : R ≠ b) : w.cell? ⟨R, o, none⟩ = some v :=
  h.2.cell hc (by intro e; exact hb (by simpa using e))
theorem Drawn.thaws {W w0 w : World} {a : Option Addr} {len cap : Nat} {z : List Int} {b : Nat} (h : Drawn W a len cap z b w0 w) {R o : Nat} (hl : R < w0.heap.size) (hf : w0.frozen? ⟨R, o, none⟩ = false) (hb : R ≠ b) : w.frozen? ⟨R, o, none⟩ = false := by
  rw [h.2.frozen_far ⟨R, o, none⟩ hl (by intro e; exact hb (by simpa using e))]; exact hf
theorem Two.drawn {W w0 w : World} {a : Option Addr} {len cap : Nat} {z : List Int} {b R : Nat} {x y : Int} (h : Two w0 R x y) (d : Drawn W a len cap z b w0 w) (hb : R ≠ b) : Two w R x y :=
  ⟨d.keeps h.c0 hb, d.keeps h.c1 hb, fun o => d.thaws h.lt (h.fr o) hb⟩
theorem IsRow.keep {k : IntKind} {w w' : World} {a : Option Addr} {len cap : Nat} {z : List Int} (h : IsRow k w a len cap z) (hb : Below w.heap.size w w') : IsRow k w' a len cap z := by
  rcases h with h | ⟨x, ha, hl, hm, hz, hc, hw⟩
  · exact .inl h
  · refine .inr ⟨x, ha, hl, hm, hz, fun i hi => ?_, hw⟩
    have h1 := hc i hi
    exact (hb.cell (p := x.add i) (World.block_lt_of_cell? w _ h1)).trans h1
theorem Four.drawn {W w0 w : World} {a : Option Addr} {len cap : Nat} {z : List Int} {b R : Nat} {x y u v : Int} (h : Four w0 R x y u v) (d : Drawn W a len cap z b w0 w) (hb : R ≠ b) : Four w R x y u v :=
  ⟨d.keeps h.c0 hb, d.keeps h.c1 hb, d.keeps h.c2 hb, d.keeps h.c3 hb, fun o => d.thaws h.lt (h.fr o) hb⟩
end Go.Proofs.Ytejnfdpckipbeaa.Draw
namespace Go.Proofs.Ytejnfdpckipbeaa.PlAll
open Go.ChangeShapes Go.WideShapes Go.ChangeAt Go.RowKit
open Kit Draw Slabs Ints
set_option linter.unusedVariables false
set_option linter.unusedSimpArgs false
set_option linter.unnecessarySimpa false
set_option maxRecDepth 100000
def pt (X : Nat → Int) (n : Nat) (m : Int) (i : Nat) : Int := if i = n then m else X i
theorem pt_at (X : Nat → Int) (n : Nat) (m : Int) : pt X n m n = m := by simp [pt]
theorem pt_lt {X : Nat → Int} {n i : Nat} (m : Int) (h : i < n) : pt X n m i = X i := by simp [pt]; omega
theorem flat_ext {F G : Nat → List Value} {n : Nat} (h : ∀ i, i < n → F i = G i) : flat F n = flat G n := by
  induction n with
  | zero => rfl
  | succ n ih => rw [flat_succ, flat_succ, ih (fun i hi => h i (by omega)), h n (by omega)]
theorem flat_pt (X : Nat → Int) (n : Nat) (m : Int) : flat (ic X) n ++ [.int .i64 m] = flat (ic (pt X n m)) (n + 1) := by
  rw [flat_succ, flat_ext (F := ic (pt X n m)) (G := ic X) (fun i hi => by simp only [ic, pt_lt m hi])]
  simp only [ic, pt_at]
theorem info3 : (Try.prog.info? 3).map (fun i => (i.zero, i.size, i.bytes)) = some (some (.int .i64 0), 1, 8) := by kernel_rfl
set_option maxHeartbeats 1000000 in
theorem places_all (w : World) (a : Option Addr) (len cap : Nat) (z : List Int) (hr : IsRow .u8 w a len cap z) :
    Calls Try.prog 12 #[.slice a len cap] w fun e w' => ∃ (g c : Nat) (Q : Nat → Int), (∀ i, i < 12 → 0 ≤ Q i ∧ Q i < 10000) ∧ (∀ i, i < 12 → w'.cell? ⟨g, i, none⟩ = some (.int .i64 (Q i))) ∧ e = .returned (.slice (some ⟨g, 0, none⟩) 12 c) ∧ w.heap.size ≤ g ∧ g < w'.heap.size ∧ Below w.heap.size w w' := by
  obtain ⟨i0, hi0, hz0, hz1, hz2⟩ := info_parts info3
  have HR := Lib.hid hr
  clear hr
  go_enter Try.func12, Try.ntmps12
  go_wp2_with fail
  (refine (new_any w _ _ _ z HR.out).mono ?_; rintro e w1 ⟨rfl, dr⟩)
  have hd0 := dr.same
  have hs1 := dr.below.size
  have hs2 := dr.here
  go_wp2_with fail
  go_loopw [4, 5] (fun v i wr => ∃ (k : Nat) (X : Nat → Int), k ≤ 12 ∧ i = .int .i64 (k : Int) ∧ (∀ j, j < k → 0 ≤ X j ∧ X j < 10000) ∧ wr.ownsRow w1.heap.size 3 1 v k (flat (ic X) k) ∧ w1.heap.size ≤ wr.heap.size ∧ Drawn w a len cap z w.heap.size w1 wr) (fun _ i _ => 12 - (intOf i).toNat)
  case atStart => exact ⟨0, fun _ => 0, by omega, rfl, fun j hj => by omega, World.ownsRow_made w1 #[] 0 (Nat.le_refl _) (by decide) (by simp), by simp, hd0.alloc _⟩
  case round =>
    obtain ⟨k, X, hk, rfl, hX, hown, hws, hd⟩ := hrel
    have HX := Lib.hid hX
    clear hX
    by_cases hlt : k < 12
    · have hlt' : (k : Int) < 12 := by omega
      go_wp2_with (first
        | (go_at_call 44; refine (below_on w wr _ _ a len cap z 10000 hd.1.same).mono ?_; rintro e w2 ⟨x, hx, rfl, d1⟩; have hown1 := hown.kept d1.2 (.inr fun e => by have := (hown.lt _ e).1; omega); have hd1 := hd.trans d1; have hsz1 := d1.2.size; have hsz := hd.2.size)
        | (at_builtin; refine wpList_append_own _ rfl _ _ 30 rfl w1.heap.size 3 i0 (.int .i64 0) 1 8 Try.underlying30 hi0 hz0 hz1 hz2 rfl (by decide) _ _ _ rfl (hown1.alloc _) ⟨w2.heap.size, 0, none⟩ 1 1 [.int .i64 x] rfl rfl ?c1 ?c2 ?c3 ?c4 ?c5 ?_))
      case c1 => exact World.news_of_block (cs := #[.int .i64 x]) (t := 3) (fr := (0, 0)) (heap_alloc_new w2 _)
      case c2 => simp [Value.oneCell']
      case c3 => unfold maxLen; omega
      case c4 => omega
      case c5 => simp; omega
      intro v2 w3 hown2 hgrow _
      have hd2 := (hd1.alloc (.cells #[.int .i64 x] 3)).grown hgrow (fun q hq => by have := (hown1.lt q hq).1; omega)
      have hws2 : w1.heap.size ≤ w3.heap.size := by have := hgrow.size; simp at this; omega
      rw [flat_pt] at hown2
      have hx2 : ∀ j, j < k + 1 → 0 ≤ pt X k x j ∧ pt X k x j < 10000 := by
        intro j hj
        by_cases e : j < k
        · rw [pt_lt x e]; exact HX.out j e
        · obtain rfl : j = k := by omega
          rw [pt_at]; exact ⟨hx.1, hx.2.1 (by omega)⟩
      have HX2 := Lib.hid (And.intro hx2 (And.intro hown2 (And.intro hws2 hd2)))
      clear hown hown1 hown2 hd hd1 hgrow d1 hx2 hx hws2 hd2
      go_wp2
      go_roundw
      case rel => exact ⟨k + 1, _, by omega, by go_num, HX2.out.1, HX2.out.2.1, HX2.out.2.2.1, HX2.out.2.2.2⟩
      case measure => simp [intOf]; omega
    · obtain rfl : k = 12 := by omega
      rcases (Slab.of_owns hown (ic_len X)).writes with ⟨h0, _⟩ | ⟨g, c, hv, hg, W1⟩
      · omega
      subst hv
      have H := Lib.hid (And.intro W1 (And.intro hd.1.below HX.out))
      have hgl := W1.here
      clear W1 hd hown
      go_wp2
      go_ret
      exact ⟨g, c, X, H.out.2.2, fun i hi => ic_cell H.out.1 hi, rfl, by omega, hgl, H.out.2.1⟩
end Go.Proofs.Ytejnfdpckipbeaa.PlAll
