/-
  Texts of this seat, laid together: SOp, SAns
-/
import Derived.WalkKit
import Derived.ProofKit
import Derived.OpenShut
import Derived.Below
import Derived.LoopTactic
import Derived.Outline
import Derived.RegionTactic
import Derived.Deep.QuietTactic
import Derived.BigQuiet
import Derived.Handy
import Derived.Lib.Hide
import Derived.Deep.AppendLies
import Derived.Deep.RegionLaw
import Derived.OwnWalk
import Derived.Laws.BytesArg
import Derived.Laws.BitsLemmas
import Derived.Laws.MakeOwn
import Derived.BigRegion
import Derived.Test.YtjmfgbbngocodaaGreatV07
namespace Go.Proofs.YtjmfgbbngocodaaGreat.SOp
open Go.ChangeShapes Go.WideShapes Go.ChangeAt Go.RowKit
open Kit Slabs Ints Stack Push Take Opn
set_option linter.unusedVariables false
set_option linter.unusedSimpArgs false
set_option linter.unnecessarySimpa false
set_option maxRecDepth 100000
theorem stB_b {X : Nat → Int} {n : Nat} (h : stB X n = true) {i : Nat} (hi : i < n) : -9999 ≤ X i ∧ X i ≤ 9999 := by
  rw [stB, Bool.and_eq_true, numsB_iff] at h
  exact h.2 i hi
def SoLeft (b : Bool) (Y : Nat → Int) (m : Nat) (w : World) (e : Ending) (w' : World) : Prop :=
  ∃ u : Value, e = .returned (.tuple #[u, .bool b]) ∧ w'.ownsRow w.heap.size 3 1 u m (flat (ic Y) m) ∧ Below w.heap.size w w'
set_option maxHeartbeats 4000000 in
theorem sop_no (w : World) (v : Value) (n : Nat) (X : Nat → Int) (s : ByteArray) (hn : n ≤ 1048576) (h : Rd w v n X) {a b c d e f g : Bool} (hnm : Nm s a b c d e f g) (t o : Bool)
    (ht : taB X n (if (d || e || f) = true then 1 else 2) = t) (ho : opB s = o) (hno : t = false ∨ o = false) :
    Calls Tryz.prog 29 #[v, .string s] w (SoLeft false X n w) := by
  have HR := Lib.hid h
  clear h
  have e4 := hnm.neg
  have e5 := hnm.dup
  have e6 := hnm.pop
  clear hnm
  cases d <;> cases e <;> cases f <;> simp only [Bool.or_false, Bool.or_true, Bool.false_or, Bool.true_or, if_true, Bool.false_eq_true, if_false] at ht
  all_goals
    cases t <;> cases o
  all_goals
    first | (exfalso; simp at hno; done) | skip
  all_goals
    clear hno
    go_enter Tryz.func29, Tryz.ntmps29
    go_wp2_with (first
      | (go_at_call 30; (with_reducible refine (take_spec _ _ n X _ hn HR.out).mono ?_); rintro e w1 ⟨u1, u2, rfl, ho1, ho2, hb1⟩; have H1 := Lib.hid (And.intro ho1 hb1); clear ho1 ho2 hb1; rw [ht])
      | (go_at_call 28; (with_reducible refine (isop_spec _ _).mono ?_); rintro e w' ⟨rfl, rfl⟩; rw [ho])
      | (go_at_call 64; (with_reducible refine (copy_spec _ _ _ _ (by omega) (HR.out.on H1.out.2)).mono ?_); rintro e w3 ⟨u3, rfl, ho3, hb3⟩; have HB3 := Lib.hid (And.intro ho3 hb3); clear ho3 hb3))
    refine bodyPost_ret (by simp [results, Tryz.results29, go_sem, *]; try rfl) rfl ?_
    exact ⟨u3, rfl, owns_mono HB3.out.1 H1.out.2.size, on_of H1.out.2 HB3.out.2⟩
def OpLeft (X : Nat → Int) (n : Nat) (Y : Nat → Int) (m : Nat) (w : World) (e : Ending) (w' : World) : Prop :=
  SoLeft (stB Y m) (if stB Y m = true then Y else X) (if stB Y m = true then m else n) w e w'
theorem op_yes {X Y : Nat → Int} {n m : Nat} (h : stB Y m = true) {w w' : World} {u : Value} (ho : w'.ownsRow w.heap.size 3 1 u m (flat (ic Y) m)) (hb : Below w.heap.size w w') : OpLeft X n Y m w (.returned (.tuple #[u, .bool true])) w' := by
  rw [OpLeft, h]; exact ⟨u, rfl, ho, hb⟩
theorem op_no {X Y : Nat → Int} {n m : Nat} (h : stB Y m = false) {w w' : World} {u : Value} (ho : w'.ownsRow w.heap.size 3 1 u n (flat (ic X) n)) (hb : Below w.heap.size w w') : OpLeft X n Y m w (.returned (.tuple #[u, .bool false])) w' := by
  rw [OpLeft, h]; exact ⟨u, rfl, ho, hb⟩
theorem taken {w : World} {B : Nat} {u : Value} {k : Nat} {F : Nat → Int} (h : w.ownsRow B 3 1 u k (flat (ic F) k)) (hk : k ≠ 0) :
    ∃ g cap, u = .slice (some ⟨g, 0, none⟩) k cap ∧ B ≤ g ∧ g < w.heap.size ∧ ∀ i, i < k → w.cell? ⟨g, i, none⟩ = some (.int .i64 (F i)) := by
  obtain ⟨a, cap, hv, hc, h2⟩ := Slab.of_owns h (ic_len F)
  rcases h2 with h2 | ⟨g, ha, h3, h4, _, h5⟩
  · exact absurd h2 hk
  · exact ⟨g, cap, by rw [hv, ha], h3, h4, fun i hi => by have := h5 i hi 0 _ rfl; simpa using this⟩
theorem flat_pt2 (X : Nat → Int) (j : Nat) (a b : Int) : flat (ic X) j ++ [.int .i64 a, .int .i64 b] = flat (ic (pt (pt X j a) (j + 1) b)) (j + 2) := by
  rw [← flat_pt (pt X j a) (j + 1) b, ← flat_pt X j a, List.append_assoc]; rfl
set_option maxHeartbeats 4000000 in
theorem sop_pop (w : World) (v : Value) (j : Nat) (X : Nat → Int) (s : ByteArray) (hn : j + 1 ≤ 1048576) (h : Rd w v (j + 1) X) (hnm : Nm s false false false false false true false) (hst : stB X (j + 1) = true) :
    Calls Tryz.prog 29 #[v, .string s] w (OpLeft X (j + 1) X j w) := by
  obtain ⟨i0, hi0, hz0, hz1, hz2⟩ := info_parts info3
  have HR := Lib.hid h
  clear h
  have e1 := hnm.add
  have e2 := hnm.sub
  have e3 := hnm.mul
  have e4 := hnm.neg
  have e5 := hnm.dup
  have e6 := hnm.pop
  have e7 := hnm.exch
  have ht : taB X (j + 1) 1 = true := by simp [taB, hst]; omega
  have ho : opB s = true := opB_of hnm
  have q1 : ta1 X (j + 1) 1 = j := by simp [ta1, ht]
  have q2 : ta2 X (j + 1) 1 = 1 := by simp [ta2, ht]
  have q3 : j + 1 - (1 : Int).toNat = j := by simp
  clear hnm
  obtain ⟨x, hx⟩ : ∃ x, X j = x := ⟨_, rfl⟩
  have bx := stB_b hst (show j < j + 1 by omega)
  rw [hx] at bx
  have HXY := Lib.hid (And.intro hx True.intro)
  clear hx hst
  cases hr : stB X j
  all_goals
    have HR2 := Lib.hid hr
    go_enter Tryz.func29, Tryz.ntmps29
    go_wp2_with (first
      | (go_at_call 30; (with_reducible refine (take_spec _ _ (j + 1) X _ hn HR.out).mono ?_); rintro e w1 ⟨u1, u2, rfl, ho1, ho2, hb1⟩; rw [q1] at ho1; rw [q2, q3] at ho2; (obtain ⟨g2, cap2, rfl, hg2, hg3, hc2⟩ := taken ho2 (by decide)); have c0 := (hc2 0 (by decide)).trans (by rw [Nat.add_zero, HXY.out.1]); have hr2 := owns_rd ho1; have H2 := Lib.hid (And.intro ho1 (And.intro hb1 hr2)); clear hr2; clear ho1 ho2 hb1 hc2; rw [ht])
      | (go_at_call 28; (with_reducible refine (isop_spec _ _).mono ?_); rintro e w' ⟨rfl, rfl⟩; rw [ho])
      | (go_at_call 65; (with_reducible refine (stok_spec _ _ _ _ (by omega) H2.out.2.2).mono ?_); rintro e w' ⟨rfl, rfl⟩; rw [HR2.out])
      | (go_at_call 64; (with_reducible refine (copy_spec _ _ _ _ (by omega) (HR.out.on H2.out.2.1)).mono ?_); rintro e w3 ⟨u3, rfl, ho3, hb3⟩; have HB3 := Lib.hid (And.intro ho3 hb3); clear ho3 hb3))
    refine bodyPost_ret (by simp [results, Tryz.results29, go_sem, *]; try rfl) rfl ?_
    first
      | exact op_yes HR2.out H2.out.1 H2.out.2.1
      | exact op_no HR2.out (owns_mono HB3.out.1 H2.out.2.1.size) (on_of H2.out.2.1 HB3.out.2)
set_option maxHeartbeats 4000000 in
theorem sop_add (w : World) (v : Value) (j : Nat) (X : Nat → Int) (s : ByteArray) (hn : j + 2 ≤ 1048576) (h : Rd w v (j + 2) X) (hnm : Nm s true false false false false false false) (hst : stB X (j + 2) = true) :
    Calls Tryz.prog 29 #[v, .string s] w (OpLeft X (j + 2) (pt X j (X j + X (j + 1))) (j + 1) w) := by
  obtain ⟨i0, hi0, hz0, hz1, hz2⟩ := info_parts info3
  have HR := Lib.hid h
  clear h
  have e1 := hnm.add
  have e2 := hnm.sub
  have e3 := hnm.mul
  have e4 := hnm.neg
  have e5 := hnm.dup
  have e6 := hnm.pop
  have e7 := hnm.exch
  have ht : taB X (j + 2) 2 = true := by simp [taB, hst]; omega
  have ho : opB s = true := opB_of hnm
  have q1 : ta1 X (j + 2) 2 = j := by simp [ta1, ht]
  have q2 : ta2 X (j + 2) 2 = 2 := by simp [ta2, ht]
  have q3 : j + 2 - (2 : Int).toNat = j := by simp
  clear hnm
  obtain ⟨x, hx⟩ : ∃ x, X j = x := ⟨_, rfl⟩
  obtain ⟨y, hy⟩ : ∃ y, X (j + 1) = y := ⟨_, rfl⟩
  have bx := stB_b hst (show j < j + 2 by omega)
  have bY := stB_b hst (show j + 1 < j + 2 by omega)
  rw [hx] at bx
  rw [hy] at bY
  rw [hx, hy]
  have r1 : -9223372036854775808 ≤ x + y := by omega
  have r2 : x + y ≤ 9223372036854775807 := by omega
  have hwr : IntKind.i64.wrap (x + y) = x + y := by rw [IntKind.wrap_i64]; omega
  have HXY := Lib.hid (And.intro hx hy)
  clear hx hy hst
  cases hr : stB (pt X j (x + y)) (j + 1)
  all_goals
    have HR2 := Lib.hid hr
    go_enter Tryz.func29, Tryz.ntmps29
    go_wp2_with (first
      | (go_at_call 30; (with_reducible refine (take_spec _ _ (j + 2) X _ hn HR.out).mono ?_); rintro e w1 ⟨u1, u2, rfl, ho1, ho2, hb1⟩; rw [q1] at ho1; rw [q2, q3] at ho2; (obtain ⟨g2, cap2, rfl, hg2, hg3, hc2⟩ := taken ho2 (by decide)); have c0 := (hc2 0 (by decide)).trans (by rw [Nat.add_zero, HXY.out.1]); have c1 := (hc2 1 (by decide)).trans (by rw [HXY.out.2]); have H1 := Lib.hid (And.intro ho1 hb1); clear ho1 ho2 hb1 hc2; rw [ht])
      | (go_at_call 28; (with_reducible refine (isop_spec _ _).mono ?_); rintro e w' ⟨rfl, rfl⟩; rw [ho]))
    have hown := H1.out.1
    have hbel := H1.out.2
    go_region_law (refine step_append_lies _ (by rfl) _ _ _ (by rfl) w.heap.size 3 i0 _ 1 8 Tryz.underlying22 hi0 hz0 hz1 hz2 rfl (by omega) _ j _ (by rfl) ((hown.alloc _).drew) ⟨w1.heap.size, 0, none⟩ 1 1 [.int .i64 (x + y)] (by rfl) (by rfl) (World.news_of_block (cs := #[.int .i64 (x + y)]) (t := 3) (fr := (0, 0)) (heap_alloc_new w1 _)) (by simp [Value.oneCell']) (by omega) (by unfold maxLen; omega) (by omega) (by simp; have := hbel.size; omega) (w1.heap.size + 1) (by simp) ?_; intro gg cap w2 hown1 hgrow hat hgl)
    all_goals
      have hB2 := ((hbel.alloc hbel.size _).drew).grown hgrow (by simp; have := hbel.size; omega) (fun q hq => (hown.lt q hq).1)
      rw [flat_pt] at hown1
      have hr2 := owns_rd hown1
      have H2 := Lib.hid (And.intro hown1 (And.intro hB2 hr2))
      clear hown hbel hown1 hgrow hat hgl hB2 hr2
      go_wp2_with (first
        | (go_at_call 65; (with_reducible refine (stok_spec _ _ _ _ (by omega) H2.out.2.2).mono ?_); rintro e w' ⟨rfl, rfl⟩; rw [HR2.out])
        | (go_at_call 64; (with_reducible refine (copy_spec _ _ _ _ (by omega) (HR.out.on H2.out.2.1)).mono ?_); rintro e w3 ⟨u3, rfl, ho3, hb3⟩; have HB3 := Lib.hid (And.intro ho3 hb3); clear ho3 hb3))
      refine bodyPost_ret (by simp [results, Tryz.results29, go_sem, *]; try rfl) rfl ?_
      first
        | exact op_yes HR2.out H2.out.1 H2.out.2.1
        | exact op_no HR2.out (owns_mono HB3.out.1 H2.out.2.1.size) (on_of H2.out.2.1 HB3.out.2)
set_option maxHeartbeats 4000000 in
theorem sop_sub (w : World) (v : Value) (j : Nat) (X : Nat → Int) (s : ByteArray) (hn : j + 2 ≤ 1048576) (h : Rd w v (j + 2) X) (hnm : Nm s false true false false false false false) (hst : stB X (j + 2) = true) :
    Calls Tryz.prog 29 #[v, .string s] w (OpLeft X (j + 2) (pt X j (X j - X (j + 1))) (j + 1) w) := by
  obtain ⟨i0, hi0, hz0, hz1, hz2⟩ := info_parts info3
  have HR := Lib.hid h
  clear h
  have e1 := hnm.add
  have e2 := hnm.sub
  have e3 := hnm.mul
  have e4 := hnm.neg
  have e5 := hnm.dup
  have e6 := hnm.pop
  have e7 := hnm.exch
  have ht : taB X (j + 2) 2 = true := by simp [taB, hst]; omega
  have ho : opB s = true := opB_of hnm
  have q1 : ta1 X (j + 2) 2 = j := by simp [ta1, ht]
  have q2 : ta2 X (j + 2) 2 = 2 := by simp [ta2, ht]
  have q3 : j + 2 - (2 : Int).toNat = j := by simp
  clear hnm
  obtain ⟨x, hx⟩ : ∃ x, X j = x := ⟨_, rfl⟩
  obtain ⟨y, hy⟩ : ∃ y, X (j + 1) = y := ⟨_, rfl⟩
  have bx := stB_b hst (show j < j + 2 by omega)
  have bY := stB_b hst (show j + 1 < j + 2 by omega)
  rw [hx] at bx
  rw [hy] at bY
  rw [hx, hy]
  have r1 : -9223372036854775808 ≤ x - y := by omega
  have r2 : x - y ≤ 9223372036854775807 := by omega
  have hwr : IntKind.i64.wrap (x - y) = x - y := by rw [IntKind.wrap_i64]; omega
  have HXY := Lib.hid (And.intro hx hy)
  clear hx hy hst
  cases hr : stB (pt X j (x - y)) (j + 1)
  all_goals
    have HR2 := Lib.hid hr
    go_enter Tryz.func29, Tryz.ntmps29
    go_wp2_with (first
      | (go_at_call 30; (with_reducible refine (take_spec _ _ (j + 2) X _ hn HR.out).mono ?_); rintro e w1 ⟨u1, u2, rfl, ho1, ho2, hb1⟩; rw [q1] at ho1; rw [q2, q3] at ho2; (obtain ⟨g2, cap2, rfl, hg2, hg3, hc2⟩ := taken ho2 (by decide)); have c0 := (hc2 0 (by decide)).trans (by rw [Nat.add_zero, HXY.out.1]); have c1 := (hc2 1 (by decide)).trans (by rw [HXY.out.2]); have H1 := Lib.hid (And.intro ho1 hb1); clear ho1 ho2 hb1 hc2; rw [ht])
      | (go_at_call 28; (with_reducible refine (isop_spec _ _).mono ?_); rintro e w' ⟨rfl, rfl⟩; rw [ho]))
    have hown := H1.out.1
    have hbel := H1.out.2
    go_region_law (refine step_append_lies _ (by rfl) _ _ _ (by rfl) w.heap.size 3 i0 _ 1 8 Tryz.underlying22 hi0 hz0 hz1 hz2 rfl (by omega) _ j _ (by rfl) ((hown.alloc _).drew) ⟨w1.heap.size, 0, none⟩ 1 1 [.int .i64 (x - y)] (by rfl) (by rfl) (World.news_of_block (cs := #[.int .i64 (x - y)]) (t := 3) (fr := (0, 0)) (heap_alloc_new w1 _)) (by simp [Value.oneCell']) (by omega) (by unfold maxLen; omega) (by omega) (by simp; have := hbel.size; omega) (w1.heap.size + 1) (by simp) ?_; intro gg cap w2 hown1 hgrow hat hgl)
    all_goals
      have hB2 := ((hbel.alloc hbel.size _).drew).grown hgrow (by simp; have := hbel.size; omega) (fun q hq => (hown.lt q hq).1)
      rw [flat_pt] at hown1
      have hr2 := owns_rd hown1
      have H2 := Lib.hid (And.intro hown1 (And.intro hB2 hr2))
      clear hown hbel hown1 hgrow hat hgl hB2 hr2
      go_wp2_with (first
        | (go_at_call 65; (with_reducible refine (stok_spec _ _ _ _ (by omega) H2.out.2.2).mono ?_); rintro e w' ⟨rfl, rfl⟩; rw [HR2.out])
        | (go_at_call 64; (with_reducible refine (copy_spec _ _ _ _ (by omega) (HR.out.on H2.out.2.1)).mono ?_); rintro e w3 ⟨u3, rfl, ho3, hb3⟩; have HB3 := Lib.hid (And.intro ho3 hb3); clear ho3 hb3))
      refine bodyPost_ret (by simp [results, Tryz.results29, go_sem, *]; try rfl) rfl ?_
      first
        | exact op_yes HR2.out H2.out.1 H2.out.2.1
        | exact op_no HR2.out (owns_mono HB3.out.1 H2.out.2.1.size) (on_of H2.out.2.1 HB3.out.2)
set_option maxHeartbeats 4000000 in
theorem sop_mul (w : World) (v : Value) (j : Nat) (X : Nat → Int) (s : ByteArray) (hn : j + 2 ≤ 1048576) (h : Rd w v (j + 2) X) (hnm : Nm s false false true false false false false) (hst : stB X (j + 2) = true) :
    Calls Tryz.prog 29 #[v, .string s] w (OpLeft X (j + 2) (pt X j (X j * X (j + 1))) (j + 1) w) := by
  obtain ⟨i0, hi0, hz0, hz1, hz2⟩ := info_parts info3
  have HR := Lib.hid h
  clear h
  have e1 := hnm.add
  have e2 := hnm.sub
  have e3 := hnm.mul
  have e4 := hnm.neg
  have e5 := hnm.dup
  have e6 := hnm.pop
  have e7 := hnm.exch
  have ht : taB X (j + 2) 2 = true := by simp [taB, hst]; omega
  have ho : opB s = true := opB_of hnm
  have q1 : ta1 X (j + 2) 2 = j := by simp [ta1, ht]
  have q2 : ta2 X (j + 2) 2 = 2 := by simp [ta2, ht]
  have q3 : j + 2 - (2 : Int).toNat = j := by simp
  clear hnm
  obtain ⟨x, hx⟩ : ∃ x, X j = x := ⟨_, rfl⟩
  obtain ⟨y, hy⟩ : ∃ y, X (j + 1) = y := ⟨_, rfl⟩
  have bx := stB_b hst (show j < j + 2 by omega)
  have bY := stB_b hst (show j + 1 < j + 2 by omega)
  rw [hx] at bx
  rw [hy] at bY
  rw [hx, hy]
  have hp : (x * y).natAbs ≤ 9999 * 9999 := by rw [Int.natAbs_mul]; exact Nat.mul_le_mul (by omega) (by omega)
  obtain ⟨z, hz⟩ : ∃ z, x * y = z := ⟨_, rfl⟩
  rw [hz] at hp
  have r1 : -9223372036854775808 ≤ z := by omega
  have r2 : z ≤ 9223372036854775807 := by omega
  have hwr : IntKind.i64.wrap z = z := by rw [IntKind.wrap_i64]; omega
  rw [← hz] at r1 r2 hwr
  clear hp hz
  have HXY := Lib.hid (And.intro hx hy)
  clear hx hy hst
  cases hr : stB (pt X j (x * y)) (j + 1)
  all_goals
    have HR2 := Lib.hid hr
    go_enter Tryz.func29, Tryz.ntmps29
    go_wp2_with (first
      | (go_at_call 30; (with_reducible refine (take_spec _ _ (j + 2) X _ hn HR.out).mono ?_); rintro e w1 ⟨u1, u2, rfl, ho1, ho2, hb1⟩; rw [q1] at ho1; rw [q2, q3] at ho2; (obtain ⟨g2, cap2, rfl, hg2, hg3, hc2⟩ := taken ho2 (by decide)); have c0 := (hc2 0 (by decide)).trans (by rw [Nat.add_zero, HXY.out.1]); have c1 := (hc2 1 (by decide)).trans (by rw [HXY.out.2]); have H1 := Lib.hid (And.intro ho1 hb1); clear ho1 ho2 hb1 hc2; rw [ht])
      | (go_at_call 28; (with_reducible refine (isop_spec _ _).mono ?_); rintro e w' ⟨rfl, rfl⟩; rw [ho]))
    have hown := H1.out.1
    have hbel := H1.out.2
    go_region_law (refine step_append_lies _ (by rfl) _ _ _ (by rfl) w.heap.size 3 i0 _ 1 8 Tryz.underlying22 hi0 hz0 hz1 hz2 rfl (by omega) _ j _ (by rfl) ((hown.alloc _).drew) ⟨w1.heap.size, 0, none⟩ 1 1 [.int .i64 (x * y)] (by rfl) (by rfl) (World.news_of_block (cs := #[.int .i64 (x * y)]) (t := 3) (fr := (0, 0)) (heap_alloc_new w1 _)) (by simp [Value.oneCell']) (by omega) (by unfold maxLen; omega) (by omega) (by simp; have := hbel.size; omega) (w1.heap.size + 1) (by simp) ?_; intro gg cap w2 hown1 hgrow hat hgl)
    all_goals
      have hB2 := ((hbel.alloc hbel.size _).drew).grown hgrow (by simp; have := hbel.size; omega) (fun q hq => (hown.lt q hq).1)
      rw [flat_pt] at hown1
      have hr2 := owns_rd hown1
      have H2 := Lib.hid (And.intro hown1 (And.intro hB2 hr2))
      clear hown hbel hown1 hgrow hat hgl hB2 hr2
      go_wp2_with (first
        | (go_at_call 65; (with_reducible refine (stok_spec _ _ _ _ (by omega) H2.out.2.2).mono ?_); rintro e w' ⟨rfl, rfl⟩; rw [HR2.out])
        | (go_at_call 64; (with_reducible refine (copy_spec _ _ _ _ (by omega) (HR.out.on H2.out.2.1)).mono ?_); rintro e w3 ⟨u3, rfl, ho3, hb3⟩; have HB3 := Lib.hid (And.intro ho3 hb3); clear ho3 hb3))
      refine bodyPost_ret (by simp [results, Tryz.results29, go_sem, *]; try rfl) rfl ?_
      first
        | exact op_yes HR2.out H2.out.1 H2.out.2.1
        | exact op_no HR2.out (owns_mono HB3.out.1 H2.out.2.1.size) (on_of H2.out.2.1 HB3.out.2)
set_option maxHeartbeats 4000000 in
theorem sop_exch (w : World) (v : Value) (j : Nat) (X : Nat → Int) (s : ByteArray) (hn : j + 2 ≤ 1048576) (h : Rd w v (j + 2) X) (hnm : Nm s false false false false false false true) (hst : stB X (j + 2) = true) :
    Calls Tryz.prog 29 #[v, .string s] w (OpLeft X (j + 2) (pt (pt X j (X (j + 1))) (j + 1) (X j)) (j + 2) w) := by
  obtain ⟨i0, hi0, hz0, hz1, hz2⟩ := info_parts info3
  have HR := Lib.hid h
  clear h
  have e1 := hnm.add
  have e2 := hnm.sub
  have e3 := hnm.mul
  have e4 := hnm.neg
  have e5 := hnm.dup
  have e6 := hnm.pop
  have e7 := hnm.exch
  have ht : taB X (j + 2) 2 = true := by simp [taB, hst]; omega
  have ho : opB s = true := opB_of hnm
  have q1 : ta1 X (j + 2) 2 = j := by simp [ta1, ht]
  have q2 : ta2 X (j + 2) 2 = 2 := by simp [ta2, ht]
  have q3 : j + 2 - (2 : Int).toNat = j := by simp
  clear hnm
  obtain ⟨x, hx⟩ : ∃ x, X j = x := ⟨_, rfl⟩
  obtain ⟨y, hy⟩ : ∃ y, X (j + 1) = y := ⟨_, rfl⟩
  have bx := stB_b hst (show j < j + 2 by omega)
  have bY := stB_b hst (show j + 1 < j + 2 by omega)
  rw [hx] at bx
  rw [hy] at bY
  rw [hx, hy]
  have HXY := Lib.hid (And.intro hx hy)
  clear hx hy hst
  cases hr : stB (pt (pt X j y) (j + 1) x) (j + 2)
  all_goals
    have HR2 := Lib.hid hr
    go_enter Tryz.func29, Tryz.ntmps29
    go_wp2_with (first
      | (go_at_call 30; (with_reducible refine (take_spec _ _ (j + 2) X _ hn HR.out).mono ?_); rintro e w1 ⟨u1, u2, rfl, ho1, ho2, hb1⟩; rw [q1] at ho1; rw [q2, q3] at ho2; (obtain ⟨g2, cap2, rfl, hg2, hg3, hc2⟩ := taken ho2 (by decide)); have c0 := (hc2 0 (by decide)).trans (by rw [Nat.add_zero, HXY.out.1]); have c1 := (hc2 1 (by decide)).trans (by rw [HXY.out.2]); have H1 := Lib.hid (And.intro ho1 hb1); clear ho1 ho2 hb1 hc2; rw [ht])
      | (go_at_call 28; (with_reducible refine (isop_spec _ _).mono ?_); rintro e w' ⟨rfl, rfl⟩; rw [ho]))
    have hown := H1.out.1
    have hbel := H1.out.2
    go_region_law (refine step_append_lies _ (by rfl) _ _ _ (by rfl) w.heap.size 3 i0 _ 1 8 Tryz.underlying22 hi0 hz0 hz1 hz2 rfl (by omega) _ j _ (by rfl) ((hown.alloc _).drew) ⟨w1.heap.size, 0, none⟩ 2 2 [.int .i64 y, .int .i64 x] (by rfl) (by rfl) (World.news_of_block (cs := #[.int .i64 y, .int .i64 x]) (t := 3) (fr := (0, 0)) (heap_alloc_new w1 _)) (by simp [Value.oneCell']) (by omega) (by unfold maxLen; omega) (by omega) (by simp; have := hbel.size; omega) (w1.heap.size + 1) (by simp) ?_; intro gg cap w2 hown1 hgrow hat hgl)
    all_goals
      have hB2 := ((hbel.alloc hbel.size _).drew).grown hgrow (by simp; have := hbel.size; omega) (fun q hq => (hown.lt q hq).1)
      rw [flat_pt2] at hown1
      have hr2 := owns_rd hown1
      have H2 := Lib.hid (And.intro hown1 (And.intro hB2 hr2))
      clear hown hbel hown1 hgrow hat hgl hB2 hr2
      go_wp2_with (first
        | (go_at_call 65; (with_reducible refine (stok_spec _ _ _ _ (by omega) H2.out.2.2).mono ?_); rintro e w' ⟨rfl, rfl⟩; rw [HR2.out])
        | (go_at_call 64; (with_reducible refine (copy_spec _ _ _ _ (by omega) (HR.out.on H2.out.2.1)).mono ?_); rintro e w3 ⟨u3, rfl, ho3, hb3⟩; have HB3 := Lib.hid (And.intro ho3 hb3); clear ho3 hb3))
      refine bodyPost_ret (by simp [results, Tryz.results29, go_sem, *]; try rfl) rfl ?_
      first
        | exact op_yes HR2.out H2.out.1 H2.out.2.1
        | exact op_no HR2.out (owns_mono HB3.out.1 H2.out.2.1.size) (on_of H2.out.2.1 HB3.out.2)
set_option maxHeartbeats 4000000 in
theorem sop_neg (w : World) (v : Value) (j : Nat) (X : Nat → Int) (s : ByteArray) (hn : j + 1 ≤ 1048576) (h : Rd w v (j + 1) X) (hnm : Nm s false false false true false false false) (hst : stB X (j + 1) = true) :
    Calls Tryz.prog 29 #[v, .string s] w (OpLeft X (j + 1) (pt X j (-X j)) (j + 1) w) := by
  obtain ⟨i0, hi0, hz0, hz1, hz2⟩ := info_parts info3
  have HR := Lib.hid h
  clear h
  have e1 := hnm.add
  have e2 := hnm.sub
  have e3 := hnm.mul
  have e4 := hnm.neg
  have e5 := hnm.dup
  have e6 := hnm.pop
  have e7 := hnm.exch
  have ht : taB X (j + 1) 1 = true := by simp [taB, hst]; omega
  have ho : opB s = true := opB_of hnm
  have q1 : ta1 X (j + 1) 1 = j := by simp [ta1, ht]
  have q2 : ta2 X (j + 1) 1 = 1 := by simp [ta2, ht]
  have q3 : j + 1 - (1 : Int).toNat = j := by simp
  clear hnm
  obtain ⟨x, hx⟩ : ∃ x, X j = x := ⟨_, rfl⟩
  have bx := stB_b hst (show j < j + 1 by omega)
  rw [hx] at bx
  rw [hx]
  have hwr : IntKind.i64.wrap (-x) = -x := by rw [IntKind.wrap_i64]; omega
  have HXY := Lib.hid (And.intro hx True.intro)
  clear hx hst
  cases hr : stB (pt X j (-x)) (j + 1)
  all_goals
    have HR2 := Lib.hid hr
    go_enter Tryz.func29, Tryz.ntmps29
    go_wp2_with (first
      | (go_at_call 30; (with_reducible refine (take_spec _ _ (j + 1) X _ hn HR.out).mono ?_); rintro e w1 ⟨u1, u2, rfl, ho1, ho2, hb1⟩; rw [q1] at ho1; rw [q2, q3] at ho2; (obtain ⟨g2, cap2, rfl, hg2, hg3, hc2⟩ := taken ho2 (by decide)); have c0 := (hc2 0 (by decide)).trans (by rw [Nat.add_zero, HXY.out.1]); have H1 := Lib.hid (And.intro ho1 hb1); clear ho1 ho2 hb1 hc2; rw [ht])
      | (go_at_call 28; (with_reducible refine (isop_spec _ _).mono ?_); rintro e w' ⟨rfl, rfl⟩; rw [ho])
      | (at_builtin; refine wpList_append_own _ rfl _ _ 22 rfl w.heap.size 3 i0 (.int .i64 0) 1 8 Tryz.underlying22 hi0 hz0 hz1 hz2 rfl (by decide) _ _ _ rfl (H1.out.1.alloc _) ⟨w1.heap.size, 0, none⟩ 1 1 [.int .i64 (-x)] rfl rfl (World.news_of_block (cs := #[.int .i64 (-x)]) (t := 3) (fr := (0, 0)) (heap_alloc_new w1 _)) (by simp [Value.oneCell']) (by unfold maxLen; omega) (by omega) (by have := H1.out.2.size; simp; omega) ?_; intro u5 w2 hown1 hgrow _; have hB2 := (H1.out.2.alloc H1.out.2.size _).grown hgrow (by have := H1.out.2.size; simp; omega) (fun q hq => (H1.out.1.lt q hq).1); rw [flat_pt] at hown1; have hr2 := owns_rd hown1; have H2 := Lib.hid (And.intro hown1 (And.intro hB2 hr2)); clear hown1 hgrow hB2 hr2)
      | (go_at_call 65; (with_reducible refine (stok_spec _ _ _ _ (by omega) H2.out.2.2).mono ?_); rintro e w' ⟨rfl, rfl⟩; rw [HR2.out])
      | (go_at_call 64; (with_reducible refine (copy_spec _ _ _ _ (by omega) (HR.out.on H2.out.2.1)).mono ?_); rintro e w3 ⟨u3, rfl, ho3, hb3⟩; have HB3 := Lib.hid (And.intro ho3 hb3); clear ho3 hb3))
    refine bodyPost_ret (by simp [results, Tryz.results29, go_sem, *]; try rfl) rfl ?_
    first
      | exact op_yes HR2.out H2.out.1 H2.out.2.1
      | exact op_no HR2.out (owns_mono HB3.out.1 H2.out.2.1.size) (on_of H2.out.2.1 HB3.out.2)
set_option maxHeartbeats 4000000 in
theorem sop_dup (w : World) (v : Value) (j : Nat) (X : Nat → Int) (s : ByteArray) (hn : j + 1 ≤ 1048576) (h : Rd w v (j + 1) X) (hnm : Nm s false false false false true false false) (hst : stB X (j + 1) = true) :
    Calls Tryz.prog 29 #[v, .string s] w (OpLeft X (j + 1) (pt (pt X j (X j)) (j + 1) (X j)) (j + 2) w) := by
  obtain ⟨i0, hi0, hz0, hz1, hz2⟩ := info_parts info3
  have HR := Lib.hid h
  clear h
  have e1 := hnm.add
  have e2 := hnm.sub
  have e3 := hnm.mul
  have e4 := hnm.neg
  have e5 := hnm.dup
  have e6 := hnm.pop
  have e7 := hnm.exch
  have ht : taB X (j + 1) 1 = true := by simp [taB, hst]; omega
  have ho : opB s = true := opB_of hnm
  have q1 : ta1 X (j + 1) 1 = j := by simp [ta1, ht]
  have q2 : ta2 X (j + 1) 1 = 1 := by simp [ta2, ht]
  have q3 : j + 1 - (1 : Int).toNat = j := by simp
  clear hnm
  obtain ⟨x, hx⟩ : ∃ x, X j = x := ⟨_, rfl⟩
  have bx := stB_b hst (show j < j + 1 by omega)
  rw [hx] at bx
  rw [hx]
  have HXY := Lib.hid (And.intro hx True.intro)
  clear hx hst
  cases hr : stB (pt (pt X j x) (j + 1) x) (j + 2)
  all_goals
    have HR2 := Lib.hid hr
    go_enter Tryz.func29, Tryz.ntmps29
    go_wp2_with (first
      | (go_at_call 30; (with_reducible refine (take_spec _ _ (j + 1) X _ hn HR.out).mono ?_); rintro e w1 ⟨u1, u2, rfl, ho1, ho2, hb1⟩; rw [q1] at ho1; rw [q2, q3] at ho2; (obtain ⟨g2, cap2, rfl, hg2, hg3, hc2⟩ := taken ho2 (by decide)); have c0 := (hc2 0 (by decide)).trans (by rw [Nat.add_zero, HXY.out.1]); have H1 := Lib.hid (And.intro ho1 hb1); clear ho1 ho2 hb1 hc2; rw [ht])
      | (go_at_call 28; (with_reducible refine (isop_spec _ _).mono ?_); rintro e w' ⟨rfl, rfl⟩; rw [ho]))
    have hown := H1.out.1
    have hbel := H1.out.2
    go_region_law (refine step_append_lies _ (by rfl) _ _ _ (by rfl) w.heap.size 3 i0 _ 1 8 Tryz.underlying22 hi0 hz0 hz1 hz2 rfl (by omega) _ j _ (by rfl) ((hown.alloc _).drew) ⟨w1.heap.size, 0, none⟩ 2 2 [.int .i64 x, .int .i64 x] (by rfl) (by rfl) (World.news_of_block (cs := #[.int .i64 x, .int .i64 x]) (t := 3) (fr := (0, 0)) (heap_alloc_new w1 _)) (by simp [Value.oneCell']) (by omega) (by unfold maxLen; omega) (by omega) (by simp; have := hbel.size; omega) (w1.heap.size + 1) (by simp) ?_; intro gg cap w2 hown1 hgrow hat hgl)
    all_goals
      have hB2 := ((hbel.alloc hbel.size _).drew).grown hgrow (by simp; have := hbel.size; omega) (fun q hq => (hown.lt q hq).1)
      rw [flat_pt2] at hown1
      have hr2 := owns_rd hown1
      have H2 := Lib.hid (And.intro hown1 (And.intro hB2 hr2))
      clear hown hbel hown1 hgrow hat hgl hB2 hr2
      go_wp2_with (first
        | (go_at_call 65; (with_reducible refine (stok_spec _ _ _ _ (by omega) H2.out.2.2).mono ?_); rintro e w' ⟨rfl, rfl⟩; rw [HR2.out])
        | (go_at_call 64; (with_reducible refine (copy_spec _ _ _ _ (by omega) (HR.out.on H2.out.2.1)).mono ?_); rintro e w3 ⟨u3, rfl, ho3, hb3⟩; have HB3 := Lib.hid (And.intro ho3 hb3); clear ho3 hb3))
      refine bodyPost_ret (by simp [results, Tryz.results29, go_sem, *]; try rfl) rfl ?_
      first
        | exact op_yes HR2.out H2.out.1 H2.out.2.1
        | exact op_no HR2.out (owns_mono HB3.out.1 H2.out.2.1.size) (on_of H2.out.2.1 HB3.out.2)
end Go.Proofs.YtjmfgbbngocodaaGreat.SOp

namespace Go.Proofs.YtjmfgbbngocodaaGreat.SOp
open Go.ChangeShapes Go.WideShapes Go.ChangeAt Go.RowKit
open Kit Slabs Ints Stack Push Take Opn
set_option linter.unusedVariables false
set_option linter.unusedSimpArgs false
set_option linter.unnecessarySimpa false
set_option maxRecDepth 100000
def needN (s : ByteArray) : Nat := if ((s.toList == [110, 101, 103]) || (s.toList == [100, 117, 112]) || (s.toList == [112, 111, 112])) = true then 1 else 2
def mkL (X : Nat → Int) (n : Nat) (s : ByteArray) : (Nat → Int) × Nat :=
  if (s.toList == [97, 100, 100]) = true then (pt X (n - 2) (X (n - 2) + X (n - 1)), n - 1)
  else if (s.toList == [115, 117, 98]) = true then (pt X (n - 2) (X (n - 2) - X (n - 1)), n - 1)
  else if (s.toList == [109, 117, 108]) = true then (pt X (n - 2) (X (n - 2) * X (n - 1)), n - 1)
  else if (s.toList == [110, 101, 103]) = true then (pt X (n - 1) (-X (n - 1)), n)
  else if (s.toList == [100, 117, 112]) = true then (pt (pt X (n - 1) (X (n - 1))) n (X (n - 1)), n + 1)
  else if (s.toList == [112, 111, 112]) = true then (X, n - 1)
  else if (s.toList == [101, 120, 99, 104]) = true then (pt (pt X (n - 2) (X (n - 1))) (n - 1) (X (n - 2)), n)
  else (X, n)
def soB (X : Nat → Int) (n : Nat) (s : ByteArray) : Bool := taB X n (needN s) && opB s && stB (mkL X n s).1 (mkL X n s).2
def soY (X : Nat → Int) (n : Nat) (s : ByteArray) : Nat → Int := if soB X n s = true then (mkL X n s).1 else X
def soM (X : Nat → Int) (n : Nat) (s : ByteArray) : Nat := if soB X n s = true then (mkL X n s).2 else n
theorem soM_le (X : Nat → Int) (n : Nat) (s : ByteArray) : soM X n s ≤ n + 1 := by
  unfold soM mkL
  repeat' split
  all_goals first | omega | (simp only; omega)
theorem so_op {X Y : Nat → Int} {n m : Nat} {s : ByteArray} (hmk : mkL X n s = (Y, m)) (ht : taB X n (needN s) = true) (ho : opB s = true) (w : World) (e : Ending) (w' : World) (h : OpLeft X n Y m w e w') : SoLeft (soB X n s) (soY X n s) (soM X n s) w e w' := by
  have hb : soB X n s = stB Y m := by simp [soB, ht, ho, hmk]
  unfold soY soM
  rw [hb, hmk]
  exact h
theorem so_no {X : Nat → Int} {n : Nat} {s : ByteArray} (h : taB X n (needN s) = false ∨ opB s = false) (w : World) (e : Ending) (w' : World) (hl : SoLeft false X n w e w') : SoLeft (soB X n s) (soY X n s) (soM X n s) w e w' := by
  have hb : soB X n s = false := by rcases h with h | h <;> simp [soB, h]
  unfold soY soM
  rw [hb]
  exact hl
theorem ta_parts {X : Nat → Int} {n k : Nat} (h : taB X n (k : Int) = true) : stB X n = true ∧ k ≤ n := by
  simp only [taB, Bool.and_eq_true, decide_eq_true_eq] at h
  exact ⟨h.1, by omega⟩
theorem need_of {s : ByteArray} {a b c d e f g : Bool} (h : Nm s a b c d e f g) : needN s = if (d || e || f) = true then 1 else 2 := by
  unfold needN; rw [h.neg, h.dup, h.pop]
theorem so_spec (w : World) (v : Value) (n : Nat) (X : Nat → Int) (s : ByteArray) (hn : n ≤ 1048576) (h : Rd w v n X) :
    Calls Tryz.prog 29 #[v, .string s] w (SoLeft (soB X n s) (soY X n s) (soM X n s) w) := by
  rcases nm_cases s with hm | hm | hm | hm | hm | hm | hm | hm
  all_goals
    have hneed := need_of hm
    simp only [Bool.or_false, Bool.or_true, Bool.false_or, Bool.true_or, if_true, Bool.false_eq_true, if_false] at hneed
    have hop := opB_of hm
    simp only [Bool.or_false, Bool.or_true, Bool.false_or, Bool.true_or] at hop
    cases ht : taB X n (needN s)
    · exact (sop_no w v n X s hn h hm false (opB s) (by have h2 := ht; rw [hneed] at h2; exact h2) rfl (.inl rfl)).mono (so_no (.inl ht) w)
  all_goals
    obtain ⟨hst, hk⟩ := ta_parts ht
    rw [hneed] at hk
  · obtain ⟨j, rfl⟩ : ∃ j, n = j + 2 := ⟨n - 2, by omega⟩
    exact (sop_add w v j X s hn h hm hst).mono (so_op (by simp only [mkL, hm.add, if_true]; rfl) ht hop w)
  · obtain ⟨j, rfl⟩ : ∃ j, n = j + 2 := ⟨n - 2, by omega⟩
    exact (sop_sub w v j X s hn h hm hst).mono (so_op (by simp only [mkL, hm.add, hm.sub, if_true, Bool.false_eq_true, if_false]; rfl) ht hop w)
  · obtain ⟨j, rfl⟩ : ∃ j, n = j + 2 := ⟨n - 2, by omega⟩
    exact (sop_mul w v j X s hn h hm hst).mono (so_op (by simp only [mkL, hm.add, hm.sub, hm.mul, if_true, Bool.false_eq_true, if_false]; rfl) ht hop w)
  · obtain ⟨j, rfl⟩ : ∃ j, n = j + 1 := ⟨n - 1, by omega⟩
    exact (sop_neg w v j X s hn h hm hst).mono (so_op (by simp only [mkL, hm.add, hm.sub, hm.mul, hm.neg, if_true, Bool.false_eq_true, if_false]; rfl) ht hop w)
  · obtain ⟨j, rfl⟩ : ∃ j, n = j + 1 := ⟨n - 1, by omega⟩
    exact (sop_dup w v j X s hn h hm hst).mono (so_op (by simp only [mkL, hm.add, hm.sub, hm.mul, hm.neg, hm.dup, if_true, Bool.false_eq_true, if_false]; rfl) ht hop w)
  · obtain ⟨j, rfl⟩ : ∃ j, n = j + 1 := ⟨n - 1, by omega⟩
    exact (sop_pop w v j X s hn h hm hst).mono (so_op (by simp only [mkL, hm.add, hm.sub, hm.mul, hm.neg, hm.dup, hm.pop, if_true, Bool.false_eq_true, if_false]; rfl) ht hop w)
  · obtain ⟨j, rfl⟩ : ∃ j, n = j + 2 := ⟨n - 2, by omega⟩
    exact (sop_exch w v j X s hn h hm hst).mono (so_op (by simp only [mkL, hm.add, hm.sub, hm.mul, hm.neg, hm.dup, hm.pop, hm.exch, if_true, Bool.false_eq_true, if_false]; rfl) ht hop w)
  · exact (sop_no w v n X s hn h hm true false (by have h2 := ht; rw [hneed] at h2; exact h2) hop (.inr rfl)).mono (so_no (.inr hop) w)
end Go.Proofs.YtjmfgbbngocodaaGreat.SOp

