/-
  The model's PushNumber and TakeNumbers: what each call returns and leaves; condition: at most 1048576 numbers.
-/
import Derived.Test.YtnpbhmeanfolnaaStack
import Derived.Deep.AppendLies
namespace Go.Proofs.Ytnpbhmeanfolnaa.Push
open Go.ChangeShapes Go.WideShapes Go.ChangeAt Go.RowKit
open Kit Slabs Ints Stack
set_option linter.unusedVariables false
set_option linter.unusedSimpArgs false
set_option linter.unnecessarySimpa false
set_option maxRecDepth 100000

/-- X with another number at place n. -/
def pt (X : Nat → Int) (n : Nat) (m : Int) (i : Nat) : Int := if i = n then m else X i
theorem pt_at (X : Nat → Int) (n : Nat) (m : Int) : pt X n m n = m := by simp [pt]
theorem pt_lt {X : Nat → Int} {n i : Nat} (m : Int) (h : i < n) : pt X n m i = X i := by simp [pt]; omega

theorem flat_ext {F G : Nat → List Value} {n : Nat} (h : ∀ i, i < n → F i = G i) : flat F n = flat G n := by
  induction n with
  | zero => rfl
  | succ n ih => rw [flat_succ, flat_succ, ih (fun i hi => h i (by omega)), h n (by omega)]

theorem flat_pt (X : Nat → Int) (n : Nat) (m : Int) : flat (ic X) n ++ [.int .i64 m] = flat (ic (pt X n m)) (n + 1) := by
  rw [flat_succ, flat_ext (F := ic (pt X n m)) (G := ic X) (fun i hi => by simp only [ic, pt_lt m hi])]
  simp only [ic, pt_at]

theorem stB_same {X Y : Nat → Int} {n : Nat} (h : ∀ i, i < n → X i = Y i) : stB X n = stB Y n := by
  have : numsB X n = numsB Y n := by
    rw [Bool.eq_iff_iff, numsB_iff, numsB_iff]
    exact ⟨fun h2 i hi => by rw [← h i hi]; exact h2 i hi, fun h2 i hi => by rw [h i hi]; exact h2 i hi⟩
  simp [stB, this]

def puB (X : Nat → Int) (n : Nat) (m : Int) : Bool := stB X n && stB (pt X n m) (n + 1)
def puN (X : Nat → Int) (n : Nat) (m : Int) : Nat := if puB X n m = true then n + 1 else n

/-- What PushNumber leaves. -/
def PuLeft (X : Nat → Int) (n : Nat) (m : Int) (w : World) (e : Ending) (w' : World) : Prop :=
  ∃ u : Value, e = .returned (.tuple #[u, .bool (puB X n m)]) ∧ Slab w' w.heap.size u (puN X n m) 1 (ic (pt X n m)) ∧ Below w.heap.size w w'

theorem pu_no {X : Nat → Int} {n : Nat} {m : Int} (h : puB X n m = false) {w w1 w' : World} {u : Value} (hB : w.heap.size ≤ w1.heap.size) (ho : w'.ownsRow w1.heap.size 3 1 u n (flat (ic X) n)) (hb : Below w.heap.size w w') : PuLeft X n m w (.returned (.tuple #[u, .bool false])) w' := by
  refine ⟨u, by rw [h], ?_, hb⟩
  rw [show puN X n m = n by simp [puN, h]]
  exact ((Slab.of_owns ho (ic_len X)).weaken hB).same fun i hi => by simp only [ic, pt_lt m hi]

theorem owns_rd {w : World} {B n : Nat} {u : Value} {X : Nat → Int} (h : w.ownsRow B 3 1 u n (flat (ic X) n)) : Rd w u n X := Rd.of_slab (Slab.of_owns h (ic_len X))

theorem owns_on {w w' : World} {B : Nat} {T : TypeId} {c n : Nat} {v : Value} {xs : List Value} (h : w.ownsRow B T c v n xs) (hb : Below w.heap.size w w') : w'.ownsRow B T c v n xs :=
  h.kept (row := none) ⟨hb.os, hb.tape, hb.output, hb.size, fun k hk _ => hb.block k hk⟩ (by cases v.ownBlock <;> simp)

set_option maxHeartbeats 2000000 in
theorem push_spec (w : World) (v : Value) (n : Nat) (X : Nat → Int) (m : Int) (hn : n ≤ 1048576) (h : Rd w v n X) :
    Calls Try.prog 24 #[v, .int .i64 m] w (PuLeft X n m w) := by
  obtain ⟨i0, hi0, hz0, hz1, hz2⟩ := info_parts info3
  have HR := Lib.hid h
  clear h
  cases h1 : stB X n <;> cases h2 : stB (pt X n m) (n + 1)
  all_goals
    go_enter Try.func24, Try.ntmps24
    go_wp2_with fail
    ((with_reducible refine (copy_spec _ _ _ _ (by omega) HR.out).mono ?_); rintro e w1 ⟨u1, rfl, ho1, hb1⟩)
    have HO := Lib.hid ho1
    clear ho1
    go_wp2_with (at_builtin; refine wpList_append_own _ rfl _ _ 24 rfl w.heap.size 3 i0 (.int .i64 0) 1 8 Try.underlying24 hi0 hz0 hz1 hz2 rfl (by decide) _ _ _ rfl (HO.out.alloc _) ⟨w1.heap.size, 0, none⟩ 1 1 [.int .i64 m] rfl rfl ?c1 ?c2 ?c3 ?c4 ?c5 ?_)
    case c1 => exact World.news_of_block (cs := #[.int .i64 m]) (t := 3) (fr := (0, 0)) (heap_alloc_new w1 _)
    case c2 => simp [Value.oneCell']
    case c3 => unfold maxLen; omega
    case c4 => omega
    case c5 => have := hb1.size; simp; omega
    intro u2 w2 ho2 hgrow _
    rw [flat_pt] at ho2
    have hB2 : Below w.heap.size w w2 := (hb1.alloc hb1.size (.cells #[.int .i64 m] 3)).grown hgrow (by have := hb1.size; simp; omega) (fun q hq => by have := ((HO.out.alloc (.cells #[.int .i64 m] 3)).lt q hq).1; omega)
    have hr2 := owns_rd ho2
    have H2 := Lib.hid (And.intro ho2 (And.intro hB2 hr2))
    clear ho2 hB2 hr2 hgrow hb1
    go_wp2_with (first
      | (go_at_call 21; (with_reducible refine (stok_spec _ _ _ _ (by omega) (HR.out.on H2.out.2.1)).mono ?_); rintro e w' ⟨rfl, rfl⟩; rw [h1])
      | (go_at_call 21; (with_reducible refine (stok_spec _ _ _ _ (by omega) H2.out.2.2).mono ?_); rintro e w' ⟨rfl, rfl⟩; rw [h2])
      | (go_at_call 50; (with_reducible refine (copy_spec _ _ _ _ (by omega) (HR.out.on H2.out.2.1)).mono ?_); rintro e w3 ⟨u3, rfl, ho3, hb3⟩; have HB3 := Lib.hid (And.intro ho3 hb3); clear ho3 hb3))
    refine bodyPost_ret (by simp [results, Try.results24, go_sem, *]; try rfl) rfl ?_
  · exact pu_no (by simp [puB, h1]) H2.out.2.1.size HB3.out.1 (on_of H2.out.2.1 HB3.out.2)
  · exact pu_no (by simp [puB, h1]) H2.out.2.1.size HB3.out.1 (on_of H2.out.2.1 HB3.out.2)
  · exact pu_no (by simp [puB, h2]) H2.out.2.1.size HB3.out.1 (on_of H2.out.2.1 HB3.out.2)
  · have hb : puB X n m = true := by simp [puB, h1, h2]
    refine ⟨u2, by rw [hb], ?_, H2.out.2.1⟩
    rw [show puN X n m = n + 1 by simp [puN, hb]]
    exact Slab.of_owns H2.out.1 (ic_len _)

end Go.Proofs.Ytnpbhmeanfolnaa.Push
