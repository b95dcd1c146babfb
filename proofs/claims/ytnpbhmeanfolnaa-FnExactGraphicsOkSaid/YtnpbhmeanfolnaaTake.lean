/-
  The model's TakeNumbers: what the call returns and leaves; condition: at most 1048576 numbers.
-/
import Derived.Test.YtnpbhmeanfolnaaPush
import Derived.Deep.RegionHeld3
import Derived.Deep.DeepCutAuto
namespace Go.Proofs.Ytnpbhmeanfolnaa.Take
open Go.ChangeShapes Go.WideShapes Go.ChangeAt Go.RowKit
open Kit Slabs Ints Stack Push
set_option linter.unusedVariables false
set_option linter.unusedSimpArgs false
set_option linter.unnecessarySimpa false
set_option maxRecDepth 100000

theorem _root_.Go.Proofs.Ytnpbhmeanfolnaa.Stack.Rd.tail {w : World} {g o cap n : Nat} {X : Nat → Int} (h : Rd w (.slice (some ⟨g, o, none⟩) n cap) n X) (i : Nat) (hi : i ≤ n) : Rd w (.slice (some ⟨g, o + i, none⟩) (n - i) (cap - i)) (n - i) (fun j => X (i + j)) := by
  obtain ⟨a', cap', hv, hc, h⟩ := h
  injection hv with h1 h2 h3
  subst h1; subst h3
  rcases h with h | ⟨g', o', ha, h2, h4⟩
  · exact ⟨_, _, rfl, by omega, .inl (by omega)⟩
  · injection ha with ha
    injection ha with e1 e2
    subst e1; subst e2
    exact ⟨_, _, rfl, by omega, .inr ⟨g, o + i, rfl, h2, fun j hj => by have := h4 (i + j) (by omega); rw [Nat.add_assoc]; exact this⟩⟩

def taB (X : Nat → Int) (n : Nat) (c : Int) : Bool := stB X n && decide (0 ≤ c ∧ c ≤ (n : Int))

theorem owns_mono {w : World} {B B' : Nat} {T : TypeId} {c n : Nat} {v : Value} {xs : List Value} (h : w.ownsRow B T c v n xs) (hB : B' ≤ B) : w.ownsRow B' T c v n xs := by
  refine ⟨h.1, ?_⟩
  rcases h.2 with hn | ⟨g, cap, cur, hv, hb, rest⟩
  · exact .inl hn
  · exact .inr ⟨g, cap, cur, hv, Nat.le_trans hB hb, rest⟩

def ta1 (X : Nat → Int) (n : Nat) (c : Int) : Nat := if taB X n c = true then n - c.toNat else n
def ta2 (X : Nat → Int) (n : Nat) (c : Int) : Nat := if taB X n c = true then c.toNat else 0

/-- What TakeNumbers leaves. -/
def TaLeft (X : Nat → Int) (n : Nat) (c : Int) (w : World) (e : Ending) (w' : World) : Prop :=
  ∃ u1 u2 : Value, e = .returned (.tuple #[u1, u2, .bool (taB X n c)]) ∧
    w'.ownsRow w.heap.size 3 1 u1 (ta1 X n c) (flat (ic X) (ta1 X n c)) ∧ w'.ownsRow w.heap.size 3 1 u2 (ta2 X n c) (flat (ic fun i => X (n - c.toNat + i)) (ta2 X n c)) ∧ Below w.heap.size w w'

/-- What TakeNumbers leaves, the two slices apart. -/
def TaApart (X : Nat → Int) (n : Nat) (c : Int) (w : World) (e : Ending) (w' : World) : Prop :=
  ∃ u1 u2 : Value, e = .returned (.tuple #[u1, u2, .bool (taB X n c)]) ∧
    w'.ownsRow w.heap.size 3 1 u1 (ta1 X n c) (flat (ic X) (ta1 X n c)) ∧ w'.ownsRow w.heap.size 3 1 u2 (ta2 X n c) (flat (ic fun i => X (n - c.toNat + i)) (ta2 X n c)) ∧
    (∀ k, rowOf (ta1 X n c) u1 = some k → rowOf (ta2 X n c) u2 ≠ some k) ∧ Below w.heap.size w w'

theorem TaApart.left {X : Nat → Int} {n : Nat} {c : Int} {w : World} {e : Ending} {w' : World} (h : TaApart X n c w e w') : TaLeft X n c w e w' := by
  obtain ⟨u1, u2, h1, h2, h3, _, h5⟩ := h
  exact ⟨u1, u2, h1, h2, h3, h5⟩

theorem ta_yes {X : Nat → Int} {n k : Nat} (h : taB X n (k : Int) = true) {w w1 w' : World} {u1 u2 : Value} (hB : w.heap.size ≤ w1.heap.size) (h1 : w'.ownsRow w.heap.size 3 1 u1 (n - k) (flat (ic X) (n - k)))
    (h2 : w'.ownsRow w1.heap.size 3 1 u2 k (flat (ic fun i => X (n - k + i)) k)) (hb : Below w.heap.size w w') : TaLeft X n k w (.returned (.tuple #[u1, u2, .bool true])) w' := by
  have e1 : ta1 X n (k : Int) = n - k := by simp [ta1, h]
  have e2 : ta2 X n (k : Int) = k := by simp [ta2, h]
  refine ⟨u1, u2, by rw [h], by rw [e1]; exact h1, by rw [e2]; simpa using owns_mono h2 hB, hb⟩

theorem ta_no {X : Nat → Int} {n : Nat} {c : Int} (h : taB X n c = false) {w w' : World} {u1 u2 : Value} (h1 : w'.ownsRow w.heap.size 3 1 u1 n (flat (ic X) n)) (h2 : w'.ownsRow w.heap.size 3 1 u2 0 []) (hb : Below w.heap.size w w') : TaLeft X n c w (.returned (.tuple #[u1, u2, .bool false])) w' := by
  have e1 : ta1 X n c = n := by simp [ta1, h]
  have e2 : ta2 X n c = 0 := by simp [ta2, h]
  exact ⟨u1, u2, by rw [h], by rw [e1]; exact h1, by rw [e2]; exact h2, hb⟩

set_option maxHeartbeats 2000000 in
theorem take_spec (w : World) (v : Value) (n : Nat) (X : Nat → Int) (c : Int) (hn : n ≤ 1048576) (h : Rd w v n X) :
    Calls Try.prog 27 #[v, .int .i64 c] w (TaLeft X n c w) := by
  have HR := Lib.hid h
  cases hd : decide (0 ≤ c ∧ c ≤ (n : Int)) <;> cases h1 : stB X n
  case true.true =>
    have hd2 : 0 ≤ c ∧ c ≤ (n : Int) := by simpa using hd
    obtain ⟨k, rfl⟩ : ∃ k : Nat, c = k := ⟨c.toNat, by omega⟩
    have hk : k ≤ n := by omega
    obtain ⟨a, cap, rfl, hc, h⟩ := h
    have hcap : (n : Int) ≤ (cap : Int) := by omega
    have hnk : n - k ≤ 2000000 := by omega
    have hkk : k ≤ 2000000 := by omega
    rcases h with h0 | ⟨g, o, rfl, hg, hcs⟩
    · subst h0
      obtain rfl : k = 0 := by omega
      have hd : decide ((0 : Int) ≤ 0 ∧ (0 : Int) ≤ 0) = true := by simp
      clear hd2 hk hnk hkk hcap
      have hE : ∀ (W : World) (a : Option Addr) (cap : Nat), Rd W (.slice a 0 cap) 0 X := fun W a cap => ⟨a, cap, rfl, Nat.zero_le _, .inl rfl⟩
      have HE := Lib.hid hE
      clear hE
      clear HR
      have hcc : cap = 0 ∨ cap ≠ 0 := by omega
      rcases hcc with rfl | hcz
      all_goals
        cases a
        all_goals
          go_enter Try.func27, Try.ntmps27
          go_upto_region 4 with (first
            | (go_at_call 21; (with_reducible refine (stok_spec _ _ 0 X (by omega) (HE.out _ _ _)).mono ?_); rintro e w' ⟨rfl, rfl⟩; rw [h1])
            | (go_at_call 49; refine (Point.in_any _ _ _ _).mono ?_; rintro e w' ⟨rfl, rfl⟩; rw [hd]))
          go_region_held3 (fun w' => Below w.heap.size w w') (first | exact hB | go_grown) (first
            | (go_at_call 50; (with_reducible refine (copy_spec w.drew _ 0 X (by omega) (HE.out _ _ _)).mono ?_); rintro e w1 ⟨u1, rfl, ho1, hb1⟩; have hB := on_of (W := w) (by go_grown) hb1; have HO1 := Lib.hid ho1; clear ho1)
            | (go_at_call 50; (with_reducible refine (copy_spec _ _ 0 X (by omega) (HE.out _ _ _)).mono ?_); rintro e w2 ⟨u2, rfl, ho2, hb2⟩; have hB := on_of hB hb2; have HO2 := Lib.hid ho2; clear ho2)
            | (go_at_call 50; trace_state; fail))
          go_wp2
          refine bodyPost_ret (by simp [results, Try.results27, go_sem, *]; try rfl) rfl ?_
          have hb : taB X 0 ((0 : Nat) : Int) = true := by simp [taB, h1]
          exact ta_yes hb (by have := hb1.size; simpa using this) (owns_on HO1.out hb2) HO2.out hB
    · by_cases hcz : cap = n - k
      · obtain rfl : k = 0 := by omega
        have hcn : cap = n := by omega
        clear hcz hk hcap hc hnk hkk
        subst hcn
        have hd : decide ((0 : Int) ≤ 0 ∧ (0 : Int) ≤ (cap : Int)) = true := by simp
        clear hd2
        have HT : Hid (∀ W : World, Below w.heap.size w W → Rd W (.slice (some ⟨g, o, none⟩) 0 0) 0 (fun j => X (cap + j))) := Lib.hid fun W hW => ⟨_, _, rfl, Nat.le_refl _, .inl rfl⟩
        go_enter Try.func27, Try.ntmps27
        go_upto_region 4 with (first
          | (go_at_call 21; (with_reducible refine (stok_spec _ _ _ _ (by omega) HR.out).mono ?_); rintro e w' ⟨rfl, rfl⟩; rw [h1])
          | (go_at_call 49; refine (Point.in_any _ _ _ _).mono ?_; rintro e w' ⟨rfl, rfl⟩; rw [hd]))
        have HD : Hid (Rd w.drew (.slice (some ⟨g, o, none⟩) cap cap) cap X) := HR
        have hnn : cap ≤ 2000000 := by omega
        go_region_held3 (fun w' => Rd w' (.slice (some ⟨g, o, none⟩) cap cap) cap X ∧ Below w.heap.size w w') (first | exact ⟨HR.out, by go_grown⟩ | exact ⟨HR.out.on hB, hB⟩) (first
          | (go_at_call 50; (with_reducible refine (copy_spec w.drew _ cap X hnn HD.out).mono ?_); rintro e w1 ⟨u1, rfl, ho1, hb1⟩; have hB := on_of (W := w) (by go_grown) hb1; have HO1 := Lib.hid ho1; clear ho1)
          | (go_at_call 50; (with_reducible refine (copy_spec _ _ 0 _ (by omega) (HT.out _ hB)).mono ?_); rintro e w2 ⟨u2, rfl, ho2, hb2⟩; have hB := on_of hB hb2; have HO2 := Lib.hid ho2; clear ho2)
          | (go_at_call 50; trace_state; fail))
        go_wp2
        refine bodyPost_ret (by simp [results, Try.results27, go_sem, *]; try rfl) rfl ?_
        have hb : taB X cap ((0 : Nat) : Int) = true := by simp [taB, h1]
        exact ta_yes hb (by have := hb1.size; simpa using this) (owns_on HO1.out hb2) HO2.out hB
      · go_enter Try.func27, Try.ntmps27
        go_upto_region 4 with (first
          | (go_at_call 21; (with_reducible refine (stok_spec _ _ _ _ (by omega) HR.out).mono ?_); rintro e w' ⟨rfl, rfl⟩; rw [h1])
          | (go_at_call 49; refine (Point.in_any _ _ _ _).mono ?_; rintro e w' ⟨rfl, rfl⟩; rw [hd]))
        have hx1 : (0 : Int) ≤ (n : Int) - (k : Int) := by omega
        have hx2 : (n : Int) - (k : Int) ≤ (cap : Int) := by omega
        have hx3 : (n : Int) - (k : Int) ≤ (n : Int) := by omega
        have hA : ∀ W : World, Rd W (.slice (some ⟨g, o, none⟩) n cap) n X → Rd W (.slice (some ⟨g, o, none⟩) (n - k) cap) (n - k) X := fun W hW => by
          obtain ⟨a', cap', hv, hnc, h⟩ := hW
          injection hv with e1 e2 e3
          subst e1; subst e3
          refine ⟨_, _, rfl, by omega, ?_⟩
          rcases h with h | ⟨g', o', e, hl, hcell⟩
          · exact .inl (by omega)
          · exact .inr ⟨g', o', e, hl, fun i hi => hcell i (by omega)⟩
        have HD := Lib.hid (hA w.drew HR.out)
        have hTl : ∀ W : World, Below w.heap.size w W → Rd W (.slice (some ⟨g, o + (n - k), none⟩) (n - (n - k)) (cap - (n - k))) (n - (n - k)) (fun j => X (n - k + j)) := fun W hW => (HR.out.on hW).tail (n - k) (by omega)
        have HT := Lib.hid hTl
        have hnn : n - (n - k) ≤ 2000000 := by omega
        clear hA hTl
        go_region_held3 (fun w' => Rd w' (.slice (some ⟨g, o, none⟩) n cap) n X ∧ Below w.heap.size w w') (first | exact ⟨HR.out, by go_grown⟩ | exact ⟨HR.out.on hB, hB⟩) (first
          | (go_at_call 50; (with_reducible refine (copy_spec w.drew _ (n - k) X hnk HD.out).mono ?_); rintro e w1 ⟨u1, rfl, ho1, hb1⟩; have hB := on_of (W := w) (by go_grown) hb1; have HO1 := Lib.hid ho1; clear ho1)
          | (go_at_call 50; (with_reducible refine (copy_spec _ _ (n - (n - k)) _ hnn (HT.out _ hB)).mono ?_); rintro e w2 ⟨u2, rfl, ho2, hb2⟩; have hB := on_of hB hb2; have HO2 := Lib.hid ho2; clear ho2)
          | (go_at_call 50; trace_state; fail))
        go_wp2
        refine bodyPost_ret (by simp [results, Try.results27, go_sem, *]; try rfl) rfl ?_
        have hb : taB X n (k : Int) = true := by simp [taB, h1]; omega
        have h2 := HO2.out
        rw [show n - (n - k) = k by omega] at h2
        exact ta_yes hb (by have := hb1.size; simpa using this) (owns_on HO1.out hb2) h2 hB
  all_goals
    have hb : taB X n c = false := by simp [taB, h1]; try simpa using hd
    obtain ⟨a, cap, rfl, hnc, _⟩ := h
    go_enter Try.func27, Try.ntmps27
    go_wp2_with (first
      | (go_at_call 21; (with_reducible refine (stok_spec _ _ _ _ (by omega) HR.out).mono ?_); rintro e w' ⟨rfl, rfl⟩; rw [h1])
      | (go_at_call 49; refine (Point.in_any _ _ _ _).mono ?_; rintro e w' ⟨rfl, rfl⟩; rw [hd])
      | (go_at_call 50; (with_reducible refine (copy_spec _ _ _ _ (by omega) HR.out).mono ?_); rintro e w1 ⟨u1, rfl, ho1, hb1⟩; have HO1 := Lib.hid (And.intro ho1 hb1); clear ho1 hb1))
    refine bodyPost_ret (by simp [results, Try.results27, go_sem, *]; try rfl) rfl ?_
    exact ta_no hb (HO1.out.1.alloc _) (World.ownsRow_made w1 #[] (e := 3) (size := 1) 0 HO1.out.2.size (by decide) (by simp)) (HO1.out.2.alloc HO1.out.2.size _)

end Go.Proofs.Ytnpbhmeanfolnaa.Take
