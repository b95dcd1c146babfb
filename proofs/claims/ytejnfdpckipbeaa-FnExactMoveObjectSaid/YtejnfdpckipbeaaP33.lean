/-
  Texts of this seat, laid together: Im9, ClB, Dr9, SzO
-/
import Derived.Deep.RegionWith
import Derived.WalkKit
import Derived.Deep.DeepCutAuto
import Derived.Deep.QuietTactic
import Derived.BigQuiet
import Derived.Deep.RegionHeld3
import Derived.Handy
import Derived.Test.YtejnfdpckipbeaaP27
import Derived.Test.YtejnfdpckipbeaaP35
import Derived.Test.YtejnfdpckipbeaaP30
import Derived.Test.YtejnfdpckipbeaaP28
import Derived.Test.YtejnfdpckipbeaaP16
namespace Go.Proofs.Ytejnfdpckipbeaa.Ins
open Go.ChangeShapes Go.WideShapes Go.ChangeAt Go.RowKit
open Kit Point
set_option linter.unusedVariables false
set_option linter.unusedSimpArgs false
set_option linter.unnecessarySimpa false
theorem inS_hit {l : List Pt} {k : Nat} {x : Int} (hk : k < l.length) (h1 : pX l k ≤ x) (h2 : x < pY l k) : inS l x = true :=
  inS_true.2 ⟨l[k], List.getElem_mem hk, by rw [getk l hk]; exact h1, by rw [getk l hk]; exact h2⟩
theorem inS_miss {l : List Pt} {x : Int} (h : ∀ k, k < l.length → ¬ (pX l k ≤ x ∧ x < pY l k)) : inS l x = false := inS_false fun q hq => by
  obtain ⟨k, hk, rfl⟩ := List.getElem_of_mem hq
  have := h k hk
  rw [getk l hk]; show x < pX l k ∨ pY l k ≤ x; omega
end Go.Proofs.Ytejnfdpckipbeaa.Ins
namespace Go.Proofs.Ytejnfdpckipbeaa.Own
open Go.ChangeShapes Go.WideShapes Go.ChangeAt Go.RowKit
open Kit Slabs Ints Stack Point Turn
set_option linter.unusedVariables false
set_option linter.unusedSimpArgs false
set_option linter.unnecessarySimpa false
set_option maxRecDepth 100000
attribute [local go_sem ↓] hload_Graphics hload_Object hstore_Graphics hstore_Object
end Go.Proofs.Ytejnfdpckipbeaa.Own
namespace Go.Proofs.Ytejnfdpckipbeaa.Ins
open Go.ChangeShapes Go.WideShapes Go.ChangeAt Go.RowKit
open Kit Point Slabs Draw
set_option linter.unusedVariables false
set_option linter.unusedSimpArgs false
set_option linter.unnecessarySimpa false
structure Drs (l : List Pt) : Prop where
  sep : Sep l
  few : l.length ≤ 4
  small : ∀ q ∈ l, 1 ≤ q.2 - q.1 ∧ q.2 - q.1 ≤ 6
theorem within5 {n r : Int} (h : Within n r) (hn : 0 < n) : 0 ≤ r ∧ r < n := ⟨h.1, h.2.1 hn⟩
theorem draws_drew {W w : World} {a : Option Addr} {len cap : Nat} {z : List Int} {b : Nat} (d : Draws W a len cap z b w) : Drawn W a len cap z b w w.drew :=
  ⟨⟨d.row, d.far, d.here, by obtain ⟨i, h, hi, hl, c⟩ := d.cur; exact ⟨i, h, hi, hl, c.c0, c.c1, c.c2, c.f1, c.f2⟩, ⟨d.below.os, d.below.tape, d.below.output, d.below.size, d.below.block⟩⟩, ⟨rfl, rfl, rfl, Nat.le_refl _, fun _ _ _ => rfl⟩⟩
theorem drs_snoc {l : List Pt} {y e x : Int} (h : Drs l) (hl : ∀ q ∈ l, q.2 < y) (h4 : l.length ≤ 3) (h1 : 1 ≤ e - y ∧ e - y ≤ 6) (hx : e < x) : Drs (l ++ [(y, e)]) ∧ ∀ q ∈ l ++ [(y, e)], q.2 < x := by
  refine ⟨⟨h.sep.snoc (by omega) hl, by simp; omega, fun q hq => ?_⟩, fun q hq => ?_⟩
  · rcases List.mem_append.1 hq with hq | hq
    · exact h.small q hq
    · rw [List.mem_singleton.1 hq]; exact h1
  · rcases List.mem_append.1 hq with hq | hq
    · have := hl q hq; omega
    · rw [List.mem_singleton.1 hq]; exact hx
end Go.Proofs.Ytejnfdpckipbeaa.Ins
namespace Go.Proofs.Ytejnfdpckipbeaa.Own
open Go.ChangeShapes Go.WideShapes Go.ChangeAt Go.RowKit
open Kit Slabs Ints
set_option linter.unusedVariables false
set_option linter.unusedSimpArgs false
set_option linter.unnecessarySimpa false
set_option maxRecDepth 100000
set_option maxHeartbeats 4000000 in
theorem sz_Object (w : World) {A : Array Value} {ds : List Dt} (h : CameL w LObject A.toList ds) (l : Int) (l0 : 0 ≤ l) (l1 : l ≤ 1048576) :
    Calls Try.prog 28 #[.agg A, .int .i64 l] w fun e w' => e = .returned (.int .i64 (szv l (bulkL ds))) ∧ Below w.heap.size w w' := by
  obtain ⟨xa0, xc0, xs0, xx1_0, xx2_0, xx2_1, xx2_2, xx2_3, hA, rfl, ⟨ox0, mox0⟩⟩ := invC_Object h
  have hbk : bulkL (.sl xs0 :: (.int xx1_0 :: (.int xx2_0 :: (.int xx2_1 :: (.int xx2_2 :: (.int xx2_3 :: ([]))))))) = (xs0.length + bulkL xs0) := by simp only [bulkL_app, bulkL, Dt.bulk]; omega
  rw [hbk]
  obtain ⟨y1, q1⟩ : ∃ x, szv l (xs0.length + bulkL xs0) = x := ⟨_, rfl⟩
  have BA : Blk (w.alloc (.cells A 59)) w.heap.size A.toList := Blk.new w A 59 rfl
  have hW : Below w.heap.size w (w.alloc (.cells A 59)) := by go_grown
  rw [hA] at BA
  have HO := Lib.hid (ox0)
  have HA0 := Lib.hid BA
  have HW0 := Lib.hid hW
  by_cases c1 : y1 < 0
  · have u : y1 = -1 := by rw [← q1] at c1 ⊢; unfold szv at c1 ⊢; split at c1 <;> first | rfl | omega
    have HZ := Lib.hid (q1.trans u)
    clear u
    have ca0 : A[0]? = some (.slice xa0 xs0.length xc0) := by rw [← Array.getElem?_toList, hA]; rfl
    clear ox0 hA BA hW h hbk
    go_enter Try.func28, Try.ntmps28
    go_wp2_with fail
    ((with_reducible refine (sz_PointS _ ((HO.out).on HW0.out) mox0 l (by omega) (by omega)).mono ?_); rintro e w1 ⟨rfl, b1⟩)
    rw [q1]
    have HW1 := Lib.hid (on_of HW0.out b1)
    have HA1 := Lib.hid (HA0.out.keep b1)
    clear b1 ca0
    clear q1
    go_wp2
    go_ret
    exact ⟨ret_int HZ.out.symm, HW1.out⟩
  · have d1 : 0 ≤ y1 := by omega
    have e1 : y1 ≤ 1048576 := by have := szv_le (a := (xs0.length + bulkL xs0)) (show 0 ≤ l by omega); rw [q1] at this; omega
    have HZ := Lib.hid q1
    have ca0 : A[0]? = some (.slice xa0 xs0.length xc0) := by rw [← Array.getElem?_toList, hA]; rfl
    clear ox0 hA BA hW h hbk
    go_enter Try.func28, Try.ntmps28
    go_wp2_with fail
    ((with_reducible refine (sz_PointS _ ((HO.out).on HW0.out) mox0 l (by omega) (by omega)).mono ?_); rintro e w1 ⟨rfl, b1⟩)
    rw [q1]
    have HW1 := Lib.hid (on_of HW0.out b1)
    have HA1 := Lib.hid (HA0.out.keep b1)
    clear b1 ca0
    clear q1
    go_wp2
    go_ret
    exact ⟨ret_int HZ.out.symm, HW1.out⟩
end Go.Proofs.Ytejnfdpckipbeaa.Own
