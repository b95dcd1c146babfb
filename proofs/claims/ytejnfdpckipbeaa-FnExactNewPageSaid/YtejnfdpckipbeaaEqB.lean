/-
  The laws' helpers over values with slices inside slices, told of owned values.
-/
import Derived.Test.YtejnfdpckipbeaaEqA
import Derived.WalkKit
import Derived.Deep.DeepCutAuto
import Derived.Deep.QuietTactic
import Derived.BigQuiet
import Derived.Deep.RegionHeld3
import Derived.Handy
namespace Go.Proofs.Ytejnfdpckipbeaa.Own
open Go.ChangeShapes Go.WideShapes Go.ChangeAt Go.RowKit
open Kit Slabs Ints
set_option linter.unusedVariables false
set_option linter.unusedSimpArgs false
set_option linter.unnecessarySimpa false
set_option maxRecDepth 100000

attribute [local go_sem ↓] hload_Graphics
attribute [local go_sem ↓] hload_Object
set_option maxHeartbeats 4000000 in
theorem eq_GraphicsS (w : World) {a1 a2 : Option Addr} {n1 n2 p1 p2 : Nat} {es : List Dt} {f1 f2 : List Nat} (hb : es.length + bulkL es ≤ 1048576) (h1 : Own w (.sl KGraphics) [.slice a1 n1 p1] (.sl es) f1) (h2 : Own w (.sl KGraphics) [.slice a2 n2 p2] (.sl es) f2) :
    Calls Try.prog 68 #[.slice a1 n1 p1, .slice a2 n2 p2] w fun e w' => e = .returned (.bool true) ∧ Below w.heap.size w w' := by
  obtain ⟨e1, r1⟩ := h1.row
  obtain ⟨e2, r2⟩ := h2.row
  obtain ⟨n, hn⟩ : ∃ n, es.length = n := ⟨_, rfl⟩
  obtain rfl : n1 = n := e1.symm.trans hn
  obtain rfl : n2 = n1 := e2.symm.trans hn
  by_cases h0 : n2 = 0
  · subst h0
    clear h1 h2 r1 r2
    go_enter Try.func68, Try.ntmps68
    go_wp2
    go_loopw [5] (fun i wr => i = .int .i64 0 ∧ Below w.heap.size w wr) (fun _ _ => 0)
    case atStart => exact ⟨rfl, Below.refl _ _⟩
    case round =>
      obtain ⟨rfl, hbel⟩ := hrel
      go_wp2
      go_ret
      exact ⟨rfl, hbel⟩
  · obtain ⟨g1, rfl, _⟩ := r1 h0
    obtain ⟨g2, rfl, _⟩ := r2 h0
    have H := Lib.hid (And.intro h1 h2)
    have hn2 : n2 ≤ 1048576 := by omega
    have HN := Lib.hid (And.intro hn hb)
    clear h1 h2 r1 r2 e1 e2 hb hn
    go_enter Try.func68, Try.ntmps68
    go_wp2
    go_loopw [5] (fun i wr => ∃ k : Nat, k ≤ n2 ∧ i = .int .i64 (k : Int) ∧ Below w.heap.size w wr) (fun i _ => n2 - (intOf i).toNat)
    case atStart => exact ⟨0, Nat.zero_le _, rfl, Below.refl _ _⟩
    case round =>
      obtain ⟨k, hk, rfl, hbel⟩ := hrel
      by_cases hlt : k < n2
      · have hke : k < es.length := by rw [HN.out.1]; exact hlt
        obtain ⟨hg1, _, c1, d1, q1, ed1, o1, l1, _, s1⟩ := H.out.1.elt hke
        obtain ⟨hg2, _, c2, d2, q2, ed2, o2, l2, _, s2⟩ := H.out.2.elt hke
        rw [ed1] at ed2
        injection ed2 with ed2
        subst ed2
        have hbk := bulk_elt hke
        rw [ed1] at hbk
        have hbk2 : bulkL d1 ≤ 1048576 := by simp only [Dt.bulk] at hbk; have := HN.out.2; omega
        have L1 := Lib.hid (fun W hW => hload_run (P := Try.prog) (t := 47) Try.isAgg47 Try.sizeOf47 (w := W) (b := g1) (o := k * 11) (us := c1) (s1 W hW) l1)
        have L2 := Lib.hid (fun W hW => hload_run (P := Try.prog) (t := 47) Try.isAgg47 Try.sizeOf47 (w := W) (b := g2) (o := k * 11) (us := c2) (s2 W hW) l2)
        have HE := Lib.hid (And.intro o1 o2)
        have i0 : (0 : Int) ≤ (k : Int) := by omega
        have i1 : (k : Int) < (n2 : Int) := by omega
        obtain ⟨C1, hC1⟩ : ∃ C, c1.toArray = C := ⟨_, rfl⟩
        obtain ⟨C2, hC2⟩ : ∃ C, c2.toArray = C := ⟨_, rfl⟩
        rw [hC1] at L1
        rw [hC2] at L2
        have t1 : C1.toList = c1 := by rw [← hC1]
        have t2 : C2.toList = c2 := by rw [← hC2]
        rw [← t1, ← t2] at HE
        clear o1 o2 s1 s2 ed1 hbk l1 l2 hC1 hC2 t1 t2 hg1 hg2 hke
        go_wp2_with fail
        go_region_held3 (fun w' => (hload 47 ⟨g1, k * 11, none⟩).run Try.prog w' = .ok (.agg C1) w' ∧ (hload 47 ⟨g2, k * 11, none⟩).run Try.prog w' = .ok (.agg C2) w' ∧ Below w.heap.size w w') (first | exact ⟨L1.out _ hB, L2.out _ hB, hB⟩ | exact ⟨L1.out _ (by go_grown), L2.out _ (by go_grown), by go_grown⟩)
          ((go_at_call 67; (with_reducible refine (eq_Graphics _ hbk2 (HE.out.1.under (by go_grown)) (HE.out.2.under (by go_grown))).mono ?_); rintro e w' ⟨rfl, hb⟩; have hB := on_of (W := w) (by go_grown) hb))
        go_wp2
        go_roundw
        case rel => exact ⟨k + 1, by omega, by go_num, hB⟩
        case measure => simp [intOf]; omega
      · obtain rfl : k = n2 := by omega
        go_wp2
        go_ret
        exact ⟨rfl, hbel⟩
set_option maxHeartbeats 4000000 in
theorem eq_ObjectS (w : World) {a1 a2 : Option Addr} {n1 n2 p1 p2 : Nat} {es : List Dt} {f1 f2 : List Nat} (hb : es.length + bulkL es ≤ 1048576) (h1 : Own w (.sl KObject) [.slice a1 n1 p1] (.sl es) f1) (h2 : Own w (.sl KObject) [.slice a2 n2 p2] (.sl es) f2) :
    Calls Try.prog 69 #[.slice a1 n1 p1, .slice a2 n2 p2] w fun e w' => e = .returned (.bool true) ∧ Below w.heap.size w w' := by
  obtain ⟨e1, r1⟩ := h1.row
  obtain ⟨e2, r2⟩ := h2.row
  obtain ⟨n, hn⟩ : ∃ n, es.length = n := ⟨_, rfl⟩
  obtain rfl : n1 = n := e1.symm.trans hn
  obtain rfl : n2 = n1 := e2.symm.trans hn
  by_cases h0 : n2 = 0
  · subst h0
    clear h1 h2 r1 r2
    go_enter Try.func69, Try.ntmps69
    go_wp2
    go_loopw [5] (fun i wr => i = .int .i64 0 ∧ Below w.heap.size w wr) (fun _ _ => 0)
    case atStart => exact ⟨rfl, Below.refl _ _⟩
    case round =>
      obtain ⟨rfl, hbel⟩ := hrel
      go_wp2
      go_ret
      exact ⟨rfl, hbel⟩
  · obtain ⟨g1, rfl, _⟩ := r1 h0
    obtain ⟨g2, rfl, _⟩ := r2 h0
    have H := Lib.hid (And.intro h1 h2)
    have hn2 : n2 ≤ 1048576 := by omega
    have HN := Lib.hid (And.intro hn hb)
    clear h1 h2 r1 r2 e1 e2 hb hn
    go_enter Try.func69, Try.ntmps69
    go_wp2
    go_loopw [5] (fun i wr => ∃ k : Nat, k ≤ n2 ∧ i = .int .i64 (k : Int) ∧ Below w.heap.size w wr) (fun i _ => n2 - (intOf i).toNat)
    case atStart => exact ⟨0, Nat.zero_le _, rfl, Below.refl _ _⟩
    case round =>
      obtain ⟨k, hk, rfl, hbel⟩ := hrel
      by_cases hlt : k < n2
      · have hke : k < es.length := by rw [HN.out.1]; exact hlt
        obtain ⟨hg1, _, c1, d1, q1, ed1, o1, l1, _, s1⟩ := H.out.1.elt hke
        obtain ⟨hg2, _, c2, d2, q2, ed2, o2, l2, _, s2⟩ := H.out.2.elt hke
        rw [ed1] at ed2
        injection ed2 with ed2
        subst ed2
        have hbk := bulk_elt hke
        rw [ed1] at hbk
        have hbk2 : bulkL d1 ≤ 1048576 := by simp only [Dt.bulk] at hbk; have := HN.out.2; omega
        have L1 := Lib.hid (fun W hW => hload_run (P := Try.prog) (t := 28) Try.isAgg28 Try.sizeOf28 (w := W) (b := g1) (o := k * 6) (us := c1) (s1 W hW) l1)
        have L2 := Lib.hid (fun W hW => hload_run (P := Try.prog) (t := 28) Try.isAgg28 Try.sizeOf28 (w := W) (b := g2) (o := k * 6) (us := c2) (s2 W hW) l2)
        have HE := Lib.hid (And.intro o1 o2)
        have i0 : (0 : Int) ≤ (k : Int) := by omega
        have i1 : (k : Int) < (n2 : Int) := by omega
        obtain ⟨C1, hC1⟩ : ∃ C, c1.toArray = C := ⟨_, rfl⟩
        obtain ⟨C2, hC2⟩ : ∃ C, c2.toArray = C := ⟨_, rfl⟩
        rw [hC1] at L1
        rw [hC2] at L2
        have t1 : C1.toList = c1 := by rw [← hC1]
        have t2 : C2.toList = c2 := by rw [← hC2]
        rw [← t1, ← t2] at HE
        clear o1 o2 s1 s2 ed1 hbk l1 l2 hC1 hC2 t1 t2 hg1 hg2 hke
        go_wp2_with fail
        go_region_held3 (fun w' => (hload 28 ⟨g1, k * 6, none⟩).run Try.prog w' = .ok (.agg C1) w' ∧ (hload 28 ⟨g2, k * 6, none⟩).run Try.prog w' = .ok (.agg C2) w' ∧ Below w.heap.size w w') (first | exact ⟨L1.out _ hB, L2.out _ hB, hB⟩ | exact ⟨L1.out _ (by go_grown), L2.out _ (by go_grown), by go_grown⟩)
          ((go_at_call 31; (with_reducible refine (eq_Object _ hbk2 (HE.out.1.under (by go_grown)) (HE.out.2.under (by go_grown))).mono ?_); rintro e w' ⟨rfl, hb⟩; have hB := on_of (W := w) (by go_grown) hb))
        go_wp2
        go_roundw
        case rel => exact ⟨k + 1, by omega, by go_num, hB⟩
        case measure => simp [intOf]; omega
      · obtain rfl : k = n2 := by omega
        go_wp2
        go_ret
        exact ⟨rfl, hbel⟩
set_option maxHeartbeats 4000000 in
theorem eq_Page (w : World) {A B : Array Value} {ds : List Dt} {f1 f2 : List Nat} (hb : bulkL ds ≤ 1048576) (h1 : OwnL w LPage A.toList ds f1) (h2 : OwnL w LPage B.toList ds f2) :
    Calls Try.prog 25 #[.agg A, .agg B] w fun e w' => e = .returned (.bool true) ∧ Below w.heap.size w w' := by
  obtain ⟨xG0, xa11, xc11, xa12, xc12, xD0, xs11, xs12, xF0, xF11, xF12, hA, rfl, rfl, ox0, ox11, ox12⟩ := inv_Page h1
  have lxD0 := ox0.dlen
  obtain ⟨yG0, ya11, yc11, ya12, yc12, yF0, yF11, yF12, hB, rfl, oy0, oy11, oy12⟩ := inv_Page_ lxD0 h2
  simp only [bulkL_app, bulkL, Dt.bulk] at hb
  have nxG0 : xG0.length = 11 := ox0.len
  have nyG0 : yG0.length = 11 := oy0.len
  have BA : Blk ((w.alloc (.cells A 51)).alloc (.cells B 51)) w.heap.size A.toList := (Blk.new w A 51 rfl).alloc _
  have BB : Blk ((w.alloc (.cells A 51)).alloc (.cells B 51)) (w.heap.size + 1) B.toList := Blk.new _ B 51 (by simp)
  have hW : Below w.heap.size w ((w.alloc (.cells A 51)).alloc (.cells B 51)) := by go_grown
  rw [hA] at BA
  rw [hB] at BB
  have HO := Lib.hid (And.intro ox0 (And.intro ox11 (And.intro ox12 (And.intro oy0 (And.intro oy11 oy12)))))
  have HA0 := Lib.hid BA
  have HB0 := Lib.hid BB
  have HW0 := Lib.hid hW
  have ra := hload_run (P := Try.prog) (t := 47) Try.isAgg47 Try.sizeOf47 (w := (w.alloc (.cells A 51)).alloc (.cells B 51)) (b := w.heap.size) (o := 0) (us := xG0) (Blk.part (P := []) HA0.out rfl) nxG0
  have rb := hload_run (P := Try.prog) (t := 47) Try.isAgg47 Try.sizeOf47 (w := (w.alloc (.cells A 51)).alloc (.cells B 51)) (b := w.heap.size + 1) (o := 0) (us := yG0) (Blk.part (P := []) HB0.out rfl) nyG0
  clear ox0 ox11 ox12 oy0 oy11 oy12 hA hB BA BB hW h1 h2
  go_enter Try.func25, Try.ntmps25
  go_wp2_with fail
  ((with_reducible refine (eq_Graphics (ds := xD0) _ (by omega) (by simpa using (HO.out.1).under HW0.out) (by simpa using (HO.out.2.2.2.1).under HW0.out)).mono ?_); rintro e w1 ⟨rfl, b1⟩)
  have HW1 := Lib.hid (on_of HW0.out b1)
  have HA1 := Lib.hid (HA0.out.keep b1)
  have HB1 := Lib.hid (HB0.out.keep b1)
  clear b1  ra rb
  have ca11 := HA1.out.1 11 (.slice xa11 xs11.length xc11) (by simp [nxG0, nyG0])
  have cb11 := HB1.out.1 11 (.slice ya11 xs11.length yc11) (by simp [nxG0, nyG0])
  go_wp2_with fail
  ((with_reducible refine (eq_GraphicsS _ (by omega) ((HO.out.2.1).under HW1.out) ((HO.out.2.2.2.2.1).under HW1.out)).mono ?_); rintro e w2 ⟨rfl, b2⟩)
  have HW2 := Lib.hid (on_of HW1.out b2)
  have HA2 := Lib.hid (HA1.out.keep b2)
  have HB2 := Lib.hid (HB1.out.keep b2)
  clear b2 ca11 cb11
  have ca12 := HA2.out.1 12 (.slice xa12 xs12.length xc12) (by simp [nxG0, nyG0])
  have cb12 := HB2.out.1 12 (.slice ya12 xs12.length yc12) (by simp [nxG0, nyG0])
  go_wp2_with fail
  ((with_reducible refine (eq_ObjectS _ (by omega) ((HO.out.2.2.1).under HW2.out) ((HO.out.2.2.2.2.2).under HW2.out)).mono ?_); rintro e w3 ⟨rfl, b3⟩)
  have HW3 := Lib.hid (on_of HW2.out b3)
  have HA3 := Lib.hid (HA2.out.keep b3)
  have HB3 := Lib.hid (HB2.out.keep b3)
  clear b3 ca12 cb12
  go_wp2
  go_ret
  exact ⟨rfl, HW3.out⟩

end Go.Proofs.Ytejnfdpckipbeaa.Own
