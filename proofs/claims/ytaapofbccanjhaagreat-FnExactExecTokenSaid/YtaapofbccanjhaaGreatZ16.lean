/-
  Texts of this seat, laid together: EqB, SpD, SpH
-/
import Derived.WalkKit
import Derived.Deep.DeepCutAuto
import Derived.Deep.QuietTactic
import Derived.BigQuiet
import Derived.Deep.RegionHeld3
import Derived.Handy
import Derived.Test.YtaapofbccanjhaaGreatZ15
import Derived.Test.YtaapofbccanjhaaGreatZ19
namespace Go.Proofs.YtaapofbccanjhaaGreat.Own
open Go.ChangeShapes Go.WideShapes Go.ChangeAt Go.RowKit
open Kit Slabs Ints
set_option linter.unusedVariables false
set_option linter.unusedSimpArgs false
set_option linter.unnecessarySimpa false
set_option maxRecDepth 100000
attribute [local go_sem ↓] hload_Graphics
attribute [local go_sem ↓] hload_Object
set_option maxHeartbeats 4000000 in
theorem eq_GraphicsS (w : World) {a1 a2 : Option Addr} {n1 n2 p1 p2 : Nat} {es : List Dt} {f1 f2 : List Nat} (hb : es.length + bulkL es ≤ 1048576) (h1 : Own w (.sl KGraphics) [.slice a1 n1 p1] (.sl es) f1) (h2 : Own w (.sl KGraphics) [.slice a2 n2 p2] (.sl es) f2) :
    Calls Tryz.prog 41 #[.slice a1 n1 p1, .slice a2 n2 p2] w fun e w' => e = .returned (.bool true) ∧ Below w.heap.size w w' := by
  obtain ⟨e1, r1⟩ := h1.row
  obtain ⟨e2, r2⟩ := h2.row
  obtain ⟨n, hn⟩ : ∃ n, es.length = n := ⟨_, rfl⟩
  obtain rfl : n1 = n := e1.symm.trans hn
  obtain rfl : n2 = n1 := e2.symm.trans hn
  by_cases h0 : n2 = 0
  · subst h0
    clear h1 h2 r1 r2
    go_enter Tryz.func41, Tryz.ntmps41
    go_wp2
    go_loopw [5] (fun i wr => i = .int .i64 0 ∧ Below w.heap.size w wr) (fun _ _ => 0)
    case atStart => exact ⟨rfl, Below.refl _ _⟩
    case round =>
      obtain ⟨rfl, hbel⟩ := hrel
      go_wp2
      go_ret
      exact ⟨rfl, hbel⟩
  · obtain ⟨g1, rfl, _⟩ := r1 h0
    obtain ⟨g2, rfl, _⟩ := r2 h0
    have H := Lib.hid (And.intro h1 h2)
    have hn2 : n2 ≤ 1048576 := by omega
    have HN := Lib.hid (And.intro hn hb)
    clear h1 h2 r1 r2 e1 e2 hb hn
    go_enter Tryz.func41, Tryz.ntmps41
    go_wp2
    go_loopw [5] (fun i wr => ∃ k : Nat, k ≤ n2 ∧ i = .int .i64 (k : Int) ∧ Below w.heap.size w wr) (fun i _ => n2 - (intOf i).toNat)
    case atStart => exact ⟨0, Nat.zero_le _, rfl, Below.refl _ _⟩
    case round =>
      obtain ⟨k, hk, rfl, hbel⟩ := hrel
      by_cases hlt : k < n2
      · have hke : k < es.length := by rw [HN.out.1]; exact hlt
        obtain ⟨hg1, _, c1, d1, q1, ed1, o1, l1, _, s1⟩ := H.out.1.elt hke
        obtain ⟨hg2, _, c2, d2, q2, ed2, o2, l2, _, s2⟩ := H.out.2.elt hke
        rw [ed1] at ed2
        injection ed2 with ed2
        subst ed2
        have hbk := bulk_elt hke
        rw [ed1] at hbk
        have hbk2 : bulkL d1 ≤ 1048576 := by simp only [Dt.bulk] at hbk; have := HN.out.2; omega
        have L1 := Lib.hid (fun W hW => hload_run (P := Tryz.prog) (t := 42) Tryz.isAgg42 Tryz.sizeOf42 (w := W) (b := g1) (o := k * 11) (us := c1) (s1 W hW) l1)
        have L2 := Lib.hid (fun W hW => hload_run (P := Tryz.prog) (t := 42) Tryz.isAgg42 Tryz.sizeOf42 (w := W) (b := g2) (o := k * 11) (us := c2) (s2 W hW) l2)
        have HE := Lib.hid (And.intro o1 o2)
        have i0 : (0 : Int) ≤ (k : Int) := by omega
        have i1 : (k : Int) < (n2 : Int) := by omega
        obtain ⟨C1, hC1⟩ : ∃ C, c1.toArray = C := ⟨_, rfl⟩
        obtain ⟨C2, hC2⟩ : ∃ C, c2.toArray = C := ⟨_, rfl⟩
        rw [hC1] at L1
        rw [hC2] at L2
        have t1 : C1.toList = c1 := by rw [← hC1]
        have t2 : C2.toList = c2 := by rw [← hC2]
        rw [← t1, ← t2] at HE
        clear o1 o2 s1 s2 ed1 hbk l1 l2 hC1 hC2 t1 t2 hg1 hg2 hke
        go_wp2_with fail
        go_region_held3 (fun w' => (hload 42 ⟨g1, k * 11, none⟩).run Tryz.prog w' = .ok (.agg C1) w' ∧ (hload 42 ⟨g2, k * 11, none⟩).run Tryz.prog w' = .ok (.agg C2) w' ∧ Below w.heap.size w w') (first | exact ⟨L1.out _ hB, L2.out _ hB, hB⟩ | exact ⟨L1.out _ (by go_grown), L2.out _ (by go_grown), by go_grown⟩)
          ((go_at_call 40; (with_reducible refine (eq_Graphics _ hbk2 (HE.out.1.under (by go_grown)) (HE.out.2.under (by go_grown))).mono ?_); rintro e w' ⟨rfl, hb⟩; have hB := on_of (W := w) (by go_grown) hb))
        go_wp2
        go_roundw
        case rel => exact ⟨k + 1, by omega, by go_num, hB⟩
        case measure => simp [intOf]; omega
      · obtain rfl : k = n2 := by omega
        go_wp2
        go_ret
        exact ⟨rfl, hbel⟩
set_option maxHeartbeats 4000000 in
theorem eq_ObjectS (w : World) {a1 a2 : Option Addr} {n1 n2 p1 p2 : Nat} {es : List Dt} {f1 f2 : List Nat} (hb : es.length + bulkL es ≤ 1048576) (h1 : Own w (.sl KObject) [.slice a1 n1 p1] (.sl es) f1) (h2 : Own w (.sl KObject) [.slice a2 n2 p2] (.sl es) f2) :
    Calls Tryz.prog 42 #[.slice a1 n1 p1, .slice a2 n2 p2] w fun e w' => e = .returned (.bool true) ∧ Below w.heap.size w w' := by
  obtain ⟨e1, r1⟩ := h1.row
  obtain ⟨e2, r2⟩ := h2.row
  obtain ⟨n, hn⟩ : ∃ n, es.length = n := ⟨_, rfl⟩
  obtain rfl : n1 = n := e1.symm.trans hn
  obtain rfl : n2 = n1 := e2.symm.trans hn
  by_cases h0 : n2 = 0
  · subst h0
    clear h1 h2 r1 r2
    go_enter Tryz.func42, Tryz.ntmps42
    go_wp2
    go_loopw [5] (fun i wr => i = .int .i64 0 ∧ Below w.heap.size w wr) (fun _ _ => 0)
    case atStart => exact ⟨rfl, Below.refl _ _⟩
    case round =>
      obtain ⟨rfl, hbel⟩ := hrel
      go_wp2
      go_ret
      exact ⟨rfl, hbel⟩
  · obtain ⟨g1, rfl, _⟩ := r1 h0
    obtain ⟨g2, rfl, _⟩ := r2 h0
    have H := Lib.hid (And.intro h1 h2)
    have hn2 : n2 ≤ 1048576 := by omega
    have HN := Lib.hid (And.intro hn hb)
    clear h1 h2 r1 r2 e1 e2 hb hn
    go_enter Tryz.func42, Tryz.ntmps42
    go_wp2
    go_loopw [5] (fun i wr => ∃ k : Nat, k ≤ n2 ∧ i = .int .i64 (k : Int) ∧ Below w.heap.size w wr) (fun i _ => n2 - (intOf i).toNat)
    case atStart => exact ⟨0, Nat.zero_le _, rfl, Below.refl _ _⟩
    case round =>
      obtain ⟨k, hk, rfl, hbel⟩ := hrel
      by_cases hlt : k < n2
      · have hke : k < es.length := by rw [HN.out.1]; exact hlt
        obtain ⟨hg1, _, c1, d1, q1, ed1, o1, l1, _, s1⟩ := H.out.1.elt hke
        obtain ⟨hg2, _, c2, d2, q2, ed2, o2, l2, _, s2⟩ := H.out.2.elt hke
        rw [ed1] at ed2
        injection ed2 with ed2
        subst ed2
        have hbk := bulk_elt hke
        rw [ed1] at hbk
        have hbk2 : bulkL d1 ≤ 1048576 := by simp only [Dt.bulk] at hbk; have := HN.out.2; omega
        have L1 := Lib.hid (fun W hW => hload_run (P := Tryz.prog) (t := 101) Tryz.isAgg101 Tryz.sizeOf101 (w := W) (b := g1) (o := k * 6) (us := c1) (s1 W hW) l1)
        have L2 := Lib.hid (fun W hW => hload_run (P := Tryz.prog) (t := 101) Tryz.isAgg101 Tryz.sizeOf101 (w := W) (b := g2) (o := k * 6) (us := c2) (s2 W hW) l2)
        have HE := Lib.hid (And.intro o1 o2)
        have i0 : (0 : Int) ≤ (k : Int) := by omega
        have i1 : (k : Int) < (n2 : Int) := by omega
        obtain ⟨C1, hC1⟩ : ∃ C, c1.toArray = C := ⟨_, rfl⟩
        obtain ⟨C2, hC2⟩ : ∃ C, c2.toArray = C := ⟨_, rfl⟩
        rw [hC1] at L1
        rw [hC2] at L2
        have t1 : C1.toList = c1 := by rw [← hC1]
        have t2 : C2.toList = c2 := by rw [← hC2]
        rw [← t1, ← t2] at HE
        clear o1 o2 s1 s2 ed1 hbk l1 l2 hC1 hC2 t1 t2 hg1 hg2 hke
        go_wp2_with fail
        go_region_held3 (fun w' => (hload 101 ⟨g1, k * 6, none⟩).run Tryz.prog w' = .ok (.agg C1) w' ∧ (hload 101 ⟨g2, k * 6, none⟩).run Tryz.prog w' = .ok (.agg C2) w' ∧ Below w.heap.size w w') (first | exact ⟨L1.out _ hB, L2.out _ hB, hB⟩ | exact ⟨L1.out _ (by go_grown), L2.out _ (by go_grown), by go_grown⟩)
          ((go_at_call 94; (with_reducible refine (eq_Object _ hbk2 (HE.out.1.under (by go_grown)) (HE.out.2.under (by go_grown))).mono ?_); rintro e w' ⟨rfl, hb⟩; have hB := on_of (W := w) (by go_grown) hb))
        go_wp2
        go_roundw
        case rel => exact ⟨k + 1, by omega, by go_num, hB⟩
        case measure => simp [intOf]; omega
      · obtain rfl : k = n2 := by omega
        go_wp2
        go_ret
        exact ⟨rfl, hbel⟩
set_option maxHeartbeats 4000000 in
theorem eq_Page (w : World) {A B : Array Value} {ds : List Dt} {f1 f2 : List Nat} (hb : bulkL ds ≤ 1048576) (h1 : OwnL w LPage A.toList ds f1) (h2 : OwnL w LPage B.toList ds f2) :
    Calls Tryz.prog 11 #[.agg A, .agg B] w fun e w' => e = .returned (.bool true) ∧ Below w.heap.size w w' := by
  obtain ⟨xG0, xa11, xc11, xa12, xc12, xD0, xs11, xs12, xF0, xF11, xF12, hA, rfl, rfl, ox0, ox11, ox12⟩ := inv_Page h1
  have lxD0 := ox0.dlen
  obtain ⟨yG0, ya11, yc11, ya12, yc12, yF0, yF11, yF12, hB, rfl, oy0, oy11, oy12⟩ := inv_Page_ lxD0 h2
  simp only [bulkL_app, bulkL, Dt.bulk] at hb
  have nxG0 : xG0.length = 11 := ox0.len
  have nyG0 : yG0.length = 11 := oy0.len
  have BA : Blk ((w.alloc (.cells A 46)).alloc (.cells B 46)) w.heap.size A.toList := (Blk.new w A 46 rfl).alloc _
  have BB : Blk ((w.alloc (.cells A 46)).alloc (.cells B 46)) (w.heap.size + 1) B.toList := Blk.new _ B 46 (by simp)
  have hW : Below w.heap.size w ((w.alloc (.cells A 46)).alloc (.cells B 46)) := by go_grown
  rw [hA] at BA
  rw [hB] at BB
  have HO := Lib.hid (And.intro ox0 (And.intro ox11 (And.intro ox12 (And.intro oy0 (And.intro oy11 oy12)))))
  have HA0 := Lib.hid BA
  have HB0 := Lib.hid BB
  have HW0 := Lib.hid hW
  have ra := hload_run (P := Tryz.prog) (t := 42) Tryz.isAgg42 Tryz.sizeOf42 (w := (w.alloc (.cells A 46)).alloc (.cells B 46)) (b := w.heap.size) (o := 0) (us := xG0) (Blk.part (P := []) HA0.out rfl) nxG0
  have rb := hload_run (P := Tryz.prog) (t := 42) Tryz.isAgg42 Tryz.sizeOf42 (w := (w.alloc (.cells A 46)).alloc (.cells B 46)) (b := w.heap.size + 1) (o := 0) (us := yG0) (Blk.part (P := []) HB0.out rfl) nyG0
  clear ox0 ox11 ox12 oy0 oy11 oy12 hA hB BA BB hW h1 h2
  go_enter Tryz.func11, Tryz.ntmps11
  go_wp2_with fail
  ((with_reducible refine (eq_Graphics (ds := xD0) _ (by omega) (by simpa using (HO.out.1).under HW0.out) (by simpa using (HO.out.2.2.2.1).under HW0.out)).mono ?_); rintro e w1 ⟨rfl, b1⟩)
  have HW1 := Lib.hid (on_of HW0.out b1)
  have HA1 := Lib.hid (HA0.out.keep b1)
  have HB1 := Lib.hid (HB0.out.keep b1)
  clear b1  ra rb
  have ca11 := HA1.out.1 11 (.slice xa11 xs11.length xc11) (by simp [nxG0, nyG0])
  have cb11 := HB1.out.1 11 (.slice ya11 xs11.length yc11) (by simp [nxG0, nyG0])
  go_wp2_with fail
  ((with_reducible refine (eq_GraphicsS _ (by omega) ((HO.out.2.1).under HW1.out) ((HO.out.2.2.2.2.1).under HW1.out)).mono ?_); rintro e w2 ⟨rfl, b2⟩)
  have HW2 := Lib.hid (on_of HW1.out b2)
  have HA2 := Lib.hid (HA1.out.keep b2)
  have HB2 := Lib.hid (HB1.out.keep b2)
  clear b2 ca11 cb11
  have ca12 := HA2.out.1 12 (.slice xa12 xs12.length xc12) (by simp [nxG0, nyG0])
  have cb12 := HB2.out.1 12 (.slice ya12 xs12.length yc12) (by simp [nxG0, nyG0])
  go_wp2_with fail
  ((with_reducible refine (eq_ObjectS _ (by omega) ((HO.out.2.2.1).under HW2.out) ((HO.out.2.2.2.2.2).under HW2.out)).mono ?_); rintro e w3 ⟨rfl, b3⟩)
  have HW3 := Lib.hid (on_of HW2.out b3)
  have HA3 := Lib.hid (HA2.out.keep b3)
  have HB3 := Lib.hid (HB2.out.keep b3)
  clear b3 ca12 cb12
  go_wp2
  go_ret
  exact ⟨rfl, HW3.out⟩
end Go.Proofs.YtaapofbccanjhaaGreat.Own
namespace Go.Proofs.YtaapofbccanjhaaGreat.Own
open Go.ChangeShapes Go.WideShapes Go.ChangeAt Go.RowKit
open Kit Slabs Ints Stack Point Turn Join Pts Box Push Take Opn SOp
set_option linter.unusedVariables false
set_option linter.unusedSimpArgs false
set_option linter.unnecessarySimpa false
set_option maxRecDepth 100000
attribute [local go_sem ↓] hload_Graphics hload_Object hstore_Graphics hstore_Object hload_Page hstore_Page
theorem far_off {w : World} {X o p : Nat} {v : Value} (h : o ≠ p) : (w.setCell ⟨X, p, none⟩ v).cell? ⟨X, o, none⟩ = w.cell? ⟨X, o, none⟩ := by
  apply World.cell?_setCell_other
  intro e
  apply h
  injection e with _ e _
  exact e.symm
set_option maxHeartbeats 4000000 in
theorem sp_line {w : World} {B X : Nat} {P : Pg} (h : PgAt w B X P) (hB : B ≤ w.heap.size) (hX : B ≤ X) (hl : P.now.path.length ≤ 8) (ht : tokB P.now.q P.now.s P.now.dx P.now.dy = true) (s : ByteArray) (hk : opN s = some 2) (g2 c2 : Nat) (x y : Int) (hg : g2 < w.heap.size) (hgX : g2 ≠ X) (hap : ∀ v, w.cell? ⟨X, 5, none⟩ = some v → g2 ∉ rowL v) (hx : w.cell? ⟨g2, 0, none⟩ = some (.int .i64 x)) (hy : w.cell? ⟨g2, 1, none⟩ = some (.int .i64 y)) (bx : -9999 ≤ x ∧ x ≤ 9999) (bY : -9999 ≤ y ∧ y ≤ 9999) :
    Calls Tryz.prog 31 #[.pointer (some ⟨X, 0, none⟩), .string s, .slice (some ⟨g2, 0, none⟩) 2 c2] w (OpRes B X (if P.now.path.length = 0 then none else some (linM P x y)) w) := by
  obtain ⟨a0, c0, f0, a5, c5, P5, a11, c11, P11, f11, a12, c12, P12, f12, h⟩ := h.flat
  obtain ⟨q0, q1, q2, q3, q4, q5, q6, q7, q8, q9, q10, q11⟩ := nm12 hk
  have hXl := h.blk.2.2
  obtain ⟨n, hN⟩ : ∃ n, P.now.path.length = n := ⟨_, rfl⟩
  rw [hN] at hl ⊢
  have HK := Lib.hid (fun (W : World) (hb : Below w.heap.size w W) => (show (W.cell? ⟨X, 1, none⟩ = some (.int .i64 P.now.q) ∧ W.cell? ⟨X, 2, none⟩ = some (.int .i64 P.now.s) ∧ W.cell? ⟨X, 3, none⟩ = some (.int .i64 P.now.dx) ∧ W.cell? ⟨X, 4, none⟩ = some (.int .i64 P.now.dy)) ∧ W.cell? ⟨X, 5, none⟩ = some (.slice a5 n c5) ∧ ∀ o, W.frozen? ⟨X, o, none⟩ = false from by
    have k := h.blk.keep hb
    rw [← hN]
    exact ⟨⟨k.1 1 _ rfl, k.1 2 _ rfl, k.1 3 _ rfl, k.1 4 _ rfl⟩, k.1 5 _ rfl, k.2.1⟩))
  obtain ⟨⟨t1, t2, t3, t4⟩, k5, fz⟩ := HK.out w (Below.refl _ _)
  by_cases h0 : n = 0
  · subst h0
    have HN : Hid (OpRes B X none w (.returned (.bool false)) w) := Lib.hid ⟨rfl, (Below.refl _ _).mono hB, fun P' hP => by cases hP⟩
    clear h hk ht hN
    go_enter Tryz.func31, Tryz.ntmps31
    go_wp2
    go_ret
    exact HN.out
  · rw [if_neg h0]
    have n0 : ((n : Int) == 0) = false := by simp; omega
    have HR5 := Lib.hid (fun (W : World) (hb : Below w.heap.size w W) => (show W.ownsRow B 109 2 (.slice a5 n c5) n P5 from by rw [← hN]; exact row_on h.r5 hb))
    have HF := Lib.hid (fun (w5 w7 : World) (b5 : Below w.heap.size w w5) (a2 : Option Addr) (d2 : Nat) (r7 : w7.ownsRow B 109 2 (.slice a2 (n + 1) d2) (n + 1) (P5 ++ [.int .i64 (imX P.now.q P.now.s P.now.dx x y), .int .i64 (imY P.now.q P.now.s P.now.dy x y)])) (gr : w5.grownBy w7 (Value.ownBlock (.slice a5 n c5))) (sub : ∀ b ∈ rowL (.slice a2 (n + 1) d2), b ∈ rowL (.slice a5 n c5) ∨ w5.heap.size ≤ b) => h.line hB hX b5 (imP P.now x y) hN r7 gr sub)
    have HC := Lib.hid (fun (W : World) => image_spec_big P.now.q P.now.s P.now.dx P.now.dy x y W ht (by omega) (by omega))
    have hg5 := hap _ k5
    have HS9 := Lib.hid (fun (W : World) (hb : Below w.heap.size w W) => (show (W.cell? ⟨X, 1, none⟩ = some (.int .i64 P.now.q) ∧ W.cell? ⟨X, 2, none⟩ = some (.int .i64 P.now.s) ∧ W.cell? ⟨X, 3, none⟩ = some (.int .i64 P.now.dx) ∧ W.cell? ⟨X, 4, none⟩ = some (.int .i64 P.now.dy)) ∧ W.cell? ⟨g2, 0, none⟩ = some (.int .i64 x) ∧ W.cell? ⟨g2, 1, none⟩ = some (.int .i64 y) from ⟨(HK.out W hb).1, (cell_on hb hg).trans hx, (cell_on hb hg).trans hy⟩))
    have H7 := Lib.hid (fun (w5 w7 : World) (b5 : Below w.heap.size w w5) (gr : w5.grownBy w7 (Value.ownBlock (.slice a5 n c5))) => (show ((w7.cell? ⟨X, 1, none⟩ = some (.int .i64 P.now.q) ∧ w7.cell? ⟨X, 2, none⟩ = some (.int .i64 P.now.s) ∧ w7.cell? ⟨X, 3, none⟩ = some (.int .i64 P.now.dx) ∧ w7.cell? ⟨X, 4, none⟩ = some (.int .i64 P.now.dy)) ∧ w7.cell? ⟨g2, 0, none⟩ = some (.int .i64 x) ∧ w7.cell? ⟨g2, 1, none⟩ = some (.int .i64 y)) from by
      have b := HS9.out w5 b5
      have hl5 : g2 < w5.heap.size := by have := b5.size; omega
      have hn : Value.ownBlock (.slice a5 n c5) ≠ some g2 := fun e => hg5 (by simp [rowL, e])
      have hm : Value.ownBlock (.slice a5 n c5) ≠ some X := fun e => (h.apart.2.1) (by rw [hN]; simp [rowL, e])
      exact ⟨⟨gr.cell b.1.1 (fun e => hm e.symm), gr.cell b.1.2.1 (fun e => hm e.symm), gr.cell b.1.2.2.1 (fun e => hm e.symm), gr.cell b.1.2.2.2 (fun e => hm e.symm)⟩, gr.cell b.2.1 (fun e => hn e.symm), gr.cell b.2.2 (fun e => hn e.symm)⟩))
    clear h hk ht hN h0 hap hg5 hx hy
    go_enter Tryz.func31, Tryz.ntmps31
    go_upto_region 10 with (fail)
    refine wp_region_held_drew (S := fun W => (W.cell? ⟨X, 1, none⟩ = some (.int .i64 P.now.q) ∧ W.cell? ⟨X, 2, none⟩ = some (.int .i64 P.now.s) ∧ W.cell? ⟨X, 3, none⟩ = some (.int .i64 P.now.dx) ∧ W.cell? ⟨X, 4, none⟩ = some (.int .i64 P.now.dy)) ∧ W.cell? ⟨g2, 0, none⟩ = some (.int .i64 x) ∧ W.cell? ⟨g2, 1, none⟩ = some (.int .i64 y)) (by kernel_rfl) (HS9.out _ (by go_grown)) (fun hHeld => ?_)
    refine wpAnyH_take (i := 0) (oi := _) (v := ?_) rfl (by kernel_rfl) (by kernel_rfl) (by kernel_rfl) (fun _ _ _ h => h) (Or.inl ⟨by rfl, ?_⟩) (by assumption) ?_
    rotate_left
    · (intro w hSw; (try dsimp only at hSw); go_simp; try with_reducible rfl)
    try simp only [Act.put, List.setIfInBounds_toArray, List.set_cons_zero, List.set_cons_succ]
    refine wpAnyH_take (i := 1) (oi := _) (v := ?_) rfl (by kernel_rfl) (by kernel_rfl) (by kernel_rfl) (fun _ _ _ h => h) (Or.inl ⟨by rfl, ?_⟩) (by assumption) ?_
    rotate_left
    · (intro w hSw; (try dsimp only at hSw); go_simp; try with_reducible rfl)
    try simp only [Act.put, List.setIfInBounds_toArray, List.set_cons_zero, List.set_cons_succ]
    refine wpAnyH_take (i := 2) (oi := _) (v := ?_) rfl (by kernel_rfl) (by kernel_rfl) (by kernel_rfl) (fun _ _ _ h => h) (Or.inl ⟨by rfl, ?_⟩) (by assumption) ?_
    rotate_left
    · (intro w hSw; (try dsimp only at hSw); go_simp; try with_reducible rfl)
    try simp only [Act.put, List.setIfInBounds_toArray, List.set_cons_zero, List.set_cons_succ]
    refine wpAnyH_take (i := 3) (oi := _) (v := ?_) rfl (by kernel_rfl) (by kernel_rfl) (by kernel_rfl) (fun _ _ _ h => h) (Or.inl ⟨by rfl, ?_⟩) (by assumption) ?_
    rotate_left
    · (intro w hSw; (try dsimp only at hSw); go_simp; try with_reducible rfl)
    try simp only [Act.put, List.setIfInBounds_toArray, List.set_cons_zero, List.set_cons_succ]
    refine wpAnyH_take (i := 5) (oi := _) (v := ?_) rfl (by kernel_rfl) (by kernel_rfl) (by kernel_rfl) (fun _ _ _ h => h) (Or.inl ⟨by rfl, ?_⟩) (by assumption) ?_
    rotate_left
    · (intro w hSw; (try dsimp only at hSw); go_simp; try with_reducible rfl)
    try simp only [Act.put, List.setIfInBounds_toArray, List.set_cons_zero, List.set_cons_succ]
    refine wpAnyH_take (i := 6) (oi := _) (v := ?_) rfl (by kernel_rfl) (by kernel_rfl) (by kernel_rfl) (fun _ _ _ h => h) (Or.inl ⟨by rfl, ?_⟩) (by assumption) ?_
    rotate_left
    · (intro w hSw; (try dsimp only at hSw); go_simp; try with_reducible rfl)
    try simp only [Act.put, List.setIfInBounds_toArray, List.set_cons_zero, List.set_cons_succ]
    refine wpAnyH_take (i := 7) (oi := _) (v := ?_) rfl (by kernel_rfl) (by kernel_rfl) (by kernel_rfl) (fun _ _ _ h => h) (Or.inl ⟨by rfl, ?_⟩) (by assumption) ?_
    rotate_left
    · (intro w hSw; (try dsimp only at hSw); go_simp; try with_reducible rfl)
    try simp only [Act.put, List.setIfInBounds_toArray, List.set_cons_zero, List.set_cons_succ]
    refine wpAnyH_take (i := 8) (oi := _) (v := ?_) rfl (by kernel_rfl) (by kernel_rfl) (by kernel_rfl) (fun _ _ _ h => h) (Or.inl ⟨by rfl, ?_⟩) (by assumption) ?_
    rotate_left
    · (intro w hSw; (try dsimp only at hSw); go_simp; try with_reducible rfl)
    try simp only [Act.put, List.setIfInBounds_toArray, List.set_cons_zero, List.set_cons_succ]
    refine wpAnyH_take (i := 9) (oi := _) (v := ?_) rfl (by kernel_rfl) (by kernel_rfl) (by kernel_rfl) (fun _ _ _ h => h) (Or.inl ⟨by rfl, ?_⟩) (by assumption) ?_
    rotate_left
    · (intro w hSw; (try dsimp only at hSw); go_simp; try with_reducible rfl)
    try simp only [Act.put, List.setIfInBounds_toArray, List.set_cons_zero, List.set_cons_succ]
    refine wpAnyH_take (i := 10) (oi := _) (v := ?_) rfl (by kernel_rfl) (by kernel_rfl) (by kernel_rfl) (fun _ _ _ h => h) (Or.inl ⟨by rfl, ?_⟩) (by assumption) ?_
    rotate_left
    · (intro w hSw; (try dsimp only at hSw); go_simp; try with_reducible rfl)
    try simp only [Act.put, List.setIfInBounds_toArray, List.set_cons_zero, List.set_cons_succ]
    refine wpAnyH_take (i := 11) (oi := _) (v := ?_) rfl (by kernel_rfl) (by kernel_rfl) (by kernel_rfl) (fun _ _ _ h => h) (Or.inl ⟨by rfl, ?_⟩) (by assumption) ?_
    rotate_left
    · (intro w hSw; (try dsimp only at hSw); go_simp; try with_reducible rfl)
    try simp only [Act.put, List.setIfInBounds_toArray, List.set_cons_zero, List.set_cons_succ]
    refine wpAnyH_take (i := 12) (oi := _) (v := ?_) rfl (by kernel_rfl) (by kernel_rfl) (by kernel_rfl) (fun _ _ _ h => h) (Or.inl ⟨by rfl, ?_⟩) (by assumption) ?_
    rotate_left
    · (intro w hSw; (try dsimp only at hSw); go_simp; try with_reducible rfl)
    try simp only [Act.put, List.setIfInBounds_toArray, List.set_cons_zero, List.set_cons_succ]
    refine wpAnyH_take (i := 13) (oi := _) (v := ?_) rfl (by kernel_rfl) (by kernel_rfl) (by kernel_rfl) (fun _ _ _ h => h) (Or.inl ⟨by rfl, ?_⟩) (by assumption) ?_
    rotate_left
    · (intro w hSw; (try dsimp only at hSw); go_simp; try with_reducible rfl)
    try simp only [Act.put, List.setIfInBounds_toArray, List.set_cons_zero, List.set_cons_succ]
    refine wpAnyH_take (i := 14) (oi := _) (v := ?_) rfl (by kernel_rfl) (by kernel_rfl) (by kernel_rfl) (fun _ _ _ h => h) (Or.inl ⟨by rfl, ?_⟩) (by assumption) ?_
    rotate_left
    · (intro w hSw; (try dsimp only at hSw); go_simp; try with_reducible rfl)
    try simp only [Act.put, List.setIfInBounds_toArray, List.set_cons_zero, List.set_cons_succ]
    refine wpAnyH_take (i := 15) (oi := _) (v := ?_) rfl (by kernel_rfl) (by kernel_rfl) (by kernel_rfl) (fun _ _ _ h => h) (Or.inl ⟨by rfl, ?_⟩) (by assumption) ?_
    rotate_left
    · (intro w hSw; (try dsimp only at hSw); go_simp; try with_reducible rfl)
    try simp only [Act.put, List.setIfInBounds_toArray, List.set_cons_zero, List.set_cons_succ]
    refine wpAnyH_ready (rs := [4, 16]) (by kernel_rfl) (by simp) ?_
    refine AllReadyH.cons (o := _) rfl (fun KK hKK => ?_) ?_
    · go_simp
      try go_wp2_with fail
      refine hKK.out _ _ ?_ (fun hHeld2 => ?_)
      · (try dsimp only); first | exact HS7b.out | exact HS7.out | exact HS9.out _ H5.out | exact HS9.out _ (H5.out.alloc H5.out.size _) | (refine HS9.out _ ?_; go_grown; done)
      refine wpAnyH_ready (rs := [16]) (by kernel_rfl) (by simp) ?_
      refine AllReadyH.cons (o := _) rfl (fun KK hKK => ?_) AllReadyH.nil
      (go_simp; go_at_call 66; (with_reducible refine (HC.out _).mono ?_); rintro e w5 ⟨rfl, b5⟩; have b5 := on_of (show Below w.heap.size w _ from by go_grown) b5; obtain ⟨_, j5, fj⟩ := HK.out w5 b5; have lX := (show X < w5.heap.size from by have := b5.size; omega); have z5 := b5.size; have H5 := Lib.hid b5; clear b5)
      try go_wp2_with fail
      refine hKK.out _ _ ?_ (fun hHeld2 => ?_)
      · (try dsimp only); first | exact HS7b.out | exact HS7.out | exact HS9.out _ H5.out | exact HS9.out _ (H5.out.alloc H5.out.size _) | (refine HS9.out _ ?_; go_grown; done)
      refine wpAnyH_ready (rs := [17]) (by kernel_rfl) (by simp) ?_
      refine AllReadyH.cons (o := _) rfl (fun KK hKK => ?_) AllReadyH.nil
      go_simp
      try go_wp2_with fail
      refine hKK.out _ _ ?_ (fun hHeld2 => ?_)
      · (try dsimp only); first | exact HS7b.out | exact HS7.out | exact HS9.out _ H5.out | exact HS9.out _ (H5.out.alloc H5.out.size _) | (refine HS9.out _ ?_; go_grown; done)
      refine wpAnyH_ready (rs := [18]) (by kernel_rfl) (by simp) ?_
      refine AllReadyH.cons (o := _) rfl (fun KK hKK => ?_) AllReadyH.nil
      (refine step_append_sl et_pts rfl _ _ rfl B a5 n c5 P5 (by rfl) (HR5.out _ (H5.out.alloc H5.out.size _)) (some ⟨w5.heap.size, 0, none⟩) 1 1 [.int .i64 (imX P.now.q P.now.s P.now.dx x y), .int .i64 (imY P.now.q P.now.s P.now.dy x y)] (by rfl) (by rfl) (Lies.new w5 _ _ rfl) (by simp [Value.oneCell']) (by unfold maxLen; omega) (by omega) (by simp; omega) ?_; intro a2 d2 w7 r7 gr7 sub7; have hh := HF.out _ w7 (H5.out.alloc H5.out.size _) a2 d2 r7 gr7 sub7; obtain ⟨⟨k7, f7⟩, hr⟩ := hh; have HR := Lib.hid hr; have HS7 := Lib.hid (H7.out _ w7 (H5.out.alloc H5.out.size _) gr7); have HS7b := Lib.hid (And.intro (show _ ∧ _ ∧ _ ∧ _ from ⟨(far_off (o := 1) (p := 5) (v := .slice a2 (n + 1) d2) (by decide)).trans HS7.out.1.1, (far_off (o := 2) (p := 5) (v := .slice a2 (n + 1) d2) (by decide)).trans HS7.out.1.2.1, (far_off (o := 3) (p := 5) (v := .slice a2 (n + 1) d2) (by decide)).trans HS7.out.1.2.2.1, (far_off (o := 4) (p := 5) (v := .slice a2 (n + 1) d2) (by decide)).trans HS7.out.1.2.2.2⟩) (And.intro ((set_ne2 (v := .slice a2 (n + 1) d2) (o := 5) hgX).trans HS7.out.2.1) ((set_ne2 (v := .slice a2 (n + 1) d2) (o := 5) hgX).trans HS7.out.2.2))); clear hr r7 gr7 sub7)
      try go_wp2_with fail
      refine hKK.out _ _ ?_ (fun hHeld2 => ?_)
      · (try dsimp only); first | exact HS7b.out | exact HS7.out | exact HS9.out _ H5.out | exact HS9.out _ (H5.out.alloc H5.out.size _) | (refine HS9.out _ ?_; go_grown; done)
      refine wpAnyH_take (i := 19) (oi := _) (v := ?_) rfl (by kernel_rfl) (by kernel_rfl) (by kernel_rfl) (fun _ _ _ h => h) (Or.inl ⟨by rfl, ?_⟩) (by assumption) ?_
      rotate_left
      · (intro w hSw; (try dsimp only at hSw); go_simp; try with_reducible rfl)
      try simp only [Act.put, List.setIfInBounds_toArray, List.set_cons_zero, List.set_cons_succ]
      refine wpAnyH_take (i := 20) (oi := _) (v := ?_) rfl (by kernel_rfl) (by kernel_rfl) (by kernel_rfl) (fun _ _ _ h => h) (Or.inl ⟨by rfl, ?_⟩) (by assumption) ?_
      rotate_left
      · (intro w hSw; (try dsimp only at hSw); go_simp; try with_reducible rfl)
      try simp only [Act.put, List.setIfInBounds_toArray, List.set_cons_zero, List.set_cons_succ]
      refine wpAnyH_ready (rs := [21]) (by kernel_rfl) (by simp) ?_
      refine AllReadyH.cons (o := _) rfl (fun KK hKK => ?_) AllReadyH.nil
      go_simp
      try go_wp2_with fail
      refine hKK.out _ _ ?_ (fun hHeld2 => ?_)
      · (try dsimp only); first | exact HS7b.out | exact HS7.out | exact HS9.out _ H5.out | exact HS9.out _ (H5.out.alloc H5.out.size _) | (refine HS9.out _ ?_; go_grown; done)
      refine wpAnyH_done (by kernel_rfl) ?_ _
      go_wp2_with fail
      go_wp2
      go_ret
      exact HR.out
    refine AllReadyH.cons (o := _) rfl (fun KK hKK => ?_) AllReadyH.nil
    (go_simp; go_at_call 66; (with_reducible refine (HC.out _).mono ?_); rintro e w5 ⟨rfl, b5⟩; have b5 := on_of (show Below w.heap.size w _ from by go_grown) b5; obtain ⟨_, j5, fj⟩ := HK.out w5 b5; have lX := (show X < w5.heap.size from by have := b5.size; omega); have z5 := b5.size; have H5 := Lib.hid b5; clear b5)
    try go_wp2_with fail
    refine hKK.out _ _ ?_ (fun hHeld2 => ?_)
    · (try dsimp only); first | exact HS7b.out | exact HS7.out | exact HS9.out _ H5.out | exact HS9.out _ (H5.out.alloc H5.out.size _) | (refine HS9.out _ ?_; go_grown; done)
    refine wpAnyH_ready (rs := [4, 17]) (by kernel_rfl) (by simp) ?_
    refine AllReadyH.cons (o := _) rfl (fun KK hKK => ?_) ?_
    · go_simp
      try go_wp2_with fail
      refine hKK.out _ _ ?_ (fun hHeld2 => ?_)
      · (try dsimp only); first | exact HS7b.out | exact HS7.out | exact HS9.out _ H5.out | exact HS9.out _ (H5.out.alloc H5.out.size _) | (refine HS9.out _ ?_; go_grown; done)
      refine wpAnyH_ready (rs := [17]) (by kernel_rfl) (by simp) ?_
      refine AllReadyH.cons (o := _) rfl (fun KK hKK => ?_) AllReadyH.nil
      go_simp
      try go_wp2_with fail
      refine hKK.out _ _ ?_ (fun hHeld2 => ?_)
      · (try dsimp only); first | exact HS7b.out | exact HS7.out | exact HS9.out _ H5.out | exact HS9.out _ (H5.out.alloc H5.out.size _) | (refine HS9.out _ ?_; go_grown; done)
      refine wpAnyH_ready (rs := [18]) (by kernel_rfl) (by simp) ?_
      refine AllReadyH.cons (o := _) rfl (fun KK hKK => ?_) AllReadyH.nil
      (refine step_append_sl et_pts rfl _ _ rfl B a5 n c5 P5 (by rfl) (HR5.out _ (H5.out.alloc H5.out.size _)) (some ⟨w5.heap.size, 0, none⟩) 1 1 [.int .i64 (imX P.now.q P.now.s P.now.dx x y), .int .i64 (imY P.now.q P.now.s P.now.dy x y)] (by rfl) (by rfl) (Lies.new w5 _ _ rfl) (by simp [Value.oneCell']) (by unfold maxLen; omega) (by omega) (by simp; omega) ?_; intro a2 d2 w7 r7 gr7 sub7; have hh := HF.out _ w7 (H5.out.alloc H5.out.size _) a2 d2 r7 gr7 sub7; obtain ⟨⟨k7, f7⟩, hr⟩ := hh; have HR := Lib.hid hr; have HS7 := Lib.hid (H7.out _ w7 (H5.out.alloc H5.out.size _) gr7); have HS7b := Lib.hid (And.intro (show _ ∧ _ ∧ _ ∧ _ from ⟨(far_off (o := 1) (p := 5) (v := .slice a2 (n + 1) d2) (by decide)).trans HS7.out.1.1, (far_off (o := 2) (p := 5) (v := .slice a2 (n + 1) d2) (by decide)).trans HS7.out.1.2.1, (far_off (o := 3) (p := 5) (v := .slice a2 (n + 1) d2) (by decide)).trans HS7.out.1.2.2.1, (far_off (o := 4) (p := 5) (v := .slice a2 (n + 1) d2) (by decide)).trans HS7.out.1.2.2.2⟩) (And.intro ((set_ne2 (v := .slice a2 (n + 1) d2) (o := 5) hgX).trans HS7.out.2.1) ((set_ne2 (v := .slice a2 (n + 1) d2) (o := 5) hgX).trans HS7.out.2.2))); clear hr r7 gr7 sub7)
      try go_wp2_with fail
      refine hKK.out _ _ ?_ (fun hHeld2 => ?_)
      · (try dsimp only); first | exact HS7b.out | exact HS7.out | exact HS9.out _ H5.out | exact HS9.out _ (H5.out.alloc H5.out.size _) | (refine HS9.out _ ?_; go_grown; done)
      refine wpAnyH_take (i := 19) (oi := _) (v := ?_) rfl (by kernel_rfl) (by kernel_rfl) (by kernel_rfl) (fun _ _ _ h => h) (Or.inl ⟨by rfl, ?_⟩) (by assumption) ?_
      rotate_left
      · (intro w hSw; (try dsimp only at hSw); go_simp; try with_reducible rfl)
      try simp only [Act.put, List.setIfInBounds_toArray, List.set_cons_zero, List.set_cons_succ]
      refine wpAnyH_take (i := 20) (oi := _) (v := ?_) rfl (by kernel_rfl) (by kernel_rfl) (by kernel_rfl) (fun _ _ _ h => h) (Or.inl ⟨by rfl, ?_⟩) (by assumption) ?_
      rotate_left
      · (intro w hSw; (try dsimp only at hSw); go_simp; try with_reducible rfl)
      try simp only [Act.put, List.setIfInBounds_toArray, List.set_cons_zero, List.set_cons_succ]
      refine wpAnyH_ready (rs := [21]) (by kernel_rfl) (by simp) ?_
      refine AllReadyH.cons (o := _) rfl (fun KK hKK => ?_) AllReadyH.nil
      go_simp
      try go_wp2_with fail
      refine hKK.out _ _ ?_ (fun hHeld2 => ?_)
      · (try dsimp only); first | exact HS7b.out | exact HS7.out | exact HS9.out _ H5.out | exact HS9.out _ (H5.out.alloc H5.out.size _) | (refine HS9.out _ ?_; go_grown; done)
      refine wpAnyH_done (by kernel_rfl) ?_ _
      go_wp2_with fail
      go_wp2
      go_ret
      exact HR.out
    refine AllReadyH.cons (o := _) rfl (fun KK hKK => ?_) AllReadyH.nil
    go_simp
    try go_wp2_with fail
    refine hKK.out _ _ ?_ (fun hHeld2 => ?_)
    · (try dsimp only); first | exact HS7b.out | exact HS7.out | exact HS9.out _ H5.out | exact HS9.out _ (H5.out.alloc H5.out.size _) | (refine HS9.out _ ?_; go_grown; done)
    refine wpAnyH_ready (rs := [4]) (by kernel_rfl) (by simp) ?_
    refine AllReadyH.cons (o := _) rfl (fun KK hKK => ?_) AllReadyH.nil
    go_simp
    try go_wp2_with fail
    refine hKK.out _ _ ?_ (fun hHeld2 => ?_)
    · (try dsimp only); first | exact HS7b.out | exact HS7.out | exact HS9.out _ H5.out | exact HS9.out _ (H5.out.alloc H5.out.size _) | (refine HS9.out _ ?_; go_grown; done)
    refine wpAnyH_ready (rs := [18]) (by kernel_rfl) (by simp) ?_
    refine AllReadyH.cons (o := _) rfl (fun KK hKK => ?_) AllReadyH.nil
    (refine step_append_sl et_pts rfl _ _ rfl B a5 n c5 P5 (by rfl) (HR5.out _ (H5.out.alloc H5.out.size _)) (some ⟨w5.heap.size, 0, none⟩) 1 1 [.int .i64 (imX P.now.q P.now.s P.now.dx x y), .int .i64 (imY P.now.q P.now.s P.now.dy x y)] (by rfl) (by rfl) (Lies.new w5 _ _ rfl) (by simp [Value.oneCell']) (by unfold maxLen; omega) (by omega) (by simp; omega) ?_; intro a2 d2 w7 r7 gr7 sub7; have hh := HF.out _ w7 (H5.out.alloc H5.out.size _) a2 d2 r7 gr7 sub7; obtain ⟨⟨k7, f7⟩, hr⟩ := hh; have HR := Lib.hid hr; have HS7 := Lib.hid (H7.out _ w7 (H5.out.alloc H5.out.size _) gr7); have HS7b := Lib.hid (And.intro (show _ ∧ _ ∧ _ ∧ _ from ⟨(far_off (o := 1) (p := 5) (v := .slice a2 (n + 1) d2) (by decide)).trans HS7.out.1.1, (far_off (o := 2) (p := 5) (v := .slice a2 (n + 1) d2) (by decide)).trans HS7.out.1.2.1, (far_off (o := 3) (p := 5) (v := .slice a2 (n + 1) d2) (by decide)).trans HS7.out.1.2.2.1, (far_off (o := 4) (p := 5) (v := .slice a2 (n + 1) d2) (by decide)).trans HS7.out.1.2.2.2⟩) (And.intro ((set_ne2 (v := .slice a2 (n + 1) d2) (o := 5) hgX).trans HS7.out.2.1) ((set_ne2 (v := .slice a2 (n + 1) d2) (o := 5) hgX).trans HS7.out.2.2))); clear hr r7 gr7 sub7)
    try go_wp2_with fail
    refine hKK.out _ _ ?_ (fun hHeld2 => ?_)
    · (try dsimp only); first | exact HS7b.out | exact HS7.out | exact HS9.out _ H5.out | exact HS9.out _ (H5.out.alloc H5.out.size _) | (refine HS9.out _ ?_; go_grown; done)
    refine wpAnyH_take (i := 19) (oi := _) (v := ?_) rfl (by kernel_rfl) (by kernel_rfl) (by kernel_rfl) (fun _ _ _ h => h) (Or.inl ⟨by rfl, ?_⟩) (by assumption) ?_
    rotate_left
    · (intro w hSw; (try dsimp only at hSw); go_simp; try with_reducible rfl)
    try simp only [Act.put, List.setIfInBounds_toArray, List.set_cons_zero, List.set_cons_succ]
    refine wpAnyH_take (i := 20) (oi := _) (v := ?_) rfl (by kernel_rfl) (by kernel_rfl) (by kernel_rfl) (fun _ _ _ h => h) (Or.inl ⟨by rfl, ?_⟩) (by assumption) ?_
    rotate_left
    · (intro w hSw; (try dsimp only at hSw); go_simp; try with_reducible rfl)
    try simp only [Act.put, List.setIfInBounds_toArray, List.set_cons_zero, List.set_cons_succ]
    refine wpAnyH_ready (rs := [21]) (by kernel_rfl) (by simp) ?_
    refine AllReadyH.cons (o := _) rfl (fun KK hKK => ?_) AllReadyH.nil
    go_simp
    try go_wp2_with fail
    refine hKK.out _ _ ?_ (fun hHeld2 => ?_)
    · (try dsimp only); first | exact HS7b.out | exact HS7.out | exact HS9.out _ H5.out | exact HS9.out _ (H5.out.alloc H5.out.size _) | (refine HS9.out _ ?_; go_grown; done)
    refine wpAnyH_done (by kernel_rfl) ?_ _
    go_wp2_with fail
    go_wp2
    go_ret
    exact HR.out
end Go.Proofs.YtaapofbccanjhaaGreat.Own
namespace Go.Proofs.YtaapofbccanjhaaGreat.Own
open Go.ChangeShapes Go.WideShapes Go.ChangeAt Go.RowKit
open Kit Slabs Ints Stack Point Turn Join Pts Box Push Take Opn SOp
set_option linter.unusedVariables false
set_option linter.unusedSimpArgs false
set_option linter.unnecessarySimpa false
set_option maxRecDepth 100000
attribute [local go_sem ↓] hload_Graphics hload_Object hstore_Graphics hstore_Object hload_Page hstore_Page
theorem PgFl.restG {w : World} {B X : Nat} {p : Pg} {a0 : Option Addr} {c0 : Nat} {f0 : List Nat} {a5 : Option Addr} {c5 : Nat} {P5 : List Value} {ga c11 : Nat} {P11 : List Value} {fa g0 g5 : List Nat} {a12 : Option Addr} {c12 : Nat} {P12 : List Value} {f12 : List Nat}
    (h : PgFl w B X p a0 c0 f0 a5 c5 P5 (some ⟨ga, 0, none⟩) c11 P11 (fa ++ (g0 ++ g5)) a12 c12 P12 f12) (hB : B ≤ w.heap.size) (hX : B ≤ X) {S : List Gr} {g : Gr} {k : Nat} (hk : S.length = k) {P' : List Value} (oS : OwnL w (List.replicate k KGraphics) P' (dG S) fa) {b5 : Option Addr} {e5 : Nat} (o5 : Own w (.sl KPt) [.slice b5 g.path.length e5] (.sl (dP g.path)) g5)
    {w1 E w7 : World} (b1 : Below w.heap.size w w1) (tE : Turns w1 E (fun b => b = X)) (BE : Blk E X ([.slice a0 p.now.st.length c0, .int .i64 g.q, .int .i64 g.s, .int .i64 g.dx, .int .i64 g.dy, .slice b5 g.path.length e5, .int .i64 g.gray, .int .i64 g.x0, .int .i64 g.y0, .int .i64 g.x1, .int .i64 g.y1] ++ [.slice (some ⟨ga, 0, none⟩) p.saved.length c11, .slice a12 p.objs.length c12])) (t7 : Turns E w7 (fun b => b = ga)) (r7 : w7.ownsRow B 42 11 (.slice (some ⟨ga, 0, none⟩) k c11) k P') :
    Blk w7 X ([.slice a0 p.now.st.length c0, .int .i64 g.q, .int .i64 g.s, .int .i64 g.dx, .int .i64 g.dy, .slice b5 g.path.length e5, .int .i64 g.gray, .int .i64 g.x0, .int .i64 g.y0, .int .i64 g.x1, .int .i64 g.y1] ++ [.slice (some ⟨ga, 0, none⟩) p.saved.length c11, .slice a12 p.objs.length c12]) ∧ OpRes B X (some { p with now := { g with st := p.now.st }, saved := S }) w (.returned (.bool true)) (w7.setCell ⟨X, 11, none⟩ (.slice (some ⟨ga, 0, none⟩) k c11)) := by
  subst hk
  have h1 := h.on b1
  have nd := h.nd
  have lt := h.parts
  have hXl := h.blk.2.2
  have z1 := b1.size
  have e0 : rowL (.slice (some ⟨ga, 0, none⟩) p.saved.length c11) = [ga] := rfl
  have e1 : rowL (.slice (some ⟨ga, 0, none⟩) S.length c11) = [ga] := rfl
  have hga : ga ∈ rowL (.slice (some ⟨ga, 0, none⟩) p.saved.length c11) := by rw [e0]; simp
  have hgX : ga ≠ X := fun e => by subst e; simp only [List.nodup_cons, List.mem_append] at nd; exact nd.1 (by simp [hga])
  have hgB := (lt ga (by simp [hga])).1
  have s11 : ∀ b ∈ (if S.length = 0 then [] else rowL (.slice (some ⟨ga, 0, none⟩) S.length c11) ++ fa), b ∈ rowL (.slice (some ⟨ga, 0, none⟩) S.length c11) ∨ b ∈ fa := rowF_sub
  have s12 : ∀ b ∈ (if p.objs.length = 0 then [] else rowL (.slice a12 p.objs.length c12) ++ f12), b ∈ rowL (.slice a12 p.objs.length c12) ∨ b ∈ f12 := rowF_sub
  have hsub : ∀ b ∈ rowL (.slice (some ⟨ga, 0, none⟩) S.length c11), b ∈ rowL (.slice (some ⟨ga, 0, none⟩) p.saved.length c11) := fun b hb => by rw [e0]; rw [e1] at hb; exact hb
  have q11 : (if S.length = 0 then [] else rowL (.slice (some ⟨ga, 0, none⟩) S.length c11) ++ fa).Nodup := rowF_nodup (by simp only [List.nodup_cons, List.nodup_append] at nd; grind) (fun b hb hc => by have hb := hsub b hb; simp only [List.nodup_cons, List.nodup_append, List.mem_append] at nd; grind)
  have q12 : (if p.objs.length = 0 then [] else rowL (.slice a12 p.objs.length c12) ++ f12).Nodup := rowF_nodup (by simp only [List.nodup_cons, List.nodup_append] at nd; grind) (fun b hb hc => by simp only [List.nodup_cons, List.nodup_append, List.mem_append] at nd; grind)
  obtain ⟨nd9, nX9⟩ := nd_res nd q11 q12 hsub s11 s12
  have B7 := BE.turned t7 (fun e => hgX e.symm)
  refine ⟨B7, rfl, ?_, fun P' hP => ?_⟩
  · exact (((b1.mono hB).trans (tE.below (by omega) (fun k e => e ▸ hX))).trans (t7.below (by have := tE.size; omega) (fun k e => e ▸ hgB))).setCell (p := ⟨X, 11, none⟩) hX _
  injection hP with hP
  subst hP
  have tX : Turns w7 (w7.setCell ⟨X, 11, none⟩ (.slice (some ⟨ga, 0, none⟩) S.length c11)) (fun b => b = X) := turns_set (S := fun b => b = X) (Turns.refl _ _) rfl _ _
  have T := ((tE.mono (T := fun b => b = ga ∨ b = X) (fun k hk => .inr hk)).trans (t7.mono (fun k hk => .inl hk))).trans (tX.mono (fun k hk => .inr hk))
  have B9 := Blk.put (o := 11) (P := [_, _, _, _, _, _, _, _, _, _, _]) B7 rfl (.slice (some ⟨ga, 0, none⟩) S.length c11)
  generalize w7.setCell ⟨X, 11, none⟩ (.slice (some ⟨ga, 0, none⟩) S.length c11) = W9 at *
  have d0 : ∀ b ∈ f0, ¬ (b = ga ∨ b = X) := fun b hb hc => by simp only [List.nodup_cons, List.nodup_append, List.mem_append] at nd; grind
  have d5 : ∀ b ∈ g5, ¬ (b = ga ∨ b = X) := fun b hb hc => by simp only [List.nodup_cons, List.nodup_append, List.mem_append] at nd; grind
  have d11 : ∀ b ∈ fa, ¬ (b = ga ∨ b = X) := fun b hb hc => by simp only [List.nodup_cons, List.nodup_append, List.mem_append] at nd; grind
  have d12 : ∀ b ∈ rowL (.slice a12 p.objs.length c12), ¬ (b = ga ∨ b = X) := fun b hb hc => by simp only [List.nodup_cons, List.nodup_append, List.mem_append] at nd; grind
  have e12 : ∀ b ∈ f12, ¬ (b = ga ∨ b = X) := fun b hb hc => by simp only [List.nodup_cons, List.nodup_append, List.mem_append] at nd; grind
  exact pg_mk (p := { p with now := { g with st := p.now.st }, saved := S }) B9 (h1.o0.turned T d0) ((o5.under b1).turned T d5) (row_own2 (row_turned r7 tX (fun b hb e => by rw [e1, List.mem_singleton] at hb; exact hgX (hb.symm.trans e))) ((oS.under b1).turned T d11)) (row_own2 (row_turned h1.r12 T d12) (h1.o12.turned T e12)) nd9 nX9 (ge_res (fun b hb => (lt b hb).1) hsub s11 s12)
set_option maxHeartbeats 4000000 in
theorem sp_restore {w : World} {B X : Nat} {P : Pg} (h : PgAt w B X P) (hB : B ≤ w.heap.size) (hX : B ≤ X) (hl : P.saved.length ≤ 4) (str : ByteArray) (hk8 : opN str = some 8) (u : Value) :
    Calls Tryz.prog 32 #[.pointer (some ⟨X, 0, none⟩), .string str, u] w (OpRes B X (resO P) w) := by
  obtain ⟨q0', q1', q2', q3', q4', q5', q6', q7', q8', q9', q10', q11'⟩ := nm12 hk8
  have H0 := Lib.hid h
  clear h hk8
  go_enter Tryz.func32, Tryz.ntmps32
  go_wp2_with fail
  ((with_reducible refine (ident_spec _).mono ?_); rintro e w1 ⟨rfl, b1⟩)
  have bA : Below w.heap.size w (w1.alloc (.cells #[.int .i64 0, .int .i64 1, .int .i64 0, .int .i64 0] 38)) := b1.alloc b1.size _
  go_upto_region 10 with (fail)
  generalize w1.alloc (.cells #[.int .i64 0, .int .i64 1, .int .i64 0, .int .i64 0] 38) = V at bA ⊢
  have HBV := Lib.hid (bA.mono hB)
  have hBV : B ≤ V.heap.size := Nat.le_trans hB bA.size
  obtain ⟨a0, c0, f0, a5, c5, P5, a11, c11, P11, f11, a12, c12, P12, f12, h⟩ := (H0.out.on bA).flat
  clear b1 bA H0
  have k11 := h.blk.1 11 _ rfl
  have fz := h.blk.2.1
  rcases List.eq_nil_or_concat P.saved with hs | ⟨S, g, hs⟩
  · have HN : Hid (OpRes B X (resO P) V (.returned (.bool false)) V) := Lib.hid (by
      have e : resO P = none := by simp [resO, hs]
      rw [e]
      exact ⟨rfl, (Below.refl _ _).mono hBV, fun P' hP => by cases hP⟩)
    simp only [hs, List.length_nil] at k11
    clear h hs hl
    go_wp2
    go_ret
    exact HN.out.from HBV.out
  · obtain ⟨k, hk⟩ : ∃ k, S.length = k := ⟨_, rfl⟩
    have hs : P.saved = S ++ [g] := by rw [hs, List.concat_eq_append]
    have hn : P.saved.length = k + 1 := by rw [hs, List.length_append, hk]; rfl
    have er : resO P = some { P with now := { g with st := P.now.st }, saved := S } := by simp [resO, resM, hs]
    have o11 := h.o11
    rw [hn, hs] at o11
    obtain ⟨P', cs, fa, fb, rfl, rfl, oS, oG⟩ := last_gr hk o11
    obtain ⟨b0, e0, b5, e5, g0, g5, hcs, rfl, q0, q5⟩ := inv_Graphics_ oG
    simp only [len_dI, len_dP] at hcs q0 q5
    simp only [List.append_nil] at h oG
    have r11 := h.r11
    rw [hn] at r11
    obtain ⟨ga, rfl, hBg, bg, hcap, hnc, hcm⟩ := row_cap r11 (by omega)
    have lP : P'.length = k * 11 := by have := r11.1; rw [List.length_append, hcs] at this; simp at this; omega
    have lcs : cs.length = 11 := by rw [hcs]; rfl
    have h1c : ∀ v ∈ cs, v.oneCell' = true := fun v hv => oG.one v hv
    obtain ⟨l, hL⟩ : ∃ l, P.now.st.length = l := ⟨_, rfl⟩
    have k0 := h.blk.1 0 _ rfl
    rw [hL] at k0
    rw [hn] at k11
    have hXl := h.blk.2.2
    have ldG : (hload 42 ⟨ga, k * 11, none⟩).run Tryz.prog V = .ok (.agg cs.toArray) V := hload_run (P := Tryz.prog) (t := 42) Tryz.isAgg42 Tryz.sizeOf42 (w := V) (b := ga) (o := k * 11) (us := cs) (Blk.part (P := P') (R := []) (by simpa using bg) lP) lcs
    have stX := hstore_run (P := Tryz.prog) (t := 42) Tryz.sizeOf42 (o := 0) (A := []) (us := [_, _, _, _, _, _, _, _, _, _, _]) (vs := cs) h.blk rfl lcs lcs h1c
    have BE := Blk.sets (w := V) (b := X) (o := 0) (P := []) (us := [_, _, _, _, _, _, _, _, _, _, _]) (vs := cs) h.blk rfl lcs
    obtain ⟨E, hE⟩ : ∃ E, V.setCells X 0 cs = E := ⟨_, rfl⟩
    have tE0 : Turns V E (fun b => b = X) := by rw [← hE]; exact turns_sets (S := fun b => b = X) X rfl _ _ _
    rw [hE] at stX BE
    rw [hcs] at BE
    have BE2 := Blk.put (o := 0) (P := []) BE rfl (.slice a0 l c0)
    have tE : Turns V (E.setCell ⟨X, 0, none⟩ (.slice a0 l c0)) (fun b => b = X) := turns_set (S := fun b => b = X) tE0 rfl _ _
    have nd := h.nd
    have hgX : ga ≠ X := fun e => by subst e; simp only [List.nodup_cons, List.mem_append] at nd; exact nd.1 (.inr (.inr (.inl (by simp [rowL, Value.ownBlock]))))
    have bg2 := bg.turned tE hgX
    have r2 := cap_row (k := 11) (n := k) (c := c11) (B := B) (T := 42) (P := P') (w := E.setCell ⟨X, 0, none⟩ (.slice a0 l c0)) (g := ga) ⟨fun o v hv => bg2.1 o v (by rw [List.getElem?_append_left (List.getElem?_eq_some_iff.1 hv).1]; exact hv), bg2.2⟩ (hcap.turned tE hgX) lP (by omega) hcm hBg
    have o5g : Own V (.sl KPt) [.slice b5 g.path.length e5] (.sl (dP g.path)) g5 := q5
    have HF := Lib.hid (h.restG hBV hX hk oS o5g (Below.refl _ _) tE (by rw [hL]; exact BE2) (Turns.refl _ _) r2).2
    rw [← er] at HF
    have y0 := BE.1 0 _ rfl
    have yf := BE.2.1
    have x11 := BE2.1 11 _ rfl
    have xf := BE2.2.1
    rw [hn] at x11
    have hk3 : k ≤ 3 := by omega
    have hkc : k ≤ c11 := by omega
    have n0 : ((k : Int) + 1 == 0) = false := by simp; omega
    clear h hs hn er oS oG q0 q5 hcs lcs lP r11 bg o5g BE BE2 tE nd r2 hE hL hl o11 bg2 hcap tE0 h1c
    go_wp2
    go_ret
    exact HF.out.from HBV.out
end Go.Proofs.YtaapofbccanjhaaGreat.Own
