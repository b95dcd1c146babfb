/-
  Texts of this seat, laid together: EqA, SpA, SpC, SpI
-/
import Derived.WalkKit
import Derived.Deep.DeepCutAuto
import Derived.Deep.QuietTactic
import Derived.BigQuiet
import Derived.Deep.RegionHeld3
import Derived.Handy
import Derived.Test.YtjmfgbbngocodaaGreatZ09
import Derived.Test.YtjmfgbbngocodaaGreatZ39
namespace Go.Proofs.YtjmfgbbngocodaaGreat.Own
open Go.ChangeShapes Go.WideShapes Go.ChangeAt Go.RowKit
open Kit Slabs Ints
set_option linter.unusedVariables false
set_option linter.unusedSimpArgs false
set_option linter.unnecessarySimpa false
set_option maxRecDepth 100000
theorem eq_Turn (xx0_0 : Int) (xx1_0 : Int) (xx2_0 : Int) (xx3_0 : Int) (w : World) : Calls Tryz.prog 90 #[.agg #[.int .i64 xx0_0, .int .i64 xx1_0, .int .i64 xx2_0, .int .i64 xx3_0], .agg #[.int .i64 xx0_0, .int .i64 xx1_0, .int .i64 xx2_0, .int .i64 xx3_0]] w fun e w' => e = .returned (.bool true) ∧ Below w.heap.size w w' := by
  go_enter Tryz.func90, Tryz.ntmps90
  go_wp2
  go_ret
  exact ⟨rfl, by go_grown⟩
theorem eq_Box (xx0_0 : Int) (xx1_0 : Int) (xx2_0 : Int) (xx3_0 : Int) (w : World) : Calls Tryz.prog 92 #[.agg #[.int .i64 xx0_0, .int .i64 xx1_0, .int .i64 xx2_0, .int .i64 xx3_0], .agg #[.int .i64 xx0_0, .int .i64 xx1_0, .int .i64 xx2_0, .int .i64 xx3_0]] w fun e w' => e = .returned (.bool true) ∧ Below w.heap.size w w' := by
  go_enter Tryz.func92, Tryz.ntmps92
  go_wp2
  go_ret
  exact ⟨rfl, by go_grown⟩
set_option maxHeartbeats 4000000 in
theorem eq_Graphics (w : World) {A B : Array Value} {ds : List Dt} {f1 f2 : List Nat} (hb : bulkL ds ≤ 1048576) (h1 : OwnL w LGraphics A.toList ds f1) (h2 : OwnL w LGraphics B.toList ds f2) :
    Calls Tryz.prog 40 #[.agg A, .agg B] w fun e w' => e = .returned (.bool true) ∧ Below w.heap.size w w' := by
  obtain ⟨xa0, xc0, xa5, xc5, xs0, xx1_0, xx1_1, xx1_2, xx1_3, xs5, xx6_0, xx7_0, xx7_1, xx7_2, xx7_3, xF0, xF5, hA, rfl, rfl, ox0, ox5⟩ := inv_Graphics h1
  obtain ⟨ya0, yc0, ya5, yc5, yF0, yF5, hB, rfl, oy0, oy5⟩ := inv_Graphics_ h2
  simp only [bulkL_app, bulkL, Dt.bulk] at hb
  have BA : Blk ((w.alloc (.cells A 42)).alloc (.cells B 42)) w.heap.size A.toList := (Blk.new w A 42 rfl).alloc _
  have BB : Blk ((w.alloc (.cells A 42)).alloc (.cells B 42)) (w.heap.size + 1) B.toList := Blk.new _ B 42 (by simp)
  have hW : Below w.heap.size w ((w.alloc (.cells A 42)).alloc (.cells B 42)) := by go_grown
  rw [hA] at BA
  rw [hB] at BB
  have HO := Lib.hid (And.intro ox0 (And.intro ox5 (And.intro oy0 oy5)))
  have HA0 := Lib.hid BA
  have HB0 := Lib.hid BB
  have HW0 := Lib.hid hW
  have ca0 : A[0]? = some (.slice xa0 xs0.length xc0) := by rw [← Array.getElem?_toList, hA]; rfl
  have cb0 : B[0]? = some (.slice ya0 xs0.length yc0) := by rw [← Array.getElem?_toList, hB]; rfl
  clear ox0 ox5 oy0 oy5 hA hB BA BB hW h1 h2
  go_enter Tryz.func40, Tryz.ntmps40
  go_wp2_with fail
  ((with_reducible refine (eqI_o _ (by omega) ((HO.out.1).under HW0.out) ((HO.out.2.2.1).under HW0.out)).mono ?_); rintro e w1 ⟨rfl, b1⟩)
  have HW1 := Lib.hid (on_of HW0.out b1)
  have HA1 := Lib.hid (HA0.out.keep b1)
  have HB1 := Lib.hid (HB0.out.keep b1)
  clear b1 ca0 cb0
  have ca1 := HA1.out.1 1 (.int .i64 xx1_0) (by rfl)
  have ca2 := HA1.out.1 2 (.int .i64 xx1_1) (by rfl)
  have ca3 := HA1.out.1 3 (.int .i64 xx1_2) (by rfl)
  have ca4 := HA1.out.1 4 (.int .i64 xx1_3) (by rfl)
  have cb1 := HB1.out.1 1 (.int .i64 xx1_0) (by rfl)
  have cb2 := HB1.out.1 2 (.int .i64 xx1_1) (by rfl)
  have cb3 := HB1.out.1 3 (.int .i64 xx1_2) (by rfl)
  have cb4 := HB1.out.1 4 (.int .i64 xx1_3) (by rfl)
  go_wp2_with fail
  ((with_reducible refine (eq_Turn xx1_0 xx1_1 xx1_2 xx1_3 _).mono ?_); rintro e w2 ⟨rfl, b2⟩)
  have HW2 := Lib.hid (on_of HW1.out b2)
  have HA2 := Lib.hid (HA1.out.keep b2)
  have HB2 := Lib.hid (HB1.out.keep b2)
  clear b2 ca1 ca2 ca3 ca4 cb1 cb2 cb3 cb4
  have ca5 := HA2.out.1 5 (.slice xa5 xs5.length xc5) (by rfl)
  have cb5 := HB2.out.1 5 (.slice ya5 xs5.length yc5) (by rfl)
  go_wp2_with fail
  ((with_reducible refine (eqP_o _ (by omega) ((HO.out.2.1).under HW2.out) ((HO.out.2.2.2).under HW2.out)).mono ?_); rintro e w3 ⟨rfl, b3⟩)
  have HW3 := Lib.hid (on_of HW2.out b3)
  have HA3 := Lib.hid (HA2.out.keep b3)
  have HB3 := Lib.hid (HB2.out.keep b3)
  clear b3 ca5 cb5
  have ca6 := HA3.out.1 6 (.int .i64 xx6_0) (by rfl)
  have cb6 := HB3.out.1 6 (.int .i64 xx6_0) (by rfl)
  have ca7 := HA3.out.1 7 (.int .i64 xx7_0) (by rfl)
  have ca8 := HA3.out.1 8 (.int .i64 xx7_1) (by rfl)
  have ca9 := HA3.out.1 9 (.int .i64 xx7_2) (by rfl)
  have ca10 := HA3.out.1 10 (.int .i64 xx7_3) (by rfl)
  have cb7 := HB3.out.1 7 (.int .i64 xx7_0) (by rfl)
  have cb8 := HB3.out.1 8 (.int .i64 xx7_1) (by rfl)
  have cb9 := HB3.out.1 9 (.int .i64 xx7_2) (by rfl)
  have cb10 := HB3.out.1 10 (.int .i64 xx7_3) (by rfl)
  go_wp2_with fail
  ((with_reducible refine (eq_Box xx7_0 xx7_1 xx7_2 xx7_3 _).mono ?_); rintro e w4 ⟨rfl, b4⟩)
  have HW4 := Lib.hid (on_of HW3.out b4)
  have HA4 := Lib.hid (HA3.out.keep b4)
  have HB4 := Lib.hid (HB3.out.keep b4)
  clear b4 ca6 cb6 ca7 ca8 ca9 ca10 cb7 cb8 cb9 cb10
  go_wp2
  go_ret
  exact ⟨rfl, HW4.out⟩
set_option maxHeartbeats 4000000 in
theorem eq_Object (w : World) {A B : Array Value} {ds : List Dt} {f1 f2 : List Nat} (hb : bulkL ds ≤ 1048576) (h1 : OwnL w LObject A.toList ds f1) (h2 : OwnL w LObject B.toList ds f2) :
    Calls Tryz.prog 93 #[.agg A, .agg B] w fun e w' => e = .returned (.bool true) ∧ Below w.heap.size w w' := by
  obtain ⟨xa0, xc0, xs0, xx1_0, xx2_0, xx2_1, xx2_2, xx2_3, xF0, hA, rfl, rfl, ox0⟩ := inv_Object h1
  obtain ⟨ya0, yc0, yF0, hB, rfl, oy0⟩ := inv_Object_ h2
  simp only [bulkL_app, bulkL, Dt.bulk] at hb
  have BA : Blk ((w.alloc (.cells A 101)).alloc (.cells B 101)) w.heap.size A.toList := (Blk.new w A 101 rfl).alloc _
  have BB : Blk ((w.alloc (.cells A 101)).alloc (.cells B 101)) (w.heap.size + 1) B.toList := Blk.new _ B 101 (by simp)
  have hW : Below w.heap.size w ((w.alloc (.cells A 101)).alloc (.cells B 101)) := by go_grown
  rw [hA] at BA
  rw [hB] at BB
  have HO := Lib.hid (And.intro ox0 oy0)
  have HA0 := Lib.hid BA
  have HB0 := Lib.hid BB
  have HW0 := Lib.hid hW
  have ca0 : A[0]? = some (.slice xa0 xs0.length xc0) := by rw [← Array.getElem?_toList, hA]; rfl
  have cb0 : B[0]? = some (.slice ya0 xs0.length yc0) := by rw [← Array.getElem?_toList, hB]; rfl
  clear ox0 oy0 hA hB BA BB hW h1 h2
  go_enter Tryz.func93, Tryz.ntmps93
  go_wp2_with fail
  ((with_reducible refine (eqP_o _ (by omega) ((HO.out.1).under HW0.out) ((HO.out.2).under HW0.out)).mono ?_); rintro e w1 ⟨rfl, b1⟩)
  have HW1 := Lib.hid (on_of HW0.out b1)
  have HA1 := Lib.hid (HA0.out.keep b1)
  have HB1 := Lib.hid (HB0.out.keep b1)
  clear b1 ca0 cb0
  have ca1 := HA1.out.1 1 (.int .i64 xx1_0) (by rfl)
  have cb1 := HB1.out.1 1 (.int .i64 xx1_0) (by rfl)
  have ca2 := HA1.out.1 2 (.int .i64 xx2_0) (by rfl)
  have ca3 := HA1.out.1 3 (.int .i64 xx2_1) (by rfl)
  have ca4 := HA1.out.1 4 (.int .i64 xx2_2) (by rfl)
  have ca5 := HA1.out.1 5 (.int .i64 xx2_3) (by rfl)
  have cb2 := HB1.out.1 2 (.int .i64 xx2_0) (by rfl)
  have cb3 := HB1.out.1 3 (.int .i64 xx2_1) (by rfl)
  have cb4 := HB1.out.1 4 (.int .i64 xx2_2) (by rfl)
  have cb5 := HB1.out.1 5 (.int .i64 xx2_3) (by rfl)
  go_wp2_with fail
  ((with_reducible refine (eq_Box xx2_0 xx2_1 xx2_2 xx2_3 _).mono ?_); rintro e w2 ⟨rfl, b2⟩)
  have HW2 := Lib.hid (on_of HW1.out b2)
  have HA2 := Lib.hid (HA1.out.keep b2)
  have HB2 := Lib.hid (HB1.out.keep b2)
  clear b2 ca1 cb1 ca2 ca3 ca4 ca5 cb2 cb3 cb4 cb5
  go_wp2
  go_ret
  exact ⟨rfl, HW2.out⟩
end Go.Proofs.YtjmfgbbngocodaaGreat.Own

namespace Go.Proofs.YtjmfgbbngocodaaGreat.Own
open Go.ChangeShapes Go.WideShapes Go.ChangeAt Go.RowKit
open Kit Slabs Ints Stack Point Turn Join Pts Box Push Take Opn SOp
set_option linter.unusedVariables false
set_option linter.unusedSimpArgs false
set_option linter.unnecessarySimpa false
set_option maxRecDepth 100000
attribute [local go_sem ↓] hload_Graphics hload_Object hstore_Graphics hstore_Object hload_Page hstore_Page
theorem PgOwn.on {w w' : World} {B X : Nat} {P : Pg} (h : PgOwn w B X P) (hb : Below w.heap.size w w') : PgOwn w' B X P := by
  obtain ⟨R, f, b, o, n, x, g⟩ := h
  exact ⟨R, f, b.keep hb, o.under hb, n, x, g⟩
theorem OpRes.alloc {B X : Nat} {r : Option Pg} {w W : World} {e : Ending} (h : OpRes B X r w e W) (hB : B ≤ W.heap.size) (o : Obj) : OpRes B X r w e (W.alloc o) :=
  ⟨h.1, h.2.1.alloc hB o, fun P' hP => (h.2.2 P' hP).on (by go_grown)⟩
theorem cell_on {w w' : World} (h : Below w.heap.size w w') {g o : Nat} (hg : g < w.heap.size) : w'.cell? ⟨g, o, none⟩ = w.cell? ⟨g, o, none⟩ := (bcell h).1 g o hg
theorem nm12 {s : ByteArray} {k : Nat} (h : opN s = some k) : (s.toList == [110, 101, 119]) = (k == 0) ∧ (s.toList == [109, 111, 118, 101, 116, 111]) = (k == 1) ∧ (s.toList == [108, 105, 110, 101, 116, 111]) = (k == 2) ∧ (s.toList == [114, 101, 99, 116]) = (k == 3) ∧ (s.toList == [102, 105, 108, 108]) = (k == 4) ∧ (s.toList == [103, 114, 97, 121]) = (k == 5) ∧ (s.toList == [99, 108, 105, 112]) = (k == 6) ∧ (s.toList == [115, 97, 118, 101]) = (k == 7) ∧ (s.toList == [114, 101, 115, 116, 111, 114, 101]) = (k == 8) ∧ (s.toList == [115, 104, 105, 102, 116]) = (k == 9) ∧ (s.toList == [116, 117, 114, 110]) = (k == 10) ∧ (s.toList == [115, 99, 97, 108, 101]) = (k == 11) := by
  unfold opN at h
  by_cases e0 : (s.toList == [110, 101, 119]) = true
  · rw [if_pos e0] at h; injection h with h; subst h; rw [eq_of_beq e0]; decide
  rw [if_neg e0] at h
  by_cases e1 : (s.toList == [109, 111, 118, 101, 116, 111]) = true
  · rw [if_pos e1] at h; injection h with h; subst h; rw [eq_of_beq e1]; decide
  rw [if_neg e1] at h
  by_cases e2 : (s.toList == [108, 105, 110, 101, 116, 111]) = true
  · rw [if_pos e2] at h; injection h with h; subst h; rw [eq_of_beq e2]; decide
  rw [if_neg e2] at h
  by_cases e3 : (s.toList == [114, 101, 99, 116]) = true
  · rw [if_pos e3] at h; injection h with h; subst h; rw [eq_of_beq e3]; decide
  rw [if_neg e3] at h
  by_cases e4 : (s.toList == [102, 105, 108, 108]) = true
  · rw [if_pos e4] at h; injection h with h; subst h; rw [eq_of_beq e4]; decide
  rw [if_neg e4] at h
  by_cases e5 : (s.toList == [103, 114, 97, 121]) = true
  · rw [if_pos e5] at h; injection h with h; subst h; rw [eq_of_beq e5]; decide
  rw [if_neg e5] at h
  by_cases e6 : (s.toList == [99, 108, 105, 112]) = true
  · rw [if_pos e6] at h; injection h with h; subst h; rw [eq_of_beq e6]; decide
  rw [if_neg e6] at h
  by_cases e7 : (s.toList == [115, 97, 118, 101]) = true
  · rw [if_pos e7] at h; injection h with h; subst h; rw [eq_of_beq e7]; decide
  rw [if_neg e7] at h
  by_cases e8 : (s.toList == [114, 101, 115, 116, 111, 114, 101]) = true
  · rw [if_pos e8] at h; injection h with h; subst h; rw [eq_of_beq e8]; decide
  rw [if_neg e8] at h
  by_cases e9 : (s.toList == [115, 104, 105, 102, 116]) = true
  · rw [if_pos e9] at h; injection h with h; subst h; rw [eq_of_beq e9]; decide
  rw [if_neg e9] at h
  by_cases e10 : (s.toList == [116, 117, 114, 110]) = true
  · rw [if_pos e10] at h; injection h with h; subst h; rw [eq_of_beq e10]; decide
  rw [if_neg e10] at h
  by_cases e11 : (s.toList == [115, 99, 97, 108, 101]) = true
  · rw [if_pos e11] at h; injection h with h; subst h; rw [eq_of_beq e11]; decide
  rw [if_neg e11] at h
  cases h
set_option maxHeartbeats 2000000 in
theorem sp_new {w : World} {B X : Nat} {P : Pg} (h : PgAt w B X P) (hB : B ≤ w.heap.size) (hX : B ≤ X) (s : ByteArray) (hk : opN s = some 0) (u : Value) :
    Calls Tryz.prog 31 #[.pointer (some ⟨X, 0, none⟩), .string s, u] w (OpRes B X (some (setPath P [])) w) := by
  obtain ⟨a0, c0, f0, a5, c5, P5, a11, c11, P11, f11, a12, c12, P12, f12, h⟩ := h.flat
  obtain ⟨q0, q1, q2, q3, q4, q5, q6, q7, q8, q9, q10, q11⟩ := nm12 hk
  have HK := Lib.hid (fun (W : World) (hb : Below w.heap.size w W) => (show (W.cell? ⟨X, 5, none⟩ = some (.slice a5 P.now.path.length c5) ∧ ∀ o, W.frozen? ⟨X, o, none⟩ = false) ∧ ∀ g c, OpRes B X (some (setPath P [])) w (.returned (.bool true)) (W.setCell ⟨X, 5, none⟩ (.slice g 0 c)) from
    ⟨⟨(h.blk.keep hb).1 5 _ rfl, (h.blk.keep hb).2.1⟩, fun g c => h.store hb hB hX (g := { P.now with path := [] }) rfl (a5' := g) (c5' := c) (Blk.put (P := [_, _, _, _, _]) (h.blk.keep hb) rfl (.slice g 0 c)) (.nil g c) List.nodup_nil (fun b hb => absurd hb List.not_mem_nil)⟩))
  have hXl := h.blk.2.2
  clear h hk
  go_enter Tryz.func31, Tryz.ntmps31
  obtain ⟨k5, fz⟩ := (HK.out w (Below.refl _ _)).1
  go_upto_region 4 with (fail)
  go_wp2
  go_ret
  exact ((HK.out w (Below.refl _ _)).2 _ _).alloc (by have := hB; simpa using this) _
set_option maxHeartbeats 2000000 in
theorem sp_gray {w : World} {B X : Nat} {P : Pg} (h : PgAt w B X P) (hB : B ≤ w.heap.size) (hX : B ≤ X) (s : ByteArray) (hk : opN s = some 5) (g2 c2 : Nat) (x : Int) (hg : g2 < w.heap.size) (hx : w.cell? ⟨g2, 0, none⟩ = some (.int .i64 x)) :
    Calls Tryz.prog 32 #[.pointer (some ⟨X, 0, none⟩), .string s, .slice (some ⟨g2, 0, none⟩) 1 c2] w (OpRes B X (some (graM P x)) w) := by
  obtain ⟨a0, c0, f0, a5, c5, P5, a11, c11, P11, f11, a12, c12, P12, f12, h⟩ := h.flat
  obtain ⟨q0, q1, q2, q3, q4, q5, q6, q7, q8, q9, q10, q11⟩ := nm12 hk
  have HK := Lib.hid (fun (W : World) (hb : Below w.heap.size w W) => (show (W.cell? ⟨X, 6, none⟩ = some (.int .i64 P.now.gray) ∧ (∀ o, W.frozen? ⟨X, o, none⟩ = false) ∧ W.cell? ⟨g2, 0, none⟩ = some (.int .i64 x)) ∧ OpRes B X (some (graM P x)) w (.returned (.bool true)) (W.setCell ⟨X, 6, none⟩ (.int .i64 x)) from
    ⟨⟨(h.blk.keep hb).1 6 _ rfl, (h.blk.keep hb).2.1, (cell_on hb hg).trans hx⟩, h.store hb hB hX (g := { P.now with gray := x }) rfl (a5' := a5) (c5' := c5) (Blk.put (P := [_, _, _, _, _, _]) (h.blk.keep hb) rfl (.int .i64 x)) (row_own2 (row_on h.r5 hb) (h.o5 W)) (rowF_nodup List.nodup_nil (fun b _ hh => absurd hh List.not_mem_nil)) (fun b hb => (rowF_sub b hb).elim .inl (fun hh => absurd hh List.not_mem_nil))⟩))
  clear h hk hx
  go_enter Tryz.func32, Tryz.ntmps32
  go_wp2_with fail
  ((with_reducible refine (ident_spec _).mono ?_); rintro e w1 ⟨rfl, b1⟩)
  have bA : Below w.heap.size w (w1.alloc (.cells #[.int .i64 0, .int .i64 1, .int .i64 0, .int .i64 0] 38)) := b1.alloc b1.size _
  go_upto_region 2 with (fail)
  generalize hV : w1.alloc (.cells #[.int .i64 0, .int .i64 1, .int .i64 0, .int .i64 0] 38) = V at bA
  obtain ⟨⟨k6, fz, x0⟩, hr⟩ := HK.out V bA
  have HR := Lib.hid hr
  clear hr b1 bA
  go_wp2
  go_ret
  exact HR.out
end Go.Proofs.YtjmfgbbngocodaaGreat.Own

namespace Go.Proofs.YtjmfgbbngocodaaGreat.Own
open Go.ChangeShapes Go.WideShapes Go.ChangeAt Go.RowKit
open Kit Slabs Ints Stack Point Turn Join Pts Box Push Take Opn SOp
set_option linter.unusedVariables false
set_option linter.unusedSimpArgs false
set_option linter.unnecessarySimpa false
set_option maxRecDepth 100000
attribute [local go_sem ↓] hload_Graphics hload_Object hstore_Graphics hstore_Object hload_Page hstore_Page
theorem lit_pts (w : World) (cs : Array Value) {l : List (Int × Int)} {n : Nat} (hn : l.length = n) (hm : n ≤ 100) (hcs : cs.toList = cellsP l) : (w.alloc (.cells cs 109)).ownsRow w.heap.size 109 2 (.slice (some ⟨w.heap.size, 0, none⟩) n n) n (cellsP l) := by
  have hs : cs.size = n * 2 := by have := cellsP_len l; rw [← hcs, hn] at this; simpa using this
  have := World.ownsRow_lit (base := w.heap.size) (e := 109) (size := 2) w cs n (Nat.le_refl _) (by unfold maxLen; omega) hs
  rw [hcs] at this
  exact this
theorem PgFl.litp {w w5 : World} {B X : Nat} {p : Pg} {a0 : Option Addr} {c0 : Nat} {f0 : List Nat} {a5 : Option Addr} {c5 : Nat} {P5 : List Value} {a11 : Option Addr} {c11 : Nat} {P11 : List Value} {f11 : List Nat} {a12 : Option Addr} {c12 : Nat} {P12 : List Value} {f12 : List Nat}
    (h : PgFl w B X p a0 c0 f0 a5 c5 P5 a11 c11 P11 f11 a12 c12 P12 f12) (hB : B ≤ w.heap.size) (hX : B ≤ X) (b5 : Below w.heap.size w w5) (cs : Array Value) {l : List (Int × Int)} {n : Nat} (hn : l.length = n) (hm : n ≤ 100) (hcs : cs.toList = cellsP l) :
    OpRes B X (some (setPath p l)) w (.returned (.bool true)) ((w5.setCell ⟨X, 5, none⟩ (.slice (some ⟨w5.heap.size, 0, none⟩) n n)).alloc (.cells cs 109)) := by
  have hXl := h.blk.2.2
  have z5 := b5.size
  have := h.placed1 hB hX b5 (g := { p.now with path := l }) rfl (w5.alloc (.cells cs 109)) (some ⟨w5.heap.size, 0, none⟩) n (by have := lit_pts w5 cs hn hm hcs; simpa [hn] using this) (by go_grown)
  rw [show ({ p.now with path := l } : Gr).path.length = n from hn, World.setCell_alloc_past _ _ _ _ (by omega)] at this
  exact this
set_option maxHeartbeats 4000000 in
theorem sp_move {w : World} {B X : Nat} {P : Pg} (h : PgAt w B X P) (hB : B ≤ w.heap.size) (hX : B ≤ X) (ht : tokB P.now.q P.now.s P.now.dx P.now.dy = true) (s : ByteArray) (hk : opN s = some 1) (g2 c2 : Nat) (x y : Int) (hg : g2 < w.heap.size) (hx : w.cell? ⟨g2, 0, none⟩ = some (.int .i64 x)) (hy : w.cell? ⟨g2, 1, none⟩ = some (.int .i64 y)) (bx : -9999 ≤ x ∧ x ≤ 9999) (bY : -9999 ≤ y ∧ y ≤ 9999) :
    Calls Tryz.prog 31 #[.pointer (some ⟨X, 0, none⟩), .string s, .slice (some ⟨g2, 0, none⟩) 2 c2] w (OpRes B X (some (movM P x y)) w) := by
  obtain ⟨a0, c0, f0, a5, c5, P5, a11, c11, P11, f11, a12, c12, P12, f12, h⟩ := h.flat
  obtain ⟨q0, q1, q2, q3, q4, q5, q6, q7, q8, q9, q10, q11⟩ := nm12 hk
  have hXl := h.blk.2.2
  have HK := Lib.hid (fun (W : World) (hb : Below w.heap.size w W) => (show (W.cell? ⟨X, 1, none⟩ = some (.int .i64 P.now.q) ∧ W.cell? ⟨X, 2, none⟩ = some (.int .i64 P.now.s) ∧ W.cell? ⟨X, 3, none⟩ = some (.int .i64 P.now.dx) ∧ W.cell? ⟨X, 4, none⟩ = some (.int .i64 P.now.dy)) ∧ W.cell? ⟨X, 5, none⟩ = some (.slice a5 P.now.path.length c5) ∧ ∀ o, W.frozen? ⟨X, o, none⟩ = false from by
    have k := h.blk.keep hb
    exact ⟨⟨k.1 1 _ rfl, k.1 2 _ rfl, k.1 3 _ rfl, k.1 4 _ rfl⟩, k.1 5 _ rfl, k.2.1⟩))
  have HS := Lib.hid (fun (W : World) (hb : Below w.heap.size w W) => h.litp hB hX hb #[.int .i64 (imX P.now.q P.now.s P.now.dx x y), .int .i64 (imY P.now.q P.now.s P.now.dy x y)] (l := [imP P.now x y]) (n := 1) rfl (by omega) rfl)
  have HC := Lib.hid (fun (W : World) => image_spec_big P.now.q P.now.s P.now.dx P.now.dy x y W ht (by omega) (by omega))
  obtain ⟨⟨t1, t2, t3, t4⟩, k5, fz⟩ := HK.out w (Below.refl _ _)
  clear h hk ht
  go_enter Tryz.func31, Tryz.ntmps31
  go_upto_region 6 with (fail)
  go_region_law (go_simp; go_at_call 66; (with_reducible refine (HC.out _).mono ?_); rintro e w5 ⟨rfl, b5⟩; have b5 := on_of (show Below w.heap.size w _ from by go_grown) b5; obtain ⟨_, j5, fj⟩ := HK.out w5 b5; have lX := (show X < w5.heap.size from by have := b5.size; omega); have HR := Lib.hid (HS.out w5 b5); clear b5)
  all_goals
    go_wp2
    go_ret
    exact HR.out
end Go.Proofs.YtjmfgbbngocodaaGreat.Own

namespace Go.Proofs.YtjmfgbbngocodaaGreat.Own
open Go.ChangeShapes Go.WideShapes Go.ChangeAt Go.RowKit
open Kit Slabs Ints Stack Point Turn Join Pts Box Push Take Opn SOp
set_option linter.unusedVariables false
set_option linter.unusedSimpArgs false
set_option linter.unnecessarySimpa false
set_option maxRecDepth 100000
attribute [local go_sem ↓] hload_Graphics hload_Object hstore_Graphics hstore_Object hload_Page hstore_Page
theorem PgFl.closeR {w wr : World} {B X : Nat} {p : Pg} {a0 : Option Addr} {c0 : Nat} {f0 : List Nat} {a5 : Option Addr} {c5 : Nat} {P5 : List Value} {a11 : Option Addr} {c11 : Nat} {P11 : List Value} {f11 : List Nat} {a12 : Option Addr} {c12 : Nat} {P12 : List Value} {f12 : List Nat}
    (h : PgFl w B X p a0 c0 f0 a5 c5 P5 a11 c11 P11 f11 a12 c12 P12 f12) (hB : B ≤ w.heap.size) (hX : B ≤ X) (T : Turns w wr (fun b => b = X)) {a' : Option Addr} {c' : Nat} {l : List (Int × Int)} (BX : Blk wr X (pgCells (setPath p l) a0 c0 a' c' a11 c11 a12 c12)) (row : wr.ownsRow w.heap.size 109 2 (.slice a' l.length c') l.length (cellsP l)) :
    OpRes B X (some (setPath p l)) w (.returned (.bool true)) wr := by
  obtain ⟨nX, _, _⟩ := h.apart
  refine ⟨rfl, T.below hB (fun k e => e ▸ hX), fun P' hP => ?_⟩
  injection hP with hP
  subst hP
  refine h.close (g := { p.now with path := l }) T.size (fun b hb => T.block b (h.lt b hb) (fun e => nX (e ▸ hb))) rfl (a5' := a') (c5' := c') BX (row_own2 row (ownL_pts wr l)) (rowF_nodup List.nodup_nil (fun b _ hh => absurd hh List.not_mem_nil)) h.blk.2.2 hB (fun b hb => .inr ?_)
  rcases rowF_sub b hb with k | k
  · exact (rowL_ge row b k).1
  · cases k
theorem Turns.cell {w w' : World} {S : Nat → Prop} (h : Turns w w' S) {b : Nat} (hb : b < w.heap.size) (hn : ¬ S b) (o : Nat) : w'.cell? ⟨b, o, none⟩ = w.cell? ⟨b, o, none⟩ := by
  simp only [World.cell?, h.block b hb hn]
def RcAt (W : World) (X : Nat) (P : Pg) (a0 : Option Addr) (c0 : Nat) (a11 : Option Addr) (c11 : Nat) (a12 : Option Addr) (c12 : Nat) (L : List (Int × Int)) (k : Nat) (a' : Option Addr) (c' : Nat) (wr : World) : Prop :=
  Blk wr X [.slice a0 P.now.st.length c0, .int .i64 P.now.q, .int .i64 P.now.s, .int .i64 P.now.dx, .int .i64 P.now.dy, .slice a' k c', .int .i64 P.now.gray, .int .i64 P.now.x0, .int .i64 P.now.y0, .int .i64 P.now.x1, .int .i64 P.now.y1, .slice a11 P.saved.length c11, .slice a12 P.objs.length c12] ∧ Turns W wr (fun b => b = X) ∧ wr.ownsRow W.heap.size 109 2 (.slice a' k c') k (cellsP ((L.take k).map fun q => imP P.now q.1 q.2))
theorem RcAt.on {W : World} {X : Nat} {P : Pg} {a0 : Option Addr} {c0 : Nat} {a11 : Option Addr} {c11 : Nat} {a12 : Option Addr} {c12 : Nat} {L : List (Int × Int)} {k : Nat} {a' : Option Addr} {c' : Nat} {wr w' : World} (h : RcAt W X P a0 c0 a11 c11 a12 c12 L k a' c' wr) (hb : Below wr.heap.size wr w') : RcAt W X P a0 c0 a11 c11 a12 c12 L k a' c' w' :=
  ⟨h.1.keep hb, h.2.1.trans (Turns.of_below hb), row_on h.2.2 hb⟩
theorem RcAt.next {W : World} {X : Nat} {P : Pg} {a0 : Option Addr} {c0 : Nat} {a11 : Option Addr} {c11 : Nat} {a12 : Option Addr} {c12 : Nat} {L : List (Int × Int)} {k : Nat} {a' : Option Addr} {c' : Nat} {wr w6 w7 : World} (h : RcAt W X P a0 c0 a11 c11 a12 c12 L k a' c' wr) (hX : X < W.heap.size) (b6 : Below wr.heap.size wr w6) (hk : k < L.length) {x y : Int} (hx : pX L k = x) (hy : pY L k = y)
    {a2 : Option Addr} {d2 : Nat} (r7 : w7.ownsRow W.heap.size 109 2 (.slice a2 (k + 1) d2) (k + 1) (cellsP ((L.take k).map fun q => imP P.now q.1 q.2) ++ [.int .i64 (imX P.now.q P.now.s P.now.dx x y), .int .i64 (imY P.now.q P.now.s P.now.dy x y)])) (gr : w6.grownBy w7 (Value.ownBlock (.slice a' k c'))) :
    Blk w7 X [.slice a0 P.now.st.length c0, .int .i64 P.now.q, .int .i64 P.now.s, .int .i64 P.now.dx, .int .i64 P.now.dy, .slice a' k c', .int .i64 P.now.gray, .int .i64 P.now.x0, .int .i64 P.now.y0, .int .i64 P.now.x1, .int .i64 P.now.y1, .slice a11 P.saved.length c11, .slice a12 P.objs.length c12] ∧ Turns W w7 (fun b => b = X) ∧ RcAt W X P a0 c0 a11 c11 a12 c12 L (k + 1) a2 d2 (w7.setCell ⟨X, 5, none⟩ (.slice a2 (k + 1) d2)) := by
  obtain ⟨BX, T, row⟩ := h
  have z1 := T.size
  have z6 := b6.size
  have t7 : Turns w6 w7 (fun j => j ∈ rowL (.slice a' k c')) := (Turns.of_grown gr).mono (fun j hj => by simpa [rowL] using hj)
  have nX : X ∉ rowL (.slice a' k c') := fun hx => by have := (rowL_ge row X hx).1; omega
  have B7 := (BX.keep b6).turned t7 nX
  have nX2 : X ∉ rowL (.slice a2 (k + 1) d2) := fun hx => by have := (rowL_ge r7 X hx).1; omega
  have e : (L.take (k + 1)).map (fun q => imP P.now q.1 q.2) = (L.take k).map (fun q => imP P.now q.1 q.2) ++ [imP P.now x y] := by
    have e : L[k] = (x, y) := by
      have e2 : L.getD k (0, 0) = L[k] := by simp [List.getD, List.getElem?_eq_getElem hk]
      rw [← e2, ← hx, ← hy]; rfl
    rw [List.take_succ_eq_append_getElem hk, List.map_append, e]; rfl
  have hW : Turns W w7 (fun b => b = X) := by
    refine ⟨(t7.os.trans b6.os).trans T.os, (t7.tape.trans b6.tape).trans T.tape, (t7.output.trans b6.output).trans T.output, by have := t7.size; omega, fun b hb hn => ?_⟩
    rw [t7.block b (by omega) (fun hj => by have := (rowL_ge row b hj).1; omega), b6.block b (by omega), T.block b hb hn]
  refine ⟨B7, hW, Blk.put (o := 5) (P := [_, _, _, _, _]) B7 rfl (.slice a2 (k + 1) d2), turns_set (S := fun b => b = X) hW rfl _ _, ?_⟩
  · rw [e, cellsP_app]
    exact row_set r7 nX2 5 _
end Go.Proofs.YtjmfgbbngocodaaGreat.Own

