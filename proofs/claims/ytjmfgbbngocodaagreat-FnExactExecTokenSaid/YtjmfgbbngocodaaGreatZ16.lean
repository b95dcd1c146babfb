/-
  Texts of this seat, laid together: SzA, OpT, OpC
-/
import Derived.WalkKit
import Derived.Deep.DeepCutAuto
import Derived.Deep.QuietTactic
import Derived.BigQuiet
import Derived.Deep.RegionHeld3
import Derived.Handy
import Derived.Test.YtjmfgbbngocodaaGreatZ09
import Derived.Test.YtjmfgbbngocodaaGreatZ33
namespace Go.Proofs.YtjmfgbbngocodaaGreat.Own
open Go.ChangeShapes Go.WideShapes Go.ChangeAt Go.RowKit
open Kit Slabs Ints
set_option linter.unusedVariables false
set_option linter.unusedSimpArgs false
set_option linter.unnecessarySimpa false
set_option maxRecDepth 100000
set_option maxHeartbeats 4000000 in
theorem sz_Graphics (w : World) {A : Array Value} {ds : List Dt} (h : CameL w LGraphics A.toList ds) (l : Int) (l0 : 0 ≤ l) (l1 : l ≤ 1048576) :
    Calls Tryz.prog 20 #[.agg A, .int .i64 l] w fun e w' => e = .returned (.int .i64 (szv l (bulkL ds))) ∧ Below w.heap.size w w' := by
  obtain ⟨xa0, xc0, xa5, xc5, xs0, xx1_0, xx1_1, xx1_2, xx1_3, xs5, xx6_0, xx7_0, xx7_1, xx7_2, xx7_3, hA, rfl, ⟨ox0, mox0⟩, ⟨ox5, mox5⟩⟩ := invC_Graphics h
  have hbk : bulkL (.sl xs0 :: (.int xx1_0 :: (.int xx1_1 :: (.int xx1_2 :: (.int xx1_3 :: (.sl xs5 :: (.int xx6_0 :: (.int xx7_0 :: (.int xx7_1 :: (.int xx7_2 :: (.int xx7_3 :: ([])))))))))))) = ((xs0.length + bulkL xs0) + (xs5.length + bulkL xs5)) := by simp only [bulkL_app, bulkL, Dt.bulk]; omega
  rw [hbk]
  obtain ⟨y1, q1⟩ : ∃ x, szv l (xs0.length + bulkL xs0) = x := ⟨_, rfl⟩
  obtain ⟨y2, q2⟩ : ∃ x, szv y1 (xs5.length + bulkL xs5) = x := ⟨_, rfl⟩
  have BA : Blk (w.alloc (.cells A 29)) w.heap.size A.toList := Blk.new w A 29 rfl
  have hW : Below w.heap.size w (w.alloc (.cells A 29)) := by go_grown
  rw [hA] at BA
  have HO := Lib.hid (And.intro ox0 ox5)
  have HA0 := Lib.hid BA
  have HW0 := Lib.hid hW
  by_cases c1 : y1 < 0
  · have t2 : szv l ((xs0.length + bulkL xs0) + (xs5.length + bulkL xs5)) = -1 := szv_neg l0 (by rw [q1]; omega)
    have HZ := Lib.hid t2
    have ca0 : A[0]? = some (.slice xa0 xs0.length xc0) := by rw [← Array.getElem?_toList, hA]; rfl
    clear ox0 ox5 hA BA hW h hbk
    go_enter Tryz.func20, Tryz.ntmps20
    go_wp2_with fail
    ((with_reducible refine (sz_IntS _ ((HO.out.1).on HW0.out) mox0 l (by omega) (by omega)).mono ?_); rintro e w1 ⟨rfl, b1⟩)
    rw [q1]
    have HW1 := Lib.hid (on_of HW0.out b1)
    have HA1 := Lib.hid (HA0.out.keep b1)
    clear b1 ca0
    clear q1 q2
    go_wp2
    go_ret
    exact ⟨ret_int HZ.out.symm, HW1.out⟩
  · have d1 : 0 ≤ y1 := by omega
    have e1 : y1 ≤ 1048576 := by have := szv_le (a := (xs0.length + bulkL xs0)) (show 0 ≤ l by omega); rw [q1] at this; omega
    by_cases c2 : y2 < 0
    · have s2 : szv l ((xs0.length + bulkL xs0) + (xs5.length + bulkL xs5)) = y2 := by rw [← szv_add (by rw [q1]; omega), q1, q2]
      have u : y2 = -1 := by rw [← q2] at c2 ⊢; unfold szv at c2 ⊢; split at c2 <;> first | rfl | omega
      have HZ := Lib.hid (s2.trans u)
      clear u
      have ca0 : A[0]? = some (.slice xa0 xs0.length xc0) := by rw [← Array.getElem?_toList, hA]; rfl
      clear ox0 ox5 hA BA hW h hbk
      go_enter Tryz.func20, Tryz.ntmps20
      go_wp2_with fail
      ((with_reducible refine (sz_IntS _ ((HO.out.1).on HW0.out) mox0 l (by omega) (by omega)).mono ?_); rintro e w1 ⟨rfl, b1⟩)
      rw [q1]
      have HW1 := Lib.hid (on_of HW0.out b1)
      have HA1 := Lib.hid (HA0.out.keep b1)
      clear b1 ca0
      have ca1 := HA1.out.1 1 (.int .i64 xx1_0) (by rfl)
      have ca2 := HA1.out.1 2 (.int .i64 xx1_1) (by rfl)
      have ca3 := HA1.out.1 3 (.int .i64 xx1_2) (by rfl)
      have ca4 := HA1.out.1 4 (.int .i64 xx1_3) (by rfl)
      have ca5 := HA1.out.1 5 (.slice xa5 xs5.length xc5) (by rfl)
      go_wp2_with fail
      ((with_reducible refine (sz_PointS _ ((HO.out.2).on HW1.out) mox5 y1 (by omega) (by omega)).mono ?_); rintro e w2 ⟨rfl, b2⟩)
      rw [q2]
      have HW2 := Lib.hid (on_of HW1.out b2)
      have HA2 := Lib.hid (HA1.out.keep b2)
      clear b2 ca1 ca2 ca3 ca4 ca5
      clear q1 q2
      go_wp2
      go_ret
      exact ⟨ret_int HZ.out.symm, HW2.out⟩
    · have d2 : 0 ≤ y2 := by omega
      have e2 : y2 ≤ 1048576 := by have := szv_le (a := (xs5.length + bulkL xs5)) (show 0 ≤ y1 by omega); rw [q2] at this; omega
      have s2 : szv l ((xs0.length + bulkL xs0) + (xs5.length + bulkL xs5)) = y2 := by rw [← szv_add (by rw [q1]; omega), q1, q2]
      have HZ := Lib.hid s2
      have ca0 : A[0]? = some (.slice xa0 xs0.length xc0) := by rw [← Array.getElem?_toList, hA]; rfl
      clear ox0 ox5 hA BA hW h hbk
      go_enter Tryz.func20, Tryz.ntmps20
      go_wp2_with fail
      ((with_reducible refine (sz_IntS _ ((HO.out.1).on HW0.out) mox0 l (by omega) (by omega)).mono ?_); rintro e w1 ⟨rfl, b1⟩)
      rw [q1]
      have HW1 := Lib.hid (on_of HW0.out b1)
      have HA1 := Lib.hid (HA0.out.keep b1)
      clear b1 ca0
      have ca1 := HA1.out.1 1 (.int .i64 xx1_0) (by rfl)
      have ca2 := HA1.out.1 2 (.int .i64 xx1_1) (by rfl)
      have ca3 := HA1.out.1 3 (.int .i64 xx1_2) (by rfl)
      have ca4 := HA1.out.1 4 (.int .i64 xx1_3) (by rfl)
      have ca5 := HA1.out.1 5 (.slice xa5 xs5.length xc5) (by rfl)
      go_wp2_with fail
      ((with_reducible refine (sz_PointS _ ((HO.out.2).on HW1.out) mox5 y1 (by omega) (by omega)).mono ?_); rintro e w2 ⟨rfl, b2⟩)
      rw [q2]
      have HW2 := Lib.hid (on_of HW1.out b2)
      have HA2 := Lib.hid (HA1.out.keep b2)
      clear b2 ca1 ca2 ca3 ca4 ca5
      clear q1 q2
      go_wp2
      go_ret
      exact ⟨ret_int HZ.out.symm, HW2.out⟩
set_option maxHeartbeats 4000000 in
theorem sz_Object (w : World) {A : Array Value} {ds : List Dt} (h : CameL w LObject A.toList ds) (l : Int) (l0 : 0 ≤ l) (l1 : l ≤ 1048576) :
    Calls Tryz.prog 57 #[.agg A, .int .i64 l] w fun e w' => e = .returned (.int .i64 (szv l (bulkL ds))) ∧ Below w.heap.size w w' := by
  obtain ⟨xa0, xc0, xs0, xx1_0, xx2_0, xx2_1, xx2_2, xx2_3, hA, rfl, ⟨ox0, mox0⟩⟩ := invC_Object h
  have hbk : bulkL (.sl xs0 :: (.int xx1_0 :: (.int xx2_0 :: (.int xx2_1 :: (.int xx2_2 :: (.int xx2_3 :: ([]))))))) = (xs0.length + bulkL xs0) := by simp only [bulkL_app, bulkL, Dt.bulk]; omega
  rw [hbk]
  obtain ⟨y1, q1⟩ : ∃ x, szv l (xs0.length + bulkL xs0) = x := ⟨_, rfl⟩
  have BA : Blk (w.alloc (.cells A 97)) w.heap.size A.toList := Blk.new w A 97 rfl
  have hW : Below w.heap.size w (w.alloc (.cells A 97)) := by go_grown
  rw [hA] at BA
  have HO := Lib.hid (ox0)
  have HA0 := Lib.hid BA
  have HW0 := Lib.hid hW
  by_cases c1 : y1 < 0
  · have u : y1 = -1 := by rw [← q1] at c1 ⊢; unfold szv at c1 ⊢; split at c1 <;> first | rfl | omega
    have HZ := Lib.hid (q1.trans u)
    clear u
    have ca0 : A[0]? = some (.slice xa0 xs0.length xc0) := by rw [← Array.getElem?_toList, hA]; rfl
    clear ox0 hA BA hW h hbk
    go_enter Tryz.func57, Tryz.ntmps57
    go_wp2_with fail
    ((with_reducible refine (sz_PointS _ ((HO.out).on HW0.out) mox0 l (by omega) (by omega)).mono ?_); rintro e w1 ⟨rfl, b1⟩)
    rw [q1]
    have HW1 := Lib.hid (on_of HW0.out b1)
    have HA1 := Lib.hid (HA0.out.keep b1)
    clear b1 ca0
    clear q1
    go_wp2
    go_ret
    exact ⟨ret_int HZ.out.symm, HW1.out⟩
  · have d1 : 0 ≤ y1 := by omega
    have e1 : y1 ≤ 1048576 := by have := szv_le (a := (xs0.length + bulkL xs0)) (show 0 ≤ l by omega); rw [q1] at this; omega
    have HZ := Lib.hid q1
    have ca0 : A[0]? = some (.slice xa0 xs0.length xc0) := by rw [← Array.getElem?_toList, hA]; rfl
    clear ox0 hA BA hW h hbk
    go_enter Tryz.func57, Tryz.ntmps57
    go_wp2_with fail
    ((with_reducible refine (sz_PointS _ ((HO.out).on HW0.out) mox0 l (by omega) (by omega)).mono ?_); rintro e w1 ⟨rfl, b1⟩)
    rw [q1]
    have HW1 := Lib.hid (on_of HW0.out b1)
    have HA1 := Lib.hid (HA0.out.keep b1)
    clear b1 ca0
    clear q1
    go_wp2
    go_ret
    exact ⟨ret_int HZ.out.symm, HW1.out⟩
end Go.Proofs.YtjmfgbbngocodaaGreat.Own

namespace Go.Proofs.YtjmfgbbngocodaaGreat.Own
open Go.ChangeShapes Go.WideShapes Go.ChangeAt Go.RowKit
open Kit Slabs Ints Stack Point Turn Join Pts Box
set_option linter.unusedVariables false
set_option linter.unusedSimpArgs false
set_option linter.unnecessarySimpa false
set_option maxRecDepth 100000
attribute [local go_sem ↓] hload_Graphics hload_Object hstore_Graphics hstore_Object hload_Page hstore_Page
theorem PgFl.nums {w w' : World} {B X : Nat} {p : Pg} {a0 : Option Addr} {c0 : Nat} {f0 : List Nat} {a5 : Option Addr} {c5 : Nat} {P5 : List Value} {a11 : Option Addr} {c11 : Nat} {P11 : List Value} {f11 : List Nat} {a12 : Option Addr} {c12 : Nat} {P12 : List Value} {f12 : List Nat}
    (h : PgFl w B X p a0 c0 f0 a5 c5 P5 a11 c11 P11 f11 a12 c12 P12 f12) (hb : Below w.heap.size w w') (hB : B ≤ w.heap.size) (hX : B ≤ X) (q s dx dy gray x0 y0 x1 y1 : Int) {o : Nat} {vs : List Value}
    (BX : Blk (w'.setCells X o vs) X (pgCells { p with now := ⟨p.now.st, q, s, dx, dy, p.now.path, gray, x0, y0, x1, y1⟩ } a0 c0 a5 c5 a11 c11 a12 c12)) :
    Below B w (w'.setCells X o vs) ∧ PgOwn (w'.setCells X o vs) B X { p with now := ⟨p.now.st, q, s, dx, dy, p.now.path, gray, x0, y0, x1, y1⟩ } := by
  have hXl := h.blk.2.2
  obtain ⟨nX, nX5, _⟩ := h.apart
  have tt : Turns w' (w'.setCells X o vs) (fun b => b = X) := turns_sets (S := fun b => b = X) X rfl _ _ _
  have zb := hb.size
  refine ⟨(hb.mono hB).trans (tt.below (by omega) (fun k e => e ▸ hX)), ?_⟩
  refine h.close (by have := tt.size; omega) (fun b hb' => ?_) rfl BX (row_own2 (row_turned (row_on h.r5 hb) tt (fun b hb e => nX5 (e ▸ hb))) (h.o5 _)) (rowF_nodup List.nodup_nil (fun b _ hh => absurd hh List.not_mem_nil)) hXl hB (fun b hb => (rowF_sub b hb).elim .inl (fun hh => absurd hh List.not_mem_nil))
  have lb := h.lt b hb'
  rw [tt.block b (by omega) (fun (e : b = X) => nX (e ▸ hb'))]
  exact hb.block b lb
theorem four_drew {w : World} {b : Nat} {x0 y0 x1 y1 : Int} (h : Four w b x0 y0 x1 y1) : Four w.drew b x0 y0 x1 y1 := ⟨h.c0, h.c1, h.c2, h.c3, h.fr⟩
theorem gen_any {p : World → Prop} {w : World} (F : World → Prop) (hF : F w) (h : ∀ W, F W → p W) : p w := h w hF
theorem join_at (q s dx dy r t ex ey : Int) (w : World) {a b c d : Int} {v : Bool} (hv : jnB q s dx dy r t ex ey = v) (ha : sel v (jq q r) = a) (hb : sel v (s * t) = b) (hc : sel v (imX r t ex dx dy) = c) (hd : sel v (imY r t ey dx dy) = d) :
    Calls Tryz.prog 156 #[.agg #[.int .i64 q, .int .i64 s, .int .i64 dx, .int .i64 dy], .agg #[.int .i64 r, .int .i64 t, .int .i64 ex, .int .i64 ey]] w fun e w' => e = .returned (.tuple #[.agg #[.int .i64 a, .int .i64 b, .int .i64 c, .int .i64 d], .bool v]) ∧ Below w.heap.size w w' := by
  subst hv ha hb hc hd
  exact join_impl q s dx dy r t ex ey w
set_option maxHeartbeats 4000000 in
theorem op_first {w : World} {B X : Nat} {P : Pg} (h : PgAt w B X P) (hB : B ≤ w.heap.size) (hX : B ≤ X) (q s dx dy : Int) :
    Calls Tryz.prog 132 #[.pointer (some ⟨X, 0, none⟩), .agg #[.int .i64 q, .int .i64 s, .int .i64 dx, .int .i64 dy]] w (OpRes B X (if tuB P.now q s dx dy = true then some (turM P q s dx dy) else none) w) := by
  obtain ⟨a0, c0, f0, a5, c5, P5, a11, c11, P11, f11, a12, c12, P12, f12, h⟩ := h.flat
  have hXl := h.blk.2.2
  obtain ⟨v, hv⟩ : ∃ v, jnB q s dx dy P.now.q P.now.s P.now.dx P.now.dy = v := ⟨_, rfl⟩
  obtain ⟨a, ha⟩ : ∃ a, sel v (jq q P.now.q) = a := ⟨_, rfl⟩
  obtain ⟨b, hb⟩ : ∃ b, sel v (s * P.now.s) = b := ⟨_, rfl⟩
  obtain ⟨c, hc⟩ : ∃ c, sel v (imX P.now.q P.now.s P.now.dx dx dy) = c := ⟨_, rfl⟩
  obtain ⟨d, hd⟩ : ∃ d, sel v (imY P.now.q P.now.s P.now.dy dx dy) = d := ⟨_, rfl⟩
  have HR : Hid (∀ W', Below w.heap.size w W' → OpRes B X (if tuB P.now q s dx dy = true then some (turM P q s dx dy) else none) w (.returned (.bool v)) (W'.setCells X 1 [.int .i64 a, .int .i64 b, .int .i64 c, .int .i64 d])) := Lib.hid fun W' hW => by
    have hN := h.nums hW hB hX a b c d P.now.gray P.now.x0 P.now.y0 P.now.x1 P.now.y1 (o := 1) (vs := [.int .i64 a, .int .i64 b, .int .i64 c, .int .i64 d]) (Blk.sets (P := [_]) (us := [_, _, _, _]) (h.blk.keep hW) rfl rfl)
    have e : tuB P.now q s dx dy = v := hv
    rw [e]
    cases v
    · exact ⟨rfl, hN.1, fun P' hP => by cases hP⟩
    · refine ⟨rfl, hN.1, fun P' hP => ?_⟩
      injection hP with hP
      subst hP
      have e2 : turM P q s dx dy = { P with now := ⟨P.now.st, a, b, c, d, P.now.path, P.now.gray, P.now.x0, P.now.y0, P.now.x1, P.now.y1⟩ } := by simp only [turM, e, ha, hb, hc, hd]
      rw [e2]
      exact hN.2
  obtain ⟨r, hr⟩ : ∃ r, (if tuB P.now q s dx dy = true then some (turM P q s dx dy) else none) = r := ⟨_, rfl⟩
  rw [hr] at HR ⊢
  clear hr
  have HJ := Lib.hid (fun w : World => join_at q s dx dy P.now.q P.now.s P.now.dx P.now.dy w hv ha hb hc hd)
  have HC := Lib.hid h.blk
  clear h hv ha hb hc hd
  go_enter Tryz.func132, Tryz.ntmps132
  go_upto_region 1 with (fail)
  generalize hW0 : w.alloc (.cells #[.int .i64 q, .int .i64 s, .int .i64 dx, .int .i64 dy] 38) = W0
  have bW : Below w.heap.size w W0 := by rw [← hW0]; go_grown
  have G4 : Four W0 w.heap.size q s dx dy := by rw [← hW0]; exact Four.new w _ q s dx dy
  obtain ⟨g3, hg3⟩ : ∃ x, w.heap.size = x := ⟨_, rfl⟩
  rw [hg3] at G4 ⊢
  have HK := Lib.hid (fun (W : World) (hb : Below W0.heap.size W0 W) => (show W.cell? ⟨X, 1, none⟩ = some (.int .i64 P.now.q) ∧ W.cell? ⟨X, 2, none⟩ = some (.int .i64 P.now.s) ∧ W.cell? ⟨X, 3, none⟩ = some (.int .i64 P.now.dx) ∧ W.cell? ⟨X, 4, none⟩ = some (.int .i64 P.now.dy) ∧ (∀ o, W.frozen? ⟨X, o, none⟩ = false) ∧ X < W.heap.size from by
    have k := (HC.out.keep bW).keep hb
    exact ⟨k.1 1 _ rfl, k.1 2 _ rfl, k.1 3 _ rfl, k.1 4 _ rfl, k.2.1, k.2.2⟩))
  have HS := Lib.hid (fun (W : World) (hb : Below W0.heap.size W0 W) => (show (W.cell? ⟨g3, 0, none⟩ = some (.int .i64 q) ∧ W.cell? ⟨g3, 1, none⟩ = some (.int .i64 s) ∧ W.cell? ⟨g3, 2, none⟩ = some (.int .i64 dx) ∧ W.cell? ⟨g3, 3, none⟩ = some (.int .i64 dy)) ∧ (W.cell? ⟨X, 1, none⟩ = some (.int .i64 P.now.q) ∧ W.cell? ⟨X, 2, none⟩ = some (.int .i64 P.now.s) ∧ W.cell? ⟨X, 3, none⟩ = some (.int .i64 P.now.dx) ∧ W.cell? ⟨X, 4, none⟩ = some (.int .i64 P.now.dy)) from by
    have k := HK.out W hb
    obtain ⟨c0, c1, c2, c3, _⟩ := Four.lay (G4.keep hb G4.lt)
    exact ⟨⟨c0, c1, c2, c3⟩, k.1, k.2.1, k.2.2.1, k.2.2.2.1⟩))
  have HB := Lib.hid bW
  have g3W : g3 < W0.heap.size := G4.lt
  have XW : X < W0.heap.size := by have := bW.size; omega
  clear G4 bW hW0 hg3
  refine wp_region_held_drew (S := fun W => (W.cell? ⟨g3, 0, none⟩ = some (.int .i64 q) ∧ W.cell? ⟨g3, 1, none⟩ = some (.int .i64 s) ∧ W.cell? ⟨g3, 2, none⟩ = some (.int .i64 dx) ∧ W.cell? ⟨g3, 3, none⟩ = some (.int .i64 dy)) ∧ (W.cell? ⟨X, 1, none⟩ = some (.int .i64 P.now.q) ∧ W.cell? ⟨X, 2, none⟩ = some (.int .i64 P.now.s) ∧ W.cell? ⟨X, 3, none⟩ = some (.int .i64 P.now.dx) ∧ W.cell? ⟨X, 4, none⟩ = some (.int .i64 P.now.dy))) (by kernel_rfl) (HS.out _ (by go_grown)) (fun hHeld => ?_)
  refine wpAnyH_take (i := 0) (oi := _) (v := ?_) rfl (by kernel_rfl) (by kernel_rfl) (by kernel_rfl) (fun _ _ _ h => h) (Or.inl ⟨by rfl, ?_⟩) (by assumption) ?_
  rotate_left
  · (intro w hSw; (try dsimp only at hSw); go_simp; try with_reducible rfl)
  try simp only [Act.put, List.setIfInBounds_toArray, List.set_cons_zero, List.set_cons_succ]
  refine wpAnyH_take (i := 1) (oi := _) (v := ?_) rfl (by kernel_rfl) (by kernel_rfl) (by kernel_rfl) (fun _ _ _ h => h) (Or.inl ⟨by rfl, ?_⟩) (by assumption) ?_
  rotate_left
  · (intro w hSw; (try dsimp only at hSw); go_simp; try with_reducible rfl)
  try simp only [Act.put, List.setIfInBounds_toArray, List.set_cons_zero, List.set_cons_succ]
  refine wpAnyH_take (i := 2) (oi := _) (v := ?_) rfl (by kernel_rfl) (by kernel_rfl) (by kernel_rfl) (fun _ _ _ h => h) (Or.inl ⟨by rfl, ?_⟩) (by assumption) ?_
  rotate_left
  · (intro w hSw; (try dsimp only at hSw); go_simp; try with_reducible rfl)
  try simp only [Act.put, List.setIfInBounds_toArray, List.set_cons_zero, List.set_cons_succ]
  refine wpAnyH_take (i := 3) (oi := _) (v := ?_) rfl (by kernel_rfl) (by kernel_rfl) (by kernel_rfl) (fun _ _ _ h => h) (Or.inl ⟨by rfl, ?_⟩) (by assumption) ?_
  rotate_left
  · (intro w hSw; (try dsimp only at hSw); go_simp; try with_reducible rfl)
  try simp only [Act.put, List.setIfInBounds_toArray, List.set_cons_zero, List.set_cons_succ]
  refine wpAnyH_take (i := 4) (oi := _) (v := ?_) rfl (by kernel_rfl) (by kernel_rfl) (by kernel_rfl) (fun _ _ _ h => h) (Or.inl ⟨by rfl, ?_⟩) (by assumption) ?_
  rotate_left
  · (intro w hSw; (try dsimp only at hSw); go_simp; try with_reducible rfl)
  try simp only [Act.put, List.setIfInBounds_toArray, List.set_cons_zero, List.set_cons_succ]
  refine wpAnyH_ready (rs := [5, 9]) (by kernel_rfl) (by simp) ?_
  refine AllReadyH.cons (o := _) rfl (fun KK hKK => ?_) ?_
  · (go_simp; go_at_call 156; (with_reducible refine (HJ.out _).mono ?_); rintro e w5 ⟨rfl, bb⟩; (try (have zF := Four.lay (Four.keep (four_drew (Four.new W0 38 0 0 0 0)) bb (by simp)); obtain ⟨z0, z1, z2, z3, zf⟩ := zF)); have b0 := on_of (show Below W0.heap.size W0 _ from by go_grown) bb; have z5 := b0.size; have H5 := Lib.hid b0; obtain ⟨k1, k2, k3, k4, fz, lX⟩ := HK.out w5 b0)
    try go_wp2_with fail
    refine hKK.out _ _ ?_ (fun hHeld2 => ?_)
    · (try dsimp only); first | exact HS.out _ (Below.refl _ _) | exact HS.out _ H5.out | exact HS.out _ (H5.out.alloc (Nat.le_refl _) _) | (exact HS.out _ (by have := H5.out; go_grown)) | exact HS.out _ (by go_grown)
    refine wpAnyH_take (i := 6) (oi := _) (v := ?_) rfl (by kernel_rfl) (by kernel_rfl) (by kernel_rfl) (fun _ _ _ h => h) (Or.inl ⟨by rfl, ?_⟩) (by assumption) ?_
    rotate_left
    · (intro w hSw; (try dsimp only at hSw); go_simp; try with_reducible rfl)
    try simp only [Act.put, List.setIfInBounds_toArray, List.set_cons_zero, List.set_cons_succ]
    refine wpAnyH_take (i := 7) (oi := _) (v := ?_) rfl (by kernel_rfl) (by kernel_rfl) (by kernel_rfl) (fun _ _ _ h => h) (Or.inl ⟨by rfl, ?_⟩) (by assumption) ?_
    rotate_left
    · (intro w hSw; (try dsimp only at hSw); go_simp; try with_reducible rfl)
    try simp only [Act.put, List.setIfInBounds_toArray, List.set_cons_zero, List.set_cons_succ]
    refine wpAnyH_take (i := 8) (oi := _) (v := ?_) rfl (by kernel_rfl) (by kernel_rfl) (by kernel_rfl) (fun _ _ _ h => h) (Or.inl ⟨by rfl, ?_⟩) (by assumption) ?_
    rotate_left
    · (intro w hSw; (try dsimp only at hSw); go_simp; try with_reducible rfl)
    try simp only [Act.put, List.setIfInBounds_toArray, List.set_cons_zero, List.set_cons_succ]
    refine wpAnyH_ready (rs := [9]) (by kernel_rfl) (by simp) ?_
    refine AllReadyH.cons (o := _) rfl (fun KK hKK => ?_) AllReadyH.nil
    go_simp
    try go_wp2_with fail
    refine hKK.out _ _ ?_ (fun hHeld2 => ?_)
    · (try dsimp only); first | exact HS.out _ (Below.refl _ _) | exact HS.out _ H5.out | exact HS.out _ (H5.out.alloc (Nat.le_refl _) _) | (exact HS.out _ (by have := H5.out; go_grown)) | exact HS.out _ (by go_grown)
    refine wpAnyH_ready (rs := [10]) (by kernel_rfl) (by simp) ?_
    refine AllReadyH.cons (o := _) rfl (fun KK hKK => ?_) AllReadyH.nil
    go_simp
    try go_wp2_with fail
    refine hKK.out _ _ ?_ (fun hHeld2 => ?_)
    · (try dsimp only); first | exact HS.out _ (Below.refl _ _) | exact HS.out _ H5.out | exact HS.out _ (H5.out.alloc (Nat.le_refl _) _) | (exact HS.out _ (by have := H5.out; go_grown)) | exact HS.out _ (by go_grown)
    refine wpAnyH_take (i := 11) (oi := _) (v := ?_) rfl (by kernel_rfl) (by kernel_rfl) (by kernel_rfl) (fun _ _ _ h => h) (Or.inl ⟨by rfl, ?_⟩) (by assumption) ?_
    rotate_left
    · (intro w hSw; (try dsimp only at hSw); go_simp; try with_reducible rfl)
    try simp only [Act.put, List.setIfInBounds_toArray, List.set_cons_zero, List.set_cons_succ]
    refine wpAnyH_done (by kernel_rfl) ?_ _
    first
      | (refine gen_any (fun W => Four W w5.heap.size a b c d ∧ Below W0.heap.size W0 W) ⟨Four.new w5 _ a b c d, H5.out.alloc (by omega) _⟩ ?_)
      | (refine gen_any (fun W => Four W W0.heap.size a b c d ∧ Below W0.heap.size W0 W) ⟨Four.set ⟨z0, z1, z2, z3, zf⟩ a b c d, (((H5.out.setCell (p := ⟨W0.heap.size, 0, none⟩) (Nat.le_refl _) _).setCell (p := ⟨W0.heap.size, 1, none⟩) (Nat.le_refl _) _).setCell (p := ⟨W0.heap.size, 2, none⟩) (Nat.le_refl _) _).setCell (p := ⟨W0.heap.size, 3, none⟩) (Nat.le_refl _) _⟩ ?_)
    rintro W9 ⟨F9, B9⟩
    obtain ⟨d0, d1, d2, d3, _⟩ := Four.lay F9
    obtain ⟨k1, k2, k3, k4, fz, lX⟩ := HK.out W9 B9
    have H9 := Lib.hid (on_of HB.out B9)
    clear F9 B9
    go_wp2
    go_ret
    exact HR.out _ H9.out
  refine AllReadyH.cons (o := _) rfl (fun KK hKK => ?_) AllReadyH.nil
  go_simp
  try go_wp2_with fail
  refine hKK.out _ _ ?_ (fun hHeld2 => ?_)
  · (try dsimp only); first | exact HS.out _ (Below.refl _ _) | exact HS.out _ H5.out | exact HS.out _ (H5.out.alloc (Nat.le_refl _) _) | (exact HS.out _ (by have := H5.out; go_grown)) | exact HS.out _ (by go_grown)
  refine wpAnyH_ready (rs := [5]) (by kernel_rfl) (by simp) ?_
  refine AllReadyH.cons (o := _) rfl (fun KK hKK => ?_) AllReadyH.nil
  (go_simp; go_at_call 156; (with_reducible refine (HJ.out _).mono ?_); rintro e w5 ⟨rfl, bb⟩; (try (have zF := Four.lay (Four.keep (four_drew (Four.new W0 38 0 0 0 0)) bb (by simp)); obtain ⟨z0, z1, z2, z3, zf⟩ := zF)); have b0 := on_of (show Below W0.heap.size W0 _ from by go_grown) bb; have z5 := b0.size; have H5 := Lib.hid b0; obtain ⟨k1, k2, k3, k4, fz, lX⟩ := HK.out w5 b0)
  try go_wp2_with fail
  refine hKK.out _ _ ?_ (fun hHeld2 => ?_)
  · (try dsimp only); first | exact HS.out _ (Below.refl _ _) | exact HS.out _ H5.out | exact HS.out _ (H5.out.alloc (Nat.le_refl _) _) | (exact HS.out _ (by have := H5.out; go_grown)) | exact HS.out _ (by go_grown)
  refine wpAnyH_take (i := 6) (oi := _) (v := ?_) rfl (by kernel_rfl) (by kernel_rfl) (by kernel_rfl) (fun _ _ _ h => h) (Or.inl ⟨by rfl, ?_⟩) (by assumption) ?_
  rotate_left
  · (intro w hSw; (try dsimp only at hSw); go_simp; try with_reducible rfl)
  try simp only [Act.put, List.setIfInBounds_toArray, List.set_cons_zero, List.set_cons_succ]
  refine wpAnyH_take (i := 7) (oi := _) (v := ?_) rfl (by kernel_rfl) (by kernel_rfl) (by kernel_rfl) (fun _ _ _ h => h) (Or.inl ⟨by rfl, ?_⟩) (by assumption) ?_
  rotate_left
  · (intro w hSw; (try dsimp only at hSw); go_simp; try with_reducible rfl)
  try simp only [Act.put, List.setIfInBounds_toArray, List.set_cons_zero, List.set_cons_succ]
  refine wpAnyH_take (i := 8) (oi := _) (v := ?_) rfl (by kernel_rfl) (by kernel_rfl) (by kernel_rfl) (fun _ _ _ h => h) (Or.inl ⟨by rfl, ?_⟩) (by assumption) ?_
  rotate_left
  · (intro w hSw; (try dsimp only at hSw); go_simp; try with_reducible rfl)
  try simp only [Act.put, List.setIfInBounds_toArray, List.set_cons_zero, List.set_cons_succ]
  refine wpAnyH_ready (rs := [10]) (by kernel_rfl) (by simp) ?_
  refine AllReadyH.cons (o := _) rfl (fun KK hKK => ?_) AllReadyH.nil
  go_simp
  try go_wp2_with fail
  refine hKK.out _ _ ?_ (fun hHeld2 => ?_)
  · (try dsimp only); first | exact HS.out _ (Below.refl _ _) | exact HS.out _ H5.out | exact HS.out _ (H5.out.alloc (Nat.le_refl _) _) | (exact HS.out _ (by have := H5.out; go_grown)) | exact HS.out _ (by go_grown)
  refine wpAnyH_take (i := 11) (oi := _) (v := ?_) rfl (by kernel_rfl) (by kernel_rfl) (by kernel_rfl) (fun _ _ _ h => h) (Or.inl ⟨by rfl, ?_⟩) (by assumption) ?_
  rotate_left
  · (intro w hSw; (try dsimp only at hSw); go_simp; try with_reducible rfl)
  try simp only [Act.put, List.setIfInBounds_toArray, List.set_cons_zero, List.set_cons_succ]
  refine wpAnyH_done (by kernel_rfl) ?_ _
  first
    | (refine gen_any (fun W => Four W w5.heap.size a b c d ∧ Below W0.heap.size W0 W) ⟨Four.new w5 _ a b c d, H5.out.alloc (by omega) _⟩ ?_)
    | (refine gen_any (fun W => Four W W0.heap.size a b c d ∧ Below W0.heap.size W0 W) ⟨Four.set ⟨z0, z1, z2, z3, zf⟩ a b c d, (((H5.out.setCell (p := ⟨W0.heap.size, 0, none⟩) (Nat.le_refl _) _).setCell (p := ⟨W0.heap.size, 1, none⟩) (Nat.le_refl _) _).setCell (p := ⟨W0.heap.size, 2, none⟩) (Nat.le_refl _) _).setCell (p := ⟨W0.heap.size, 3, none⟩) (Nat.le_refl _) _⟩ ?_)
  rintro W9 ⟨F9, B9⟩
  obtain ⟨d0, d1, d2, d3, _⟩ := Four.lay F9
  obtain ⟨k1, k2, k3, k4, fz, lX⟩ := HK.out W9 B9
  have H9 := Lib.hid (on_of HB.out B9)
  clear F9 B9
  go_wp2
  go_ret
  exact HR.out _ H9.out
theorem PgAt.on {w w' : World} {B X : Nat} {P : Pg} (h : PgAt w B X P) (hb : Below w.heap.size w w') : PgAt w' B X P := by
  obtain ⟨a0, c0, f0, a5, c5, P5, a11, c11, P11, f11, a12, c12, P12, f12, h⟩ := h.flat
  exact (h.on hb).at_
theorem OpRes.from {w w0 w' : World} {B X : Nat} {r : Option Pg} {e : Ending} (h : OpRes B X r w e w') (hb : Below B w0 w) : OpRes B X r w0 e w' := ⟨h.1, hb.trans h.2.1, h.2.2⟩
set_option maxHeartbeats 2000000 in
theorem op_shift {w : World} {B X : Nat} {P : Pg} (h : PgAt w B X P) (hB : B ≤ w.heap.size) (hX : B ≤ X) (g2 c2 : Nat) (x y : Int) (hx : w.cell? ⟨g2, 0, none⟩ = some (.int .i64 x)) (hy : w.cell? ⟨g2, 1, none⟩ = some (.int .i64 y)) :
    Calls Tryz.prog 131 #[.pointer (some ⟨X, 0, none⟩), .slice (some ⟨g2, 0, none⟩) 2 c2] w (OpRes B X (if tuB P.now 0 1 x y = true then some (turM P 0 1 x y) else none) w) := by
  have HC := Lib.hid (op_first (w := w.drew) (h.on (show Below w.heap.size w w.drew from by go_grown)) hB hX 0 1 x y)
  obtain ⟨r, hr⟩ : ∃ r, (if tuB P.now 0 1 x y = true then some (turM P 0 1 x y) else none) = r := ⟨_, rfl⟩
  rw [hr] at HC ⊢
  clear h hr
  go_enter Tryz.func131, Tryz.ntmps131
  go_upto_region 1 with (fail)
  go_region_law (go_simp; go_at_call 132; (with_reducible refine (HC.out).mono ?_); rintro e w5 ⟨rfl, bb, pp⟩; have HR := Lib.hid (OpRes.from (e := .returned (.bool r.isSome)) ⟨rfl, bb, pp⟩ (show Below B w w.drew from (show Below w.heap.size w w.drew from by go_grown).mono hB)); clear bb pp)
  all_goals
    go_wp2
    go_ret
    exact HR.out
set_option maxHeartbeats 2000000 in
theorem op_turn {w : World} {B X : Nat} {P : Pg} (h : PgAt w B X P) (hB : B ≤ w.heap.size) (hX : B ≤ X) (g2 c2 : Nat) (x : Int) (hx : w.cell? ⟨g2, 0, none⟩ = some (.int .i64 x)) :
    Calls Tryz.prog 133 #[.pointer (some ⟨X, 0, none⟩), .slice (some ⟨g2, 0, none⟩) 1 c2] w (OpRes B X (if tuB P.now x 1 0 0 = true then some (turM P x 1 0 0) else none) w) := by
  have HC := Lib.hid (op_first (w := w.drew) (h.on (show Below w.heap.size w w.drew from by go_grown)) hB hX x 1 0 0)
  obtain ⟨r, hr⟩ : ∃ r, (if tuB P.now x 1 0 0 = true then some (turM P x 1 0 0) else none) = r := ⟨_, rfl⟩
  rw [hr] at HC ⊢
  clear h hr
  go_enter Tryz.func133, Tryz.ntmps133
  go_upto_region 1 with (fail)
  go_region_law (go_simp; go_at_call 132; (with_reducible refine (HC.out).mono ?_); rintro e w5 ⟨rfl, bb, pp⟩; have HR := Lib.hid (OpRes.from (e := .returned (.bool r.isSome)) ⟨rfl, bb, pp⟩ (show Below B w w.drew from (show Below w.heap.size w w.drew from by go_grown).mono hB)); clear bb pp)
  all_goals
    go_wp2
    go_ret
    exact HR.out
set_option maxHeartbeats 2000000 in
theorem op_scale {w : World} {B X : Nat} {P : Pg} (h : PgAt w B X P) (hB : B ≤ w.heap.size) (hX : B ≤ X) (g2 c2 : Nat) (x : Int) (hx : w.cell? ⟨g2, 0, none⟩ = some (.int .i64 x)) :
    Calls Tryz.prog 134 #[.pointer (some ⟨X, 0, none⟩), .slice (some ⟨g2, 0, none⟩) 1 c2] w (OpRes B X (if tuB P.now 0 x 0 0 = true then some (turM P 0 x 0 0) else none) w) := by
  have HC := Lib.hid (op_first (w := w.drew) (h.on (show Below w.heap.size w w.drew from by go_grown)) hB hX 0 x 0 0)
  obtain ⟨r, hr⟩ : ∃ r, (if tuB P.now 0 x 0 0 = true then some (turM P 0 x 0 0) else none) = r := ⟨_, rfl⟩
  rw [hr] at HC ⊢
  clear h hr
  go_enter Tryz.func134, Tryz.ntmps134
  go_upto_region 1 with (fail)
  go_region_law (go_simp; go_at_call 132; (with_reducible refine (HC.out).mono ?_); rintro e w5 ⟨rfl, bb, pp⟩; have HR := Lib.hid (OpRes.from (e := .returned (.bool r.isSome)) ⟨rfl, bb, pp⟩ (show Below B w w.drew from (show Below w.heap.size w w.drew from by go_grown).mono hB)); clear bb pp)
  all_goals
    go_wp2
    go_ret
    exact HR.out
end Go.Proofs.YtjmfgbbngocodaaGreat.Own

namespace Go.Proofs.YtjmfgbbngocodaaGreat.Own
open Go.ChangeShapes Go.WideShapes Go.ChangeAt Go.RowKit
open Kit Slabs Ints Stack Point Turn Join Pts Box
set_option linter.unusedVariables false
set_option linter.unusedSimpArgs false
set_option linter.unnecessarySimpa false
set_option maxRecDepth 100000
attribute [local go_sem ↓] hload_Graphics hload_Object hstore_Graphics hstore_Object hload_Page hstore_Page
theorem PgFl.clip {w w' : World} {B X : Nat} {p : Pg} {a0 : Option Addr} {c0 : Nat} {f0 : List Nat} {a5 : Option Addr} {c5 : Nat} {P5 : List Value} {a11 : Option Addr} {c11 : Nat} {P11 : List Value} {f11 : List Nat} {a12 : Option Addr} {c12 : Nat} {P12 : List Value} {f12 : List Nat}
    (h : PgFl w B X p a0 c0 f0 a5 c5 P5 a11 c11 P11 f11 a12 c12 P12 f12) (hb : Below w.heap.size w w') (hB : B ≤ w.heap.size) (hX : B ≤ X) (x0 y0 x1 y1 : Int) :
    OpRes B X (some { p with now := { p.now with path := [], x0 := x0, y0 := y0, x1 := x1, y1 := y1 } }) w (.returned (.bool true)) ((w'.setCells X 7 [.int .i64 x0, .int .i64 y0, .int .i64 x1, .int .i64 y1]).setCell ⟨X, 5, none⟩ (.slice none 0 0)) := by
  have hXl := h.blk.2.2
  obtain ⟨nX, nX5, _⟩ := h.apart
  have BX := Blk.put (o := 5) (P := [_, _, _, _, _]) (Blk.sets (P := [_, _, _, _, _, _, _]) (us := [_, _, _, _]) (vs := [.int .i64 x0, .int .i64 y0, .int .i64 x1, .int .i64 y1]) (h.blk.keep hb) rfl rfl) rfl (.slice none 0 0)
  have tt : Turns w' ((w'.setCells X 7 [.int .i64 x0, .int .i64 y0, .int .i64 x1, .int .i64 y1]).setCell ⟨X, 5, none⟩ (.slice none 0 0)) (fun b => b = X) := turns_set (S := fun b => b = X) (turns_sets (S := fun b => b = X) X rfl _ _ _) rfl _ _
  generalize (w'.setCells X 7 [.int .i64 x0, .int .i64 y0, .int .i64 x1, .int .i64 y1]).setCell ⟨X, 5, none⟩ (.slice none 0 0) = V at *
  have zb := hb.size
  refine ⟨rfl, (hb.mono hB).trans (tt.below (by omega) (fun k e => e ▸ hX)), fun P' hP => ?_⟩
  injection hP with hP
  subst hP
  refine h.close (by have := tt.size; omega) (fun b hb' => ?_) (g := { p.now with path := [], x0 := x0, y0 := y0, x1 := x1, y1 := y1 }) rfl (a5' := none) (c5' := 0) BX (.nil none 0) List.nodup_nil hXl hB (fun b hb => absurd hb List.not_mem_nil)
  have lb := h.lt b hb'
  rw [tt.block b (by omega) (fun (e : b = X) => nX (e ▸ hb'))]
  exact hb.block b lb
set_option maxHeartbeats 4000000 in
theorem op_clip {w : World} {B X : Nat} {P : Pg} (h : PgAt w B X P) (hB : B ≤ w.heap.size) (hX : B ≤ X) (hl : P.now.path.length ≤ 8) (u : Value) :
    Calls Tryz.prog 128 #[.pointer (some ⟨X, 0, none⟩), u] w (OpRes B X (if P.now.path.length = 0 then none else some (cliM P)) w) := by
  obtain ⟨a0, c0, f0, a5, c5, P5, a11, c11, P11, f11, a12, c12, P12, f12, h⟩ := h.flat
  obtain ⟨n, hN⟩ : ∃ n, P.now.path.length = n := ⟨_, rfl⟩
  have k5 := h.blk.1 5 _ rfl
  rw [hN] at k5 hl ⊢
  by_cases h0 : n = 0
  · subst h0
    have HN : Hid (OpRes B X none w (.returned (.bool false)) w) := Lib.hid ⟨rfl, (Below.refl _ _).mono hB, fun P' hP => by cases hP⟩
    clear h hN
    go_enter Tryz.func128, Tryz.ntmps128
    go_wp2
    go_ret
    exact HN.out
  · rw [if_neg h0]
    obtain ⟨_, hp⟩ := path_of (row_own2 h.r5 (h.o5 w))
    have hp : ∃ g, a5 = some ⟨g, 0, none⟩ ∧ g < w.heap.size ∧ PtsAt w g n (pX P.now.path) (pY P.now.path) := by
      rcases hp with hp | ⟨g, e, hg, hp⟩
      · exact absurd (by rw [← hN, hp]; rfl) h0
      · exact ⟨g, e, hg, fun i hi => hp i (by rw [hN]; exact hi)⟩
    obtain ⟨g, rfl, hg, hp⟩ := hp
    obtain ⟨m0, hm0⟩ : ∃ x, sel (clB P.now) (mx P.now.x0 (bx0 P.now.path)) = x := ⟨_, rfl⟩
    obtain ⟨m1, hm1⟩ : ∃ x, sel (clB P.now) (mx P.now.y0 (bx1 P.now.path)) = x := ⟨_, rfl⟩
    obtain ⟨m2, hm2⟩ : ∃ x, sel (clB P.now) (mn P.now.x1 (bx2 P.now.path)) = x := ⟨_, rfl⟩
    obtain ⟨m3, hm3⟩ : ∃ x, sel (clB P.now) (mn P.now.y1 (bx3 P.now.path)) = x := ⟨_, rfl⟩
    have hM : ∀ w : World, Calls Tryz.prog 153 #[.agg #[.int .i64 P.now.x0, .int .i64 P.now.y0, .int .i64 P.now.x1, .int .i64 P.now.y1], .agg #[.int .i64 (bx0 P.now.path), .int .i64 (bx1 P.now.path), .int .i64 (bx2 P.now.path), .int .i64 (bx3 P.now.path)]] w fun e w' => e = .returned (.agg #[.int .i64 m0, .int .i64 m1, .int .i64 m2, .int .i64 m3]) ∧ Below w.heap.size w w' := fun w => by
      subst hm0 hm1 hm2 hm3
      exact meet_impl P.now.x0 P.now.y0 P.now.x1 P.now.y1 (bx0 P.now.path) (bx1 P.now.path) (bx2 P.now.path) (bx3 P.now.path) w
    have HF := Lib.hid (fun (W : World) (hb : Below w.heap.size w W) => (show OpRes B X (some (cliM P)) w (.returned (.bool true)) ((W.setCells X 7 [.int .i64 m0, .int .i64 m1, .int .i64 m2, .int .i64 m3]).setCell ⟨X, 5, none⟩ (.slice none 0 0)) from by
      have := h.clip hb hB hX m0 m1 m2 m3
      subst hm0 hm1 hm2 hm3
      exact this))
    have hBx : Calls Tryz.prog 154 #[.slice (some ⟨g, 0, none⟩) n c5] w.drew fun e w' => e = .returned (.agg #[.int .i64 (bx0 P.now.path), .int .i64 (bx1 P.now.path), .int .i64 (bx2 P.now.path), .int .i64 (bx3 P.now.path)]) ∧ Below w.heap.size w w' := by
      refine (boxof_impl g n c5 (pX P.now.path) (pY P.now.path) w.drew (by omega) (by simpa using hg) hp).mono ?_
      rintro e w' ⟨rfl, hb⟩
      refine ⟨?_, on_of (show Below w.heap.size w w.drew from by go_grown) hb⟩
      simp only [boxofV, bx0, bx1, bx2, bx3, bxB, hN]
    obtain ⟨b0, hb0⟩ : ∃ x, bx0 P.now.path = x := ⟨_, rfl⟩
    obtain ⟨b1, hb1⟩ : ∃ x, bx1 P.now.path = x := ⟨_, rfl⟩
    obtain ⟨b2, hb2⟩ : ∃ x, bx2 P.now.path = x := ⟨_, rfl⟩
    obtain ⟨b3, hb3⟩ : ∃ x, bx3 P.now.path = x := ⟨_, rfl⟩
    rw [hb0, hb1, hb2, hb3] at hBx
    simp only [hb0, hb1, hb2, hb3] at hM
    have HM := Lib.hid hM
    have HBx := Lib.hid hBx
    have n0 : ((n : Int) == 0) = false := by simp; omega
    have HK := Lib.hid (fun (W : World) (hb : Below w.heap.size w W) => (show (W.cell? ⟨X, 7, none⟩ = some (.int .i64 P.now.x0) ∧ W.cell? ⟨X, 8, none⟩ = some (.int .i64 P.now.y0) ∧ W.cell? ⟨X, 9, none⟩ = some (.int .i64 P.now.x1) ∧ W.cell? ⟨X, 10, none⟩ = some (.int .i64 P.now.y1)) ∧ W.cell? ⟨X, 5, none⟩ = some (.slice (some ⟨g, 0, none⟩) n c5) ∧ (∀ o, W.frozen? ⟨X, o, none⟩ = false) from by
      have k := h.blk.keep hb
      rw [← hN]
      exact ⟨⟨k.1 7 _ rfl, k.1 8 _ rfl, k.1 9 _ rfl, k.1 10 _ rfl⟩, k.1 5 _ rfl, k.2.1⟩))
    obtain ⟨⟨k7, k8, k9, k10⟩, _, fz⟩ := HK.out w (Below.refl _ _)
    clear h hN h0 hp hM hBx hm0 hm1 hm2 hm3 hb0 hb1 hb2 hb3
    go_enter Tryz.func128, Tryz.ntmps128
    go_upto_region 3 with (fail)
    go_region_law (first
      | (go_simp; go_at_call 154; (with_reducible refine (HBx.out).mono ?_); rintro e w5 ⟨rfl, b5⟩; have H5 := Lib.hid b5; obtain ⟨⟨j7, j8, j9, j10⟩, j5, fj⟩ := HK.out w5 b5; clear b5)
      | (go_simp; go_at_call 153; (with_reducible refine (HM.out _).mono ?_); rintro e w6 ⟨rfl, b6⟩; have b6 := on_of H5.out b6; have H6 := Lib.hid b6; obtain ⟨⟨i7, i8, i9, i10⟩, i5, fi⟩ := HK.out w6 b6; clear b6))
    all_goals
      go_wp2
      go_ret
      exact HF.out _ H6.out
end Go.Proofs.YtjmfgbbngocodaaGreat.Own

