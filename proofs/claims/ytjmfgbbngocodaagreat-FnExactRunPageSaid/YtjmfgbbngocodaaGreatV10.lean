/-
  Texts of this seat, laid together: MkA, OpC, FlatC
-/
import Derived.WalkKit
import Derived.Deep.DeepCutAuto
import Derived.Deep.QuietTactic
import Derived.BigQuiet
import Derived.Deep.RegionHeld3
import Derived.Handy
import Derived.Deep.AppendLies
import Derived.Test.YtjmfgbbngocodaaGreatV09
import Derived.Test.YtjmfgbbngocodaaGreatV28
import Derived.Test.YtjmfgbbngocodaaGreatV18
namespace Go.Proofs.YtjmfgbbngocodaaGreat.Own
open Go.ChangeShapes Go.WideShapes Go.ChangeAt Go.RowKit
open Kit Slabs Ints
set_option linter.unusedVariables false
set_option linter.unusedSimpArgs false
set_option linter.unnecessarySimpa false
set_option maxRecDepth 100000
set_option maxHeartbeats 4000000 in
theorem mark_Graphics (w : World) (N : Nat) {A : Array Value} {ds : List Dt} {fp : List Nat} (hb : bulkL ds ≤ 1048576) (h0 : 0 < N) (hN : N + cnt0L ds ≤ 1000000000) (h : OwnL w LGraphics A.toList ds fp) (hd : fp.Nodup) :
    Calls Tryz.prog 43 #[.agg A, .int .i64 (N : Int)] w fun e w' => e = .returned (.int .i64 ((N + cnt0L ds : Nat) : Int)) ∧ OwnL w' LGraphics A.toList (mk0L ds N) fp ∧ Turns w w' (fun b => b ∈ fp) := by
  obtain ⟨xa0, xc0, xa5, xc5, xs0, xx1_0, xx1_1, xx1_2, xx1_3, xs5, xx6_0, xx7_0, xx7_1, xx7_2, xx7_3, xF0, xF5, hA, rfl, rfl, ox0, ox5⟩ := inv_Graphics h
  obtain ⟨nd0, r0, x0⟩ := nodup_parts hd
  obtain ⟨nd1, r1, x1⟩ := nodup_parts r0
  have d0_1 : ∀ b ∈ xF0, b ∉ xF5 := fun b ha hb => x0 b ha (List.mem_append_left _ hb)
  have d1_0 : ∀ b ∈ xF5, b ∉ xF0 := fun b ha hb => d0_1 b hb ha
  have hc : N + cnt0L (.sl xs0 :: (.int xx1_0 :: (.int xx1_1 :: (.int xx1_2 :: (.int xx1_3 :: (.sl xs5 :: (.int xx6_0 :: (.int xx7_0 :: (.int xx7_1 :: (.int xx7_2 :: (.int xx7_3 :: ([])))))))))))) = ((N + cntL xs0) + cntL xs5) := by simp only [cnt0L_app, cnt0L, Dt.cnt0]; omega
  have hm : mk0L (.sl xs0 :: (.int xx1_0 :: (.int xx1_1 :: (.int xx1_2 :: (.int xx1_3 :: (.sl xs5 :: (.int xx6_0 :: (.int xx7_0 :: (.int xx7_1 :: (.int xx7_2 :: (.int xx7_3 :: ([])))))))))))) N = .sl (mkL xs0 N) :: (.int xx1_0 :: (.int xx1_1 :: (.int xx1_2 :: (.int xx1_3 :: (.sl (mkL xs5 (N + cntL xs0)) :: (.int xx6_0 :: (.int xx7_0 :: (.int xx7_1 :: (.int xx7_2 :: (.int xx7_3 :: ([]))))))))))) := by simp only [mk0L_app, mk0L, Dt.mk0, cnt0L_app, cnt0L, Dt.cnt0, Nat.add_zero, Nat.add_assoc]
  obtain ⟨M1, hM1⟩ : ∃ M, N + cntL xs0 = M := ⟨_, rfl⟩
  simp only [hM1] at hc hm
  obtain ⟨M2, hM2⟩ : ∃ M, M1 + cntL xs5 = M := ⟨_, rfl⟩
  simp only [hM2] at hc hm
  rw [hc] at hN ⊢
  rw [hm]
  clear hc hm
  simp only [bulkL_app, bulkL, Dt.bulk] at hb
  have BA : Blk (w.alloc (.cells A 42)) w.heap.size A.toList := Blk.new w A 42 rfl
  have hT : Turns w (w.alloc (.cells A 42)) (fun b => b ∈ xF0 ++ (xF5 ++ ([]))) := Turns.of_below (by go_grown)
  rw [hA] at BA ⊢
  have lt0 := ox0.lt
  have ne0 : ¬ (w.heap.size ∈ xF0) := fun hb => by have := lt0 _ hb; omega
  have p0 := ox0.under (w' := w.alloc (.cells A 42)) (by go_grown)
  have lt1 := ox5.lt
  have ne1 : ¬ (w.heap.size ∈ xF5) := fun hb => by have := lt1 _ hb; omega
  have p1 := ox5.under (w' := w.alloc (.cells A 42)) (by go_grown)
  have HO0 := Lib.hid (And.intro p0 p1)
  have HA0 := Lib.hid BA
  have HT0 := Lib.hid hT
  have ca0 : A[0]? = some (.slice xa0 xs0.length xc0) := by rw [← Array.getElem?_toList, hA]; rfl
  clear ox0 ox5 hA BA hT h hd p0 lt0 p1 lt1
  go_enter Tryz.func43, Tryz.ntmps43
  go_wp2_with fail
  ((with_reducible refine (mark_IntS _ N (by omega) (by omega) (by omega) (HO0.out.1) nd0).mono ?_); rintro e w1 ⟨rfl, o1, b1⟩)
  rw [hM1]
  have HO1 := Lib.hid (And.intro o1 ((HO0.out.2).turned b1 d1_0))
  have HA1 := Lib.hid (HA0.out.turned b1 ne0)
  have HT1 := Lib.hid (HT0.out.trans (b1.mono (fun _ hk => List.mem_append_left _ hk)))
  clear o1 b1 ca0
  have ca1 := HA1.out.1 1 (.int .i64 xx1_0) (by rfl)
  have ca2 := HA1.out.1 2 (.int .i64 xx1_1) (by rfl)
  have ca3 := HA1.out.1 3 (.int .i64 xx1_2) (by rfl)
  have ca4 := HA1.out.1 4 (.int .i64 xx1_3) (by rfl)
  have ca5 := HA1.out.1 5 (.slice xa5 xs5.length xc5) (by rfl)
  go_wp2_with fail
  ((with_reducible refine (mark_PointS _ M1 (by omega) (by omega) (by omega) (HO1.out.2) nd1).mono ?_); rintro e w2 ⟨rfl, o2, b2⟩)
  rw [hM2]
  have HO2 := Lib.hid (And.intro ((HO1.out.1).turned b2 d0_1) o2)
  have HA2 := Lib.hid (HA1.out.turned b2 ne1)
  have HT2 := Lib.hid (HT1.out.trans (b2.mono (fun _ hk => List.mem_append_right _ (List.mem_append_left _ hk))))
  clear o2 b2 ca1 ca2 ca3 ca4 ca5
  go_wp2
  go_ret
  exact ⟨rfl, .cons (cs := [.slice xa0 xs0.length xc0]) (fp := xF0) (HO2.out.1) (.cons (cs := [.int .i64 xx1_0]) (fp := []) (.int xx1_0) (.cons (cs := [.int .i64 xx1_1]) (fp := []) (.int xx1_1) (.cons (cs := [.int .i64 xx1_2]) (fp := []) (.int xx1_2) (.cons (cs := [.int .i64 xx1_3]) (fp := []) (.int xx1_3) (.cons (cs := [.slice xa5 xs5.length xc5]) (fp := xF5) (HO2.out.2) (.cons (cs := [.int .i64 xx6_0]) (fp := []) (.int xx6_0) (.cons (cs := [.int .i64 xx7_0]) (fp := []) (.int xx7_0) (.cons (cs := [.int .i64 xx7_1]) (fp := []) (.int xx7_1) (.cons (cs := [.int .i64 xx7_2]) (fp := []) (.int xx7_2) (.cons (cs := [.int .i64 xx7_3]) (fp := []) (.int xx7_3) (.nil))))))))))), HT2.out⟩
set_option maxHeartbeats 4000000 in
theorem held_Graphics (w : World) (N : Nat) {A : Array Value} {ds : List Dt} {cs0 : List Value} {fp fq : List Nat} {w0 : World} (hb : bulkL ds ≤ 1048576) (h0 : 0 < N) (hN : N + cnt0L ds ≤ 1000000000) (hs : OwnL w0 LGraphics cs0 ds fq) (h : OwnL w LGraphics A.toList (mk0L ds N) fp) :
    Calls Tryz.prog 46 #[.agg A, .int .i64 (N : Int)] w fun e w' => e = .returned (.int .i64 ((N + cnt0L ds : Nat) : Int)) ∧ Below w.heap.size w w' := by
  obtain ⟨xa0, xc0, xa5, xc5, xs0, xx1_0, xx1_1, xx1_2, xx1_3, xs5, xx6_0, xx7_0, xx7_1, xx7_2, xx7_3, xF0, xF5, _, rfl, _, ox0, ox5⟩ := inv_Graphics hs
  have hc : N + cnt0L (.sl xs0 :: (.int xx1_0 :: (.int xx1_1 :: (.int xx1_2 :: (.int xx1_3 :: (.sl xs5 :: (.int xx6_0 :: (.int xx7_0 :: (.int xx7_1 :: (.int xx7_2 :: (.int xx7_3 :: ([])))))))))))) = ((N + cntL xs0) + cntL xs5) := by simp only [cnt0L_app, cnt0L, Dt.cnt0]; omega
  have hm : mk0L (.sl xs0 :: (.int xx1_0 :: (.int xx1_1 :: (.int xx1_2 :: (.int xx1_3 :: (.sl xs5 :: (.int xx6_0 :: (.int xx7_0 :: (.int xx7_1 :: (.int xx7_2 :: (.int xx7_3 :: ([])))))))))))) N = .sl (mkL xs0 N) :: (.int xx1_0 :: (.int xx1_1 :: (.int xx1_2 :: (.int xx1_3 :: (.sl (mkL xs5 (N + cntL xs0)) :: (.int xx6_0 :: (.int xx7_0 :: (.int xx7_1 :: (.int xx7_2 :: (.int xx7_3 :: ([]))))))))))) := by simp only [mk0L_app, mk0L, Dt.mk0, cnt0L_app, cnt0L, Dt.cnt0, Nat.add_zero, Nat.add_assoc]
  obtain ⟨M1, hM1⟩ : ∃ M, N + cntL xs0 = M := ⟨_, rfl⟩
  simp only [hM1] at hc hm
  obtain ⟨M2, hM2⟩ : ∃ M, M1 + cntL xs5 = M := ⟨_, rfl⟩
  simp only [hM2] at hc hm
  rw [hc] at hN ⊢
  rw [hm] at h
  clear hc hm
  simp only [bulkL_app, bulkL, Dt.bulk] at hb
  obtain ⟨ya0, yc0, ya5, yc5, yF0, yF5, hA, rfl, oy0, oy5⟩ := inv_Graphics_ h
  simp only [mkL_length] at hA oy0 oy5
  have BA : Blk (w.alloc (.cells A 42)) w.heap.size A.toList := Blk.new w A 42 rfl
  have hW : Below w.heap.size w (w.alloc (.cells A 42)) := by go_grown
  rw [hA] at BA
  have HS := Lib.hid (And.intro ox0 ox5)
  have HO := Lib.hid (And.intro oy0 oy5)
  have HA0 := Lib.hid BA
  have HW0 := Lib.hid hW
  have ca0 : A[0]? = some (.slice ya0 xs0.length yc0) := by rw [← Array.getElem?_toList, hA]; rfl
  clear ox0 ox5 oy0 oy5 hA BA hW h hs
  go_enter Tryz.func46, Tryz.ntmps46
  go_wp2_with fail
  ((with_reducible refine (held_IntS _ N (by omega) (by omega) (by omega) (HS.out.1) ((HO.out.1).under HW0.out)).mono ?_); rintro e w1 ⟨rfl, b1⟩)
  rw [hM1]
  have HW1 := Lib.hid (on_of HW0.out b1)
  have HA1 := Lib.hid (HA0.out.keep b1)
  have g1 : ¬ (((M1 : Nat) : Int) < 0) := by omega
  clear b1 ca0
  have ca1 := HA1.out.1 1 (.int .i64 xx1_0) (by rfl)
  have ca2 := HA1.out.1 2 (.int .i64 xx1_1) (by rfl)
  have ca3 := HA1.out.1 3 (.int .i64 xx1_2) (by rfl)
  have ca4 := HA1.out.1 4 (.int .i64 xx1_3) (by rfl)
  have ca5 := HA1.out.1 5 (.slice ya5 xs5.length yc5) (by rfl)
  go_wp2_with fail
  ((with_reducible refine (held_PointS _ M1 (by omega) (by omega) (by omega) (HS.out.2) ((HO.out.2).under HW1.out)).mono ?_); rintro e w2 ⟨rfl, b2⟩)
  rw [hM2]
  have HW2 := Lib.hid (on_of HW1.out b2)
  have HA2 := Lib.hid (HA1.out.keep b2)
  have g2 : ¬ (((M2 : Nat) : Int) < 0) := by omega
  clear b2 ca1 ca2 ca3 ca4 ca5
  go_wp2
  go_ret
  exact ⟨rfl, HW2.out⟩
end Go.Proofs.YtjmfgbbngocodaaGreat.Own

namespace Go.Proofs.YtjmfgbbngocodaaGreat.Own
open Go.ChangeShapes Go.WideShapes Go.ChangeAt Go.RowKit
open Kit Slabs Ints Stack Point Turn Join Pts Box
set_option linter.unusedVariables false
set_option linter.unusedSimpArgs false
set_option linter.unnecessarySimpa false
set_option maxRecDepth 100000
attribute [local go_sem ↓] hload_Graphics hload_Object hstore_Graphics hstore_Object hload_Page hstore_Page
theorem PgFl.clip {w w' : World} {B X : Nat} {p : Pg} {a0 : Option Addr} {c0 : Nat} {f0 : List Nat} {a5 : Option Addr} {c5 : Nat} {P5 : List Value} {a11 : Option Addr} {c11 : Nat} {P11 : List Value} {f11 : List Nat} {a12 : Option Addr} {c12 : Nat} {P12 : List Value} {f12 : List Nat}
    (h : PgFl w B X p a0 c0 f0 a5 c5 P5 a11 c11 P11 f11 a12 c12 P12 f12) (hb : Below w.heap.size w w') (hB : B ≤ w.heap.size) (hX : B ≤ X) (x0 y0 x1 y1 : Int) :
    OpRes B X (some { p with now := { p.now with path := [], x0 := x0, y0 := y0, x1 := x1, y1 := y1 } }) w (.returned (.bool true)) ((w'.setCells X 7 [.int .i64 x0, .int .i64 y0, .int .i64 x1, .int .i64 y1]).setCell ⟨X, 5, none⟩ (.slice none 0 0)) := by
  have hXl := h.blk.2.2
  obtain ⟨nX, nX5, _⟩ := h.apart
  have BX := Blk.put (o := 5) (P := [_, _, _, _, _]) (Blk.sets (P := [_, _, _, _, _, _, _]) (us := [_, _, _, _]) (vs := [.int .i64 x0, .int .i64 y0, .int .i64 x1, .int .i64 y1]) (h.blk.keep hb) rfl rfl) rfl (.slice none 0 0)
  have tt : Turns w' ((w'.setCells X 7 [.int .i64 x0, .int .i64 y0, .int .i64 x1, .int .i64 y1]).setCell ⟨X, 5, none⟩ (.slice none 0 0)) (fun b => b = X) := turns_set (S := fun b => b = X) (turns_sets (S := fun b => b = X) X rfl _ _ _) rfl _ _
  generalize (w'.setCells X 7 [.int .i64 x0, .int .i64 y0, .int .i64 x1, .int .i64 y1]).setCell ⟨X, 5, none⟩ (.slice none 0 0) = V at *
  have zb := hb.size
  refine ⟨rfl, (hb.mono hB).trans (tt.below (by omega) (fun k e => e ▸ hX)), fun P' hP => ?_⟩
  injection hP with hP
  subst hP
  refine h.close (by have := tt.size; omega) (fun b hb' => ?_) (g := { p.now with path := [], x0 := x0, y0 := y0, x1 := x1, y1 := y1 }) rfl (a5' := none) (c5' := 0) BX (.nil none 0) List.nodup_nil hXl hB (fun b hb => absurd hb List.not_mem_nil)
  have lb := h.lt b hb'
  rw [tt.block b (by omega) (fun (e : b = X) => nX (e ▸ hb'))]
  exact hb.block b lb
set_option maxHeartbeats 4000000 in
theorem op_clip {w : World} {B X : Nat} {P : Pg} (h : PgAt w B X P) (hB : B ≤ w.heap.size) (hX : B ≤ X) (hl : P.now.path.length ≤ 8) (u : Value) :
    Calls Tryz.prog 128 #[.pointer (some ⟨X, 0, none⟩), u] w (OpRes B X (if P.now.path.length = 0 then none else some (cliM P)) w) := by
  obtain ⟨a0, c0, f0, a5, c5, P5, a11, c11, P11, f11, a12, c12, P12, f12, h⟩ := h.flat
  obtain ⟨n, hN⟩ : ∃ n, P.now.path.length = n := ⟨_, rfl⟩
  have k5 := h.blk.1 5 _ rfl
  rw [hN] at k5 hl ⊢
  by_cases h0 : n = 0
  · subst h0
    have HN : Hid (OpRes B X none w (.returned (.bool false)) w) := Lib.hid ⟨rfl, (Below.refl _ _).mono hB, fun P' hP => by cases hP⟩
    clear h hN
    go_enter Tryz.func128, Tryz.ntmps128
    go_wp2
    go_ret
    exact HN.out
  · rw [if_neg h0]
    obtain ⟨_, hp⟩ := path_of (row_own2 h.r5 (h.o5 w))
    have hp : ∃ g, a5 = some ⟨g, 0, none⟩ ∧ g < w.heap.size ∧ PtsAt w g n (pX P.now.path) (pY P.now.path) := by
      rcases hp with hp | ⟨g, e, hg, hp⟩
      · exact absurd (by rw [← hN, hp]; rfl) h0
      · exact ⟨g, e, hg, fun i hi => hp i (by rw [hN]; exact hi)⟩
    obtain ⟨g, rfl, hg, hp⟩ := hp
    obtain ⟨m0, hm0⟩ : ∃ x, sel (clB P.now) (mx P.now.x0 (bx0 P.now.path)) = x := ⟨_, rfl⟩
    obtain ⟨m1, hm1⟩ : ∃ x, sel (clB P.now) (mx P.now.y0 (bx1 P.now.path)) = x := ⟨_, rfl⟩
    obtain ⟨m2, hm2⟩ : ∃ x, sel (clB P.now) (mn P.now.x1 (bx2 P.now.path)) = x := ⟨_, rfl⟩
    obtain ⟨m3, hm3⟩ : ∃ x, sel (clB P.now) (mn P.now.y1 (bx3 P.now.path)) = x := ⟨_, rfl⟩
    have hM : ∀ w : World, Calls Tryz.prog 153 #[.agg #[.int .i64 P.now.x0, .int .i64 P.now.y0, .int .i64 P.now.x1, .int .i64 P.now.y1], .agg #[.int .i64 (bx0 P.now.path), .int .i64 (bx1 P.now.path), .int .i64 (bx2 P.now.path), .int .i64 (bx3 P.now.path)]] w fun e w' => e = .returned (.agg #[.int .i64 m0, .int .i64 m1, .int .i64 m2, .int .i64 m3]) ∧ Below w.heap.size w w' := fun w => by
      subst hm0 hm1 hm2 hm3
      exact meet_impl P.now.x0 P.now.y0 P.now.x1 P.now.y1 (bx0 P.now.path) (bx1 P.now.path) (bx2 P.now.path) (bx3 P.now.path) w
    have HF := Lib.hid (fun (W : World) (hb : Below w.heap.size w W) => (show OpRes B X (some (cliM P)) w (.returned (.bool true)) ((W.setCells X 7 [.int .i64 m0, .int .i64 m1, .int .i64 m2, .int .i64 m3]).setCell ⟨X, 5, none⟩ (.slice none 0 0)) from by
      have := h.clip hb hB hX m0 m1 m2 m3
      subst hm0 hm1 hm2 hm3
      exact this))
    have hBx : Calls Tryz.prog 154 #[.slice (some ⟨g, 0, none⟩) n c5] w.drew fun e w' => e = .returned (.agg #[.int .i64 (bx0 P.now.path), .int .i64 (bx1 P.now.path), .int .i64 (bx2 P.now.path), .int .i64 (bx3 P.now.path)]) ∧ Below w.heap.size w w' := by
      refine (boxof_impl g n c5 (pX P.now.path) (pY P.now.path) w.drew (by omega) (by simpa using hg) hp).mono ?_
      rintro e w' ⟨rfl, hb⟩
      refine ⟨?_, on_of (show Below w.heap.size w w.drew from by go_grown) hb⟩
      simp only [boxofV, bx0, bx1, bx2, bx3, bxB, hN]
    obtain ⟨b0, hb0⟩ : ∃ x, bx0 P.now.path = x := ⟨_, rfl⟩
    obtain ⟨b1, hb1⟩ : ∃ x, bx1 P.now.path = x := ⟨_, rfl⟩
    obtain ⟨b2, hb2⟩ : ∃ x, bx2 P.now.path = x := ⟨_, rfl⟩
    obtain ⟨b3, hb3⟩ : ∃ x, bx3 P.now.path = x := ⟨_, rfl⟩
    rw [hb0, hb1, hb2, hb3] at hBx
    simp only [hb0, hb1, hb2, hb3] at hM
    have HM := Lib.hid hM
    have HBx := Lib.hid hBx
    have n0 : ((n : Int) == 0) = false := by simp; omega
    have HK := Lib.hid (fun (W : World) (hb : Below w.heap.size w W) => (show (W.cell? ⟨X, 7, none⟩ = some (.int .i64 P.now.x0) ∧ W.cell? ⟨X, 8, none⟩ = some (.int .i64 P.now.y0) ∧ W.cell? ⟨X, 9, none⟩ = some (.int .i64 P.now.x1) ∧ W.cell? ⟨X, 10, none⟩ = some (.int .i64 P.now.y1)) ∧ W.cell? ⟨X, 5, none⟩ = some (.slice (some ⟨g, 0, none⟩) n c5) ∧ (∀ o, W.frozen? ⟨X, o, none⟩ = false) from by
      have k := h.blk.keep hb
      rw [← hN]
      exact ⟨⟨k.1 7 _ rfl, k.1 8 _ rfl, k.1 9 _ rfl, k.1 10 _ rfl⟩, k.1 5 _ rfl, k.2.1⟩))
    obtain ⟨⟨k7, k8, k9, k10⟩, _, fz⟩ := HK.out w (Below.refl _ _)
    clear h hN h0 hp hM hBx hm0 hm1 hm2 hm3 hb0 hb1 hb2 hb3
    go_enter Tryz.func128, Tryz.ntmps128
    go_upto_region 3 with (fail)
    go_region_law (first
      | (go_simp; go_at_call 154; (with_reducible refine (HBx.out).mono ?_); rintro e w5 ⟨rfl, b5⟩; have H5 := Lib.hid b5; obtain ⟨⟨j7, j8, j9, j10⟩, j5, fj⟩ := HK.out w5 b5; clear b5)
      | (go_simp; go_at_call 153; (with_reducible refine (HM.out _).mono ?_); rintro e w6 ⟨rfl, b6⟩; have b6 := on_of H5.out b6; have H6 := Lib.hid b6; obtain ⟨⟨i7, i8, i9, i10⟩, i5, fi⟩ := HK.out w6 b6; clear b6))
    all_goals
      go_wp2
      go_ret
      exact HF.out _ H6.out
end Go.Proofs.YtjmfgbbngocodaaGreat.Own

namespace Go.Proofs.YtjmfgbbngocodaaGreat.Blk
open Go.ChangeShapes Go.WideShapes Go.ChangeAt Go.RowKit
open Kit Scan Slabs
set_option linter.unusedVariables false
set_option linter.unusedSimpArgs false
set_option linter.unnecessarySimpa false
set_option maxRecDepth 100000
theorem info_tk : (Tryz.prog.info? 50).map (fun i => (i.zero, i.size, i.bytes)) = some (some (.agg #[.string ⟨#[]⟩, .int .i64 0]), 2, 24) := by kernel_rfl
theorem get_at {pre r : List Tok} {t : Tok} : (pre ++ t :: r)[pre.length]? = some t := by simp
theorem get_next {pre r : List Tok} {t u : Tok} : (pre ++ t :: u :: r)[pre.length + 1]? = some u := by simp
theorem end_at {w : World} {v : Value} {L pre : List Tok} {c p e : Tok} {b r f : List Tok} {d k : Nat} (hL : L = pre ++ c :: p :: (b ++ e :: r)) (hk : pre.length = k) (hn : L.length ≤ 1048576) (h : Rdt w v L) (hp : isRep p = true) (he : isEnd e = true) (F : Fl b f d) :
    Calls Tryz.prog 137 #[v, .int .i64 ((k : Int) + 1)] w fun e' w' => e' = .returned (.int .i64 ((k + 2 + b.length : Nat) : Int)) ∧ w' = w := by
  have e1 : L = (pre ++ [c]) ++ p :: (b ++ e :: r) := by rw [hL]; simp
  rw [e1] at h hn
  have h1 := end_spec w v (pre ++ [c]) p e b r f d hn h hp he F
  have e2 : (((pre ++ [c]).length : Nat) : Int) = (k : Int) + 1 := by simp [hk]
  have e3 : (pre ++ [c]).length + 1 + b.length = k + 2 + b.length := by simp [hk]
  rw [e2, e3] at h1
  exact h1
theorem Rdt.part {w : World} {g o cap k : Nat} {L pre b z : List Tok} {x y : Tok} (h : Rdt w (.slice (some ⟨g, o, none⟩) L.length cap) L) (hL : L = pre ++ x :: y :: (b ++ z)) (hk : pre.length = k) :
    Rdt w (.slice (some ⟨g, o + (k + 2) * 2, none⟩) b.length (cap - (k + 2))) b := by
  obtain ⟨a', cap', hv, hc, h⟩ := h
  injection hv with h1 h2 h3
  subst h1; subst h3
  have hlen : L.length = k + 2 + (b.length + z.length) := by rw [hL]; simp [hk]; omega
  refine ⟨_, _, rfl, by omega, ?_⟩
  rcases h with h | ⟨g', o', ha, hg, hcs⟩
  · rw [h] at hlen; simp at hlen; omega
  · injection ha with ha
    injection ha with e1 e2
    subst e1; subst e2
    refine .inr ⟨g, _, rfl, hg, fun i s m hi => ?_⟩
    have hget : L[k + 2 + i]? = some (s, m) := by
      have hi2 : i < b.length := (List.getElem?_eq_some_iff.1 hi).1
      rw [hL, List.getElem?_append_right (by omega), show k + 2 + i - pre.length = i + 2 by omega]
      simp only [List.getElem?_cons_succ]
      rw [List.getElem?_append_left hi2]; exact hi
    have := hcs _ s m hget
    rw [show o + (k + 2) * 2 + i * 2 = o + (k + 2 + i) * 2 by omega]
    exact this
theorem owns_below {w w' : World} {B : Nat} {T : TypeId} {c n : Nat} {v : Value} {xs : List Value} (h : w.ownsRow B T c v n xs) (hb : Below w.heap.size w w') : w'.ownsRow B T c v n xs :=
  h.kept (row := none) ⟨hb.os, hb.tape, hb.output, hb.size, fun k hk _ => hb.block k hk⟩ (by cases v.ownBlock <;> simp)
set_option maxHeartbeats 8000000 in
theorem flat_spec : ∀ (N : Nat) (L f : List Tok) (d : Nat), L.length = N → L.length ≤ 60 → d ≤ 3 → Fl L f d → ∀ (w : World) (v : Value), Rdt w v L →
    Calls Tryz.prog 99 #[v] w fun e w' => ∃ u, e = .returned u ∧ w'.ownsRow w.heap.size 50 2 u f.length (cellsL f) ∧ u ≠ .slice none 0 0 ∧ Below w.heap.size w w' := by
  intro N
  induction N using Nat.strongRecOn with
  | _ N ih =>
    intro L f d hN h60 hd3 F w v h
    subst hN
    obtain ⟨i0, hi0, hz0, hz1, hz2⟩ := info_parts info_tk
    obtain ⟨a, cap, rfl, hc, h⟩ := h
    have ho0 := World.ownsRow_made w #[] (e := 50) (size := 2) 0 (Nat.le_refl _) (by decide) (by simp)
    rcases h with rfl | ⟨g, o, rfl, hg, hcs⟩
    · have hf : f = [] := by cases F; rfl
      subst hf
      have HO := Lib.hid ho0
      clear ho0 ih F
      go_enter Tryz.func99, Tryz.ntmps99
      go_wp2
      go_loopw [3, 4] (fun v3 v4 wr => v3 = .slice (some ⟨w.heap.size, 0, none⟩) 0 0 ∧ v4 = .int .i64 0 ∧ wr = w.alloc (.cells #[] 50)) (fun _ _ _ => 0)
      case atStart => exact ⟨rfl, rfl, rfl⟩
      case round =>
        obtain ⟨rfl, rfl, rfl⟩ := hrel
        go_wp2
        go_ret
        exact ⟨_, rfl, HO.out, by simp, by go_grown⟩
    · have HC := Lib.hid (And.intro hcs ih)
      have HF := Lib.hid (And.intro F ho0)
      have hf60 : f.length ≤ 43740 := by
        have h1 := fl_len F
        have h2 : 9 ^ d ≤ 9 ^ 3 := Nat.pow_le_pow_right (by omega) hd3
        have h3 : L.length * 9 ^ d ≤ 60 * 9 ^ 3 := Nat.mul_le_mul h60 h2
        omega
      clear hcs ih F ho0
      go_enter Tryz.func99, Tryz.ntmps99
      go_wp2
      go_loopw [3, 4] (fun v3 v4 wr => ∃ (pre suf fp fs : List Tok) (ds : Nat), L = pre ++ suf ∧ v4 = .int .i64 (pre.length : Int) ∧ Fl suf fs ds ∧ ds ≤ d ∧ f = fp ++ fs ∧ wr.ownsRow w.heap.size 50 2 v3 fp.length (cellsL fp) ∧ v3 ≠ .slice none 0 0 ∧ w.heap.size ≤ wr.heap.size ∧ Below w.heap.size w wr) (fun _ v4 _ => L.length - (intOf v4).toNat)
      case atStart => exact ⟨[], L, [], f, d, rfl, rfl, HF.out.1, Nat.le_refl _, rfl, HF.out.2, by simp, by simp, (Below.refl _ _).alloc (Nat.le_refl _) _⟩
      case round =>
        obtain ⟨pre, suf, fp, fs, ds, hL, rfl, Fs, hds, hf, hown, hne, hws, hbel⟩ := hrel
        obtain ⟨k, hk⟩ : ∃ k, pre.length = k := ⟨_, rfl⟩
        rw [hk]
        have hRd : ∀ W, Below w.heap.size w W → Rdt W (.slice (some ⟨g, o, none⟩) L.length cap) L := fun W hb => ⟨_, _, rfl, hc, .inr ⟨g, o, rfl, Nat.lt_of_lt_of_le hg hb.size, fun i s m hi => ⟨(hb.cell (p := ⟨g, _, none⟩) hg).trans (HC.out.1 i s m hi).1, (hb.cell (p := ⟨g, _, none⟩) hg).trans (HC.out.1 i s m hi).2⟩⟩⟩
        have HR := Lib.hid hRd
        clear hRd
        have i0' : (0 : Int) ≤ (k : Int) := by omega
        have hgl := Nat.lt_of_lt_of_le hg hbel.size
        have HNE := Lib.hid hne
        clear hne
        cases Fs with
        | nil =>
          have hkl : ¬ ((k : Int) < (L.length : Int)) := by rw [hL]; simp [hk]
          have HX := Lib.hid (And.intro hown hf)
          clear hown hf hL
          go_wp2
          go_ret
          exact ⟨_, rfl, by rw [HX.out.2, List.append_nil]; exact HX.out.1, HNE.out, hbel⟩
        | @tok t r fr _ hr he htk hnx Fr =>
          have hlen : L.length = k + (r.length + 1) := by rw [hL]; simp [hk]
          obtain ⟨s, q⟩ := t
          have hget : L[k]? = some (s, q) := by rw [hL, ← hk]; exact get_at
          have c0 : wr.cell? ⟨g, o + k * 2, none⟩ = some (.string s) := (hbel.cell (p := ⟨g, _, none⟩) hg).trans (HC.out.1 k s q hget).1
          have c1 : wr.cell? ⟨g, o + k * 2 + 1, none⟩ = some (.int .i64 q) := (hbel.cell (p := ⟨g, _, none⟩) hg).trans (HC.out.1 k s q hget).2
          have hfl : fp.length + 1 ≤ f.length := by rw [hf]; simp
          have hL2 : L = (pre ++ [(s, q)]) ++ r := by rw [hL]; simp
          have hf2 : f = (fp ++ [(s, q)]) ++ fr := by rw [hf]; simp
          have i1 : (k : Int) < (L.length : Int) := by omega
          have HL := Lib.hid (And.intro hL2 (And.intro hf2 Fr))
          cases r with
          | nil =>
            have i2 : (L.length : Int) ≤ (k : Int) + 1 := by rw [hlen]; simp
            clear hL hf hL2 hf2 Fr hget hr he htk hnx hlen
            go_wp2_with (at_builtin; refine wpList_append_own _ rfl _ _ 59 rfl w.heap.size 50 i0 (.agg #[.string ⟨#[]⟩, .int .i64 0]) 2 24 Tryz.underlying59 hi0 hz0 hz1 hz2 rfl (by decide) _ _ _ rfl (hown.alloc _) ⟨wr.heap.size, 0, none⟩ 1 1 [.string s, .int .i64 q] rfl rfl (World.news_of_block (cs := #[.string s, .int .i64 q]) (t := 50) (fr := (0, 0)) (heap_alloc_new wr _)) ?c2 ?c3 ?c4 ?c5 ?_)
            case c2 => simp [Value.oneCell']
            case c3 => unfold maxLen; omega
            case c4 => omega
            case c5 => simp; omega
            intro v2 w2 hown2 hgrow hnil
            have hne2 : v2 ≠ .slice none 0 0 := hnil
            have hB2 : Below w.heap.size w w2 := (hbel.alloc hws _).grown hgrow (by simp; omega) (fun p hp => ((hown.alloc (.cells #[.string s, .int .i64 q] 50)).lt p hp).1)
            have hown3 : w2.ownsRow w.heap.size 50 2 v2 (fp ++ [(s, q)]).length (cellsL (fp ++ [(s, q)])) := by rw [cellsL_append, List.length_append]; exact hown2
            have H2 := Lib.hid (And.intro hown3 (And.intro hne2 hB2))
            clear hown hown2 hown3 hgrow hB2 hnil hne2
            go_wp2
            go_roundw
            case rel => exact ⟨pre ++ [(s, q)], [], _, fr, _, HL.out.1, by first | (simp [hk]; done) | go_num, HL.out.2.2, hds, HL.out.2.1, H2.out.1, H2.out.2.1, H2.out.2.2.size, H2.out.2.2⟩
            case measure => simp [intOf]; omega
          | cons u r =>
            have hu := hnx u r rfl
            obtain ⟨s2, q2⟩ := u
            have hget2 : L[k + 1]? = some (s2, q2) := by rw [hL, ← hk]; exact get_next
            have c2 : wr.cell? ⟨g, o + (k + 1) * 2, none⟩ = some (.string s2) := (hbel.cell (p := ⟨g, _, none⟩) hg).trans (HC.out.1 (k + 1) s2 q2 hget2).1
            have er : (s2.toList == [114, 101, 112, 101, 97, 116]) = false := hu
            have i2 : (k : Int) + 1 < (L.length : Int) := by rw [hlen]; simp; omega
            clear hL hf hL2 hf2 Fr hget hget2 hr he htk hnx hlen hu
            go_wp2_with (at_builtin; refine wpList_append_own _ rfl _ _ 59 rfl w.heap.size 50 i0 (.agg #[.string ⟨#[]⟩, .int .i64 0]) 2 24 Tryz.underlying59 hi0 hz0 hz1 hz2 rfl (by decide) _ _ _ rfl (hown.alloc _) ⟨wr.heap.size, 0, none⟩ 1 1 [.string s, .int .i64 q] rfl rfl (World.news_of_block (cs := #[.string s, .int .i64 q]) (t := 50) (fr := (0, 0)) (heap_alloc_new wr _)) ?c2 ?c3 ?c4 ?c5 ?_)
            case c2 => simp [Value.oneCell']
            case c3 => unfold maxLen; omega
            case c4 => omega
            case c5 => simp; omega
            intro v2 w2 hown2 hgrow hnil
            have hne2 : v2 ≠ .slice none 0 0 := hnil
            have hB2 : Below w.heap.size w w2 := (hbel.alloc hws _).grown hgrow (by simp; omega) (fun p hp => ((hown.alloc (.cells #[.string s, .int .i64 q] 50)).lt p hp).1)
            have hown3 : w2.ownsRow w.heap.size 50 2 v2 (fp ++ [(s, q)]).length (cellsL (fp ++ [(s, q)])) := by rw [cellsL_append, List.length_append]; exact hown2
            have H2 := Lib.hid (And.intro hown3 (And.intro hne2 hB2))
            clear hown hown2 hown3 hgrow hB2 hnil hne2
            go_wp2
            go_roundw
            case rel => exact ⟨pre ++ [(s, q)], (s2, q2) :: r, _, fr, _, HL.out.1, by first | (simp [hk]; done) | go_num, HL.out.2.2, hds, HL.out.2.1, H2.out.1, H2.out.2.1, H2.out.2.2.size, H2.out.2.2⟩
            case measure => simp [intOf]; omega
        | @rep c p e b fb r g2 d2 k2 n hc1 hc2 hn9 hp he hpt het Fb Fr =>
          have hlen : L.length = k + (b.length + r.length + 3) := by rw [hL]; simp [hk]; omega
          obtain ⟨s, q⟩ := c
          obtain ⟨s2, q2⟩ := p
          have hget : L[k]? = some (s, q) := by rw [hL, ← hk]; exact get_at
          have hget2 : L[k + 1]? = some (s2, q2) := by rw [hL, ← hk]; exact get_next
          have c1 : wr.cell? ⟨g, o + k * 2 + 1, none⟩ = some (.int .i64 q) := (hbel.cell (p := ⟨g, _, none⟩) hg).trans (HC.out.1 k s q hget).2
          have c2 : wr.cell? ⟨g, o + (k + 1) * 2, none⟩ = some (.string s2) := (hbel.cell (p := ⟨g, _, none⟩) hg).trans (HC.out.1 (k + 1) s2 q2 hget2).1
          have er : (s2.toList == [114, 101, 112, 101, 97, 116]) = true := hp
          have i1 : (k : Int) < (L.length : Int) := by omega
          have i2 : (k : Int) + 1 < (L.length : Int) := by omega
          simp only at hc2
          subst hc2
          have hend := end_at hL hk (by omega) (HR.out wr hbel) hp he Fb
          have HE := Lib.hid hend
          have HL := Lib.hid (And.intro hL (And.intro hf (And.intro Fb Fr)))
          have hkm : k + b.length + 3 ≤ L.length := by omega
          clear hend hL hf Fb Fr hget hget2 hc1 hp he hlen hpt het
          go_wp2_with fail
          ((with_reducible refine HE.out.mono ?_); rintro e2 w2 ⟨rfl, rfl⟩)
          go_wp2_with fail
          have hpart := Rdt.part (HR.out _ hbel) HL.out.1 hk
          have hb60 : b.length ≤ 60 := by omega
          have hd2 : d2 ≤ 3 := by omega
          have hfb : fb.length ≤ 43740 := by
            have h1 := fl_len HL.out.2.2.1
            have h2 : 9 ^ d2 ≤ 9 ^ 3 := Nat.pow_le_pow_right (by omega) hd2
            have h3 : b.length * 9 ^ d2 ≤ 60 * 9 ^ 3 := Nat.mul_le_mul hb60 h2
            omega
          ((with_reducible refine (HC.out.2 b.length (by omega) b fb d2 rfl hb60 hd2 HL.out.2.2.1 _ _ hpart).mono ?_); rintro e3 w3 ⟨vp, rfl, hpo, hpne, hb3⟩)
          have hown3 := owns_below hown hb3
          have HPN := Lib.hid hpne
          clear hpne
          have hap : ∀ q, u3.ownBlock = some q → vp.ownBlock ≠ some q := fun q hq hp => by
            have h1 := (hown.lt q hq).2
            have h2 := (hpo.lt q hp).1
            omega
          have hB3 := on_of hbel hb3
          have hs2 := hbel.size
          have hfn : fp.length + n * fb.length ≤ f.length := by rw [HL.out.2.1]; simp [rpt]
          have H3 := Lib.hid (And.intro hown3 (And.intro hpo (And.intro hap hB3)))
          clear hown hb3 hpo hap hB3 hown3 hpart c1 c2
          go_wp2_with fail
          go_loopw [3, 7] (fun v3 v7 wr2 => ∃ i : Nat, i ≤ n ∧ v7 = .int .i64 (i : Int) ∧ wr2.ownsRow w.heap.size 50 2 v3 (fp ++ rpt i fb).length (cellsL (fp ++ rpt i fb)) ∧ wr2.ownsRow w2.heap.size 50 2 vp fb.length (cellsL fb) ∧ (∀ q, v3.ownBlock = some q → vp.ownBlock ≠ some q) ∧ v3 ≠ .slice none 0 0 ∧ Below w.heap.size w wr2) (fun _ v7 _ => n - (intOf v7).toNat)
          case atStart => exact ⟨0, Nat.zero_le _, rfl, by simpa [rpt] using H3.out.1, H3.out.2.1, H3.out.2.2.1, HNE.out, H3.out.2.2.2⟩
          case round =>
            obtain ⟨i, hi, rfl, ho, hpo, hap, hvn, hb⟩ := hrel
            have hget : L[k]? = some (s, (n : Int)) := by rw [HL.out.1, ← hk]; exact get_at
            have c1 := ((hb.cell (p := ⟨g, o + k * 2 + 1, none⟩) hg).trans (HC.out.1 k s (n : Int) hget).2)
            have hsz := hb.size
            clear hget
            by_cases hin : i < n
            · have j1 : (i : Int) < (n : Int) := by omega
              have hle : (i + 1) * fb.length ≤ n * fb.length := Nat.mul_le_mul_right _ hin
              have hlen : (fp ++ rpt i fb).length + fb.length ≤ 43740 := by
                have : (i + 1) * fb.length = i * fb.length + fb.length := Nat.succ_mul _ _
                simp [rpt]; omega
              rcases hpo.2 with ⟨hv, h0⟩ | ⟨gp, cp, cur, hv, _⟩
              · exact absurd hv HPN.out
              · subst hv
                have hpc := hpo.cells (g := gp) rfl
                have HP := Lib.hid (And.intro hpo (And.intro hap hpc))
                clear hpo hap hpc
                go_wp2_with (at_builtin; refine wpList_append_own_at _ rfl _ _ 59 rfl w.heap.size 50 i0 (.agg #[.string ⟨#[]⟩, .int .i64 0]) 2 24 Tryz.underlying59 hi0 hz0 hz1 hz2 rfl (by decide) _ _ _ rfl ho ⟨gp, 0, none⟩ fb.length cp (cellsL fb) rfl (cellsL_len fb) HP.out.2.2 (cellsL_one fb) ?d3 ?d4 ?d5 ?_)
                case d3 => unfold maxLen; omega
                case d4 => omega
                case d5 => omega
                intro v2 w5 ho5 hgrow hnil hloc
                have hn5 : v2 ≠ .slice none 0 0 := hnil
                have hB5 : Below w.heap.size w w5 := hb.grown hgrow (by omega) (fun q hq => (ho.lt q hq).1)
                have hpo5 : w5.ownsRow w2.heap.size 50 2 (.slice (some ⟨gp, 0, none⟩) fb.length cp) fb.length (cellsL fb) := HP.out.1.kept hgrow (.inr fun e => HP.out.2.1 gp e.symm rfl)
                have hap5 : ∀ q, v2.ownBlock = some q → (Value.slice (some ⟨gp, 0, none⟩) fb.length cp).ownBlock ≠ some q := fun q hq hp => by
                  have hgp := (HP.out.1.lt gp rfl).2
                  rcases hloc with h | h
                  · rw [h] at hq; exact HP.out.2.1 q hq hp
                  · rw [h] at hq
                    simp only [Value.ownBlock, Option.some.injEq] at hp hq
                    omega
                have ho6 : w5.ownsRow w.heap.size 50 2 v2 (fp ++ rpt (i + 1) fb).length (cellsL (fp ++ rpt (i + 1) fb)) := by
                  rw [rpt_succ, ← List.append_assoc, cellsL_append, List.length_append, List.length_append]; exact ho5
                have H5 := Lib.hid (And.intro ho6 (And.intro hpo5 (And.intro hap5 (And.intro hn5 hB5))))
                clear ho ho5 ho6 hgrow hloc hnil hn5 hB5 hpo5 hap5 hvn
                go_wp2
                go_roundw
                case rel => exact ⟨i + 1, by omega, by go_num, H5.out.1, H5.out.2.1, H5.out.2.2.1, H5.out.2.2.2.1, H5.out.2.2.2.2⟩
                case measure => simp [intOf]; omega
            · obtain rfl : i = n := by omega
              have H6 := Lib.hid (And.intro ho (And.intro hvn hb))
              clear ho hvn hpo hap
              go_wp2
              go_roundw
              case rel => exact ⟨pre ++ (s, (i : Int)) :: (s2, q2) :: (b ++ [e]), r, fp ++ rpt i fb, g2, k2, by rw [HL.out.1]; simp, by first | go_num | (simp [hk]; done), HL.out.2.2.2, by omega, by rw [HL.out.2.1]; simp, H6.out.1, H6.out.2.1, H6.out.2.2.size, H6.out.2.2⟩
              case measure => simp [intOf]; omega
end Go.Proofs.YtjmfgbbngocodaaGreat.Blk

