/-
  Texts of this seat, laid together: MkP, SpE, SpG
-/
import Derived.WalkKit
import Derived.Deep.DeepCutAuto
import Derived.Deep.QuietTactic
import Derived.BigQuiet
import Derived.Deep.RegionHeld3
import Derived.Handy
import Derived.Test.YtjmfgbbngocodaaGreatV10
import Derived.Test.YtjmfgbbngocodaaGreatV11
import Derived.Test.YtjmfgbbngocodaaGreatV12
import Derived.Test.YtjmfgbbngocodaaGreatV40
namespace Go.Proofs.YtjmfgbbngocodaaGreat.Own
open Go.ChangeShapes Go.WideShapes Go.ChangeAt Go.RowKit
open Kit Slabs Ints
set_option linter.unusedVariables false
set_option linter.unusedSimpArgs false
set_option linter.unnecessarySimpa false
set_option maxRecDepth 100000
attribute [local go_sem ↓] hload_Graphics
set_option maxHeartbeats 4000000 in
theorem mark_Page (w : World) (N : Nat) {A : Array Value} {ds : List Dt} {fp : List Nat} (hb : bulkL ds ≤ 1048576) (h0 : 0 < N) (hN : N + cnt0L ds ≤ 1000000000) (h : OwnL w LPage A.toList ds fp) (hd : fp.Nodup) :
    Calls Tryz.prog 12 #[.agg A, .int .i64 (N : Int)] w fun e w' => e = .returned (.int .i64 ((N + cnt0L ds : Nat) : Int)) ∧ OwnL w' LPage A.toList (mk0L ds N) fp ∧ Turns w w' (fun b => b ∈ fp) := by
  obtain ⟨xG0, xa11, xc11, xa12, xc12, xD0, xs11, xs12, xF0, xF11, xF12, hA, rfl, rfl, ox0, ox11, ox12⟩ := inv_Page h
  have nxG0 : xG0.length = 11 := ox0.len
  obtain ⟨nd0, r0, x0⟩ := nodup_parts hd
  obtain ⟨nd1, r1, x1⟩ := nodup_parts r0
  obtain ⟨nd2, r2, x2⟩ := nodup_parts r1
  have d0_1 : ∀ b ∈ xF0, b ∉ xF11 := fun b ha hb => x0 b ha (List.mem_append_left _ hb)
  have d1_0 : ∀ b ∈ xF11, b ∉ xF0 := fun b ha hb => d0_1 b hb ha
  have d0_2 : ∀ b ∈ xF0, b ∉ xF12 := fun b ha hb => x0 b ha (List.mem_append_right _ (List.mem_append_left _ hb))
  have d2_0 : ∀ b ∈ xF12, b ∉ xF0 := fun b ha hb => d0_2 b hb ha
  have d1_2 : ∀ b ∈ xF11, b ∉ xF12 := fun b ha hb => x1 b ha (List.mem_append_left _ hb)
  have d2_1 : ∀ b ∈ xF12, b ∉ xF11 := fun b ha hb => d1_2 b hb ha
  have hc : N + cnt0L (xD0 ++ (.sl xs11 :: (.sl xs12 :: ([])))) = (((N + cnt0L xD0) + cntL xs11) + cntL xs12) := by simp only [cnt0L_app, cnt0L, Dt.cnt0]; omega
  have hm : mk0L (xD0 ++ (.sl xs11 :: (.sl xs12 :: ([])))) N = mk0L xD0 N ++ (.sl (mkL xs11 (N + cnt0L xD0)) :: (.sl (mkL xs12 ((N + cnt0L xD0) + cntL xs11)) :: ([]))) := by simp only [mk0L_app, mk0L, Dt.mk0, cnt0L_app, cnt0L, Dt.cnt0, Nat.add_zero, Nat.add_assoc]
  obtain ⟨M1, hM1⟩ : ∃ M, N + cnt0L xD0 = M := ⟨_, rfl⟩
  simp only [hM1] at hc hm
  obtain ⟨M2, hM2⟩ : ∃ M, M1 + cntL xs11 = M := ⟨_, rfl⟩
  simp only [hM2] at hc hm
  obtain ⟨M3, hM3⟩ : ∃ M, M2 + cntL xs12 = M := ⟨_, rfl⟩
  simp only [hM3] at hc hm
  rw [hc] at hN ⊢
  rw [hm]
  clear hc hm
  simp only [bulkL_app, bulkL, Dt.bulk] at hb
  have BA : Blk (w.alloc (.cells A 46)) w.heap.size A.toList := Blk.new w A 46 rfl
  have hT : Turns w (w.alloc (.cells A 46)) (fun b => b ∈ xF0 ++ (xF11 ++ (xF12 ++ ([])))) := Turns.of_below (by go_grown)
  rw [hA] at BA ⊢
  have lt0 := ox0.lt
  have ne0 : ¬ (w.heap.size ∈ xF0) := fun hb => by have := lt0 _ hb; omega
  have p0 := ox0.under (w' := w.alloc (.cells A 46)) (by go_grown)
  have lt1 := ox11.lt
  have ne1 : ¬ (w.heap.size ∈ xF11) := fun hb => by have := lt1 _ hb; omega
  have p1 := ox11.under (w' := w.alloc (.cells A 46)) (by go_grown)
  have lt2 := ox12.lt
  have ne2 : ¬ (w.heap.size ∈ xF12) := fun hb => by have := lt2 _ hb; omega
  have p2 := ox12.under (w' := w.alloc (.cells A 46)) (by go_grown)
  have HO0 := Lib.hid (And.intro p0 (And.intro p1 p2))
  have HA0 := Lib.hid BA
  have HT0 := Lib.hid hT
  have ra := hload_run (P := Tryz.prog) (t := 42) Tryz.isAgg42 Tryz.sizeOf42 (w := w.alloc (.cells A 46)) (b := w.heap.size) (o := 0) (us := xG0) (Blk.part (P := []) HA0.out rfl) nxG0
  clear ox0 ox11 ox12 hA BA hT h hd p0 lt0 p1 lt1 p2 lt2
  go_enter Tryz.func12, Tryz.ntmps12
  go_wp2_with fail
  ((with_reducible refine (mark_Graphics _ N (ds := xD0) (by omega) (by omega) (by omega) (by simpa using HO0.out.1) nd0).mono ?_); rintro e w1 ⟨rfl, o1, b1⟩)
  rw [hM1]
  simp only [List.toList_toArray] at o1
  have HO1 := Lib.hid (And.intro o1 (And.intro ((HO0.out.2.1).turned b1 d1_0) ((HO0.out.2.2).turned b1 d2_0)))
  have HA1 := Lib.hid (HA0.out.turned b1 ne0)
  have HT1 := Lib.hid (HT0.out.trans (b1.mono (fun _ hk => List.mem_append_left _ hk)))
  clear o1 b1  ra
  have ca11 := HA1.out.1 11 (.slice xa11 xs11.length xc11) (by simp [nxG0])
  go_wp2_with fail
  ((with_reducible refine (mark_GraphicsS _ M1 (by omega) (by omega) (by omega) (HO1.out.2.1) nd1).mono ?_); rintro e w2 ⟨rfl, o2, b2⟩)
  rw [hM2]
  have HO2 := Lib.hid (And.intro ((HO1.out.1).turned b2 d0_1) (And.intro o2 ((HO1.out.2.2).turned b2 d2_1)))
  have HA2 := Lib.hid (HA1.out.turned b2 ne1)
  have HT2 := Lib.hid (HT1.out.trans (b2.mono (fun _ hk => List.mem_append_right _ (List.mem_append_left _ hk))))
  clear o2 b2 ca11
  have ca12 := HA2.out.1 12 (.slice xa12 xs12.length xc12) (by simp [nxG0])
  go_wp2_with fail
  ((with_reducible refine (mark_ObjectS _ M2 (by omega) (by omega) (by omega) (HO2.out.2.2) nd2).mono ?_); rintro e w3 ⟨rfl, o3, b3⟩)
  rw [hM3]
  have HO3 := Lib.hid (And.intro ((HO2.out.1).turned b3 d0_2) (And.intro ((HO2.out.2.1).turned b3 d1_2) o3))
  have HA3 := Lib.hid (HA2.out.turned b3 ne2)
  have HT3 := Lib.hid (HT2.out.trans (b3.mono (fun _ hk => List.mem_append_right _ (List.mem_append_right _ (List.mem_append_left _ hk)))))
  clear o3 b3 ca12
  go_wp2
  go_ret
  exact ⟨rfl, OwnL.app (.cons (cs := [.slice xa11 xs11.length xc11]) (fp := xF11) (HO3.out.2.1) (.cons (cs := [.slice xa12 xs12.length xc12]) (fp := xF12) (HO3.out.2.2) (.nil))) (HO3.out.1), HT3.out⟩
set_option maxHeartbeats 4000000 in
theorem held_Page (w : World) (N : Nat) {A : Array Value} {ds : List Dt} {cs0 : List Value} {fp fq : List Nat} {w0 : World} (hb : bulkL ds ≤ 1048576) (h0 : 0 < N) (hN : N + cnt0L ds ≤ 1000000000) (hs : OwnL w0 LPage cs0 ds fq) (h : OwnL w LPage A.toList (mk0L ds N) fp) :
    Calls Tryz.prog 13 #[.agg A, .int .i64 (N : Int)] w fun e w' => e = .returned (.int .i64 ((N + cnt0L ds : Nat) : Int)) ∧ Below w.heap.size w w' := by
  obtain ⟨xG0, xa11, xc11, xa12, xc12, xD0, xs11, xs12, xF0, xF11, xF12, _, rfl, _, ox0, ox11, ox12⟩ := inv_Page hs
  have lxD0 := ox0.dlen
  have hc : N + cnt0L (xD0 ++ (.sl xs11 :: (.sl xs12 :: ([])))) = (((N + cnt0L xD0) + cntL xs11) + cntL xs12) := by simp only [cnt0L_app, cnt0L, Dt.cnt0]; omega
  have hm : mk0L (xD0 ++ (.sl xs11 :: (.sl xs12 :: ([])))) N = mk0L xD0 N ++ (.sl (mkL xs11 (N + cnt0L xD0)) :: (.sl (mkL xs12 ((N + cnt0L xD0) + cntL xs11)) :: ([]))) := by simp only [mk0L_app, mk0L, Dt.mk0, cnt0L_app, cnt0L, Dt.cnt0, Nat.add_zero, Nat.add_assoc]
  obtain ⟨M1, hM1⟩ : ∃ M, N + cnt0L xD0 = M := ⟨_, rfl⟩
  simp only [hM1] at hc hm
  obtain ⟨M2, hM2⟩ : ∃ M, M1 + cntL xs11 = M := ⟨_, rfl⟩
  simp only [hM2] at hc hm
  obtain ⟨M3, hM3⟩ : ∃ M, M2 + cntL xs12 = M := ⟨_, rfl⟩
  simp only [hM3] at hc hm
  rw [hc] at hN ⊢
  rw [hm] at h
  clear hc hm
  simp only [bulkL_app, bulkL, Dt.bulk] at hb
  obtain ⟨yG0, ya11, yc11, ya12, yc12, yF0, yF11, yF12, hA, rfl, oy0, oy11, oy12⟩ := inv_Page_ (by rw [mk0L_length, lxD0]) h
  simp only [mkL_length] at hA oy11 oy12
  have nyG0 : yG0.length = 11 := oy0.len
  have BA : Blk (w.alloc (.cells A 46)) w.heap.size A.toList := Blk.new w A 46 rfl
  have hW : Below w.heap.size w (w.alloc (.cells A 46)) := by go_grown
  rw [hA] at BA
  have HS := Lib.hid (And.intro ox0 (And.intro ox11 ox12))
  have HO := Lib.hid (And.intro oy0 (And.intro oy11 oy12))
  have HA0 := Lib.hid BA
  have HW0 := Lib.hid hW
  have ra := hload_run (P := Tryz.prog) (t := 42) Tryz.isAgg42 Tryz.sizeOf42 (w := w.alloc (.cells A 46)) (b := w.heap.size) (o := 0) (us := yG0) (Blk.part (P := []) HA0.out rfl) nyG0
  clear ox0 ox11 ox12 oy0 oy11 oy12 hA BA hW h hs
  go_enter Tryz.func13, Tryz.ntmps13
  go_wp2_with fail
  ((with_reducible refine (held_Graphics _ N (ds := xD0) (by omega) (by omega) (by omega) (HS.out.1) (by simpa using (HO.out.1).under HW0.out)).mono ?_); rintro e w1 ⟨rfl, b1⟩)
  rw [hM1]
  have HW1 := Lib.hid (on_of HW0.out b1)
  have HA1 := Lib.hid (HA0.out.keep b1)
  have g1 : ¬ (((M1 : Nat) : Int) < 0) := by omega
  clear b1  ra
  have ca11 := HA1.out.1 11 (.slice ya11 xs11.length yc11) (by simp [nyG0])
  go_wp2_with fail
  ((with_reducible refine (held_GraphicsS _ M1 (by omega) (by omega) (by omega) (HS.out.2.1) ((HO.out.2.1).under HW1.out)).mono ?_); rintro e w2 ⟨rfl, b2⟩)
  rw [hM2]
  have HW2 := Lib.hid (on_of HW1.out b2)
  have HA2 := Lib.hid (HA1.out.keep b2)
  have g2 : ¬ (((M2 : Nat) : Int) < 0) := by omega
  clear b2 ca11
  have ca12 := HA2.out.1 12 (.slice ya12 xs12.length yc12) (by simp [nyG0])
  go_wp2_with fail
  ((with_reducible refine (held_ObjectS _ M2 (by omega) (by omega) (by omega) (HS.out.2.2) ((HO.out.2.2).under HW2.out)).mono ?_); rintro e w3 ⟨rfl, b3⟩)
  rw [hM3]
  have HW3 := Lib.hid (on_of HW2.out b3)
  have HA3 := Lib.hid (HA2.out.keep b3)
  have g3 : ¬ (((M3 : Nat) : Int) < 0) := by omega
  clear b3 ca12
  go_wp2
  go_ret
  exact ⟨rfl, HW3.out⟩
end Go.Proofs.YtjmfgbbngocodaaGreat.Own

namespace Go.Proofs.YtjmfgbbngocodaaGreat.Own
open Go.ChangeShapes Go.WideShapes Go.ChangeAt Go.RowKit
open Kit Slabs Ints Stack Point Turn Join Pts Box Push Take Opn SOp
set_option linter.unusedVariables false
set_option linter.unusedSimpArgs false
set_option linter.unnecessarySimpa false
set_option maxRecDepth 100000
attribute [local go_sem ↓] hload_Graphics hload_Object hstore_Graphics hstore_Object hload_Page hstore_Page
theorem PgFl.clipG {w w' : World} {B X : Nat} {p : Pg} {a0 : Option Addr} {c0 : Nat} {f0 : List Nat} {a5 : Option Addr} {c5 : Nat} {P5 : List Value} {a11 : Option Addr} {c11 : Nat} {P11 : List Value} {f11 : List Nat} {a12 : Option Addr} {c12 : Nat} {P12 : List Value} {f12 : List Nat}
    (h : PgFl w B X p a0 c0 f0 a5 c5 P5 a11 c11 P11 f11 a12 c12 P12 f12) (hb : Below w.heap.size w w') (hB : B ≤ w.heap.size) (hX : B ≤ X) (x0 y0 x1 y1 : Int) (v5 : Option Addr) (k5 : Nat) :
    OpRes B X (some { p with now := { p.now with path := [], x0 := x0, y0 := y0, x1 := x1, y1 := y1 } }) w (.returned (.bool true)) ((w'.setCells X 7 [.int .i64 x0, .int .i64 y0, .int .i64 x1, .int .i64 y1]).setCell ⟨X, 5, none⟩ (.slice v5 0 k5)) := by
  have hXl := h.blk.2.2
  obtain ⟨nX, nX5, _⟩ := h.apart
  have BX := Blk.put (o := 5) (P := [_, _, _, _, _]) (Blk.sets (P := [_, _, _, _, _, _, _]) (us := [_, _, _, _]) (vs := [.int .i64 x0, .int .i64 y0, .int .i64 x1, .int .i64 y1]) (h.blk.keep hb) rfl rfl) rfl (.slice v5 0 k5)
  have tt : Turns w' ((w'.setCells X 7 [.int .i64 x0, .int .i64 y0, .int .i64 x1, .int .i64 y1]).setCell ⟨X, 5, none⟩ (.slice v5 0 k5)) (fun b => b = X) := turns_set (S := fun b => b = X) (turns_sets (S := fun b => b = X) X rfl _ _ _) rfl _ _
  generalize (w'.setCells X 7 [.int .i64 x0, .int .i64 y0, .int .i64 x1, .int .i64 y1]).setCell ⟨X, 5, none⟩ (.slice v5 0 k5) = V at *
  have zb := hb.size
  refine ⟨rfl, (hb.mono hB).trans (tt.below (by omega) (fun k e => e ▸ hX)), fun P' hP => ?_⟩
  injection hP with hP
  subst hP
  refine h.close (by have := tt.size; omega) (fun b hb' => ?_) (g := { p.now with path := [], x0 := x0, y0 := y0, x1 := x1, y1 := y1 }) rfl (a5' := v5) (c5' := k5) BX (.nil v5 k5) List.nodup_nil hXl hB (fun b hb => absurd hb List.not_mem_nil)
  have lb := h.lt b hb'
  rw [tt.block b (by omega) (fun (e : b = X) => nX (e ▸ hb'))]
  exact hb.block b lb
set_option maxHeartbeats 4000000 in
theorem sp_clip {w : World} {B X : Nat} {P : Pg} (h : PgAt w B X P) (hB : B ≤ w.heap.size) (hX : B ≤ X) (hl : P.now.path.length ≤ 8) (s : ByteArray) (hk : opN s = some 6) (u : Value) :
    Calls Tryz.prog 31 #[.pointer (some ⟨X, 0, none⟩), .string s, u] w (OpRes B X (if P.now.path.length = 0 then none else some (cliM P)) w) := by
  obtain ⟨a0, c0, f0, a5, c5, P5, a11, c11, P11, f11, a12, c12, P12, f12, h⟩ := h.flat
  obtain ⟨q0, q1, q2, q3, q4, q5, q6, q7, q8, q9, q10, q11⟩ := nm12 hk
  have hXl := h.blk.2.2
  obtain ⟨n, hN⟩ : ∃ n, P.now.path.length = n := ⟨_, rfl⟩
  have k5 := h.blk.1 5 _ rfl
  rw [hN] at k5 hl ⊢
  by_cases h0 : n = 0
  · subst h0
    have HN : Hid (OpRes B X none w (.returned (.bool false)) w) := Lib.hid ⟨rfl, (Below.refl _ _).mono hB, fun P' hP => by cases hP⟩
    clear h hk hN
    go_enter Tryz.func31, Tryz.ntmps31
    go_wp2
    go_ret
    exact HN.out
  · rw [if_neg h0]
    obtain ⟨_, hp⟩ := path_of (row_own2 h.r5 (h.o5 w))
    have hp : ∃ g, a5 = some ⟨g, 0, none⟩ ∧ g < w.heap.size ∧ PtsAt w g n (pX P.now.path) (pY P.now.path) := by
      rcases hp with hp | ⟨g, e, hg, hp⟩
      · exact absurd (by rw [← hN, hp]; rfl) h0
      · exact ⟨g, e, hg, fun i hi => hp i (by rw [hN]; exact hi)⟩
    obtain ⟨g, rfl, hg, hp⟩ := hp
    obtain ⟨m0, hm0⟩ : ∃ x, sel (clB P.now) (mx P.now.x0 (bx0 P.now.path)) = x := ⟨_, rfl⟩
    obtain ⟨m1, hm1⟩ : ∃ x, sel (clB P.now) (mx P.now.y0 (bx1 P.now.path)) = x := ⟨_, rfl⟩
    obtain ⟨m2, hm2⟩ : ∃ x, sel (clB P.now) (mn P.now.x1 (bx2 P.now.path)) = x := ⟨_, rfl⟩
    obtain ⟨m3, hm3⟩ : ∃ x, sel (clB P.now) (mn P.now.y1 (bx3 P.now.path)) = x := ⟨_, rfl⟩
    have hM : ∀ w : World, Calls Tryz.prog 67 #[.agg #[.int .i64 P.now.x0, .int .i64 P.now.y0, .int .i64 P.now.x1, .int .i64 P.now.y1], .agg #[.int .i64 (bx0 P.now.path), .int .i64 (bx1 P.now.path), .int .i64 (bx2 P.now.path), .int .i64 (bx3 P.now.path)]] w fun e w' => e = .returned (.agg #[.int .i64 m0, .int .i64 m1, .int .i64 m2, .int .i64 m3]) ∧ Below w.heap.size w w' := fun w => by
      subst hm0 hm1 hm2 hm3
      exact meet_spec P.now.x0 P.now.y0 P.now.x1 P.now.y1 (bx0 P.now.path) (bx1 P.now.path) (bx2 P.now.path) (bx3 P.now.path) w
    have HF := Lib.hid (fun (W : World) (hb : Below w.heap.size w W) => (show OpRes B X (some (cliM P)) w (.returned (.bool true)) ((W.setCells X 7 [.int .i64 m0, .int .i64 m1, .int .i64 m2, .int .i64 m3]).setCell ⟨X, 5, none⟩ (.slice (some ⟨W.heap.size, 0, none⟩) 0 0)) from by
      have := h.clipG hb hB hX m0 m1 m2 m3 (some ⟨W.heap.size, 0, none⟩) 0
      subst hm0 hm1 hm2 hm3
      exact this))
    have hBx : Calls Tryz.prog 68 #[.slice (some ⟨g, 0, none⟩) n c5] w.drew fun e w' => e = .returned (.agg #[.int .i64 (bx0 P.now.path), .int .i64 (bx1 P.now.path), .int .i64 (bx2 P.now.path), .int .i64 (bx3 P.now.path)]) ∧ Below w.heap.size w w' := by
      refine (boxof_spec g n c5 (pX P.now.path) (pY P.now.path) w.drew (by omega) (by simpa using hg) hp).mono ?_
      rintro e w' ⟨rfl, hb⟩
      refine ⟨?_, on_of (show Below w.heap.size w w.drew from by go_grown) hb⟩
      simp only [boxofV, bx0, bx1, bx2, bx3, bxB, hN]
    obtain ⟨b0, hb0⟩ : ∃ x, bx0 P.now.path = x := ⟨_, rfl⟩
    obtain ⟨b1, hb1⟩ : ∃ x, bx1 P.now.path = x := ⟨_, rfl⟩
    obtain ⟨b2, hb2⟩ : ∃ x, bx2 P.now.path = x := ⟨_, rfl⟩
    obtain ⟨b3, hb3⟩ : ∃ x, bx3 P.now.path = x := ⟨_, rfl⟩
    rw [hb0, hb1, hb2, hb3] at hBx
    simp only [hb0, hb1, hb2, hb3] at hM
    have HM := Lib.hid hM
    have HBx := Lib.hid hBx
    have n0 : ((n : Int) == 0) = false := by simp; omega
    have HK := Lib.hid (fun (W : World) (hb : Below w.heap.size w W) => (show (W.cell? ⟨X, 7, none⟩ = some (.int .i64 P.now.x0) ∧ W.cell? ⟨X, 8, none⟩ = some (.int .i64 P.now.y0) ∧ W.cell? ⟨X, 9, none⟩ = some (.int .i64 P.now.x1) ∧ W.cell? ⟨X, 10, none⟩ = some (.int .i64 P.now.y1)) ∧ W.cell? ⟨X, 5, none⟩ = some (.slice (some ⟨g, 0, none⟩) n c5) ∧ (∀ o, W.frozen? ⟨X, o, none⟩ = false) from by
      have k := h.blk.keep hb
      rw [← hN]
      exact ⟨⟨k.1 7 _ rfl, k.1 8 _ rfl, k.1 9 _ rfl, k.1 10 _ rfl⟩, k.1 5 _ rfl, k.2.1⟩))
    obtain ⟨⟨k7, k8, k9, k10⟩, _, fz⟩ := HK.out w (Below.refl _ _)
    clear h hk hN h0 hp hM hBx hm0 hm1 hm2 hm3 hb0 hb1 hb2 hb3
    go_enter Tryz.func31, Tryz.ntmps31
    go_upto_region 28 with (fail)
    go_region_law (first
      | (go_simp; go_at_call 68; (with_reducible refine (HBx.out).mono ?_); rintro e w5 ⟨rfl, b5⟩; have H5 := Lib.hid b5; obtain ⟨⟨j7, j8, j9, j10⟩, j5, fj⟩ := HK.out w5 b5; clear b5)
      | (go_simp; go_at_call 67; (with_reducible refine (HM.out _).mono ?_); rintro e w6 ⟨rfl, b6⟩; have b6 := on_of H5.out b6; have H6 := Lib.hid b6; obtain ⟨⟨i7, i8, i9, i10⟩, i5, fi⟩ := HK.out w6 b6; have lX := (show X < w6.heap.size from by have := b6.size; omega); clear b6))
    all_goals
      go_wp2
      go_ret
      exact (HF.out _ H6.out).alloc (by have := H6.out.size; have e := (turns_sets (S := fun b => b = X) X rfl [.int .i64 m0, .int .i64 m1, .int .i64 m2, .int .i64 m3] 7 w6).size; simp; omega) _
end Go.Proofs.YtjmfgbbngocodaaGreat.Own

namespace Go.Proofs.YtjmfgbbngocodaaGreat.Own
open Go.ChangeShapes Go.WideShapes Go.ChangeAt Go.RowKit
open Kit Slabs Ints Stack Point Turn Join Pts Box Push Take Opn SOp
set_option linter.unusedVariables false
set_option linter.unusedSimpArgs false
set_option linter.unnecessarySimpa false
set_option maxRecDepth 100000
attribute [local go_sem ↓] hload_Graphics hload_Object hstore_Graphics hstore_Object hload_Page hstore_Page
set_option maxHeartbeats 4000000 in
theorem sp_save {w : World} {B X : Nat} {P : Pg} (h : PgAt w B X P) (hB : B ≤ w.heap.size) (hX : B ≤ X) (hb : bulkL P.now.dt ≤ 1048576) (hl : P.saved.length ≤ 4) (s : ByteArray) (hk : opN s = some 7) (u : Value) :
    Calls Tryz.prog 32 #[.pointer (some ⟨X, 0, none⟩), .string s, u] w (OpRes B X (some (savM P)) w) := by
  obtain ⟨q0, q1, q2, q3, q4, q5, q6, q7, q8, q9, q10, q11⟩ := nm12 hk
  have H0 := Lib.hid h
  clear h hk
  go_enter Tryz.func32, Tryz.ntmps32
  go_wp2_with fail
  ((with_reducible refine (ident_spec _).mono ?_); rintro e w1 ⟨rfl, b1⟩)
  have bA : Below w.heap.size w (w1.alloc (.cells #[.int .i64 0, .int .i64 1, .int .i64 0, .int .i64 0] 38)) := b1.alloc b1.size _
  go_upto_region 7 with (fail)
  generalize w1.alloc (.cells #[.int .i64 0, .int .i64 1, .int .i64 0, .int .i64 0] 38) = V at bA ⊢
  have HBV := Lib.hid (bA.mono hB)
  have hBV : B ≤ V.heap.size := Nat.le_trans hB bA.size
  obtain ⟨a0, c0, f0, a5, c5, P5, a11, c11, P11, f11, a12, c12, P12, f12, h⟩ := (H0.out.on bA).flat
  clear b1 bA H0
  obtain ⟨fA, oA⟩ := h.now
  have h := h.opn
  obtain ⟨XG, hXG⟩ : ∃ XG, nowCells P a0 c0 a5 c5 = XG := ⟨_, rfl⟩
  obtain ⟨n, hN⟩ : ∃ n, P.saved.length = n := ⟨_, rfl⟩
  have oA' : OwnL V LGraphics XG.toArray.toList P.now.dt fA := by rw [← hXG]; simpa using oA
  rw [hXG] at h
  have HLen := Lib.hid h.len
  have HA := Lib.hid oA'
  have HN := Lib.hid hN
  have HK := Lib.hid (fun (W : World) (hb : Below V.heap.size V W) => (show W.cell? ⟨X, 11, none⟩ = some (.slice a11 n c11) from by rw [← hN]; exact (h.on hb).cell11))
  have HS9 := Lib.hid (fun (W : World) (hb : Below V.heap.size V W) => load_blk ((h.on hb).blk) h.len)
  have HR11 := Lib.hid (fun (W : World) (hb : Below V.heap.size V W) => (show W.ownsRow B 42 11 (.slice a11 n c11) n P11 from by rw [← hN]; exact row_on h.r11 hb))
  have HH := Lib.hid h
  have hXl := h.blk.2.2
  have kO := HK.out V (Below.refl _ _)
  rw [hN] at hl
  obtain ⟨A, hA⟩ : ∃ A, XG.toArray = A := ⟨_, rfl⟩
  rw [hA] at HA HS9
  clear h oA oA' hXG hN
  have hB := hBV
  refine wp_region_held_drew (S := fun w' => (hload 42 ⟨X, 0, none⟩).run Tryz.prog w' = .ok (.agg A) w') (by kernel_rfl) (HS9.out _ (by go_grown)) (fun hHeld => ?_)
  refine wpAnyH_take (i := 0) (oi := _) (v := ?_) rfl (by kernel_rfl) (by kernel_rfl) (by kernel_rfl) (fun _ _ _ h => h) (Or.inl ⟨by rfl, ?_⟩) (by assumption) ?_
  rotate_left
  · (intro w hSw; (try dsimp only at hSw); go_simp; try with_reducible rfl)
  try simp only [Act.put, List.setIfInBounds_toArray, List.set_cons_zero, List.set_cons_succ]
  refine wpAnyH_take (i := 1) (oi := _) (v := ?_) rfl (by kernel_rfl) (by kernel_rfl) (by kernel_rfl) (fun _ _ _ h => h) (Or.inl ⟨by rfl, ?_⟩) (by assumption) ?_
  rotate_left
  · (intro w hSw; (try dsimp only at hSw); go_simp; try with_reducible rfl)
  try simp only [Act.put, List.setIfInBounds_toArray, List.set_cons_zero, List.set_cons_succ]
  refine wpAnyH_take (i := 2) (oi := _) (v := ?_) rfl (by kernel_rfl) (by kernel_rfl) (by kernel_rfl) (fun _ _ _ h => h) (Or.inl ⟨by rfl, ?_⟩) (by assumption) ?_
  rotate_left
  · (intro w hSw; (try dsimp only at hSw); go_simp; try with_reducible rfl)
  try simp only [Act.put, List.setIfInBounds_toArray, List.set_cons_zero, List.set_cons_succ]
  refine wpAnyH_take (i := 3) (oi := _) (v := ?_) rfl (by kernel_rfl) (by kernel_rfl) (by kernel_rfl) (fun _ _ _ h => h) (Or.inl ⟨by rfl, ?_⟩) (by assumption) ?_
  rotate_left
  · (intro w hSw; (try dsimp only at hSw); go_simp; try with_reducible rfl)
  try simp only [Act.put, List.setIfInBounds_toArray, List.set_cons_zero, List.set_cons_succ]
  refine wpAnyH_take (i := 5) (oi := _) (v := ?_) rfl (by kernel_rfl) (by kernel_rfl) (by kernel_rfl) (fun _ _ _ h => h) (Or.inl ⟨by rfl, ?_⟩) (by assumption) ?_
  rotate_left
  · (intro w hSw; (try dsimp only at hSw); go_simp; try with_reducible rfl)
  try simp only [Act.put, List.setIfInBounds_toArray, List.set_cons_zero, List.set_cons_succ]
  refine wpAnyH_take (i := 6) (oi := _) (v := ?_) rfl (by kernel_rfl) (by kernel_rfl) (by kernel_rfl) (fun _ _ _ h => h) (Or.inl ⟨by rfl, ?_⟩) (by assumption) ?_
  rotate_left
  · (intro w hSw; (try dsimp only at hSw); go_simp; try with_reducible rfl)
  try simp only [Act.put, List.setIfInBounds_toArray, List.set_cons_zero, List.set_cons_succ]
  refine wpAnyH_take (i := 7) (oi := _) (v := ?_) rfl (by kernel_rfl) (by kernel_rfl) (by kernel_rfl) (fun _ _ _ h => h) (Or.inl ⟨by rfl, ?_⟩) (by assumption) ?_
  rotate_left
  · (intro w hSw; (try dsimp only at hSw); go_simp; try with_reducible rfl)
  try simp only [Act.put, List.setIfInBounds_toArray, List.set_cons_zero, List.set_cons_succ]
  refine wpAnyH_take (i := 8) (oi := _) (v := ?_) rfl (by kernel_rfl) (by kernel_rfl) (by kernel_rfl) (fun _ _ _ h => h) (Or.inl ⟨by rfl, ?_⟩) (by assumption) ?_
  rotate_left
  · (intro w hSw; (try dsimp only at hSw); go_simp; try with_reducible rfl)
  try simp only [Act.put, List.setIfInBounds_toArray, List.set_cons_zero, List.set_cons_succ]
  refine wpAnyH_ready (rs := [4, 9]) (by kernel_rfl) (by simp) ?_
  refine AllReadyH.cons (o := _) rfl (fun KK hKK => ?_) ?_
  · go_simp
    try go_wp2_with fail
    refine hKK.out _ _ ?_ (fun hHeld2 => ?_)
    · (try dsimp only); first | exact HS7b.out | exact HS7.out | exact HS9.out _ H5.out.2.2.2.1 | exact HS9.out _ ((H5.out.2.2.2.1).alloc (by omega) _) | exact HS9.out _ (by go_grown)
    refine wpAnyH_ready (rs := [9]) (by kernel_rfl) (by simp) ?_
    refine AllReadyH.cons (o := _) rfl (fun KK hKK => ?_) AllReadyH.nil
    (go_simp; go_at_call 62; (with_reducible refine (copy_Graphics V.drew hb (HA.out.under (show Below V.heap.size V V.drew from by go_grown))).mono ?_); rintro e w5 ⟨R, F0', rfl, gR, bb⟩; obtain ⟨r0, s0, r5, s5, eR⟩ := gR.cells; obtain ⟨F, oR, nR, sR⟩ := gR.own; have gF := (fun b hb => gR.ge b (sR b hb)); have bb := on_of (W := V) (by go_grown) bb; have gF' : ∀ b ∈ F, V.heap.size ≤ b := gF; clear gR sR; obtain rfl := arr_of eR; clear eR; have j11 := HK.out w5 bb; have z5 := bb.size; have lX5 : X < w5.heap.size := (by omega); have r5' := HR11.out w5 bb; have H5 := Lib.hid (And.intro oR (And.intro nR (And.intro gF' (And.intro bb r5')))); clear oR nR gF gF' bb r5')
    try go_wp2_with fail
    refine hKK.out _ _ ?_ (fun hHeld2 => ?_)
    · (try dsimp only); first | exact HS7b.out | exact HS7.out | exact HS9.out _ H5.out.2.2.2.1 | exact HS9.out _ ((H5.out.2.2.2.1).alloc (by omega) _) | exact HS9.out _ (by go_grown)
    refine wpAnyH_ready (rs := [10]) (by kernel_rfl) (by simp) ?_
    refine AllReadyH.cons (o := _) rfl (fun KK hKK => ?_) AllReadyH.nil
    go_simp
    try go_wp2_with fail
    refine hKK.out _ _ ?_ (fun hHeld2 => ?_)
    · (try dsimp only); first | exact HS7b.out | exact HS7.out | exact HS9.out _ H5.out.2.2.2.1 | exact HS9.out _ ((H5.out.2.2.2.1).alloc (by omega) _) | exact HS9.out _ (by go_grown)
    refine wpAnyH_ready (rs := [11]) (by kernel_rfl) (by simp) ?_
    refine AllReadyH.cons (o := _) rfl (fun KK hKK => ?_) AllReadyH.nil
    (refine step_append_sl et_grs rfl _ _ rfl B a11 n c11 P11 (by rfl) (H5.out.2.2.2.2.alloc _) (some ⟨w5.heap.size, 0, none⟩) 1 1 [.slice r0 P.now.st.length s0, .int .i64 P.now.q, .int .i64 P.now.s, .int .i64 P.now.dx, .int .i64 P.now.dy, .slice r5 P.now.path.length s5, .int .i64 P.now.gray, .int .i64 P.now.x0, .int .i64 P.now.y0, .int .i64 P.now.x1, .int .i64 P.now.y1] (by rfl) (by rfl) (Lies.new w5 _ _ rfl) (fun u hu => H5.out.1.one u hu) (by unfold maxLen; omega) (by omega) (by simp; omega) ?_; intro a' c' w7 r7 gr7 sub7; have hh := HH.out.save hB hX HN.out H5.out.2.2.2.1 H5.out.1 H5.out.2.1 H5.out.2.2.1 _ r7 gr7 sub7; have k7 := hh.1.1 11 (.slice a11 n c11) (by rw [List.getElem?_append_right (by have := HLen.out; omega)]; simp [HLen.out]); have f7 := hh.1.2.1; have HR := Lib.hid hh.2.2; have HS7 := Lib.hid (load_blk hh.1 HLen.out); have HS7b := Lib.hid (load_blk hh.2.1 HLen.out); rw [hA] at HS7 HS7b; clear hh r7 gr7 sub7)
    try go_wp2_with fail
    refine hKK.out _ _ ?_ (fun hHeld2 => ?_)
    · (try dsimp only); first | exact HS7b.out | exact HS7.out | exact HS9.out _ H5.out.2.2.2.1 | exact HS9.out _ ((H5.out.2.2.2.1).alloc (by omega) _) | exact HS9.out _ (by go_grown)
    refine wpAnyH_take (i := 12) (oi := _) (v := ?_) rfl (by kernel_rfl) (by kernel_rfl) (by kernel_rfl) (fun _ _ _ h => h) (Or.inl ⟨by rfl, ?_⟩) (by assumption) ?_
    rotate_left
    · (intro w hSw; (try dsimp only at hSw); go_simp; try with_reducible rfl)
    try simp only [Act.put, List.setIfInBounds_toArray, List.set_cons_zero, List.set_cons_succ]
    refine wpAnyH_take (i := 13) (oi := _) (v := ?_) rfl (by kernel_rfl) (by kernel_rfl) (by kernel_rfl) (fun _ _ _ h => h) (Or.inl ⟨by rfl, ?_⟩) (by assumption) ?_
    rotate_left
    · (intro w hSw; (try dsimp only at hSw); go_simp; try with_reducible rfl)
    try simp only [Act.put, List.setIfInBounds_toArray, List.set_cons_zero, List.set_cons_succ]
    refine wpAnyH_ready (rs := [14]) (by kernel_rfl) (by simp) ?_
    refine AllReadyH.cons (o := _) rfl (fun KK hKK => ?_) AllReadyH.nil
    go_simp
    try go_wp2_with fail
    refine hKK.out _ _ ?_ (fun hHeld2 => ?_)
    · (try dsimp only); first | exact HS7b.out | exact HS7.out | exact HS9.out _ H5.out.2.2.2.1 | exact HS9.out _ ((H5.out.2.2.2.1).alloc (by omega) _) | exact HS9.out _ (by go_grown)
    refine wpAnyH_done (by kernel_rfl) ?_ _
    go_wp2_with fail
    go_wp2
    go_ret
    exact HR.out.from HBV.out
  refine AllReadyH.cons (o := _) rfl (fun KK hKK => ?_) AllReadyH.nil
  (go_simp; go_at_call 62; (with_reducible refine (copy_Graphics V.drew hb (HA.out.under (show Below V.heap.size V V.drew from by go_grown))).mono ?_); rintro e w5 ⟨R, F0', rfl, gR, bb⟩; obtain ⟨r0, s0, r5, s5, eR⟩ := gR.cells; obtain ⟨F, oR, nR, sR⟩ := gR.own; have gF := (fun b hb => gR.ge b (sR b hb)); have bb := on_of (W := V) (by go_grown) bb; have gF' : ∀ b ∈ F, V.heap.size ≤ b := gF; clear gR sR; obtain rfl := arr_of eR; clear eR; have j11 := HK.out w5 bb; have z5 := bb.size; have lX5 : X < w5.heap.size := (by omega); have r5' := HR11.out w5 bb; have H5 := Lib.hid (And.intro oR (And.intro nR (And.intro gF' (And.intro bb r5')))); clear oR nR gF gF' bb r5')
  try go_wp2_with fail
  refine hKK.out _ _ ?_ (fun hHeld2 => ?_)
  · (try dsimp only); first | exact HS7b.out | exact HS7.out | exact HS9.out _ H5.out.2.2.2.1 | exact HS9.out _ ((H5.out.2.2.2.1).alloc (by omega) _) | exact HS9.out _ (by go_grown)
  refine wpAnyH_ready (rs := [4, 10]) (by kernel_rfl) (by simp) ?_
  refine AllReadyH.cons (o := _) rfl (fun KK hKK => ?_) ?_
  · go_simp
    try go_wp2_with fail
    refine hKK.out _ _ ?_ (fun hHeld2 => ?_)
    · (try dsimp only); first | exact HS7b.out | exact HS7.out | exact HS9.out _ H5.out.2.2.2.1 | exact HS9.out _ ((H5.out.2.2.2.1).alloc (by omega) _) | exact HS9.out _ (by go_grown)
    refine wpAnyH_ready (rs := [10]) (by kernel_rfl) (by simp) ?_
    refine AllReadyH.cons (o := _) rfl (fun KK hKK => ?_) AllReadyH.nil
    go_simp
    try go_wp2_with fail
    refine hKK.out _ _ ?_ (fun hHeld2 => ?_)
    · (try dsimp only); first | exact HS7b.out | exact HS7.out | exact HS9.out _ H5.out.2.2.2.1 | exact HS9.out _ ((H5.out.2.2.2.1).alloc (by omega) _) | exact HS9.out _ (by go_grown)
    refine wpAnyH_ready (rs := [11]) (by kernel_rfl) (by simp) ?_
    refine AllReadyH.cons (o := _) rfl (fun KK hKK => ?_) AllReadyH.nil
    (refine step_append_sl et_grs rfl _ _ rfl B a11 n c11 P11 (by rfl) (H5.out.2.2.2.2.alloc _) (some ⟨w5.heap.size, 0, none⟩) 1 1 [.slice r0 P.now.st.length s0, .int .i64 P.now.q, .int .i64 P.now.s, .int .i64 P.now.dx, .int .i64 P.now.dy, .slice r5 P.now.path.length s5, .int .i64 P.now.gray, .int .i64 P.now.x0, .int .i64 P.now.y0, .int .i64 P.now.x1, .int .i64 P.now.y1] (by rfl) (by rfl) (Lies.new w5 _ _ rfl) (fun u hu => H5.out.1.one u hu) (by unfold maxLen; omega) (by omega) (by simp; omega) ?_; intro a' c' w7 r7 gr7 sub7; have hh := HH.out.save hB hX HN.out H5.out.2.2.2.1 H5.out.1 H5.out.2.1 H5.out.2.2.1 _ r7 gr7 sub7; have k7 := hh.1.1 11 (.slice a11 n c11) (by rw [List.getElem?_append_right (by have := HLen.out; omega)]; simp [HLen.out]); have f7 := hh.1.2.1; have HR := Lib.hid hh.2.2; have HS7 := Lib.hid (load_blk hh.1 HLen.out); have HS7b := Lib.hid (load_blk hh.2.1 HLen.out); rw [hA] at HS7 HS7b; clear hh r7 gr7 sub7)
    try go_wp2_with fail
    refine hKK.out _ _ ?_ (fun hHeld2 => ?_)
    · (try dsimp only); first | exact HS7b.out | exact HS7.out | exact HS9.out _ H5.out.2.2.2.1 | exact HS9.out _ ((H5.out.2.2.2.1).alloc (by omega) _) | exact HS9.out _ (by go_grown)
    refine wpAnyH_take (i := 12) (oi := _) (v := ?_) rfl (by kernel_rfl) (by kernel_rfl) (by kernel_rfl) (fun _ _ _ h => h) (Or.inl ⟨by rfl, ?_⟩) (by assumption) ?_
    rotate_left
    · (intro w hSw; (try dsimp only at hSw); go_simp; try with_reducible rfl)
    try simp only [Act.put, List.setIfInBounds_toArray, List.set_cons_zero, List.set_cons_succ]
    refine wpAnyH_take (i := 13) (oi := _) (v := ?_) rfl (by kernel_rfl) (by kernel_rfl) (by kernel_rfl) (fun _ _ _ h => h) (Or.inl ⟨by rfl, ?_⟩) (by assumption) ?_
    rotate_left
    · (intro w hSw; (try dsimp only at hSw); go_simp; try with_reducible rfl)
    try simp only [Act.put, List.setIfInBounds_toArray, List.set_cons_zero, List.set_cons_succ]
    refine wpAnyH_ready (rs := [14]) (by kernel_rfl) (by simp) ?_
    refine AllReadyH.cons (o := _) rfl (fun KK hKK => ?_) AllReadyH.nil
    go_simp
    try go_wp2_with fail
    refine hKK.out _ _ ?_ (fun hHeld2 => ?_)
    · (try dsimp only); first | exact HS7b.out | exact HS7.out | exact HS9.out _ H5.out.2.2.2.1 | exact HS9.out _ ((H5.out.2.2.2.1).alloc (by omega) _) | exact HS9.out _ (by go_grown)
    refine wpAnyH_done (by kernel_rfl) ?_ _
    go_wp2_with fail
    go_wp2
    go_ret
    exact HR.out.from HBV.out
  refine AllReadyH.cons (o := _) rfl (fun KK hKK => ?_) AllReadyH.nil
  go_simp
  try go_wp2_with fail
  refine hKK.out _ _ ?_ (fun hHeld2 => ?_)
  · (try dsimp only); first | exact HS7b.out | exact HS7.out | exact HS9.out _ H5.out.2.2.2.1 | exact HS9.out _ ((H5.out.2.2.2.1).alloc (by omega) _) | exact HS9.out _ (by go_grown)
  refine wpAnyH_ready (rs := [4]) (by kernel_rfl) (by simp) ?_
  refine AllReadyH.cons (o := _) rfl (fun KK hKK => ?_) AllReadyH.nil
  go_simp
  try go_wp2_with fail
  refine hKK.out _ _ ?_ (fun hHeld2 => ?_)
  · (try dsimp only); first | exact HS7b.out | exact HS7.out | exact HS9.out _ H5.out.2.2.2.1 | exact HS9.out _ ((H5.out.2.2.2.1).alloc (by omega) _) | exact HS9.out _ (by go_grown)
  refine wpAnyH_ready (rs := [11]) (by kernel_rfl) (by simp) ?_
  refine AllReadyH.cons (o := _) rfl (fun KK hKK => ?_) AllReadyH.nil
  (refine step_append_sl et_grs rfl _ _ rfl B a11 n c11 P11 (by rfl) (H5.out.2.2.2.2.alloc _) (some ⟨w5.heap.size, 0, none⟩) 1 1 [.slice r0 P.now.st.length s0, .int .i64 P.now.q, .int .i64 P.now.s, .int .i64 P.now.dx, .int .i64 P.now.dy, .slice r5 P.now.path.length s5, .int .i64 P.now.gray, .int .i64 P.now.x0, .int .i64 P.now.y0, .int .i64 P.now.x1, .int .i64 P.now.y1] (by rfl) (by rfl) (Lies.new w5 _ _ rfl) (fun u hu => H5.out.1.one u hu) (by unfold maxLen; omega) (by omega) (by simp; omega) ?_; intro a' c' w7 r7 gr7 sub7; have hh := HH.out.save hB hX HN.out H5.out.2.2.2.1 H5.out.1 H5.out.2.1 H5.out.2.2.1 _ r7 gr7 sub7; have k7 := hh.1.1 11 (.slice a11 n c11) (by rw [List.getElem?_append_right (by have := HLen.out; omega)]; simp [HLen.out]); have f7 := hh.1.2.1; have HR := Lib.hid hh.2.2; have HS7 := Lib.hid (load_blk hh.1 HLen.out); have HS7b := Lib.hid (load_blk hh.2.1 HLen.out); rw [hA] at HS7 HS7b; clear hh r7 gr7 sub7)
  try go_wp2_with fail
  refine hKK.out _ _ ?_ (fun hHeld2 => ?_)
  · (try dsimp only); first | exact HS7b.out | exact HS7.out | exact HS9.out _ H5.out.2.2.2.1 | exact HS9.out _ ((H5.out.2.2.2.1).alloc (by omega) _) | exact HS9.out _ (by go_grown)
  refine wpAnyH_take (i := 12) (oi := _) (v := ?_) rfl (by kernel_rfl) (by kernel_rfl) (by kernel_rfl) (fun _ _ _ h => h) (Or.inl ⟨by rfl, ?_⟩) (by assumption) ?_
  rotate_left
  · (intro w hSw; (try dsimp only at hSw); go_simp; try with_reducible rfl)
  try simp only [Act.put, List.setIfInBounds_toArray, List.set_cons_zero, List.set_cons_succ]
  refine wpAnyH_take (i := 13) (oi := _) (v := ?_) rfl (by kernel_rfl) (by kernel_rfl) (by kernel_rfl) (fun _ _ _ h => h) (Or.inl ⟨by rfl, ?_⟩) (by assumption) ?_
  rotate_left
  · (intro w hSw; (try dsimp only at hSw); go_simp; try with_reducible rfl)
  try simp only [Act.put, List.setIfInBounds_toArray, List.set_cons_zero, List.set_cons_succ]
  refine wpAnyH_ready (rs := [14]) (by kernel_rfl) (by simp) ?_
  refine AllReadyH.cons (o := _) rfl (fun KK hKK => ?_) AllReadyH.nil
  go_simp
  try go_wp2_with fail
  refine hKK.out _ _ ?_ (fun hHeld2 => ?_)
  · (try dsimp only); first | exact HS7b.out | exact HS7.out | exact HS9.out _ H5.out.2.2.2.1 | exact HS9.out _ ((H5.out.2.2.2.1).alloc (by omega) _) | exact HS9.out _ (by go_grown)
  refine wpAnyH_done (by kernel_rfl) ?_ _
  go_wp2_with fail
  go_wp2
  go_ret
  exact HR.out.from HBV.out
end Go.Proofs.YtjmfgbbngocodaaGreat.Own

