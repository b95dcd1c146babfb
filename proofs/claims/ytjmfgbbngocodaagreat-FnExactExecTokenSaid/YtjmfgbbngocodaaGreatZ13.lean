/-
  Texts of this seat, laid together: MkP, SpH
-/
import Derived.WalkKit
import Derived.Deep.DeepCutAuto
import Derived.Deep.QuietTactic
import Derived.BigQuiet
import Derived.Deep.RegionHeld3
import Derived.Handy
import Derived.Test.YtjmfgbbngocodaaGreatZ10
import Derived.Test.YtjmfgbbngocodaaGreatZ11
import Derived.Test.YtjmfgbbngocodaaGreatZ12
import Derived.Test.YtjmfgbbngocodaaGreatZ18
namespace Go.Proofs.YtjmfgbbngocodaaGreat.Own
open Go.ChangeShapes Go.WideShapes Go.ChangeAt Go.RowKit
open Kit Slabs Ints
set_option linter.unusedVariables false
set_option linter.unusedSimpArgs false
set_option linter.unnecessarySimpa false
set_option maxRecDepth 100000
attribute [local go_sem ↓] hload_Graphics
set_option maxHeartbeats 4000000 in
theorem mark_Page (w : World) (N : Nat) {A : Array Value} {ds : List Dt} {fp : List Nat} (hb : bulkL ds ≤ 1048576) (h0 : 0 < N) (hN : N + cnt0L ds ≤ 1000000000) (h : OwnL w LPage A.toList ds fp) (hd : fp.Nodup) :
    Calls Tryz.prog 12 #[.agg A, .int .i64 (N : Int)] w fun e w' => e = .returned (.int .i64 ((N + cnt0L ds : Nat) : Int)) ∧ OwnL w' LPage A.toList (mk0L ds N) fp ∧ Turns w w' (fun b => b ∈ fp) := by
  obtain ⟨xG0, xa11, xc11, xa12, xc12, xD0, xs11, xs12, xF0, xF11, xF12, hA, rfl, rfl, ox0, ox11, ox12⟩ := inv_Page h
  have nxG0 : xG0.length = 11 := ox0.len
  obtain ⟨nd0, r0, x0⟩ := nodup_parts hd
  obtain ⟨nd1, r1, x1⟩ := nodup_parts r0
  obtain ⟨nd2, r2, x2⟩ := nodup_parts r1
  have d0_1 : ∀ b ∈ xF0, b ∉ xF11 := fun b ha hb => x0 b ha (List.mem_append_left _ hb)
  have d1_0 : ∀ b ∈ xF11, b ∉ xF0 := fun b ha hb => d0_1 b hb ha
  have d0_2 : ∀ b ∈ xF0, b ∉ xF12 := fun b ha hb => x0 b ha (List.mem_append_right _ (List.mem_append_left _ hb))
  have d2_0 : ∀ b ∈ xF12, b ∉ xF0 := fun b ha hb => d0_2 b hb ha
  have d1_2 : ∀ b ∈ xF11, b ∉ xF12 := fun b ha hb => x1 b ha (List.mem_append_left _ hb)
  have d2_1 : ∀ b ∈ xF12, b ∉ xF11 := fun b ha hb => d1_2 b hb ha
  have hc : N + cnt0L (xD0 ++ (.sl xs11 :: (.sl xs12 :: ([])))) = (((N + cnt0L xD0) + cntL xs11) + cntL xs12) := by simp only [cnt0L_app, cnt0L, Dt.cnt0]; omega
  have hm : mk0L (xD0 ++ (.sl xs11 :: (.sl xs12 :: ([])))) N = mk0L xD0 N ++ (.sl (mkL xs11 (N + cnt0L xD0)) :: (.sl (mkL xs12 ((N + cnt0L xD0) + cntL xs11)) :: ([]))) := by simp only [mk0L_app, mk0L, Dt.mk0, cnt0L_app, cnt0L, Dt.cnt0, Nat.add_zero, Nat.add_assoc]
  obtain ⟨M1, hM1⟩ : ∃ M, N + cnt0L xD0 = M := ⟨_, rfl⟩
  simp only [hM1] at hc hm
  obtain ⟨M2, hM2⟩ : ∃ M, M1 + cntL xs11 = M := ⟨_, rfl⟩
  simp only [hM2] at hc hm
  obtain ⟨M3, hM3⟩ : ∃ M, M2 + cntL xs12 = M := ⟨_, rfl⟩
  simp only [hM3] at hc hm
  rw [hc] at hN ⊢
  rw [hm]
  clear hc hm
  simp only [bulkL_app, bulkL, Dt.bulk] at hb
  have BA : Blk (w.alloc (.cells A 46)) w.heap.size A.toList := Blk.new w A 46 rfl
  have hT : Turns w (w.alloc (.cells A 46)) (fun b => b ∈ xF0 ++ (xF11 ++ (xF12 ++ ([])))) := Turns.of_below (by go_grown)
  rw [hA] at BA ⊢
  have lt0 := ox0.lt
  have ne0 : ¬ (w.heap.size ∈ xF0) := fun hb => by have := lt0 _ hb; omega
  have p0 := ox0.under (w' := w.alloc (.cells A 46)) (by go_grown)
  have lt1 := ox11.lt
  have ne1 : ¬ (w.heap.size ∈ xF11) := fun hb => by have := lt1 _ hb; omega
  have p1 := ox11.under (w' := w.alloc (.cells A 46)) (by go_grown)
  have lt2 := ox12.lt
  have ne2 : ¬ (w.heap.size ∈ xF12) := fun hb => by have := lt2 _ hb; omega
  have p2 := ox12.under (w' := w.alloc (.cells A 46)) (by go_grown)
  have HO0 := Lib.hid (And.intro p0 (And.intro p1 p2))
  have HA0 := Lib.hid BA
  have HT0 := Lib.hid hT
  have ra := hload_run (P := Tryz.prog) (t := 42) Tryz.isAgg42 Tryz.sizeOf42 (w := w.alloc (.cells A 46)) (b := w.heap.size) (o := 0) (us := xG0) (Blk.part (P := []) HA0.out rfl) nxG0
  clear ox0 ox11 ox12 hA BA hT h hd p0 lt0 p1 lt1 p2 lt2
  go_enter Tryz.func12, Tryz.ntmps12
  go_wp2_with fail
  ((with_reducible refine (mark_Graphics _ N (ds := xD0) (by omega) (by omega) (by omega) (by simpa using HO0.out.1) nd0).mono ?_); rintro e w1 ⟨rfl, o1, b1⟩)
  rw [hM1]
  simp only [List.toList_toArray] at o1
  have HO1 := Lib.hid (And.intro o1 (And.intro ((HO0.out.2.1).turned b1 d1_0) ((HO0.out.2.2).turned b1 d2_0)))
  have HA1 := Lib.hid (HA0.out.turned b1 ne0)
  have HT1 := Lib.hid (HT0.out.trans (b1.mono (fun _ hk => List.mem_append_left _ hk)))
  clear o1 b1  ra
  have ca11 := HA1.out.1 11 (.slice xa11 xs11.length xc11) (by simp [nxG0])
  go_wp2_with fail
  ((with_reducible refine (mark_GraphicsS _ M1 (by omega) (by omega) (by omega) (HO1.out.2.1) nd1).mono ?_); rintro e w2 ⟨rfl, o2, b2⟩)
  rw [hM2]
  have HO2 := Lib.hid (And.intro ((HO1.out.1).turned b2 d0_1) (And.intro o2 ((HO1.out.2.2).turned b2 d2_1)))
  have HA2 := Lib.hid (HA1.out.turned b2 ne1)
  have HT2 := Lib.hid (HT1.out.trans (b2.mono (fun _ hk => List.mem_append_right _ (List.mem_append_left _ hk))))
  clear o2 b2 ca11
  have ca12 := HA2.out.1 12 (.slice xa12 xs12.length xc12) (by simp [nxG0])
  go_wp2_with fail
  ((with_reducible refine (mark_ObjectS _ M2 (by omega) (by omega) (by omega) (HO2.out.2.2) nd2).mono ?_); rintro e w3 ⟨rfl, o3, b3⟩)
  rw [hM3]
  have HO3 := Lib.hid (And.intro ((HO2.out.1).turned b3 d0_2) (And.intro ((HO2.out.2.1).turned b3 d1_2) o3))
  have HA3 := Lib.hid (HA2.out.turned b3 ne2)
  have HT3 := Lib.hid (HT2.out.trans (b3.mono (fun _ hk => List.mem_append_right _ (List.mem_append_right _ (List.mem_append_left _ hk)))))
  clear o3 b3 ca12
  go_wp2
  go_ret
  exact ⟨rfl, OwnL.app (.cons (cs := [.slice xa11 xs11.length xc11]) (fp := xF11) (HO3.out.2.1) (.cons (cs := [.slice xa12 xs12.length xc12]) (fp := xF12) (HO3.out.2.2) (.nil))) (HO3.out.1), HT3.out⟩
set_option maxHeartbeats 4000000 in
theorem held_Page (w : World) (N : Nat) {A : Array Value} {ds : List Dt} {cs0 : List Value} {fp fq : List Nat} {w0 : World} (hb : bulkL ds ≤ 1048576) (h0 : 0 < N) (hN : N + cnt0L ds ≤ 1000000000) (hs : OwnL w0 LPage cs0 ds fq) (h : OwnL w LPage A.toList (mk0L ds N) fp) :
    Calls Tryz.prog 13 #[.agg A, .int .i64 (N : Int)] w fun e w' => e = .returned (.int .i64 ((N + cnt0L ds : Nat) : Int)) ∧ Below w.heap.size w w' := by
  obtain ⟨xG0, xa11, xc11, xa12, xc12, xD0, xs11, xs12, xF0, xF11, xF12, _, rfl, _, ox0, ox11, ox12⟩ := inv_Page hs
  have lxD0 := ox0.dlen
  have hc : N + cnt0L (xD0 ++ (.sl xs11 :: (.sl xs12 :: ([])))) = (((N + cnt0L xD0) + cntL xs11) + cntL xs12) := by simp only [cnt0L_app, cnt0L, Dt.cnt0]; omega
  have hm : mk0L (xD0 ++ (.sl xs11 :: (.sl xs12 :: ([])))) N = mk0L xD0 N ++ (.sl (mkL xs11 (N + cnt0L xD0)) :: (.sl (mkL xs12 ((N + cnt0L xD0) + cntL xs11)) :: ([]))) := by simp only [mk0L_app, mk0L, Dt.mk0, cnt0L_app, cnt0L, Dt.cnt0, Nat.add_zero, Nat.add_assoc]
  obtain ⟨M1, hM1⟩ : ∃ M, N + cnt0L xD0 = M := ⟨_, rfl⟩
  simp only [hM1] at hc hm
  obtain ⟨M2, hM2⟩ : ∃ M, M1 + cntL xs11 = M := ⟨_, rfl⟩
  simp only [hM2] at hc hm
  obtain ⟨M3, hM3⟩ : ∃ M, M2 + cntL xs12 = M := ⟨_, rfl⟩
  simp only [hM3] at hc hm
  rw [hc] at hN ⊢
  rw [hm] at h
  clear hc hm
  simp only [bulkL_app, bulkL, Dt.bulk] at hb
  obtain ⟨yG0, ya11, yc11, ya12, yc12, yF0, yF11, yF12, hA, rfl, oy0, oy11, oy12⟩ := inv_Page_ (by rw [mk0L_length, lxD0]) h
  simp only [mkL_length] at hA oy11 oy12
  have nyG0 : yG0.length = 11 := oy0.len
  have BA : Blk (w.alloc (.cells A 46)) w.heap.size A.toList := Blk.new w A 46 rfl
  have hW : Below w.heap.size w (w.alloc (.cells A 46)) := by go_grown
  rw [hA] at BA
  have HS := Lib.hid (And.intro ox0 (And.intro ox11 ox12))
  have HO := Lib.hid (And.intro oy0 (And.intro oy11 oy12))
  have HA0 := Lib.hid BA
  have HW0 := Lib.hid hW
  have ra := hload_run (P := Tryz.prog) (t := 42) Tryz.isAgg42 Tryz.sizeOf42 (w := w.alloc (.cells A 46)) (b := w.heap.size) (o := 0) (us := yG0) (Blk.part (P := []) HA0.out rfl) nyG0
  clear ox0 ox11 ox12 oy0 oy11 oy12 hA BA hW h hs
  go_enter Tryz.func13, Tryz.ntmps13
  go_wp2_with fail
  ((with_reducible refine (held_Graphics _ N (ds := xD0) (by omega) (by omega) (by omega) (HS.out.1) (by simpa using (HO.out.1).under HW0.out)).mono ?_); rintro e w1 ⟨rfl, b1⟩)
  rw [hM1]
  have HW1 := Lib.hid (on_of HW0.out b1)
  have HA1 := Lib.hid (HA0.out.keep b1)
  have g1 : ¬ (((M1 : Nat) : Int) < 0) := by omega
  clear b1  ra
  have ca11 := HA1.out.1 11 (.slice ya11 xs11.length yc11) (by simp [nyG0])
  go_wp2_with fail
  ((with_reducible refine (held_GraphicsS _ M1 (by omega) (by omega) (by omega) (HS.out.2.1) ((HO.out.2.1).under HW1.out)).mono ?_); rintro e w2 ⟨rfl, b2⟩)
  rw [hM2]
  have HW2 := Lib.hid (on_of HW1.out b2)
  have HA2 := Lib.hid (HA1.out.keep b2)
  have g2 : ¬ (((M2 : Nat) : Int) < 0) := by omega
  clear b2 ca11
  have ca12 := HA2.out.1 12 (.slice ya12 xs12.length yc12) (by simp [nyG0])
  go_wp2_with fail
  ((with_reducible refine (held_ObjectS _ M2 (by omega) (by omega) (by omega) (HS.out.2.2) ((HO.out.2.2).under HW2.out)).mono ?_); rintro e w3 ⟨rfl, b3⟩)
  rw [hM3]
  have HW3 := Lib.hid (on_of HW2.out b3)
  have HA3 := Lib.hid (HA2.out.keep b3)
  have g3 : ¬ (((M3 : Nat) : Int) < 0) := by omega
  clear b3 ca12
  go_wp2
  go_ret
  exact ⟨rfl, HW3.out⟩
end Go.Proofs.YtjmfgbbngocodaaGreat.Own

namespace Go.Proofs.YtjmfgbbngocodaaGreat.Own
open Go.ChangeShapes Go.WideShapes Go.ChangeAt Go.RowKit
open Kit Slabs Ints Stack Point Turn Join Pts Box Push Take Opn SOp
set_option linter.unusedVariables false
set_option linter.unusedSimpArgs false
set_option linter.unnecessarySimpa false
set_option maxRecDepth 100000
attribute [local go_sem ↓] hload_Graphics hload_Object hstore_Graphics hstore_Object hload_Page hstore_Page
theorem PgFl.restG {w : World} {B X : Nat} {p : Pg} {a0 : Option Addr} {c0 : Nat} {f0 : List Nat} {a5 : Option Addr} {c5 : Nat} {P5 : List Value} {ga c11 : Nat} {P11 : List Value} {fa g0 g5 : List Nat} {a12 : Option Addr} {c12 : Nat} {P12 : List Value} {f12 : List Nat}
    (h : PgFl w B X p a0 c0 f0 a5 c5 P5 (some ⟨ga, 0, none⟩) c11 P11 (fa ++ (g0 ++ g5)) a12 c12 P12 f12) (hB : B ≤ w.heap.size) (hX : B ≤ X) {S : List Gr} {g : Gr} {k : Nat} (hk : S.length = k) {P' : List Value} (oS : OwnL w (List.replicate k KGraphics) P' (dG S) fa) {b5 : Option Addr} {e5 : Nat} (o5 : Own w (.sl KPt) [.slice b5 g.path.length e5] (.sl (dP g.path)) g5)
    {w1 E w7 : World} (b1 : Below w.heap.size w w1) (tE : Turns w1 E (fun b => b = X)) (BE : Blk E X ([.slice a0 p.now.st.length c0, .int .i64 g.q, .int .i64 g.s, .int .i64 g.dx, .int .i64 g.dy, .slice b5 g.path.length e5, .int .i64 g.gray, .int .i64 g.x0, .int .i64 g.y0, .int .i64 g.x1, .int .i64 g.y1] ++ [.slice (some ⟨ga, 0, none⟩) p.saved.length c11, .slice a12 p.objs.length c12])) (t7 : Turns E w7 (fun b => b = ga)) (r7 : w7.ownsRow B 42 11 (.slice (some ⟨ga, 0, none⟩) k c11) k P') :
    Blk w7 X ([.slice a0 p.now.st.length c0, .int .i64 g.q, .int .i64 g.s, .int .i64 g.dx, .int .i64 g.dy, .slice b5 g.path.length e5, .int .i64 g.gray, .int .i64 g.x0, .int .i64 g.y0, .int .i64 g.x1, .int .i64 g.y1] ++ [.slice (some ⟨ga, 0, none⟩) p.saved.length c11, .slice a12 p.objs.length c12]) ∧ OpRes B X (some { p with now := { g with st := p.now.st }, saved := S }) w (.returned (.bool true)) (w7.setCell ⟨X, 11, none⟩ (.slice (some ⟨ga, 0, none⟩) k c11)) := by
  subst hk
  have h1 := h.on b1
  have nd := h.nd
  have lt := h.parts
  have hXl := h.blk.2.2
  have z1 := b1.size
  have e0 : rowL (.slice (some ⟨ga, 0, none⟩) p.saved.length c11) = [ga] := rfl
  have e1 : rowL (.slice (some ⟨ga, 0, none⟩) S.length c11) = [ga] := rfl
  have hga : ga ∈ rowL (.slice (some ⟨ga, 0, none⟩) p.saved.length c11) := by rw [e0]; simp
  have hgX : ga ≠ X := fun e => by subst e; simp only [List.nodup_cons, List.mem_append] at nd; exact nd.1 (by simp [hga])
  have hgB := (lt ga (by simp [hga])).1
  have s11 : ∀ b ∈ (if S.length = 0 then [] else rowL (.slice (some ⟨ga, 0, none⟩) S.length c11) ++ fa), b ∈ rowL (.slice (some ⟨ga, 0, none⟩) S.length c11) ∨ b ∈ fa := rowF_sub
  have s12 : ∀ b ∈ (if p.objs.length = 0 then [] else rowL (.slice a12 p.objs.length c12) ++ f12), b ∈ rowL (.slice a12 p.objs.length c12) ∨ b ∈ f12 := rowF_sub
  have hsub : ∀ b ∈ rowL (.slice (some ⟨ga, 0, none⟩) S.length c11), b ∈ rowL (.slice (some ⟨ga, 0, none⟩) p.saved.length c11) := fun b hb => by rw [e0]; rw [e1] at hb; exact hb
  have q11 : (if S.length = 0 then [] else rowL (.slice (some ⟨ga, 0, none⟩) S.length c11) ++ fa).Nodup := rowF_nodup (by simp only [List.nodup_cons, List.nodup_append] at nd; grind) (fun b hb hc => by have hb := hsub b hb; simp only [List.nodup_cons, List.nodup_append, List.mem_append] at nd; grind)
  have q12 : (if p.objs.length = 0 then [] else rowL (.slice a12 p.objs.length c12) ++ f12).Nodup := rowF_nodup (by simp only [List.nodup_cons, List.nodup_append] at nd; grind) (fun b hb hc => by simp only [List.nodup_cons, List.nodup_append, List.mem_append] at nd; grind)
  obtain ⟨nd9, nX9⟩ := nd_res nd q11 q12 hsub s11 s12
  have B7 := BE.turned t7 (fun e => hgX e.symm)
  refine ⟨B7, rfl, ?_, fun P' hP => ?_⟩
  · exact (((b1.mono hB).trans (tE.below (by omega) (fun k e => e ▸ hX))).trans (t7.below (by have := tE.size; omega) (fun k e => e ▸ hgB))).setCell (p := ⟨X, 11, none⟩) hX _
  injection hP with hP
  subst hP
  have tX : Turns w7 (w7.setCell ⟨X, 11, none⟩ (.slice (some ⟨ga, 0, none⟩) S.length c11)) (fun b => b = X) := turns_set (S := fun b => b = X) (Turns.refl _ _) rfl _ _
  have T := ((tE.mono (T := fun b => b = ga ∨ b = X) (fun k hk => .inr hk)).trans (t7.mono (fun k hk => .inl hk))).trans (tX.mono (fun k hk => .inr hk))
  have B9 := Blk.put (o := 11) (P := [_, _, _, _, _, _, _, _, _, _, _]) B7 rfl (.slice (some ⟨ga, 0, none⟩) S.length c11)
  generalize w7.setCell ⟨X, 11, none⟩ (.slice (some ⟨ga, 0, none⟩) S.length c11) = W9 at *
  have d0 : ∀ b ∈ f0, ¬ (b = ga ∨ b = X) := fun b hb hc => by simp only [List.nodup_cons, List.nodup_append, List.mem_append] at nd; grind
  have d5 : ∀ b ∈ g5, ¬ (b = ga ∨ b = X) := fun b hb hc => by simp only [List.nodup_cons, List.nodup_append, List.mem_append] at nd; grind
  have d11 : ∀ b ∈ fa, ¬ (b = ga ∨ b = X) := fun b hb hc => by simp only [List.nodup_cons, List.nodup_append, List.mem_append] at nd; grind
  have d12 : ∀ b ∈ rowL (.slice a12 p.objs.length c12), ¬ (b = ga ∨ b = X) := fun b hb hc => by simp only [List.nodup_cons, List.nodup_append, List.mem_append] at nd; grind
  have e12 : ∀ b ∈ f12, ¬ (b = ga ∨ b = X) := fun b hb hc => by simp only [List.nodup_cons, List.nodup_append, List.mem_append] at nd; grind
  exact pg_mk (p := { p with now := { g with st := p.now.st }, saved := S }) B9 (h1.o0.turned T d0) ((o5.under b1).turned T d5) (row_own2 (row_turned r7 tX (fun b hb e => by rw [e1, List.mem_singleton] at hb; exact hgX (hb.symm.trans e))) ((oS.under b1).turned T d11)) (row_own2 (row_turned h1.r12 T d12) (h1.o12.turned T e12)) nd9 nX9 (ge_res (fun b hb => (lt b hb).1) hsub s11 s12)
set_option maxHeartbeats 4000000 in
theorem sp_restore {w : World} {B X : Nat} {P : Pg} (h : PgAt w B X P) (hB : B ≤ w.heap.size) (hX : B ≤ X) (hl : P.saved.length ≤ 4) (str : ByteArray) (hk8 : opN str = some 8) (u : Value) :
    Calls Tryz.prog 32 #[.pointer (some ⟨X, 0, none⟩), .string str, u] w (OpRes B X (resO P) w) := by
  obtain ⟨q0', q1', q2', q3', q4', q5', q6', q7', q8', q9', q10', q11'⟩ := nm12 hk8
  have H0 := Lib.hid h
  clear h hk8
  go_enter Tryz.func32, Tryz.ntmps32
  go_wp2_with fail
  ((with_reducible refine (ident_spec _).mono ?_); rintro e w1 ⟨rfl, b1⟩)
  have bA : Below w.heap.size w (w1.alloc (.cells #[.int .i64 0, .int .i64 1, .int .i64 0, .int .i64 0] 38)) := b1.alloc b1.size _
  go_upto_region 10 with (fail)
  generalize w1.alloc (.cells #[.int .i64 0, .int .i64 1, .int .i64 0, .int .i64 0] 38) = V at bA ⊢
  have HBV := Lib.hid (bA.mono hB)
  have hBV : B ≤ V.heap.size := Nat.le_trans hB bA.size
  obtain ⟨a0, c0, f0, a5, c5, P5, a11, c11, P11, f11, a12, c12, P12, f12, h⟩ := (H0.out.on bA).flat
  clear b1 bA H0
  have k11 := h.blk.1 11 _ rfl
  have fz := h.blk.2.1
  rcases List.eq_nil_or_concat P.saved with hs | ⟨S, g, hs⟩
  · have HN : Hid (OpRes B X (resO P) V (.returned (.bool false)) V) := Lib.hid (by
      have e : resO P = none := by simp [resO, hs]
      rw [e]
      exact ⟨rfl, (Below.refl _ _).mono hBV, fun P' hP => by cases hP⟩)
    simp only [hs, List.length_nil] at k11
    clear h hs hl
    go_wp2
    go_ret
    exact HN.out.from HBV.out
  · obtain ⟨k, hk⟩ : ∃ k, S.length = k := ⟨_, rfl⟩
    have hs : P.saved = S ++ [g] := by rw [hs, List.concat_eq_append]
    have hn : P.saved.length = k + 1 := by rw [hs, List.length_append, hk]; rfl
    have er : resO P = some { P with now := { g with st := P.now.st }, saved := S } := by simp [resO, resM, hs]
    have o11 := h.o11
    rw [hn, hs] at o11
    obtain ⟨P', cs, fa, fb, rfl, rfl, oS, oG⟩ := last_gr hk o11
    obtain ⟨b0, e0, b5, e5, g0, g5, hcs, rfl, q0, q5⟩ := inv_Graphics_ oG
    simp only [len_dI, len_dP] at hcs q0 q5
    simp only [List.append_nil] at h oG
    have r11 := h.r11
    rw [hn] at r11
    obtain ⟨ga, rfl, hBg, bg, hcap, hnc, hcm⟩ := row_cap r11 (by omega)
    have lP : P'.length = k * 11 := by have := r11.1; rw [List.length_append, hcs] at this; simp at this; omega
    have lcs : cs.length = 11 := by rw [hcs]; rfl
    have h1c : ∀ v ∈ cs, v.oneCell' = true := fun v hv => oG.one v hv
    obtain ⟨l, hL⟩ : ∃ l, P.now.st.length = l := ⟨_, rfl⟩
    have k0 := h.blk.1 0 _ rfl
    rw [hL] at k0
    rw [hn] at k11
    have hXl := h.blk.2.2
    have ldG : (hload 42 ⟨ga, k * 11, none⟩).run Tryz.prog V = .ok (.agg cs.toArray) V := hload_run (P := Tryz.prog) (t := 42) Tryz.isAgg42 Tryz.sizeOf42 (w := V) (b := ga) (o := k * 11) (us := cs) (Blk.part (P := P') (R := []) (by simpa using bg) lP) lcs
    have stX := hstore_run (P := Tryz.prog) (t := 42) Tryz.sizeOf42 (o := 0) (A := []) (us := [_, _, _, _, _, _, _, _, _, _, _]) (vs := cs) h.blk rfl lcs lcs h1c
    have BE := Blk.sets (w := V) (b := X) (o := 0) (P := []) (us := [_, _, _, _, _, _, _, _, _, _, _]) (vs := cs) h.blk rfl lcs
    obtain ⟨E, hE⟩ : ∃ E, V.setCells X 0 cs = E := ⟨_, rfl⟩
    have tE0 : Turns V E (fun b => b = X) := by rw [← hE]; exact turns_sets (S := fun b => b = X) X rfl _ _ _
    rw [hE] at stX BE
    rw [hcs] at BE
    have BE2 := Blk.put (o := 0) (P := []) BE rfl (.slice a0 l c0)
    have tE : Turns V (E.setCell ⟨X, 0, none⟩ (.slice a0 l c0)) (fun b => b = X) := turns_set (S := fun b => b = X) tE0 rfl _ _
    have nd := h.nd
    have hgX : ga ≠ X := fun e => by subst e; simp only [List.nodup_cons, List.mem_append] at nd; exact nd.1 (.inr (.inr (.inl (by simp [rowL, Value.ownBlock]))))
    have bg2 := bg.turned tE hgX
    have r2 := cap_row (k := 11) (n := k) (c := c11) (B := B) (T := 42) (P := P') (w := E.setCell ⟨X, 0, none⟩ (.slice a0 l c0)) (g := ga) ⟨fun o v hv => bg2.1 o v (by rw [List.getElem?_append_left (List.getElem?_eq_some_iff.1 hv).1]; exact hv), bg2.2⟩ (hcap.turned tE hgX) lP (by omega) hcm hBg
    have o5g : Own V (.sl KPt) [.slice b5 g.path.length e5] (.sl (dP g.path)) g5 := q5
    have HF := Lib.hid (h.restG hBV hX hk oS o5g (Below.refl _ _) tE (by rw [hL]; exact BE2) (Turns.refl _ _) r2).2
    rw [← er] at HF
    have y0 := BE.1 0 _ rfl
    have yf := BE.2.1
    have x11 := BE2.1 11 _ rfl
    have xf := BE2.2.1
    rw [hn] at x11
    have hk3 : k ≤ 3 := by omega
    have hkc : k ≤ c11 := by omega
    have n0 : ((k : Int) + 1 == 0) = false := by simp; omega
    clear h hs hn er oS oG q0 q5 hcs lcs lP r11 bg o5g BE BE2 tE nd r2 hE hL hl o11 bg2 hcap tE0 h1c
    go_wp2
    go_ret
    exact HF.out.from HBV.out
end Go.Proofs.YtjmfgbbngocodaaGreat.Own

