/-
  Texts of this seat, laid together: Ms10
-/
import Derived.Test.YtejnfdpckipbeaaP38
namespace Go.Proofs.Ytejnfdpckipbeaa.Ins
open Go.ChangeShapes Go.WideShapes Go.ChangeAt Go.RowKit
open Kit Point Slabs
open Go.Proofs.Ytejnfdpckipbeaa.Own (Blk Ob grayB OwnL LObject KPt dP dPt)
set_option linter.unusedVariables false
set_option linter.unusedSimpArgs false
set_option linter.unnecessarySimpa false
set_option maxRecDepth 100000
structure MvT (W w : World) (GA GR : Nat) (cs : List Value) : Prop where
  A : Blk W GA cs
  R : Blk W GR [.slice none 0 0, .int .i64 0, .int .i64 0, .int .i64 0, .int .i64 0, .int .i64 0]
  B : Below w.heap.size w W
theorem MvT.on {W w V : World} {GA GR : Nat} {cs : List Value} (h : MvT W w GA GR cs) (hb : Below W.heap.size W V) : MvT V w GA GR cs :=
  ⟨h.A.keep hb, h.R.keep hb, on_of h.B hb⟩
theorem MvS.two {W w : World} {GA GR GM : Nat} {cs ms : List Value} (h : MvS W w GA GR GM cs ms) : MvT W w GA GR cs := ⟨h.A, h.R, h.B⟩
theorem shV_no {l : List Pt} {dx dy : Int} (h : (inB dx && inB dy) = false) : shV l (dx, dy) = [] := shV_far h
set_option maxHeartbeats 4000000 in
theorem move_spec (w : World) {A : Array Value} {o : Ob} {fp : List Nat} (hb : Own.bulkL o.dt ≤ 1048576) (h : OwnL w LObject A.toList o.dt fp) (dx dy : Int) :
    Calls Try.prog 40 #[.agg A, .int .i64 dx, .int .i64 dy] w (MvIs (mvR o dx dy) (mvB o dx dy) w) := by
  obtain ⟨a, c, rfl, hp⟩ := obj_open h
  have hn := obj_len hb
  have hm : (mvO o dx dy).path.length ≤ 1048576 := Nat.le_trans (shV_len o.path (dx, dy)) hn
  have hk1 := obK_is o
  have hk2 := obK_is (mvO o dx dy)
  have hfar : (inB dx && inB dy) = false → Own.obB (mvO o dx dy) = false := fun h => by
    have e : (mvO o dx dy).path = [] := shV_no h
    rw [hk2, e]; rfl
  have hmv : ∀ W, PathAt W a o.path → Calls Try.prog 91 #[.slice a o.path.length c, .int .i64 dx, .int .i64 dy] W (ShIs W (mvO o dx dy).path) := fun W h => shift_spec W a c o.path dx dy hn h
  have q0 : wrap64 (o.x0 + dx) = (mvO o dx dy).x0 := (IntWalk.i64_left _).symm
  have q1 : wrap64 (o.y0 + dy) = (mvO o dx dy).y0 := (IntWalk.i64_left _).symm
  have q2 : wrap64 (o.x1 + dx) = (mvO o dx dy).x1 := (IntWalk.i64_left _).symm
  have q3 : wrap64 (o.y1 + dy) = (mvO o dx dy).y1 := (IntWalk.i64_left _).symm
  have q4 : o.gray = (mvO o dx dy).gray := rfl
  obtain ⟨m, hmo⟩ : ∃ m, mvO o dx dy = m := ⟨_, rfl⟩
  have HR : Hid (∀ r, (Own.obB o && Own.obB m) = r → mvB o dx dy = r ∧ mvR o dx dy = if r then m else o) := Lib.hid (fun r hr => by
    have e : mvB o dx dy = r := by rw [← hr, ← hmo]; rfl
    exact ⟨e, by rw [mvR, e, hmo]⟩)
  rw [hmo] at hm hk2 hmv q0 q1 q2 q3 q4 hfar
  clear hmo
  obtain ⟨M0, hM0⟩ : ∃ x, mvR o dx dy = x := ⟨_, rfl⟩
  obtain ⟨r, hr⟩ : ∃ x, mvB o dx dy = x := ⟨_, rfl⟩
  rw [hM0, hr] at HR
  rw [hM0, hr]
  clear hM0 hr
  have HQQ := Lib.hid (And.intro q0 (And.intro q1 (And.intro q2 (And.intro q3 q4))))
  have HO := Lib.hid (And.intro h (And.intro hp (And.intro hn (And.intro hm hb))))
  have HC := Lib.hid (And.intro hmv (And.intro (fun W (h : PathAt W a o.path) => ok_spec W a c o.path o.gray o.x0 o.y0 o.x1 o.y1 hn h) (fun W va vc (h : PathAt W va m.path) => ok_spec W va vc m.path m.gray m.x0 m.y0 m.x1 m.y1 hm h)))
  rw [← hk1, ← hk2] at HC
  clear h hp hn hm hk1 hk2 hmv hb q0 q1 q2 q3 q4
  obtain ⟨bo, hbo⟩ : ∃ x, Own.obB o = x := ⟨_, rfl⟩
  obtain ⟨bm, hbm⟩ : ∃ x, Own.obB m = x := ⟨_, rfl⟩
  rw [hbo, hbm] at HC HR
  rw [hbm] at hfar
  have HD := Lib.hid (And.intro (fun W => in2_any dx W) (fun W => in2_any dy W))
  obtain ⟨ix, hix⟩ : ∃ x, inB dx = x := ⟨_, rfl⟩
  obtain ⟨iy, hiy⟩ : ∃ x, inB dy = x := ⟨_, rfl⟩
  rw [hix, hiy] at HD hfar
  have HF := Lib.hid hfar
  clear hbo hbm hix hiy hfar
  go_enter Try.func40, Try.ntmps40
  go_upto_region 1 with fail
  refine gen_any9 (fun W => MvT W w w.heap.size (w.heap.size + 1) [.slice a o.path.length c, .int .i64 o.gray, .int .i64 o.x0, .int .i64 o.y0, .int .i64 o.x1, .int .i64 o.y1]) ⟨(Blk.new w #[.slice a o.path.length c, .int .i64 o.gray, .int .i64 o.x0, .int .i64 o.y0, .int .i64 o.x1, .int .i64 o.y1] 28 rfl).alloc _, Blk.new _ #[.slice none 0 0, .int .i64 0, .int .i64 0, .int .i64 0, .int .i64 0, .int .i64 0] 28 (by simp), by go_grown⟩ ?_
  intro W hS
  obtain ⟨GA, hGA⟩ : ∃ x, w.heap.size = x := ⟨_, rfl⟩
  obtain ⟨GR, hGR⟩ : ∃ x, w.heap.size + 1 = x := ⟨_, rfl⟩
  have HS : Hid (MvT W w GA GR [.slice a o.path.length c, .int .i64 o.gray, .int .i64 o.x0, .int .i64 o.y0, .int .i64 o.x1, .int .i64 o.y1]) := Lib.hid ⟨hGA ▸ hS.A, hGR ▸ hS.R, hS.B⟩
  simp only [hGR]
  simp only [hGA]
  have HG : Hid (w.heap.size ≤ GR ∧ GR < W.heap.size ∧ GA < GR) := Lib.hid ⟨by omega, hGR ▸ hS.R.2.2, by omega⟩
  clear hGA hGR hS
  obtain ⟨k0, k1, k2, k3, k4, k5, _, hzA⟩ := six HS.out.A
  go_wp2_with fail
  clear k0 k1 k2 k3 k4 k5 hzA
  ((with_reducible refine (HC.out.2.1 _ (HO.out.2.1.on HS.out.B)).mono ?_); rintro e w1 ⟨rfl, bb⟩)
  have HW1 := Lib.hid bb
  have HS := Lib.hid (HS.out.on bb)
  clear bb
  cases bo
  · obtain ⟨e1, e2⟩ := HR.out false (by simp)
    simp only [Bool.false_eq_true, if_false] at e2
    subst e1 e2
    clear HR
    obtain ⟨k0, k1, k2, k3, k4, k5, _, hzA⟩ := six HS.out.A
    go_wp2_with fail
    clear k0 k1 k2 k3 k4 k5 hzA
    ((with_reducible refine (Own.copy_Object _ HO.out.2.2.2.2 (HO.out.1.under HS.out.B)).mono ?_); rintro e w5 ⟨R, f, rfl, oR, nR, gR, bb⟩)
    have HQ := Lib.hid (And.intro oR (And.intro nR gR))
    have HS5 := Lib.hid (HS.out.on bb)
    clear oR nR gR bb
    obtain ⟨a1, c1, rfl, _⟩ := obj_open HQ.out.1
    obtain ⟨k0, k1, k2, k3, k4, k5, hf, hzR⟩ := six HS5.out.R
    go_wp2
    refine bodyPost_ret (by simp [results, Try.results40, go_sem, *]; try rfl) rfl ?_
    have hN : GR ∉ f := fun hx => by have := HQ.out.2.2 _ hx; have := HS.out.R.2.2; omega
    have hB := HS5.out.B
    have hG : w.heap.size ≤ GR := HG.out.1
    refine ⟨_, f, rfl, ?_, HQ.out.2.1, fun b hx => by have := HQ.out.2.2 b hx; have := HS.out.B.size; omega, by go_grown⟩
    repeat (refine ownL_set ?_ hN _ _)
    exact HQ.out.1
  · go_wp2_with fail
    ((with_reducible refine (HD.out.1 _).mono ?_); rintro e w2 ⟨rfl, rfl⟩)
    cases ix
    · have hbm := HF.out rfl
      subst hbm
      obtain ⟨e1, e2⟩ := HR.out false (by simp)
      simp only [Bool.false_eq_true, if_false] at e2
      subst e1 e2
      clear HR
      obtain ⟨k0, k1, k2, k3, k4, k5, _, hzA⟩ := six HS.out.A
      go_wp2_with fail
      clear k0 k1 k2 k3 k4 k5 hzA
      ((with_reducible refine (Own.copy_Object _ HO.out.2.2.2.2 (HO.out.1.under HS.out.B)).mono ?_); rintro e w5 ⟨R, f, rfl, oR, nR, gR, bb⟩)
      have HQ := Lib.hid (And.intro oR (And.intro nR gR))
      have HS5 := Lib.hid (HS.out.on bb)
      clear oR nR gR bb
      obtain ⟨a1, c1, rfl, _⟩ := obj_open HQ.out.1
      obtain ⟨k0, k1, k2, k3, k4, k5, hf, hzR⟩ := six HS5.out.R
      go_wp2
      refine bodyPost_ret (by simp [results, Try.results40, go_sem, *]; try rfl) rfl ?_
      have hN : GR ∉ f := fun hx => by have := HQ.out.2.2 _ hx; have := HS.out.R.2.2; omega
      have hB := HS5.out.B
      have hG : w.heap.size ≤ GR := HG.out.1
      refine ⟨_, f, rfl, ?_, HQ.out.2.1, fun b hx => by have := HQ.out.2.2 b hx; have := HS.out.B.size; omega, by go_grown⟩
      repeat (refine ownL_set ?_ hN _ _)
      exact HQ.out.1
    · go_wp2_with fail
      ((with_reducible refine (HD.out.2 _).mono ?_); rintro e w2 ⟨rfl, rfl⟩)
      cases iy
      · have hbm := HF.out rfl
        subst hbm
        obtain ⟨e1, e2⟩ := HR.out false (by simp)
        simp only [Bool.false_eq_true, if_false] at e2
        subst e1 e2
        clear HR
        obtain ⟨k0, k1, k2, k3, k4, k5, _, hzA⟩ := six HS.out.A
        go_wp2_with fail
        clear k0 k1 k2 k3 k4 k5 hzA
        ((with_reducible refine (Own.copy_Object _ HO.out.2.2.2.2 (HO.out.1.under HS.out.B)).mono ?_); rintro e w5 ⟨R, f, rfl, oR, nR, gR, bb⟩)
        have HQ := Lib.hid (And.intro oR (And.intro nR gR))
        have HS5 := Lib.hid (HS.out.on bb)
        clear oR nR gR bb
        obtain ⟨a1, c1, rfl, _⟩ := obj_open HQ.out.1
        obtain ⟨k0, k1, k2, k3, k4, k5, hf, hzR⟩ := six HS5.out.R
        go_wp2
        refine bodyPost_ret (by simp [results, Try.results40, go_sem, *]; try rfl) rfl ?_
        have hN : GR ∉ f := fun hx => by have := HQ.out.2.2 _ hx; have := HS.out.R.2.2; omega
        have hB := HS5.out.B
        have hG : w.heap.size ≤ GR := HG.out.1
        refine ⟨_, f, rfl, ?_, HQ.out.2.1, fun b hx => by have := HQ.out.2.2 b hx; have := HS.out.B.size; omega, by go_grown⟩
        repeat (refine ownL_set ?_ hN _ _)
        exact HQ.out.1
      · obtain ⟨k0, k1, k2, k3, k4, k5, _, hzA⟩ := six HS.out.A
        go_upto_region 4 with fail
        clear k0 k1 k2 k3 k4 k5 hzA
        refine gen_any9 (fun V => MvS V w GA GR w1.heap.size [.slice a o.path.length c, .int .i64 o.gray, .int .i64 o.x0, .int .i64 o.y0, .int .i64 o.x1, .int .i64 o.y1] [.slice none 0 0, .int .i64 m.gray, .int .i64 m.x0, .int .i64 m.y0, .int .i64 m.x1, .int .i64 m.y1] ∧ W.heap.size ≤ V.heap.size) ⟨⟨HS.out.A.alloc _, HS.out.R.alloc _, by rw [← HQQ.out.1, ← HQQ.out.2.1, ← HQQ.out.2.2.1, ← HQQ.out.2.2.2.1, ← HQQ.out.2.2.2.2]; exact Blk.new w1 _ _ rfl, by have := HS.out.B; have := this.size; go_grown⟩, by have := HW1.out.size; simp; omega⟩ ?_
        rintro V ⟨hS, hV⟩
        have HX : Hid (W.heap.size ≤ w1.heap.size) := Lib.hid HW1.out.size
        obtain ⟨GM, hGM⟩ : ∃ x, w1.heap.size = x := ⟨_, rfl⟩
        rw [hGM] at hS HX
        simp only [hGM]
        have HS := Lib.hid hS
        have HV := Lib.hid hV
        clear hS hV hGM HW1
        obtain ⟨k0, k1, k2, k3, k4, k5, _, hzA⟩ := six HS.out.A
        go_wp2_with fail
        clear k0 k1 k2 k3 k4 k5 hzA
        ((with_reducible refine (HC.out.1 _ (HO.out.2.1.on HS.out.B)).mono ?_); rintro e w3 ⟨v, rfl, hv, _, bb⟩)
        obtain ⟨va, vc, rfl, _⟩ := path_of_owns hv
        have HRw := Lib.hid (Own.row_base hv HV.out)
        have HgM : Hid (GM ∉ Own.rowL (.slice va m.path.length vc)) := Lib.hid (fun hx => by have := (Own.rowL_ge hv _ hx).1; have := HS.out.M.2.2; omega)
        have HS := Lib.hid (HS.out.on bb)
        clear hv bb
        obtain ⟨k0, k1, k2, k3, k4, k5, hf, hzM⟩ := six HS.out.M
        go_upto_region 5 with fail
        clear k0 k1 k2 k3 k4 k5 hf
        have gAM : GA ≠ GM := by have := HG.out; have := HX.out; omega
        have gRM : GR ≠ GM := by have := HG.out; have := HX.out; omega
        refine gen_any9 (fun V => MvS V w GA GR GM [.slice a o.path.length c, .int .i64 o.gray, .int .i64 o.x0, .int .i64 o.y0, .int .i64 o.x1, .int .i64 o.y1] [.slice va m.path.length vc, .int .i64 m.gray, .int .i64 m.x0, .int .i64 m.y0, .int .i64 m.x1, .int .i64 m.y1] ∧ V.ownsRow W.heap.size 89 2 (.slice va m.path.length vc) m.path.length (cellsP m.path)) ⟨⟨HS.out.A.other (b' := GM) (by omega) _ _, HS.out.R.other (b' := GM) (by omega) _ _, Blk.put (P := []) HS.out.M rfl _, by have := HS.out.B; have := HG.out; have := HX.out; go_grown⟩, Own.row_set HRw.out HgM.out _ _⟩ ?_
        rintro V2 ⟨hS, hr⟩
        have HS := Lib.hid hS
        have HV := Lib.hid hr
        clear hS hr HRw HgM hzM gAM gRM HX
        obtain ⟨k0, k1, k2, k3, k4, k5, _, hzM⟩ := six HS.out.M
        go_wp2_with fail
        clear k0 k1 k2 k3 k4 k5 hzM
        obtain ⟨_, _, hve, hpm⟩ := path_of_owns HV.out
        injection hve with hv1 hv2 hv3
        subst hv1 hv3
        have HPm := Lib.hid hpm
        clear hpm hv2
        ((with_reducible refine (HC.out.2.2 _ _ _ HPm.out).mono ?_); rintro e w6 ⟨rfl, bb⟩)
        have HV := Lib.hid (owns_below HV.out bb)
        have HS := Lib.hid (HS.out.on bb)
        clear bb HPm
        cases bm
        · obtain ⟨e1, e2⟩ := HR.out false (by simp)
          simp only [Bool.false_eq_true, if_false] at e2
          subst e1 e2
          clear HR
          obtain ⟨k0, k1, k2, k3, k4, k5, _, hzA⟩ := six HS.out.A
          go_wp2_with fail
          clear k0 k1 k2 k3 k4 k5 hzA
          ((with_reducible refine (Own.copy_Object _ HO.out.2.2.2.2 (HO.out.1.under HS.out.B)).mono ?_); rintro e w5 ⟨R, f, rfl, oR, nR, gR, bb⟩)
          have HQ := Lib.hid (And.intro oR (And.intro nR gR))
          have HS5 := Lib.hid (HS.out.on bb)
          clear oR nR gR bb
          obtain ⟨a1, c1, rfl, _⟩ := obj_open HQ.out.1
          obtain ⟨k0, k1, k2, k3, k4, k5, hf, hzR⟩ := six HS5.out.R
          go_wp2
          refine bodyPost_ret (by simp [results, Try.results40, go_sem, *]; try rfl) rfl ?_
          have hN : GR ∉ f := fun hx => by have := HQ.out.2.2 _ hx; have := HS.out.R.2.2; omega
          have hB := HS5.out.B
          have hG : w.heap.size ≤ GR := HG.out.1
          refine ⟨_, f, rfl, ?_, HQ.out.2.1, fun b hx => by have := HQ.out.2.2 b hx; have := HS.out.B.size; omega, by go_grown⟩
          repeat (refine ownL_set ?_ hN _ _)
          exact HQ.out.1
        · obtain ⟨e1, e2⟩ := HR.out true (by simp)
          simp only [if_true] at e2
          subst e1 e2
          clear HR
          obtain ⟨k0, k1, k2, k3, k4, k5, _, hzM⟩ := six HS.out.M
          obtain ⟨e0, e1, e2, e3, e4, e5, hf, hzR⟩ := six HS.out.R
          obtain ⟨f, oR, nR, gR⟩ := obj_close HV.out
          have HQ := Lib.hid (And.intro oR (And.intro nR gR))
          clear oR nR gR
          go_wp2
          refine bodyPost_ret (by simp [results, Try.results40, go_sem, *]; try rfl) rfl ?_
          have hN : GR ∉ f := fun hx => by have := HQ.out.2.2 _ hx; have := HG.out; omega
          have hB := HS.out.B
          have hG : w.heap.size ≤ GR := HG.out.1
          refine ⟨_, f, rfl, ?_, HQ.out.2.1, fun b hx => by have := HQ.out.2.2 b hx; have := HG.out; omega, by go_grown⟩
          repeat (refine ownL_set ?_ hN _ _)
          exact HQ.out.1
end Go.Proofs.Ytejnfdpckipbeaa.Ins
