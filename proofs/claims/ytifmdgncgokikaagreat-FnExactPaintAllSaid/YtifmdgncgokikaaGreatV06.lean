/-
  Texts of this seat, laid together: Bo10, Sm9
-/
import Derived.WalkKit
import Derived.Handy
import Derived.Lib.Hide
import Derived.Deep.QuietTactic
import Derived.BigQuiet
import Derived.Test.YtifmdgncgokikaaGreatV04
import Derived.Test.YtifmdgncgokikaaGreatV05
import Derived.Test.YtifmdgncgokikaaGreatV07
import Derived.Test.YtifmdgncgokikaaGreatV13
namespace Go.Proofs.YtifmdgncgokikaaGreat.Ins
open Go.ChangeShapes Go.WideShapes Go.ChangeAt Go.RowKit
open Kit Point
set_option linter.unusedVariables false
set_option linter.unusedSimpArgs false
set_option linter.unnecessarySimpa false
structure Bx where
  x0 : Int
  y0 : Int
  x1 : Int
  y1 : Int
def Bx.v (b : Bx) : Value := .agg #[.int .i64 b.x0, .int .i64 b.y0, .int .i64 b.x1, .int .i64 b.y1]
def pbx (l : List Pt) : Bx :=
  if ptsB l = true ∧ 0 < l.length then ⟨Pts.acc mn (pX l) l.length, Pts.acc mn (pY l) l.length, Pts.acc mx (pX l) l.length, Pts.acc mx (pY l) l.length⟩ else ⟨0, 0, 0, 0⟩
def Bx.ok (b : Bx) : Bool := bokB b.x0 b.y0 b.x1 b.y1
def mtx (b d : Bx) : Bx :=
  if b.ok = true ∧ d.ok = true ∧ mx b.x0 d.x0 < mn b.x1 d.x1 ∧ mx b.y0 d.y0 < mn b.y1 d.y1 then ⟨mx b.x0 d.x0, mx b.y0 d.y0, mn b.x1 d.x1, mn b.y1 d.y1⟩ else ⟨0, 0, 0, 0⟩
def pgx : Bx := ⟨0, 0, 32, 32⟩
theorem meet_v (b d : Bx) : Box.meetV b.x0 b.y0 b.x1 b.y1 d.x0 d.y0 d.x1 d.y1 = (mtx b d).v := by
  unfold mtx
  by_cases h : b.ok = true ∧ d.ok = true ∧ mx b.x0 d.x0 < mn b.x1 d.x1 ∧ mx b.y0 d.y0 < mn b.y1 d.y1
  · rw [if_pos h]
    have hm : Box.meetB b.x0 b.y0 b.x1 b.y1 d.x0 d.y0 d.x1 d.y1 = true := by
      simp only [Box.meetB, show bokB b.x0 b.y0 b.x1 b.y1 = true from h.1, show bokB d.x0 d.y0 d.x1 d.y1 = true from h.2.1, Bool.true_and, decide_eq_true_eq]; exact h.2.2
    simp [Box.meetV, hm, sel, Bx.v]
  · rw [if_neg h]
    have hm : Box.meetB b.x0 b.y0 b.x1 b.y1 d.x0 d.y0 d.x1 d.y1 = false := by
      cases e : Box.meetB b.x0 b.y0 b.x1 b.y1 d.x0 d.y0 d.x1 d.y1
      · rfl
      · simp only [Box.meetB, Bool.and_eq_true, decide_eq_true_eq] at e
        exact absurd ⟨e.1.1, e.1.2, e.2⟩ h
    simp [Box.meetV, hm, sel, Bx.v]
theorem meetbox_impl (b d : Bx) (w : World) : Calls Tryz.prog 77 #[b.v, d.v] w fun e w' => e = .returned (mtx b d).v ∧ Below w.heap.size w w' := by
  rw [← meet_v]; exact Box.meet_impl _ _ _ _ _ _ _ _ w
theorem meetbox_spec (b d : Bx) (w : World) : Calls Tryz.prog 59 #[b.v, d.v] w fun e w' => e = .returned (mtx b d).v ∧ Below w.heap.size w w' := by
  rw [← meet_v]; exact Box.meet_spec _ _ _ _ _ _ _ _ w
theorem okB_pts (l : List Pt) : Pts.okB (pX l) (pY l) l.length = ptsB l := by
  cases h : ptsB l
  · rw [ptsB, List.all_eq_false] at h
    obtain ⟨p, hp, hb⟩ := h
    obtain ⟨k, hk, rfl⟩ := List.getElem_of_mem hp
    have e : l.getD k (0, 0) = l[k] := by simp [List.getD, List.getElem?_eq_getElem hk]
    exact Pts.okB_bad hk (by simp only [pX, pY, e]; simpa using hb)
  · refine Pts.okB_good fun i hi => ?_
    rw [ptsB, List.all_eq_true] at h
    have e : l.getD i (0, 0) = l[i] := by simp [List.getD, List.getElem?_eq_getElem hi]
    simpa only [pX, pY, e] using h _ (List.getElem_mem hi)
theorem boxof_v (l : List Pt) : Pts.boxofV (pX l) (pY l) l.length = (pbx l).v := by
  unfold pbx
  by_cases h : ptsB l = true ∧ 0 < l.length
  · rw [if_pos h]; simp [Pts.boxofV, sel, okB_pts, h.1, h.2, Bx.v]
  · rw [if_neg h]
    by_cases h1 : ptsB l = true
    · have h2 : l.length = 0 := by have : ¬ 0 < l.length := fun h2 => h ⟨h1, h2⟩; omega
      rw [h2]; simp [Pts.boxofV, sel, Bx.v]
    · have h1 : ptsB l = false := by simpa using h1
      simp [Pts.boxofV, sel, okB_pts, h1, Bx.v]
theorem boxof_impl_at (w : World) (a : Option Addr) (c : Nat) (l : List Pt) (h0 : 0 < l.length) (hn : l.length ≤ 1048576) (h : PathAt w a l) :
    Calls Tryz.prog 83 #[.slice a l.length c] w fun e w' => e = .returned (pbx l).v ∧ Below w.heap.size w w' := by
  rcases h with rfl | ⟨g, rfl, hg, hc⟩
  · simp at h0
  · rw [← boxof_v]
    exact Pts.boxof_impl g l.length c (pX l) (pY l) w hn hg hc
theorem boxof_spec_at (w : World) (a : Option Addr) (c : Nat) (l : List Pt) (h0 : 0 < l.length) (hn : l.length ≤ 1048576) (h : PathAt w a l) :
    Calls Tryz.prog 60 #[.slice a l.length c] w fun e w' => e = .returned (pbx l).v ∧ Below w.heap.size w w' := by
  rcases h with rfl | ⟨g, rfl, hg, hc⟩
  · simp at h0
  · rw [← boxof_v]
    exact Pts.boxof_spec g l.length c (pX l) (pY l) w hn hg hc
theorem box_path (w : World) (a : Option Addr) (c : Nat) (l : List Pt) (h0 : 0 < l.length) (hn : l.length ≤ 1048576) (h : PathAt w a l) :
    Calls Tryz.prog 78 #[.slice a l.length c] w fun e w' => e = .returned (pbx l).v ∧ Below w.heap.size w w' := by
  have HP := Lib.hid (And.intro h (And.intro h0 hn))
  obtain ⟨b, hb⟩ : ∃ b, pbx l = b := ⟨_, rfl⟩
  have HC : Hid (∀ W, PathAt W a l → Calls Tryz.prog 83 #[.slice a l.length c] W fun e w' => e = .returned (.agg #[.int .i64 b.x0, .int .i64 b.y0, .int .i64 b.x1, .int .i64 b.y1]) ∧ Below W.heap.size W w') := Lib.hid (fun W h => hb ▸ boxof_impl_at W a c l HP.out.2.1 HP.out.2.2 h)
  rw [hb]
  clear hb h h0 hn
  unfold Bx.v
  have HP := Lib.hid (HP.out.1.on (show Below w.heap.size w (w.alloc (.cells #[.int .i64 0, .int .i64 0, .int .i64 0, .int .i64 0] 44)) from by go_grown))
  go_enter Tryz.func78, Tryz.ntmps78
  go_wp2_with fail
  ((with_reducible refine (HC.out _ HP.out).mono ?_); rintro e w1 ⟨rfl, bb⟩)
  have hB := on_of (W := w) (by go_grown) bb
  obtain ⟨hc, hf⟩ := bcell bb
  have hz : w.heap.size < w1.heap.size := (by have := bb.size; (try simp at this); omega)
  clear bb
  go_wp2
  refine bodyPost_ret (by simp [results, Tryz.results78, go_sem, *]; try rfl) rfl ?_
  exact ⟨rfl, by go_grown⟩
theorem page_box (w : World) : Calls Tryz.prog 79 #[] w fun e w' => e = .returned pgx.v ∧ Below w.heap.size w w' := by
  go_enter Tryz.func79, Tryz.ntmps79
  go_wp2
  refine bodyPost_ret (by simp [results, Tryz.results79, go_sem, *]; try rfl) rfl ?_
  exact ⟨rfl, by go_grown⟩
theorem page_full (w : World) : Calls Tryz.prog 61 #[] w fun e w' => e = .returned pgx.v ∧ Below w.heap.size w w' := by
  go_enter Tryz.func61, Tryz.ntmps61
  go_wp2
  refine bodyPost_ret (by simp [results, Tryz.results61, go_sem, *]; try rfl) rfl ?_
  exact ⟨rfl, by go_grown⟩
def Bx.mv (b : Bx) (dx dy : Int) : Bx := ⟨IntKind.i64.wrap (b.x0 + dx), IntKind.i64.wrap (b.y0 + dy), IntKind.i64.wrap (b.x1 + dx), IntKind.i64.wrap (b.y1 + dy)⟩
theorem fig_of (w : World) (a : Option Addr) (n c : Nat) (g x0 y0 x1 y1 : Int) :
    Calls Tryz.prog 54 #[.agg #[.slice a n c, .int .i64 g, .int .i64 x0, .int .i64 y0, .int .i64 x1, .int .i64 y1]] w fun e w' => e = .returned (.agg #[.slice a n c, .int .i64 g, .int .i64 x0, .int .i64 y0, .int .i64 x1, .int .i64 y1]) ∧ Below w.heap.size w w' := by
  go_enter Tryz.func54, Tryz.ntmps54
  go_wp2
  refine bodyPost_ret (by simp [results, Tryz.results54, go_sem, *]; try rfl) rfl ?_
  exact ⟨rfl, by go_grown⟩
end Go.Proofs.YtifmdgncgokikaaGreat.Ins
namespace Go.Proofs.YtifmdgncgokikaaGreat.Ins
open Go.ChangeShapes Go.WideShapes Go.ChangeAt Go.RowKit
open Kit Point
set_option linter.unusedVariables false
set_option linter.unusedSimpArgs false
set_option linter.unnecessarySimpa false
set_option maxRecDepth 100000 in
set_option maxHeartbeats 2000000 in
theorem sok_spec (w : World) (a : Option Addr) (c : Nat) (l : List Pt) (hn : l.length ≤ 1048576) (h : PathAt w a l) :
    Calls Tryz.prog 62 #[.slice a l.length c] w fun e w' => e = .returned (.bool (spB l)) ∧ Below w.heap.size w w' := by
  have H := Lib.hid (And.intro h hn)
  obtain ⟨n, hN⟩ : ∃ n, l.length = n := ⟨_, rfl⟩
  have HN := Lib.hid hN
  rw [hN] at hn ⊢
  clear hN
  rcases h with rfl | ⟨g, rfl, hg, _⟩
  · obtain rfl : 0 = n := HN.out
    go_enter Tryz.func62, Tryz.ntmps62
    go_wp2
    go_rounds 1
    go_ret
    exact ⟨rfl, Below.refl _ _⟩
  · go_enter Tryz.func62, Tryz.ntmps62
    go_wp2
    go_loopw [3] (fun v3 wr => ∃ k : Nat, v3 = .int .i64 (k : Int) ∧ k ≤ n ∧ Hid (∀ i, i < k → okK l i = true) ∧ Below w.heap.size w wr) (fun v3 _ => n - (intOf v3).toNat)
    case atStart => exact ⟨0, rfl, Nat.zero_le _, Lib.hid fun i hi => absurd hi (Nat.not_lt_zero i), Below.refl _ _⟩
    case round =>
      obtain ⟨k, rfl, hk, hb, hB⟩ := hrel
      by_cases hlt : k < n
      · obtain ⟨hlg, q1, q2⟩ := (H.out.1.on hB).cells (k := k) (by rw [HN.out]; exact hlt)
        have HB := Lib.hid hB
        have i0 : (0 : Int) ≤ (k : Int) := by omega
        have i1 : (k : Int) < (n : Int) := by omega
        by_cases hxy : pX l k < pY l k
        · by_cases hk0 : k = 0
          · have hok : okK l k = true := by unfold okK; rw [decide_eq_true hxy, decide_eq_true hk0]; rfl
            have hyes : ∀ i, i < k + 1 → okK l i = true := fun i hi => by
              obtain rfl : i = k := by omega
              exact hok
            have HS := Lib.hid hyes
            have i2 : decide (0 < k) = false := by simp [hk0]
            obtain ⟨x, hx⟩ : ∃ x, pX l k = x := ⟨_, rfl⟩
            obtain ⟨y, hy⟩ : ∃ y, pY l k = y := ⟨_, rfl⟩
            rw [hx] at q1 hxy; rw [hy] at q2 hxy
            have hd : decide (y ≤ x) = false := by simp; omega
            clear hok hyes hxy hB hk0 hx hy
            go_wp2
            go_quiet (fail)
            have HBd := Lib.hid (drewN_on HB.out nq)
            clear q1 q2 i2 hd
            go_wp2
            go_roundw
            case rel => exact ⟨k + 1, by go_num, by omega, HS, HBd.out⟩
            case measure => simp [intOf]; omega
          · obtain ⟨j, rfl⟩ : ∃ j, k = j + 1 := ⟨k - 1, by omega⟩
            obtain ⟨_, _, q3⟩ := (H.out.1.on hB).cells (k := j) (by rw [HN.out]; omega)
            have hkk : okK l (j + 1) = decide (pY l j < pX l (j + 1)) := by simp [okK, hxy]
            obtain ⟨x, hx⟩ : ∃ x, pX l (j + 1) = x := ⟨_, rfl⟩
            obtain ⟨y, hy⟩ : ∃ y, pY l (j + 1) = y := ⟨_, rfl⟩
            obtain ⟨z, hz⟩ : ∃ z, pY l j = z := ⟨_, rfl⟩
            rw [hx, hz] at hkk
            rw [hx] at q1 hxy; rw [hy] at q2 hxy; rw [hz] at q3
            have HX := Lib.hid hkk
            have hd : decide (y ≤ x) = false := by simp; omega
            have e1 : (((j + 1 : Nat)) : Int) = (j : Int) + 1 := by omega
            have i3 : (0 : Int) ≤ (j : Int) := by omega
            have i4 : (j : Int) < (n : Int) := by omega
            have i5 : decide ((0 : Int) < (j : Int) + 1) = true := decide_eq_true (by omega)
            have hw : IntKind.i64.wrap (j : Int) = (j : Int) := by rw [IntKind.wrap_i64]; omega
            rw [e1] at i0 i1 ⊢
            clear hB hkk e1 hxy hk0 hx hy hz
            by_cases hzx : z < x
            · have hd2 : decide (x ≤ z) = false := by simp; omega
              have hyes : ∀ i, i < j + 1 + 1 → okK l i = true := fun i hi => by
                by_cases e : i = j + 1
                · subst e; rw [HX.out]; simpa using hzx
                · exact hb.out i (by omega)
              have HS := Lib.hid hyes
              clear hyes hzx
              go_wp2
              go_quiet (fail)
              have HBd := Lib.hid (drewN_on HB.out nq)
              have hw1 : IntKind.i64.wrap ((j : Int) + 1 + 1) = (j : Int) + 1 + 1 := by rw [IntKind.wrap_i64]; omega
              clear q1 q2 q3 i0 i3 i4 i5 hd hw hd2
              go_wp2
              go_roundw
              case rel => exact ⟨j + 1 + 1, by go_num, by omega, HS, HBd.out⟩
              case measure => simp [intOf]; omega
            · have hd2 : decide (x ≤ z) = true := by simp; omega
              have hno : spB l = false := spB_bad (k := j + 1) (by rw [HN.out]; exact hlt) (by rw [HX.out]; simpa using hzx)
              have HS := Lib.hid hno
              clear hno hzx
              go_wp2
              go_quiet (fail)
              have HBd := Lib.hid (drewN_on HB.out nq)
              clear q1 q2 q3 i0 i3 i4 i5 hd hw hd2
              go_wp2
              go_ret
              exact ⟨ret_bool HS.out.symm, HBd.out⟩
        · have hno : spB l = false := spB_bad (k := k) (by rw [HN.out]; exact hlt) (by simp [okK, hxy])
          have HS := Lib.hid hno
          obtain ⟨x, hx⟩ : ∃ x, pX l k = x := ⟨_, rfl⟩
          obtain ⟨y, hy⟩ : ∃ y, pY l k = y := ⟨_, rfl⟩
          rw [hx] at q1 hxy; rw [hy] at q2 hxy
          have hd : decide (y ≤ x) = true := by simp; omega
          clear hno hxy hB hx hy
          go_wp2
          go_quiet (fail)
          have HBd := Lib.hid (drewN_on HB.out nq)
          clear q1 q2 i0 hd
          go_wp2
          go_ret
          exact ⟨ret_bool HS.out.symm, HBd.out⟩
      · obtain rfl : k = n := by omega
        have hv : spB l = decide ((k : Int) ≤ 8) := by
          have : okS l = true := okS_good fun i hi => hb.out i (by rw [← HN.out]; exact hi)
          simp only [spB, this, Bool.and_true]; rw [HN.out, decide_eq_decide]; omega
        have HS := Lib.hid hv
        have HB := Lib.hid hB
        clear hv hB
        go_wp2
        go_ret
        exact ⟨ret_bool HS.out.symm, HB.out⟩
end Go.Proofs.YtifmdgncgokikaaGreat.Ins
