/-
  Texts of this seat, laid together: Pa11, Rl11
-/
import Derived.Test.YtifmdgncgokikaaP35
import Derived.Test.YtifmdgncgokikaaP36
import Derived.Test.YtifmdgncgokikaaP39
namespace Go.Proofs.Ytifmdgncgokikaa.Own
open Go.ChangeShapes Go.WideShapes Go.ChangeAt Go.RowKit
open Kit Slabs Ints
open Go.Proofs.Ytifmdgncgokikaa.Ins (Pt gen_any9 orow obK)
set_option linter.unusedVariables false
set_option linter.unusedSimpArgs false
set_option linter.unnecessarySimpa false
set_option maxRecDepth 100000
def sixo (o : Ob) (pa : Option Addr) (pc : Nat) : List Value := sixv pa o.path.length pc o.gray o.x0 o.y0 o.x1 o.y1
def ob0 : Ob := ⟨[], 0, 0, 0, 0, 0⟩
def ObL (w : World) (a : Option Addr) (l : List Ob) : Prop := l = [] ∨ ∃ g, a = some ⟨g, 0, none⟩ ∧ g < w.heap.size ∧ ∀ i, i < l.length → ∃ pa pc, (∀ j u, (sixo (l.getD i ob0) pa pc)[j]? = some u → w.cell? ⟨g, i * 6 + j, none⟩ = some u) ∧ Ins.PathAt w pa (l.getD i ob0).path ∧ (l.getD i ob0).path.length ≤ 1048576
theorem ObL.on {w w' : World} {a : Option Addr} {l : List Ob} (h : ObL w a l) (hb : Below w.heap.size w w') : ObL w' a l := by
  rcases h with h | ⟨g, rfl, hg, hc⟩
  · exact .inl h
  · refine .inr ⟨g, rfl, Nat.lt_of_lt_of_le hg hb.size, fun i hi => ?_⟩
    obtain ⟨pa, pc, h1, h2, h3⟩ := hc i hi
    exact ⟨pa, pc, fun j u hu => (hb.cell (p := ⟨g, i * 6 + j, none⟩) hg).trans (h1 j u hu), h2.on hb, h3⟩
theorem ObL.some {w : World} {a : Option Addr} {l : List Ob} (h : ObL w a l) (h0 : l.length ≠ 0) : ∃ g, a = some ⟨g, 0, none⟩ ∧ g < w.heap.size ∧ ∀ i, i < l.length → ∃ pa pc, (∀ j u, (sixo (l.getD i ob0) pa pc)[j]? = some u → w.cell? ⟨g, i * 6 + j, none⟩ = some u) ∧ Ins.PathAt w pa (l.getD i ob0).path ∧ (l.getD i ob0).path.length ≤ 1048576 := by
  rcases h with rfl | h
  · exact absurd rfl h0
  · exact h
def okO (o : Ob) : Bool := obK o.path o.gray o.x0 o.y0 o.x1 o.y1
set_option maxHeartbeats 2000000 in
theorem allob_impl (w : World) (a : Option Addr) (c : Nat) (l : List Ob) (hn : l.length ≤ 1048576) (h : ObL w a l) :
    Calls Try.prog 55 #[.slice a l.length c, .func (.func 42) #[] #[]] w fun e w' => e = .returned (.bool (l.all okO)) ∧ Below w.heap.size w w' := by
  have HP := Lib.hid h
  obtain ⟨n, hN⟩ : ∃ n, l.length = n := ⟨_, rfl⟩
  have HN := Lib.hid hN
  rw [hN] at hn ⊢
  clear hN h
  go_enter Try.func55, Try.ntmps55
  go_wp2
  go_loopw [9] (fun v9 wr => ∃ k : Nat, k ≤ n ∧ v9 = .int .i64 (k : Int) ∧ Hid (∀ i, i < k → okO (l.getD i ob0) = true) ∧ Below w.heap.size w wr) (fun v9 _ => n - (intOf v9).toNat)
  case atStart => exact ⟨0, Nat.zero_le _, rfl, Lib.hid (fun i hi => absurd hi (Nat.not_lt_zero i)), Below.refl _ _⟩
  case round =>
    obtain ⟨k, hk, rfl, hb, hB⟩ := hrel
    by_cases hlt : k < n
    · obtain ⟨g, rfl, hg, hc⟩ := (HP.out.on hB).some (by rw [HN.out]; omega)
      obtain ⟨pa, pc, h6, hpa, hpl⟩ := hc k (by rw [HN.out]; exact hlt)
      obtain ⟨o, hx⟩ : ∃ o, l.getD k ob0 = o := ⟨_, rfl⟩
      rw [hx] at h6 hpa hpl
      have q0 : wr.cell? ⟨g, k * 6, none⟩ = some (.slice pa o.path.length pc) := h6 0 _ rfl
      have q1 : wr.cell? ⟨g, k * 6 + 1, none⟩ = some (.int .i64 o.gray) := h6 1 _ rfl
      have q2 : wr.cell? ⟨g, k * 6 + 2, none⟩ = some (.int .i64 o.x0) := h6 2 _ rfl
      have q3 : wr.cell? ⟨g, k * 6 + 3, none⟩ = some (.int .i64 o.y0) := h6 3 _ rfl
      have q4 : wr.cell? ⟨g, k * 6 + 4, none⟩ = some (.int .i64 o.x1) := h6 4 _ rfl
      have q5 : wr.cell? ⟨g, k * 6 + 5, none⟩ = some (.int .i64 o.y1) := h6 5 _ rfl
      have i0 : (0 : Int) ≤ (k : Int) := by omega
      have i1 : (k : Int) < (n : Int) := by omega
      have hb1 : Below wr.heap.size wr (wr.alloc (.cells #[.slice pa o.path.length pc, .int .i64 o.gray, .int .i64 o.x0, .int .i64 o.y0, .int .i64 o.x1, .int .i64 o.y1] 30)) := by go_grown
      have HX := Lib.hid (And.intro hx (And.intro (hpa.on hb1) (And.intro hpl (on_of hB hb1))))
      clear hx hpa hpl hc h6 hB hb1
      go_wp2_with fail
      clear q0 q1 q2 q3 q4 q5
      ((with_reducible refine (Ins.ok_impl _ pa pc o.path o.gray o.x0 o.y0 o.x1 o.y1 HX.out.2.2.1 HX.out.2.1).mono ?_); rintro e w1 ⟨rfl, bb⟩)
      have HB1 := Lib.hid (on_of HX.out.2.2.2 bb)
      have HK9 := Lib.hid (show okO o = obK o.path o.gray o.x0 o.y0 o.x1 o.y1 from rfl)
      clear bb
      cases hp : obK o.path o.gray o.x0 o.y0 o.x1 o.y1
      · have HS := Lib.hid (all_no (p := okO) (l := l) (z := ob0) (k := k) (by rw [HN.out]; exact hlt) (by rw [HX.out.1, HK9.out]; exact hp))
        clear hp
        go_wp2
        go_ret
        exact ⟨ret_bool HS.out.symm, HB1.out⟩
      · have hyes : ∀ i, i < k + 1 → okO (l.getD i ob0) = true := fun i hi => by
          by_cases e : i = k
          · subst e; rw [HX.out.1, HK9.out]; exact hp
          · exact hb.out i (by omega)
        have HS := Lib.hid hyes
        clear hyes hp
        go_wp2
        go_roundw
        case rel => exact ⟨k + 1, by omega, by go_num, HS, HB1.out⟩
        case measure => simp [intOf]; omega
    · obtain rfl : k = n := by omega
      have HB := Lib.hid hB
      clear hB
      go_wp2
      go_ret
      exact ⟨ret_bool (all_yes (z := ob0) (fun i hi => hb.out i (by rw [← HN.out]; exact hi))).symm, HB.out⟩
def paB (l : List Ob) : Bool := decide (l.length ≤ 12) && l.all okO
def pnO (R : List (List Int)) (o : Ob) : List (List Int) := pntR o.gray (rowsL o.path o.gray o.x0 o.y0 o.x1 o.y1 0) R
def paR (l : List Ob) : List (List Int) := if paB l then l.foldl pnO (List.replicate 32 whiteR) else []
theorem pnO_len (R : List (List Int)) (o : Ob) : (pnO R o).length = R.length := pntR_len _ _ _
theorem pntK_32 {g : Int} {L : Nat → List Pt} {R : List (List Int)} {k : Nat} (h : ∀ r ∈ R, r.length = 32) : ∀ r ∈ pntK g L R k, r.length = 32 := by
  intro r hr
  obtain ⟨i, hi, rfl⟩ := List.mem_iff_getElem.1 hr
  simp only [pntK, List.getElem_mapIdx]
  split
  · rw [pnt_len]; exact h _ (List.getElem_mem _)
  · exact h _ (List.getElem_mem _)
theorem fold_32 (l : List Ob) : ∀ {R : List (List Int)}, R.length = 32 → (∀ r ∈ R, r.length = 32) → (l.foldl pnO R).length = 32 ∧ ∀ r ∈ l.foldl pnO R, r.length = 32 := by
  induction l with
  | nil => intro R h1 h2; exact ⟨h1, h2⟩
  | cons o l ih => intro R h1 h2; exact ih (by rw [pnO_len]; exact h1) (pntK_32 h2)
theorem white_32 : (List.replicate 32 whiteR).length = 32 ∧ ∀ r ∈ List.replicate 32 whiteR, r.length = 32 :=
  ⟨List.length_replicate, fun r hr => by rw [(List.mem_replicate.1 hr).2]; exact whiteR_len⟩
theorem whites32_impl (w : World) : Calls Try.prog 20 #[.int .i64 32] w (SsNew (List.replicate 32 whiteR) w) := by
  have := whites_impl w 32
  rw [if_pos (by omega)] at this
  exact this
set_option maxHeartbeats 4000000 in
theorem paintall_impl (w : World) (a : Option Addr) (c : Nat) (l : List Ob) (hn : l.length ≤ 1048576) (h : ObL w a l) :
    Calls Try.prog 19 #[.slice a l.length c] w (PoNew (paR l) (paB l) w) := by
  have HP := Lib.hid h
  obtain ⟨n, hN⟩ : ∃ n, l.length = n := ⟨_, rfl⟩
  have HN := Lib.hid hN
  have HC := Lib.hid (allob_impl w a c l hn h)
  rw [hN] at hn HC ⊢
  clear hN h
  have bad : paB l = false → ∀ (V : World) (a9 : Option Addr) (c9 : Nat), Below w.heap.size w V → PoNew (paR l) (paB l) w (.returned (.tuple #[.slice a9 0 c9, .bool false])) V := fun hb V a9 c9 hV => by
    have e : paR l = [] := by simp [paR, hb]
    rw [e, hb]
    exact ⟨a9, c9, [], rfl, .nil _ _, List.nodup_nil, fun b hb => absurd hb List.not_mem_nil, hV⟩
  have HBad := Lib.hid bad
  clear bad
  by_cases h12 : 12 < n
  · have HV : Hid (paB l = false) := Lib.hid (by have := HN.out; simp [paB]; omega)
    have hd : decide (12 < (n : Int)) = true := by simp; omega
    clear HC
    go_enter Try.func19, Try.ntmps19
    go_wp2
    go_ret2
    exact HBad.out HV.out _ _ _ (Below.refl _ _)
  · have hd : decide (12 < (n : Int)) = false := by simp; omega
    obtain ⟨q, hq⟩ : ∃ q, l.all okO = q := ⟨_, rfl⟩
    rw [hq] at HC
    cases q
    · have HV : Hid (paB l = false) := Lib.hid (by simp [paB, hq])
      clear hq
      go_enter Try.func19, Try.ntmps19
      go_wp2_with fail
      ((with_reducible refine HC.out.mono ?_); rintro e w1 ⟨rfl, bb⟩)
      have HB := Lib.hid bb
      clear bb
      go_wp2
      go_ret2
      exact HBad.out HV.out _ _ _ HB.out
    · have HV : Hid (paB l = true) := Lib.hid (by have := HN.out; simp [paB, hq]; omega)
      clear hq
      go_enter Try.func19, Try.ntmps19
      go_wp2_with fail
      ((with_reducible refine HC.out.mono ?_); rintro e w1 ⟨rfl, bb⟩)
      have HB := Lib.hid bb
      clear bb HC
      go_wp2_with fail
      ((with_reducible refine (whites32_impl _).mono ?_); rintro e w2 ⟨ra, rc, fp, rfl, ho, hnd, hge, bb⟩)
      have hs1 := HB.out.size
      have HO := Lib.hid (And.intro hnd (And.intro (show ∀ b ∈ fp, w.heap.size ≤ b from fun b hb => Nat.le_trans hs1 (hge b hb)) (And.intro ho (on_of HB.out bb))))
      rw [show (List.replicate 32 whiteR).length = 32 from List.length_replicate]
      clear ho hnd hge bb
      go_wp2
      go_loopw [18] (fun v18 wr => ∃ k : Nat, k ≤ n ∧ v18 = .int .i64 (k : Int) ∧ Hid (Own wr KSS [.slice ra 32 rc] (.sl (dR ((l.take k).foldl pnO (List.replicate 32 whiteR)))) fp ∧ Below w.heap.size w wr)) (fun v18 _ => n - (intOf v18).toNat)
      case atStart => exact ⟨0, Nat.zero_le _, rfl, Lib.hid ⟨by have := HO.out.2.2.1; rw [show (List.replicate 32 whiteR).length = 32 from List.length_replicate] at this; exact this, HO.out.2.2.2⟩⟩
      case round =>
        obtain ⟨k, hk, rfl, hI⟩ := hrel
        by_cases hlt : k < n
        · have hkl : k < l.length := by rw [HN.out]; exact hlt
          obtain ⟨g, rfl, hg, hc⟩ := HP.out.some (by rw [HN.out]; omega)
          obtain ⟨pa, pc, h6, hpa, hpl⟩ := hc k hkl
          have htk : (l.take (k + 1)).foldl pnO (List.replicate 32 whiteR) = pnO ((l.take k).foldl pnO (List.replicate 32 whiteR)) (l.getD k ob0) := by
            rw [List.take_succ_eq_append_getElem hkl, List.foldl_append]
            simp [List.getD, List.getElem?_eq_getElem hkl]
          obtain ⟨f1, f2⟩ := fold_32 (l.take k) white_32.1 white_32.2
          obtain ⟨o, hx⟩ : ∃ o, l.getD k ob0 = o := ⟨_, rfl⟩
          rw [hx] at h6 hpa hpl htk
          obtain ⟨R, hR⟩ : ∃ R, (l.take k).foldl pnO (List.replicate 32 whiteR) = R := ⟨_, rfl⟩
          rw [hR] at f1 f2 htk hI
          have up : ∀ j u, (sixo o pa pc)[j]? = some u → wr.cell? ⟨g, k * 6 + j, none⟩ = some u := fun j u hu => (hI.out.2.cell (p := ⟨g, k * 6 + j, none⟩) hg).trans (h6 j u hu)
          have q0 : wr.cell? ⟨g, k * 6, none⟩ = some (.slice pa o.path.length pc) := up 0 _ rfl
          have q1 : wr.cell? ⟨g, k * 6 + 1, none⟩ = some (.int .i64 o.gray) := up 1 _ rfl
          have q2 : wr.cell? ⟨g, k * 6 + 2, none⟩ = some (.int .i64 o.x0) := up 2 _ rfl
          have q3 : wr.cell? ⟨g, k * 6 + 3, none⟩ = some (.int .i64 o.y0) := up 3 _ rfl
          have q4 : wr.cell? ⟨g, k * 6 + 4, none⟩ = some (.int .i64 o.x1) := up 4 _ rfl
          have q5 : wr.cell? ⟨g, k * 6 + 5, none⟩ = some (.int .i64 o.y1) := up 5 _ rfl
          have hb1 : Below wr.heap.size wr (wr.alloc (.cells #[.slice pa o.path.length pc, .int .i64 o.gray, .int .i64 o.x0, .int .i64 o.y0, .int .i64 o.x1, .int .i64 o.y1] 30)) := by go_grown
          have hB2 := on_of hI.out.2 hb1
          have hPt := paint_any _ ra rc R fp 0 pa pc o.path o.gray o.x0 o.y0 o.x1 o.y1 hpl (by omega) f2 (by omega) (by rw [f1]; exact hI.out.1.under hb1) HO.out.1 (fun W hW => hpa.on (hB2.trans (hW.below hB2.size HO.out.2.1)))
          rw [f1] at hPt
          have HPt := Lib.hid hPt
          have HX := Lib.hid (And.intro htk hB2)
          have i0 : (0 : Int) ≤ (k : Int) := by omega
          have i1 : (k : Int) < (n : Int) := by omega
          have hgl : g < wr.heap.size := Nat.lt_of_lt_of_le hg hI.out.2.size
          clear hx hR up hpa hpl h6 hc hb1 hB2 hPt f1 f2 htk
          go_wp2_with fail
          clear q0 q1 q2 q3 q4 q5
          ((with_reducible refine HPt.out.mono ?_); rintro e w3 ⟨rfl, ho3, ht3⟩)
          have HI := Lib.hid (show Own w3 KSS [.slice ra 32 rc] (.sl (dR ((l.take (k + 1)).foldl pnO (List.replicate 32 whiteR)))) fp ∧ Below w.heap.size w w3 from ⟨by rw [HX.out.1]; exact ho3, HX.out.2.trans (ht3.below HX.out.2.size HO.out.2.1)⟩)
          clear ho3 ht3 HPt
          go_wp2
          go_roundw
          case rel => exact ⟨k + 1, by omega, by go_num, HI⟩
          case measure => simp [intOf]; omega
        · obtain rfl : k = n := by omega
          have htk : l.take k = l := by rw [← HN.out, List.take_length]
          rw [htk] at hI
          go_wp2
          go_ret2
          have e : paR l = l.foldl pnO (List.replicate 32 whiteR) := by simp [paR, HV.out]
          obtain ⟨hl32, _⟩ := fold_32 l white_32.1 white_32.2
          rw [e, HV.out]
          exact ⟨ra, rc, fp, by rw [hl32]; rfl, by rw [hl32]; exact hI.out.1, HO.out.1, HO.out.2.1, hI.out.2⟩
end Go.Proofs.Ytifmdgncgokikaa.Own
namespace Go.Proofs.Ytifmdgncgokikaa.Own
open Go.ChangeShapes Go.WideShapes Go.ChangeAt Go.RowKit
open Kit Slabs Ints
open Go.Proofs.Ytifmdgncgokikaa.Ins (Pt inS orow obK DrO)
set_option linter.unusedVariables false
set_option linter.unusedSimpArgs false
set_option linter.unnecessarySimpa false
theorem pnt_twice (g : Int) (L : List Pt) (r : List Int) : pnt g L (pnt g L r) = pnt g L r := by
  apply List.ext_getElem
  · simp [pnt]
  · intro i h1 h2
    simp only [pnt, List.getElem_mapIdx]
    split <;> rfl
theorem pntR_at {g : Int} {L : Nat → List Pt} {R : List (List Int)} {k : Nat} (h : k < R.length) : (pntR g L R).getD k [] = pnt g (L k) (R.getD k []) := by
  simp only [pntR, pntK, List.getD_eq_getElem?_getD, List.getElem?_mapIdx, List.getElem?_eq_getElem h, Option.map_some, Option.getD_some, if_pos h]
theorem pntR_twice (g : Int) (L : Nat → List Pt) (R : List (List Int)) : pntR g L (pntR g L R) = pntR g L R := by
  apply ext_getD (z := [])
  · rw [pntR_len]
  · intro i hi
    rw [pntR_len, pntR_len] at hi
    rw [pntR_at (by rw [pntR_len]; exact hi), pntR_at hi, pnt_twice]
theorem pnt_val {g : Int} {L : List Pt} {r : List Int} {i : Nat} (h : i < r.length) : (pnt g L r).getD i 0 = if inS L (i : Int) then g else r.getD i 0 := by
  simp only [pnt, List.getD_eq_getElem?_getD, List.getElem?_mapIdx, List.getElem?_eq_getElem h, Option.map_some, Option.getD_some]
theorem pnt_ok {g : Int} {L : List Pt} {r : List Int} (hg : 0 ≤ g ∧ g ≤ 255) (h : rowB r = true) : rowB (pnt g L r) = true := by
  simp only [rowB, Bool.and_eq_true, decide_eq_true_eq, List.all_eq_true] at h ⊢
  refine ⟨by rw [pnt_len]; exact h.1, fun x hx => ?_⟩
  obtain ⟨i, hi, rfl⟩ := List.mem_iff_getElem.1 hx
  simp only [pnt, List.getElem_mapIdx]
  split
  · simp [grayB]; omega
  · exact h.2 _ (List.getElem_mem _)
theorem pntR_ok {g : Int} {L : Nat → List Pt} {R : List (List Int)} (hg : 0 ≤ g ∧ g ≤ 255) (h : rowsB R = true) : rowsB (pntR g L R) = true := by
  simp only [rowsB, Bool.and_eq_true, decide_eq_true_eq] at h ⊢
  refine ⟨by rw [pntR_len]; exact h.1, all_yes (z := []) (fun i hi => ?_)⟩
  rw [pntR_len] at hi
  rw [pntR_at hi]
  refine pnt_ok hg ?_
  have := List.all_eq_true.1 h.2 _ (List.getElem_mem hi)
  simpa [List.getD, List.getElem?_eq_getElem hi] using this
theorem tot32 {R : List (List Int)} (h : ∀ r ∈ R, r.length = 32) : tot R = R.length * 32 := by
  induction R with
  | nil => rfl
  | cons r R ih =>
    have e : tot (r :: R) = r.length + tot R := by simp [tot]
    rw [e, ih (fun x hx => h x (List.mem_cons_of_mem _ hx)), h r (List.mem_cons_self)]
    simp; omega
variable {l : List Pt} {g x0 y0 x1 y1 : Int}
theorem po_drawn {R : List (List Int)} {f : Int} (h : DrO l g x0 y0 x1 y1) (hR : rowsB R = true) (hf : 0 ≤ f ∧ f ≤ 32) : poB R f l g x0 y0 x1 y1 = true ∧ poR R f l g x0 y0 x1 y1 = pntR g (rowsL l g x0 y0 x1 y1 f) R := by
  have h1 : poB R f l g x0 y0 x1 y1 = true := by simp [poB, hR, h.ok]; omega
  exact ⟨h1, by simp [poR, h1]⟩
theorem sum_count (p : Nat → Bool) : ∀ l : List Nat, (l.map fun i => if p i then 1 else 0).sum = l.countP p
  | [] => rfl
  | x :: l => by
    have ih := sum_count p l
    rw [List.map_cons, List.sum_cons, ih, List.countP_cons]; omega
theorem pnt_white (g : Int) (L : List Pt) : pnt g L whiteR = (List.range 32).map fun i : Nat => if inS L (i : Int) then g else 255 := by
  apply List.ext_getElem
  · simp [pnt, whiteR]
  · intro i h1 h2
    rw [List.getElem_map, List.getElem_range]
    simp only [pnt, List.getElem_mapIdx, whiteR, List.getElem_replicate]
theorem cnt1_white {g : Int} (hg : g ≠ 255) (L : List Pt) : cnt1 g (pnt g L whiteR) = (List.range 32).countP fun i : Nat => inS L (i : Int) := by
  rw [pnt_white, cnt1, List.map_map, ← sum_count]
  congr 1
  apply List.map_congr_left
  intro i _
  simp only [Function.comp_apply]
  cases inS L (i : Int)
  · simp only [Bool.false_eq_true, if_false]; rw [if_neg (Ne.symm hg)]
  · simp
theorem cnt_range {L : List Pt} (h : ∀ q ∈ L, 0 ≤ q.1 ∧ q.2 ≤ 32) : Ins.cntS L 50 = (List.range 32).countP fun i : Nat => inS L (i : Int) := by
  have e : List.range 50 = List.range 8 ++ (List.range 32).map (8 + ·) ++ (List.range 10).map (40 + ·) := by decide
  unfold Ins.cntS
  rw [e, List.countP_append, List.countP_append, List.countP_map, List.countP_map]
  have h1 : (List.range 8).countP (fun j : Nat => inS L ((j : Int) - 8)) = 0 := by
    rw [List.countP_eq_zero]
    intro j hj
    rw [List.mem_range] at hj
    rw [Ins.inS_false (fun q hq => by have := h q hq; omega)]; simp
  have h3 : (List.range 10).countP ((fun j : Nat => inS L ((j : Int) - 8)) ∘ (40 + ·)) = 0 := by
    rw [List.countP_eq_zero]
    intro j hj
    rw [List.mem_range] at hj
    simp only [Function.comp_apply]
    rw [Ins.inS_false (fun q hq => by have := h q hq; omega)]; simp
  rw [h1, h3, Nat.zero_add, Nat.add_zero]
  apply List.countP_congr
  intro j _
  simp only [Function.comp_apply]
  rw [show ((8 + j : Nat) : Int) - 8 = (j : Int) by omega]
theorem row_cnt (h : DrO l g x0 y0 x1 y1) (y : Int) : Ins.dtV (orow l g x0 y0 x1 y1 y) = ((Ins.cntS (orow l g x0 y0 x1 y1 y) 50 : Nat) : Int) := by
  have hbd := orow_bd l g x0 y0 x1 y1 y
  have hb := h.box.bd
  have hok := Ins.sps_okB (y := y) h.l6
  unfold Ins.orow at hbd ⊢
  generalize Ins.obx l g x0 y0 x1 y1 = b at *
  by_cases hr : b.y0 ≤ y ∧ y < b.y1
  · rw [if_pos hr] at hbd ⊢
    have h1 : Ins.okS (Ins.spsV l y) = true := by simp only [Ins.spB, Bool.and_eq_true] at hok; exact hok.2
    have h8 : (Ins.spsV l y).length ≤ 8 := by simp only [Ins.spB, Bool.and_eq_true, decide_eq_true_eq] at hok; exact hok.1
    have hM := Ins.mt_ok h1 b.x0 b.x1 (Ins.spsV l y).length (Nat.le_refl _)
    have hl := Ins.mtV_len (Ins.spsV l y) b.x0 b.x1
    rw [Ins.mt_good b.x0 b.x1 hok] at *
    have hok2 : Ins.spB (Ins.mtK (Ins.spsV l y) b.x0 b.x1 (Ins.spsV l y).length) = true := by
      have := (Ins.sep_iff _).2 hM.sep
      simp [Ins.spB, this]; omega
    rw [Ins.dtV_sum (fun q hq => by have := hbd q hq; have := hM.sep.pos q hq; omega) (by omega) hok2]
    exact (Ins.cntS_sum hM.sep (fun q hq => by have := hbd q hq; omega)).symm
  · rw [if_neg hr]
    decide
theorem dots_eq (h : DrO l g x0 y0 x1 y1) (hg : g ≠ 255) : ((cntR g (pntR g (rowsL l g x0 y0 x1 y1 0) (List.replicate 32 whiteR)) : Nat) : Int) = Ins.odV l g x0 y0 x1 y1 := by
  obtain ⟨X, hX⟩ : ∃ X, pntR g (rowsL l g x0 y0 x1 y1 0) (List.replicate 32 whiteR) = X := ⟨_, rfl⟩
  have hXl : X.length = 32 := by rw [← hX, pntR_len, List.length_replicate]
  have hXa : ∀ k, k < 32 → X.getD k [] = pnt g (orow l g x0 y0 x1 y1 (k : Int)) whiteR := fun k hk => by
    rw [← hX, pntR_at (by rw [List.length_replicate]; exact hk)]
    have e1 : (List.replicate 32 whiteR).getD k [] = whiteR := by rw [List.getD_eq_getElem?_getD, List.getElem?_replicate, if_pos hk]; rfl
    rw [e1]
    unfold rowsL
    rw [Int.zero_add]
  rw [hX]
  clear hX
  have key : ∀ k, k ≤ 32 → Ins.odK (fun k => Ins.dtV (orow l g x0 y0 x1 y1 (k : Int))) k = ((cntR g (X.take k) : Nat) : Int) ∧ cntR g (X.take k) ≤ k * 32 := by
    intro k
    induction k with
    | zero => intro _; simp [Ins.odK, cntR]
    | succ k ih =>
      intro hk
      obtain ⟨h1, h2⟩ := ih (by omega)
      have hc : cnt1 g (X.getD k []) = Ins.cntS (orow l g x0 y0 x1 y1 (k : Int)) 50 := by
        rw [hXa k (by omega), cnt1_white hg, cnt_range (orow_bd l g x0 y0 x1 y1 (k : Int))]
      have hl : cnt1 g (X.getD k []) ≤ 32 := by
        have := cnt1_le g (X.getD k [])
        rw [hXa k (by omega), pnt_len, whiteR_len] at this
        rw [hXa k (by omega)]; exact this
      have ht := cntR_take (v := g) (R := X) (k := k) (by omega)
      refine ⟨?_, by omega⟩
      rw [Ins.odK_succ, h1, row_cnt h, ← hc, ht]
      simp only [wrap64]
      omega
  have := (key 32 (Nat.le_refl _)).1
  rw [show X.take 32 = X by rw [← hXl, List.take_length]] at this
  unfold Ins.odV
  exact this.symm
theorem white_cnt : cntR 255 (List.replicate 32 whiteR) = 1024 := by decide
theorem white_ok : rowsB (List.replicate 32 whiteR) = true := by decide
end Go.Proofs.Ytifmdgncgokikaa.Own
