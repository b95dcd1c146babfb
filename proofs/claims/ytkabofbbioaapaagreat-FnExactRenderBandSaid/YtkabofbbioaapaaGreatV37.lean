/-
  Texts of this seat, laid together: Pa11
-/
import Derived.Test.YtkabofbbioaapaaGreatV35
namespace Go.Proofs.YtkabofbbioaapaaGreat.Own
open Go.ChangeShapes Go.WideShapes Go.ChangeAt Go.RowKit
open Kit Slabs Ints
open Go.Proofs.YtkabofbbioaapaaGreat.Ins (Pt gen_any9 orow obK)
set_option linter.unusedVariables false
set_option linter.unusedSimpArgs false
set_option linter.unnecessarySimpa false
set_option maxRecDepth 100000
def sixo (o : Ob) (pa : Option Addr) (pc : Nat) : List Value := sixv pa o.path.length pc o.gray o.x0 o.y0 o.x1 o.y1
def ob0 : Ob := ⟨[], 0, 0, 0, 0, 0⟩
def ObL (w : World) (a : Option Addr) (l : List Ob) : Prop := l = [] ∨ ∃ g, a = some ⟨g, 0, none⟩ ∧ g < w.heap.size ∧ ∀ i, i < l.length → ∃ pa pc, (∀ j u, (sixo (l.getD i ob0) pa pc)[j]? = some u → w.cell? ⟨g, i * 6 + j, none⟩ = some u) ∧ Ins.PathAt w pa (l.getD i ob0).path ∧ (l.getD i ob0).path.length ≤ 1048576
theorem ObL.on {w w' : World} {a : Option Addr} {l : List Ob} (h : ObL w a l) (hb : Below w.heap.size w w') : ObL w' a l := by
  rcases h with h | ⟨g, rfl, hg, hc⟩
  · exact .inl h
  · refine .inr ⟨g, rfl, Nat.lt_of_lt_of_le hg hb.size, fun i hi => ?_⟩
    obtain ⟨pa, pc, h1, h2, h3⟩ := hc i hi
    exact ⟨pa, pc, fun j u hu => (hb.cell (p := ⟨g, i * 6 + j, none⟩) hg).trans (h1 j u hu), h2.on hb, h3⟩
theorem ObL.some {w : World} {a : Option Addr} {l : List Ob} (h : ObL w a l) (h0 : l.length ≠ 0) : ∃ g, a = some ⟨g, 0, none⟩ ∧ g < w.heap.size ∧ ∀ i, i < l.length → ∃ pa pc, (∀ j u, (sixo (l.getD i ob0) pa pc)[j]? = some u → w.cell? ⟨g, i * 6 + j, none⟩ = some u) ∧ Ins.PathAt w pa (l.getD i ob0).path ∧ (l.getD i ob0).path.length ≤ 1048576 := by
  rcases h with rfl | h
  · exact absurd rfl h0
  · exact h
def okO (o : Ob) : Bool := obK o.path o.gray o.x0 o.y0 o.x1 o.y1
set_option maxHeartbeats 2000000 in
theorem allob_impl (w : World) (a : Option Addr) (c : Nat) (l : List Ob) (hn : l.length ≤ 1048576) (h : ObL w a l) :
    Calls Tryz.prog 27 #[.slice a l.length c, .func (.func 28) #[] #[]] w fun e w' => e = .returned (.bool (l.all okO)) ∧ Below w.heap.size w w' := by
  have HP := Lib.hid h
  obtain ⟨n, hN⟩ : ∃ n, l.length = n := ⟨_, rfl⟩
  have HN := Lib.hid hN
  rw [hN] at hn ⊢
  clear hN h
  go_enter Tryz.func27, Tryz.ntmps27
  go_wp2
  go_loopw [9] (fun v9 wr => ∃ k : Nat, k ≤ n ∧ v9 = .int .i64 (k : Int) ∧ Hid (∀ i, i < k → okO (l.getD i ob0) = true) ∧ Below w.heap.size w wr) (fun v9 _ => n - (intOf v9).toNat)
  case atStart => exact ⟨0, Nat.zero_le _, rfl, Lib.hid (fun i hi => absurd hi (Nat.not_lt_zero i)), Below.refl _ _⟩
  case round =>
    obtain ⟨k, hk, rfl, hb, hB⟩ := hrel
    by_cases hlt : k < n
    · obtain ⟨g, rfl, hg, hc⟩ := (HP.out.on hB).some (by rw [HN.out]; omega)
      obtain ⟨pa, pc, h6, hpa, hpl⟩ := hc k (by rw [HN.out]; exact hlt)
      obtain ⟨o, hx⟩ : ∃ o, l.getD k ob0 = o := ⟨_, rfl⟩
      rw [hx] at h6 hpa hpl
      have q0 : wr.cell? ⟨g, k * 6, none⟩ = some (.slice pa o.path.length pc) := h6 0 _ rfl
      have q1 : wr.cell? ⟨g, k * 6 + 1, none⟩ = some (.int .i64 o.gray) := h6 1 _ rfl
      have q2 : wr.cell? ⟨g, k * 6 + 2, none⟩ = some (.int .i64 o.x0) := h6 2 _ rfl
      have q3 : wr.cell? ⟨g, k * 6 + 3, none⟩ = some (.int .i64 o.y0) := h6 3 _ rfl
      have q4 : wr.cell? ⟨g, k * 6 + 4, none⟩ = some (.int .i64 o.x1) := h6 4 _ rfl
      have q5 : wr.cell? ⟨g, k * 6 + 5, none⟩ = some (.int .i64 o.y1) := h6 5 _ rfl
      have i0 : (0 : Int) ≤ (k : Int) := by omega
      have i1 : (k : Int) < (n : Int) := by omega
      have hb1 : Below wr.heap.size wr (wr.alloc (.cells #[.slice pa o.path.length pc, .int .i64 o.gray, .int .i64 o.x0, .int .i64 o.y0, .int .i64 o.x1, .int .i64 o.y1] 52)) := by go_grown
      have HX := Lib.hid (And.intro hx (And.intro (hpa.on hb1) (And.intro hpl (on_of hB hb1))))
      clear hx hpa hpl hc h6 hB hb1
      go_wp2_with fail
      clear q0 q1 q2 q3 q4 q5
      ((with_reducible refine (Ins.ok_impl _ pa pc o.path o.gray o.x0 o.y0 o.x1 o.y1 HX.out.2.2.1 HX.out.2.1).mono ?_); rintro e w1 ⟨rfl, bb⟩)
      have HB1 := Lib.hid (on_of HX.out.2.2.2 bb)
      have HK9 := Lib.hid (show okO o = obK o.path o.gray o.x0 o.y0 o.x1 o.y1 from rfl)
      clear bb
      cases hp : obK o.path o.gray o.x0 o.y0 o.x1 o.y1
      · have HS := Lib.hid (all_no (p := okO) (l := l) (z := ob0) (k := k) (by rw [HN.out]; exact hlt) (by rw [HX.out.1, HK9.out]; exact hp))
        clear hp
        go_wp2
        go_ret
        exact ⟨ret_bool HS.out.symm, HB1.out⟩
      · have hyes : ∀ i, i < k + 1 → okO (l.getD i ob0) = true := fun i hi => by
          by_cases e : i = k
          · subst e; rw [HX.out.1, HK9.out]; exact hp
          · exact hb.out i (by omega)
        have HS := Lib.hid hyes
        clear hyes hp
        go_wp2
        go_roundw
        case rel => exact ⟨k + 1, by omega, by go_num, HS, HB1.out⟩
        case measure => simp [intOf]; omega
    · obtain rfl : k = n := by omega
      have HB := Lib.hid hB
      clear hB
      go_wp2
      go_ret
      exact ⟨ret_bool (all_yes (z := ob0) (fun i hi => hb.out i (by rw [← HN.out]; exact hi))).symm, HB.out⟩
def paB (l : List Ob) : Bool := decide (l.length ≤ 12) && l.all okO
def pnO (R : List (List Int)) (o : Ob) : List (List Int) := pntR o.gray (rowsL o.path o.gray o.x0 o.y0 o.x1 o.y1 0) R
def paR (l : List Ob) : List (List Int) := if paB l then l.foldl pnO (List.replicate 32 whiteR) else []
theorem pnO_len (R : List (List Int)) (o : Ob) : (pnO R o).length = R.length := pntR_len _ _ _
theorem pntK_32 {g : Int} {L : Nat → List Pt} {R : List (List Int)} {k : Nat} (h : ∀ r ∈ R, r.length = 32) : ∀ r ∈ pntK g L R k, r.length = 32 := by
  intro r hr
  obtain ⟨i, hi, rfl⟩ := List.mem_iff_getElem.1 hr
  simp only [pntK, List.getElem_mapIdx]
  split
  · rw [pnt_len]; exact h _ (List.getElem_mem _)
  · exact h _ (List.getElem_mem _)
theorem fold_32 (l : List Ob) : ∀ {R : List (List Int)}, R.length = 32 → (∀ r ∈ R, r.length = 32) → (l.foldl pnO R).length = 32 ∧ ∀ r ∈ l.foldl pnO R, r.length = 32 := by
  induction l with
  | nil => intro R h1 h2; exact ⟨h1, h2⟩
  | cons o l ih => intro R h1 h2; exact ih (by rw [pnO_len]; exact h1) (pntK_32 h2)
theorem white_32 : (List.replicate 32 whiteR).length = 32 ∧ ∀ r ∈ List.replicate 32 whiteR, r.length = 32 :=
  ⟨List.length_replicate, fun r hr => by rw [(List.mem_replicate.1 hr).2]; exact whiteR_len⟩
theorem whites32_impl (w : World) : Calls Tryz.prog 29 #[.int .i64 32] w (SsNew (List.replicate 32 whiteR) w) := by
  have := whites_impl w 32
  rw [if_pos (by omega)] at this
  exact this
set_option maxHeartbeats 4000000 in
theorem paintall_impl (w : World) (a : Option Addr) (c : Nat) (l : List Ob) (hn : l.length ≤ 1048576) (h : ObL w a l) :
    Calls Tryz.prog 9 #[.slice a l.length c] w (PoNew (paR l) (paB l) w) := by
  have HP := Lib.hid h
  obtain ⟨n, hN⟩ : ∃ n, l.length = n := ⟨_, rfl⟩
  have HN := Lib.hid hN
  have HC := Lib.hid (allob_impl w a c l hn h)
  rw [hN] at hn HC ⊢
  clear hN h
  have bad : paB l = false → ∀ (V : World) (a9 : Option Addr) (c9 : Nat), Below w.heap.size w V → PoNew (paR l) (paB l) w (.returned (.tuple #[.slice a9 0 c9, .bool false])) V := fun hb V a9 c9 hV => by
    have e : paR l = [] := by simp [paR, hb]
    rw [e, hb]
    exact ⟨a9, c9, [], rfl, .nil _ _, List.nodup_nil, fun b hb => absurd hb List.not_mem_nil, hV⟩
  have HBad := Lib.hid bad
  clear bad
  by_cases h12 : 12 < n
  · have HV : Hid (paB l = false) := Lib.hid (by have := HN.out; simp [paB]; omega)
    have hd : decide (12 < (n : Int)) = true := by simp; omega
    clear HC
    go_enter Tryz.func9, Tryz.ntmps9
    go_wp2
    go_ret2
    exact HBad.out HV.out _ _ _ (Below.refl _ _)
  · have hd : decide (12 < (n : Int)) = false := by simp; omega
    obtain ⟨q, hq⟩ : ∃ q, l.all okO = q := ⟨_, rfl⟩
    rw [hq] at HC
    cases q
    · have HV : Hid (paB l = false) := Lib.hid (by simp [paB, hq])
      clear hq
      go_enter Tryz.func9, Tryz.ntmps9
      go_wp2_with fail
      ((with_reducible refine HC.out.mono ?_); rintro e w1 ⟨rfl, bb⟩)
      have HB := Lib.hid bb
      clear bb
      go_wp2
      go_ret2
      exact HBad.out HV.out _ _ _ HB.out
    · have HV : Hid (paB l = true) := Lib.hid (by have := HN.out; simp [paB, hq]; omega)
      clear hq
      go_enter Tryz.func9, Tryz.ntmps9
      go_wp2_with fail
      ((with_reducible refine HC.out.mono ?_); rintro e w1 ⟨rfl, bb⟩)
      have HB := Lib.hid bb
      clear bb HC
      go_wp2_with fail
      ((with_reducible refine (whites32_impl _).mono ?_); rintro e w2 ⟨ra, rc, fp, rfl, ho, hnd, hge, bb⟩)
      have hs1 := HB.out.size
      have HO := Lib.hid (And.intro hnd (And.intro (show ∀ b ∈ fp, w.heap.size ≤ b from fun b hb => Nat.le_trans hs1 (hge b hb)) (And.intro ho (on_of HB.out bb))))
      rw [show (List.replicate 32 whiteR).length = 32 from List.length_replicate]
      clear ho hnd hge bb
      go_wp2
      go_loopw [18] (fun v18 wr => ∃ k : Nat, k ≤ n ∧ v18 = .int .i64 (k : Int) ∧ Hid (Own wr KSS [.slice ra 32 rc] (.sl (dR ((l.take k).foldl pnO (List.replicate 32 whiteR)))) fp ∧ Below w.heap.size w wr)) (fun v18 _ => n - (intOf v18).toNat)
      case atStart => exact ⟨0, Nat.zero_le _, rfl, Lib.hid ⟨by have := HO.out.2.2.1; rw [show (List.replicate 32 whiteR).length = 32 from List.length_replicate] at this; exact this, HO.out.2.2.2⟩⟩
      case round =>
        obtain ⟨k, hk, rfl, hI⟩ := hrel
        by_cases hlt : k < n
        · have hkl : k < l.length := by rw [HN.out]; exact hlt
          obtain ⟨g, rfl, hg, hc⟩ := HP.out.some (by rw [HN.out]; omega)
          obtain ⟨pa, pc, h6, hpa, hpl⟩ := hc k hkl
          have htk : (l.take (k + 1)).foldl pnO (List.replicate 32 whiteR) = pnO ((l.take k).foldl pnO (List.replicate 32 whiteR)) (l.getD k ob0) := by
            rw [List.take_succ_eq_append_getElem hkl, List.foldl_append]
            simp [List.getD, List.getElem?_eq_getElem hkl]
          obtain ⟨f1, f2⟩ := fold_32 (l.take k) white_32.1 white_32.2
          obtain ⟨o, hx⟩ : ∃ o, l.getD k ob0 = o := ⟨_, rfl⟩
          rw [hx] at h6 hpa hpl htk
          obtain ⟨R, hR⟩ : ∃ R, (l.take k).foldl pnO (List.replicate 32 whiteR) = R := ⟨_, rfl⟩
          rw [hR] at f1 f2 htk hI
          have up : ∀ j u, (sixo o pa pc)[j]? = some u → wr.cell? ⟨g, k * 6 + j, none⟩ = some u := fun j u hu => (hI.out.2.cell (p := ⟨g, k * 6 + j, none⟩) hg).trans (h6 j u hu)
          have q0 : wr.cell? ⟨g, k * 6, none⟩ = some (.slice pa o.path.length pc) := up 0 _ rfl
          have q1 : wr.cell? ⟨g, k * 6 + 1, none⟩ = some (.int .i64 o.gray) := up 1 _ rfl
          have q2 : wr.cell? ⟨g, k * 6 + 2, none⟩ = some (.int .i64 o.x0) := up 2 _ rfl
          have q3 : wr.cell? ⟨g, k * 6 + 3, none⟩ = some (.int .i64 o.y0) := up 3 _ rfl
          have q4 : wr.cell? ⟨g, k * 6 + 4, none⟩ = some (.int .i64 o.x1) := up 4 _ rfl
          have q5 : wr.cell? ⟨g, k * 6 + 5, none⟩ = some (.int .i64 o.y1) := up 5 _ rfl
          have hb1 : Below wr.heap.size wr (wr.alloc (.cells #[.slice pa o.path.length pc, .int .i64 o.gray, .int .i64 o.x0, .int .i64 o.y0, .int .i64 o.x1, .int .i64 o.y1] 52)) := by go_grown
          have hB2 := on_of hI.out.2 hb1
          have hPt := paint_any _ ra rc R fp 0 pa pc o.path o.gray o.x0 o.y0 o.x1 o.y1 hpl (by omega) f2 (by omega) (by rw [f1]; exact hI.out.1.under hb1) HO.out.1 (fun W hW => hpa.on (hB2.trans (hW.below hB2.size HO.out.2.1)))
          rw [f1] at hPt
          have HPt := Lib.hid hPt
          have HX := Lib.hid (And.intro htk hB2)
          have i0 : (0 : Int) ≤ (k : Int) := by omega
          have i1 : (k : Int) < (n : Int) := by omega
          have hgl : g < wr.heap.size := Nat.lt_of_lt_of_le hg hI.out.2.size
          clear hx hR up hpa hpl h6 hc hb1 hB2 hPt f1 f2 htk
          go_wp2_with fail
          clear q0 q1 q2 q3 q4 q5
          ((with_reducible refine HPt.out.mono ?_); rintro e w3 ⟨rfl, ho3, ht3⟩)
          have HI := Lib.hid (show Own w3 KSS [.slice ra 32 rc] (.sl (dR ((l.take (k + 1)).foldl pnO (List.replicate 32 whiteR)))) fp ∧ Below w.heap.size w w3 from ⟨by rw [HX.out.1]; exact ho3, HX.out.2.trans (ht3.below HX.out.2.size HO.out.2.1)⟩)
          clear ho3 ht3 HPt
          go_wp2
          go_roundw
          case rel => exact ⟨k + 1, by omega, by go_num, HI⟩
          case measure => simp [intOf]; omega
        · obtain rfl : k = n := by omega
          have htk : l.take k = l := by rw [← HN.out, List.take_length]
          rw [htk] at hI
          go_wp2
          go_ret2
          have e : paR l = l.foldl pnO (List.replicate 32 whiteR) := by simp [paR, HV.out]
          obtain ⟨hl32, _⟩ := fold_32 l white_32.1 white_32.2
          rw [e, HV.out]
          exact ⟨ra, rc, fp, by rw [hl32]; rfl, by rw [hl32]; exact hI.out.1, HO.out.1, HO.out.2.1, hI.out.2⟩
end Go.Proofs.YtkabofbbioaapaaGreat.Own
