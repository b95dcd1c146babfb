/-
  FnRectangles and FnInside, what they ask of the answers: on plain lists and numbers.
-/
import Derived.Test.YtjmcpijmhfdbiaaCn8
import Derived.Test.YtjmcpijmhfdbiaaAr8
import Derived.Test.YtjmcpijmhfdbiaaDs8
import Derived.Test.YtjmcpijmhfdbiaaBox
import Derived.Test.YtjmcpijmhfdbiaaDrawBox
namespace Go.Proofs.Ytjmcpijmhfdbiaa.Ins
open Go.ChangeShapes Go.WideShapes Go.ChangeAt Go.RowKit
open Kit Point Box
set_option linter.unusedVariables false
set_option linter.unusedSimpArgs false
set_option linter.unnecessarySimpa false
theorem cnt_congr {f g : Nat → Bool} : ∀ n, (∀ i, i < n → f i = g i) → cnt f n = cnt g n
  | 0, _ => rfl
  | n + 1, h => by simp only [cnt]; rw [cnt_congr n (fun i hi => h i (by omega)), h n (by omega)]
theorem cnt2_congr {f g : Nat → Nat → Bool} (m : Nat) : ∀ n, (∀ i j, i < n → j < m → f i j = g i j) → cnt2 f m n = cnt2 g m n
  | 0, _ => rfl
  | n + 1, h => by simp only [cnt2]; rw [cnt2_congr m n (fun i j hi hj => h i j (by omega) hj), cnt_congr m (fun j hj => h n j (by omega) hj)]
theorem rect_ok {x0 y0 x1 y1 : Int} (h : bokB x0 y0 x1 y1 = true) : pathB (rect x0 y0 x1 y1) = true := by
  obtain ⟨b0, b1, b2, b3, b4, b5⟩ := bok_true h
  simp [pathB, ptsB, rect, pokB, inB]; omega
theorem cntV_eq {l : List Pt} (h : pathB l = true) : cntV l = cnt2 (fun y x => insP l (x : Int) (y : Int)) 32 32 := by
  unfold cntV
  refine cnt2_congr 32 32 (fun y x hy hx => ?_)
  have e1 : inB (x : Int) = true := by simp [inB]; omega
  have e2 : inB (y : Int) = true := by simp [inB]; omega
  simp [inpB, h, e1, e2]
/-- As many dots as the box has within the page. -/
theorem rect_page {x0 y0 x1 y1 : Int} (h : bokB x0 y0 x1 y1 = true) :
    ((cntV (rect x0 y0 x1 y1) : Nat) : Int) = dots (sel (meetB x0 y0 x1 y1 0 0 32 32) (mx x0 0)) (sel (meetB x0 y0 x1 y1 0 0 32 32) (mx y0 0)) (sel (meetB x0 y0 x1 y1 0 0 32 32) (mn x1 32)) (sel (meetB x0 y0 x1 y1 0 0 32 32) (mn y1 32)) := by
  obtain ⟨b0, b1, b2, b3, b4, b5⟩ := bok_true h
  rw [cntV_eq (rect_ok h), rect_cnt (by omega) (by omega)]
  have hp : bokB 0 0 32 32 = true := by decide
  by_cases hm : mx x0 0 < mn x1 32 ∧ mx y0 0 < mn y1 32
  · have e : meetB x0 y0 x1 y1 0 0 32 32 = true := by simp [meetB, h, hp, hm]
    rw [e]
    unfold mx mn at hm
    have hb : bokB (max x0 0) (max y0 0) (min x1 32) (min y1 32) = true := by simp [bokB, inB]; omega
    simp only [sel, if_true, dots, mx, mn, hb]
    rw [show max 0 (min y1 32 - max y0 0) = min y1 32 - max y0 0 by omega, show max 0 (min x1 32 - max x0 0) = min x1 32 - max x0 0 by omega, Int.mul_comm]
  · have e : meetB x0 y0 x1 y1 0 0 32 32 = false := by simp only [meetB, Bool.and_eq_false_iff, decide_eq_false_iff_not]; exact .inr hm
    rw [e]
    unfold mx mn at hm
    have hz : dots 0 0 0 0 = 0 := by decide
    simp only [sel, Bool.false_eq_true, if_false, hz]
    by_cases h1 : max x0 0 < min x1 32
    · rw [show max 0 (min y1 32 - max y0 0) = 0 by omega, Int.zero_mul]
    · rw [show max 0 (min x1 32 - max x0 0) = 0 by omega, Int.mul_zero]
theorem rect_area {x0 y0 x1 y1 : Int} (h : bokB x0 y0 x1 y1 = true) : arV (rect x0 y0 x1 y1) = 2 * dots x0 y0 x1 y1 := by
  simp only [arV, rect_ok h, if_true, arP_rect, dots, h]
theorem box_ok {x0 y0 x1 y1 : Int} (h : Draw.BoxIn x0 y0 x1 y1) : bokB x0 y0 x1 y1 = true := by
  unfold Draw.BoxIn at h; simp [bokB, inB]; omega
/-- A drawn path, reversed or shifted by at most 4, is a valid path. -/
theorem shp_rev {l : List Pt} (h : Shp l) : Shp l.reverse := fun p hp => h p (by simpa using hp)
theorem shp_shift {l : List Pt} (h : Shp l) {d : Pt} (h1 : -4 ≤ d.1 ∧ d.1 ≤ 4) (h2 : -4 ≤ d.2 ∧ d.2 ≤ 4) : shV l d = l.map (mv d) := by
  refine shV_good (by simp [inB]; omega) (by simp [inB]; omega) (fun k hk => ?_)
  have := h _ (List.getElem_mem hk)
  unfold Draw.InPage at this
  simp [shB, pokB, inB]; omega
theorem shp_shift_ok {l : List Pt} (h : Shp l) (h8 : l.length ≤ 8) {d : Pt} (h1 : -4 ≤ d.1 ∧ d.1 ≤ 4) (h2 : -4 ≤ d.2 ∧ d.2 ≤ 4) : pathB (l.map (mv d)) = true := by
  have : ptsB (l.map (mv d)) = true := by
    rw [ptsB, List.all_eq_true]
    intro p hp
    obtain ⟨q, hq, rfl⟩ := List.mem_map.1 hp
    have := h q hq
    unfold Draw.InPage at this
    have e : pokB (q.1 + d.1) (q.2 + d.2) = true := by simp [pokB, inB]; omega
    exact e
  simp [pathB, this, h8]
/-- The other direction contains the same dots. -/
theorem inp_back {l : List Pt} (h : Shp l) (h8 : l.length ≤ 8) (x y : Int) : inpB l.reverse x y = inpB l x y := by
  simp only [inpB, insP_rev, shp_ok h h8, shp_ok (shp_rev h) (by simpa using h8)]
/-- The shifted path contains the shifted dots. -/
theorem inp_shift {l : List Pt} (h : Shp l) (h8 : l.length ≤ 8) {d : Pt} (h1 : -4 ≤ d.1 ∧ d.1 ≤ 4) (h2 : -4 ≤ d.2 ∧ d.2 ≤ 4) {x y : Int} (hx : -34 ≤ x ∧ x ≤ 34) (hy : -34 ≤ y ∧ y ≤ 34) :
    inpB (l.map (mv d)) (x + d.1) (y + d.2) = inpB l x y := by
  have e1 : inB x = true := by simp [inB]; omega
  have e2 : inB y = true := by simp [inB]; omega
  have e3 : inB (x + d.1) = true := by simp [inB]; omega
  have e4 : inB (y + d.2) = true := by simp [inB]; omega
  simp only [inpB, insP_mv, shp_ok h h8, shp_shift_ok h h8 h1 h2, e1, e2, e3, e4]
theorem ar_back {l : List Pt} (h : Shp l) (h8 : l.length ≤ 8) : arV l.reverse = -arV l := by
  simp only [arV, shp_ok h h8, shp_ok (shp_rev h) (by simpa using h8), if_true, arP_rev]
theorem ar_shift {l : List Pt} (h : Shp l) (h8 : l.length ≤ 8) {d : Pt} (h1 : -4 ≤ d.1 ∧ d.1 ≤ 4) (h2 : -4 ≤ d.2 ∧ d.2 ≤ 4) : arV (l.map (mv d)) = arV l := by
  simp only [arV, shp_ok h h8, shp_shift_ok h h8 h1 h2, if_true, arP_mv]
end Go.Proofs.Ytjmcpijmhfdbiaa.Ins
