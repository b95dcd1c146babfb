/-
  Texts of this seat, laid together: Lw8, ToO, InvB
-/
import Derived.WalkKit
import Derived.Deep.DeepCutAuto
import Derived.Deep.QuietTactic
import Derived.BigQuiet
import Derived.Deep.RegionHeld3
import Derived.Handy
import Derived.Test.YtbdjnfnphilklaaGreatV08
import Derived.Test.YtbdjnfnphilklaaGreatV23
import Derived.Test.YtbdjnfnphilklaaGreatV07
import Derived.Test.YtbdjnfnphilklaaGreatV10
namespace Go.Proofs.YtbdjnfnphilklaaGreat.Ins
open Go.ChangeShapes Go.WideShapes Go.ChangeAt Go.RowKit
open Kit Point Slabs Recs
set_option linter.unusedVariables false
set_option linter.unusedSimpArgs false
set_option linter.unnecessarySimpa false
def plst (z : Nat → Nat → Value) (n : Nat) : List Pt := (List.range n).map fun i => (intOf (z i 0), intOf (z i 1))
theorem plst_len (z : Nat → Nat → Value) (n : Nat) : (plst z n).length = n := by simp [plst]
theorem plst_get (z : Nat → Nat → Value) {n i : Nat} (h : i < n) : (plst z n).getD i (0, 0) = (intOf (z i 0), intOf (z i 1)) := by
  simp [plst, List.getD, h]
theorem pX_plst (z : Nat → Nat → Value) {n i : Nat} (h : i < n) : pX (plst z n) i = intOf (z i 0) := by rw [pX, plst_get z h]
theorem pY_plst (z : Nat → Nat → Value) {n i : Nat} (h : i < n) : pY (plst z n) i = intOf (z i 1) := by rw [pY, plst_get z h]
theorem slab_path {w : World} {B n : Nat} {v : Value} {z : Nat → Nat → Value} (h : Slab w B v n 2 (fun i => [z i 0, z i 1])) (hs : Points.Shape (fun i => [z i 0, z i 1]) n) :
    ∃ a c, v = .slice a (plst z n).length c ∧ PathAt w a (plst z n) := by
  rw [plst_len]
  rcases h.writes with ⟨h0, a, c, hv⟩ | ⟨g, c, hv, _, W1⟩
  · subst h0; exact ⟨a, c, hv, .inl (by simp [plst])⟩
  · refine ⟨_, c, hv, .inr ⟨g, rfl, W1.here, fun i hi => ?_⟩⟩
    rw [plst_len] at hi
    obtain ⟨x0, x1, e⟩ := hs i hi
    have q := Points.cells_of W1.cell hi e
    have e' : [z i 0, z i 1] = [Value.int .i64 x0, .int .i64 x1] := e
    injection e' with e0 e1
    injection e1 with e1
    rw [pX_plst z hi, pY_plst z hi, e0, e1]
    exact q
theorem recs_keep8 {w W' : World} {a : Option Addr} {n c : Nat} {z : Nat → Nat → Value} (h : IsRecs Points.kl w a n c z) (hb : Below w.heap.size w W') : IsRecs Points.kl W' a n c z := by
  obtain ⟨h1, h2, h3⟩ := h
  refine ⟨h1, h2, ?_⟩
  rcases h3 with h3 | ⟨g, o, ha, hg, h4⟩
  · exact .inl h3
  · exact .inr ⟨g, o, ha, Nat.lt_of_lt_of_le hg hb.size, fun i hi j kd hk => ⟨(hb.cell (p := ⟨g, _, none⟩) hg).trans (h4 i hi j kd hk).1, (h4 i hi j kd hk).2⟩⟩
def pcF (l : List Pt) (i : Nat) : List Value := [.int .i64 (pX l i), .int .i64 (pY l i)]
theorem pcF_len (l : List Pt) (i : Nat) : (pcF l i).length = 2 := rfl
theorem pcF_shape (l : List Pt) (n : Nat) : Points.Shape (pcF l) n := fun i _ => ⟨_, _, rfl⟩
theorem pcF_cons (p : Pt) (l : List Pt) (i : Nat) : pcF (p :: l) (i + 1) = pcF l i := by simp [pcF, pX, pY]
theorem flat_pc : ∀ l : List Pt, flat (pcF l) l.length = cellsP l
  | [] => rfl
  | p :: l => by
    have e : flat (pcF (p :: l)) (l.length + 1) = pcF (p :: l) 0 ++ flat (fun i => pcF (p :: l) (i + 1)) l.length := by
      simp only [flat, List.range_succ_eq_map, List.flatMap_cons, List.flatMap_map]
    rw [List.length_cons, e, show (fun i => pcF (p :: l) (i + 1)) = pcF l from funext fun i => pcF_cons p l i, flat_pc l]
    simp [pcF, pX, pY, cellsP]
theorem slab_owns {w : World} {B : Nat} {v : Value} {m : List Pt} (h : w.ownsRow B 110 2 v m.length (cellsP m)) : Slab w B v m.length 2 (pcF m) :=
  Slab.of_owns (by rw [flat_pc]; exact h) (pcF_len m)
variable {w : World} {B n : Nat} {v : Value} {z : Nat → Nat → Value}
end Go.Proofs.YtbdjnfnphilklaaGreat.Ins
namespace Go.Proofs.YtbdjnfnphilklaaGreat.Own
open Go.ChangeShapes Go.WideShapes Go.ChangeAt Go.RowKit
open Kit Slabs Ints
set_option linter.unusedVariables false
set_option linter.unusedSimpArgs false
set_option linter.unnecessarySimpa false
set_option maxRecDepth 100000
attribute [local go_sem ↓] hload_Object
attribute [local go_sem ↓] hstore_Object
theorem to_Box (xx0_0 : Int) (xx1_0 : Int) (xx2_0 : Int) (xx3_0 : Int) (w : World) : Calls Tryz.prog 57 #[.agg #[.int .i64 xx0_0, .int .i64 xx1_0, .int .i64 xx2_0, .int .i64 xx3_0]] w fun e w' => e = .returned (.agg #[.int .i64 xx0_0, .int .i64 xx1_0, .int .i64 xx2_0, .int .i64 xx3_0]) ∧ Below w.heap.size w w' := by
  go_enter Tryz.func57, Tryz.ntmps57
  go_wp2
  go_returns
  exact ⟨rfl, by go_grown⟩
set_option maxHeartbeats 8000000 in
theorem to_Object (w : World) {A : Array Value} {ds : List Dt} (hb : bulkL ds ≤ 1048576) (h : CameL w LObject A.toList ds) :
    Calls Tryz.prog 22 #[.agg A] w fun e w' => ∃ (R : Array Value) (fp : List Nat), e = .returned (.agg R) ∧ OwnL w' LObject R.toList ds fp ∧ fp.Nodup ∧ (∀ b ∈ fp, w.heap.size ≤ b) ∧ Below w.heap.size w w' := by
  obtain ⟨xa0, xc0, xs0, xx1_0, xx2_0, xx2_1, xx2_2, xx2_3, hA, rfl, ⟨ox0, mox0⟩⟩ := invC_Object h
  simp only [bulkL_app, bulkL, Dt.bulk] at hb
  have BA : Blk (((w.alloc (.cells A 46)).alloc (.cells #[.slice none 0 0, .int .i64 0, .int .i64 0, .int .i64 0, .int .i64 0, .int .i64 0] 53)).alloc (.cells #[.slice none 0 0, .int .i64 0, .int .i64 0, .int .i64 0, .int .i64 0, .int .i64 0] 53)) w.heap.size A.toList := ((Blk.new w A 46 rfl).alloc _).alloc _
  have BR : Blk (((w.alloc (.cells A 46)).alloc (.cells #[.slice none 0 0, .int .i64 0, .int .i64 0, .int .i64 0, .int .i64 0, .int .i64 0] 53)).alloc (.cells #[.slice none 0 0, .int .i64 0, .int .i64 0, .int .i64 0, .int .i64 0, .int .i64 0] 53)) (w.heap.size + 1) [.slice none 0 0, .int .i64 0, .int .i64 0, .int .i64 0, .int .i64 0, .int .i64 0] := (Blk.new _ #[.slice none 0 0, .int .i64 0, .int .i64 0, .int .i64 0, .int .i64 0, .int .i64 0] 53 (by simp)).alloc _
  have BO : Blk (((w.alloc (.cells A 46)).alloc (.cells #[.slice none 0 0, .int .i64 0, .int .i64 0, .int .i64 0, .int .i64 0, .int .i64 0] 53)).alloc (.cells #[.slice none 0 0, .int .i64 0, .int .i64 0, .int .i64 0, .int .i64 0, .int .i64 0] 53)) (w.heap.size + 1 + 1) [.slice none 0 0, .int .i64 0, .int .i64 0, .int .i64 0, .int .i64 0, .int .i64 0] := Blk.new _ #[.slice none 0 0, .int .i64 0, .int .i64 0, .int .i64 0, .int .i64 0, .int .i64 0] 53 (by simp)
  have hW : Below w.heap.size w (((w.alloc (.cells A 46)).alloc (.cells #[.slice none 0 0, .int .i64 0, .int .i64 0, .int .i64 0, .int .i64 0, .int .i64 0] 53)).alloc (.cells #[.slice none 0 0, .int .i64 0, .int .i64 0, .int .i64 0, .int .i64 0, .int .i64 0] 53)) := by go_grown
  have hsz : (((w.alloc (.cells A 46)).alloc (.cells #[.slice none 0 0, .int .i64 0, .int .i64 0, .int .i64 0, .int .i64 0, .int .i64 0] 53)).alloc (.cells #[.slice none 0 0, .int .i64 0, .int .i64 0, .int .i64 0, .int .i64 0, .int .i64 0] 53)).heap.size = w.heap.size + 3 := by simp
  rw [hA] at BA
  have HC := Lib.hid (ox0)
  have HA0 := Lib.hid BA
  have HR0 := Lib.hid BR
  have HO0 := Lib.hid BO
  have HW0 := Lib.hid hW
  have HZ0 := Lib.hid hsz
  have ca0 : A[0]? = some (.slice xa0 xs0.length xc0) := by rw [← Array.getElem?_toList, hA]; rfl
  clear ox0 hA BA BR BO hW hsz h
  go_enter Tryz.func22, Tryz.ntmps22
  go_wp2_with fail
  obtain ⟨W0, hW0⟩ : ∃ W, W = ((w.alloc (.cells A 46)).alloc (.cells #[.slice none 0 0, .int .i64 0, .int .i64 0, .int .i64 0, .int .i64 0, .int .i64 0] 53)).alloc (.cells #[.slice none 0 0, .int .i64 0, .int .i64 0, .int .i64 0, .int .i64 0, .int .i64 0] 53) := ⟨_, rfl⟩
  rw [← hW0] at HA0 HR0 HO0 HW0 HZ0 ⊢
  obtain ⟨GA, hGA⟩ : ∃ g, w.heap.size = g := ⟨_, rfl⟩
  obtain ⟨GR, hGR⟩ : ∃ g, w.heap.size + 1 = g := ⟨_, rfl⟩
  obtain ⟨GO, hGO_⟩ : ∃ g, w.heap.size + 1 + 1 = g := ⟨_, rfl⟩
  rw [hGO_] at HO0 ⊢
  rw [hGR] at HR0 ⊢
  have HA0 := Lib.hid (show Blk W0 GA _ from hGA ▸ HA0.out)
  try simp only [hGA]
  have nAO : GO ≠ GA := by omega
  have nRO : GO ≠ GR := by omega
  have hGO : w.heap.size ≤ GO := by omega
  have zO : GO < W0.heap.size := by have := HZ0.out; omega
  have zR : GR < W0.heap.size := by have := HZ0.out; omega
  clear hW0 ca0
  ((with_reducible refine (toP_came _ _ _ _ _ (by omega) ((HC.out).on HW0.out)).mono ?_); rintro e w1 ⟨ra0, rc0, xF0, rfl, oo, nd0, ge0, bb⟩)
  have HAw1 := Lib.hid (HA0.out.keep bb)
  have HOw1 := Lib.hid (HO0.out.keep bb)
  have HRw1 := Lib.hid (HR0.out.keep bb)
  have HWw1 := Lib.hid (on_of HW0.out bb)
  have sz0 := bb.size
  have Hqw1_0 := Lib.hid oo
  have lt0 : ∀ b ∈ xF0, b < w1.heap.size := oo.lt
  have nO0 : GO ∉ xF0 := fun hb => by have := ge0 _ hb;  omega
  have nR0 : GR ∉ xF0 := fun hb => by have := ge0 _ hb;  omega
  have nP0 : ∀ b ∈ xF0, b ≠ GO := fun b hb e => nO0 (e ▸ hb)
  have nQ0 : ∀ b ∈ xF0, b ≠ GR := fun b hb e => nR0 (e ▸ hb)
  clear oo bb
  have ca1 := HAw1.out.1 1 (.int .i64 xx1_0) (by rfl)
  have ca2 := HAw1.out.1 2 (.int .i64 xx2_0) (by rfl)
  have ca3 := HAw1.out.1 3 (.int .i64 xx2_1) (by rfl)
  have ca4 := HAw1.out.1 4 (.int .i64 xx2_2) (by rfl)
  have ca5 := HAw1.out.1 5 (.int .i64 xx2_3) (by rfl)
  have fz := HOw1.out.2.1
  have ko0 := HOw1.out.1 0 (.slice none 0 0) (by simp)
  have ko1 := HOw1.out.1 1 (.int .i64 0) (by simp)
  go_wp2_with fail
  have xO := (show Blk ((w1.setCell ⟨GO, 0, none⟩ (.slice ra0 xs0.length rc0)).setCell ⟨GO, 1, none⟩ (.int .i64 xx1_0)) GO (.slice ra0 xs0.length rc0 :: (.int .i64 xx1_0 :: (.int .i64 0 :: (.int .i64 0 :: (.int .i64 0 :: (.int .i64 0 :: ([]))))))) from Blk.put (P := [.slice ra0 xs0.length rc0]) (R := [.int .i64 0, .int .i64 0, .int .i64 0, .int .i64 0]) (by simpa using (show Blk (w1.setCell ⟨GO, 0, none⟩ (.slice ra0 xs0.length rc0)) GO (.slice ra0 xs0.length rc0 :: (.int .i64 0 :: (.int .i64 0 :: (.int .i64 0 :: (.int .i64 0 :: (.int .i64 0 :: ([]))))))) from Blk.put (P := []) (R := [.int .i64 0, .int .i64 0, .int .i64 0, .int .i64 0, .int .i64 0]) (by simpa using HOw1.out) rfl (.slice ra0 xs0.length rc0))) rfl (.int .i64 xx1_0))
  have xA := ((HAw1.out.other nAO 0 (.slice ra0 xs0.length rc0)).other nAO 1 (.int .i64 xx1_0))
  have xR := ((HRw1.out.other nRO 0 (.slice ra0 xs0.length rc0)).other nRO 1 (.int .i64 xx1_0))
  have xW := ((((HWw1.out).setCell (p := ⟨GO, 0, none⟩) hGO (.slice ra0 xs0.length rc0))).setCell (p := ⟨GO, 1, none⟩) hGO (.int .i64 xx1_0))
  have xq0 := (own_setN (own_setN (Hqw1_0.out) nO0 0 (.slice ra0 xs0.length rc0)) nO0 1 (.int .i64 xx1_0))
  have xs : (((w1.setCell ⟨GO, 0, none⟩ (.slice ra0 xs0.length rc0)).setCell ⟨GO, 1, none⟩ (.int .i64 xx1_0))).heap.size = w1.heap.size := by simp [size_sets]
  generalize ((w1.setCell ⟨GO, 0, none⟩ (.slice ra0 xs0.length rc0)).setCell ⟨GO, 1, none⟩ (.int .i64 xx1_0)) = V1 at xO xA xR xW xs xq0 ⊢
  have HOV1 := Lib.hid xO
  have HAV1 := Lib.hid xA
  have HRV1 := Lib.hid xR
  have HWV1 := Lib.hid xW
  have HZV1 := Lib.hid xs
  have HqV1_0 := Lib.hid xq0
  clear xO xA xR xW xs xq0
  clear ca1 ca2 ca3 ca4 ca5 fz ko0 ko1
  ((with_reducible refine (to_Box xx2_0 xx2_1 xx2_2 xx2_3 _).mono ?_); rintro e w2 ⟨rfl, bb⟩)
  have HAw2 := Lib.hid (HAV1.out.keep bb)
  have HOw2 := Lib.hid (HOV1.out.keep bb)
  have HRw2 := Lib.hid (HRV1.out.keep bb)
  have HWw2 := Lib.hid (on_of HWV1.out bb)
  have Hqw2_0 := Lib.hid ((HqV1_0.out).under bb)
  have sz1 := bb.size
  clear bb
  have fz := HOw2.out.2.1
  have ko2 := HOw2.out.1 2 (.int .i64 0) (by simp)
  have ko3 := HOw2.out.1 3 (.int .i64 0) (by simp)
  have ko4 := HOw2.out.1 4 (.int .i64 0) (by simp)
  have ko5 := HOw2.out.1 5 (.int .i64 0) (by simp)
  go_wp2_with fail
  have xO := (show Blk ((((w2.setCell ⟨GO, 2, none⟩ (.int .i64 xx2_0)).setCell ⟨GO, 3, none⟩ (.int .i64 xx2_1)).setCell ⟨GO, 4, none⟩ (.int .i64 xx2_2)).setCell ⟨GO, 5, none⟩ (.int .i64 xx2_3)) GO (.slice ra0 xs0.length rc0 :: (.int .i64 xx1_0 :: (.int .i64 xx2_0 :: (.int .i64 xx2_1 :: (.int .i64 xx2_2 :: (.int .i64 xx2_3 :: ([]))))))) from Blk.put (P := [.slice ra0 xs0.length rc0, .int .i64 xx1_0, .int .i64 xx2_0, .int .i64 xx2_1, .int .i64 xx2_2]) (R := []) (by simpa using (show Blk (((w2.setCell ⟨GO, 2, none⟩ (.int .i64 xx2_0)).setCell ⟨GO, 3, none⟩ (.int .i64 xx2_1)).setCell ⟨GO, 4, none⟩ (.int .i64 xx2_2)) GO (.slice ra0 xs0.length rc0 :: (.int .i64 xx1_0 :: (.int .i64 xx2_0 :: (.int .i64 xx2_1 :: (.int .i64 xx2_2 :: (.int .i64 0 :: ([]))))))) from Blk.put (P := [.slice ra0 xs0.length rc0, .int .i64 xx1_0, .int .i64 xx2_0, .int .i64 xx2_1]) (R := [.int .i64 0]) (by simpa using (show Blk ((w2.setCell ⟨GO, 2, none⟩ (.int .i64 xx2_0)).setCell ⟨GO, 3, none⟩ (.int .i64 xx2_1)) GO (.slice ra0 xs0.length rc0 :: (.int .i64 xx1_0 :: (.int .i64 xx2_0 :: (.int .i64 xx2_1 :: (.int .i64 0 :: (.int .i64 0 :: ([]))))))) from Blk.put (P := [.slice ra0 xs0.length rc0, .int .i64 xx1_0, .int .i64 xx2_0]) (R := [.int .i64 0, .int .i64 0]) (by simpa using (show Blk (w2.setCell ⟨GO, 2, none⟩ (.int .i64 xx2_0)) GO (.slice ra0 xs0.length rc0 :: (.int .i64 xx1_0 :: (.int .i64 xx2_0 :: (.int .i64 0 :: (.int .i64 0 :: (.int .i64 0 :: ([]))))))) from Blk.put (P := [.slice ra0 xs0.length rc0, .int .i64 xx1_0]) (R := [.int .i64 0, .int .i64 0, .int .i64 0]) (by simpa using HOw2.out) rfl (.int .i64 xx2_0))) rfl (.int .i64 xx2_1))) rfl (.int .i64 xx2_2))) rfl (.int .i64 xx2_3))
  have xA := ((((HAw2.out.other nAO 2 (.int .i64 xx2_0)).other nAO 3 (.int .i64 xx2_1)).other nAO 4 (.int .i64 xx2_2)).other nAO 5 (.int .i64 xx2_3))
  have xR := ((((HRw2.out.other nRO 2 (.int .i64 xx2_0)).other nRO 3 (.int .i64 xx2_1)).other nRO 4 (.int .i64 xx2_2)).other nRO 5 (.int .i64 xx2_3))
  have xW := ((((((((HWw2.out).setCell (p := ⟨GO, 2, none⟩) hGO (.int .i64 xx2_0))).setCell (p := ⟨GO, 3, none⟩) hGO (.int .i64 xx2_1))).setCell (p := ⟨GO, 4, none⟩) hGO (.int .i64 xx2_2))).setCell (p := ⟨GO, 5, none⟩) hGO (.int .i64 xx2_3))
  have xq0 := (own_setN (own_setN (own_setN (own_setN (Hqw2_0.out) nO0 2 (.int .i64 xx2_0)) nO0 3 (.int .i64 xx2_1)) nO0 4 (.int .i64 xx2_2)) nO0 5 (.int .i64 xx2_3))
  have xs : (((((w2.setCell ⟨GO, 2, none⟩ (.int .i64 xx2_0)).setCell ⟨GO, 3, none⟩ (.int .i64 xx2_1)).setCell ⟨GO, 4, none⟩ (.int .i64 xx2_2)).setCell ⟨GO, 5, none⟩ (.int .i64 xx2_3))).heap.size = w2.heap.size := by simp [size_sets]
  generalize ((((w2.setCell ⟨GO, 2, none⟩ (.int .i64 xx2_0)).setCell ⟨GO, 3, none⟩ (.int .i64 xx2_1)).setCell ⟨GO, 4, none⟩ (.int .i64 xx2_2)).setCell ⟨GO, 5, none⟩ (.int .i64 xx2_3)) = V2 at xO xA xR xW xs xq0 ⊢
  have HOV2 := Lib.hid xO
  have HAV2 := Lib.hid xA
  have HRV2 := Lib.hid xR
  have HWV2 := Lib.hid xW
  have HZV2 := Lib.hid xs
  have HqV2_0 := Lib.hid xq0
  clear xO xA xR xW xs xq0
  clear fz ko2 ko3 ko4 ko5
  obtain ⟨R, hR⟩ : ∃ R : Array Value, (.slice ra0 xs0.length rc0 :: (.int .i64 xx1_0 :: (.int .i64 xx2_0 :: (.int .i64 xx2_1 :: (.int .i64 xx2_2 :: (.int .i64 xx2_3 :: ([])))))) : List Value).toArray = R := ⟨_, rfl⟩
  have RL : R.toList = .slice ra0 xs0.length rc0 :: (.int .i64 xx1_0 :: (.int .i64 xx2_0 :: (.int .i64 xx2_1 :: (.int .i64 xx2_2 :: (.int .i64 xx2_3 :: ([])))))) := by subst hR; simp
  have lo := hload_run (P := Tryz.prog) (t := 53) Tryz.isAgg53 Tryz.sizeOf53 (w := V2) (b := GO) (o := 0) (us := .slice ra0 xs0.length rc0 :: (.int .i64 xx1_0 :: (.int .i64 xx2_0 :: (.int .i64 xx2_1 :: (.int .i64 xx2_2 :: (.int .i64 xx2_3 :: ([]))))))) (Blk.part (P := []) (R := []) (by simpa using HOV2.out) rfl) (by simp )
  rw [hR] at lo
  have oR : OwnL V2 LObject (.slice ra0 xs0.length rc0 :: (.int .i64 xx1_0 :: (.int .i64 xx2_0 :: (.int .i64 xx2_1 :: (.int .i64 xx2_2 :: (.int .i64 xx2_3 :: ([]))))))) (.sl xs0 :: (.int xx1_0 :: (.int xx2_0 :: (.int xx2_1 :: (.int xx2_2 :: (.int xx2_3 :: ([]))))))) (xF0 ++ ([])) := .cons (cs := [.slice ra0 xs0.length rc0]) (fp := xF0) HqV2_0.out (.cons (cs := [.int .i64 xx1_0]) (fp := []) (.int xx1_0) (.cons (cs := [.int .i64 xx2_0]) (fp := []) (.int xx2_0) (.cons (cs := [.int .i64 xx2_1]) (fp := []) (.int xx2_1) (.cons (cs := [.int .i64 xx2_2]) (fp := []) (.int xx2_2) (.cons (cs := [.int .i64 xx2_3]) (fp := []) (.int xx2_3) (.nil))))))
  have sto := hstore_run (P := Tryz.prog) (t := 53) Tryz.sizeOf53 (w := V2) (b := GR) (o := 0) (A := []) (us := [.slice none 0 0, .int .i64 0, .int .i64 0, .int .i64 0, .int .i64 0, .int .i64 0]) (R := []) (vs := .slice ra0 xs0.length rc0 :: (.int .i64 xx1_0 :: (.int .i64 xx2_0 :: (.int .i64 xx2_1 :: (.int .i64 xx2_2 :: (.int .i64 xx2_3 :: ([]))))))) (by simpa using HRV2.out) rfl (by simp ) (by simp ) (fun v hv => oR.one v hv)
  rw [hR] at sto
  have BR5 := Blk.sets (P := []) (us := [.slice none 0 0, .int .i64 0, .int .i64 0, .int .i64 0, .int .i64 0, .int .i64 0]) (vs := .slice ra0 xs0.length rc0 :: (.int .i64 xx1_0 :: (.int .i64 xx2_0 :: (.int .i64 xx2_1 :: (.int .i64 xx2_2 :: (.int .i64 xx2_3 :: ([]))))))) (R := []) (w := V2) (b := GR) (o := 0) (by simpa using HRV2.out) rfl (by simp )
  have e5 := Below.setCells (b := GR) (by omega) (.slice ra0 xs0.length rc0 :: (.int .i64 xx1_0 :: (.int .i64 xx2_0 :: (.int .i64 xx2_1 :: (.int .i64 xx2_2 :: (.int .i64 xx2_3 :: ([]))))))) 0 HWV2.out
  have o5 := ownL_sets oR (b := GR) (fun x hx => (List.mem_append.1 hx).elim (fun h => nQ0 x h) (fun hx1 => absurd hx1 List.not_mem_nil)) 0 (.slice ra0 xs0.length rc0 :: (.int .i64 xx1_0 :: (.int .i64 xx2_0 :: (.int .i64 xx2_1 :: (.int .i64 xx2_2 :: (.int .i64 xx2_3 :: ([])))))))
  generalize V2.setCells GR 0 (.slice ra0 xs0.length rc0 :: (.int .i64 xx1_0 :: (.int .i64 xx2_0 :: (.int .i64 xx2_1 :: (.int .i64 xx2_2 :: (.int .i64 xx2_3 :: ([]))))))) = V5 at sto BR5 e5 o5
  have re := hload_run (P := Tryz.prog) (t := 53) Tryz.isAgg53 Tryz.sizeOf53 (w := V5) (b := GR) (o := 0) (us := .slice ra0 xs0.length rc0 :: (.int .i64 xx1_0 :: (.int .i64 xx2_0 :: (.int .i64 xx2_1 :: (.int .i64 xx2_2 :: (.int .i64 xx2_3 :: ([]))))))) (Blk.part (P := []) (R := []) (by simpa using BR5) rfl) (by simp )
  rw [hR] at re
  rw [← RL] at o5
  have HF := Lib.hid (And.intro o5 (And.intro e5 re))
  clear oR BR5 e5 o5 re RL hR
  rw [lo]
  go_wp2_with fail
  try (rw [sto]; go_wp2_with fail)
  refine bodyPost_ret (v := .agg R) ?_ rfl ⟨R, _, rfl, HF.out.1, ?_, ?_, HF.out.2.1⟩
  · exact results_h Tryz.results22 (by rfl) HF.out.2.2
  · have hall : ∀ (i j : Nat), True := fun _ _ => trivial
    have n1 : ([] : List Nat).Nodup := List.nodup_nil
    have n0 : (xF0 ++ ([])).Nodup := List.nodup_append.2 ⟨nd0, n1, fun x hx y hy e => by have a1 := lt0 x hx; have a2 := (show ∀ y ∈ [], x < y from fun y hx => absurd hx List.not_mem_nil) y hy; omega⟩
    exact n0
  · intro b hx
    exact (List.mem_append.1 hx).elim (fun h => (fun h => by have := ge0 b h; have := HZV1.out; omega) h) (fun hx1 => absurd hx1 List.not_mem_nil)
end Go.Proofs.YtbdjnfnphilklaaGreat.Own
namespace Go.Proofs.YtbdjnfnphilklaaGreat.Own
open Go.ChangeShapes Go.WideShapes Go.ChangeAt Go.RowKit
open Kit Slabs
set_option linter.unusedVariables false
set_option linter.unusedSimpArgs false
set_option linter.unnecessarySimpa false
abbrev LBand : List Kd := [.int, .int, .sl (.sl .int), .sl KObject]
abbrev KBand : Kd := .st LBand
theorem inv_Band {w : World} {cs : List Value} {ds : List Dt} {fp : List Nat} (h : OwnL w LBand cs ds fp) : ∃ (xa2 : Option Addr) (xc2 : Nat) (xa3 : Option Addr) (xc3 : Nat) (xx0_0 : Int) (xx1_0 : Int) (xs2 : List Dt) (xs3 : List Dt) (xF2 : List Nat) (xF3 : List Nat), cs = .int .i64 xx0_0 :: (.int .i64 xx1_0 :: (.slice xa2 xs2.length xc2 :: (.slice xa3 xs3.length xc3 :: ([])))) ∧ ds = .int xx0_0 :: (.int xx1_0 :: (.sl xs2 :: (.sl xs3 :: ([])))) ∧ fp = xF2 ++ (xF3 ++ ([])) ∧ Own w (.sl (.sl .int)) [.slice xa2 xs2.length xc2] (.sl xs2) xF2 ∧ Own w (.sl KObject) [.slice xa3 xs3.length xc3] (.sl xs3) xF3 := by
  obtain ⟨xx0_0, r1, d1, rfl, rfl, h1⟩ := OwnL.int h
  obtain ⟨xx1_0, r2, d2, rfl, rfl, h2⟩ := OwnL.int h1
  obtain ⟨xa2, xc2, xs2, xF2, r3, d3, q3, rfl, rfl, rfl, ox2, h3⟩ := OwnL.sl h2
  obtain ⟨xa3, xc3, xs3, xF3, r4, d4, q4, rfl, rfl, rfl, ox3, h4⟩ := OwnL.sl h3
  obtain ⟨rfl, rfl, rfl⟩ := OwnL.end_ h4
  exact ⟨xa2, xc2, xa3, xc3, xx0_0, xx1_0, xs2, xs3, xF2, xF3, rfl, rfl, rfl, ox2, ox3⟩
theorem inv_Band_ {w : World} {cs : List Value} {fp : List Nat} {xx0_0 : Int} {xx1_0 : Int} {xs2 : List Dt} {xs3 : List Dt}  (h : OwnL w LBand cs (.int xx0_0 :: (.int xx1_0 :: (.sl xs2 :: (.sl xs3 :: ([]))))) fp) : ∃ (ya2 : Option Addr) (yc2 : Nat) (ya3 : Option Addr) (yc3 : Nat) (yF2 : List Nat) (yF3 : List Nat), cs = .int .i64 xx0_0 :: (.int .i64 xx1_0 :: (.slice ya2 xs2.length yc2 :: (.slice ya3 xs3.length yc3 :: ([])))) ∧ fp = yF2 ++ (yF3 ++ ([])) ∧ Own w (.sl (.sl .int)) [.slice ya2 xs2.length yc2] (.sl xs2) yF2 ∧ Own w (.sl KObject) [.slice ya3 xs3.length yc3] (.sl xs3) yF3 := by
  obtain ⟨r1, rfl, h1⟩ := OwnL.int_ h
  obtain ⟨r2, rfl, h2⟩ := OwnL.int_ h1
  obtain ⟨ya2, yc2, yF2, r3, q3, rfl, rfl, oy2, h3⟩ := OwnL.sl_ h2
  obtain ⟨ya3, yc3, yF3, r4, q4, rfl, rfl, oy3, h4⟩ := OwnL.sl_ h3
  obtain ⟨rfl, _, rfl⟩ := OwnL.end_ h4
  exact ⟨ya2, yc2, ya3, yc3, yF2, yF3, rfl, rfl, oy2, oy3⟩
theorem invC_Band {w : World} {cs : List Value} {ds : List Dt} (h : CameL w LBand cs ds) : ∃ (xa2 : Option Addr) (xc2 : Nat) (xa3 : Option Addr) (xc3 : Nat) (xx0_0 : Int) (xx1_0 : Int) (xs2 : List Dt) (xs3 : List Dt), cs = .int .i64 xx0_0 :: (.int .i64 xx1_0 :: (.slice xa2 xs2.length xc2 :: (.slice xa3 xs3.length xc3 :: ([])))) ∧ ds = .int xx0_0 :: (.int xx1_0 :: (.sl xs2 :: (.sl xs3 :: ([])))) ∧ (Came w (.sl (.sl .int)) [.slice xa2 xs2.length xc2] (.sl xs2) ∧ xs2.length ≤ maxLen) ∧ (Came w (.sl KObject) [.slice xa3 xs3.length xc3] (.sl xs3) ∧ xs3.length ≤ maxLen) := by
  obtain ⟨xx0_0, r1, d1, rfl, rfl, _, h1⟩ := CameL.int h
  obtain ⟨xx1_0, r2, d2, rfl, rfl, _, h2⟩ := CameL.int h1
  obtain ⟨xa2, xc2, xs2, r3, d3, rfl, rfl, m3, ox2, h3⟩ := CameL.sl h2
  obtain ⟨xa3, xc3, xs3, r4, d4, rfl, rfl, m4, ox3, h4⟩ := CameL.sl h3
  obtain ⟨rfl, rfl⟩ := CameL.end_ h4
  exact ⟨xa2, xc2, xa3, xc3, xx0_0, xx1_0, xs2, xs3, rfl, rfl, ⟨ox2, m3⟩, ⟨ox3, m4⟩⟩
theorem hload_Band (a : Addr) : loadVar 27 a = hload 27 a := hload_of _ _
theorem hloadL_Band (a : Addr) : loadVar 36 a = hload 36 a := hload_of _ _
theorem hstore_Band (a : Addr) (v : Value) : storeVar 27 a v = hstore 27 a v := hstore_of _ _ _
end Go.Proofs.YtbdjnfnphilklaaGreat.Own
