/-
  Texts of this seat, laid together: ToA
-/
import Derived.WalkKit
import Derived.Deep.DeepCutAuto
import Derived.Deep.QuietTactic
import Derived.BigQuiet
import Derived.Deep.RegionHeld3
import Derived.Handy
import Derived.Test.YtjmfgbbngocodaaGreatZ09
namespace Go.Proofs.YtjmfgbbngocodaaGreat.Own
open Go.ChangeShapes Go.WideShapes Go.ChangeAt Go.RowKit
open Kit Slabs Ints
set_option linter.unusedVariables false
set_option linter.unusedSimpArgs false
set_option linter.unnecessarySimpa false
set_option maxRecDepth 100000
attribute [local go_sem ↓] hload_Graphics
attribute [local go_sem ↓] hload_Object
attribute [local go_sem ↓] hstore_Graphics
attribute [local go_sem ↓] hstore_Object
theorem to_Turn (xx0_0 : Int) (xx1_0 : Int) (xx2_0 : Int) (xx3_0 : Int) (w : World) : Calls Tryz.prog 72 #[.agg #[.int .i64 xx0_0, .int .i64 xx1_0, .int .i64 xx2_0, .int .i64 xx3_0]] w fun e w' => e = .returned (.agg #[.int .i64 xx0_0, .int .i64 xx1_0, .int .i64 xx2_0, .int .i64 xx3_0]) ∧ Below w.heap.size w w' := by
  go_enter Tryz.func72, Tryz.ntmps72
  go_wp2
  go_returns
  exact ⟨rfl, by go_grown⟩
theorem to_Box (xx0_0 : Int) (xx1_0 : Int) (xx2_0 : Int) (xx3_0 : Int) (w : World) : Calls Tryz.prog 74 #[.agg #[.int .i64 xx0_0, .int .i64 xx1_0, .int .i64 xx2_0, .int .i64 xx3_0]] w fun e w' => e = .returned (.agg #[.int .i64 xx0_0, .int .i64 xx1_0, .int .i64 xx2_0, .int .i64 xx3_0]) ∧ Below w.heap.size w w' := by
  go_enter Tryz.func74, Tryz.ntmps74
  go_wp2
  go_returns
  exact ⟨rfl, by go_grown⟩
set_option maxHeartbeats 8000000 in
theorem to_Object (w : World) {A : Array Value} {ds : List Dt} (hb : bulkL ds ≤ 1048576) (h : CameL w LObject A.toList ds) :
    Calls Tryz.prog 75 #[.agg A] w fun e w' => ∃ (R : Array Value) (fp : List Nat), e = .returned (.agg R) ∧ OwnL w' LObject R.toList ds fp ∧ fp.Nodup ∧ (∀ b ∈ fp, w.heap.size ≤ b) ∧ Below w.heap.size w w' := by
  obtain ⟨xa0, xc0, xs0, xx1_0, xx2_0, xx2_1, xx2_2, xx2_3, hA, rfl, ⟨ox0, mox0⟩⟩ := invC_Object h
  simp only [bulkL_app, bulkL, Dt.bulk] at hb
  have BA : Blk (((w.alloc (.cells A 97)).alloc (.cells #[.slice none 0 0, .int .i64 0, .int .i64 0, .int .i64 0, .int .i64 0, .int .i64 0] 101)).alloc (.cells #[.slice none 0 0, .int .i64 0, .int .i64 0, .int .i64 0, .int .i64 0, .int .i64 0] 101)) w.heap.size A.toList := ((Blk.new w A 97 rfl).alloc _).alloc _
  have BR : Blk (((w.alloc (.cells A 97)).alloc (.cells #[.slice none 0 0, .int .i64 0, .int .i64 0, .int .i64 0, .int .i64 0, .int .i64 0] 101)).alloc (.cells #[.slice none 0 0, .int .i64 0, .int .i64 0, .int .i64 0, .int .i64 0, .int .i64 0] 101)) (w.heap.size + 1) [.slice none 0 0, .int .i64 0, .int .i64 0, .int .i64 0, .int .i64 0, .int .i64 0] := (Blk.new _ #[.slice none 0 0, .int .i64 0, .int .i64 0, .int .i64 0, .int .i64 0, .int .i64 0] 101 (by simp)).alloc _
  have BO : Blk (((w.alloc (.cells A 97)).alloc (.cells #[.slice none 0 0, .int .i64 0, .int .i64 0, .int .i64 0, .int .i64 0, .int .i64 0] 101)).alloc (.cells #[.slice none 0 0, .int .i64 0, .int .i64 0, .int .i64 0, .int .i64 0, .int .i64 0] 101)) (w.heap.size + 1 + 1) [.slice none 0 0, .int .i64 0, .int .i64 0, .int .i64 0, .int .i64 0, .int .i64 0] := Blk.new _ #[.slice none 0 0, .int .i64 0, .int .i64 0, .int .i64 0, .int .i64 0, .int .i64 0] 101 (by simp)
  have hW : Below w.heap.size w (((w.alloc (.cells A 97)).alloc (.cells #[.slice none 0 0, .int .i64 0, .int .i64 0, .int .i64 0, .int .i64 0, .int .i64 0] 101)).alloc (.cells #[.slice none 0 0, .int .i64 0, .int .i64 0, .int .i64 0, .int .i64 0, .int .i64 0] 101)) := by go_grown
  have hsz : (((w.alloc (.cells A 97)).alloc (.cells #[.slice none 0 0, .int .i64 0, .int .i64 0, .int .i64 0, .int .i64 0, .int .i64 0] 101)).alloc (.cells #[.slice none 0 0, .int .i64 0, .int .i64 0, .int .i64 0, .int .i64 0, .int .i64 0] 101)).heap.size = w.heap.size + 3 := by simp
  rw [hA] at BA
  have HC := Lib.hid (ox0)
  have HA0 := Lib.hid BA
  have HR0 := Lib.hid BR
  have HO0 := Lib.hid BO
  have HW0 := Lib.hid hW
  have HZ0 := Lib.hid hsz
  have ca0 : A[0]? = some (.slice xa0 xs0.length xc0) := by rw [← Array.getElem?_toList, hA]; rfl
  clear ox0 hA BA BR BO hW hsz h
  go_enter Tryz.func75, Tryz.ntmps75
  go_wp2_with fail
  obtain ⟨W0, hW0⟩ : ∃ W, W = ((w.alloc (.cells A 97)).alloc (.cells #[.slice none 0 0, .int .i64 0, .int .i64 0, .int .i64 0, .int .i64 0, .int .i64 0] 101)).alloc (.cells #[.slice none 0 0, .int .i64 0, .int .i64 0, .int .i64 0, .int .i64 0, .int .i64 0] 101) := ⟨_, rfl⟩
  rw [← hW0] at HA0 HR0 HO0 HW0 HZ0 ⊢
  obtain ⟨GA, hGA⟩ : ∃ g, w.heap.size = g := ⟨_, rfl⟩
  obtain ⟨GR, hGR⟩ : ∃ g, w.heap.size + 1 = g := ⟨_, rfl⟩
  obtain ⟨GO, hGO_⟩ : ∃ g, w.heap.size + 1 + 1 = g := ⟨_, rfl⟩
  rw [hGO_] at HO0 ⊢
  rw [hGR] at HR0 ⊢
  have HA0 := Lib.hid (show Blk W0 GA _ from hGA ▸ HA0.out)
  try simp only [hGA]
  have nAO : GO ≠ GA := by omega
  have nRO : GO ≠ GR := by omega
  have hGO : w.heap.size ≤ GO := by omega
  have zO : GO < W0.heap.size := by have := HZ0.out; omega
  have zR : GR < W0.heap.size := by have := HZ0.out; omega
  clear hW0 ca0
  ((with_reducible refine (toP_came _ _ _ _ _ (by omega) ((HC.out).on HW0.out)).mono ?_); rintro e w1 ⟨ra0, rc0, xF0, rfl, oo, nd0, ge0, bb⟩)
  have HAw1 := Lib.hid (HA0.out.keep bb)
  have HOw1 := Lib.hid (HO0.out.keep bb)
  have HRw1 := Lib.hid (HR0.out.keep bb)
  have HWw1 := Lib.hid (on_of HW0.out bb)
  have sz0 := bb.size
  have Hqw1_0 := Lib.hid oo
  have lt0 : ∀ b ∈ xF0, b < w1.heap.size := oo.lt
  have nO0 : GO ∉ xF0 := fun hb => by have := ge0 _ hb;  omega
  have nR0 : GR ∉ xF0 := fun hb => by have := ge0 _ hb;  omega
  have nP0 : ∀ b ∈ xF0, b ≠ GO := fun b hb e => nO0 (e ▸ hb)
  have nQ0 : ∀ b ∈ xF0, b ≠ GR := fun b hb e => nR0 (e ▸ hb)
  clear oo bb
  have ca1 := HAw1.out.1 1 (.int .i64 xx1_0) (by rfl)
  have ca2 := HAw1.out.1 2 (.int .i64 xx2_0) (by rfl)
  have ca3 := HAw1.out.1 3 (.int .i64 xx2_1) (by rfl)
  have ca4 := HAw1.out.1 4 (.int .i64 xx2_2) (by rfl)
  have ca5 := HAw1.out.1 5 (.int .i64 xx2_3) (by rfl)
  have fz := HOw1.out.2.1
  have ko0 := HOw1.out.1 0 (.slice none 0 0) (by simp)
  have ko1 := HOw1.out.1 1 (.int .i64 0) (by simp)
  go_wp2_with fail
  have xO := (show Blk ((w1.setCell ⟨GO, 0, none⟩ (.slice ra0 xs0.length rc0)).setCell ⟨GO, 1, none⟩ (.int .i64 xx1_0)) GO (.slice ra0 xs0.length rc0 :: (.int .i64 xx1_0 :: (.int .i64 0 :: (.int .i64 0 :: (.int .i64 0 :: (.int .i64 0 :: ([]))))))) from Blk.put (P := [.slice ra0 xs0.length rc0]) (R := [.int .i64 0, .int .i64 0, .int .i64 0, .int .i64 0]) (by simpa using (show Blk (w1.setCell ⟨GO, 0, none⟩ (.slice ra0 xs0.length rc0)) GO (.slice ra0 xs0.length rc0 :: (.int .i64 0 :: (.int .i64 0 :: (.int .i64 0 :: (.int .i64 0 :: (.int .i64 0 :: ([]))))))) from Blk.put (P := []) (R := [.int .i64 0, .int .i64 0, .int .i64 0, .int .i64 0, .int .i64 0]) (by simpa using HOw1.out) rfl (.slice ra0 xs0.length rc0))) rfl (.int .i64 xx1_0))
  have xA := ((HAw1.out.other nAO 0 (.slice ra0 xs0.length rc0)).other nAO 1 (.int .i64 xx1_0))
  have xR := ((HRw1.out.other nRO 0 (.slice ra0 xs0.length rc0)).other nRO 1 (.int .i64 xx1_0))
  have xW := ((((HWw1.out).setCell (p := ⟨GO, 0, none⟩) hGO (.slice ra0 xs0.length rc0))).setCell (p := ⟨GO, 1, none⟩) hGO (.int .i64 xx1_0))
  have xq0 := (own_setN (own_setN (Hqw1_0.out) nO0 0 (.slice ra0 xs0.length rc0)) nO0 1 (.int .i64 xx1_0))
  have xs : (((w1.setCell ⟨GO, 0, none⟩ (.slice ra0 xs0.length rc0)).setCell ⟨GO, 1, none⟩ (.int .i64 xx1_0))).heap.size = w1.heap.size := by simp [size_sets]
  generalize ((w1.setCell ⟨GO, 0, none⟩ (.slice ra0 xs0.length rc0)).setCell ⟨GO, 1, none⟩ (.int .i64 xx1_0)) = V1 at xO xA xR xW xs xq0 ⊢
  have HOV1 := Lib.hid xO
  have HAV1 := Lib.hid xA
  have HRV1 := Lib.hid xR
  have HWV1 := Lib.hid xW
  have HZV1 := Lib.hid xs
  have HqV1_0 := Lib.hid xq0
  clear xO xA xR xW xs xq0
  clear ca1 ca2 ca3 ca4 ca5 fz ko0 ko1
  ((with_reducible refine (to_Box xx2_0 xx2_1 xx2_2 xx2_3 _).mono ?_); rintro e w2 ⟨rfl, bb⟩)
  have HAw2 := Lib.hid (HAV1.out.keep bb)
  have HOw2 := Lib.hid (HOV1.out.keep bb)
  have HRw2 := Lib.hid (HRV1.out.keep bb)
  have HWw2 := Lib.hid (on_of HWV1.out bb)
  have Hqw2_0 := Lib.hid ((HqV1_0.out).under bb)
  have sz1 := bb.size
  clear bb
  have fz := HOw2.out.2.1
  have ko2 := HOw2.out.1 2 (.int .i64 0) (by simp)
  have ko3 := HOw2.out.1 3 (.int .i64 0) (by simp)
  have ko4 := HOw2.out.1 4 (.int .i64 0) (by simp)
  have ko5 := HOw2.out.1 5 (.int .i64 0) (by simp)
  go_wp2_with fail
  have xO := (show Blk ((((w2.setCell ⟨GO, 2, none⟩ (.int .i64 xx2_0)).setCell ⟨GO, 3, none⟩ (.int .i64 xx2_1)).setCell ⟨GO, 4, none⟩ (.int .i64 xx2_2)).setCell ⟨GO, 5, none⟩ (.int .i64 xx2_3)) GO (.slice ra0 xs0.length rc0 :: (.int .i64 xx1_0 :: (.int .i64 xx2_0 :: (.int .i64 xx2_1 :: (.int .i64 xx2_2 :: (.int .i64 xx2_3 :: ([]))))))) from Blk.put (P := [.slice ra0 xs0.length rc0, .int .i64 xx1_0, .int .i64 xx2_0, .int .i64 xx2_1, .int .i64 xx2_2]) (R := []) (by simpa using (show Blk (((w2.setCell ⟨GO, 2, none⟩ (.int .i64 xx2_0)).setCell ⟨GO, 3, none⟩ (.int .i64 xx2_1)).setCell ⟨GO, 4, none⟩ (.int .i64 xx2_2)) GO (.slice ra0 xs0.length rc0 :: (.int .i64 xx1_0 :: (.int .i64 xx2_0 :: (.int .i64 xx2_1 :: (.int .i64 xx2_2 :: (.int .i64 0 :: ([]))))))) from Blk.put (P := [.slice ra0 xs0.length rc0, .int .i64 xx1_0, .int .i64 xx2_0, .int .i64 xx2_1]) (R := [.int .i64 0]) (by simpa using (show Blk ((w2.setCell ⟨GO, 2, none⟩ (.int .i64 xx2_0)).setCell ⟨GO, 3, none⟩ (.int .i64 xx2_1)) GO (.slice ra0 xs0.length rc0 :: (.int .i64 xx1_0 :: (.int .i64 xx2_0 :: (.int .i64 xx2_1 :: (.int .i64 0 :: (.int .i64 0 :: ([]))))))) from Blk.put (P := [.slice ra0 xs0.length rc0, .int .i64 xx1_0, .int .i64 xx2_0]) (R := [.int .i64 0, .int .i64 0]) (by simpa using (show Blk (w2.setCell ⟨GO, 2, none⟩ (.int .i64 xx2_0)) GO (.slice ra0 xs0.length rc0 :: (.int .i64 xx1_0 :: (.int .i64 xx2_0 :: (.int .i64 0 :: (.int .i64 0 :: (.int .i64 0 :: ([]))))))) from Blk.put (P := [.slice ra0 xs0.length rc0, .int .i64 xx1_0]) (R := [.int .i64 0, .int .i64 0, .int .i64 0]) (by simpa using HOw2.out) rfl (.int .i64 xx2_0))) rfl (.int .i64 xx2_1))) rfl (.int .i64 xx2_2))) rfl (.int .i64 xx2_3))
  have xA := ((((HAw2.out.other nAO 2 (.int .i64 xx2_0)).other nAO 3 (.int .i64 xx2_1)).other nAO 4 (.int .i64 xx2_2)).other nAO 5 (.int .i64 xx2_3))
  have xR := ((((HRw2.out.other nRO 2 (.int .i64 xx2_0)).other nRO 3 (.int .i64 xx2_1)).other nRO 4 (.int .i64 xx2_2)).other nRO 5 (.int .i64 xx2_3))
  have xW := ((((((((HWw2.out).setCell (p := ⟨GO, 2, none⟩) hGO (.int .i64 xx2_0))).setCell (p := ⟨GO, 3, none⟩) hGO (.int .i64 xx2_1))).setCell (p := ⟨GO, 4, none⟩) hGO (.int .i64 xx2_2))).setCell (p := ⟨GO, 5, none⟩) hGO (.int .i64 xx2_3))
  have xq0 := (own_setN (own_setN (own_setN (own_setN (Hqw2_0.out) nO0 2 (.int .i64 xx2_0)) nO0 3 (.int .i64 xx2_1)) nO0 4 (.int .i64 xx2_2)) nO0 5 (.int .i64 xx2_3))
  have xs : (((((w2.setCell ⟨GO, 2, none⟩ (.int .i64 xx2_0)).setCell ⟨GO, 3, none⟩ (.int .i64 xx2_1)).setCell ⟨GO, 4, none⟩ (.int .i64 xx2_2)).setCell ⟨GO, 5, none⟩ (.int .i64 xx2_3))).heap.size = w2.heap.size := by simp [size_sets]
  generalize ((((w2.setCell ⟨GO, 2, none⟩ (.int .i64 xx2_0)).setCell ⟨GO, 3, none⟩ (.int .i64 xx2_1)).setCell ⟨GO, 4, none⟩ (.int .i64 xx2_2)).setCell ⟨GO, 5, none⟩ (.int .i64 xx2_3)) = V2 at xO xA xR xW xs xq0 ⊢
  have HOV2 := Lib.hid xO
  have HAV2 := Lib.hid xA
  have HRV2 := Lib.hid xR
  have HWV2 := Lib.hid xW
  have HZV2 := Lib.hid xs
  have HqV2_0 := Lib.hid xq0
  clear xO xA xR xW xs xq0
  clear fz ko2 ko3 ko4 ko5
  obtain ⟨R, hR⟩ : ∃ R : Array Value, (.slice ra0 xs0.length rc0 :: (.int .i64 xx1_0 :: (.int .i64 xx2_0 :: (.int .i64 xx2_1 :: (.int .i64 xx2_2 :: (.int .i64 xx2_3 :: ([])))))) : List Value).toArray = R := ⟨_, rfl⟩
  have RL : R.toList = .slice ra0 xs0.length rc0 :: (.int .i64 xx1_0 :: (.int .i64 xx2_0 :: (.int .i64 xx2_1 :: (.int .i64 xx2_2 :: (.int .i64 xx2_3 :: ([])))))) := by subst hR; simp
  have lo := hload_run (P := Tryz.prog) (t := 101) Tryz.isAgg101 Tryz.sizeOf101 (w := V2) (b := GO) (o := 0) (us := .slice ra0 xs0.length rc0 :: (.int .i64 xx1_0 :: (.int .i64 xx2_0 :: (.int .i64 xx2_1 :: (.int .i64 xx2_2 :: (.int .i64 xx2_3 :: ([]))))))) (Blk.part (P := []) (R := []) (by simpa using HOV2.out) rfl) (by simp )
  rw [hR] at lo
  have oR : OwnL V2 LObject (.slice ra0 xs0.length rc0 :: (.int .i64 xx1_0 :: (.int .i64 xx2_0 :: (.int .i64 xx2_1 :: (.int .i64 xx2_2 :: (.int .i64 xx2_3 :: ([]))))))) (.sl xs0 :: (.int xx1_0 :: (.int xx2_0 :: (.int xx2_1 :: (.int xx2_2 :: (.int xx2_3 :: ([]))))))) (xF0 ++ ([])) := .cons (cs := [.slice ra0 xs0.length rc0]) (fp := xF0) HqV2_0.out (.cons (cs := [.int .i64 xx1_0]) (fp := []) (.int xx1_0) (.cons (cs := [.int .i64 xx2_0]) (fp := []) (.int xx2_0) (.cons (cs := [.int .i64 xx2_1]) (fp := []) (.int xx2_1) (.cons (cs := [.int .i64 xx2_2]) (fp := []) (.int xx2_2) (.cons (cs := [.int .i64 xx2_3]) (fp := []) (.int xx2_3) (.nil))))))
  have sto := hstore_run (P := Tryz.prog) (t := 101) Tryz.sizeOf101 (w := V2) (b := GR) (o := 0) (A := []) (us := [.slice none 0 0, .int .i64 0, .int .i64 0, .int .i64 0, .int .i64 0, .int .i64 0]) (R := []) (vs := .slice ra0 xs0.length rc0 :: (.int .i64 xx1_0 :: (.int .i64 xx2_0 :: (.int .i64 xx2_1 :: (.int .i64 xx2_2 :: (.int .i64 xx2_3 :: ([]))))))) (by simpa using HRV2.out) rfl (by simp ) (by simp ) (fun v hv => oR.one v hv)
  rw [hR] at sto
  have BR5 := Blk.sets (P := []) (us := [.slice none 0 0, .int .i64 0, .int .i64 0, .int .i64 0, .int .i64 0, .int .i64 0]) (vs := .slice ra0 xs0.length rc0 :: (.int .i64 xx1_0 :: (.int .i64 xx2_0 :: (.int .i64 xx2_1 :: (.int .i64 xx2_2 :: (.int .i64 xx2_3 :: ([]))))))) (R := []) (w := V2) (b := GR) (o := 0) (by simpa using HRV2.out) rfl (by simp )
  have e5 := Below.setCells (b := GR) (by omega) (.slice ra0 xs0.length rc0 :: (.int .i64 xx1_0 :: (.int .i64 xx2_0 :: (.int .i64 xx2_1 :: (.int .i64 xx2_2 :: (.int .i64 xx2_3 :: ([]))))))) 0 HWV2.out
  have o5 := ownL_sets oR (b := GR) (fun x hx => (List.mem_append.1 hx).elim (fun h => nQ0 x h) (fun hx1 => absurd hx1 List.not_mem_nil)) 0 (.slice ra0 xs0.length rc0 :: (.int .i64 xx1_0 :: (.int .i64 xx2_0 :: (.int .i64 xx2_1 :: (.int .i64 xx2_2 :: (.int .i64 xx2_3 :: ([])))))))
  generalize V2.setCells GR 0 (.slice ra0 xs0.length rc0 :: (.int .i64 xx1_0 :: (.int .i64 xx2_0 :: (.int .i64 xx2_1 :: (.int .i64 xx2_2 :: (.int .i64 xx2_3 :: ([]))))))) = V5 at sto BR5 e5 o5
  have re := hload_run (P := Tryz.prog) (t := 101) Tryz.isAgg101 Tryz.sizeOf101 (w := V5) (b := GR) (o := 0) (us := .slice ra0 xs0.length rc0 :: (.int .i64 xx1_0 :: (.int .i64 xx2_0 :: (.int .i64 xx2_1 :: (.int .i64 xx2_2 :: (.int .i64 xx2_3 :: ([]))))))) (Blk.part (P := []) (R := []) (by simpa using BR5) rfl) (by simp )
  rw [hR] at re
  rw [← RL] at o5
  have HF := Lib.hid (And.intro o5 (And.intro e5 re))
  clear oR BR5 e5 o5 re RL hR
  rw [lo]
  go_wp2_with fail
  try (rw [sto]; go_wp2_with fail)
  refine bodyPost_ret (v := .agg R) ?_ rfl ⟨R, _, rfl, HF.out.1, ?_, ?_, HF.out.2.1⟩
  · exact results_h Tryz.results75 (by rfl) HF.out.2.2
  · have hall : ∀ (i j : Nat), True := fun _ _ => trivial
    have n1 : ([] : List Nat).Nodup := List.nodup_nil
    have n0 : (xF0 ++ ([])).Nodup := List.nodup_append.2 ⟨nd0, n1, fun x hx y hy e => by have a1 := lt0 x hx; have a2 := (show ∀ y ∈ [], x < y from fun y hx => absurd hx List.not_mem_nil) y hy; omega⟩
    exact n0
  · intro b hx
    exact (List.mem_append.1 hx).elim (fun h => (fun h => by have := ge0 b h; have := HZV1.out; omega) h) (fun hx1 => absurd hx1 List.not_mem_nil)
set_option maxHeartbeats 8000000 in
theorem to_Graphics (w : World) {A : Array Value} {ds : List Dt} (hb : bulkL ds ≤ 1048576) (h : CameL w LGraphics A.toList ds) :
    Calls Tryz.prog 33 #[.agg A] w fun e w' => ∃ (R : Array Value) (fp : List Nat), e = .returned (.agg R) ∧ OwnL w' LGraphics R.toList ds fp ∧ fp.Nodup ∧ (∀ b ∈ fp, w.heap.size ≤ b) ∧ Below w.heap.size w w' := by
  obtain ⟨xa0, xc0, xa5, xc5, xs0, xx1_0, xx1_1, xx1_2, xx1_3, xs5, xx6_0, xx7_0, xx7_1, xx7_2, xx7_3, hA, rfl, ⟨ox0, mox0⟩, ⟨ox5, mox5⟩⟩ := invC_Graphics h
  simp only [bulkL_app, bulkL, Dt.bulk] at hb
  have BA : Blk (((w.alloc (.cells A 29)).alloc (.cells #[.slice none 0 0, .int .i64 0, .int .i64 0, .int .i64 0, .int .i64 0, .slice none 0 0, .int .i64 0, .int .i64 0, .int .i64 0, .int .i64 0, .int .i64 0] 42)).alloc (.cells #[.slice none 0 0, .int .i64 0, .int .i64 0, .int .i64 0, .int .i64 0, .slice none 0 0, .int .i64 0, .int .i64 0, .int .i64 0, .int .i64 0, .int .i64 0] 42)) w.heap.size A.toList := ((Blk.new w A 29 rfl).alloc _).alloc _
  have BR : Blk (((w.alloc (.cells A 29)).alloc (.cells #[.slice none 0 0, .int .i64 0, .int .i64 0, .int .i64 0, .int .i64 0, .slice none 0 0, .int .i64 0, .int .i64 0, .int .i64 0, .int .i64 0, .int .i64 0] 42)).alloc (.cells #[.slice none 0 0, .int .i64 0, .int .i64 0, .int .i64 0, .int .i64 0, .slice none 0 0, .int .i64 0, .int .i64 0, .int .i64 0, .int .i64 0, .int .i64 0] 42)) (w.heap.size + 1) [.slice none 0 0, .int .i64 0, .int .i64 0, .int .i64 0, .int .i64 0, .slice none 0 0, .int .i64 0, .int .i64 0, .int .i64 0, .int .i64 0, .int .i64 0] := (Blk.new _ #[.slice none 0 0, .int .i64 0, .int .i64 0, .int .i64 0, .int .i64 0, .slice none 0 0, .int .i64 0, .int .i64 0, .int .i64 0, .int .i64 0, .int .i64 0] 42 (by simp)).alloc _
  have BO : Blk (((w.alloc (.cells A 29)).alloc (.cells #[.slice none 0 0, .int .i64 0, .int .i64 0, .int .i64 0, .int .i64 0, .slice none 0 0, .int .i64 0, .int .i64 0, .int .i64 0, .int .i64 0, .int .i64 0] 42)).alloc (.cells #[.slice none 0 0, .int .i64 0, .int .i64 0, .int .i64 0, .int .i64 0, .slice none 0 0, .int .i64 0, .int .i64 0, .int .i64 0, .int .i64 0, .int .i64 0] 42)) (w.heap.size + 1 + 1) [.slice none 0 0, .int .i64 0, .int .i64 0, .int .i64 0, .int .i64 0, .slice none 0 0, .int .i64 0, .int .i64 0, .int .i64 0, .int .i64 0, .int .i64 0] := Blk.new _ #[.slice none 0 0, .int .i64 0, .int .i64 0, .int .i64 0, .int .i64 0, .slice none 0 0, .int .i64 0, .int .i64 0, .int .i64 0, .int .i64 0, .int .i64 0] 42 (by simp)
  have hW : Below w.heap.size w (((w.alloc (.cells A 29)).alloc (.cells #[.slice none 0 0, .int .i64 0, .int .i64 0, .int .i64 0, .int .i64 0, .slice none 0 0, .int .i64 0, .int .i64 0, .int .i64 0, .int .i64 0, .int .i64 0] 42)).alloc (.cells #[.slice none 0 0, .int .i64 0, .int .i64 0, .int .i64 0, .int .i64 0, .slice none 0 0, .int .i64 0, .int .i64 0, .int .i64 0, .int .i64 0, .int .i64 0] 42)) := by go_grown
  have hsz : (((w.alloc (.cells A 29)).alloc (.cells #[.slice none 0 0, .int .i64 0, .int .i64 0, .int .i64 0, .int .i64 0, .slice none 0 0, .int .i64 0, .int .i64 0, .int .i64 0, .int .i64 0, .int .i64 0] 42)).alloc (.cells #[.slice none 0 0, .int .i64 0, .int .i64 0, .int .i64 0, .int .i64 0, .slice none 0 0, .int .i64 0, .int .i64 0, .int .i64 0, .int .i64 0, .int .i64 0] 42)).heap.size = w.heap.size + 3 := by simp
  rw [hA] at BA
  have HC := Lib.hid (And.intro ox0 ox5)
  have HA0 := Lib.hid BA
  have HR0 := Lib.hid BR
  have HO0 := Lib.hid BO
  have HW0 := Lib.hid hW
  have HZ0 := Lib.hid hsz
  have ca0 : A[0]? = some (.slice xa0 xs0.length xc0) := by rw [← Array.getElem?_toList, hA]; rfl
  clear ox0 ox5 hA BA BR BO hW hsz h
  go_enter Tryz.func33, Tryz.ntmps33
  go_wp2_with fail
  obtain ⟨W0, hW0⟩ : ∃ W, W = ((w.alloc (.cells A 29)).alloc (.cells #[.slice none 0 0, .int .i64 0, .int .i64 0, .int .i64 0, .int .i64 0, .slice none 0 0, .int .i64 0, .int .i64 0, .int .i64 0, .int .i64 0, .int .i64 0] 42)).alloc (.cells #[.slice none 0 0, .int .i64 0, .int .i64 0, .int .i64 0, .int .i64 0, .slice none 0 0, .int .i64 0, .int .i64 0, .int .i64 0, .int .i64 0, .int .i64 0] 42) := ⟨_, rfl⟩
  rw [← hW0] at HA0 HR0 HO0 HW0 HZ0 ⊢
  obtain ⟨GA, hGA⟩ : ∃ g, w.heap.size = g := ⟨_, rfl⟩
  obtain ⟨GR, hGR⟩ : ∃ g, w.heap.size + 1 = g := ⟨_, rfl⟩
  obtain ⟨GO, hGO_⟩ : ∃ g, w.heap.size + 1 + 1 = g := ⟨_, rfl⟩
  rw [hGO_] at HO0 ⊢
  rw [hGR] at HR0 ⊢
  have HA0 := Lib.hid (show Blk W0 GA _ from hGA ▸ HA0.out)
  try simp only [hGA]
  have nAO : GO ≠ GA := by omega
  have nRO : GO ≠ GR := by omega
  have hGO : w.heap.size ≤ GO := by omega
  have zO : GO < W0.heap.size := by have := HZ0.out; omega
  have zR : GR < W0.heap.size := by have := HZ0.out; omega
  clear hW0 ca0
  ((with_reducible refine (toI_came _ _ _ _ _ (by omega) ((HC.out.1).on HW0.out)).mono ?_); rintro e w1 ⟨ra0, rc0, xF0, rfl, oo, nd0, ge0, bb⟩)
  have HAw1 := Lib.hid (HA0.out.keep bb)
  have HOw1 := Lib.hid (HO0.out.keep bb)
  have HRw1 := Lib.hid (HR0.out.keep bb)
  have HWw1 := Lib.hid (on_of HW0.out bb)
  have sz0 := bb.size
  have Hqw1_0 := Lib.hid oo
  have lt0 : ∀ b ∈ xF0, b < w1.heap.size := oo.lt
  have nO0 : GO ∉ xF0 := fun hb => by have := ge0 _ hb;  omega
  have nR0 : GR ∉ xF0 := fun hb => by have := ge0 _ hb;  omega
  have nP0 : ∀ b ∈ xF0, b ≠ GO := fun b hb e => nO0 (e ▸ hb)
  have nQ0 : ∀ b ∈ xF0, b ≠ GR := fun b hb e => nR0 (e ▸ hb)
  clear oo bb
  have ca1 := HAw1.out.1 1 (.int .i64 xx1_0) (by rfl)
  have ca2 := HAw1.out.1 2 (.int .i64 xx1_1) (by rfl)
  have ca3 := HAw1.out.1 3 (.int .i64 xx1_2) (by rfl)
  have ca4 := HAw1.out.1 4 (.int .i64 xx1_3) (by rfl)
  have fz := HOw1.out.2.1
  have ko0 := HOw1.out.1 0 (.slice none 0 0) (by simp)
  go_wp2_with fail
  have xO := (show Blk (w1.setCell ⟨GO, 0, none⟩ (.slice ra0 xs0.length rc0)) GO (.slice ra0 xs0.length rc0 :: (.int .i64 0 :: (.int .i64 0 :: (.int .i64 0 :: (.int .i64 0 :: (.slice none 0 0 :: (.int .i64 0 :: (.int .i64 0 :: (.int .i64 0 :: (.int .i64 0 :: (.int .i64 0 :: ([])))))))))))) from Blk.put (P := []) (R := [.int .i64 0, .int .i64 0, .int .i64 0, .int .i64 0, .slice none 0 0, .int .i64 0, .int .i64 0, .int .i64 0, .int .i64 0, .int .i64 0]) (by simpa using HOw1.out) rfl (.slice ra0 xs0.length rc0))
  have xA := (HAw1.out.other nAO 0 (.slice ra0 xs0.length rc0))
  have xR := (HRw1.out.other nRO 0 (.slice ra0 xs0.length rc0))
  have xW := ((HWw1.out).setCell (p := ⟨GO, 0, none⟩) hGO (.slice ra0 xs0.length rc0))
  have xq0 := (own_setN (Hqw1_0.out) nO0 0 (.slice ra0 xs0.length rc0))
  have xs : ((w1.setCell ⟨GO, 0, none⟩ (.slice ra0 xs0.length rc0))).heap.size = w1.heap.size := by simp [size_sets]
  generalize (w1.setCell ⟨GO, 0, none⟩ (.slice ra0 xs0.length rc0)) = V1 at xO xA xR xW xs xq0 ⊢
  have HOV1 := Lib.hid xO
  have HAV1 := Lib.hid xA
  have HRV1 := Lib.hid xR
  have HWV1 := Lib.hid xW
  have HZV1 := Lib.hid xs
  have HqV1_0 := Lib.hid xq0
  clear xO xA xR xW xs xq0
  clear ca1 ca2 ca3 ca4 fz ko0
  ((with_reducible refine (to_Turn xx1_0 xx1_1 xx1_2 xx1_3 _).mono ?_); rintro e w2 ⟨rfl, bb⟩)
  have HAw2 := Lib.hid (HAV1.out.keep bb)
  have HOw2 := Lib.hid (HOV1.out.keep bb)
  have HRw2 := Lib.hid (HRV1.out.keep bb)
  have HWw2 := Lib.hid (on_of HWV1.out bb)
  have Hqw2_0 := Lib.hid ((HqV1_0.out).under bb)
  have sz1 := bb.size
  clear bb
  have ca5 := HAw2.out.1 5 (.slice xa5 xs5.length xc5) (by rfl)
  have fz := HOw2.out.2.1
  have ko1 := HOw2.out.1 1 (.int .i64 0) (by simp)
  have ko2 := HOw2.out.1 2 (.int .i64 0) (by simp)
  have ko3 := HOw2.out.1 3 (.int .i64 0) (by simp)
  have ko4 := HOw2.out.1 4 (.int .i64 0) (by simp)
  go_wp2_with fail
  have xO := (show Blk ((((w2.setCell ⟨GO, 1, none⟩ (.int .i64 xx1_0)).setCell ⟨GO, 2, none⟩ (.int .i64 xx1_1)).setCell ⟨GO, 3, none⟩ (.int .i64 xx1_2)).setCell ⟨GO, 4, none⟩ (.int .i64 xx1_3)) GO (.slice ra0 xs0.length rc0 :: (.int .i64 xx1_0 :: (.int .i64 xx1_1 :: (.int .i64 xx1_2 :: (.int .i64 xx1_3 :: (.slice none 0 0 :: (.int .i64 0 :: (.int .i64 0 :: (.int .i64 0 :: (.int .i64 0 :: (.int .i64 0 :: ([])))))))))))) from Blk.put (P := [.slice ra0 xs0.length rc0, .int .i64 xx1_0, .int .i64 xx1_1, .int .i64 xx1_2]) (R := [.slice none 0 0, .int .i64 0, .int .i64 0, .int .i64 0, .int .i64 0, .int .i64 0]) (by simpa using (show Blk (((w2.setCell ⟨GO, 1, none⟩ (.int .i64 xx1_0)).setCell ⟨GO, 2, none⟩ (.int .i64 xx1_1)).setCell ⟨GO, 3, none⟩ (.int .i64 xx1_2)) GO (.slice ra0 xs0.length rc0 :: (.int .i64 xx1_0 :: (.int .i64 xx1_1 :: (.int .i64 xx1_2 :: (.int .i64 0 :: (.slice none 0 0 :: (.int .i64 0 :: (.int .i64 0 :: (.int .i64 0 :: (.int .i64 0 :: (.int .i64 0 :: ([])))))))))))) from Blk.put (P := [.slice ra0 xs0.length rc0, .int .i64 xx1_0, .int .i64 xx1_1]) (R := [.int .i64 0, .slice none 0 0, .int .i64 0, .int .i64 0, .int .i64 0, .int .i64 0, .int .i64 0]) (by simpa using (show Blk ((w2.setCell ⟨GO, 1, none⟩ (.int .i64 xx1_0)).setCell ⟨GO, 2, none⟩ (.int .i64 xx1_1)) GO (.slice ra0 xs0.length rc0 :: (.int .i64 xx1_0 :: (.int .i64 xx1_1 :: (.int .i64 0 :: (.int .i64 0 :: (.slice none 0 0 :: (.int .i64 0 :: (.int .i64 0 :: (.int .i64 0 :: (.int .i64 0 :: (.int .i64 0 :: ([])))))))))))) from Blk.put (P := [.slice ra0 xs0.length rc0, .int .i64 xx1_0]) (R := [.int .i64 0, .int .i64 0, .slice none 0 0, .int .i64 0, .int .i64 0, .int .i64 0, .int .i64 0, .int .i64 0]) (by simpa using (show Blk (w2.setCell ⟨GO, 1, none⟩ (.int .i64 xx1_0)) GO (.slice ra0 xs0.length rc0 :: (.int .i64 xx1_0 :: (.int .i64 0 :: (.int .i64 0 :: (.int .i64 0 :: (.slice none 0 0 :: (.int .i64 0 :: (.int .i64 0 :: (.int .i64 0 :: (.int .i64 0 :: (.int .i64 0 :: ([])))))))))))) from Blk.put (P := [.slice ra0 xs0.length rc0]) (R := [.int .i64 0, .int .i64 0, .int .i64 0, .slice none 0 0, .int .i64 0, .int .i64 0, .int .i64 0, .int .i64 0, .int .i64 0]) (by simpa using HOw2.out) rfl (.int .i64 xx1_0))) rfl (.int .i64 xx1_1))) rfl (.int .i64 xx1_2))) rfl (.int .i64 xx1_3))
  have xA := ((((HAw2.out.other nAO 1 (.int .i64 xx1_0)).other nAO 2 (.int .i64 xx1_1)).other nAO 3 (.int .i64 xx1_2)).other nAO 4 (.int .i64 xx1_3))
  have xR := ((((HRw2.out.other nRO 1 (.int .i64 xx1_0)).other nRO 2 (.int .i64 xx1_1)).other nRO 3 (.int .i64 xx1_2)).other nRO 4 (.int .i64 xx1_3))
  have xW := ((((((((HWw2.out).setCell (p := ⟨GO, 1, none⟩) hGO (.int .i64 xx1_0))).setCell (p := ⟨GO, 2, none⟩) hGO (.int .i64 xx1_1))).setCell (p := ⟨GO, 3, none⟩) hGO (.int .i64 xx1_2))).setCell (p := ⟨GO, 4, none⟩) hGO (.int .i64 xx1_3))
  have xq0 := (own_setN (own_setN (own_setN (own_setN (Hqw2_0.out) nO0 1 (.int .i64 xx1_0)) nO0 2 (.int .i64 xx1_1)) nO0 3 (.int .i64 xx1_2)) nO0 4 (.int .i64 xx1_3))
  have xs : (((((w2.setCell ⟨GO, 1, none⟩ (.int .i64 xx1_0)).setCell ⟨GO, 2, none⟩ (.int .i64 xx1_1)).setCell ⟨GO, 3, none⟩ (.int .i64 xx1_2)).setCell ⟨GO, 4, none⟩ (.int .i64 xx1_3))).heap.size = w2.heap.size := by simp [size_sets]
  generalize ((((w2.setCell ⟨GO, 1, none⟩ (.int .i64 xx1_0)).setCell ⟨GO, 2, none⟩ (.int .i64 xx1_1)).setCell ⟨GO, 3, none⟩ (.int .i64 xx1_2)).setCell ⟨GO, 4, none⟩ (.int .i64 xx1_3)) = V2 at xO xA xR xW xs xq0 ⊢
  have HOV2 := Lib.hid xO
  have HAV2 := Lib.hid xA
  have HRV2 := Lib.hid xR
  have HWV2 := Lib.hid xW
  have HZV2 := Lib.hid xs
  have HqV2_0 := Lib.hid xq0
  clear xO xA xR xW xs xq0
  clear ca5 fz ko1 ko2 ko3 ko4
  ((with_reducible refine (toP_came _ _ _ _ _ (by omega) ((HC.out.2).on HWV2.out)).mono ?_); rintro e w3 ⟨ra5, rc5, xF5, rfl, oo, nd1, ge1, bb⟩)
  have HAw3 := Lib.hid (HAV2.out.keep bb)
  have HOw3 := Lib.hid (HOV2.out.keep bb)
  have HRw3 := Lib.hid (HRV2.out.keep bb)
  have HWw3 := Lib.hid (on_of HWV2.out bb)
  have Hqw3_0 := Lib.hid ((HqV2_0.out).under bb)
  have sz2 := bb.size
  have Hqw3_1 := Lib.hid oo
  have lt1 : ∀ b ∈ xF5, b < w3.heap.size := oo.lt
  have nO1 : GO ∉ xF5 := fun hb => by have := ge1 _ hb; have := HZV1.out; have := HZV2.out; omega
  have nR1 : GR ∉ xF5 := fun hb => by have := ge1 _ hb; have := HZV1.out; have := HZV2.out; omega
  have nP1 : ∀ b ∈ xF5, b ≠ GO := fun b hb e => nO1 (e ▸ hb)
  have nQ1 : ∀ b ∈ xF5, b ≠ GR := fun b hb e => nR1 (e ▸ hb)
  clear oo bb
  have ca6 := HAw3.out.1 6 (.int .i64 xx6_0) (by rfl)
  have ca7 := HAw3.out.1 7 (.int .i64 xx7_0) (by rfl)
  have ca8 := HAw3.out.1 8 (.int .i64 xx7_1) (by rfl)
  have ca9 := HAw3.out.1 9 (.int .i64 xx7_2) (by rfl)
  have ca10 := HAw3.out.1 10 (.int .i64 xx7_3) (by rfl)
  have fz := HOw3.out.2.1
  have ko5 := HOw3.out.1 5 (.slice none 0 0) (by simp)
  have ko6 := HOw3.out.1 6 (.int .i64 0) (by simp)
  go_wp2_with fail
  have xO := (show Blk ((w3.setCell ⟨GO, 5, none⟩ (.slice ra5 xs5.length rc5)).setCell ⟨GO, 6, none⟩ (.int .i64 xx6_0)) GO (.slice ra0 xs0.length rc0 :: (.int .i64 xx1_0 :: (.int .i64 xx1_1 :: (.int .i64 xx1_2 :: (.int .i64 xx1_3 :: (.slice ra5 xs5.length rc5 :: (.int .i64 xx6_0 :: (.int .i64 0 :: (.int .i64 0 :: (.int .i64 0 :: (.int .i64 0 :: ([])))))))))))) from Blk.put (P := [.slice ra0 xs0.length rc0, .int .i64 xx1_0, .int .i64 xx1_1, .int .i64 xx1_2, .int .i64 xx1_3, .slice ra5 xs5.length rc5]) (R := [.int .i64 0, .int .i64 0, .int .i64 0, .int .i64 0]) (by simpa using (show Blk (w3.setCell ⟨GO, 5, none⟩ (.slice ra5 xs5.length rc5)) GO (.slice ra0 xs0.length rc0 :: (.int .i64 xx1_0 :: (.int .i64 xx1_1 :: (.int .i64 xx1_2 :: (.int .i64 xx1_3 :: (.slice ra5 xs5.length rc5 :: (.int .i64 0 :: (.int .i64 0 :: (.int .i64 0 :: (.int .i64 0 :: (.int .i64 0 :: ([])))))))))))) from Blk.put (P := [.slice ra0 xs0.length rc0, .int .i64 xx1_0, .int .i64 xx1_1, .int .i64 xx1_2, .int .i64 xx1_3]) (R := [.int .i64 0, .int .i64 0, .int .i64 0, .int .i64 0, .int .i64 0]) (by simpa using HOw3.out) rfl (.slice ra5 xs5.length rc5))) rfl (.int .i64 xx6_0))
  have xA := ((HAw3.out.other nAO 5 (.slice ra5 xs5.length rc5)).other nAO 6 (.int .i64 xx6_0))
  have xR := ((HRw3.out.other nRO 5 (.slice ra5 xs5.length rc5)).other nRO 6 (.int .i64 xx6_0))
  have xW := ((((HWw3.out).setCell (p := ⟨GO, 5, none⟩) hGO (.slice ra5 xs5.length rc5))).setCell (p := ⟨GO, 6, none⟩) hGO (.int .i64 xx6_0))
  have xq0 := (own_setN (own_setN (Hqw3_0.out) nO0 5 (.slice ra5 xs5.length rc5)) nO0 6 (.int .i64 xx6_0))
  have xq1 := (own_setN (own_setN (Hqw3_1.out) nO1 5 (.slice ra5 xs5.length rc5)) nO1 6 (.int .i64 xx6_0))
  have xs : (((w3.setCell ⟨GO, 5, none⟩ (.slice ra5 xs5.length rc5)).setCell ⟨GO, 6, none⟩ (.int .i64 xx6_0))).heap.size = w3.heap.size := by simp [size_sets]
  generalize ((w3.setCell ⟨GO, 5, none⟩ (.slice ra5 xs5.length rc5)).setCell ⟨GO, 6, none⟩ (.int .i64 xx6_0)) = V3 at xO xA xR xW xs xq0 xq1 ⊢
  have HOV3 := Lib.hid xO
  have HAV3 := Lib.hid xA
  have HRV3 := Lib.hid xR
  have HWV3 := Lib.hid xW
  have HZV3 := Lib.hid xs
  have HqV3_0 := Lib.hid xq0
  have HqV3_1 := Lib.hid xq1
  clear xO xA xR xW xs xq0 xq1
  clear ca6 ca7 ca8 ca9 ca10 fz ko5 ko6
  ((with_reducible refine (to_Box xx7_0 xx7_1 xx7_2 xx7_3 _).mono ?_); rintro e w4 ⟨rfl, bb⟩)
  have HAw4 := Lib.hid (HAV3.out.keep bb)
  have HOw4 := Lib.hid (HOV3.out.keep bb)
  have HRw4 := Lib.hid (HRV3.out.keep bb)
  have HWw4 := Lib.hid (on_of HWV3.out bb)
  have Hqw4_0 := Lib.hid ((HqV3_0.out).under bb)
  have Hqw4_1 := Lib.hid ((HqV3_1.out).under bb)
  have sz3 := bb.size
  clear bb
  have fz := HOw4.out.2.1
  have ko7 := HOw4.out.1 7 (.int .i64 0) (by simp)
  have ko8 := HOw4.out.1 8 (.int .i64 0) (by simp)
  have ko9 := HOw4.out.1 9 (.int .i64 0) (by simp)
  have ko10 := HOw4.out.1 10 (.int .i64 0) (by simp)
  go_wp2_with fail
  have xO := (show Blk ((((w4.setCell ⟨GO, 7, none⟩ (.int .i64 xx7_0)).setCell ⟨GO, 8, none⟩ (.int .i64 xx7_1)).setCell ⟨GO, 9, none⟩ (.int .i64 xx7_2)).setCell ⟨GO, 10, none⟩ (.int .i64 xx7_3)) GO (.slice ra0 xs0.length rc0 :: (.int .i64 xx1_0 :: (.int .i64 xx1_1 :: (.int .i64 xx1_2 :: (.int .i64 xx1_3 :: (.slice ra5 xs5.length rc5 :: (.int .i64 xx6_0 :: (.int .i64 xx7_0 :: (.int .i64 xx7_1 :: (.int .i64 xx7_2 :: (.int .i64 xx7_3 :: ([])))))))))))) from Blk.put (P := [.slice ra0 xs0.length rc0, .int .i64 xx1_0, .int .i64 xx1_1, .int .i64 xx1_2, .int .i64 xx1_3, .slice ra5 xs5.length rc5, .int .i64 xx6_0, .int .i64 xx7_0, .int .i64 xx7_1, .int .i64 xx7_2]) (R := []) (by simpa using (show Blk (((w4.setCell ⟨GO, 7, none⟩ (.int .i64 xx7_0)).setCell ⟨GO, 8, none⟩ (.int .i64 xx7_1)).setCell ⟨GO, 9, none⟩ (.int .i64 xx7_2)) GO (.slice ra0 xs0.length rc0 :: (.int .i64 xx1_0 :: (.int .i64 xx1_1 :: (.int .i64 xx1_2 :: (.int .i64 xx1_3 :: (.slice ra5 xs5.length rc5 :: (.int .i64 xx6_0 :: (.int .i64 xx7_0 :: (.int .i64 xx7_1 :: (.int .i64 xx7_2 :: (.int .i64 0 :: ([])))))))))))) from Blk.put (P := [.slice ra0 xs0.length rc0, .int .i64 xx1_0, .int .i64 xx1_1, .int .i64 xx1_2, .int .i64 xx1_3, .slice ra5 xs5.length rc5, .int .i64 xx6_0, .int .i64 xx7_0, .int .i64 xx7_1]) (R := [.int .i64 0]) (by simpa using (show Blk ((w4.setCell ⟨GO, 7, none⟩ (.int .i64 xx7_0)).setCell ⟨GO, 8, none⟩ (.int .i64 xx7_1)) GO (.slice ra0 xs0.length rc0 :: (.int .i64 xx1_0 :: (.int .i64 xx1_1 :: (.int .i64 xx1_2 :: (.int .i64 xx1_3 :: (.slice ra5 xs5.length rc5 :: (.int .i64 xx6_0 :: (.int .i64 xx7_0 :: (.int .i64 xx7_1 :: (.int .i64 0 :: (.int .i64 0 :: ([])))))))))))) from Blk.put (P := [.slice ra0 xs0.length rc0, .int .i64 xx1_0, .int .i64 xx1_1, .int .i64 xx1_2, .int .i64 xx1_3, .slice ra5 xs5.length rc5, .int .i64 xx6_0, .int .i64 xx7_0]) (R := [.int .i64 0, .int .i64 0]) (by simpa using (show Blk (w4.setCell ⟨GO, 7, none⟩ (.int .i64 xx7_0)) GO (.slice ra0 xs0.length rc0 :: (.int .i64 xx1_0 :: (.int .i64 xx1_1 :: (.int .i64 xx1_2 :: (.int .i64 xx1_3 :: (.slice ra5 xs5.length rc5 :: (.int .i64 xx6_0 :: (.int .i64 xx7_0 :: (.int .i64 0 :: (.int .i64 0 :: (.int .i64 0 :: ([])))))))))))) from Blk.put (P := [.slice ra0 xs0.length rc0, .int .i64 xx1_0, .int .i64 xx1_1, .int .i64 xx1_2, .int .i64 xx1_3, .slice ra5 xs5.length rc5, .int .i64 xx6_0]) (R := [.int .i64 0, .int .i64 0, .int .i64 0]) (by simpa using HOw4.out) rfl (.int .i64 xx7_0))) rfl (.int .i64 xx7_1))) rfl (.int .i64 xx7_2))) rfl (.int .i64 xx7_3))
  have xA := ((((HAw4.out.other nAO 7 (.int .i64 xx7_0)).other nAO 8 (.int .i64 xx7_1)).other nAO 9 (.int .i64 xx7_2)).other nAO 10 (.int .i64 xx7_3))
  have xR := ((((HRw4.out.other nRO 7 (.int .i64 xx7_0)).other nRO 8 (.int .i64 xx7_1)).other nRO 9 (.int .i64 xx7_2)).other nRO 10 (.int .i64 xx7_3))
  have xW := ((((((((HWw4.out).setCell (p := ⟨GO, 7, none⟩) hGO (.int .i64 xx7_0))).setCell (p := ⟨GO, 8, none⟩) hGO (.int .i64 xx7_1))).setCell (p := ⟨GO, 9, none⟩) hGO (.int .i64 xx7_2))).setCell (p := ⟨GO, 10, none⟩) hGO (.int .i64 xx7_3))
  have xq0 := (own_setN (own_setN (own_setN (own_setN (Hqw4_0.out) nO0 7 (.int .i64 xx7_0)) nO0 8 (.int .i64 xx7_1)) nO0 9 (.int .i64 xx7_2)) nO0 10 (.int .i64 xx7_3))
  have xq1 := (own_setN (own_setN (own_setN (own_setN (Hqw4_1.out) nO1 7 (.int .i64 xx7_0)) nO1 8 (.int .i64 xx7_1)) nO1 9 (.int .i64 xx7_2)) nO1 10 (.int .i64 xx7_3))
  have xs : (((((w4.setCell ⟨GO, 7, none⟩ (.int .i64 xx7_0)).setCell ⟨GO, 8, none⟩ (.int .i64 xx7_1)).setCell ⟨GO, 9, none⟩ (.int .i64 xx7_2)).setCell ⟨GO, 10, none⟩ (.int .i64 xx7_3))).heap.size = w4.heap.size := by simp [size_sets]
  generalize ((((w4.setCell ⟨GO, 7, none⟩ (.int .i64 xx7_0)).setCell ⟨GO, 8, none⟩ (.int .i64 xx7_1)).setCell ⟨GO, 9, none⟩ (.int .i64 xx7_2)).setCell ⟨GO, 10, none⟩ (.int .i64 xx7_3)) = V4 at xO xA xR xW xs xq0 xq1 ⊢
  have HOV4 := Lib.hid xO
  have HAV4 := Lib.hid xA
  have HRV4 := Lib.hid xR
  have HWV4 := Lib.hid xW
  have HZV4 := Lib.hid xs
  have HqV4_0 := Lib.hid xq0
  have HqV4_1 := Lib.hid xq1
  clear xO xA xR xW xs xq0 xq1
  clear fz ko7 ko8 ko9 ko10
  obtain ⟨R, hR⟩ : ∃ R : Array Value, (.slice ra0 xs0.length rc0 :: (.int .i64 xx1_0 :: (.int .i64 xx1_1 :: (.int .i64 xx1_2 :: (.int .i64 xx1_3 :: (.slice ra5 xs5.length rc5 :: (.int .i64 xx6_0 :: (.int .i64 xx7_0 :: (.int .i64 xx7_1 :: (.int .i64 xx7_2 :: (.int .i64 xx7_3 :: ([]))))))))))) : List Value).toArray = R := ⟨_, rfl⟩
  have RL : R.toList = .slice ra0 xs0.length rc0 :: (.int .i64 xx1_0 :: (.int .i64 xx1_1 :: (.int .i64 xx1_2 :: (.int .i64 xx1_3 :: (.slice ra5 xs5.length rc5 :: (.int .i64 xx6_0 :: (.int .i64 xx7_0 :: (.int .i64 xx7_1 :: (.int .i64 xx7_2 :: (.int .i64 xx7_3 :: ([]))))))))))) := by subst hR; simp
  have lo := hload_run (P := Tryz.prog) (t := 42) Tryz.isAgg42 Tryz.sizeOf42 (w := V4) (b := GO) (o := 0) (us := .slice ra0 xs0.length rc0 :: (.int .i64 xx1_0 :: (.int .i64 xx1_1 :: (.int .i64 xx1_2 :: (.int .i64 xx1_3 :: (.slice ra5 xs5.length rc5 :: (.int .i64 xx6_0 :: (.int .i64 xx7_0 :: (.int .i64 xx7_1 :: (.int .i64 xx7_2 :: (.int .i64 xx7_3 :: ([])))))))))))) (Blk.part (P := []) (R := []) (by simpa using HOV4.out) rfl) (by simp )
  rw [hR] at lo
  have oR : OwnL V4 LGraphics (.slice ra0 xs0.length rc0 :: (.int .i64 xx1_0 :: (.int .i64 xx1_1 :: (.int .i64 xx1_2 :: (.int .i64 xx1_3 :: (.slice ra5 xs5.length rc5 :: (.int .i64 xx6_0 :: (.int .i64 xx7_0 :: (.int .i64 xx7_1 :: (.int .i64 xx7_2 :: (.int .i64 xx7_3 :: ([])))))))))))) (.sl xs0 :: (.int xx1_0 :: (.int xx1_1 :: (.int xx1_2 :: (.int xx1_3 :: (.sl xs5 :: (.int xx6_0 :: (.int xx7_0 :: (.int xx7_1 :: (.int xx7_2 :: (.int xx7_3 :: ([])))))))))))) (xF0 ++ (xF5 ++ ([]))) := .cons (cs := [.slice ra0 xs0.length rc0]) (fp := xF0) HqV4_0.out (.cons (cs := [.int .i64 xx1_0]) (fp := []) (.int xx1_0) (.cons (cs := [.int .i64 xx1_1]) (fp := []) (.int xx1_1) (.cons (cs := [.int .i64 xx1_2]) (fp := []) (.int xx1_2) (.cons (cs := [.int .i64 xx1_3]) (fp := []) (.int xx1_3) (.cons (cs := [.slice ra5 xs5.length rc5]) (fp := xF5) HqV4_1.out (.cons (cs := [.int .i64 xx6_0]) (fp := []) (.int xx6_0) (.cons (cs := [.int .i64 xx7_0]) (fp := []) (.int xx7_0) (.cons (cs := [.int .i64 xx7_1]) (fp := []) (.int xx7_1) (.cons (cs := [.int .i64 xx7_2]) (fp := []) (.int xx7_2) (.cons (cs := [.int .i64 xx7_3]) (fp := []) (.int xx7_3) (.nil)))))))))))
  have sto := hstore_run (P := Tryz.prog) (t := 42) Tryz.sizeOf42 (w := V4) (b := GR) (o := 0) (A := []) (us := [.slice none 0 0, .int .i64 0, .int .i64 0, .int .i64 0, .int .i64 0, .slice none 0 0, .int .i64 0, .int .i64 0, .int .i64 0, .int .i64 0, .int .i64 0]) (R := []) (vs := .slice ra0 xs0.length rc0 :: (.int .i64 xx1_0 :: (.int .i64 xx1_1 :: (.int .i64 xx1_2 :: (.int .i64 xx1_3 :: (.slice ra5 xs5.length rc5 :: (.int .i64 xx6_0 :: (.int .i64 xx7_0 :: (.int .i64 xx7_1 :: (.int .i64 xx7_2 :: (.int .i64 xx7_3 :: ([])))))))))))) (by simpa using HRV4.out) rfl (by simp ) (by simp ) (fun v hv => oR.one v hv)
  rw [hR] at sto
  have BR5 := Blk.sets (P := []) (us := [.slice none 0 0, .int .i64 0, .int .i64 0, .int .i64 0, .int .i64 0, .slice none 0 0, .int .i64 0, .int .i64 0, .int .i64 0, .int .i64 0, .int .i64 0]) (vs := .slice ra0 xs0.length rc0 :: (.int .i64 xx1_0 :: (.int .i64 xx1_1 :: (.int .i64 xx1_2 :: (.int .i64 xx1_3 :: (.slice ra5 xs5.length rc5 :: (.int .i64 xx6_0 :: (.int .i64 xx7_0 :: (.int .i64 xx7_1 :: (.int .i64 xx7_2 :: (.int .i64 xx7_3 :: ([])))))))))))) (R := []) (w := V4) (b := GR) (o := 0) (by simpa using HRV4.out) rfl (by simp )
  have e5 := Below.setCells (b := GR) (by omega) (.slice ra0 xs0.length rc0 :: (.int .i64 xx1_0 :: (.int .i64 xx1_1 :: (.int .i64 xx1_2 :: (.int .i64 xx1_3 :: (.slice ra5 xs5.length rc5 :: (.int .i64 xx6_0 :: (.int .i64 xx7_0 :: (.int .i64 xx7_1 :: (.int .i64 xx7_2 :: (.int .i64 xx7_3 :: ([])))))))))))) 0 HWV4.out
  have o5 := ownL_sets oR (b := GR) (fun x hx => (List.mem_append.1 hx).elim (fun h => nQ0 x h) (fun hx1 => (List.mem_append.1 hx1).elim (fun h => nQ1 x h) (fun hx2 => absurd hx2 List.not_mem_nil))) 0 (.slice ra0 xs0.length rc0 :: (.int .i64 xx1_0 :: (.int .i64 xx1_1 :: (.int .i64 xx1_2 :: (.int .i64 xx1_3 :: (.slice ra5 xs5.length rc5 :: (.int .i64 xx6_0 :: (.int .i64 xx7_0 :: (.int .i64 xx7_1 :: (.int .i64 xx7_2 :: (.int .i64 xx7_3 :: ([]))))))))))))
  generalize V4.setCells GR 0 (.slice ra0 xs0.length rc0 :: (.int .i64 xx1_0 :: (.int .i64 xx1_1 :: (.int .i64 xx1_2 :: (.int .i64 xx1_3 :: (.slice ra5 xs5.length rc5 :: (.int .i64 xx6_0 :: (.int .i64 xx7_0 :: (.int .i64 xx7_1 :: (.int .i64 xx7_2 :: (.int .i64 xx7_3 :: ([])))))))))))) = V5 at sto BR5 e5 o5
  have re := hload_run (P := Tryz.prog) (t := 42) Tryz.isAgg42 Tryz.sizeOf42 (w := V5) (b := GR) (o := 0) (us := .slice ra0 xs0.length rc0 :: (.int .i64 xx1_0 :: (.int .i64 xx1_1 :: (.int .i64 xx1_2 :: (.int .i64 xx1_3 :: (.slice ra5 xs5.length rc5 :: (.int .i64 xx6_0 :: (.int .i64 xx7_0 :: (.int .i64 xx7_1 :: (.int .i64 xx7_2 :: (.int .i64 xx7_3 :: ([])))))))))))) (Blk.part (P := []) (R := []) (by simpa using BR5) rfl) (by simp )
  rw [hR] at re
  rw [← RL] at o5
  have HF := Lib.hid (And.intro o5 (And.intro e5 re))
  clear oR BR5 e5 o5 re RL hR
  rw [lo]
  go_wp2_with fail
  try (rw [sto]; go_wp2_with fail)
  refine bodyPost_ret (v := .agg R) ?_ rfl ⟨R, _, rfl, HF.out.1, ?_, ?_, HF.out.2.1⟩
  · exact results_h Tryz.results33 (by rfl) HF.out.2.2
  · have hall : ∀ (i j : Nat), True := fun _ _ => trivial
    have n2 : ([] : List Nat).Nodup := List.nodup_nil
    have n1 : (xF5 ++ ([])).Nodup := List.nodup_append.2 ⟨nd1, n2, fun x hx y hy e => by have a1 := lt1 x hx; have a2 := (show ∀ y ∈ [], x < y from fun y hx => absurd hx List.not_mem_nil) y hy; omega⟩
    have n0 : (xF0 ++ (xF5 ++ ([]))).Nodup := List.nodup_append.2 ⟨nd0, n1, fun x hx y hy e => by have a1 := lt0 x hx; have a2 := (show ∀ y ∈ xF5 ++ ([]), x < y from fun y hx => (List.mem_append.1 hx).elim (fun h => by have := ge1 y h; have := HZV1.out; have := HZV2.out; have := HZV3.out; omega) (fun hx2 => absurd hx2 List.not_mem_nil)) y hy; omega⟩
    exact n0
  · intro b hx
    exact (List.mem_append.1 hx).elim (fun h => (fun h => by have := ge0 b h; have := HZV1.out; have := HZV2.out; have := HZV3.out; omega) h) (fun hx1 => (List.mem_append.1 hx1).elim (fun h => (fun h => by have := ge1 b h; have := HZV1.out; have := HZV2.out; have := HZV3.out; omega) h) (fun hx2 => absurd hx2 List.not_mem_nil))
end Go.Proofs.YtjmfgbbngocodaaGreat.Own

