/-
  Texts of this seat, laid together: ToC
-/
import Derived.WalkKit
import Derived.Deep.DeepCutAuto
import Derived.Deep.QuietTactic
import Derived.BigQuiet
import Derived.Deep.RegionHeld3
import Derived.Handy
import Derived.Test.YtjmfgbbngocodaaGreatZ10
namespace Go.Proofs.YtjmfgbbngocodaaGreat.Own
open Go.ChangeShapes Go.WideShapes Go.ChangeAt Go.RowKit
open Kit Slabs Ints
set_option linter.unusedVariables false
set_option linter.unusedSimpArgs false
set_option linter.unnecessarySimpa false
set_option maxRecDepth 100000
attribute [local go_sem ↓] hloadL_Graphics
attribute [local go_sem ↓] hstore_Graphics
attribute [local go_sem ↓] hload_Page
attribute [local go_sem ↓] hstore_Page
set_option maxHeartbeats 8000000 in
theorem to_Page (w : World) {A : Array Value} {ds : List Dt} (hb : bulkL ds ≤ 1048576) (h : CameL w LPage A.toList ds) :
    Calls Tryz.prog 8 #[.agg A] w fun e w' => ∃ (R : Array Value) (fp : List Nat), e = .returned (.agg R) ∧ OwnL w' LPage R.toList ds fp ∧ fp.Nodup ∧ (∀ b ∈ fp, w.heap.size ≤ b) ∧ Below w.heap.size w w' := by
  obtain ⟨xG0, xa11, xc11, xa12, xc12, xD0, xs11, xs12, hA, rfl, ox0, ⟨ox11, mox11⟩, ⟨ox12, mox12⟩⟩ := invC_Page h
  have nxG0 : xG0.length = 11 := ox0.len
  simp only [bulkL_app, bulkL, Dt.bulk] at hb
  have BA : Blk (((w.alloc (.cells A 33)).alloc (.cells #[.slice none 0 0, .int .i64 0, .int .i64 0, .int .i64 0, .int .i64 0, .slice none 0 0, .int .i64 0, .int .i64 0, .int .i64 0, .int .i64 0, .int .i64 0, .slice none 0 0, .slice none 0 0] 46)).alloc (.cells #[.slice none 0 0, .int .i64 0, .int .i64 0, .int .i64 0, .int .i64 0, .slice none 0 0, .int .i64 0, .int .i64 0, .int .i64 0, .int .i64 0, .int .i64 0, .slice none 0 0, .slice none 0 0] 46)) w.heap.size A.toList := ((Blk.new w A 33 rfl).alloc _).alloc _
  have BR : Blk (((w.alloc (.cells A 33)).alloc (.cells #[.slice none 0 0, .int .i64 0, .int .i64 0, .int .i64 0, .int .i64 0, .slice none 0 0, .int .i64 0, .int .i64 0, .int .i64 0, .int .i64 0, .int .i64 0, .slice none 0 0, .slice none 0 0] 46)).alloc (.cells #[.slice none 0 0, .int .i64 0, .int .i64 0, .int .i64 0, .int .i64 0, .slice none 0 0, .int .i64 0, .int .i64 0, .int .i64 0, .int .i64 0, .int .i64 0, .slice none 0 0, .slice none 0 0] 46)) (w.heap.size + 1) [.slice none 0 0, .int .i64 0, .int .i64 0, .int .i64 0, .int .i64 0, .slice none 0 0, .int .i64 0, .int .i64 0, .int .i64 0, .int .i64 0, .int .i64 0, .slice none 0 0, .slice none 0 0] := (Blk.new _ #[.slice none 0 0, .int .i64 0, .int .i64 0, .int .i64 0, .int .i64 0, .slice none 0 0, .int .i64 0, .int .i64 0, .int .i64 0, .int .i64 0, .int .i64 0, .slice none 0 0, .slice none 0 0] 46 (by simp)).alloc _
  have BO : Blk (((w.alloc (.cells A 33)).alloc (.cells #[.slice none 0 0, .int .i64 0, .int .i64 0, .int .i64 0, .int .i64 0, .slice none 0 0, .int .i64 0, .int .i64 0, .int .i64 0, .int .i64 0, .int .i64 0, .slice none 0 0, .slice none 0 0] 46)).alloc (.cells #[.slice none 0 0, .int .i64 0, .int .i64 0, .int .i64 0, .int .i64 0, .slice none 0 0, .int .i64 0, .int .i64 0, .int .i64 0, .int .i64 0, .int .i64 0, .slice none 0 0, .slice none 0 0] 46)) (w.heap.size + 1 + 1) [.slice none 0 0, .int .i64 0, .int .i64 0, .int .i64 0, .int .i64 0, .slice none 0 0, .int .i64 0, .int .i64 0, .int .i64 0, .int .i64 0, .int .i64 0, .slice none 0 0, .slice none 0 0] := Blk.new _ #[.slice none 0 0, .int .i64 0, .int .i64 0, .int .i64 0, .int .i64 0, .slice none 0 0, .int .i64 0, .int .i64 0, .int .i64 0, .int .i64 0, .int .i64 0, .slice none 0 0, .slice none 0 0] 46 (by simp)
  have hW : Below w.heap.size w (((w.alloc (.cells A 33)).alloc (.cells #[.slice none 0 0, .int .i64 0, .int .i64 0, .int .i64 0, .int .i64 0, .slice none 0 0, .int .i64 0, .int .i64 0, .int .i64 0, .int .i64 0, .int .i64 0, .slice none 0 0, .slice none 0 0] 46)).alloc (.cells #[.slice none 0 0, .int .i64 0, .int .i64 0, .int .i64 0, .int .i64 0, .slice none 0 0, .int .i64 0, .int .i64 0, .int .i64 0, .int .i64 0, .int .i64 0, .slice none 0 0, .slice none 0 0] 46)) := by go_grown
  have hsz : (((w.alloc (.cells A 33)).alloc (.cells #[.slice none 0 0, .int .i64 0, .int .i64 0, .int .i64 0, .int .i64 0, .slice none 0 0, .int .i64 0, .int .i64 0, .int .i64 0, .int .i64 0, .int .i64 0, .slice none 0 0, .slice none 0 0] 46)).alloc (.cells #[.slice none 0 0, .int .i64 0, .int .i64 0, .int .i64 0, .int .i64 0, .slice none 0 0, .int .i64 0, .int .i64 0, .int .i64 0, .int .i64 0, .int .i64 0, .slice none 0 0, .slice none 0 0] 46)).heap.size = w.heap.size + 3 := by simp
  rw [hA] at BA
  have HC := Lib.hid (And.intro ox0 (And.intro ox11 ox12))
  have HA0 := Lib.hid BA
  have HR0 := Lib.hid BR
  have HO0 := Lib.hid BO
  have HW0 := Lib.hid hW
  have HZ0 := Lib.hid hsz
  have la := hload_run (P := Tryz.prog) (t := 29) Tryz.isAgg29 Tryz.sizeOf29 (w := ((w.alloc (.cells A 33)).alloc (.cells #[.slice none 0 0, .int .i64 0, .int .i64 0, .int .i64 0, .int .i64 0, .slice none 0 0, .int .i64 0, .int .i64 0, .int .i64 0, .int .i64 0, .int .i64 0, .slice none 0 0, .slice none 0 0] 46)).alloc (.cells #[.slice none 0 0, .int .i64 0, .int .i64 0, .int .i64 0, .int .i64 0, .slice none 0 0, .int .i64 0, .int .i64 0, .int .i64 0, .int .i64 0, .int .i64 0, .slice none 0 0, .slice none 0 0] 46)) (b := w.heap.size) (o := 0) (us := xG0) (Blk.part (P := []) HA0.out rfl) nxG0
  clear ox0 ox11 ox12 hA BA BR BO hW hsz h
  go_enter Tryz.func8, Tryz.ntmps8
  go_wp2_with fail
  obtain ⟨W0, hW0⟩ : ∃ W, W = ((w.alloc (.cells A 33)).alloc (.cells #[.slice none 0 0, .int .i64 0, .int .i64 0, .int .i64 0, .int .i64 0, .slice none 0 0, .int .i64 0, .int .i64 0, .int .i64 0, .int .i64 0, .int .i64 0, .slice none 0 0, .slice none 0 0] 46)).alloc (.cells #[.slice none 0 0, .int .i64 0, .int .i64 0, .int .i64 0, .int .i64 0, .slice none 0 0, .int .i64 0, .int .i64 0, .int .i64 0, .int .i64 0, .int .i64 0, .slice none 0 0, .slice none 0 0] 46) := ⟨_, rfl⟩
  rw [← hW0] at HA0 HR0 HO0 HW0 HZ0 ⊢ la
  obtain ⟨GA, hGA⟩ : ∃ g, w.heap.size = g := ⟨_, rfl⟩
  obtain ⟨GR, hGR⟩ : ∃ g, w.heap.size + 1 = g := ⟨_, rfl⟩
  obtain ⟨GO, hGO_⟩ : ∃ g, w.heap.size + 1 + 1 = g := ⟨_, rfl⟩
  rw [hGO_] at HO0 ⊢
  rw [hGR] at HR0 ⊢
  have HA0 := Lib.hid (show Blk W0 GA _ from hGA ▸ HA0.out)
  try simp only [hGA]
  have nAO : GO ≠ GA := by omega
  have nRO : GO ≠ GR := by omega
  have hGO : w.heap.size ≤ GO := by omega
  have zO : GO < W0.heap.size := by have := HZ0.out; omega
  have zR : GR < W0.heap.size := by have := HZ0.out; omega
  clear hW0 la
  ((with_reducible refine (to_Graphics _ (ds := xD0) (by omega) (by simpa using (HC.out.1).on HW0.out)).mono ?_); rintro e w1 ⟨rR0, xF0, rfl, oo, nd0, ge0, bb⟩)
  obtain ⟨rl0, hrl⟩ : ∃ l : List Value, rR0 = l.toArray := ⟨rR0.toList, by simp⟩
  subst hrl
  rw [List.toList_toArray] at oo
  have lrl0 : rl0.length = 11 := oo.len
  have HAw1 := Lib.hid (HA0.out.keep bb)
  have HOw1 := Lib.hid (HO0.out.keep bb)
  have HRw1 := Lib.hid (HR0.out.keep bb)
  have HWw1 := Lib.hid (on_of HW0.out bb)
  have sz0 := bb.size
  have Hqw1_0 := Lib.hid oo
  have lt0 : ∀ b ∈ xF0, b < w1.heap.size := oo.lt
  have nO0 : GO ∉ xF0 := fun hb => by have := ge0 _ hb;  omega
  have nR0 : GR ∉ xF0 := fun hb => by have := ge0 _ hb;  omega
  have nP0 : ∀ b ∈ xF0, b ≠ GO := fun b hb e => nO0 (e ▸ hb)
  have nQ0 : ∀ b ∈ xF0, b ≠ GR := fun b hb e => nR0 (e ▸ hb)
  clear oo bb
  have st := hstore_run (P := Tryz.prog) (t := 42) Tryz.sizeOf42 (w := w1) (b := GO) (o := 0) (A := []) (us := [.slice none 0 0, .int .i64 0, .int .i64 0, .int .i64 0, .int .i64 0, .slice none 0 0, .int .i64 0, .int .i64 0, .int .i64 0, .int .i64 0, .int .i64 0]) (R := [.slice none 0 0, .slice none 0 0]) (vs := rl0) HOw1.out rfl (by simp [lrl0]) lrl0 (fun v hv => OwnL.one Hqw1_0.out v hv)
  have ca11 := (Blk.others nAO rl0 0 HAw1.out).1 11 (.slice xa11 xs11.length xc11) (by simp [nxG0])
  have fz := HOw1.out.2.1
  go_wp2_with fail
  have xO := (show Blk (w1.setCells GO 0 rl0) GO (rl0 ++ (.slice none 0 0 :: (.slice none 0 0 :: ([])))) from by have := Blk.sets (P := []) (us := [.slice none 0 0, .int .i64 0, .int .i64 0, .int .i64 0, .int .i64 0, .slice none 0 0, .int .i64 0, .int .i64 0, .int .i64 0, .int .i64 0, .int .i64 0]) (vs := rl0) (R := [.slice none 0 0, .slice none 0 0]) (w := w1) (b := GO) (o := 0) (by simpa using HOw1.out) rfl (by simp [lrl0]); simpa using this)
  have xA := (Blk.others nAO rl0 0 HAw1.out)
  have xR := (Blk.others nRO rl0 0 HRw1.out)
  have xW := (Below.setCells hGO rl0 0 HWw1.out)
  have xq0 := (ownL_sets (Hqw1_0.out) nP0 0 rl0)
  have xs : ((w1.setCells GO 0 rl0)).heap.size = w1.heap.size := by simp [size_sets]
  generalize (w1.setCells GO 0 rl0) = V1 at xO xA xR xW xs xq0 ⊢
  have HOV1 := Lib.hid xO
  have HAV1 := Lib.hid xA
  have HRV1 := Lib.hid xR
  have HWV1 := Lib.hid xW
  have HZV1 := Lib.hid xs
  have HqV1_0 := Lib.hid xq0
  clear xO xA xR xW xs xq0
  clear st ca11 fz
  ((with_reducible refine (to_GraphicsS _ _ _ _ _ (by omega) ((HC.out.2.1).on HWV1.out)).mono ?_); rintro e w2 ⟨ra11, rc11, xF11, rfl, oo, nd1, ge1, bb⟩)
  have HAw2 := Lib.hid (HAV1.out.keep bb)
  have HOw2 := Lib.hid (HOV1.out.keep bb)
  have HRw2 := Lib.hid (HRV1.out.keep bb)
  have HWw2 := Lib.hid (on_of HWV1.out bb)
  have Hqw2_0 := Lib.hid ((HqV1_0.out).under bb)
  have sz1 := bb.size
  have Hqw2_1 := Lib.hid oo
  have lt1 : ∀ b ∈ xF11, b < w2.heap.size := oo.lt
  have nO1 : GO ∉ xF11 := fun hb => by have := ge1 _ hb; have := HZV1.out; omega
  have nR1 : GR ∉ xF11 := fun hb => by have := ge1 _ hb; have := HZV1.out; omega
  have nP1 : ∀ b ∈ xF11, b ≠ GO := fun b hb e => nO1 (e ▸ hb)
  have nQ1 : ∀ b ∈ xF11, b ≠ GR := fun b hb e => nR1 (e ▸ hb)
  clear oo bb
  have ca12 := HAw2.out.1 12 (.slice xa12 xs12.length xc12) (by simp [nxG0])
  have fz := HOw2.out.2.1
  have ko11 := HOw2.out.1 11 (.slice none 0 0) (by simp [lrl0])
  go_wp2_with fail
  have xO := (show Blk (w2.setCell ⟨GO, 11, none⟩ (.slice ra11 xs11.length rc11)) GO (rl0 ++ (.slice ra11 xs11.length rc11 :: (.slice none 0 0 :: ([])))) from by have := Blk.put (P := rl0 ++ []) (o := 11) (R := [.slice none 0 0]) (x := .slice none 0 0) (by simpa using HOw2.out) (by simp [lrl0]) (.slice ra11 xs11.length rc11); simpa using this)
  have xA := (HAw2.out.other nAO 11 (.slice ra11 xs11.length rc11))
  have xR := (HRw2.out.other nRO 11 (.slice ra11 xs11.length rc11))
  have xW := ((HWw2.out).setCell (p := ⟨GO, 11, none⟩) hGO (.slice ra11 xs11.length rc11))
  have xq0 := (ownL_set (Hqw2_0.out) nO0 11 (.slice ra11 xs11.length rc11))
  have xq1 := (own_setN (Hqw2_1.out) nO1 11 (.slice ra11 xs11.length rc11))
  have xs : ((w2.setCell ⟨GO, 11, none⟩ (.slice ra11 xs11.length rc11))).heap.size = w2.heap.size := by simp [size_sets]
  generalize (w2.setCell ⟨GO, 11, none⟩ (.slice ra11 xs11.length rc11)) = V2 at xO xA xR xW xs xq0 xq1 ⊢
  have HOV2 := Lib.hid xO
  have HAV2 := Lib.hid xA
  have HRV2 := Lib.hid xR
  have HWV2 := Lib.hid xW
  have HZV2 := Lib.hid xs
  have HqV2_0 := Lib.hid xq0
  have HqV2_1 := Lib.hid xq1
  clear xO xA xR xW xs xq0 xq1
  clear ca12 fz ko11
  ((with_reducible refine (to_ObjectS _ _ _ _ _ (by omega) ((HC.out.2.2).on HWV2.out)).mono ?_); rintro e w3 ⟨ra12, rc12, xF12, rfl, oo, nd2, ge2, bb⟩)
  have HAw3 := Lib.hid (HAV2.out.keep bb)
  have HOw3 := Lib.hid (HOV2.out.keep bb)
  have HRw3 := Lib.hid (HRV2.out.keep bb)
  have HWw3 := Lib.hid (on_of HWV2.out bb)
  have Hqw3_0 := Lib.hid ((HqV2_0.out).under bb)
  have Hqw3_1 := Lib.hid ((HqV2_1.out).under bb)
  have sz2 := bb.size
  have Hqw3_2 := Lib.hid oo
  have lt2 : ∀ b ∈ xF12, b < w3.heap.size := oo.lt
  have nO2 : GO ∉ xF12 := fun hb => by have := ge2 _ hb; have := HZV1.out; have := HZV2.out; omega
  have nR2 : GR ∉ xF12 := fun hb => by have := ge2 _ hb; have := HZV1.out; have := HZV2.out; omega
  have nP2 : ∀ b ∈ xF12, b ≠ GO := fun b hb e => nO2 (e ▸ hb)
  have nQ2 : ∀ b ∈ xF12, b ≠ GR := fun b hb e => nR2 (e ▸ hb)
  clear oo bb
  have fz := HOw3.out.2.1
  have ko12 := HOw3.out.1 12 (.slice none 0 0) (by simp [lrl0])
  go_wp2_with fail
  have xO := (show Blk (w3.setCell ⟨GO, 12, none⟩ (.slice ra12 xs12.length rc12)) GO (rl0 ++ (.slice ra11 xs11.length rc11 :: (.slice ra12 xs12.length rc12 :: ([])))) from by have := Blk.put (P := rl0 ++ [.slice ra11 xs11.length rc11]) (o := 12) (R := []) (x := .slice none 0 0) (by simpa using HOw3.out) (by simp [lrl0]) (.slice ra12 xs12.length rc12); simpa using this)
  have xA := (HAw3.out.other nAO 12 (.slice ra12 xs12.length rc12))
  have xR := (HRw3.out.other nRO 12 (.slice ra12 xs12.length rc12))
  have xW := ((HWw3.out).setCell (p := ⟨GO, 12, none⟩) hGO (.slice ra12 xs12.length rc12))
  have xq0 := (ownL_set (Hqw3_0.out) nO0 12 (.slice ra12 xs12.length rc12))
  have xq1 := (own_setN (Hqw3_1.out) nO1 12 (.slice ra12 xs12.length rc12))
  have xq2 := (own_setN (Hqw3_2.out) nO2 12 (.slice ra12 xs12.length rc12))
  have xs : ((w3.setCell ⟨GO, 12, none⟩ (.slice ra12 xs12.length rc12))).heap.size = w3.heap.size := by simp [size_sets]
  generalize (w3.setCell ⟨GO, 12, none⟩ (.slice ra12 xs12.length rc12)) = V3 at xO xA xR xW xs xq0 xq1 xq2 ⊢
  have HOV3 := Lib.hid xO
  have HAV3 := Lib.hid xA
  have HRV3 := Lib.hid xR
  have HWV3 := Lib.hid xW
  have HZV3 := Lib.hid xs
  have HqV3_0 := Lib.hid xq0
  have HqV3_1 := Lib.hid xq1
  have HqV3_2 := Lib.hid xq2
  clear xO xA xR xW xs xq0 xq1 xq2
  clear fz ko12
  obtain ⟨R, hR⟩ : ∃ R : Array Value, (rl0 ++ (.slice ra11 xs11.length rc11 :: (.slice ra12 xs12.length rc12 :: ([]))) : List Value).toArray = R := ⟨_, rfl⟩
  have RL : R.toList = rl0 ++ (.slice ra11 xs11.length rc11 :: (.slice ra12 xs12.length rc12 :: ([]))) := by subst hR; simp
  have lo := hload_run (P := Tryz.prog) (t := 46) Tryz.isAgg46 Tryz.sizeOf46 (w := V3) (b := GO) (o := 0) (us := rl0 ++ (.slice ra11 xs11.length rc11 :: (.slice ra12 xs12.length rc12 :: ([])))) (Blk.part (P := []) (R := []) (by simpa using HOV3.out) rfl) (by simp [lrl0])
  rw [hR] at lo
  have oR : OwnL V3 LPage (rl0 ++ (.slice ra11 xs11.length rc11 :: (.slice ra12 xs12.length rc12 :: ([])))) (xD0 ++ (.sl xs11 :: (.sl xs12 :: ([])))) (xF0 ++ (xF11 ++ (xF12 ++ ([])))) := OwnL.app (.cons (cs := [.slice ra11 xs11.length rc11]) (fp := xF11) HqV3_1.out (.cons (cs := [.slice ra12 xs12.length rc12]) (fp := xF12) HqV3_2.out (.nil))) HqV3_0.out
  have sto := hstore_run (P := Tryz.prog) (t := 46) Tryz.sizeOf46 (w := V3) (b := GR) (o := 0) (A := []) (us := [.slice none 0 0, .int .i64 0, .int .i64 0, .int .i64 0, .int .i64 0, .slice none 0 0, .int .i64 0, .int .i64 0, .int .i64 0, .int .i64 0, .int .i64 0, .slice none 0 0, .slice none 0 0]) (R := []) (vs := rl0 ++ (.slice ra11 xs11.length rc11 :: (.slice ra12 xs12.length rc12 :: ([])))) (by simpa using HRV3.out) rfl (by simp [lrl0]) (by simp [lrl0]) (fun v hv => oR.one v hv)
  rw [hR] at sto
  have BR5 := Blk.sets (P := []) (us := [.slice none 0 0, .int .i64 0, .int .i64 0, .int .i64 0, .int .i64 0, .slice none 0 0, .int .i64 0, .int .i64 0, .int .i64 0, .int .i64 0, .int .i64 0, .slice none 0 0, .slice none 0 0]) (vs := rl0 ++ (.slice ra11 xs11.length rc11 :: (.slice ra12 xs12.length rc12 :: ([])))) (R := []) (w := V3) (b := GR) (o := 0) (by simpa using HRV3.out) rfl (by simp [lrl0])
  have e5 := Below.setCells (b := GR) (by omega) (rl0 ++ (.slice ra11 xs11.length rc11 :: (.slice ra12 xs12.length rc12 :: ([])))) 0 HWV3.out
  have o5 := ownL_sets oR (b := GR) (fun x hx => (List.mem_append.1 hx).elim (fun h => nQ0 x h) (fun hx1 => (List.mem_append.1 hx1).elim (fun h => nQ1 x h) (fun hx2 => (List.mem_append.1 hx2).elim (fun h => nQ2 x h) (fun hx3 => absurd hx3 List.not_mem_nil)))) 0 (rl0 ++ (.slice ra11 xs11.length rc11 :: (.slice ra12 xs12.length rc12 :: ([]))))
  generalize V3.setCells GR 0 (rl0 ++ (.slice ra11 xs11.length rc11 :: (.slice ra12 xs12.length rc12 :: ([])))) = V5 at sto BR5 e5 o5
  have re := hload_run (P := Tryz.prog) (t := 46) Tryz.isAgg46 Tryz.sizeOf46 (w := V5) (b := GR) (o := 0) (us := rl0 ++ (.slice ra11 xs11.length rc11 :: (.slice ra12 xs12.length rc12 :: ([])))) (Blk.part (P := []) (R := []) (by simpa using BR5) rfl) (by simp [lrl0])
  rw [hR] at re
  rw [← RL] at o5
  have HF := Lib.hid (And.intro o5 (And.intro e5 re))
  clear oR BR5 e5 o5 re RL hR
  rw [lo]
  go_wp2_with fail
  try (rw [sto]; go_wp2_with fail)
  refine bodyPost_ret (v := .agg R) ?_ rfl ⟨R, _, rfl, HF.out.1, ?_, ?_, HF.out.2.1⟩
  · exact results_h Tryz.results8 (by rfl) HF.out.2.2
  · have hall : ∀ (i j : Nat), True := fun _ _ => trivial
    have n3 : ([] : List Nat).Nodup := List.nodup_nil
    have n2 : (xF12 ++ ([])).Nodup := List.nodup_append.2 ⟨nd2, n3, fun x hx y hy e => by have a1 := lt2 x hx; have a2 := (show ∀ y ∈ [], x < y from fun y hx => absurd hx List.not_mem_nil) y hy; omega⟩
    have n1 : (xF11 ++ (xF12 ++ ([]))).Nodup := List.nodup_append.2 ⟨nd1, n2, fun x hx y hy e => by have a1 := lt1 x hx; have a2 := (show ∀ y ∈ xF12 ++ ([]), x < y from fun y hx => (List.mem_append.1 hx).elim (fun h => by have := ge2 y h; have := HZV1.out; have := HZV2.out; omega) (fun hx3 => absurd hx3 List.not_mem_nil)) y hy; omega⟩
    have n0 : (xF0 ++ (xF11 ++ (xF12 ++ ([])))).Nodup := List.nodup_append.2 ⟨nd0, n1, fun x hx y hy e => by have a1 := lt0 x hx; have a2 := (show ∀ y ∈ xF11 ++ (xF12 ++ ([])), x < y from fun y hx => (List.mem_append.1 hx).elim (fun h => by have := ge1 y h; have := HZV1.out; have := HZV2.out; omega) (fun hx2 => (List.mem_append.1 hx2).elim (fun h => by have := ge2 y h; have := HZV1.out; have := HZV2.out; omega) (fun hx3 => absurd hx3 List.not_mem_nil))) y hy; omega⟩
    exact n0
  · intro b hx
    exact (List.mem_append.1 hx).elim (fun h => (fun h => by have := ge0 b h; have := HZV1.out; have := HZV2.out; omega) h) (fun hx1 => (List.mem_append.1 hx1).elim (fun h => (fun h => by have := ge1 b h; have := HZV1.out; have := HZV2.out; omega) h) (fun hx2 => (List.mem_append.1 hx2).elim (fun h => (fun h => by have := ge2 b h; have := HZV1.out; have := HZV2.out; omega) h) (fun hx3 => absurd hx3 List.not_mem_nil)))
end Go.Proofs.YtjmfgbbngocodaaGreat.Own

