/-
  Texts of this seat, laid together: ToC, SpN
-/
import Derived.WalkKit
import Derived.Deep.DeepCutAuto
import Derived.Deep.QuietTactic
import Derived.BigQuiet
import Derived.Deep.RegionHeld3
import Derived.Handy
import Derived.Test.YtaapofbccanjhaaGreatZ12
import Derived.Test.YtaapofbccanjhaaGreatZ36
namespace Go.Proofs.YtaapofbccanjhaaGreat.Own
open Go.ChangeShapes Go.WideShapes Go.ChangeAt Go.RowKit
open Kit Slabs Ints
set_option linter.unusedVariables false
set_option linter.unusedSimpArgs false
set_option linter.unnecessarySimpa false
set_option maxRecDepth 100000
attribute [local go_sem ↓] hloadL_Graphics
attribute [local go_sem ↓] hstore_Graphics
attribute [local go_sem ↓] hload_Page
attribute [local go_sem ↓] hstore_Page
set_option maxHeartbeats 8000000 in
theorem to_Page (w : World) {A : Array Value} {ds : List Dt} (hb : bulkL ds ≤ 1048576) (h : CameL w LPage A.toList ds) :
    Calls Tryz.prog 8 #[.agg A] w fun e w' => ∃ (R : Array Value) (fp : List Nat), e = .returned (.agg R) ∧ OwnL w' LPage R.toList ds fp ∧ fp.Nodup ∧ (∀ b ∈ fp, w.heap.size ≤ b) ∧ Below w.heap.size w w' := by
  obtain ⟨xG0, xa11, xc11, xa12, xc12, xD0, xs11, xs12, hA, rfl, ox0, ⟨ox11, mox11⟩, ⟨ox12, mox12⟩⟩ := invC_Page h
  have nxG0 : xG0.length = 11 := ox0.len
  simp only [bulkL_app, bulkL, Dt.bulk] at hb
  have BA : Blk (((w.alloc (.cells A 33)).alloc (.cells #[.slice none 0 0, .int .i64 0, .int .i64 0, .int .i64 0, .int .i64 0, .slice none 0 0, .int .i64 0, .int .i64 0, .int .i64 0, .int .i64 0, .int .i64 0, .slice none 0 0, .slice none 0 0] 46)).alloc (.cells #[.slice none 0 0, .int .i64 0, .int .i64 0, .int .i64 0, .int .i64 0, .slice none 0 0, .int .i64 0, .int .i64 0, .int .i64 0, .int .i64 0, .int .i64 0, .slice none 0 0, .slice none 0 0] 46)) w.heap.size A.toList := ((Blk.new w A 33 rfl).alloc _).alloc _
  have BR : Blk (((w.alloc (.cells A 33)).alloc (.cells #[.slice none 0 0, .int .i64 0, .int .i64 0, .int .i64 0, .int .i64 0, .slice none 0 0, .int .i64 0, .int .i64 0, .int .i64 0, .int .i64 0, .int .i64 0, .slice none 0 0, .slice none 0 0] 46)).alloc (.cells #[.slice none 0 0, .int .i64 0, .int .i64 0, .int .i64 0, .int .i64 0, .slice none 0 0, .int .i64 0, .int .i64 0, .int .i64 0, .int .i64 0, .int .i64 0, .slice none 0 0, .slice none 0 0] 46)) (w.heap.size + 1) [.slice none 0 0, .int .i64 0, .int .i64 0, .int .i64 0, .int .i64 0, .slice none 0 0, .int .i64 0, .int .i64 0, .int .i64 0, .int .i64 0, .int .i64 0, .slice none 0 0, .slice none 0 0] := (Blk.new _ #[.slice none 0 0, .int .i64 0, .int .i64 0, .int .i64 0, .int .i64 0, .slice none 0 0, .int .i64 0, .int .i64 0, .int .i64 0, .int .i64 0, .int .i64 0, .slice none 0 0, .slice none 0 0] 46 (by simp)).alloc _
  have BO : Blk (((w.alloc (.cells A 33)).alloc (.cells #[.slice none 0 0, .int .i64 0, .int .i64 0, .int .i64 0, .int .i64 0, .slice none 0 0, .int .i64 0, .int .i64 0, .int .i64 0, .int .i64 0, .int .i64 0, .slice none 0 0, .slice none 0 0] 46)).alloc (.cells #[.slice none 0 0, .int .i64 0, .int .i64 0, .int .i64 0, .int .i64 0, .slice none 0 0, .int .i64 0, .int .i64 0, .int .i64 0, .int .i64 0, .int .i64 0, .slice none 0 0, .slice none 0 0] 46)) (w.heap.size + 1 + 1) [.slice none 0 0, .int .i64 0, .int .i64 0, .int .i64 0, .int .i64 0, .slice none 0 0, .int .i64 0, .int .i64 0, .int .i64 0, .int .i64 0, .int .i64 0, .slice none 0 0, .slice none 0 0] := Blk.new _ #[.slice none 0 0, .int .i64 0, .int .i64 0, .int .i64 0, .int .i64 0, .slice none 0 0, .int .i64 0, .int .i64 0, .int .i64 0, .int .i64 0, .int .i64 0, .slice none 0 0, .slice none 0 0] 46 (by simp)
  have hW : Below w.heap.size w (((w.alloc (.cells A 33)).alloc (.cells #[.slice none 0 0, .int .i64 0, .int .i64 0, .int .i64 0, .int .i64 0, .slice none 0 0, .int .i64 0, .int .i64 0, .int .i64 0, .int .i64 0, .int .i64 0, .slice none 0 0, .slice none 0 0] 46)).alloc (.cells #[.slice none 0 0, .int .i64 0, .int .i64 0, .int .i64 0, .int .i64 0, .slice none 0 0, .int .i64 0, .int .i64 0, .int .i64 0, .int .i64 0, .int .i64 0, .slice none 0 0, .slice none 0 0] 46)) := by go_grown
  have hsz : (((w.alloc (.cells A 33)).alloc (.cells #[.slice none 0 0, .int .i64 0, .int .i64 0, .int .i64 0, .int .i64 0, .slice none 0 0, .int .i64 0, .int .i64 0, .int .i64 0, .int .i64 0, .int .i64 0, .slice none 0 0, .slice none 0 0] 46)).alloc (.cells #[.slice none 0 0, .int .i64 0, .int .i64 0, .int .i64 0, .int .i64 0, .slice none 0 0, .int .i64 0, .int .i64 0, .int .i64 0, .int .i64 0, .int .i64 0, .slice none 0 0, .slice none 0 0] 46)).heap.size = w.heap.size + 3 := by simp
  rw [hA] at BA
  have HC := Lib.hid (And.intro ox0 (And.intro ox11 ox12))
  have HA0 := Lib.hid BA
  have HR0 := Lib.hid BR
  have HO0 := Lib.hid BO
  have HW0 := Lib.hid hW
  have HZ0 := Lib.hid hsz
  have la := hload_run (P := Tryz.prog) (t := 29) Tryz.isAgg29 Tryz.sizeOf29 (w := ((w.alloc (.cells A 33)).alloc (.cells #[.slice none 0 0, .int .i64 0, .int .i64 0, .int .i64 0, .int .i64 0, .slice none 0 0, .int .i64 0, .int .i64 0, .int .i64 0, .int .i64 0, .int .i64 0, .slice none 0 0, .slice none 0 0] 46)).alloc (.cells #[.slice none 0 0, .int .i64 0, .int .i64 0, .int .i64 0, .int .i64 0, .slice none 0 0, .int .i64 0, .int .i64 0, .int .i64 0, .int .i64 0, .int .i64 0, .slice none 0 0, .slice none 0 0] 46)) (b := w.heap.size) (o := 0) (us := xG0) (Blk.part (P := []) HA0.out rfl) nxG0
  clear ox0 ox11 ox12 hA BA BR BO hW hsz h
  go_enter Tryz.func8, Tryz.ntmps8
  go_wp2_with fail
  obtain ⟨W0, hW0⟩ : ∃ W, W = ((w.alloc (.cells A 33)).alloc (.cells #[.slice none 0 0, .int .i64 0, .int .i64 0, .int .i64 0, .int .i64 0, .slice none 0 0, .int .i64 0, .int .i64 0, .int .i64 0, .int .i64 0, .int .i64 0, .slice none 0 0, .slice none 0 0] 46)).alloc (.cells #[.slice none 0 0, .int .i64 0, .int .i64 0, .int .i64 0, .int .i64 0, .slice none 0 0, .int .i64 0, .int .i64 0, .int .i64 0, .int .i64 0, .int .i64 0, .slice none 0 0, .slice none 0 0] 46) := ⟨_, rfl⟩
  rw [← hW0] at HA0 HR0 HO0 HW0 HZ0 ⊢ la
  obtain ⟨GA, hGA⟩ : ∃ g, w.heap.size = g := ⟨_, rfl⟩
  obtain ⟨GR, hGR⟩ : ∃ g, w.heap.size + 1 = g := ⟨_, rfl⟩
  obtain ⟨GO, hGO_⟩ : ∃ g, w.heap.size + 1 + 1 = g := ⟨_, rfl⟩
  rw [hGO_] at HO0 ⊢
  rw [hGR] at HR0 ⊢
  have HA0 := Lib.hid (show Blk W0 GA _ from hGA ▸ HA0.out)
  try simp only [hGA]
  have nAO : GO ≠ GA := by omega
  have nRO : GO ≠ GR := by omega
  have hGO : w.heap.size ≤ GO := by omega
  have zO : GO < W0.heap.size := by have := HZ0.out; omega
  have zR : GR < W0.heap.size := by have := HZ0.out; omega
  clear hW0 la
  ((with_reducible refine (to_Graphics _ (ds := xD0) (by omega) (by simpa using (HC.out.1).on HW0.out)).mono ?_); rintro e w1 ⟨rR0, xF0, rfl, oo, nd0, ge0, bb⟩)
  obtain ⟨rl0, hrl⟩ : ∃ l : List Value, rR0 = l.toArray := ⟨rR0.toList, by simp⟩
  subst hrl
  rw [List.toList_toArray] at oo
  have lrl0 : rl0.length = 11 := oo.len
  have HAw1 := Lib.hid (HA0.out.keep bb)
  have HOw1 := Lib.hid (HO0.out.keep bb)
  have HRw1 := Lib.hid (HR0.out.keep bb)
  have HWw1 := Lib.hid (on_of HW0.out bb)
  have sz0 := bb.size
  have Hqw1_0 := Lib.hid oo
  have lt0 : ∀ b ∈ xF0, b < w1.heap.size := oo.lt
  have nO0 : GO ∉ xF0 := fun hb => by have := ge0 _ hb;  omega
  have nR0 : GR ∉ xF0 := fun hb => by have := ge0 _ hb;  omega
  have nP0 : ∀ b ∈ xF0, b ≠ GO := fun b hb e => nO0 (e ▸ hb)
  have nQ0 : ∀ b ∈ xF0, b ≠ GR := fun b hb e => nR0 (e ▸ hb)
  clear oo bb
  have st := hstore_run (P := Tryz.prog) (t := 42) Tryz.sizeOf42 (w := w1) (b := GO) (o := 0) (A := []) (us := [.slice none 0 0, .int .i64 0, .int .i64 0, .int .i64 0, .int .i64 0, .slice none 0 0, .int .i64 0, .int .i64 0, .int .i64 0, .int .i64 0, .int .i64 0]) (R := [.slice none 0 0, .slice none 0 0]) (vs := rl0) HOw1.out rfl (by simp [lrl0]) lrl0 (fun v hv => OwnL.one Hqw1_0.out v hv)
  have ca11 := (Blk.others nAO rl0 0 HAw1.out).1 11 (.slice xa11 xs11.length xc11) (by simp [nxG0])
  have fz := HOw1.out.2.1
  go_wp2_with fail
  have xO := (show Blk (w1.setCells GO 0 rl0) GO (rl0 ++ (.slice none 0 0 :: (.slice none 0 0 :: ([])))) from by have := Blk.sets (P := []) (us := [.slice none 0 0, .int .i64 0, .int .i64 0, .int .i64 0, .int .i64 0, .slice none 0 0, .int .i64 0, .int .i64 0, .int .i64 0, .int .i64 0, .int .i64 0]) (vs := rl0) (R := [.slice none 0 0, .slice none 0 0]) (w := w1) (b := GO) (o := 0) (by simpa using HOw1.out) rfl (by simp [lrl0]); simpa using this)
  have xA := (Blk.others nAO rl0 0 HAw1.out)
  have xR := (Blk.others nRO rl0 0 HRw1.out)
  have xW := (Below.setCells hGO rl0 0 HWw1.out)
  have xq0 := (ownL_sets (Hqw1_0.out) nP0 0 rl0)
  have xs : ((w1.setCells GO 0 rl0)).heap.size = w1.heap.size := by simp [size_sets]
  generalize (w1.setCells GO 0 rl0) = V1 at xO xA xR xW xs xq0 ⊢
  have HOV1 := Lib.hid xO
  have HAV1 := Lib.hid xA
  have HRV1 := Lib.hid xR
  have HWV1 := Lib.hid xW
  have HZV1 := Lib.hid xs
  have HqV1_0 := Lib.hid xq0
  clear xO xA xR xW xs xq0
  clear st ca11 fz
  ((with_reducible refine (to_GraphicsS _ _ _ _ _ (by omega) ((HC.out.2.1).on HWV1.out)).mono ?_); rintro e w2 ⟨ra11, rc11, xF11, rfl, oo, nd1, ge1, bb⟩)
  have HAw2 := Lib.hid (HAV1.out.keep bb)
  have HOw2 := Lib.hid (HOV1.out.keep bb)
  have HRw2 := Lib.hid (HRV1.out.keep bb)
  have HWw2 := Lib.hid (on_of HWV1.out bb)
  have Hqw2_0 := Lib.hid ((HqV1_0.out).under bb)
  have sz1 := bb.size
  have Hqw2_1 := Lib.hid oo
  have lt1 : ∀ b ∈ xF11, b < w2.heap.size := oo.lt
  have nO1 : GO ∉ xF11 := fun hb => by have := ge1 _ hb; have := HZV1.out; omega
  have nR1 : GR ∉ xF11 := fun hb => by have := ge1 _ hb; have := HZV1.out; omega
  have nP1 : ∀ b ∈ xF11, b ≠ GO := fun b hb e => nO1 (e ▸ hb)
  have nQ1 : ∀ b ∈ xF11, b ≠ GR := fun b hb e => nR1 (e ▸ hb)
  clear oo bb
  have ca12 := HAw2.out.1 12 (.slice xa12 xs12.length xc12) (by simp [nxG0])
  have fz := HOw2.out.2.1
  have ko11 := HOw2.out.1 11 (.slice none 0 0) (by simp [lrl0])
  go_wp2_with fail
  have xO := (show Blk (w2.setCell ⟨GO, 11, none⟩ (.slice ra11 xs11.length rc11)) GO (rl0 ++ (.slice ra11 xs11.length rc11 :: (.slice none 0 0 :: ([])))) from by have := Blk.put (P := rl0 ++ []) (o := 11) (R := [.slice none 0 0]) (x := .slice none 0 0) (by simpa using HOw2.out) (by simp [lrl0]) (.slice ra11 xs11.length rc11); simpa using this)
  have xA := (HAw2.out.other nAO 11 (.slice ra11 xs11.length rc11))
  have xR := (HRw2.out.other nRO 11 (.slice ra11 xs11.length rc11))
  have xW := ((HWw2.out).setCell (p := ⟨GO, 11, none⟩) hGO (.slice ra11 xs11.length rc11))
  have xq0 := (ownL_set (Hqw2_0.out) nO0 11 (.slice ra11 xs11.length rc11))
  have xq1 := (own_setN (Hqw2_1.out) nO1 11 (.slice ra11 xs11.length rc11))
  have xs : ((w2.setCell ⟨GO, 11, none⟩ (.slice ra11 xs11.length rc11))).heap.size = w2.heap.size := by simp [size_sets]
  generalize (w2.setCell ⟨GO, 11, none⟩ (.slice ra11 xs11.length rc11)) = V2 at xO xA xR xW xs xq0 xq1 ⊢
  have HOV2 := Lib.hid xO
  have HAV2 := Lib.hid xA
  have HRV2 := Lib.hid xR
  have HWV2 := Lib.hid xW
  have HZV2 := Lib.hid xs
  have HqV2_0 := Lib.hid xq0
  have HqV2_1 := Lib.hid xq1
  clear xO xA xR xW xs xq0 xq1
  clear ca12 fz ko11
  ((with_reducible refine (to_ObjectS _ _ _ _ _ (by omega) ((HC.out.2.2).on HWV2.out)).mono ?_); rintro e w3 ⟨ra12, rc12, xF12, rfl, oo, nd2, ge2, bb⟩)
  have HAw3 := Lib.hid (HAV2.out.keep bb)
  have HOw3 := Lib.hid (HOV2.out.keep bb)
  have HRw3 := Lib.hid (HRV2.out.keep bb)
  have HWw3 := Lib.hid (on_of HWV2.out bb)
  have Hqw3_0 := Lib.hid ((HqV2_0.out).under bb)
  have Hqw3_1 := Lib.hid ((HqV2_1.out).under bb)
  have sz2 := bb.size
  have Hqw3_2 := Lib.hid oo
  have lt2 : ∀ b ∈ xF12, b < w3.heap.size := oo.lt
  have nO2 : GO ∉ xF12 := fun hb => by have := ge2 _ hb; have := HZV1.out; have := HZV2.out; omega
  have nR2 : GR ∉ xF12 := fun hb => by have := ge2 _ hb; have := HZV1.out; have := HZV2.out; omega
  have nP2 : ∀ b ∈ xF12, b ≠ GO := fun b hb e => nO2 (e ▸ hb)
  have nQ2 : ∀ b ∈ xF12, b ≠ GR := fun b hb e => nR2 (e ▸ hb)
  clear oo bb
  have fz := HOw3.out.2.1
  have ko12 := HOw3.out.1 12 (.slice none 0 0) (by simp [lrl0])
  go_wp2_with fail
  have xO := (show Blk (w3.setCell ⟨GO, 12, none⟩ (.slice ra12 xs12.length rc12)) GO (rl0 ++ (.slice ra11 xs11.length rc11 :: (.slice ra12 xs12.length rc12 :: ([])))) from by have := Blk.put (P := rl0 ++ [.slice ra11 xs11.length rc11]) (o := 12) (R := []) (x := .slice none 0 0) (by simpa using HOw3.out) (by simp [lrl0]) (.slice ra12 xs12.length rc12); simpa using this)
  have xA := (HAw3.out.other nAO 12 (.slice ra12 xs12.length rc12))
  have xR := (HRw3.out.other nRO 12 (.slice ra12 xs12.length rc12))
  have xW := ((HWw3.out).setCell (p := ⟨GO, 12, none⟩) hGO (.slice ra12 xs12.length rc12))
  have xq0 := (ownL_set (Hqw3_0.out) nO0 12 (.slice ra12 xs12.length rc12))
  have xq1 := (own_setN (Hqw3_1.out) nO1 12 (.slice ra12 xs12.length rc12))
  have xq2 := (own_setN (Hqw3_2.out) nO2 12 (.slice ra12 xs12.length rc12))
  have xs : ((w3.setCell ⟨GO, 12, none⟩ (.slice ra12 xs12.length rc12))).heap.size = w3.heap.size := by simp [size_sets]
  generalize (w3.setCell ⟨GO, 12, none⟩ (.slice ra12 xs12.length rc12)) = V3 at xO xA xR xW xs xq0 xq1 xq2 ⊢
  have HOV3 := Lib.hid xO
  have HAV3 := Lib.hid xA
  have HRV3 := Lib.hid xR
  have HWV3 := Lib.hid xW
  have HZV3 := Lib.hid xs
  have HqV3_0 := Lib.hid xq0
  have HqV3_1 := Lib.hid xq1
  have HqV3_2 := Lib.hid xq2
  clear xO xA xR xW xs xq0 xq1 xq2
  clear fz ko12
  obtain ⟨R, hR⟩ : ∃ R : Array Value, (rl0 ++ (.slice ra11 xs11.length rc11 :: (.slice ra12 xs12.length rc12 :: ([]))) : List Value).toArray = R := ⟨_, rfl⟩
  have RL : R.toList = rl0 ++ (.slice ra11 xs11.length rc11 :: (.slice ra12 xs12.length rc12 :: ([]))) := by subst hR; simp
  have lo := hload_run (P := Tryz.prog) (t := 46) Tryz.isAgg46 Tryz.sizeOf46 (w := V3) (b := GO) (o := 0) (us := rl0 ++ (.slice ra11 xs11.length rc11 :: (.slice ra12 xs12.length rc12 :: ([])))) (Blk.part (P := []) (R := []) (by simpa using HOV3.out) rfl) (by simp [lrl0])
  rw [hR] at lo
  have oR : OwnL V3 LPage (rl0 ++ (.slice ra11 xs11.length rc11 :: (.slice ra12 xs12.length rc12 :: ([])))) (xD0 ++ (.sl xs11 :: (.sl xs12 :: ([])))) (xF0 ++ (xF11 ++ (xF12 ++ ([])))) := OwnL.app (.cons (cs := [.slice ra11 xs11.length rc11]) (fp := xF11) HqV3_1.out (.cons (cs := [.slice ra12 xs12.length rc12]) (fp := xF12) HqV3_2.out (.nil))) HqV3_0.out
  have sto := hstore_run (P := Tryz.prog) (t := 46) Tryz.sizeOf46 (w := V3) (b := GR) (o := 0) (A := []) (us := [.slice none 0 0, .int .i64 0, .int .i64 0, .int .i64 0, .int .i64 0, .slice none 0 0, .int .i64 0, .int .i64 0, .int .i64 0, .int .i64 0, .int .i64 0, .slice none 0 0, .slice none 0 0]) (R := []) (vs := rl0 ++ (.slice ra11 xs11.length rc11 :: (.slice ra12 xs12.length rc12 :: ([])))) (by simpa using HRV3.out) rfl (by simp [lrl0]) (by simp [lrl0]) (fun v hv => oR.one v hv)
  rw [hR] at sto
  have BR5 := Blk.sets (P := []) (us := [.slice none 0 0, .int .i64 0, .int .i64 0, .int .i64 0, .int .i64 0, .slice none 0 0, .int .i64 0, .int .i64 0, .int .i64 0, .int .i64 0, .int .i64 0, .slice none 0 0, .slice none 0 0]) (vs := rl0 ++ (.slice ra11 xs11.length rc11 :: (.slice ra12 xs12.length rc12 :: ([])))) (R := []) (w := V3) (b := GR) (o := 0) (by simpa using HRV3.out) rfl (by simp [lrl0])
  have e5 := Below.setCells (b := GR) (by omega) (rl0 ++ (.slice ra11 xs11.length rc11 :: (.slice ra12 xs12.length rc12 :: ([])))) 0 HWV3.out
  have o5 := ownL_sets oR (b := GR) (fun x hx => (List.mem_append.1 hx).elim (fun h => nQ0 x h) (fun hx1 => (List.mem_append.1 hx1).elim (fun h => nQ1 x h) (fun hx2 => (List.mem_append.1 hx2).elim (fun h => nQ2 x h) (fun hx3 => absurd hx3 List.not_mem_nil)))) 0 (rl0 ++ (.slice ra11 xs11.length rc11 :: (.slice ra12 xs12.length rc12 :: ([]))))
  generalize V3.setCells GR 0 (rl0 ++ (.slice ra11 xs11.length rc11 :: (.slice ra12 xs12.length rc12 :: ([])))) = V5 at sto BR5 e5 o5
  have re := hload_run (P := Tryz.prog) (t := 46) Tryz.isAgg46 Tryz.sizeOf46 (w := V5) (b := GR) (o := 0) (us := rl0 ++ (.slice ra11 xs11.length rc11 :: (.slice ra12 xs12.length rc12 :: ([])))) (Blk.part (P := []) (R := []) (by simpa using BR5) rfl) (by simp [lrl0])
  rw [hR] at re
  rw [← RL] at o5
  have HF := Lib.hid (And.intro o5 (And.intro e5 re))
  clear oR BR5 e5 o5 re RL hR
  rw [lo]
  go_wp2_with fail
  try (rw [sto]; go_wp2_with fail)
  refine bodyPost_ret (v := .agg R) ?_ rfl ⟨R, _, rfl, HF.out.1, ?_, ?_, HF.out.2.1⟩
  · exact results_h Tryz.results8 (by rfl) HF.out.2.2
  · have hall : ∀ (i j : Nat), True := fun _ _ => trivial
    have n3 : ([] : List Nat).Nodup := List.nodup_nil
    have n2 : (xF12 ++ ([])).Nodup := List.nodup_append.2 ⟨nd2, n3, fun x hx y hy e => by have a1 := lt2 x hx; have a2 := (show ∀ y ∈ [], x < y from fun y hx => absurd hx List.not_mem_nil) y hy; omega⟩
    have n1 : (xF11 ++ (xF12 ++ ([]))).Nodup := List.nodup_append.2 ⟨nd1, n2, fun x hx y hy e => by have a1 := lt1 x hx; have a2 := (show ∀ y ∈ xF12 ++ ([]), x < y from fun y hx => (List.mem_append.1 hx).elim (fun h => by have := ge2 y h; have := HZV1.out; have := HZV2.out; omega) (fun hx3 => absurd hx3 List.not_mem_nil)) y hy; omega⟩
    have n0 : (xF0 ++ (xF11 ++ (xF12 ++ ([])))).Nodup := List.nodup_append.2 ⟨nd0, n1, fun x hx y hy e => by have a1 := lt0 x hx; have a2 := (show ∀ y ∈ xF11 ++ (xF12 ++ ([])), x < y from fun y hx => (List.mem_append.1 hx).elim (fun h => by have := ge1 y h; have := HZV1.out; have := HZV2.out; omega) (fun hx2 => (List.mem_append.1 hx2).elim (fun h => by have := ge2 y h; have := HZV1.out; have := HZV2.out; omega) (fun hx3 => absurd hx3 List.not_mem_nil))) y hy; omega⟩
    exact n0
  · intro b hx
    exact (List.mem_append.1 hx).elim (fun h => (fun h => by have := ge0 b h; have := HZV1.out; have := HZV2.out; omega) h) (fun hx1 => (List.mem_append.1 hx1).elim (fun h => (fun h => by have := ge1 b h; have := HZV1.out; have := HZV2.out; omega) h) (fun hx2 => (List.mem_append.1 hx2).elim (fun h => (fun h => by have := ge2 b h; have := HZV1.out; have := HZV2.out; omega) h) (fun hx3 => absurd hx3 List.not_mem_nil)))
end Go.Proofs.YtaapofbccanjhaaGreat.Own
namespace Go.Proofs.YtaapofbccanjhaaGreat.Own
open Go.ChangeShapes Go.WideShapes Go.ChangeAt Go.RowKit
open Kit Slabs Ints Stack Point Turn Push Take Opn SOp Scan
set_option linter.unusedVariables false
set_option linter.unusedSimpArgs false
set_option linter.unnecessarySimpa false
set_option maxRecDepth 100000
attribute [local go_sem ↓] hload_Graphics hload_Object hstore_Graphics hstore_Object hload_Page hstore_Page
set_option maxHeartbeats 8000000 in
theorem exec_short (w : World) {A : Array Value} {p : Pg} {fp : List Nat} (hb : bulkL p.dt ≤ 1048576) (h : OwnL w LPage A.toList p.dt fp) (s : ByteArray) (m : Int) (hz : s.size ≤ 1048576) (hv : pgB p = true) (hk : tkB s m = true) (hs : s.toList.isEmpty = false) (ho : opB s = false) (k : Nat) (hkk : opN s = some k) (hvv : taB (xI p.now.st) p.now.st.length (opK k : Nat) = false) :
    Calls Tryz.prog 7 #[.agg A, .agg #[.string s, .int .i64 m]] w (ExNew p s m w) := by
  obtain ⟨W, hW⟩ : ∃ W, (((w.alloc (.cells A 46)).alloc (.cells #[.string s, .int .i64 m] 50)).alloc (.cells #[.slice none 0 0, .int .i64 0, .int .i64 0, .int .i64 0, .int .i64 0, .slice none 0 0, .int .i64 0, .int .i64 0, .int .i64 0, .int .i64 0, .int .i64 0, .slice none 0 0, .slice none 0 0] 46)) = W := ⟨_, rfl⟩
  have BA : Blk W w.heap.size A.toList := by rw [← hW]; exact ((Blk.new w A 46 rfl).alloc _).alloc _
  have BT : Blk W (w.heap.size + 1) [.string s, .int .i64 m] := by rw [← hW]; exact (Blk.new (w.alloc (.cells A 46)) #[.string s, .int .i64 m] 50 (by simp)).alloc _
  have BR : Blk W (w.heap.size + 2) zeroP.toList := by rw [← hW]; exact Blk.new ((w.alloc (.cells A 46)).alloc (.cells #[.string s, .int .i64 m] 50)) zeroP 46 (by simp)
  have bW : Below w.heap.size w W := by rw [← hW]; go_grown
  obtain ⟨GP, hGP⟩ : ∃ x, w.heap.size = x := ⟨_, rfl⟩
  obtain ⟨GT, hGT⟩ : ∃ x, GP + 1 = x := ⟨_, rfl⟩
  obtain ⟨GR, hGR⟩ : ∃ x, GT + 1 = x := ⟨_, rfl⟩
  have HG := Lib.hid (fun (V : World) (hV : Below W.heap.size W V) => (show (Blk V GP A.toList ∧ Blk V GT [.string s, .int .i64 m] ∧ Blk V GR zeroP.toList) ∧ Below w.heap.size w V from by
    rw [← hGR, ← hGT, ← hGP]
    exact ⟨⟨BA.keep hV, BT.keep hV, BR.keep hV⟩, on_of bW hV⟩))
  have HA := Lib.hid (fun (V : World) (hV : Below w.heap.size w V) => h.under hV)
  have HL := Lib.hid (fun (V : World) (hV : Blk V GP A.toList) => var_load (P := Tryz.prog) (T := 46) Tryz.isAgg46 Tryz.sizeOf46 hV h rfl)
  have gGR : w.heap.size ≤ GR := by omega
  have HF := Lib.hid (fun (V w1 : World) (hV : Below W.heap.size W V) (b1 : Below V.heap.size V w1) (R : Array Value) (F : List Nat) (pr : PgRows w1 V.heap.size R.toList p F) (hr : exR p s m = none) => (show ∃ E, (hstore 46 ⟨GR, 0, none⟩ (.agg R)).run Tryz.prog w1 = .ok () E ∧ (hload 46 ⟨GR, 0, none⟩).run Tryz.prog E = .ok (.agg R) E ∧ ExNew p s m w (.returned (.tuple #[.agg R, .bool false])) E from by
    obtain ⟨f, o, n, sb⟩ := pr.own
    obtain ⟨E, st, ld, oE, nE, gE, bE⟩ := store_res (HG.out V hV).2 b1 (HG.out V hV).1.2.2 gGR o n (fun b hb => pr.ge b (sb b hb))
    obtain ⟨e1, e2⟩ := ex_same hr
    exact ⟨E, st, ld, R, f, by rw [e1], by rw [e2]; exact oE, nE, gE, bE⟩))
  obtain ⟨sa, sc, sf, hA0, so⟩ := st_of h
  obtain ⟨n, hN⟩ : ∃ n, p.now.st.length = n := ⟨_, rfl⟩
  obtain ⟨Y, hY⟩ : ∃ Y, xI p.now.st = Y := ⟨_, rfl⟩
  have HSt := Lib.hid (fun (V : World) (hV : Below W.heap.size W V) => (show V.cell? ⟨GP, 0, none⟩ = some (.slice sa n sc) ∧ Rd V (.slice sa n sc) n Y from by
    rw [← hN, ← hY]
    exact ⟨(HG.out V hV).1.1.1 0 _ hA0, rd_of (so.under (HG.out V hV).2)⟩))
  have HNY := Lib.hid (And.intro hN hY)
  clear hA0 so hN hY
  have HB := Lib.hid hb
  have HGT := Lib.hid hGT
  have HGR := Lib.hid hGR
  clear BA BT BR hb hGT hGR
  go_enter Tryz.func7, Tryz.ntmps7
  go_upto_region 1 with (fail)
  have zW : w.heap.size ≤ W.heap.size := bW.size
  have gPW : GP < W.heap.size := (HG.out W (Below.refl _ _)).1.1.2.2
  have HbW := Lib.hid bW
  rw [HGT.out, HGR.out]
  clear hW hGP HGT HGR bW h
  have ra := HL.out W (HG.out W (Below.refl _ _)).1.1
  have HP := Lib.hid (fun (V : World) (hV : Below W.heap.size W V) => pg_spec V HB.out (HA.out V (HG.out V hV).2))
  have HCl := Lib.hid (fun (V : World) (hV : Below W.heap.size W V) => copy_Page V HB.out (HA.out V (HG.out V hV).2))
  · rw [hv] at HP
    have HT := Lib.hid (fun (V : World) => tok_spec s m V (by omega))
    · rw [hk] at HT
      go_wp2_with fail
      ((with_reducible refine (HP.out W (Below.refl _ _)).mono ?_); rintro e w1 ⟨rfl, b1⟩)
      have t0 := (HG.out w1 b1).1.2.1.1 0 _ rfl
      have t1 := (HG.out w1 b1).1.2.1.1 1 _ rfl
      have HB1 := Lib.hid b1
      clear ra b1
      go_wp2_with fail
      ((with_reducible refine (HT.out w1).mono ?_); rintro e w2 ⟨rfl, b2⟩)
      have b2 := on_of HB1.out b2
      have r2 := HL.out w2 (HG.out w2 b2).1.1
      have HB2 := Lib.hid b2
      clear t0 t1 b2
      go_wp2_with fail
      ((with_reducible refine (HCl.out w2 HB2.out).mono ?_); rintro e w3 ⟨R1, F1, rfl, p1, b3⟩)
      obtain ⟨f1, o1, _, _⟩ := p1.own
      obtain ⟨E, st, BX, cx, zx⟩ := var_new (P := Tryz.prog) (T := 46) Tryz.sizeOf46 w3 zeroP rfl (R := R1) o1 rfl
      have z3 := b3.size
      have z2 := HB2.out.size
      obtain ⟨O, hO⟩ : ∃ O, w3.heap.size = O := ⟨_, rfl⟩
      rw [hO] at st BX
      have PA : PgAt E w2.heap.size O p := at_of_rows (p1.under cx) BX (fun hx => by have := p1.lt O hx; omega)
      have bE := on_of b3 cx
      have t0 := (HG.out E (on_of HB2.out bE)).1.2.1.1 0 _ rfl
      have t1 := (HG.out E (on_of HB2.out bE)).1.2.1.1 1 _ rfl
      obtain ⟨p0, d0, r0, p5, d5, Q5, p11, d11, Q11, r11, p12, d12, Q12, r12, hFl⟩ := PA.flat
      have ko := hFl.blk.1 0 _ rfl
      have HFl := Lib.hid hFl
      have HEW := Lib.hid (on_of HB2.out bE)
      obtain ⟨hStc, hStr⟩ := HSt.out E HEW.out
      have HRd := Lib.hid hStr
      have HOB := Lib.hid (fun (V : World) (hb : Below E.heap.size E V) => (show V.cell? ⟨O, 0, none⟩ = some (.slice p0 p.now.st.length d0) ∧ ∀ o, V.frozen? ⟨O, o, none⟩ = false from ⟨(hFl.blk.keep hb).1 0 _ rfl, (hFl.blk.keep hb).2.1⟩))
      have hBE : w2.heap.size ≤ E.heap.size := bE.size
      have hBO : w2.heap.size ≤ O := by omega
      have hOE : O < E.heap.size := BX.2.2
      obtain ⟨hfit, hst⟩ := fit_of hv
      rw [HNY.out.1, HNY.out.2] at hst
      have hn12 : n ≤ 12 := by simp only [stB, Bool.and_eq_true, decide_eq_true_eq] at hst; exact hst.1
      obtain ⟨r, hr0⟩ : ∃ r, exS p s m = r := ⟨_, rfl⟩
      have HRr := Lib.hid hr0
      have HTk := Lib.hid (tk_spec s E)
      have HE := Lib.hid (And.intro bE (on_of HB2.out bE))
      have zO : w2.heap.size ≤ O := by omega
      unfold exS at hr0
      rw [HNY.out.1, HNY.out.2] at hr0
      clear r2 p1 o1 b3 cx PA BX bE hFl hStr ko
      rw [if_neg (by rw [hs]; decide)] at hr0
      rw [if_neg (by rw [ho]; decide)] at hr0
      have HIs := Lib.hid (isop_spec E s)
      rw [ho] at HIs
      rw [hkk] at hr0
      simp only at hr0
      have hk11 := opN_le hkk
      have htk : tkN s = (opK k : Nat) := by simp [tkN, hkk]
      rw [htk] at HTk
      rw [HNY.out.1, HNY.out.2] at hvv
      rw [hvv] at hr0
      have hx := nums_of hst
      have hT : Calls Tryz.prog 30 #[.slice sa n sc, .int .i64 (opK k : Nat)] E (fun e w' => ∃ a1 k1 c1 a2 k2 c2, e = .returned (.tuple #[.slice a1 k1 c1, .slice a2 k2 c2, .bool false]) ∧ Below E.heap.size E w' ∧ TkQ w2.heap.size O p E Y n (opK k) false w' (.slice a1 k1 c1) (.slice a2 k2 c2)) := by
        refine (take_spec E _ n Y (opK k : Nat) (by omega) HRd.out).mono ?_
        rintro e w' ⟨u1, u2, rfl, r1, r2, bb⟩
        obtain ⟨a1, c1, e1⟩ := slab_sl (Slab.of_owns r1 (ic_len _))
        obtain ⟨a2, c2, e2⟩ := slab_sl (Slab.of_owns r2 (ic_len _))
        subst e1 e2
        exact ⟨_, _, _, _, _, _, by rw [hvv], bb, HFl.out.take hBE hBO (Below.refl _ _) bb hvv r1 r2⟩
      have hge : (0 : Int) ≤ ((opK k : Nat) : Int) := by omega
      have hr1 : r = none := hr0.symm
      subst hr1
      obtain ⟨kk, hkkk⟩ : ∃ x, opK k = x := ⟨_, rfl⟩
      simp only [hkkk] at hT hge HTk
      have H50 := Lib.hid hT
      clear hr0 ho hkk htk hT hkkk hvv hx
      go_wp2_with fail
      clear st
      ((with_reducible refine (HTk.out).mono ?_); rintro e w4 ⟨rfl, rfl⟩)
      go_wp2_with fail
      ((with_reducible refine (HIs.out).mono ?_); rintro e w4 ⟨rfl, rfl⟩)
      go_wp2_with fail
      ((with_reducible refine (H50.out).mono ?_); rintro e w4 ⟨a1, k1, c1, a2, k2, c2, rfl, b5, q5⟩)
      obtain ⟨j0, fj⟩ := HOB.out w4 b5
      go_upto_region 23 with (fail)
      unfold TkQ at q5
      generalize w4.setCell ⟨O, 0, none⟩ (.slice a1 k1 c1) = w4 at q5 ⊢
      have b4 := q5.1
      have p4 : ∀ P', (none : Option Pg) = some P' → PgOwn w4 w2.heap.size O P' := fun P' hP => by cases hP
      clear hStc t0 t1 hO hOE q5 b5 j0 fj
      have b24 : Below w2.heap.size w2 w4 := HE.out.1.trans b4
      have bW4 := on_of HB2.out b24
      have hr : exR p s m = none := by simp [exR_S, hv, hk, HRr.out]
      have r4 := HL.out w4 (HG.out w4 bW4).1.1
      have HB4 := Lib.hid bW4
      clear b4 p4 b24 bW4
      go_wp2_with fail
      ((with_reducible refine (HCl.out w4 HB4.out).mono ?_); rintro e w5 ⟨R, F, rfl, pr, b5⟩)
      obtain ⟨E2, st, ld, hE⟩ := HF.out w4 w5 HB4.out b5 R F pr hr
      have HEE := Lib.hid hE
      clear r4 pr b5 hE
      go_wp2
      refine bodyPost_ret (results_h2 Tryz.results10 (by rfl) (by rfl) ld) rfl ?_
      exact HEE.out
set_option maxHeartbeats 8000000 in
theorem exec_change (w : World) {A : Array Value} {p : Pg} {fp : List Nat} (hb : bulkL p.dt ≤ 1048576) (h : OwnL w LPage A.toList p.dt fp) (s : ByteArray) (m : Int) (hz : s.size ≤ 1048576) (hv : pgB p = true) (hk : tkB s m = true) (hs : s.toList.isEmpty = false) (ho : opB s = false) (k : Nat) (hkk : opN s = some k) (hvv : taB (xI p.now.st) p.now.st.length (opK k : Nat) = true) (hd : isDr k = false) :
    Calls Tryz.prog 7 #[.agg A, .agg #[.string s, .int .i64 m]] w (ExNew p s m w) := by
  obtain ⟨W, hW⟩ : ∃ W, (((w.alloc (.cells A 46)).alloc (.cells #[.string s, .int .i64 m] 50)).alloc (.cells #[.slice none 0 0, .int .i64 0, .int .i64 0, .int .i64 0, .int .i64 0, .slice none 0 0, .int .i64 0, .int .i64 0, .int .i64 0, .int .i64 0, .int .i64 0, .slice none 0 0, .slice none 0 0] 46)) = W := ⟨_, rfl⟩
  have BA : Blk W w.heap.size A.toList := by rw [← hW]; exact ((Blk.new w A 46 rfl).alloc _).alloc _
  have BT : Blk W (w.heap.size + 1) [.string s, .int .i64 m] := by rw [← hW]; exact (Blk.new (w.alloc (.cells A 46)) #[.string s, .int .i64 m] 50 (by simp)).alloc _
  have BR : Blk W (w.heap.size + 2) zeroP.toList := by rw [← hW]; exact Blk.new ((w.alloc (.cells A 46)).alloc (.cells #[.string s, .int .i64 m] 50)) zeroP 46 (by simp)
  have bW : Below w.heap.size w W := by rw [← hW]; go_grown
  obtain ⟨GP, hGP⟩ : ∃ x, w.heap.size = x := ⟨_, rfl⟩
  obtain ⟨GT, hGT⟩ : ∃ x, GP + 1 = x := ⟨_, rfl⟩
  obtain ⟨GR, hGR⟩ : ∃ x, GT + 1 = x := ⟨_, rfl⟩
  have HG := Lib.hid (fun (V : World) (hV : Below W.heap.size W V) => (show (Blk V GP A.toList ∧ Blk V GT [.string s, .int .i64 m] ∧ Blk V GR zeroP.toList) ∧ Below w.heap.size w V from by
    rw [← hGR, ← hGT, ← hGP]
    exact ⟨⟨BA.keep hV, BT.keep hV, BR.keep hV⟩, on_of bW hV⟩))
  have HA := Lib.hid (fun (V : World) (hV : Below w.heap.size w V) => h.under hV)
  have HL := Lib.hid (fun (V : World) (hV : Blk V GP A.toList) => var_load (P := Tryz.prog) (T := 46) Tryz.isAgg46 Tryz.sizeOf46 hV h rfl)
  have gGR : w.heap.size ≤ GR := by omega
  have HF := Lib.hid (fun (V w1 : World) (hV : Below W.heap.size W V) (b1 : Below V.heap.size V w1) (R : Array Value) (F : List Nat) (pr : PgRows w1 V.heap.size R.toList p F) (hr : exR p s m = none) => (show ∃ E, (hstore 46 ⟨GR, 0, none⟩ (.agg R)).run Tryz.prog w1 = .ok () E ∧ (hload 46 ⟨GR, 0, none⟩).run Tryz.prog E = .ok (.agg R) E ∧ ExNew p s m w (.returned (.tuple #[.agg R, .bool false])) E from by
    obtain ⟨f, o, n, sb⟩ := pr.own
    obtain ⟨E, st, ld, oE, nE, gE, bE⟩ := store_res (HG.out V hV).2 b1 (HG.out V hV).1.2.2 gGR o n (fun b hb => pr.ge b (sb b hb))
    obtain ⟨e1, e2⟩ := ex_same hr
    exact ⟨E, st, ld, R, f, by rw [e1], by rw [e2]; exact oE, nE, gE, bE⟩))
  obtain ⟨sa, sc, sf, hA0, so⟩ := st_of h
  obtain ⟨n, hN⟩ : ∃ n, p.now.st.length = n := ⟨_, rfl⟩
  obtain ⟨Y, hY⟩ : ∃ Y, xI p.now.st = Y := ⟨_, rfl⟩
  have HSt := Lib.hid (fun (V : World) (hV : Below W.heap.size W V) => (show V.cell? ⟨GP, 0, none⟩ = some (.slice sa n sc) ∧ Rd V (.slice sa n sc) n Y from by
    rw [← hN, ← hY]
    exact ⟨(HG.out V hV).1.1.1 0 _ hA0, rd_of (so.under (HG.out V hV).2)⟩))
  have HNY := Lib.hid (And.intro hN hY)
  clear hA0 so hN hY
  have HB := Lib.hid hb
  have HGT := Lib.hid hGT
  have HGR := Lib.hid hGR
  clear BA BT BR hb hGT hGR
  go_enter Tryz.func7, Tryz.ntmps7
  go_upto_region 1 with (fail)
  have zW : w.heap.size ≤ W.heap.size := bW.size
  have gPW : GP < W.heap.size := (HG.out W (Below.refl _ _)).1.1.2.2
  have HbW := Lib.hid bW
  rw [HGT.out, HGR.out]
  clear hW hGP HGT HGR bW h
  have ra := HL.out W (HG.out W (Below.refl _ _)).1.1
  have HP := Lib.hid (fun (V : World) (hV : Below W.heap.size W V) => pg_spec V HB.out (HA.out V (HG.out V hV).2))
  have HCl := Lib.hid (fun (V : World) (hV : Below W.heap.size W V) => copy_Page V HB.out (HA.out V (HG.out V hV).2))
  · rw [hv] at HP
    have HT := Lib.hid (fun (V : World) => tok_spec s m V (by omega))
    · rw [hk] at HT
      go_wp2_with fail
      ((with_reducible refine (HP.out W (Below.refl _ _)).mono ?_); rintro e w1 ⟨rfl, b1⟩)
      have t0 := (HG.out w1 b1).1.2.1.1 0 _ rfl
      have t1 := (HG.out w1 b1).1.2.1.1 1 _ rfl
      have HB1 := Lib.hid b1
      clear ra b1
      go_wp2_with fail
      ((with_reducible refine (HT.out w1).mono ?_); rintro e w2 ⟨rfl, b2⟩)
      have b2 := on_of HB1.out b2
      have r2 := HL.out w2 (HG.out w2 b2).1.1
      have HB2 := Lib.hid b2
      clear t0 t1 b2
      go_wp2_with fail
      ((with_reducible refine (HCl.out w2 HB2.out).mono ?_); rintro e w3 ⟨R1, F1, rfl, p1, b3⟩)
      obtain ⟨f1, o1, _, _⟩ := p1.own
      obtain ⟨E, st, BX, cx, zx⟩ := var_new (P := Tryz.prog) (T := 46) Tryz.sizeOf46 w3 zeroP rfl (R := R1) o1 rfl
      have z3 := b3.size
      have z2 := HB2.out.size
      obtain ⟨O, hO⟩ : ∃ O, w3.heap.size = O := ⟨_, rfl⟩
      rw [hO] at st BX
      have PA : PgAt E w2.heap.size O p := at_of_rows (p1.under cx) BX (fun hx => by have := p1.lt O hx; omega)
      have bE := on_of b3 cx
      have t0 := (HG.out E (on_of HB2.out bE)).1.2.1.1 0 _ rfl
      have t1 := (HG.out E (on_of HB2.out bE)).1.2.1.1 1 _ rfl
      obtain ⟨p0, d0, r0, p5, d5, Q5, p11, d11, Q11, r11, p12, d12, Q12, r12, hFl⟩ := PA.flat
      have ko := hFl.blk.1 0 _ rfl
      have HFl := Lib.hid hFl
      have HEW := Lib.hid (on_of HB2.out bE)
      obtain ⟨hStc, hStr⟩ := HSt.out E HEW.out
      have HRd := Lib.hid hStr
      have HOB := Lib.hid (fun (V : World) (hb : Below E.heap.size E V) => (show V.cell? ⟨O, 0, none⟩ = some (.slice p0 p.now.st.length d0) ∧ ∀ o, V.frozen? ⟨O, o, none⟩ = false from ⟨(hFl.blk.keep hb).1 0 _ rfl, (hFl.blk.keep hb).2.1⟩))
      have hBE : w2.heap.size ≤ E.heap.size := bE.size
      have hBO : w2.heap.size ≤ O := by omega
      have hOE : O < E.heap.size := BX.2.2
      obtain ⟨hfit, hst⟩ := fit_of hv
      rw [HNY.out.1, HNY.out.2] at hst
      have hn12 : n ≤ 12 := by simp only [stB, Bool.and_eq_true, decide_eq_true_eq] at hst; exact hst.1
      obtain ⟨r, hr0⟩ : ∃ r, exS p s m = r := ⟨_, rfl⟩
      have HRr := Lib.hid hr0
      have HTk := Lib.hid (tk_spec s E)
      have HE := Lib.hid (And.intro bE (on_of HB2.out bE))
      have zO : w2.heap.size ≤ O := by omega
      unfold exS at hr0
      rw [HNY.out.1, HNY.out.2] at hr0
      clear r2 p1 o1 b3 cx PA BX bE hFl hStr ko
      rw [if_neg (by rw [hs]; decide)] at hr0
      rw [if_neg (by rw [ho]; decide)] at hr0
      have HIs := Lib.hid (isop_spec E s)
      rw [ho] at HIs
      rw [hkk] at hr0
      simp only at hr0
      have hk11 := opN_le hkk
      have htk : tkN s = (opK k : Nat) := by simp [tkN, hkk]
      rw [htk] at HTk
      rw [HNY.out.1, HNY.out.2] at hvv
      rw [hvv] at hr0
      have hx := nums_of hst
      have hT : Calls Tryz.prog 30 #[.slice sa n sc, .int .i64 (opK k : Nat)] E (fun e w' => ∃ a1 k1 c1 a2 k2 c2, e = .returned (.tuple #[.slice a1 k1 c1, .slice a2 k2 c2, .bool true]) ∧ Below E.heap.size E w' ∧ TkQ w2.heap.size O p E Y n (opK k) true w' (.slice a1 k1 c1) (.slice a2 k2 c2)) := by
        refine (take_spec E _ n Y (opK k : Nat) (by omega) HRd.out).mono ?_
        rintro e w' ⟨u1, u2, rfl, r1, r2, bb⟩
        obtain ⟨a1, c1, e1⟩ := slab_sl (Slab.of_owns r1 (ic_len _))
        obtain ⟨a2, c2, e2⟩ := slab_sl (Slab.of_owns r2 (ic_len _))
        subst e1 e2
        exact ⟨_, _, _, _, _, _, by rw [hvv], bb, HFl.out.take hBE hBO (Below.refl _ _) bb hvv r1 r2⟩
      have hge : (0 : Int) ≤ ((opK k : Nat) : Int) := by omega
      rw [if_pos rfl] at hr0
      have hkn : opK k ≤ n := by simp only [taB, Bool.and_eq_true, decide_eq_true_eq] at hvv; omega
      have hcl := fun (w4 : World) (u1 u2 : Value) (q5 : TkQ w2.heap.size O p E Y n (opK k) true w4 u1 u2) => (show Calls Tryz.prog 32 #[.pointer (some ⟨O, 0, none⟩), .string s, u2] (w4.setCell ⟨O, 0, none⟩ u1) (OpRes w2.heap.size O r (w4.setCell ⟨O, 0, none⟩ u1)) from by
        have q2 := q5.2 rfl
        have hcc := sp_change q2.1 (by have := q5.1.size; omega) hBO (hfit.stk (l := lst Y (n - opK k)) (by rw [lst_len]; omega)) s k hkk hd q2.2.1
        rw [hr0] at hcc
        exact hcc)
      obtain ⟨q0, q1, q2, q3, q4, q5, q6, q7, q8, q9, q10, q11⟩ := nm12 hkk
      simp only [isDr, Bool.or_eq_false_iff] at hd
      obtain ⟨⟨⟨⟨⟨n0, n1⟩, n2⟩, n3⟩, n4⟩, n6⟩ := hd
      rw [n0] at q0
      rw [n1] at q1
      rw [n2] at q2
      rw [n3] at q3
      rw [n4] at q4
      rw [n6] at q6
      clear q5 q7 q8 q9 q10 q11 n0 n1 n2 n3 n4 n6
      obtain ⟨kk, hkkk⟩ : ∃ x, opK k = x := ⟨_, rfl⟩
      simp only [hkkk] at hT hge HTk hcl
      have H50 := Lib.hid hT
      have HCL := Lib.hid hcl
      have gTE : GT < E.heap.size := (HG.out E HE.out.2).1.2.1.2.2
      have gTO : GT ≠ O := by have := (HG.out w2 HB2.out).1.2.1.2.2; omega
      clear hr0 ho hkk htk hT hkkk hvv hx hcl
      go_wp2_with fail
      clear st
      ((with_reducible refine (HTk.out).mono ?_); rintro e w4 ⟨rfl, rfl⟩)
      go_wp2_with fail
      ((with_reducible refine (HIs.out).mono ?_); rintro e w4 ⟨rfl, rfl⟩)
      go_wp2_with fail
      ((with_reducible refine (H50.out).mono ?_); rintro e w4 ⟨a1, k1, c1, a2, k2, c2, rfl, b5, q5⟩)
      obtain ⟨j0, fj⟩ := HOB.out w4 b5
      have y0 : (w4.setCell ⟨O, 0, none⟩ (.slice a1 k1 c1)).cell? ⟨GT, 0, none⟩ = some (.string s) := (set_ne2 gTO).trans ((cell_on b5 gTE).trans t0)
      have hcc := HCL.out w4 (.slice a1 k1 c1) (.slice a2 k2 c2) q5
      unfold TkQ at q5
      go_upto_region 13 with (fail)
      generalize w4.setCell ⟨O, 0, none⟩ (.slice a1 k1 c1) = V at q5 hcc y0 ⊢
      have HCC := Lib.hid hcc
      have HQ1 := Lib.hid q5.1
      clear hStc t0 t1 hO hOE q5 b5 j0 fj hcc
      go_wp2_with fail
      ((with_reducible refine (HCC.out).mono ?_); rintro e w4 ⟨rfl, b44, p4⟩)
      have b4 := HQ1.out.trans b44
      clear b44 y0
      have b24 : Below w2.heap.size w2 w4 := HE.out.1.trans b4
      have bW4 := on_of HB2.out b24
      cases r with
      | none =>
        have hr : exR p s m = none := by simp [exR_S, hv, hk, HRr.out]
        have r4 := HL.out w4 (HG.out w4 bW4).1.1
        have HB4 := Lib.hid bW4
        clear b4 p4 b24 bW4
        simp only [Option.isSome_none]
        go_wp2_with fail
        ((with_reducible refine (HCl.out w4 HB4.out).mono ?_); rintro e w5 ⟨R, F, rfl, pr, b5⟩)
        obtain ⟨E2, st, ld, hE⟩ := HF.out w4 w5 HB4.out b5 R F pr hr
        have HEE := Lib.hid hE
        clear r4 pr b5 hE
        go_wp2
        refine bodyPost_ret (results_h2 Tryz.results10 (by rfl) (by rfl) ld) rfl ?_
        exact HEE.out
      | some P' =>
        obtain ⟨R', f', BO, oO, nO, nXO, gO⟩ := p4 P' rfl
        have r4 := var_load (P := Tryz.prog) (T := 46) Tryz.isAgg46 Tryz.sizeOf46 BO oO rfl
        have HPP := Lib.hid (pg_spec w4 ((exP_len hv (exS_of HRr.out)).bulk (by omega) (by omega) (by omega) (by omega)) oO)
        have H4 := Lib.hid (And.intro BO (And.intro oO (And.intro nO (And.intro gO (And.intro b24 bW4)))))
        clear b4 p4 b24 bW4 BO oO nO nXO gO
        simp only [Option.isSome_some]
        cases hv' : pgB P'
        · have hr : exR p s m = none := by simp [exR_S, hv, hk, HRr.out, Option.filter, hv']
          rw [hv'] at HPP
          go_wp2_with fail
          ((with_reducible refine (HPP.out).mono ?_); rintro e w5 ⟨rfl, b5⟩)
          have b5W := on_of H4.out.2.2.2.2.2 b5
          have r5 := HL.out w5 (HG.out w5 b5W).1.1
          have HB5 := Lib.hid b5W
          clear r4 b5 b5W
          go_wp2_with fail
          ((with_reducible refine (HCl.out w5 HB5.out).mono ?_); rintro e w6 ⟨R, F, rfl, pr, b6⟩)
          obtain ⟨E2, st, ld, hE⟩ := HF.out w5 w6 HB5.out b6 R F pr hr
          have HEE := Lib.hid hE
          clear r5 pr b6 hE
          go_wp2
          refine bodyPost_ret (results_h2 Tryz.results10 (by rfl) (by rfl) ld) rfl ?_
          exact HEE.out
        · have hr : exR p s m = some P' := by simp [exR_S, hv, hk, HRr.out, Option.filter, hv']
          obtain ⟨e1, e2⟩ := ex_some hr
          rw [hv'] at HPP
          go_wp2_with fail
          ((with_reducible refine (HPP.out).mono ?_); rintro e w5 ⟨rfl, b5⟩)
          have BO5 := H4.out.1.keep b5
          have oO5 := H4.out.2.1.under b5
          have r5 := var_load (P := Tryz.prog) (T := 46) Tryz.isAgg46 Tryz.sizeOf46 BO5 oO5 rfl
          obtain ⟨E2, st, ld, oE, nE, gE, bE⟩ := store_res (HG.out w2 HB2.out).2 (on_of H4.out.2.2.2.2.1 b5) (HG.out w2 HB2.out).1.2.2 gGR oO5 H4.out.2.2.1 H4.out.2.2.2.1
          have HEE := Lib.hid (show ExNew p s m w (.returned (.tuple #[.agg R', .bool true])) E2 from ⟨R', f', by rw [e1], by rw [e2]; exact oE, nE, gE, bE⟩)
          clear r4 b5 BO5 oO5 oE nE gE bE
          go_wp2
          refine bodyPost_ret (results_h2 Tryz.results10 (by rfl) (by rfl) ld) rfl ?_
          exact HEE.out
end Go.Proofs.YtaapofbccanjhaaGreat.Own
