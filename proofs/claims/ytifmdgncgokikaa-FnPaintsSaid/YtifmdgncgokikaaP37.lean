/-
  Texts of this seat, laid together: Do10, DrawBox, ToO, SzO, Lw10, PlAll
-/
import Derived.WalkKit
import Derived.Deep.DeepCutAuto
import Derived.Deep.QuietTactic
import Derived.BigQuiet
import Derived.Deep.RegionHeld3
import Derived.Handy
import Derived.Test.YtifmdgncgokikaaP30
import Derived.Test.YtifmdgncgokikaaP15
import Derived.Test.YtifmdgncgokikaaP27
import Derived.Test.YtifmdgncgokikaaP14
import Derived.Test.YtifmdgncgokikaaP38
import Derived.Test.YtifmdgncgokikaaP28
import Derived.Test.YtifmdgncgokikaaP06
import Derived.Test.YtifmdgncgokikaaP13
namespace Go.Proofs.Ytifmdgncgokikaa.Ins
open Go.ChangeShapes Go.WideShapes Go.ChangeAt Go.RowKit
open Kit Point
open Go.Proofs.Ytifmdgncgokikaa.Own (Blk Ob grayB)
set_option linter.unusedVariables false
set_option linter.unusedSimpArgs false
set_option linter.unnecessarySimpa false
set_option maxRecDepth 100000
def odK (f : Nat → Int) : Nat → Int
  | 0 => 0
  | k + 1 => IntKind.i64.wrap (odK f k + f k)
def odV (l : List Pt) (g x0 y0 x1 y1 : Int) : Int := odK (fun k => dtV (orow l g x0 y0 x1 y1 (k : Int))) 32
theorem odK_succ (f : Nat → Int) (k : Nat) : odK f (k + 1) = wrap64 (odK f k + f k) := IntWalk.i64_left _
theorem orow_len (l : List Pt) (g x0 y0 x1 y1 y : Int) : (orow l g x0 y0 x1 y1 y).length ≤ l.length := by
  unfold orow
  split
  · have h1 := mtV_len (spsV l y) (obx l g x0 y0 x1 y1).x0 (obx l g x0 y0 x1 y1).x1
    have h2 := spsV_len l y
    omega
  · simp
set_option maxHeartbeats 2000000 in
theorem odots_impl (w : World) (a : Option Addr) (c : Nat) (l : List Pt) (g x0 y0 x1 y1 : Int) (hn : l.length ≤ 1048576) (h : PathAt w a l) :
    Calls Try.prog 22 #[.agg #[.slice a l.length c, .int .i64 g, .int .i64 x0, .int .i64 y0, .int .i64 x1, .int .i64 y1]] w fun e w' => e = .returned (.int .i64 (odV l g x0 y0 x1 y1)) ∧ Below w.heap.size w w' := by
  have HP := Lib.hid h
  have HO := Lib.hid (fun W y (h : PathAt W a l) => orow_impl W a c l g x0 y0 x1 y1 y hn h)
  have HL : Hid (∀ y, (orow l g x0 y0 x1 y1 y).length ≤ 1048576) := Lib.hid (fun y => Nat.le_trans (orow_len _ _ _ _ _ _ _) hn)
  unfold odV
  generalize hr : orow l g x0 y0 x1 y1 = r at *
  clear hr
  obtain ⟨f, hf⟩ : ∃ f : Nat → Int, (fun k : Nat => dtV (r (k : Int))) = f := ⟨_, rfl⟩
  have HF : Hid (∀ k : Nat, dtV (r (k : Int)) = f k) := Lib.hid (fun k => congrFun hf k)
  rw [hf]
  have HS : Hid (Blk (w.alloc (.cells #[.slice a l.length c, .int .i64 g, .int .i64 x0, .int .i64 y0, .int .i64 x1, .int .i64 y1] 30)) w.heap.size [.slice a l.length c, .int .i64 g, .int .i64 x0, .int .i64 y0, .int .i64 x1, .int .i64 y1] ∧ Below w.heap.size w (w.alloc (.cells #[.slice a l.length c, .int .i64 g, .int .i64 x0, .int .i64 y0, .int .i64 x1, .int .i64 y1] 30))) := Lib.hid ⟨Blk.new w _ 30 rfl, by go_grown⟩
  clear h hn hf
  go_enter Try.func22, Try.ntmps22
  go_upto_region 1 with fail
  refine gen_any9 (fun W => Blk W w.heap.size [.slice a l.length c, .int .i64 g, .int .i64 x0, .int .i64 y0, .int .i64 x1, .int .i64 y1] ∧ Below w.heap.size w W) HS.out ?_
  rintro W ⟨hA, hW⟩
  have HS := Lib.hid (And.intro hA hW)
  have HP := Lib.hid (HP.out.on hW)
  clear hA hW
  go_wp2
  go_loopw [3, 5] (fun v3 v5 wr => ∃ y : Nat, y ≤ 32 ∧ v5 = .int .i64 (y : Int) ∧ v3 = .int .i64 (odK f y) ∧ Below W.heap.size W wr) (fun v3 v5 _ => 32 - (intOf v5).toNat)
  case atStart => exact ⟨0, Nat.zero_le _, rfl, rfl, Below.refl _ _⟩
  case round =>
    obtain ⟨y, hy, rfl, rfl, hB⟩ := hrel
    have HC := Lib.hid (odK_succ f y)
    by_cases hlt : y < 32
    · have i1 : (y : Int) < 32 := by omega
      have HB := Lib.hid hB
      clear hB
      generalize odK f y = s at *
      have B := HS.out.1.keep HB.out
      have k0 := B.1 0 _ rfl
      have k1 := B.1 1 _ rfl
      have k2 := B.1 2 _ rfl
      have k3 := B.1 3 _ rfl
      have k4 := B.1 4 _ rfl
      have k5 := B.1 5 _ rfl
      clear B
      go_wp2_with fail
      clear k0 k1 k2 k3 k4 k5
      ((with_reducible refine (HO.out _ _ (HP.out.on HB.out)).mono ?_); rintro e w1 ⟨v, rfl, hv, bb⟩)
      obtain ⟨va, vc, rfl, hp⟩ := path_of_owns hv
      have HV := Lib.hid hp
      have HB1 := Lib.hid (on_of HB.out bb)
      clear hp hv bb
      go_wp2_with fail
      ((with_reducible refine (sdots_impl _ _ _ _ (HL.out _) HV.out).mono ?_); rintro e w2 ⟨rfl, bb⟩)
      rw [HF.out]
      have HB2 := Lib.hid (on_of HB1.out bb)
      clear bb
      generalize f y = t at *
      go_wp2
      go_roundw
      case rel => exact ⟨y + 1, by omega, by go_num, by rw [HC.out], HB2.out⟩
      case measure => simp [intOf]; omega
    · obtain rfl : y = 32 := by omega
      have HB := Lib.hid (on_of HS.out.2 hB)
      clear hB
      go_wp2
      go_ret
      exact ⟨rfl, HB.out⟩
end Go.Proofs.Ytifmdgncgokikaa.Ins
namespace Go.Proofs.Ytifmdgncgokikaa.Draw
open Go.ChangeShapes Go.WideShapes Go.ChangeAt Go.RowKit
open Kit
set_option linter.unusedVariables false
set_option linter.unusedSimpArgs false
set_option linter.unnecessarySimpa false
attribute [local go_sem ↓] run_mx run_mn
def BoxIn (x0 y0 x1 y1 : Int) : Prop := -4 ≤ x0 ∧ x0 ≤ x1 ∧ x1 ≤ 36 ∧ -4 ≤ y0 ∧ y0 ≤ y1 ∧ y1 ≤ 36
theorem box_in {x y u v : Int} (hx : InPage x) (hy : InPage y) (hu : InPage u) (hv : InPage v) : BoxIn (mn x u) (mn y v) (mx x u) (mx y v) := by
  unfold BoxIn mn mx; unfold InPage at *; omega
set_option maxHeartbeats 2000000 in
theorem box_on (W w0 w : World) (b : Nat) (a : Option Addr) (len cap : Nat) (z : List Int) (d : Drawn W a len cap z b w0 w) :
    Calls Try.prog 78 #[.pointer (some ⟨b, 0, none⟩)] w fun e w' => ∃ x0 y0 x1 y1 : Int, BoxIn x0 y0 x1 y1 ∧ e = .returned (.agg #[.int .i64 x0, .int .i64 y0, .int .i64 x1, .int .i64 y1]) ∧ Drawn W a len cap z b w0 w' := by
  have hne := d.ne
  have D := (d.alloc (.cells #[.int .i64 0, .int .i64 0, .int .i64 0, .int .i64 0] 28)).1.same
  have hW := Nat.le_trans d.1.far (Nat.le_of_lt d.1.here)
  have hw0 := d.2.size
  have HD := Lib.hid d
  clear d
  go_enter Try.func78, Try.ntmps78
  go_wp2_with fail
  (refine (point_on W _ _ b a len cap z D).mono ?_; rintro e w1 ⟨x, y, hx, hy, rfl, d1⟩)
  have hne1 := d1.ne
  have D1 := (d1.alloc (.cells #[.int .i64 x, .int .i64 y] 100)).1.same
  go_wp2_with fail
  (refine (point_on W _ _ b a len cap z D1).mono ?_; rintro e w2 ⟨u, v, hu, hv, rfl, d2⟩)
  obtain ⟨p0, p1, pf⟩ := Two.drawn (Two.new w1 100 x y) d2 hne1
  have d3 := (d1.alloc (.cells #[.int .i64 x, .int .i64 y] 100)).trans d2
  have r0 := d3.keeps (Four.newZero w 28 0 (by omega)) hne
  have r1 := d3.keeps (Four.newZero w 28 1 (by omega)) hne
  have r2 := d3.keeps (Four.newZero w 28 2 (by omega)) hne
  have r3 := d3.keeps (Four.newZero w 28 3 (by omega)) hne
  have rf : ∀ o, w2.frozen? ⟨w.heap.size, o, none⟩ = false := fun o => d3.thaws (by simp) (by simp [go_sem]) hne
  have hs1 : w.heap.size < w1.heap.size := by have := d1.2.size; simp at this; omega
  have hs2 : w1.heap.size < w2.heap.size := by have := d2.2.size; simp at this; omega
  have hs3 : w.heap.size < w2.heap.size := by omega
  have d4 := (HD.out.alloc (.cells #[.int .i64 0, .int .i64 0, .int .i64 0, .int .i64 0] 28)).trans d3
  clear d1 d2 d3 D D1
  go_wp2_with fail
  refine bodyPost_ret (by simp [results, Try.results78, go_sem, *]; try rfl) rfl ?_
  exact ⟨_, _, _, _, box_in hx hy hu hv, rfl, ((((d4.setNew hw0 hW hne _ _).setNew hw0 hW hne _ _).setNew hw0 hW hne _ _).setNew hw0 hW hne _ _).alloc _⟩
end Go.Proofs.Ytifmdgncgokikaa.Draw
namespace Go.Proofs.Ytifmdgncgokikaa.Own
open Go.ChangeShapes Go.WideShapes Go.ChangeAt Go.RowKit
open Kit Slabs Ints
set_option linter.unusedVariables false
set_option linter.unusedSimpArgs false
set_option linter.unnecessarySimpa false
set_option maxRecDepth 100000
attribute [local go_sem ↓] hload_Object
attribute [local go_sem ↓] hstore_Object
theorem to_Box (xx0_0 : Int) (xx1_0 : Int) (xx2_0 : Int) (xx3_0 : Int) (w : World) : Calls Try.prog 70 #[.agg #[.int .i64 xx0_0, .int .i64 xx1_0, .int .i64 xx2_0, .int .i64 xx3_0]] w fun e w' => e = .returned (.agg #[.int .i64 xx0_0, .int .i64 xx1_0, .int .i64 xx2_0, .int .i64 xx3_0]) ∧ Below w.heap.size w w' := by
  go_enter Try.func70, Try.ntmps70
  go_wp2
  go_returns
  exact ⟨rfl, by go_grown⟩
set_option maxHeartbeats 8000000 in
theorem to_Object (w : World) {A : Array Value} {ds : List Dt} (hb : bulkL ds ≤ 1048576) (h : CameL w LObject A.toList ds) :
    Calls Try.prog 32 #[.agg A] w fun e w' => ∃ (R : Array Value) (fp : List Nat), e = .returned (.agg R) ∧ OwnL w' LObject R.toList ds fp ∧ fp.Nodup ∧ (∀ b ∈ fp, w.heap.size ≤ b) ∧ Below w.heap.size w w' := by
  obtain ⟨xa0, xc0, xs0, xx1_0, xx2_0, xx2_1, xx2_2, xx2_3, hA, rfl, ⟨ox0, mox0⟩⟩ := invC_Object h
  simp only [bulkL_app, bulkL, Dt.bulk] at hb
  have BA : Blk (((w.alloc (.cells A 51)).alloc (.cells #[.slice none 0 0, .int .i64 0, .int .i64 0, .int .i64 0, .int .i64 0, .int .i64 0] 30)).alloc (.cells #[.slice none 0 0, .int .i64 0, .int .i64 0, .int .i64 0, .int .i64 0, .int .i64 0] 30)) w.heap.size A.toList := ((Blk.new w A 51 rfl).alloc _).alloc _
  have BR : Blk (((w.alloc (.cells A 51)).alloc (.cells #[.slice none 0 0, .int .i64 0, .int .i64 0, .int .i64 0, .int .i64 0, .int .i64 0] 30)).alloc (.cells #[.slice none 0 0, .int .i64 0, .int .i64 0, .int .i64 0, .int .i64 0, .int .i64 0] 30)) (w.heap.size + 1) [.slice none 0 0, .int .i64 0, .int .i64 0, .int .i64 0, .int .i64 0, .int .i64 0] := (Blk.new _ #[.slice none 0 0, .int .i64 0, .int .i64 0, .int .i64 0, .int .i64 0, .int .i64 0] 30 (by simp)).alloc _
  have BO : Blk (((w.alloc (.cells A 51)).alloc (.cells #[.slice none 0 0, .int .i64 0, .int .i64 0, .int .i64 0, .int .i64 0, .int .i64 0] 30)).alloc (.cells #[.slice none 0 0, .int .i64 0, .int .i64 0, .int .i64 0, .int .i64 0, .int .i64 0] 30)) (w.heap.size + 1 + 1) [.slice none 0 0, .int .i64 0, .int .i64 0, .int .i64 0, .int .i64 0, .int .i64 0] := Blk.new _ #[.slice none 0 0, .int .i64 0, .int .i64 0, .int .i64 0, .int .i64 0, .int .i64 0] 30 (by simp)
  have hW : Below w.heap.size w (((w.alloc (.cells A 51)).alloc (.cells #[.slice none 0 0, .int .i64 0, .int .i64 0, .int .i64 0, .int .i64 0, .int .i64 0] 30)).alloc (.cells #[.slice none 0 0, .int .i64 0, .int .i64 0, .int .i64 0, .int .i64 0, .int .i64 0] 30)) := by go_grown
  have hsz : (((w.alloc (.cells A 51)).alloc (.cells #[.slice none 0 0, .int .i64 0, .int .i64 0, .int .i64 0, .int .i64 0, .int .i64 0] 30)).alloc (.cells #[.slice none 0 0, .int .i64 0, .int .i64 0, .int .i64 0, .int .i64 0, .int .i64 0] 30)).heap.size = w.heap.size + 3 := by simp
  rw [hA] at BA
  have HC := Lib.hid (ox0)
  have HA0 := Lib.hid BA
  have HR0 := Lib.hid BR
  have HO0 := Lib.hid BO
  have HW0 := Lib.hid hW
  have HZ0 := Lib.hid hsz
  have ca0 : A[0]? = some (.slice xa0 xs0.length xc0) := by rw [← Array.getElem?_toList, hA]; rfl
  clear ox0 hA BA BR BO hW hsz h
  go_enter Try.func32, Try.ntmps32
  go_wp2_with fail
  obtain ⟨W0, hW0⟩ : ∃ W, W = ((w.alloc (.cells A 51)).alloc (.cells #[.slice none 0 0, .int .i64 0, .int .i64 0, .int .i64 0, .int .i64 0, .int .i64 0] 30)).alloc (.cells #[.slice none 0 0, .int .i64 0, .int .i64 0, .int .i64 0, .int .i64 0, .int .i64 0] 30) := ⟨_, rfl⟩
  rw [← hW0] at HA0 HR0 HO0 HW0 HZ0 ⊢
  obtain ⟨GA, hGA⟩ : ∃ g, w.heap.size = g := ⟨_, rfl⟩
  obtain ⟨GR, hGR⟩ : ∃ g, w.heap.size + 1 = g := ⟨_, rfl⟩
  obtain ⟨GO, hGO_⟩ : ∃ g, w.heap.size + 1 + 1 = g := ⟨_, rfl⟩
  rw [hGO_] at HO0 ⊢
  rw [hGR] at HR0 ⊢
  have HA0 := Lib.hid (show Blk W0 GA _ from hGA ▸ HA0.out)
  try simp only [hGA]
  have nAO : GO ≠ GA := by omega
  have nRO : GO ≠ GR := by omega
  have hGO : w.heap.size ≤ GO := by omega
  have zO : GO < W0.heap.size := by have := HZ0.out; omega
  have zR : GR < W0.heap.size := by have := HZ0.out; omega
  clear hW0 ca0
  ((with_reducible refine (toP_came _ _ _ _ _ (by omega) ((HC.out).on HW0.out)).mono ?_); rintro e w1 ⟨ra0, rc0, xF0, rfl, oo, nd0, ge0, bb⟩)
  have HAw1 := Lib.hid (HA0.out.keep bb)
  have HOw1 := Lib.hid (HO0.out.keep bb)
  have HRw1 := Lib.hid (HR0.out.keep bb)
  have HWw1 := Lib.hid (on_of HW0.out bb)
  have sz0 := bb.size
  have Hqw1_0 := Lib.hid oo
  have lt0 : ∀ b ∈ xF0, b < w1.heap.size := oo.lt
  have nO0 : GO ∉ xF0 := fun hb => by have := ge0 _ hb;  omega
  have nR0 : GR ∉ xF0 := fun hb => by have := ge0 _ hb;  omega
  have nP0 : ∀ b ∈ xF0, b ≠ GO := fun b hb e => nO0 (e ▸ hb)
  have nQ0 : ∀ b ∈ xF0, b ≠ GR := fun b hb e => nR0 (e ▸ hb)
  clear oo bb
  have ca1 := HAw1.out.1 1 (.int .i64 xx1_0) (by rfl)
  have ca2 := HAw1.out.1 2 (.int .i64 xx2_0) (by rfl)
  have ca3 := HAw1.out.1 3 (.int .i64 xx2_1) (by rfl)
  have ca4 := HAw1.out.1 4 (.int .i64 xx2_2) (by rfl)
  have ca5 := HAw1.out.1 5 (.int .i64 xx2_3) (by rfl)
  have fz := HOw1.out.2.1
  have ko0 := HOw1.out.1 0 (.slice none 0 0) (by simp)
  have ko1 := HOw1.out.1 1 (.int .i64 0) (by simp)
  go_wp2_with fail
  have xO := (show Blk ((w1.setCell ⟨GO, 0, none⟩ (.slice ra0 xs0.length rc0)).setCell ⟨GO, 1, none⟩ (.int .i64 xx1_0)) GO (.slice ra0 xs0.length rc0 :: (.int .i64 xx1_0 :: (.int .i64 0 :: (.int .i64 0 :: (.int .i64 0 :: (.int .i64 0 :: ([]))))))) from Blk.put (P := [.slice ra0 xs0.length rc0]) (R := [.int .i64 0, .int .i64 0, .int .i64 0, .int .i64 0]) (by simpa using (show Blk (w1.setCell ⟨GO, 0, none⟩ (.slice ra0 xs0.length rc0)) GO (.slice ra0 xs0.length rc0 :: (.int .i64 0 :: (.int .i64 0 :: (.int .i64 0 :: (.int .i64 0 :: (.int .i64 0 :: ([]))))))) from Blk.put (P := []) (R := [.int .i64 0, .int .i64 0, .int .i64 0, .int .i64 0, .int .i64 0]) (by simpa using HOw1.out) rfl (.slice ra0 xs0.length rc0))) rfl (.int .i64 xx1_0))
  have xA := ((HAw1.out.other nAO 0 (.slice ra0 xs0.length rc0)).other nAO 1 (.int .i64 xx1_0))
  have xR := ((HRw1.out.other nRO 0 (.slice ra0 xs0.length rc0)).other nRO 1 (.int .i64 xx1_0))
  have xW := ((((HWw1.out).setCell (p := ⟨GO, 0, none⟩) hGO (.slice ra0 xs0.length rc0))).setCell (p := ⟨GO, 1, none⟩) hGO (.int .i64 xx1_0))
  have xq0 := (own_setN (own_setN (Hqw1_0.out) nO0 0 (.slice ra0 xs0.length rc0)) nO0 1 (.int .i64 xx1_0))
  have xs : (((w1.setCell ⟨GO, 0, none⟩ (.slice ra0 xs0.length rc0)).setCell ⟨GO, 1, none⟩ (.int .i64 xx1_0))).heap.size = w1.heap.size := by simp [size_sets]
  generalize ((w1.setCell ⟨GO, 0, none⟩ (.slice ra0 xs0.length rc0)).setCell ⟨GO, 1, none⟩ (.int .i64 xx1_0)) = V1 at xO xA xR xW xs xq0 ⊢
  have HOV1 := Lib.hid xO
  have HAV1 := Lib.hid xA
  have HRV1 := Lib.hid xR
  have HWV1 := Lib.hid xW
  have HZV1 := Lib.hid xs
  have HqV1_0 := Lib.hid xq0
  clear xO xA xR xW xs xq0
  clear ca1 ca2 ca3 ca4 ca5 fz ko0 ko1
  ((with_reducible refine (to_Box xx2_0 xx2_1 xx2_2 xx2_3 _).mono ?_); rintro e w2 ⟨rfl, bb⟩)
  have HAw2 := Lib.hid (HAV1.out.keep bb)
  have HOw2 := Lib.hid (HOV1.out.keep bb)
  have HRw2 := Lib.hid (HRV1.out.keep bb)
  have HWw2 := Lib.hid (on_of HWV1.out bb)
  have Hqw2_0 := Lib.hid ((HqV1_0.out).under bb)
  have sz1 := bb.size
  clear bb
  have fz := HOw2.out.2.1
  have ko2 := HOw2.out.1 2 (.int .i64 0) (by simp)
  have ko3 := HOw2.out.1 3 (.int .i64 0) (by simp)
  have ko4 := HOw2.out.1 4 (.int .i64 0) (by simp)
  have ko5 := HOw2.out.1 5 (.int .i64 0) (by simp)
  go_wp2_with fail
  have xO := (show Blk ((((w2.setCell ⟨GO, 2, none⟩ (.int .i64 xx2_0)).setCell ⟨GO, 3, none⟩ (.int .i64 xx2_1)).setCell ⟨GO, 4, none⟩ (.int .i64 xx2_2)).setCell ⟨GO, 5, none⟩ (.int .i64 xx2_3)) GO (.slice ra0 xs0.length rc0 :: (.int .i64 xx1_0 :: (.int .i64 xx2_0 :: (.int .i64 xx2_1 :: (.int .i64 xx2_2 :: (.int .i64 xx2_3 :: ([]))))))) from Blk.put (P := [.slice ra0 xs0.length rc0, .int .i64 xx1_0, .int .i64 xx2_0, .int .i64 xx2_1, .int .i64 xx2_2]) (R := []) (by simpa using (show Blk (((w2.setCell ⟨GO, 2, none⟩ (.int .i64 xx2_0)).setCell ⟨GO, 3, none⟩ (.int .i64 xx2_1)).setCell ⟨GO, 4, none⟩ (.int .i64 xx2_2)) GO (.slice ra0 xs0.length rc0 :: (.int .i64 xx1_0 :: (.int .i64 xx2_0 :: (.int .i64 xx2_1 :: (.int .i64 xx2_2 :: (.int .i64 0 :: ([]))))))) from Blk.put (P := [.slice ra0 xs0.length rc0, .int .i64 xx1_0, .int .i64 xx2_0, .int .i64 xx2_1]) (R := [.int .i64 0]) (by simpa using (show Blk ((w2.setCell ⟨GO, 2, none⟩ (.int .i64 xx2_0)).setCell ⟨GO, 3, none⟩ (.int .i64 xx2_1)) GO (.slice ra0 xs0.length rc0 :: (.int .i64 xx1_0 :: (.int .i64 xx2_0 :: (.int .i64 xx2_1 :: (.int .i64 0 :: (.int .i64 0 :: ([]))))))) from Blk.put (P := [.slice ra0 xs0.length rc0, .int .i64 xx1_0, .int .i64 xx2_0]) (R := [.int .i64 0, .int .i64 0]) (by simpa using (show Blk (w2.setCell ⟨GO, 2, none⟩ (.int .i64 xx2_0)) GO (.slice ra0 xs0.length rc0 :: (.int .i64 xx1_0 :: (.int .i64 xx2_0 :: (.int .i64 0 :: (.int .i64 0 :: (.int .i64 0 :: ([]))))))) from Blk.put (P := [.slice ra0 xs0.length rc0, .int .i64 xx1_0]) (R := [.int .i64 0, .int .i64 0, .int .i64 0]) (by simpa using HOw2.out) rfl (.int .i64 xx2_0))) rfl (.int .i64 xx2_1))) rfl (.int .i64 xx2_2))) rfl (.int .i64 xx2_3))
  have xA := ((((HAw2.out.other nAO 2 (.int .i64 xx2_0)).other nAO 3 (.int .i64 xx2_1)).other nAO 4 (.int .i64 xx2_2)).other nAO 5 (.int .i64 xx2_3))
  have xR := ((((HRw2.out.other nRO 2 (.int .i64 xx2_0)).other nRO 3 (.int .i64 xx2_1)).other nRO 4 (.int .i64 xx2_2)).other nRO 5 (.int .i64 xx2_3))
  have xW := ((((((((HWw2.out).setCell (p := ⟨GO, 2, none⟩) hGO (.int .i64 xx2_0))).setCell (p := ⟨GO, 3, none⟩) hGO (.int .i64 xx2_1))).setCell (p := ⟨GO, 4, none⟩) hGO (.int .i64 xx2_2))).setCell (p := ⟨GO, 5, none⟩) hGO (.int .i64 xx2_3))
  have xq0 := (own_setN (own_setN (own_setN (own_setN (Hqw2_0.out) nO0 2 (.int .i64 xx2_0)) nO0 3 (.int .i64 xx2_1)) nO0 4 (.int .i64 xx2_2)) nO0 5 (.int .i64 xx2_3))
  have xs : (((((w2.setCell ⟨GO, 2, none⟩ (.int .i64 xx2_0)).setCell ⟨GO, 3, none⟩ (.int .i64 xx2_1)).setCell ⟨GO, 4, none⟩ (.int .i64 xx2_2)).setCell ⟨GO, 5, none⟩ (.int .i64 xx2_3))).heap.size = w2.heap.size := by simp [size_sets]
  generalize ((((w2.setCell ⟨GO, 2, none⟩ (.int .i64 xx2_0)).setCell ⟨GO, 3, none⟩ (.int .i64 xx2_1)).setCell ⟨GO, 4, none⟩ (.int .i64 xx2_2)).setCell ⟨GO, 5, none⟩ (.int .i64 xx2_3)) = V2 at xO xA xR xW xs xq0 ⊢
  have HOV2 := Lib.hid xO
  have HAV2 := Lib.hid xA
  have HRV2 := Lib.hid xR
  have HWV2 := Lib.hid xW
  have HZV2 := Lib.hid xs
  have HqV2_0 := Lib.hid xq0
  clear xO xA xR xW xs xq0
  clear fz ko2 ko3 ko4 ko5
  obtain ⟨R, hR⟩ : ∃ R : Array Value, (.slice ra0 xs0.length rc0 :: (.int .i64 xx1_0 :: (.int .i64 xx2_0 :: (.int .i64 xx2_1 :: (.int .i64 xx2_2 :: (.int .i64 xx2_3 :: ([])))))) : List Value).toArray = R := ⟨_, rfl⟩
  have RL : R.toList = .slice ra0 xs0.length rc0 :: (.int .i64 xx1_0 :: (.int .i64 xx2_0 :: (.int .i64 xx2_1 :: (.int .i64 xx2_2 :: (.int .i64 xx2_3 :: ([])))))) := by subst hR; simp
  have lo := hload_run (P := Try.prog) (t := 30) Try.isAgg30 Try.sizeOf30 (w := V2) (b := GO) (o := 0) (us := .slice ra0 xs0.length rc0 :: (.int .i64 xx1_0 :: (.int .i64 xx2_0 :: (.int .i64 xx2_1 :: (.int .i64 xx2_2 :: (.int .i64 xx2_3 :: ([]))))))) (Blk.part (P := []) (R := []) (by simpa using HOV2.out) rfl) (by simp )
  rw [hR] at lo
  have oR : OwnL V2 LObject (.slice ra0 xs0.length rc0 :: (.int .i64 xx1_0 :: (.int .i64 xx2_0 :: (.int .i64 xx2_1 :: (.int .i64 xx2_2 :: (.int .i64 xx2_3 :: ([]))))))) (.sl xs0 :: (.int xx1_0 :: (.int xx2_0 :: (.int xx2_1 :: (.int xx2_2 :: (.int xx2_3 :: ([]))))))) (xF0 ++ ([])) := .cons (cs := [.slice ra0 xs0.length rc0]) (fp := xF0) HqV2_0.out (.cons (cs := [.int .i64 xx1_0]) (fp := []) (.int xx1_0) (.cons (cs := [.int .i64 xx2_0]) (fp := []) (.int xx2_0) (.cons (cs := [.int .i64 xx2_1]) (fp := []) (.int xx2_1) (.cons (cs := [.int .i64 xx2_2]) (fp := []) (.int xx2_2) (.cons (cs := [.int .i64 xx2_3]) (fp := []) (.int xx2_3) (.nil))))))
  have sto := hstore_run (P := Try.prog) (t := 30) Try.sizeOf30 (w := V2) (b := GR) (o := 0) (A := []) (us := [.slice none 0 0, .int .i64 0, .int .i64 0, .int .i64 0, .int .i64 0, .int .i64 0]) (R := []) (vs := .slice ra0 xs0.length rc0 :: (.int .i64 xx1_0 :: (.int .i64 xx2_0 :: (.int .i64 xx2_1 :: (.int .i64 xx2_2 :: (.int .i64 xx2_3 :: ([]))))))) (by simpa using HRV2.out) rfl (by simp ) (by simp ) (fun v hv => oR.one v hv)
  rw [hR] at sto
  have BR5 := Blk.sets (P := []) (us := [.slice none 0 0, .int .i64 0, .int .i64 0, .int .i64 0, .int .i64 0, .int .i64 0]) (vs := .slice ra0 xs0.length rc0 :: (.int .i64 xx1_0 :: (.int .i64 xx2_0 :: (.int .i64 xx2_1 :: (.int .i64 xx2_2 :: (.int .i64 xx2_3 :: ([]))))))) (R := []) (w := V2) (b := GR) (o := 0) (by simpa using HRV2.out) rfl (by simp )
  have e5 := Below.setCells (b := GR) (by omega) (.slice ra0 xs0.length rc0 :: (.int .i64 xx1_0 :: (.int .i64 xx2_0 :: (.int .i64 xx2_1 :: (.int .i64 xx2_2 :: (.int .i64 xx2_3 :: ([]))))))) 0 HWV2.out
  have o5 := ownL_sets oR (b := GR) (fun x hx => (List.mem_append.1 hx).elim (fun h => nQ0 x h) (fun hx1 => absurd hx1 List.not_mem_nil)) 0 (.slice ra0 xs0.length rc0 :: (.int .i64 xx1_0 :: (.int .i64 xx2_0 :: (.int .i64 xx2_1 :: (.int .i64 xx2_2 :: (.int .i64 xx2_3 :: ([])))))))
  generalize V2.setCells GR 0 (.slice ra0 xs0.length rc0 :: (.int .i64 xx1_0 :: (.int .i64 xx2_0 :: (.int .i64 xx2_1 :: (.int .i64 xx2_2 :: (.int .i64 xx2_3 :: ([]))))))) = V5 at sto BR5 e5 o5
  have re := hload_run (P := Try.prog) (t := 30) Try.isAgg30 Try.sizeOf30 (w := V5) (b := GR) (o := 0) (us := .slice ra0 xs0.length rc0 :: (.int .i64 xx1_0 :: (.int .i64 xx2_0 :: (.int .i64 xx2_1 :: (.int .i64 xx2_2 :: (.int .i64 xx2_3 :: ([]))))))) (Blk.part (P := []) (R := []) (by simpa using BR5) rfl) (by simp )
  rw [hR] at re
  rw [← RL] at o5
  have HF := Lib.hid (And.intro o5 (And.intro e5 re))
  clear oR BR5 e5 o5 re RL hR
  rw [lo]
  go_wp2_with fail
  try (rw [sto]; go_wp2_with fail)
  refine bodyPost_ret (v := .agg R) ?_ rfl ⟨R, _, rfl, HF.out.1, ?_, ?_, HF.out.2.1⟩
  · exact results_h Try.results32 (by rfl) HF.out.2.2
  · have hall : ∀ (i j : Nat), True := fun _ _ => trivial
    have n1 : ([] : List Nat).Nodup := List.nodup_nil
    have n0 : (xF0 ++ ([])).Nodup := List.nodup_append.2 ⟨nd0, n1, fun x hx y hy e => by have a1 := lt0 x hx; have a2 := (show ∀ y ∈ [], x < y from fun y hx => absurd hx List.not_mem_nil) y hy; omega⟩
    exact n0
  · intro b hx
    exact (List.mem_append.1 hx).elim (fun h => (fun h => by have := ge0 b h; have := HZV1.out; omega) h) (fun hx1 => absurd hx1 List.not_mem_nil)
end Go.Proofs.Ytifmdgncgokikaa.Own
namespace Go.Proofs.Ytifmdgncgokikaa.Own
open Go.ChangeShapes Go.WideShapes Go.ChangeAt Go.RowKit
open Kit Slabs Ints
set_option linter.unusedVariables false
set_option linter.unusedSimpArgs false
set_option linter.unnecessarySimpa false
set_option maxRecDepth 100000
set_option maxHeartbeats 4000000 in
theorem sz_Object (w : World) {A : Array Value} {ds : List Dt} (h : CameL w LObject A.toList ds) (l : Int) (l0 : 0 ≤ l) (l1 : l ≤ 1048576) :
    Calls Try.prog 30 #[.agg A, .int .i64 l] w fun e w' => e = .returned (.int .i64 (szv l (bulkL ds))) ∧ Below w.heap.size w w' := by
  obtain ⟨xa0, xc0, xs0, xx1_0, xx2_0, xx2_1, xx2_2, xx2_3, hA, rfl, ⟨ox0, mox0⟩⟩ := invC_Object h
  have hbk : bulkL (.sl xs0 :: (.int xx1_0 :: (.int xx2_0 :: (.int xx2_1 :: (.int xx2_2 :: (.int xx2_3 :: ([]))))))) = (xs0.length + bulkL xs0) := by simp only [bulkL_app, bulkL, Dt.bulk]; omega
  rw [hbk]
  obtain ⟨y1, q1⟩ : ∃ x, szv l (xs0.length + bulkL xs0) = x := ⟨_, rfl⟩
  have BA : Blk (w.alloc (.cells A 51)) w.heap.size A.toList := Blk.new w A 51 rfl
  have hW : Below w.heap.size w (w.alloc (.cells A 51)) := by go_grown
  rw [hA] at BA
  have HO := Lib.hid (ox0)
  have HA0 := Lib.hid BA
  have HW0 := Lib.hid hW
  by_cases c1 : y1 < 0
  · have u : y1 = -1 := by rw [← q1] at c1 ⊢; unfold szv at c1 ⊢; split at c1 <;> first | rfl | omega
    have HZ := Lib.hid (q1.trans u)
    clear u
    have ca0 : A[0]? = some (.slice xa0 xs0.length xc0) := by rw [← Array.getElem?_toList, hA]; rfl
    clear ox0 hA BA hW h hbk
    go_enter Try.func30, Try.ntmps30
    go_wp2_with fail
    ((with_reducible refine (sz_PointS _ ((HO.out).on HW0.out) mox0 l (by omega) (by omega)).mono ?_); rintro e w1 ⟨rfl, b1⟩)
    rw [q1]
    have HW1 := Lib.hid (on_of HW0.out b1)
    have HA1 := Lib.hid (HA0.out.keep b1)
    clear b1 ca0
    clear q1
    go_wp2
    go_ret
    exact ⟨ret_int HZ.out.symm, HW1.out⟩
  · have d1 : 0 ≤ y1 := by omega
    have e1 : y1 ≤ 1048576 := by have := szv_le (a := (xs0.length + bulkL xs0)) (show 0 ≤ l by omega); rw [q1] at this; omega
    have HZ := Lib.hid q1
    have ca0 : A[0]? = some (.slice xa0 xs0.length xc0) := by rw [← Array.getElem?_toList, hA]; rfl
    clear ox0 hA BA hW h hbk
    go_enter Try.func30, Try.ntmps30
    go_wp2_with fail
    ((with_reducible refine (sz_PointS _ ((HO.out).on HW0.out) mox0 l (by omega) (by omega)).mono ?_); rintro e w1 ⟨rfl, b1⟩)
    rw [q1]
    have HW1 := Lib.hid (on_of HW0.out b1)
    have HA1 := Lib.hid (HA0.out.keep b1)
    clear b1 ca0
    clear q1
    go_wp2
    go_ret
    exact ⟨ret_int HZ.out.symm, HW1.out⟩
end Go.Proofs.Ytifmdgncgokikaa.Own
namespace Go.Proofs.Ytifmdgncgokikaa.Own
open Go.ChangeShapes Go.WideShapes Go.ChangeAt Go.RowKit
open Kit Slabs
set_option linter.unusedVariables false
set_option linter.unusedSimpArgs false
set_option linter.unnecessarySimpa false
theorem spec_ObjectOk (w : World) {A : Array Value} {ds : List Dt} {fp : List Nat} (hb : bulkL ds ≤ 1048576) (h : OwnL w LObject A.toList ds fp) : Calls Try.prog 66 #[.agg A] w fun e w' => e = .returned (.bool (obB (obOf ds))) ∧ Below w.heap.size w w' := by
  have e := ob_dt h
  rw [e] at hb h
  obtain ⟨a, c, rfl, hp⟩ := Ins.obj_open h
  exact Ins.ok_spec w a c _ _ _ _ _ _ (Ins.obj_len hb) hp
theorem impl_ObjectOk (w : World) {A : Array Value} {ds : List Dt} {fp : List Nat} (hb : bulkL ds ≤ 1048576) (h : OwnL w LObject A.toList ds fp) : Calls Try.prog 42 #[.agg A] w fun e w' => e = .returned (.bool (obB (obOf ds))) ∧ Below w.heap.size w w' := by
  have e := ob_dt h
  rw [e] at hb h
  obtain ⟨a, c, rfl, hp⟩ := Ins.obj_open h
  exact Ins.ok_impl w a c _ _ _ _ _ _ (Ins.obj_len hb) hp
def obD (o : Ob) : Int := Ins.odV o.path o.gray o.x0 o.y0 o.x1 o.y1
theorem impl_ObjectDots (w : World) {A : Array Value} {ds : List Dt} {fp : List Nat} (hb : bulkL ds ≤ 1048576) (h : OwnL w LObject A.toList ds fp) : Calls Try.prog 22 #[.agg A] w fun e w' => e = .returned (.int .i64 (obD (obOf ds))) ∧ Below w.heap.size w w' := by
  have e := ob_dt h
  rw [e] at hb h
  obtain ⟨a, c, rfl, hp⟩ := Ins.obj_open h
  exact Ins.odots_impl w a c _ _ _ _ _ _ (Ins.obj_len hb) hp
def obX (o : Ob) : Ins.Bx := Ins.obx o.path o.gray o.x0 o.y0 o.x1 o.y1
theorem spec_ObjectBox (w : World) {A : Array Value} {ds : List Dt} {fp : List Nat} (hb : bulkL ds ≤ 1048576) (h : OwnL w LObject A.toList ds fp) {p0 p1 p2 p3 : Int} (hX : obX (obOf ds) = ⟨p0, p1, p2, p3⟩) : Calls Try.prog 91 #[.agg A] w fun e w' => e = .returned (.agg #[.int .i64 p0, .int .i64 p1, .int .i64 p2, .int .i64 p3]) ∧ Below w.heap.size w w' := by
  have e := ob_dt h
  rw [e] at hb h
  obtain ⟨a, c, rfl, hp⟩ := Ins.obj_open h
  have := Ins.obox_spec w a c _ (obOf ds).gray (obOf ds).x0 (obOf ds).y0 (obOf ds).x1 (obOf ds).y1 (Ins.obj_len hb) hp
  rw [show Ins.obx (obOf ds).path (obOf ds).gray (obOf ds).x0 (obOf ds).y0 (obOf ds).x1 (obOf ds).y1 = ⟨p0, p1, p2, p3⟩ from hX] at this
  exact this
theorem impl_ObjectBox (w : World) {A : Array Value} {ds : List Dt} {fp : List Nat} (hb : bulkL ds ≤ 1048576) (h : OwnL w LObject A.toList ds fp) {p0 p1 p2 p3 : Int} (hX : obX (obOf ds) = ⟨p0, p1, p2, p3⟩) : Calls Try.prog 48 #[.agg A] w fun e w' => e = .returned (.agg #[.int .i64 p0, .int .i64 p1, .int .i64 p2, .int .i64 p3]) ∧ Below w.heap.size w w' := by
  have e := ob_dt h
  rw [e] at hb h
  obtain ⟨a, c, rfl, hp⟩ := Ins.obj_open h
  have := Ins.obox_impl w a c _ (obOf ds).gray (obOf ds).x0 (obOf ds).y0 (obOf ds).x1 (obOf ds).y1 (Ins.obj_len hb) hp
  rw [show Ins.obx (obOf ds).path (obOf ds).gray (obOf ds).x0 (obOf ds).y0 (obOf ds).x1 (obOf ds).y1 = ⟨p0, p1, p2, p3⟩ from hX] at this
  exact this
def obS (o : Ob) (y : Int) : List (Int × Int) := Ins.orow o.path o.gray o.x0 o.y0 o.x1 o.y1 y
theorem obS_le (ds : List Dt) (hd : ds = (obOf ds).dt) (hb : bulkL ds ≤ 1048576) (y : Int) : (dP (obS (obOf ds) y)).length ≤ 1048576 := by
  rw [len_dP]
  rw [hd] at hb
  exact Nat.le_trans (Ins.orow_len _ _ _ _ _ _ _) (Ins.obj_len hb)
theorem own_spans {w : World} {B : Nat} {v : Value} {m : List (Int × Int)} (h : w.ownsRow B 78 2 v m.length (Ins.cellsP m)) : ∃ fp, Own w (.sl KPt) [v] (.sl (dP m)) fp ∧ fp.Nodup ∧ ∀ b ∈ fp, B ≤ b := by
  have hs := Ins.slab_owns9 h
  refine ⟨_, pts_own hs (len_dP m) (fun i hi => ⟨Ins.pX m i, Ins.pY m i, ?_, rfl⟩), ?_, fun b hb => (hs.row b (by simpa using hb)).1⟩
  · simp only [at_, dP, List.getD_eq_getElem?_getD, List.getElem?_map, List.getElem?_eq_getElem hi, Option.map_some, Option.getD_some, dPt, Ins.pX, Ins.pY]
  · cases rowOf m.length v <;> simp
theorem spec_ObjectRow (w : World) {A : Array Value} {ds : List Dt} {fp : List Nat} (hb : bulkL ds ≤ 1048576) (h : OwnL w LObject A.toList ds fp) (y : Int) : Calls Try.prog 68 #[.agg A, .int .i64 y] w fun e w' => ∃ (u : Value) (fp : List Nat), e = .returned u ∧ Own w' (.sl KPt) [u] (.sl (dP (obS (obOf ds) y))) fp ∧ fp.Nodup ∧ (∀ b ∈ fp, w.heap.size ≤ b) ∧ Below w.heap.size w w' := by
  have e := ob_dt h
  rw [e] at hb h
  obtain ⟨a, c, rfl, hp⟩ := Ins.obj_open h
  refine (Ins.orow_spec w a c _ (obOf ds).gray (obOf ds).x0 (obOf ds).y0 (obOf ds).x1 (obOf ds).y1 y (Ins.obj_len hb) hp).mono fun e w' ⟨u, he, ho, hb⟩ => ?_
  obtain ⟨f, h1, h2, h3⟩ := own_spans ho
  exact ⟨u, f, he, h1, h2, h3, hb⟩
theorem impl_ObjectRow (w : World) {A : Array Value} {ds : List Dt} {fp : List Nat} (hb : bulkL ds ≤ 1048576) (h : OwnL w LObject A.toList ds fp) (y : Int) : Calls Try.prog 17 #[.agg A, .int .i64 y] w fun e w' => ∃ (u : Value) (fp : List Nat), e = .returned u ∧ Own w' (.sl KPt) [u] (.sl (dP (obS (obOf ds) y))) fp ∧ fp.Nodup ∧ (∀ b ∈ fp, w.heap.size ≤ b) ∧ Below w.heap.size w w' := by
  have e := ob_dt h
  rw [e] at hb h
  obtain ⟨a, c, rfl, hp⟩ := Ins.obj_open h
  refine (Ins.orow_impl w a c _ (obOf ds).gray (obOf ds).x0 (obOf ds).y0 (obOf ds).x1 (obOf ds).y1 y (Ins.obj_len hb) hp).mono fun e w' ⟨u, he, ho, hb⟩ => ?_
  obtain ⟨f, h1, h2, h3⟩ := own_spans ho
  exact ⟨u, f, he, h1, h2, h3, hb⟩
theorem bulk_ob (o : Ob) : bulkL o.dt = o.path.length := by simp only [Ob.dt, bulkL, Dt.bulk, len_dP, bulk_dP]; omega
end Go.Proofs.Ytifmdgncgokikaa.Own
namespace Go.Proofs.Ytifmdgncgokikaa.PlAll
open Go.ChangeShapes Go.WideShapes Go.ChangeAt Go.RowKit
open Kit Draw Slabs Ints
set_option linter.unusedVariables false
set_option linter.unusedSimpArgs false
set_option linter.unnecessarySimpa false
set_option maxRecDepth 100000
def pt (X : Nat → Int) (n : Nat) (m : Int) (i : Nat) : Int := if i = n then m else X i
theorem pt_at (X : Nat → Int) (n : Nat) (m : Int) : pt X n m n = m := by simp [pt]
theorem pt_lt {X : Nat → Int} {n i : Nat} (m : Int) (h : i < n) : pt X n m i = X i := by simp [pt]; omega
theorem flat_ext {F G : Nat → List Value} {n : Nat} (h : ∀ i, i < n → F i = G i) : flat F n = flat G n := by
  induction n with
  | zero => rfl
  | succ n ih => rw [flat_succ, flat_succ, ih (fun i hi => h i (by omega)), h n (by omega)]
theorem flat_pt (X : Nat → Int) (n : Nat) (m : Int) : flat (ic X) n ++ [.int .i64 m] = flat (ic (pt X n m)) (n + 1) := by
  rw [flat_succ, flat_ext (F := ic (pt X n m)) (G := ic X) (fun i hi => by simp only [ic, pt_lt m hi])]
  simp only [ic, pt_at]
theorem info3 : (Try.prog.info? 3).map (fun i => (i.zero, i.size, i.bytes)) = some (some (.int .i64 0), 1, 8) := by kernel_rfl
set_option maxHeartbeats 1000000 in
theorem places_all (w : World) (a : Option Addr) (len cap : Nat) (z : List Int) (hr : IsRow .u8 w a len cap z) :
    Calls Try.prog 13 #[.slice a len cap] w fun e w' => ∃ (g c : Nat) (Q : Nat → Int), (∀ i, i < 12 → 0 ≤ Q i ∧ Q i < 10000) ∧ (∀ i, i < 12 → w'.cell? ⟨g, i, none⟩ = some (.int .i64 (Q i))) ∧ e = .returned (.slice (some ⟨g, 0, none⟩) 12 c) ∧ w.heap.size ≤ g ∧ g < w'.heap.size ∧ Below w.heap.size w w' := by
  obtain ⟨i0, hi0, hz0, hz1, hz2⟩ := info_parts info3
  have HR := Lib.hid hr
  clear hr
  go_enter Try.func13, Try.ntmps13
  go_wp2_with fail
  (refine (new_any w _ _ _ z HR.out).mono ?_; rintro e w1 ⟨rfl, dr⟩)
  have hd0 := dr.same
  have hs1 := dr.below.size
  have hs2 := dr.here
  go_wp2_with fail
  go_loopw [4, 5] (fun v i wr => ∃ (k : Nat) (X : Nat → Int), k ≤ 12 ∧ i = .int .i64 (k : Int) ∧ (∀ j, j < k → 0 ≤ X j ∧ X j < 10000) ∧ wr.ownsRow w1.heap.size 3 1 v k (flat (ic X) k) ∧ w1.heap.size ≤ wr.heap.size ∧ Drawn w a len cap z w.heap.size w1 wr) (fun _ i _ => 12 - (intOf i).toNat)
  case atStart => exact ⟨0, fun _ => 0, by omega, rfl, fun j hj => by omega, World.ownsRow_made w1 #[] 0 (Nat.le_refl _) (by decide) (by simp), by simp, hd0.alloc _⟩
  case round =>
    obtain ⟨k, X, hk, rfl, hX, hown, hws, hd⟩ := hrel
    have HX := Lib.hid hX
    clear hX
    by_cases hlt : k < 12
    · have hlt' : (k : Int) < 12 := by omega
      go_wp2_with (first
        | (go_at_call 40; refine (below_on w wr _ _ a len cap z 10000 hd.1.same).mono ?_; rintro e w2 ⟨x, hx, rfl, d1⟩; have hown1 := hown.kept d1.2 (.inr fun e => by have := (hown.lt _ e).1; omega); have hd1 := hd.trans d1; have hsz1 := d1.2.size; have hsz := hd.2.size)
        | (at_builtin; refine wpList_append_own _ rfl _ _ 32 rfl w1.heap.size 3 i0 (.int .i64 0) 1 8 Try.underlying32 hi0 hz0 hz1 hz2 rfl (by decide) _ _ _ rfl (hown1.alloc _) ⟨w2.heap.size, 0, none⟩ 1 1 [.int .i64 x] rfl rfl ?c1 ?c2 ?c3 ?c4 ?c5 ?_))
      case c1 => exact World.news_of_block (cs := #[.int .i64 x]) (t := 3) (fr := (0, 0)) (heap_alloc_new w2 _)
      case c2 => simp [Value.oneCell']
      case c3 => unfold maxLen; omega
      case c4 => omega
      case c5 => simp; omega
      intro v2 w3 hown2 hgrow _
      have hd2 := (hd1.alloc (.cells #[.int .i64 x] 3)).grown hgrow (fun q hq => by have := (hown1.lt q hq).1; omega)
      have hws2 : w1.heap.size ≤ w3.heap.size := by have := hgrow.size; simp at this; omega
      rw [flat_pt] at hown2
      have hx2 : ∀ j, j < k + 1 → 0 ≤ pt X k x j ∧ pt X k x j < 10000 := by
        intro j hj
        by_cases e : j < k
        · rw [pt_lt x e]; exact HX.out j e
        · obtain rfl : j = k := by omega
          rw [pt_at]; exact ⟨hx.1, hx.2.1 (by omega)⟩
      have HX2 := Lib.hid (And.intro hx2 (And.intro hown2 (And.intro hws2 hd2)))
      clear hown hown1 hown2 hd hd1 hgrow d1 hx2 hx hws2 hd2
      go_wp2
      go_roundw
      case rel => exact ⟨k + 1, _, by omega, by go_num, HX2.out.1, HX2.out.2.1, HX2.out.2.2.1, HX2.out.2.2.2⟩
      case measure => simp [intOf]; omega
    · obtain rfl : k = 12 := by omega
      rcases (Slab.of_owns hown (ic_len X)).writes with ⟨h0, _⟩ | ⟨g, c, hv, hg, W1⟩
      · omega
      subst hv
      have H := Lib.hid (And.intro W1 (And.intro hd.1.below HX.out))
      have hgl := W1.here
      clear W1 hd hown
      go_wp2
      go_ret
      exact ⟨g, c, X, H.out.2.2, fun i hi => ic_cell H.out.1 hi, rfl, by omega, hgl, H.out.2.1⟩
end Go.Proofs.Ytifmdgncgokikaa.PlAll
