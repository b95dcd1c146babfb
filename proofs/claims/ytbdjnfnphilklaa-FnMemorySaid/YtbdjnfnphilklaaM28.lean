/-
  Texts of this seat, laid together: DrawPt, Ds8, ToO, EqA
-/
import Derived.Deep.AppendLies
import Derived.WalkKit
import Derived.Deep.DeepCutAuto
import Derived.Deep.QuietTactic
import Derived.BigQuiet
import Derived.Deep.RegionHeld3
import Derived.Handy
import Derived.Test.YtbdjnfnphilklaaM14
import Derived.Test.YtbdjnfnphilklaaM01
import Derived.Test.YtbdjnfnphilklaaM09
import Derived.Test.YtbdjnfnphilklaaM12
namespace Go.Proofs.Ytbdjnfnphilklaa.Draw
open Go.ChangeShapes Go.WideShapes Go.ChangeAt Go.RowKit
open Kit
set_option linter.unusedVariables false
set_option linter.unusedSimpArgs false
set_option linter.unnecessarySimpa false
attribute [local go_sem ↓] run_mx run_mn
def InPage (q : Int) : Prop := -4 ≤ q ∧ q ≤ 36
theorem four_cells (w : World) (T : TypeId) (r s : Int) (hr : InPage r) (hs : InPage s) : ∀ k, k < 4 → ∃ q : Int, InPage q ∧ (w.alloc (.cells #[.int .i64 0, .int .i64 32, .int .i64 r, .int .i64 s] T)).cell? ⟨w.heap.size, k, none⟩ = some (.int .i64 q) := by
  intro k hk
  have h : k = 0 ∨ k = 1 ∨ k = 2 ∨ k = 3 := by omega
  rcases h with rfl | rfl | rfl | rfl
  · exact ⟨0, by unfold InPage; omega, by simp [go_sem]⟩
  · exact ⟨32, by unfold InPage; omega, by simp [go_sem]⟩
  · exact ⟨r, hr, by simp [go_sem]⟩
  · exact ⟨s, hs, by simp [go_sem]⟩
theorem page33 {r : Int} (h : Within 33 r) : InPage r := by obtain ⟨h0, h1, _⟩ := h; have := h1 (by omega); unfold InPage; omega
theorem page41 {r : Int} (h : Within 41 r) : InPage (r - 4) ∧ 0 ≤ r ∧ r ≤ 40 := by obtain ⟨h0, h1, _⟩ := h; have := h1 (by omega); unfold InPage; omega
set_option maxHeartbeats 2000000 in
theorem point_on (W w0 w : World) (b : Nat) (a : Option Addr) (len cap : Nat) (z : List Int) (d : Drawn W a len cap z b w0 w) :
    Calls Try.prog 112 #[.pointer (some ⟨b, 0, none⟩)] w fun e w' => ∃ x y : Int, InPage x ∧ InPage y ∧ e = .returned (.agg #[.int .i64 x, .int .i64 y]) ∧ Drawn W a len cap z b w0 w' := by
  have hne := d.ne
  have D := (d.alloc (.cells #[.int .i64 0, .int .i64 0] 113)).1.same
  have hW := Nat.le_trans d.1.far (Nat.le_of_lt d.1.here)
  have hw0 := d.2.size
  have HD := Lib.hid d
  clear d
  go_enter Try.func112, Try.ntmps112
  go_wp2_with fail
  (refine (below_on W _ _ b a len cap z 33 D).mono ?_; rintro e w1 ⟨r1, hr1, rfl, d1⟩)
  go_wp2_with fail
  (refine (below_on W _ _ b a len cap z 41 d1).mono ?_; rintro e w2 ⟨r2, hr2, rfl, d2⟩)
  obtain ⟨k2, k20, k21⟩ := page41 hr2
  go_wp2_with fail
  (refine (pickP_on InPage W _ _ b a len cap z _ 4 _ (Drawn.ne d2) (by decide) (by decide) (four_cells _ _ _ _ (page33 hr1) k2) (d2.alloc _)).mono ?_; rintro e w3 ⟨x, hx, rfl, d3⟩)
  go_wp2_with fail
  (refine (below_on W _ _ b a len cap z 33 d3).mono ?_; rintro e w4 ⟨r4, hr4, rfl, d4⟩)
  go_wp2_with fail
  (refine (below_on W _ _ b a len cap z 41 d4).mono ?_; rintro e w5 ⟨r5, hr5, rfl, d5⟩)
  obtain ⟨k5, k50, k51⟩ := page41 hr5
  go_wp2_with fail
  (refine (pickP_on InPage W _ _ b a len cap z _ 4 _ (Drawn.ne d5) (by decide) (by decide) (four_cells _ _ _ _ (page33 hr4) k5) (d5.alloc _)).mono ?_; rintro e w6 ⟨y, hy, rfl, d6⟩)
  have T6 := Two.drawn (Two.new w 113 0 0) d6 hne
  obtain ⟨c0, c1, fr⟩ := T6
  have d7 := (HD.out.alloc (.cells #[.int .i64 0, .int .i64 0] 113)).trans d6
  go_wp2_with fail
  refine bodyPost_ret (by simp [results, Try.results112, go_sem, *]; try rfl) rfl ?_
  exact ⟨x, y, hx, hy, rfl, (d7.setNew hw0 hW hne _ _).setNew hw0 hW hne _ _⟩
end Go.Proofs.Ytbdjnfnphilklaa.Draw
namespace Go.Proofs.Ytbdjnfnphilklaa.Ins
open Go.ChangeShapes Go.WideShapes Go.ChangeAt Go.RowKit
open Kit Point Slabs Draw
set_option linter.unusedVariables false
set_option linter.unusedSimpArgs false
set_option linter.unnecessarySimpa false
def Shp (l : List Pt) : Prop := ∀ p ∈ l, InPage p.1 ∧ InPage p.2
theorem shp_snoc {l : List Pt} {x y : Int} (h : Shp l) (hx : InPage x) (hy : InPage y) : Shp (l ++ [(x, y)]) := by
  intro p hp
  rcases List.mem_append.1 hp with h1 | h1
  · exact h p h1
  · rw [List.mem_singleton.1 h1]; exact ⟨hx, hy⟩
theorem shp_ok {l : List Pt} (h : Shp l) (h8 : l.length ≤ 8) : pathB l = true := by
  have : ptsB l = true := by
    rw [ptsB, List.all_eq_true]
    intro p hp
    have := h p hp
    unfold InPage at this
    simp [pokB, inB]; omega
  simp [pathB, this, h8]
theorem below4 {r : Int} (h : Within 4 r) : 0 ≤ r ∧ r ≤ 3 := by obtain ⟨h0, h1, _⟩ := h; have := h1 (by omega); omega
set_option maxHeartbeats 2000000 in
theorem path_on (W w0 w : World) (b : Nat) (a : Option Addr) (len cap : Nat) (z : List Int) (d : Drawn W a len cap z b w0 w) :
    Calls Try.prog 88 #[.pointer (some ⟨b, 0, none⟩)] w fun e w' => ∃ (v : Value) (l : List Pt), e = .returned v ∧ 3 ≤ l.length ∧ l.length ≤ 6 ∧ Shp l ∧ w'.ownsRow w.heap.size 113 2 v l.length (cellsP l) ∧ Drawn W a len cap z b w0 w' := by
  obtain ⟨i0, hi0, hz0, hz1, hz2⟩ := info_parts info_pt8
  have D := (d.alloc (.cells #[] 113)).1.same
  have D0 := d.1.same.alloc (.cells #[] 113)
  have hbl := d.1.here
  have hW := Nat.le_trans d.1.far (Nat.le_of_lt d.1.here)
  have ho0 := World.ownsRow_made w #[] (e := 113) (size := 2) 0 (Nat.le_refl _) (by decide) (by simp)
  have HD := Lib.hid (And.intro d ho0)
  clear d ho0
  go_enter Try.func88, Try.ntmps88
  go_wp2_with fail
  (refine (below_on W _ _ b a len cap z 4 D).mono ?_; rintro e w1 ⟨r, hr, rfl, d1⟩)
  have hr4 := below4 hr
  have hown := HD.out.2.kept d1.2 (.inr fun e => by simp [Value.ownBlock] at e; omega)
  have dA := D0.trans d1
  have HA := Lib.hid (And.intro hown dA)
  have hs1 : w.heap.size ≤ w1.heap.size := by have := dA.2.size; omega
  obtain ⟨t, rfl⟩ : ∃ t : Nat, r = (t : Int) := ⟨r.toNat, by omega⟩
  clear hown dA d1 D D0 hr
  go_wp2
  go_loopw [3, 5] (fun v i wr => ∃ l : List Pt, l.length ≤ 3 + t ∧ i = .int .i64 (l.length : Int) ∧ Hid (Shp l) ∧ wr.ownsRow w.heap.size 113 2 v l.length (cellsP l) ∧ w.heap.size ≤ wr.heap.size ∧ Drawn W a len cap z b w wr) (fun _ i _ => 3 + t - (intOf i).toNat)
  case atStart => exact ⟨[], by simp, rfl, Lib.hid (by intro p hp; simp at hp), HA.out.1, hs1, HA.out.2⟩
  case round =>
    obtain ⟨l, hk, rfl, hX, hown, hws, hd⟩ := hrel
    obtain ⟨k, hlk⟩ : ∃ k, l.length = k := ⟨_, rfl⟩
    have HK := Lib.hid hlk
    rw [hlk] at hk hown ⊢
    clear hlk
    by_cases hlt : k < 3 + t
    · have hlt' : (k : Int) < 3 + (t : Int) := by omega
      have hdS := hd.1.same
      have HH := Lib.hid (And.intro hown hd)
      clear hown hd
      go_wp2_with fail
      (refine (point_on W _ _ b a len cap z hdS).mono ?_; rintro e w2 ⟨x, y, hx, hy, rfl, d1⟩)
      have hown1 := HH.out.1.kept d1.2 (.inr fun e => by have := (HH.out.1.lt _ e).1; omega)
      have hd1 := HH.out.2.trans d1
      have hsz1 := d1.2.size
      have HY := Lib.hid (And.intro (shp_snoc hX.out hx hy) (And.intro hown1 hd1))
      have hown1' := hown1.alloc (.cells #[.int .i64 x, .int .i64 y] 113)
      clear hx hy hown1 hd1 d1 hdS
      go_wp2_with (at_builtin; refine wpList_append_own _ rfl _ _ 36 rfl w.heap.size 113 i0 (.agg #[.int .i64 0, .int .i64 0]) 2 16 Try.underlying36 hi0 hz0 hz1 hz2 rfl (by decide) _ _ _ rfl (hown1'.alloc _) ⟨w2.heap.size + 1, 0, none⟩ 1 1 [.int .i64 x, .int .i64 y] rfl rfl ?c1 ?c2 ?c3 ?c4 ?c5 ?_)
      case c1 => exact World.news_of_block (cs := #[.int .i64 x, .int .i64 y]) (t := 113) (fr := (0, 0)) (by have := heap_alloc_new (w2.alloc (.cells #[.int .i64 x, .int .i64 y] 113)) (.cells #[.int .i64 x, .int .i64 y] 113); simpa using this)
      case c2 => simp [Value.oneCell']
      case c3 => unfold maxLen; omega
      case c4 => omega
      case c5 => simp; omega
      intro v2 w3 hown2 hgrow _
      have hd2 := ((HY.out.2.2.alloc (.cells #[.int .i64 x, .int .i64 y] 113)).alloc (.cells #[.int .i64 x, .int .i64 y] 113)).grown hgrow (fun q hq => by have := (HY.out.2.1.lt q hq).1; omega)
      have hws2 : w.heap.size ≤ w3.heap.size := by have := hgrow.size; simp at this; omega
      have hrel2 : w3.ownsRow w.heap.size 113 2 v2 (l ++ [(x, y)]).length (cellsP (l ++ [(x, y)])) := by rw [cellsP_snoc, List.length_append, HK.out]; exact hown2
      have HZ := Lib.hid (And.intro hrel2 hd2)
      clear hown2 hown1' hrel2 hd2 hgrow
      go_wp2
      go_roundw
      case rel => exact ⟨l ++ [(x, y)], by simp [HK.out]; omega, by rw [List.length_append, HK.out]; go_num, Lib.hid HY.out.1, HZ.out.1, hws2, HZ.out.2⟩
      case measure => simp [intOf]; omega
    · obtain rfl : k = 3 + t := by omega
      have HX := Lib.hid (And.intro hown (HD.out.1.trans hd))
      clear hown hd
      go_wp2
      go_ret
      exact ⟨_, l, rfl, by rw [HK.out]; omega, by rw [HK.out]; omega, hX.out, by rw [HK.out]; exact HX.out.1, HX.out.2⟩
theorem cellsP_get : ∀ (l : List Pt) (i : Nat) (h : i < l.length), (cellsP l)[i * 2]? = some (.int .i64 l[i].1) ∧ (cellsP l)[i * 2 + 1]? = some (.int .i64 l[i].2)
  | [], i, h => by simp at h
  | p :: l, 0, h => by simp [cellsP]
  | p :: l, i + 1, h => by
    have := cellsP_get l i (by simpa using h)
    have e : cellsP (p :: l) = .int .i64 p.1 :: .int .i64 p.2 :: cellsP l := by simp [cellsP]
    rw [e, show (i + 1) * 2 = i * 2 + 1 + 1 by omega]
    simpa using this
theorem path_of_owns {w : World} {base : Nat} {e : TypeId} {v : Value} {l : List Pt} (h : w.ownsRow base e 2 v l.length (cellsP l)) : ∃ a c, v = .slice a l.length c ∧ PathAt w a l := by
  rcases h.2 with ⟨hv, h0⟩ | ⟨g, cap, cur, hv, hb, hg, _⟩
  · exact ⟨none, 0, by rw [hv, h0], .inl (List.eq_nil_of_length_eq_zero h0)⟩
  · refine ⟨_, _, hv, .inr ⟨g, rfl, (Array.getElem?_eq_some_iff.1 hg).1, fun i hi => ?_⟩⟩
    have hadd : ∀ j, (⟨g, 0, none⟩ : Addr).add j = ⟨g, j, none⟩ := fun j => by unfold Addr.add; split <;> simp_all
    have c := cellsP_get l i hi
    rw [getp l hi] at c
    have h1 := World.ownsRow.cells h (g := g) (by rw [hv]; rfl) (i * 2) _ c.1
    have h2 := World.ownsRow.cells h (g := g) (by rw [hv]; rfl) (i * 2 + 1) _ c.2
    rw [hadd] at h1 h2
    exact ⟨h1, h2⟩
end Go.Proofs.Ytbdjnfnphilklaa.Ins
namespace Go.Proofs.Ytbdjnfnphilklaa.Own
open Go.ChangeShapes Go.WideShapes Go.ChangeAt Go.RowKit
open Kit Slabs Ints
set_option linter.unusedVariables false
set_option linter.unusedSimpArgs false
set_option linter.unnecessarySimpa false
set_option maxRecDepth 100000
attribute [local go_sem ↓] hload_Object
attribute [local go_sem ↓] hstore_Object
theorem to_Box (xx0_0 : Int) (xx1_0 : Int) (xx2_0 : Int) (xx3_0 : Int) (w : World) : Calls Try.prog 111 #[.agg #[.int .i64 xx0_0, .int .i64 xx1_0, .int .i64 xx2_0, .int .i64 xx3_0]] w fun e w' => e = .returned (.agg #[.int .i64 xx0_0, .int .i64 xx1_0, .int .i64 xx2_0, .int .i64 xx3_0]) ∧ Below w.heap.size w w' := by
  go_enter Try.func111, Try.ntmps111
  go_wp2
  go_returns
  exact ⟨rfl, by go_grown⟩
set_option maxHeartbeats 8000000 in
theorem to_Object (w : World) {A : Array Value} {ds : List Dt} (hb : bulkL ds ≤ 1048576) (h : CameL w LObject A.toList ds) :
    Calls Try.prog 87 #[.agg A] w fun e w' => ∃ (R : Array Value) (fp : List Nat), e = .returned (.agg R) ∧ OwnL w' LObject R.toList ds fp ∧ fp.Nodup ∧ (∀ b ∈ fp, w.heap.size ≤ b) ∧ Below w.heap.size w w' := by
  obtain ⟨xa0, xc0, xs0, xx1_0, xx2_0, xx2_1, xx2_2, xx2_3, hA, rfl, ⟨ox0, mox0⟩⟩ := invC_Object h
  simp only [bulkL_app, bulkL, Dt.bulk] at hb
  have BA : Blk (((w.alloc (.cells A 105)).alloc (.cells #[.slice none 0 0, .int .i64 0, .int .i64 0, .int .i64 0, .int .i64 0, .int .i64 0] 40)).alloc (.cells #[.slice none 0 0, .int .i64 0, .int .i64 0, .int .i64 0, .int .i64 0, .int .i64 0] 40)) w.heap.size A.toList := ((Blk.new w A 105 rfl).alloc _).alloc _
  have BR : Blk (((w.alloc (.cells A 105)).alloc (.cells #[.slice none 0 0, .int .i64 0, .int .i64 0, .int .i64 0, .int .i64 0, .int .i64 0] 40)).alloc (.cells #[.slice none 0 0, .int .i64 0, .int .i64 0, .int .i64 0, .int .i64 0, .int .i64 0] 40)) (w.heap.size + 1) [.slice none 0 0, .int .i64 0, .int .i64 0, .int .i64 0, .int .i64 0, .int .i64 0] := (Blk.new _ #[.slice none 0 0, .int .i64 0, .int .i64 0, .int .i64 0, .int .i64 0, .int .i64 0] 40 (by simp)).alloc _
  have BO : Blk (((w.alloc (.cells A 105)).alloc (.cells #[.slice none 0 0, .int .i64 0, .int .i64 0, .int .i64 0, .int .i64 0, .int .i64 0] 40)).alloc (.cells #[.slice none 0 0, .int .i64 0, .int .i64 0, .int .i64 0, .int .i64 0, .int .i64 0] 40)) (w.heap.size + 1 + 1) [.slice none 0 0, .int .i64 0, .int .i64 0, .int .i64 0, .int .i64 0, .int .i64 0] := Blk.new _ #[.slice none 0 0, .int .i64 0, .int .i64 0, .int .i64 0, .int .i64 0, .int .i64 0] 40 (by simp)
  have hW : Below w.heap.size w (((w.alloc (.cells A 105)).alloc (.cells #[.slice none 0 0, .int .i64 0, .int .i64 0, .int .i64 0, .int .i64 0, .int .i64 0] 40)).alloc (.cells #[.slice none 0 0, .int .i64 0, .int .i64 0, .int .i64 0, .int .i64 0, .int .i64 0] 40)) := by go_grown
  have hsz : (((w.alloc (.cells A 105)).alloc (.cells #[.slice none 0 0, .int .i64 0, .int .i64 0, .int .i64 0, .int .i64 0, .int .i64 0] 40)).alloc (.cells #[.slice none 0 0, .int .i64 0, .int .i64 0, .int .i64 0, .int .i64 0, .int .i64 0] 40)).heap.size = w.heap.size + 3 := by simp
  rw [hA] at BA
  have HC := Lib.hid (ox0)
  have HA0 := Lib.hid BA
  have HR0 := Lib.hid BR
  have HO0 := Lib.hid BO
  have HW0 := Lib.hid hW
  have HZ0 := Lib.hid hsz
  have ca0 : A[0]? = some (.slice xa0 xs0.length xc0) := by rw [← Array.getElem?_toList, hA]; rfl
  clear ox0 hA BA BR BO hW hsz h
  go_enter Try.func87, Try.ntmps87
  go_wp2_with fail
  obtain ⟨W0, hW0⟩ : ∃ W, W = ((w.alloc (.cells A 105)).alloc (.cells #[.slice none 0 0, .int .i64 0, .int .i64 0, .int .i64 0, .int .i64 0, .int .i64 0] 40)).alloc (.cells #[.slice none 0 0, .int .i64 0, .int .i64 0, .int .i64 0, .int .i64 0, .int .i64 0] 40) := ⟨_, rfl⟩
  rw [← hW0] at HA0 HR0 HO0 HW0 HZ0 ⊢
  obtain ⟨GA, hGA⟩ : ∃ g, w.heap.size = g := ⟨_, rfl⟩
  obtain ⟨GR, hGR⟩ : ∃ g, w.heap.size + 1 = g := ⟨_, rfl⟩
  obtain ⟨GO, hGO_⟩ : ∃ g, w.heap.size + 1 + 1 = g := ⟨_, rfl⟩
  rw [hGO_] at HO0 ⊢
  rw [hGR] at HR0 ⊢
  have HA0 := Lib.hid (show Blk W0 GA _ from hGA ▸ HA0.out)
  try simp only [hGA]
  have nAO : GO ≠ GA := by omega
  have nRO : GO ≠ GR := by omega
  have hGO : w.heap.size ≤ GO := by omega
  have zO : GO < W0.heap.size := by have := HZ0.out; omega
  have zR : GR < W0.heap.size := by have := HZ0.out; omega
  clear hW0 ca0
  ((with_reducible refine (toP_came _ _ _ _ _ (by omega) ((HC.out).on HW0.out)).mono ?_); rintro e w1 ⟨ra0, rc0, xF0, rfl, oo, nd0, ge0, bb⟩)
  have HAw1 := Lib.hid (HA0.out.keep bb)
  have HOw1 := Lib.hid (HO0.out.keep bb)
  have HRw1 := Lib.hid (HR0.out.keep bb)
  have HWw1 := Lib.hid (on_of HW0.out bb)
  have sz0 := bb.size
  have Hqw1_0 := Lib.hid oo
  have lt0 : ∀ b ∈ xF0, b < w1.heap.size := oo.lt
  have nO0 : GO ∉ xF0 := fun hb => by have := ge0 _ hb;  omega
  have nR0 : GR ∉ xF0 := fun hb => by have := ge0 _ hb;  omega
  have nP0 : ∀ b ∈ xF0, b ≠ GO := fun b hb e => nO0 (e ▸ hb)
  have nQ0 : ∀ b ∈ xF0, b ≠ GR := fun b hb e => nR0 (e ▸ hb)
  clear oo bb
  have ca1 := HAw1.out.1 1 (.int .i64 xx1_0) (by rfl)
  have ca2 := HAw1.out.1 2 (.int .i64 xx2_0) (by rfl)
  have ca3 := HAw1.out.1 3 (.int .i64 xx2_1) (by rfl)
  have ca4 := HAw1.out.1 4 (.int .i64 xx2_2) (by rfl)
  have ca5 := HAw1.out.1 5 (.int .i64 xx2_3) (by rfl)
  have fz := HOw1.out.2.1
  have ko0 := HOw1.out.1 0 (.slice none 0 0) (by simp)
  have ko1 := HOw1.out.1 1 (.int .i64 0) (by simp)
  go_wp2_with fail
  have xO := (show Blk ((w1.setCell ⟨GO, 0, none⟩ (.slice ra0 xs0.length rc0)).setCell ⟨GO, 1, none⟩ (.int .i64 xx1_0)) GO (.slice ra0 xs0.length rc0 :: (.int .i64 xx1_0 :: (.int .i64 0 :: (.int .i64 0 :: (.int .i64 0 :: (.int .i64 0 :: ([]))))))) from Blk.put (P := [.slice ra0 xs0.length rc0]) (R := [.int .i64 0, .int .i64 0, .int .i64 0, .int .i64 0]) (by simpa using (show Blk (w1.setCell ⟨GO, 0, none⟩ (.slice ra0 xs0.length rc0)) GO (.slice ra0 xs0.length rc0 :: (.int .i64 0 :: (.int .i64 0 :: (.int .i64 0 :: (.int .i64 0 :: (.int .i64 0 :: ([]))))))) from Blk.put (P := []) (R := [.int .i64 0, .int .i64 0, .int .i64 0, .int .i64 0, .int .i64 0]) (by simpa using HOw1.out) rfl (.slice ra0 xs0.length rc0))) rfl (.int .i64 xx1_0))
  have xA := ((HAw1.out.other nAO 0 (.slice ra0 xs0.length rc0)).other nAO 1 (.int .i64 xx1_0))
  have xR := ((HRw1.out.other nRO 0 (.slice ra0 xs0.length rc0)).other nRO 1 (.int .i64 xx1_0))
  have xW := ((((HWw1.out).setCell (p := ⟨GO, 0, none⟩) hGO (.slice ra0 xs0.length rc0))).setCell (p := ⟨GO, 1, none⟩) hGO (.int .i64 xx1_0))
  have xq0 := (own_setN (own_setN (Hqw1_0.out) nO0 0 (.slice ra0 xs0.length rc0)) nO0 1 (.int .i64 xx1_0))
  have xs : (((w1.setCell ⟨GO, 0, none⟩ (.slice ra0 xs0.length rc0)).setCell ⟨GO, 1, none⟩ (.int .i64 xx1_0))).heap.size = w1.heap.size := by simp [size_sets]
  generalize ((w1.setCell ⟨GO, 0, none⟩ (.slice ra0 xs0.length rc0)).setCell ⟨GO, 1, none⟩ (.int .i64 xx1_0)) = V1 at xO xA xR xW xs xq0 ⊢
  have HOV1 := Lib.hid xO
  have HAV1 := Lib.hid xA
  have HRV1 := Lib.hid xR
  have HWV1 := Lib.hid xW
  have HZV1 := Lib.hid xs
  have HqV1_0 := Lib.hid xq0
  clear xO xA xR xW xs xq0
  clear ca1 ca2 ca3 ca4 ca5 fz ko0 ko1
  ((with_reducible refine (to_Box xx2_0 xx2_1 xx2_2 xx2_3 _).mono ?_); rintro e w2 ⟨rfl, bb⟩)
  have HAw2 := Lib.hid (HAV1.out.keep bb)
  have HOw2 := Lib.hid (HOV1.out.keep bb)
  have HRw2 := Lib.hid (HRV1.out.keep bb)
  have HWw2 := Lib.hid (on_of HWV1.out bb)
  have Hqw2_0 := Lib.hid ((HqV1_0.out).under bb)
  have sz1 := bb.size
  clear bb
  have fz := HOw2.out.2.1
  have ko2 := HOw2.out.1 2 (.int .i64 0) (by simp)
  have ko3 := HOw2.out.1 3 (.int .i64 0) (by simp)
  have ko4 := HOw2.out.1 4 (.int .i64 0) (by simp)
  have ko5 := HOw2.out.1 5 (.int .i64 0) (by simp)
  go_wp2_with fail
  have xO := (show Blk ((((w2.setCell ⟨GO, 2, none⟩ (.int .i64 xx2_0)).setCell ⟨GO, 3, none⟩ (.int .i64 xx2_1)).setCell ⟨GO, 4, none⟩ (.int .i64 xx2_2)).setCell ⟨GO, 5, none⟩ (.int .i64 xx2_3)) GO (.slice ra0 xs0.length rc0 :: (.int .i64 xx1_0 :: (.int .i64 xx2_0 :: (.int .i64 xx2_1 :: (.int .i64 xx2_2 :: (.int .i64 xx2_3 :: ([]))))))) from Blk.put (P := [.slice ra0 xs0.length rc0, .int .i64 xx1_0, .int .i64 xx2_0, .int .i64 xx2_1, .int .i64 xx2_2]) (R := []) (by simpa using (show Blk (((w2.setCell ⟨GO, 2, none⟩ (.int .i64 xx2_0)).setCell ⟨GO, 3, none⟩ (.int .i64 xx2_1)).setCell ⟨GO, 4, none⟩ (.int .i64 xx2_2)) GO (.slice ra0 xs0.length rc0 :: (.int .i64 xx1_0 :: (.int .i64 xx2_0 :: (.int .i64 xx2_1 :: (.int .i64 xx2_2 :: (.int .i64 0 :: ([]))))))) from Blk.put (P := [.slice ra0 xs0.length rc0, .int .i64 xx1_0, .int .i64 xx2_0, .int .i64 xx2_1]) (R := [.int .i64 0]) (by simpa using (show Blk ((w2.setCell ⟨GO, 2, none⟩ (.int .i64 xx2_0)).setCell ⟨GO, 3, none⟩ (.int .i64 xx2_1)) GO (.slice ra0 xs0.length rc0 :: (.int .i64 xx1_0 :: (.int .i64 xx2_0 :: (.int .i64 xx2_1 :: (.int .i64 0 :: (.int .i64 0 :: ([]))))))) from Blk.put (P := [.slice ra0 xs0.length rc0, .int .i64 xx1_0, .int .i64 xx2_0]) (R := [.int .i64 0, .int .i64 0]) (by simpa using (show Blk (w2.setCell ⟨GO, 2, none⟩ (.int .i64 xx2_0)) GO (.slice ra0 xs0.length rc0 :: (.int .i64 xx1_0 :: (.int .i64 xx2_0 :: (.int .i64 0 :: (.int .i64 0 :: (.int .i64 0 :: ([]))))))) from Blk.put (P := [.slice ra0 xs0.length rc0, .int .i64 xx1_0]) (R := [.int .i64 0, .int .i64 0, .int .i64 0]) (by simpa using HOw2.out) rfl (.int .i64 xx2_0))) rfl (.int .i64 xx2_1))) rfl (.int .i64 xx2_2))) rfl (.int .i64 xx2_3))
  have xA := ((((HAw2.out.other nAO 2 (.int .i64 xx2_0)).other nAO 3 (.int .i64 xx2_1)).other nAO 4 (.int .i64 xx2_2)).other nAO 5 (.int .i64 xx2_3))
  have xR := ((((HRw2.out.other nRO 2 (.int .i64 xx2_0)).other nRO 3 (.int .i64 xx2_1)).other nRO 4 (.int .i64 xx2_2)).other nRO 5 (.int .i64 xx2_3))
  have xW := ((((((((HWw2.out).setCell (p := ⟨GO, 2, none⟩) hGO (.int .i64 xx2_0))).setCell (p := ⟨GO, 3, none⟩) hGO (.int .i64 xx2_1))).setCell (p := ⟨GO, 4, none⟩) hGO (.int .i64 xx2_2))).setCell (p := ⟨GO, 5, none⟩) hGO (.int .i64 xx2_3))
  have xq0 := (own_setN (own_setN (own_setN (own_setN (Hqw2_0.out) nO0 2 (.int .i64 xx2_0)) nO0 3 (.int .i64 xx2_1)) nO0 4 (.int .i64 xx2_2)) nO0 5 (.int .i64 xx2_3))
  have xs : (((((w2.setCell ⟨GO, 2, none⟩ (.int .i64 xx2_0)).setCell ⟨GO, 3, none⟩ (.int .i64 xx2_1)).setCell ⟨GO, 4, none⟩ (.int .i64 xx2_2)).setCell ⟨GO, 5, none⟩ (.int .i64 xx2_3))).heap.size = w2.heap.size := by simp [size_sets]
  generalize ((((w2.setCell ⟨GO, 2, none⟩ (.int .i64 xx2_0)).setCell ⟨GO, 3, none⟩ (.int .i64 xx2_1)).setCell ⟨GO, 4, none⟩ (.int .i64 xx2_2)).setCell ⟨GO, 5, none⟩ (.int .i64 xx2_3)) = V2 at xO xA xR xW xs xq0 ⊢
  have HOV2 := Lib.hid xO
  have HAV2 := Lib.hid xA
  have HRV2 := Lib.hid xR
  have HWV2 := Lib.hid xW
  have HZV2 := Lib.hid xs
  have HqV2_0 := Lib.hid xq0
  clear xO xA xR xW xs xq0
  clear fz ko2 ko3 ko4 ko5
  obtain ⟨R, hR⟩ : ∃ R : Array Value, (.slice ra0 xs0.length rc0 :: (.int .i64 xx1_0 :: (.int .i64 xx2_0 :: (.int .i64 xx2_1 :: (.int .i64 xx2_2 :: (.int .i64 xx2_3 :: ([])))))) : List Value).toArray = R := ⟨_, rfl⟩
  have RL : R.toList = .slice ra0 xs0.length rc0 :: (.int .i64 xx1_0 :: (.int .i64 xx2_0 :: (.int .i64 xx2_1 :: (.int .i64 xx2_2 :: (.int .i64 xx2_3 :: ([])))))) := by subst hR; simp
  have lo := hload_run (P := Try.prog) (t := 40) Try.isAgg40 Try.sizeOf40 (w := V2) (b := GO) (o := 0) (us := .slice ra0 xs0.length rc0 :: (.int .i64 xx1_0 :: (.int .i64 xx2_0 :: (.int .i64 xx2_1 :: (.int .i64 xx2_2 :: (.int .i64 xx2_3 :: ([]))))))) (Blk.part (P := []) (R := []) (by simpa using HOV2.out) rfl) (by simp )
  rw [hR] at lo
  have oR : OwnL V2 LObject (.slice ra0 xs0.length rc0 :: (.int .i64 xx1_0 :: (.int .i64 xx2_0 :: (.int .i64 xx2_1 :: (.int .i64 xx2_2 :: (.int .i64 xx2_3 :: ([]))))))) (.sl xs0 :: (.int xx1_0 :: (.int xx2_0 :: (.int xx2_1 :: (.int xx2_2 :: (.int xx2_3 :: ([]))))))) (xF0 ++ ([])) := .cons (cs := [.slice ra0 xs0.length rc0]) (fp := xF0) HqV2_0.out (.cons (cs := [.int .i64 xx1_0]) (fp := []) (.int xx1_0) (.cons (cs := [.int .i64 xx2_0]) (fp := []) (.int xx2_0) (.cons (cs := [.int .i64 xx2_1]) (fp := []) (.int xx2_1) (.cons (cs := [.int .i64 xx2_2]) (fp := []) (.int xx2_2) (.cons (cs := [.int .i64 xx2_3]) (fp := []) (.int xx2_3) (.nil))))))
  have sto := hstore_run (P := Try.prog) (t := 40) Try.sizeOf40 (w := V2) (b := GR) (o := 0) (A := []) (us := [.slice none 0 0, .int .i64 0, .int .i64 0, .int .i64 0, .int .i64 0, .int .i64 0]) (R := []) (vs := .slice ra0 xs0.length rc0 :: (.int .i64 xx1_0 :: (.int .i64 xx2_0 :: (.int .i64 xx2_1 :: (.int .i64 xx2_2 :: (.int .i64 xx2_3 :: ([]))))))) (by simpa using HRV2.out) rfl (by simp ) (by simp ) (fun v hv => oR.one v hv)
  rw [hR] at sto
  have BR5 := Blk.sets (P := []) (us := [.slice none 0 0, .int .i64 0, .int .i64 0, .int .i64 0, .int .i64 0, .int .i64 0]) (vs := .slice ra0 xs0.length rc0 :: (.int .i64 xx1_0 :: (.int .i64 xx2_0 :: (.int .i64 xx2_1 :: (.int .i64 xx2_2 :: (.int .i64 xx2_3 :: ([]))))))) (R := []) (w := V2) (b := GR) (o := 0) (by simpa using HRV2.out) rfl (by simp )
  have e5 := Below.setCells (b := GR) (by omega) (.slice ra0 xs0.length rc0 :: (.int .i64 xx1_0 :: (.int .i64 xx2_0 :: (.int .i64 xx2_1 :: (.int .i64 xx2_2 :: (.int .i64 xx2_3 :: ([]))))))) 0 HWV2.out
  have o5 := ownL_sets oR (b := GR) (fun x hx => (List.mem_append.1 hx).elim (fun h => nQ0 x h) (fun hx1 => absurd hx1 List.not_mem_nil)) 0 (.slice ra0 xs0.length rc0 :: (.int .i64 xx1_0 :: (.int .i64 xx2_0 :: (.int .i64 xx2_1 :: (.int .i64 xx2_2 :: (.int .i64 xx2_3 :: ([])))))))
  generalize V2.setCells GR 0 (.slice ra0 xs0.length rc0 :: (.int .i64 xx1_0 :: (.int .i64 xx2_0 :: (.int .i64 xx2_1 :: (.int .i64 xx2_2 :: (.int .i64 xx2_3 :: ([]))))))) = V5 at sto BR5 e5 o5
  have re := hload_run (P := Try.prog) (t := 40) Try.isAgg40 Try.sizeOf40 (w := V5) (b := GR) (o := 0) (us := .slice ra0 xs0.length rc0 :: (.int .i64 xx1_0 :: (.int .i64 xx2_0 :: (.int .i64 xx2_1 :: (.int .i64 xx2_2 :: (.int .i64 xx2_3 :: ([]))))))) (Blk.part (P := []) (R := []) (by simpa using BR5) rfl) (by simp )
  rw [hR] at re
  rw [← RL] at o5
  have HF := Lib.hid (And.intro o5 (And.intro e5 re))
  clear oR BR5 e5 o5 re RL hR
  rw [lo]
  go_wp2_with fail
  try (rw [sto]; go_wp2_with fail)
  refine bodyPost_ret (v := .agg R) ?_ rfl ⟨R, _, rfl, HF.out.1, ?_, ?_, HF.out.2.1⟩
  · exact results_h Try.results87 (by rfl) HF.out.2.2
  · have hall : ∀ (i j : Nat), True := fun _ _ => trivial
    have n1 : ([] : List Nat).Nodup := List.nodup_nil
    have n0 : (xF0 ++ ([])).Nodup := List.nodup_append.2 ⟨nd0, n1, fun x hx y hy e => by have a1 := lt0 x hx; have a2 := (show ∀ y ∈ [], x < y from fun y hx => absurd hx List.not_mem_nil) y hy; omega⟩
    exact n0
  · intro b hx
    exact (List.mem_append.1 hx).elim (fun h => (fun h => by have := ge0 b h; have := HZV1.out; omega) h) (fun hx1 => absurd hx1 List.not_mem_nil)
end Go.Proofs.Ytbdjnfnphilklaa.Own
namespace Go.Proofs.Ytbdjnfnphilklaa.Own
open Go.ChangeShapes Go.WideShapes Go.ChangeAt Go.RowKit
open Kit Slabs Ints
set_option linter.unusedVariables false
set_option linter.unusedSimpArgs false
set_option linter.unnecessarySimpa false
set_option maxRecDepth 100000
theorem eq_Box (xx0_0 : Int) (xx1_0 : Int) (xx2_0 : Int) (xx3_0 : Int) (w : World) : Calls Try.prog 106 #[.agg #[.int .i64 xx0_0, .int .i64 xx1_0, .int .i64 xx2_0, .int .i64 xx3_0], .agg #[.int .i64 xx0_0, .int .i64 xx1_0, .int .i64 xx2_0, .int .i64 xx3_0]] w fun e w' => e = .returned (.bool true) ∧ Below w.heap.size w w' := by
  go_enter Try.func106, Try.ntmps106
  go_wp2
  go_ret
  exact ⟨rfl, by go_grown⟩
set_option maxHeartbeats 4000000 in
theorem eq_Object (w : World) {A B : Array Value} {ds : List Dt} {f1 f2 : List Nat} (hb : bulkL ds ≤ 1048576) (h1 : OwnL w LObject A.toList ds f1) (h2 : OwnL w LObject B.toList ds f2) :
    Calls Try.prog 77 #[.agg A, .agg B] w fun e w' => e = .returned (.bool true) ∧ Below w.heap.size w w' := by
  obtain ⟨xa0, xc0, xs0, xx1_0, xx2_0, xx2_1, xx2_2, xx2_3, xF0, hA, rfl, rfl, ox0⟩ := inv_Object h1
  obtain ⟨ya0, yc0, yF0, hB, rfl, oy0⟩ := inv_Object_ h2
  simp only [bulkL_app, bulkL, Dt.bulk] at hb
  have BA : Blk ((w.alloc (.cells A 40)).alloc (.cells B 40)) w.heap.size A.toList := (Blk.new w A 40 rfl).alloc _
  have BB : Blk ((w.alloc (.cells A 40)).alloc (.cells B 40)) (w.heap.size + 1) B.toList := Blk.new _ B 40 (by simp)
  have hW : Below w.heap.size w ((w.alloc (.cells A 40)).alloc (.cells B 40)) := by go_grown
  rw [hA] at BA
  rw [hB] at BB
  have HO := Lib.hid (And.intro ox0 oy0)
  have HA0 := Lib.hid BA
  have HB0 := Lib.hid BB
  have HW0 := Lib.hid hW
  have ca0 : A[0]? = some (.slice xa0 xs0.length xc0) := by rw [← Array.getElem?_toList, hA]; rfl
  have cb0 : B[0]? = some (.slice ya0 xs0.length yc0) := by rw [← Array.getElem?_toList, hB]; rfl
  clear ox0 oy0 hA hB BA BB hW h1 h2
  go_enter Try.func77, Try.ntmps77
  go_wp2_with fail
  ((with_reducible refine (eqP_o _ (by omega) ((HO.out.1).under HW0.out) ((HO.out.2).under HW0.out)).mono ?_); rintro e w1 ⟨rfl, b1⟩)
  have HW1 := Lib.hid (on_of HW0.out b1)
  have HA1 := Lib.hid (HA0.out.keep b1)
  have HB1 := Lib.hid (HB0.out.keep b1)
  clear b1 ca0 cb0
  have ca1 := HA1.out.1 1 (.int .i64 xx1_0) (by rfl)
  have cb1 := HB1.out.1 1 (.int .i64 xx1_0) (by rfl)
  have ca2 := HA1.out.1 2 (.int .i64 xx2_0) (by rfl)
  have ca3 := HA1.out.1 3 (.int .i64 xx2_1) (by rfl)
  have ca4 := HA1.out.1 4 (.int .i64 xx2_2) (by rfl)
  have ca5 := HA1.out.1 5 (.int .i64 xx2_3) (by rfl)
  have cb2 := HB1.out.1 2 (.int .i64 xx2_0) (by rfl)
  have cb3 := HB1.out.1 3 (.int .i64 xx2_1) (by rfl)
  have cb4 := HB1.out.1 4 (.int .i64 xx2_2) (by rfl)
  have cb5 := HB1.out.1 5 (.int .i64 xx2_3) (by rfl)
  go_wp2_with fail
  ((with_reducible refine (eq_Box xx2_0 xx2_1 xx2_2 xx2_3 _).mono ?_); rintro e w2 ⟨rfl, b2⟩)
  have HW2 := Lib.hid (on_of HW1.out b2)
  have HA2 := Lib.hid (HA1.out.keep b2)
  have HB2 := Lib.hid (HB1.out.keep b2)
  clear b2 ca1 cb1 ca2 ca3 ca4 ca5 cb2 cb3 cb4 cb5
  go_wp2
  go_ret
  exact ⟨rfl, HW2.out⟩
end Go.Proofs.Ytbdjnfnphilklaa.Own
