/-
  Texts of this seat, laid together: Ds8, EqA
-/
import Derived.WalkKit
import Derived.Deep.DeepCutAuto
import Derived.Deep.QuietTactic
import Derived.BigQuiet
import Derived.Deep.RegionHeld3
import Derived.Handy
import Derived.Test.YtejnfdpckipbeaaP27
import Derived.Test.YtejnfdpckipbeaaP03
import Derived.Test.YtejnfdpckipbeaaP16
namespace Go.Proofs.Ytejnfdpckipbeaa.Ins
open Go.ChangeShapes Go.WideShapes Go.ChangeAt Go.RowKit
open Kit Point Slabs Draw
set_option linter.unusedVariables false
set_option linter.unusedSimpArgs false
set_option linter.unnecessarySimpa false
def Shp (l : List Pt) : Prop := ∀ p ∈ l, InPage p.1 ∧ InPage p.2
theorem shp_snoc {l : List Pt} {x y : Int} (h : Shp l) (hx : InPage x) (hy : InPage y) : Shp (l ++ [(x, y)]) := by
  intro p hp
  rcases List.mem_append.1 hp with h1 | h1
  · exact h p h1
  · rw [List.mem_singleton.1 h1]; exact ⟨hx, hy⟩
theorem shp_ok {l : List Pt} (h : Shp l) (h8 : l.length ≤ 8) : pathB l = true := by
  have : ptsB l = true := by
    rw [ptsB, List.all_eq_true]
    intro p hp
    have := h p hp
    unfold InPage at this
    simp [pokB, inB]; omega
  simp [pathB, this, h8]
theorem below4 {r : Int} (h : Within 4 r) : 0 ≤ r ∧ r ≤ 3 := by obtain ⟨h0, h1, _⟩ := h; have := h1 (by omega); omega
set_option maxHeartbeats 2000000 in
theorem path_on (W w0 w : World) (b : Nat) (a : Option Addr) (len cap : Nat) (z : List Int) (d : Drawn W a len cap z b w0 w) :
    Calls Try.prog 93 #[.pointer (some ⟨b, 0, none⟩)] w fun e w' => ∃ (v : Value) (l : List Pt), e = .returned v ∧ 3 ≤ l.length ∧ l.length ≤ 6 ∧ Shp l ∧ w'.ownsRow w.heap.size 89 2 v l.length (cellsP l) ∧ Drawn W a len cap z b w0 w' := by
  obtain ⟨i0, hi0, hz0, hz1, hz2⟩ := info_parts info_pt8
  have D := (d.alloc (.cells #[] 89)).1.same
  have D0 := d.1.same.alloc (.cells #[] 89)
  have hbl := d.1.here
  have hW := Nat.le_trans d.1.far (Nat.le_of_lt d.1.here)
  have ho0 := World.ownsRow_made w #[] (e := 89) (size := 2) 0 (Nat.le_refl _) (by decide) (by simp)
  have HD := Lib.hid (And.intro d ho0)
  clear d ho0
  go_enter Try.func93, Try.ntmps93
  go_wp2_with fail
  (refine (below_on W _ _ b a len cap z 4 D).mono ?_; rintro e w1 ⟨r, hr, rfl, d1⟩)
  have hr4 := below4 hr
  have hown := HD.out.2.kept d1.2 (.inr fun e => by simp [Value.ownBlock] at e; omega)
  have dA := D0.trans d1
  have HA := Lib.hid (And.intro hown dA)
  have hs1 : w.heap.size ≤ w1.heap.size := by have := dA.2.size; omega
  obtain ⟨t, rfl⟩ : ∃ t : Nat, r = (t : Int) := ⟨r.toNat, by omega⟩
  clear hown dA d1 D D0 hr
  go_wp2
  go_loopw [3, 5] (fun v i wr => ∃ l : List Pt, l.length ≤ 3 + t ∧ i = .int .i64 (l.length : Int) ∧ Hid (Shp l) ∧ wr.ownsRow w.heap.size 89 2 v l.length (cellsP l) ∧ w.heap.size ≤ wr.heap.size ∧ Drawn W a len cap z b w wr) (fun _ i _ => 3 + t - (intOf i).toNat)
  case atStart => exact ⟨[], by simp, rfl, Lib.hid (by intro p hp; simp at hp), HA.out.1, hs1, HA.out.2⟩
  case round =>
    obtain ⟨l, hk, rfl, hX, hown, hws, hd⟩ := hrel
    obtain ⟨k, hlk⟩ : ∃ k, l.length = k := ⟨_, rfl⟩
    have HK := Lib.hid hlk
    rw [hlk] at hk hown ⊢
    clear hlk
    by_cases hlt : k < 3 + t
    · have hlt' : (k : Int) < 3 + (t : Int) := by omega
      have hdS := hd.1.same
      have HH := Lib.hid (And.intro hown hd)
      clear hown hd
      go_wp2_with fail
      (refine (point_on W _ _ b a len cap z hdS).mono ?_; rintro e w2 ⟨x, y, hx, hy, rfl, d1⟩)
      have hown1 := HH.out.1.kept d1.2 (.inr fun e => by have := (HH.out.1.lt _ e).1; omega)
      have hd1 := HH.out.2.trans d1
      have hsz1 := d1.2.size
      have HY := Lib.hid (And.intro (shp_snoc hX.out hx hy) (And.intro hown1 hd1))
      have hown1' := hown1.alloc (.cells #[.int .i64 x, .int .i64 y] 89)
      clear hx hy hown1 hd1 d1 hdS
      go_wp2_with (at_builtin; refine wpList_append_own _ rfl _ _ 24 rfl w.heap.size 89 i0 (.agg #[.int .i64 0, .int .i64 0]) 2 16 Try.underlying24 hi0 hz0 hz1 hz2 rfl (by decide) _ _ _ rfl (hown1'.alloc _) ⟨w2.heap.size + 1, 0, none⟩ 1 1 [.int .i64 x, .int .i64 y] rfl rfl ?c1 ?c2 ?c3 ?c4 ?c5 ?_)
      case c1 => exact World.news_of_block (cs := #[.int .i64 x, .int .i64 y]) (t := 89) (fr := (0, 0)) (by have := heap_alloc_new (w2.alloc (.cells #[.int .i64 x, .int .i64 y] 89)) (.cells #[.int .i64 x, .int .i64 y] 89); simpa using this)
      case c2 => simp [Value.oneCell']
      case c3 => unfold maxLen; omega
      case c4 => omega
      case c5 => simp; omega
      intro v2 w3 hown2 hgrow _
      have hd2 := ((HY.out.2.2.alloc (.cells #[.int .i64 x, .int .i64 y] 89)).alloc (.cells #[.int .i64 x, .int .i64 y] 89)).grown hgrow (fun q hq => by have := (HY.out.2.1.lt q hq).1; omega)
      have hws2 : w.heap.size ≤ w3.heap.size := by have := hgrow.size; simp at this; omega
      have hrel2 : w3.ownsRow w.heap.size 89 2 v2 (l ++ [(x, y)]).length (cellsP (l ++ [(x, y)])) := by rw [cellsP_snoc, List.length_append, HK.out]; exact hown2
      have HZ := Lib.hid (And.intro hrel2 hd2)
      clear hown2 hown1' hrel2 hd2 hgrow
      go_wp2
      go_roundw
      case rel => exact ⟨l ++ [(x, y)], by simp [HK.out]; omega, by rw [List.length_append, HK.out]; go_num, Lib.hid HY.out.1, HZ.out.1, hws2, HZ.out.2⟩
      case measure => simp [intOf]; omega
    · obtain rfl : k = 3 + t := by omega
      have HX := Lib.hid (And.intro hown (HD.out.1.trans hd))
      clear hown hd
      go_wp2
      go_ret
      exact ⟨_, l, rfl, by rw [HK.out]; omega, by rw [HK.out]; omega, hX.out, by rw [HK.out]; exact HX.out.1, HX.out.2⟩
theorem cellsP_get : ∀ (l : List Pt) (i : Nat) (h : i < l.length), (cellsP l)[i * 2]? = some (.int .i64 l[i].1) ∧ (cellsP l)[i * 2 + 1]? = some (.int .i64 l[i].2)
  | [], i, h => by simp at h
  | p :: l, 0, h => by simp [cellsP]
  | p :: l, i + 1, h => by
    have := cellsP_get l i (by simpa using h)
    have e : cellsP (p :: l) = .int .i64 p.1 :: .int .i64 p.2 :: cellsP l := by simp [cellsP]
    rw [e, show (i + 1) * 2 = i * 2 + 1 + 1 by omega]
    simpa using this
theorem path_of_owns {w : World} {base : Nat} {e : TypeId} {v : Value} {l : List Pt} (h : w.ownsRow base e 2 v l.length (cellsP l)) : ∃ a c, v = .slice a l.length c ∧ PathAt w a l := by
  rcases h.2 with ⟨hv, h0⟩ | ⟨g, cap, cur, hv, hb, hg, _⟩
  · exact ⟨none, 0, by rw [hv, h0], .inl (List.eq_nil_of_length_eq_zero h0)⟩
  · refine ⟨_, _, hv, .inr ⟨g, rfl, (Array.getElem?_eq_some_iff.1 hg).1, fun i hi => ?_⟩⟩
    have hadd : ∀ j, (⟨g, 0, none⟩ : Addr).add j = ⟨g, j, none⟩ := fun j => by unfold Addr.add; split <;> simp_all
    have c := cellsP_get l i hi
    rw [getp l hi] at c
    have h1 := World.ownsRow.cells h (g := g) (by rw [hv]; rfl) (i * 2) _ c.1
    have h2 := World.ownsRow.cells h (g := g) (by rw [hv]; rfl) (i * 2 + 1) _ c.2
    rw [hadd] at h1 h2
    exact ⟨h1, h2⟩
end Go.Proofs.Ytejnfdpckipbeaa.Ins
namespace Go.Proofs.Ytejnfdpckipbeaa.Own
open Go.ChangeShapes Go.WideShapes Go.ChangeAt Go.RowKit
open Kit Slabs Ints
set_option linter.unusedVariables false
set_option linter.unusedSimpArgs false
set_option linter.unnecessarySimpa false
set_option maxRecDepth 100000
theorem eq_Turn (xx0_0 : Int) (xx1_0 : Int) (xx2_0 : Int) (xx3_0 : Int) (w : World) : Calls Try.prog 110 #[.agg #[.int .i64 xx0_0, .int .i64 xx1_0, .int .i64 xx2_0, .int .i64 xx3_0], .agg #[.int .i64 xx0_0, .int .i64 xx1_0, .int .i64 xx2_0, .int .i64 xx3_0]] w fun e w' => e = .returned (.bool true) ∧ Below w.heap.size w w' := by
  go_enter Try.func110, Try.ntmps110
  go_wp2
  go_ret
  exact ⟨rfl, by go_grown⟩
theorem eq_Box (xx0_0 : Int) (xx1_0 : Int) (xx2_0 : Int) (xx3_0 : Int) (w : World) : Calls Try.prog 33 #[.agg #[.int .i64 xx0_0, .int .i64 xx1_0, .int .i64 xx2_0, .int .i64 xx3_0], .agg #[.int .i64 xx0_0, .int .i64 xx1_0, .int .i64 xx2_0, .int .i64 xx3_0]] w fun e w' => e = .returned (.bool true) ∧ Below w.heap.size w w' := by
  go_enter Try.func33, Try.ntmps33
  go_wp2
  go_ret
  exact ⟨rfl, by go_grown⟩
set_option maxHeartbeats 4000000 in
theorem eq_Graphics (w : World) {A B : Array Value} {ds : List Dt} {f1 f2 : List Nat} (hb : bulkL ds ≤ 1048576) (h1 : OwnL w LGraphics A.toList ds f1) (h2 : OwnL w LGraphics B.toList ds f2) :
    Calls Try.prog 67 #[.agg A, .agg B] w fun e w' => e = .returned (.bool true) ∧ Below w.heap.size w w' := by
  obtain ⟨xa0, xc0, xa5, xc5, xs0, xx1_0, xx1_1, xx1_2, xx1_3, xs5, xx6_0, xx7_0, xx7_1, xx7_2, xx7_3, xF0, xF5, hA, rfl, rfl, ox0, ox5⟩ := inv_Graphics h1
  obtain ⟨ya0, yc0, ya5, yc5, yF0, yF5, hB, rfl, oy0, oy5⟩ := inv_Graphics_ h2
  simp only [bulkL_app, bulkL, Dt.bulk] at hb
  have BA : Blk ((w.alloc (.cells A 47)).alloc (.cells B 47)) w.heap.size A.toList := (Blk.new w A 47 rfl).alloc _
  have BB : Blk ((w.alloc (.cells A 47)).alloc (.cells B 47)) (w.heap.size + 1) B.toList := Blk.new _ B 47 (by simp)
  have hW : Below w.heap.size w ((w.alloc (.cells A 47)).alloc (.cells B 47)) := by go_grown
  rw [hA] at BA
  rw [hB] at BB
  have HO := Lib.hid (And.intro ox0 (And.intro ox5 (And.intro oy0 oy5)))
  have HA0 := Lib.hid BA
  have HB0 := Lib.hid BB
  have HW0 := Lib.hid hW
  have ca0 : A[0]? = some (.slice xa0 xs0.length xc0) := by rw [← Array.getElem?_toList, hA]; rfl
  have cb0 : B[0]? = some (.slice ya0 xs0.length yc0) := by rw [← Array.getElem?_toList, hB]; rfl
  clear ox0 ox5 oy0 oy5 hA hB BA BB hW h1 h2
  go_enter Try.func67, Try.ntmps67
  go_wp2_with fail
  ((with_reducible refine (eqI_o _ (by omega) ((HO.out.1).under HW0.out) ((HO.out.2.2.1).under HW0.out)).mono ?_); rintro e w1 ⟨rfl, b1⟩)
  have HW1 := Lib.hid (on_of HW0.out b1)
  have HA1 := Lib.hid (HA0.out.keep b1)
  have HB1 := Lib.hid (HB0.out.keep b1)
  clear b1 ca0 cb0
  have ca1 := HA1.out.1 1 (.int .i64 xx1_0) (by rfl)
  have ca2 := HA1.out.1 2 (.int .i64 xx1_1) (by rfl)
  have ca3 := HA1.out.1 3 (.int .i64 xx1_2) (by rfl)
  have ca4 := HA1.out.1 4 (.int .i64 xx1_3) (by rfl)
  have cb1 := HB1.out.1 1 (.int .i64 xx1_0) (by rfl)
  have cb2 := HB1.out.1 2 (.int .i64 xx1_1) (by rfl)
  have cb3 := HB1.out.1 3 (.int .i64 xx1_2) (by rfl)
  have cb4 := HB1.out.1 4 (.int .i64 xx1_3) (by rfl)
  go_wp2_with fail
  ((with_reducible refine (eq_Turn xx1_0 xx1_1 xx1_2 xx1_3 _).mono ?_); rintro e w2 ⟨rfl, b2⟩)
  have HW2 := Lib.hid (on_of HW1.out b2)
  have HA2 := Lib.hid (HA1.out.keep b2)
  have HB2 := Lib.hid (HB1.out.keep b2)
  clear b2 ca1 ca2 ca3 ca4 cb1 cb2 cb3 cb4
  have ca5 := HA2.out.1 5 (.slice xa5 xs5.length xc5) (by rfl)
  have cb5 := HB2.out.1 5 (.slice ya5 xs5.length yc5) (by rfl)
  go_wp2_with fail
  ((with_reducible refine (eqP_o _ (by omega) ((HO.out.2.1).under HW2.out) ((HO.out.2.2.2).under HW2.out)).mono ?_); rintro e w3 ⟨rfl, b3⟩)
  have HW3 := Lib.hid (on_of HW2.out b3)
  have HA3 := Lib.hid (HA2.out.keep b3)
  have HB3 := Lib.hid (HB2.out.keep b3)
  clear b3 ca5 cb5
  have ca6 := HA3.out.1 6 (.int .i64 xx6_0) (by rfl)
  have cb6 := HB3.out.1 6 (.int .i64 xx6_0) (by rfl)
  have ca7 := HA3.out.1 7 (.int .i64 xx7_0) (by rfl)
  have ca8 := HA3.out.1 8 (.int .i64 xx7_1) (by rfl)
  have ca9 := HA3.out.1 9 (.int .i64 xx7_2) (by rfl)
  have ca10 := HA3.out.1 10 (.int .i64 xx7_3) (by rfl)
  have cb7 := HB3.out.1 7 (.int .i64 xx7_0) (by rfl)
  have cb8 := HB3.out.1 8 (.int .i64 xx7_1) (by rfl)
  have cb9 := HB3.out.1 9 (.int .i64 xx7_2) (by rfl)
  have cb10 := HB3.out.1 10 (.int .i64 xx7_3) (by rfl)
  go_wp2_with fail
  ((with_reducible refine (eq_Box xx7_0 xx7_1 xx7_2 xx7_3 _).mono ?_); rintro e w4 ⟨rfl, b4⟩)
  have HW4 := Lib.hid (on_of HW3.out b4)
  have HA4 := Lib.hid (HA3.out.keep b4)
  have HB4 := Lib.hid (HB3.out.keep b4)
  clear b4 ca6 cb6 ca7 ca8 ca9 ca10 cb7 cb8 cb9 cb10
  go_wp2
  go_ret
  exact ⟨rfl, HW4.out⟩
set_option maxHeartbeats 4000000 in
theorem eq_Object (w : World) {A B : Array Value} {ds : List Dt} {f1 f2 : List Nat} (hb : bulkL ds ≤ 1048576) (h1 : OwnL w LObject A.toList ds f1) (h2 : OwnL w LObject B.toList ds f2) :
    Calls Try.prog 31 #[.agg A, .agg B] w fun e w' => e = .returned (.bool true) ∧ Below w.heap.size w w' := by
  obtain ⟨xa0, xc0, xs0, xx1_0, xx2_0, xx2_1, xx2_2, xx2_3, xF0, hA, rfl, rfl, ox0⟩ := inv_Object h1
  obtain ⟨ya0, yc0, yF0, hB, rfl, oy0⟩ := inv_Object_ h2
  simp only [bulkL_app, bulkL, Dt.bulk] at hb
  have BA : Blk ((w.alloc (.cells A 28)).alloc (.cells B 28)) w.heap.size A.toList := (Blk.new w A 28 rfl).alloc _
  have BB : Blk ((w.alloc (.cells A 28)).alloc (.cells B 28)) (w.heap.size + 1) B.toList := Blk.new _ B 28 (by simp)
  have hW : Below w.heap.size w ((w.alloc (.cells A 28)).alloc (.cells B 28)) := by go_grown
  rw [hA] at BA
  rw [hB] at BB
  have HO := Lib.hid (And.intro ox0 oy0)
  have HA0 := Lib.hid BA
  have HB0 := Lib.hid BB
  have HW0 := Lib.hid hW
  have ca0 : A[0]? = some (.slice xa0 xs0.length xc0) := by rw [← Array.getElem?_toList, hA]; rfl
  have cb0 : B[0]? = some (.slice ya0 xs0.length yc0) := by rw [← Array.getElem?_toList, hB]; rfl
  clear ox0 oy0 hA hB BA BB hW h1 h2
  go_enter Try.func31, Try.ntmps31
  go_wp2_with fail
  ((with_reducible refine (eqP_o _ (by omega) ((HO.out.1).under HW0.out) ((HO.out.2).under HW0.out)).mono ?_); rintro e w1 ⟨rfl, b1⟩)
  have HW1 := Lib.hid (on_of HW0.out b1)
  have HA1 := Lib.hid (HA0.out.keep b1)
  have HB1 := Lib.hid (HB0.out.keep b1)
  clear b1 ca0 cb0
  have ca1 := HA1.out.1 1 (.int .i64 xx1_0) (by rfl)
  have cb1 := HB1.out.1 1 (.int .i64 xx1_0) (by rfl)
  have ca2 := HA1.out.1 2 (.int .i64 xx2_0) (by rfl)
  have ca3 := HA1.out.1 3 (.int .i64 xx2_1) (by rfl)
  have ca4 := HA1.out.1 4 (.int .i64 xx2_2) (by rfl)
  have ca5 := HA1.out.1 5 (.int .i64 xx2_3) (by rfl)
  have cb2 := HB1.out.1 2 (.int .i64 xx2_0) (by rfl)
  have cb3 := HB1.out.1 3 (.int .i64 xx2_1) (by rfl)
  have cb4 := HB1.out.1 4 (.int .i64 xx2_2) (by rfl)
  have cb5 := HB1.out.1 5 (.int .i64 xx2_3) (by rfl)
  go_wp2_with fail
  ((with_reducible refine (eq_Box xx2_0 xx2_1 xx2_2 xx2_3 _).mono ?_); rintro e w2 ⟨rfl, b2⟩)
  have HW2 := Lib.hid (on_of HW1.out b2)
  have HA2 := Lib.hid (HA1.out.keep b2)
  have HB2 := Lib.hid (HB1.out.keep b2)
  clear b2 ca1 cb1 ca2 ca3 ca4 ca5 cb2 cb3 cb4 cb5
  go_wp2
  go_ret
  exact ⟨rfl, HW2.out⟩
end Go.Proofs.Ytejnfdpckipbeaa.Own
