/-
  DrawShape: a path of three to six points within -4 to 36; condition: the bytes that came in can be read.
-/
import Derived.Test.YtccjfljmmdlngaaDrawPt
import Derived.Test.YtccjfljmmdlngaaSh8
namespace Go.Proofs.Ytccjfljmmdlngaa.Ins
open Go.ChangeShapes Go.WideShapes Go.ChangeAt Go.RowKit
open Kit Point Slabs Draw
set_option linter.unusedVariables false
set_option linter.unusedSimpArgs false
set_option linter.unnecessarySimpa false
/-- A drawn path. -/
def Shp (l : List Pt) : Prop := ∀ p ∈ l, InPage p.1 ∧ InPage p.2
theorem shp_snoc {l : List Pt} {x y : Int} (h : Shp l) (hx : InPage x) (hy : InPage y) : Shp (l ++ [(x, y)]) := by
  intro p hp
  rcases List.mem_append.1 hp with h1 | h1
  · exact h p h1
  · rw [List.mem_singleton.1 h1]; exact ⟨hx, hy⟩
theorem shp_ok {l : List Pt} (h : Shp l) (h8 : l.length ≤ 8) : pathB l = true := by
  have : ptsB l = true := by
    rw [ptsB, List.all_eq_true]
    intro p hp
    have := h p hp
    unfold InPage at this
    simp [pokB, inB]; omega
  simp [pathB, this, h8]
theorem below4 {r : Int} (h : Within 4 r) : 0 ≤ r ∧ r ≤ 3 := by obtain ⟨h0, h1, _⟩ := h; have := h1 (by omega); omega
set_option maxHeartbeats 2000000 in
theorem path_on (W w0 w : World) (b : Nat) (a : Option Addr) (len cap : Nat) (z : List Int) (d : Drawn W a len cap z b w0 w) :
    Calls Try.prog 35 #[.pointer (some ⟨b, 0, none⟩)] w fun e w' => ∃ (v : Value) (l : List Pt), e = .returned v ∧ 3 ≤ l.length ∧ l.length ≤ 6 ∧ Shp l ∧ w'.ownsRow w.heap.size 65 2 v l.length (cellsP l) ∧ Drawn W a len cap z b w0 w' := by
  obtain ⟨i0, hi0, hz0, hz1, hz2⟩ := info_parts info_pt8
  have D := (d.alloc (.cells #[] 65)).1.same
  have D0 := d.1.same.alloc (.cells #[] 65)
  have hbl := d.1.here
  have hW := Nat.le_trans d.1.far (Nat.le_of_lt d.1.here)
  have ho0 := World.ownsRow_made w #[] (e := 65) (size := 2) 0 (Nat.le_refl _) (by decide) (by simp)
  have HD := Lib.hid (And.intro d ho0)
  clear d ho0
  go_enter Try.func35, Try.ntmps35
  go_wp2_with fail
  (refine (below_on W _ _ b a len cap z 4 D).mono ?_; rintro e w1 ⟨r, hr, rfl, d1⟩)
  have hr4 := below4 hr
  have hown := HD.out.2.kept d1.2 (.inr fun e => by simp [Value.ownBlock] at e; omega)
  have dA := D0.trans d1
  have HA := Lib.hid (And.intro hown dA)
  have hs1 : w.heap.size ≤ w1.heap.size := by have := dA.2.size; omega
  obtain ⟨t, rfl⟩ : ∃ t : Nat, r = (t : Int) := ⟨r.toNat, by omega⟩
  clear hown dA d1 D D0 hr
  go_wp2
  go_loopw [3, 5] (fun v i wr => ∃ l : List Pt, l.length ≤ 3 + t ∧ i = .int .i64 (l.length : Int) ∧ Hid (Shp l) ∧ wr.ownsRow w.heap.size 65 2 v l.length (cellsP l) ∧ w.heap.size ≤ wr.heap.size ∧ Drawn W a len cap z b w wr) (fun _ i _ => 3 + t - (intOf i).toNat)
  case atStart => exact ⟨[], by simp, rfl, Lib.hid (by intro p hp; simp at hp), HA.out.1, hs1, HA.out.2⟩
  case round =>
    obtain ⟨l, hk, rfl, hX, hown, hws, hd⟩ := hrel
    obtain ⟨k, hlk⟩ : ∃ k, l.length = k := ⟨_, rfl⟩
    have HK := Lib.hid hlk
    rw [hlk] at hk hown ⊢
    clear hlk
    by_cases hlt : k < 3 + t
    · have hlt' : (k : Int) < 3 + (t : Int) := by omega
      have hdS := hd.1.same
      have HH := Lib.hid (And.intro hown hd)
      clear hown hd
      go_wp2_with fail
      (refine (point_on W _ _ b a len cap z hdS).mono ?_; rintro e w2 ⟨x, y, hx, hy, rfl, d1⟩)
      have hown1 := HH.out.1.kept d1.2 (.inr fun e => by have := (HH.out.1.lt _ e).1; omega)
      have hd1 := HH.out.2.trans d1
      have hsz1 := d1.2.size
      have HY := Lib.hid (And.intro (shp_snoc hX.out hx hy) (And.intro hown1 hd1))
      have hown1' := hown1.alloc (.cells #[.int .i64 x, .int .i64 y] 65)
      clear hx hy hown1 hd1 d1 hdS
      go_wp2_with (at_builtin; refine wpList_append_own _ rfl _ _ 24 rfl w.heap.size 65 i0 (.agg #[.int .i64 0, .int .i64 0]) 2 16 Try.underlying24 hi0 hz0 hz1 hz2 rfl (by decide) _ _ _ rfl (hown1'.alloc _) ⟨w2.heap.size + 1, 0, none⟩ 1 1 [.int .i64 x, .int .i64 y] rfl rfl ?c1 ?c2 ?c3 ?c4 ?c5 ?_)
      case c1 => exact World.news_of_block (cs := #[.int .i64 x, .int .i64 y]) (t := 65) (fr := (0, 0)) (by have := heap_alloc_new (w2.alloc (.cells #[.int .i64 x, .int .i64 y] 65)) (.cells #[.int .i64 x, .int .i64 y] 65); simpa using this)
      case c2 => simp [Value.oneCell']
      case c3 => unfold maxLen; omega
      case c4 => omega
      case c5 => simp; omega
      intro v2 w3 hown2 hgrow _
      have hd2 := ((HY.out.2.2.alloc (.cells #[.int .i64 x, .int .i64 y] 65)).alloc (.cells #[.int .i64 x, .int .i64 y] 65)).grown hgrow (fun q hq => by have := (HY.out.2.1.lt q hq).1; omega)
      have hws2 : w.heap.size ≤ w3.heap.size := by have := hgrow.size; simp at this; omega
      have hrel2 : w3.ownsRow w.heap.size 65 2 v2 (l ++ [(x, y)]).length (cellsP (l ++ [(x, y)])) := by rw [cellsP_snoc, List.length_append, HK.out]; exact hown2
      have HZ := Lib.hid (And.intro hrel2 hd2)
      clear hown2 hown1' hrel2 hd2 hgrow
      go_wp2
      go_roundw
      case rel => exact ⟨l ++ [(x, y)], by simp [HK.out]; omega, by rw [List.length_append, HK.out]; go_num, Lib.hid HY.out.1, HZ.out.1, hws2, HZ.out.2⟩
      case measure => simp [intOf]; omega
    · obtain rfl : k = 3 + t := by omega
      have HX := Lib.hid (And.intro hown (HD.out.1.trans hd))
      clear hown hd
      go_wp2
      go_ret
      exact ⟨_, l, rfl, by rw [HK.out]; omega, by rw [HK.out]; omega, hX.out, by rw [HK.out]; exact HX.out.1, HX.out.2⟩
theorem cellsP_get : ∀ (l : List Pt) (i : Nat) (h : i < l.length), (cellsP l)[i * 2]? = some (.int .i64 l[i].1) ∧ (cellsP l)[i * 2 + 1]? = some (.int .i64 l[i].2)
  | [], i, h => by simp at h
  | p :: l, 0, h => by simp [cellsP]
  | p :: l, i + 1, h => by
    have := cellsP_get l i (by simpa using h)
    have e : cellsP (p :: l) = .int .i64 p.1 :: .int .i64 p.2 :: cellsP l := by simp [cellsP]
    rw [e, show (i + 1) * 2 = i * 2 + 1 + 1 by omega]
    simpa using this
/-- A row of points of a call's own can be read as a path. -/
theorem path_of_owns {w : World} {base : Nat} {e : TypeId} {v : Value} {l : List Pt} (h : w.ownsRow base e 2 v l.length (cellsP l)) : ∃ a c, v = .slice a l.length c ∧ PathAt w a l := by
  rcases h.2 with ⟨hv, h0⟩ | ⟨g, cap, cur, hv, hb, hg, _⟩
  · exact ⟨none, 0, by rw [hv, h0], .inl (List.eq_nil_of_length_eq_zero h0)⟩
  · refine ⟨_, _, hv, .inr ⟨g, rfl, (Array.getElem?_eq_some_iff.1 hg).1, fun i hi => ?_⟩⟩
    have hadd : ∀ j, (⟨g, 0, none⟩ : Addr).add j = ⟨g, j, none⟩ := fun j => by unfold Addr.add; split <;> simp_all
    have c := cellsP_get l i hi
    rw [getp l hi] at c
    have h1 := World.ownsRow.cells h (g := g) (by rw [hv]; rfl) (i * 2) _ c.1
    have h2 := World.ownsRow.cells h (g := g) (by rw [hv]; rfl) (i * 2 + 1) _ c.2
    rw [hadd] at h1 h2
    exact ⟨h1, h2⟩
set_option maxHeartbeats 1000000 in
theorem shape_any (w : World) (a : Option Addr) (len cap : Nat) (z : List Int) (hr : IsRow .u8 w a len cap z) :
    Calls Try.prog 11 #[.slice a len cap] w fun e w' => ∃ (v : Value) (l : List Pt), e = .returned v ∧ 3 ≤ l.length ∧ l.length ≤ 6 ∧ Shp l ∧ w'.ownsRow w.heap.size 65 2 v l.length (cellsP l) ∧ Below w.heap.size w w' := by
  have HR := Lib.hid hr
  clear hr
  go_enter Try.func11, Try.ntmps11
  go_wp2_with fail
  (refine (new_any w _ _ _ z HR.out).mono ?_; rintro e w1 ⟨rfl, dr⟩)
  have hs1 := dr.below.size
  go_wp2_with fail
  (refine (path_on w _ _ _ a len cap z dr.same).mono ?_; rintro e w2 ⟨v, l, rfl, h3, h6, hS, ho, d2⟩)
  have H2 := Lib.hid (And.intro ho (And.intro d2 hS))
  clear ho d2 hS
  go_wp2
  go_ret
  exact ⟨v, l, rfl, h3, h6, H2.out.2.2, ⟨H2.out.1.1, H2.out.1.2.imp id (fun ⟨g, c, cur, h⟩ => ⟨g, c, cur, h.1, Nat.le_trans hs1 h.2.1, h.2.2⟩)⟩, H2.out.2.1.1.below⟩
end Go.Proofs.Ytccjfljmmdlngaa.Ins
