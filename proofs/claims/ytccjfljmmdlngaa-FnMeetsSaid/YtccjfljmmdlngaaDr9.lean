/-
  DrawSpans: at most four spans that lie apart, of at most six columns each; condition: the bytes that came in can be read.
-/
import Derived.Test.YtccjfljmmdlngaaDs8
import Derived.Test.YtccjfljmmdlngaaMe9
import Derived.Deep.RegionWith
namespace Go.Proofs.Ytccjfljmmdlngaa.Ins
open Go.ChangeShapes Go.WideShapes Go.ChangeAt Go.RowKit
open Kit Point Slabs Draw
set_option linter.unusedVariables false
set_option linter.unusedSimpArgs false
set_option linter.unnecessarySimpa false
/-- Drawn spans. -/
structure Drs (l : List Pt) : Prop where
  sep : Sep l
  few : l.length ≤ 4
  small : ∀ q ∈ l, 1 ≤ q.2 - q.1 ∧ q.2 - q.1 ≤ 6
theorem within5 {n r : Int} (h : Within n r) (hn : 0 < n) : 0 ≤ r ∧ r < n := ⟨h.1, h.2.1 hn⟩
theorem draws_drew {W w : World} {a : Option Addr} {len cap : Nat} {z : List Int} {b : Nat} (d : Draws W a len cap z b w) : Drawn W a len cap z b w w.drew :=
  ⟨⟨d.row, d.far, d.here, by obtain ⟨i, h, hi, hl, c⟩ := d.cur; exact ⟨i, h, hi, hl, c.c0, c.c1, c.c2, c.f1, c.f2⟩, ⟨d.below.os, d.below.tape, d.below.output, d.below.size, d.below.block⟩⟩, ⟨rfl, rfl, rfl, Nat.le_refl _, fun _ _ _ => rfl⟩⟩
theorem drs_snoc {l : List Pt} {y e x : Int} (h : Drs l) (hl : ∀ q ∈ l, q.2 < y) (h4 : l.length ≤ 3) (h1 : 1 ≤ e - y ∧ e - y ≤ 6) (hx : e < x) : Drs (l ++ [(y, e)]) ∧ ∀ q ∈ l ++ [(y, e)], q.2 < x := by
  refine ⟨⟨h.sep.snoc (by omega) hl, by simp; omega, fun q hq => ?_⟩, fun q hq => ?_⟩
  · rcases List.mem_append.1 hq with hq | hq
    · exact h.small q hq
    · rw [List.mem_singleton.1 hq]; exact h1
  · rcases List.mem_append.1 hq with hq | hq
    · have := hl q hq; omega
    · rw [List.mem_singleton.1 hq]; exact hx
set_option maxRecDepth 100000 in
set_option maxHeartbeats 4000000 in
theorem spans_on (W w0 w : World) (b : Nat) (a : Option Addr) (len cap : Nat) (z : List Int) (d : Drawn W a len cap z b w0 w) :
    Calls Try.prog 48 #[.pointer (some ⟨b, 0, none⟩)] w fun e w' => ∃ (v : Value) (l : List Pt), e = .returned v ∧ Drs l ∧ w'.ownsRow w.heap.size 61 2 v l.length (cellsP l) ∧ Drawn W a len cap z b w0 w' := by
  obtain ⟨i0, hi0, hz0, hz1, hz2⟩ := info_parts info_sp9
  have D := (d.alloc (.cells #[] 61)).1.same
  have D0 := d.1.same.alloc (.cells #[] 61)
  have hbl := d.1.here
  have hW := Nat.le_trans d.1.far (Nat.le_of_lt d.1.here)
  have ho0 := World.ownsRow_made w #[] (e := 61) (size := 2) 0 (Nat.le_refl _) (by decide) (by simp)
  have HD := Lib.hid (And.intro d ho0)
  clear d ho0
  go_enter Try.func48, Try.ntmps48
  go_wp2_with fail
  (refine (below_on W _ _ b a len cap z 6 D).mono ?_; rintro e w1 ⟨r, hr, rfl, d1⟩)
  have hr6 := within5 hr (by decide)
  have hown := HD.out.2.kept d1.2 (.inr fun e => by simp [Value.ownBlock] at e; omega)
  have dA := D0.trans d1
  have HA := Lib.hid (And.intro hown dA)
  have hs1 : w.heap.size ≤ w1.heap.size := by have := dA.2.size; omega
  have hwr : IntKind.i64.wrap (r - 2) = r - 2 := by rw [IntKind.wrap_i64]; omega
  clear hown dA d1 D D0 hr
  go_wp2
  go_loopw [3, 4, 5] (fun v x i wr => ∃ (l : List Pt) (y : Int), i = .int .i64 (l.length : Int) ∧ x = .int .i64 y ∧ (-2 ≤ y ∧ y ≤ 3 + 11 * (l.length : Int)) ∧ Hid (Drs l ∧ ∀ q ∈ l, q.2 < y) ∧ l.length ≤ 4 ∧ wr.ownsRow w.heap.size 61 2 v l.length (cellsP l) ∧ w.heap.size ≤ wr.heap.size ∧ Drawn W a len cap z b w wr) (fun _ _ i _ => 5 - (intOf i).toNat)
  case atStart => exact ⟨[], r - 2, rfl, rfl, by simp; omega, Lib.hid ⟨⟨trivial, by simp, by simp⟩, by simp⟩, by simp, HA.out.1, hs1, HA.out.2⟩
  case round =>
    obtain ⟨l, y, rfl, rfl, hy, hX, hl4, hown, hws, hd⟩ := hrel
    obtain ⟨k, hlk⟩ : ∃ k, l.length = k := ⟨_, rfl⟩
    have HK := Lib.hid hlk
    rw [hlk] at hy hl4 hown ⊢
    clear hlk
    have hdS := hd.1.same
    have HH := Lib.hid (And.intro hown hd)
    clear hown hd
    go_wp2_with fail
    (refine (below_on W _ _ b a len cap z 5 hdS).mono ?_; rintro e w2 ⟨r5, hr5, rfl, d1⟩)
    have hr5' := within5 hr5 (by decide)
    have hown2 := HH.out.1.kept d1.2 (.inr fun e => by have := (HH.out.1.lt _ e).1; omega)
    have hd2 := HH.out.2.trans d1
    have hs2 : w.heap.size ≤ w2.heap.size := by have := d1.2.size; omega
    have H2 := Lib.hid (And.intro hown2 hd2)
    have hdS2 := hd2.1.same
    clear hown2 hd2 d1 hr5 hdS
    by_cases hlt : (k : Int) < r5
    · have hk3 : k ≤ 3 := by omega
      go_wp2_with fail
      (refine (below_on W _ _ b a len cap z 6 hdS2).mono ?_; rintro e w3 ⟨r6, hr6', rfl, d3⟩)
      have hb6 := within5 hr6' (by decide)
      have hown3 := H2.out.1.kept d3.2 (.inr fun e => by have := (H2.out.1.lt _ e).1; omega)
      have hd3 := H2.out.2.trans d3
      have hs3 : w.heap.size ≤ w3.heap.size := by have := d3.2.size; omega
      have w1' : IntKind.i64.wrap (y + 1) = y + 1 := by rw [IntKind.wrap_i64]; omega
      have w2' : IntKind.i64.wrap (y + 1 + r6) = y + 1 + r6 := by rw [IntKind.wrap_i64]; omega
      have H3 := Lib.hid (And.intro hown3 hd3)
      have hown3' := hown3.alloc (.cells #[.int .i64 y, .int .i64 (y + 1 + r6)] 61)
      clear hown3 hd3 d3 hr6' hdS2
      go_wp2_with (at_builtin; refine wpList_append_own _ rfl _ _ 28 rfl w.heap.size 61 i0 _ 2 16 Try.underlying28 hi0 hz0 hz1 hz2 rfl (by decide) _ _ _ rfl (hown3'.alloc _) ⟨w3.heap.size + 1, 0, none⟩ 1 1 [.int .i64 y, .int .i64 (y + 1 + r6)] rfl rfl ?c1 ?c2 ?c3 ?c4 ?c5 ?_)
      case c1 => have := two_new (V := w3.alloc (.cells #[.int .i64 y, .int .i64 (y + 1 + r6)] 61)) (x := y) (y := y + 1 + r6) (T := 61); rwa [World.size_alloc] at this
      case c2 => simp [Value.oneCell']
      case c3 => unfold maxLen; omega
      case c4 => omega
      case c5 => simp; omega
      intro v2 w4 hown4 hgrow _
      have hd4 := ((H3.out.2.alloc (.cells #[.int .i64 y, .int .i64 (y + 1 + r6)] 61)).alloc (.cells #[.int .i64 y, .int .i64 (y + 1 + r6)] 61)).grown hgrow (fun q hq => by have := (H3.out.1.lt q hq).1; omega)
      have hs4 : w.heap.size ≤ w4.heap.size := by have := hgrow.size; simp at this; omega
      have hg6 : w3.heap.size ≠ b := H3.out.2.ne
      have q1 : w4.cell? ⟨w3.heap.size, 1, none⟩ = some (.int .i64 (y + 1 + r6)) := hgrow.cell (a := ⟨w3.heap.size, 1, none⟩) (by simp [go_sem]) (fun e => by have := (H3.out.1.lt _ e.symm).2; exact absurd this (Nat.lt_irrefl _))
      have hdd := draws_drew hd4.1
      have HG : Hid (∀ V, Drawn W a len cap z b w4.drew V → V.cell? ⟨w3.heap.size, 1, none⟩ = some (.int .i64 (y + 1 + r6))) := Lib.hid fun V hV => hV.2.cell (a := ⟨w3.heap.size, 1, none⟩) q1 (fun e => hg6 (by cases e; rfl))
      have H4 := Lib.hid (And.intro hown4 (And.intro hd4 hdd))
      have hrow4 : ∀ q, v2.ownBlock = some q → w.heap.size ≤ q := fun q hq => (hown4.lt q hq).1
      have HR4 := Lib.hid hrow4
      have w3' : IntKind.i64.wrap (y + 1 + r6 + 1) = y + 1 + r6 + 1 := by rw [IntKind.wrap_i64]; omega
      have hdS4 := hdd.1.same
      clear hown4 hd4 hgrow hdd hown3' hrow4 w1' w2'
      generalize w3.heap.size = g6 at *
      go_wp2
      go_region_with (go_at_call 37; refine (below_on W _ _ b a len cap z 5 hdS4).mono ?_; rintro e w5 ⟨r7, hr7, rfl, d5⟩; have q2 := HG.out _ d5; have hr7' := within5 hr7 (by decide); have w4' : IntKind.i64.wrap (y + 1 + r6 + 1 + r7) = y + 1 + r6 + 1 + r7 := (by rw [IntKind.wrap_i64]; omega); have H5 := Lib.hid d5; clear hr7 d5)
      all_goals
        have hd5 := (H4.out.2.1.trans H4.out.2.2).trans H5.out
        have hown5 := H4.out.1.kept ((H4.out.2.2.trans H5.out).2) (.inr fun e => by have := HR4.out _ e; omega)
        have hrel5 : w5.ownsRow w.heap.size 61 2 v2 (l ++ [(y, y + 1 + r6)]).length (cellsP (l ++ [(y, y + 1 + r6)])) := by rw [cellsP_snoc, List.length_append, HK.out]; exact hown5
        have hs5 : w.heap.size ≤ w5.heap.size := by have := hd5.2.size; omega
        have hdr := drs_snoc (x := y + 1 + r6 + 1 + r7) hX.out.1 hX.out.2 (by rw [HK.out]; exact hk3) (show 1 ≤ y + 1 + r6 - y ∧ y + 1 + r6 - y ≤ 6 by omega) (by omega)
        have H6 := Lib.hid (And.intro hd5 (And.intro hrel5 hdr))
        clear hd5 hown5 hrel5 hdr hdS4 q1 w3'
        simp [Act.put]
        go_wp2
        go_roundw
        case rel => exact ⟨l ++ [(y, y + 1 + r6)], y + 1 + r6 + 1 + r7, by rw [List.length_append, HK.out]; go_num, rfl, by rw [List.length_append, HK.out]; simp; omega, Lib.hid H6.out.2.2, by rw [List.length_append, HK.out]; simp; omega, H6.out.2.1, hs5, H6.out.1⟩
        case measure => simp [intOf]; omega
    · have hX2 := Lib.hid (And.intro H2.out.1 (HD.out.1.trans H2.out.2))
      clear hdS2
      go_wp2
      go_ret
      exact ⟨_, l, rfl, hX.out.1, by rw [HK.out]; exact hX2.out.1, hX2.out.2⟩
set_option maxHeartbeats 1000000 in
theorem drspans_any (w : World) (a : Option Addr) (len cap : Nat) (z : List Int) (hr : IsRow .u8 w a len cap z) :
    Calls Try.prog 19 #[.slice a len cap] w fun e w' => ∃ (v : Value) (l : List Pt), e = .returned v ∧ Drs l ∧ w'.ownsRow w.heap.size 61 2 v l.length (cellsP l) ∧ Below w.heap.size w w' := by
  have HR := Lib.hid hr
  clear hr
  go_enter Try.func19, Try.ntmps19
  go_wp2_with fail
  (refine (new_any w _ _ _ z HR.out).mono ?_; rintro e w1 ⟨rfl, dr⟩)
  have hs1 := dr.below.size
  go_wp2_with fail
  (refine (spans_on w _ _ _ a len cap z dr.same).mono ?_; rintro e w2 ⟨v, l, rfl, hS, ho, d2⟩)
  have H2 := Lib.hid (And.intro ho (And.intro d2 hS))
  clear ho d2 hS
  go_wp2
  go_ret
  exact ⟨v, l, rfl, H2.out.2.2, ⟨H2.out.1.1, H2.out.1.2.imp id (fun ⟨g, c, cur, h⟩ => ⟨g, c, cur, h.1, Nat.le_trans hs1 h.2.1, h.2.2⟩)⟩, H2.out.2.1.1.below⟩
end Go.Proofs.Ytccjfljmmdlngaa.Ins
