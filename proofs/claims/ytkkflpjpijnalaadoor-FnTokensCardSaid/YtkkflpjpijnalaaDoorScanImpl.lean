/-
  The program's ScanText: what the call returns and leaves; condition: at most 1048576 bytes.
-/
import Derived.Test.YtkkflpjpijnalaaDoorReadImpl
namespace Go.Proofs.YtkkflpjpijnalaaDoor.Impl
open Go.ChangeShapes Go.WideShapes Go.ChangeAt Go.RowKit
open Kit Slabs Scan Num Nums Fmt ScanSpec
open Split (byt byt_in byt_end Ans Ok Owns own_form)
set_option linter.unusedVariables false
set_option linter.unusedSimpArgs false
set_option linter.unnecessarySimpa false
set_option maxRecDepth 100000

theorem split_impl {s : ByteArray} {b : Bool} {l : List ByteArray} (h : Ans s b l) (hs : s.size ≤ 1048576) (w : World) : Calls Tryd.prog 23 #[.string s] w fun e w' => ∃ v : Value, e = .returned (.tuple #[v, .bool b]) ∧ Owns w' w.heap.size v l ∧ Below w.heap.size w w' :=
  (Split.impl_split s w hs).mono fun e w' ⟨v, b', l', he, ha, ho, hb⟩ => by
    have : b' = b ∧ l' = l := by
      rcases h with ⟨h, rfl, rfl⟩ | ⟨h, rfl, rfl⟩ <;> rcases ha with ⟨h', rfl, rfl⟩ | ⟨h', rfl, rfl⟩
      · exact ⟨rfl, rfl⟩
      · exact absurd h h'
      · exact absurd h' h
      · exact ⟨rfl, rfl⟩
    obtain ⟨rfl, rfl⟩ := this
    exact ⟨v, he, ho, hb⟩

theorem read_some {x s : ByteArray} {m : Int} (hx : x.size ≤ 1048576) (h : tokOf x = some (s, m)) (w : World) (hT : Tab w) (hE : Errs w) : Calls Tryd.prog 24 #[.string x] w fun e w' =>
    e = .returned (.tuple #[.agg #[.string s, .int .i64 m], .bool true]) ∧ Below w.heap.size w w' :=
  (read_impl x hx w hT hE).mono fun e w' ⟨he, hb⟩ => ⟨by rw [he, ← rd_some h], hb⟩

theorem read_none {x : ByteArray} (hx : x.size ≤ 1048576) (h : tokOf x = none) (w : World) (hT : Tab w) (hE : Errs w) : Calls Tryd.prog 24 #[.string x] w fun e w' =>
    e = .returned (.tuple #[.agg #[.string ⟨#[]⟩, .int .i64 0], .bool false]) ∧ Below w.heap.size w w' :=
  (read_impl x hx w hT hE).mono fun e w' ⟨he, hb⟩ => ⟨by rw [he, ← rd_none h], hb⟩

set_option maxHeartbeats 4000000 in
theorem scan_impl (s : ByteArray) (hs : s.size ≤ 1048576) (b0 : Bool) (l : List ByteArray) (h : Ans s b0 l) (w : World) (hT : Tab w) (hE : Errs w) : Calls Tryd.prog 9 #[.string s] w (ScLeft b0 l w) := by
  obtain ⟨hl24, hf600⟩ := ans_len h
  have HA := Lib.hid (And.intro h hf600)
  have HX := Lib.hid (And.intro hT hE)
  obtain ⟨i0, hi0, hz0, hz1, hz2⟩ := info_parts info_tok
  clear h hf600 hT hE
  cases b0
  · go_enter Tryd.func9, Tryd.ntmps9
    go_wp2_with fail
    ((with_reducible refine (split_impl HA.out.1 hs _).mono ?_); rintro e w1 ⟨v, rfl, ho, hb⟩)
    clear ho
    go_wp2
    refine bodyPost_ret (by simp [results, Tryd.results9, go_sem, *]; try rfl) rfl ?_
    exact sc_no rfl _ _ hb
  · go_enter Tryd.func9, Tryd.ntmps9
    go_wp2_with fail
    ((with_reducible refine (split_impl HA.out.1 hs _).mono ?_); rintro e w1 ⟨v, rfl, ho, hb1⟩)
    obtain ⟨p, c, rfl⟩ := Split.Owns.form ho
    have HO := Lib.hid ho
    clear ho
    go_wp2_with fail
    go_loopw [6, 20] (fun v6 v7 wr => ∃ k : Nat, k ≤ l.length ∧ v7 = .int .i64 (k : Int) ∧ Toks l k ∧ wr.ownsRow w1.heap.size 31 2 v6 k (flat (tc (scS l) (scN l)) k) ∧ w1.heap.size ≤ wr.heap.size ∧ Below w1.heap.size w1 wr) (fun _ v7 _ => l.length - (intOf v7).toNat)
    case atStart => exact ⟨0, Nat.zero_le _, rfl, fun i h h0 => by omega, World.ownsRow_nil _ _ _ _, Nat.le_refl _, Below.refl _ _⟩
    case round =>
      obtain ⟨k, hk, rfl, ht, hown, hsz, hbel⟩ := hrel
      have HT := Lib.hid ht
      clear ht
      by_cases hlt : k < l.length
      · have i0' : (0 : Int) ≤ (k : Int) := by omega
        have i1 : (k : Int) < (l.length : Int) := by omega
        obtain ⟨g, c', hp⟩ : ∃ g c', (Value.slice p l.length c) = .slice (some ⟨g, 0, none⟩) l.length c' := by
          rcases own_form HO.out with ⟨_, h⟩ | h
          · omega
          · exact h
        injection hp with hp1 hp2 hp3
        subst hp1
        clear hp2 hp3
        have hg := (World.ownsRow.lt HO.out g rfl)
        have hc0 := own_cell HO.out hlt
        have hcell : wr.cell? ⟨g, k, none⟩ = some (.string l[k]) := (hbel.cell (p := ⟨g, k, none⟩) hg.2).trans hc0
        have hw600 := HA.out.2 _ (List.getElem_mem hlt)
        obtain ⟨x, hx⟩ : ∃ x, l[k] = x := ⟨_, rfl⟩
        rw [hx] at hcell hw600
        clear hc0
        have hxs : x.size ≤ 1048576 := by omega
        have hBw := on_of hb1 hbel
        cases htk : tokOf x with
        | some q =>
          obtain ⟨s', m⟩ := q
          have hat := sc_at hlt (by rw [hx]; exact htk)
          have HQ := Lib.hid (And.intro hat htk)
          clear hat htk
          go_wp2_with fail
          ((with_reducible refine (read_some hxs HQ.out.2 _ (tab_below HX.out.1 hBw) (errs_below HX.out.2 hBw)).mono ?_); rintro e w2 ⟨rfl, hb2⟩)
          have hown2 := owns_on hown hb2
          have hsz2 := Nat.le_trans hsz hb2.size
          go_wp2_with (at_builtin; refine wpList_append_own _ rfl _ _ 24 rfl w1.heap.size 31 i0 (.agg #[.string ⟨#[]⟩, .int .i64 0]) 2 24 Tryd.underlying24 hi0 hz0 hz1 hz2 rfl (by decide) _ _ _ rfl ((hown2.alloc _).alloc _) ⟨w2.heap.size + 1, 0, none⟩ 1 1 [.string s', .int .i64 m] rfl rfl ?c1 ?c2 ?c3 ?c4 ?c5 ?_)
          case c1 =>
            have hnew := heap_alloc_new (w2.alloc (.cells #[.string s', .int .i64 m] 31)) (.cells #[.string s', .int .i64 m] 31)
            simp only [World.size_alloc] at hnew
            exact World.news_of_block (cs := #[.string s', .int .i64 m]) (t := 31) (fr := (0, 0)) hnew
          case c2 => simp [Value.oneCell']
          case c3 => unfold maxLen; omega
          case c4 => omega
          case c5 => simp; omega
          intro v2 w3 hown3 hgrow _
          have hB3 : Below w1.heap.size w1 w3 := (((hbel.trans (hb2.mono hsz)).alloc (Nat.le_trans hsz hb2.size) _).alloc (by simp; omega) _).grown hgrow (by simp; omega) (fun q hq => (((hown2.alloc (.cells #[.string s', .int .i64 m] 31)).alloc (.cells #[.string s', .int .i64 m] 31)).lt q hq).1)
          have hs3 : w1.heap.size ≤ w3.heap.size := hB3.size
          have hrel3 : w3.ownsRow w1.heap.size 31 2 v2 (k + 1) (flat (tc (scS l) (scN l)) (k + 1)) := by rw [flat_succ, HQ.out.1]; exact hown3
          have HR3 := Lib.hid (And.intro hrel3 (And.intro hs3 hB3))
          clear hown2 hown3 hgrow hrel3 hs3 hB3 hbel hown hb2
          go_wp2
          go_roundw
          case rel => exact ⟨k + 1, by omega, by go_num, toks_succ HT.out hlt (by rw [hx, HQ.out.2]; rfl), HR3.out.1, HR3.out.2.1, HR3.out.2.2⟩
          case measure => simp [intOf]; omega
        | none =>
          have hno := toks_no hlt (by rw [hx]; exact htk)
          have HQ := Lib.hid (And.intro hno htk)
          clear hno htk
          go_wp2_with fail
          ((with_reducible refine (read_none hxs HQ.out.2 _ (tab_below HX.out.1 hBw) (errs_below HX.out.2 hBw)).mono ?_); rintro e w2 ⟨rfl, hb2⟩)
          go_wp2
          refine bodyPost_ret (by simp [results, Tryd.results9, go_sem, *]; try rfl) rfl ?_
          exact sc_no (by rw [HQ.out.1]; rfl) _ _ (by first | exact on_of hBw hb2 | exact (on_of hBw hb2).alloc (on_of hBw hb2).size _)
      · obtain rfl : k = l.length := by omega
        have hall := toks_all HT.out
        have HXX := Lib.hid (And.intro hown hall)
        clear hown hall
        go_wp2
        refine bodyPost_ret (by simp [results, Tryd.results9, go_sem, *]; try rfl) rfl ?_
        refine ⟨_, by rw [HXX.out.2]; rfl, ?_, on_of hb1 hbel⟩
        have := (Slab.of_owns HXX.out.1 (tc_len _ _)).weaken hb1.size
        rw [show scL true l = l.length by simp [scL, HXX.out.2]]
        exact this

end Go.Proofs.YtkkflpjpijnalaaDoor.Impl
