/-
  The model's ScanText: what the call returns and leaves; condition: at most 1048576 bytes.
-/
import Derived.Test.YtkkflpjpijnalaaDoorFmt
import Derived.Test.YtkkflpjpijnalaaDoorNums
namespace Go.Proofs.YtkkflpjpijnalaaDoor.ScanSpec
open Go.ChangeShapes Go.WideShapes Go.ChangeAt Go.RowKit
open Kit Slabs Scan Num Nums Fmt
open Split (byt byt_in byt_end Ans Ok Owns own_form)
set_option linter.unusedVariables false
set_option linter.unusedSimpArgs false
set_option linter.unnecessarySimpa false
set_option maxRecDepth 100000

/-- The token that a word denotes. -/
def tokOf (x : ByteArray) : Option (ByteArray × Int) := match numOf x with
  | some m => some (⟨#[]⟩, m)
  | none => if nameB x = true then some (x, 0) else none

def scB (l : List ByteArray) : Bool := l.all fun x => (tokOf x).isSome
def scAt (l : List ByteArray) (i : Nat) : ByteArray × Int := (tokOf (l.getD i ⟨#[]⟩)).getD (⟨#[]⟩, 0)
def scS (l : List ByteArray) (i : Nat) : ByteArray := (scAt l i).1
def scN (l : List ByteArray) (i : Nat) : Int := (scAt l i).2
def scL (b0 : Bool) (l : List ByteArray) : Nat := if (b0 && scB l) = true then l.length else 0

/-- The first k words are tokens. -/
def Toks (l : List ByteArray) (k : Nat) : Prop := ∀ i (h : i < l.length), i < k → (tokOf l[i]).isSome = true

theorem toks_all {l : List ByteArray} (h : Toks l l.length) : scB l = true := by
  simp only [scB, List.all_eq_true]
  intro x hx
  obtain ⟨i, hi, rfl⟩ := List.mem_iff_getElem.1 hx
  exact h i hi hi

theorem toks_no {l : List ByteArray} {k : Nat} (hk : k < l.length) (h : tokOf l[k] = none) : scB l = false := by
  rw [← Bool.not_eq_true]
  intro h2
  simp only [scB, List.all_eq_true] at h2
  have := h2 _ (List.getElem_mem hk)
  rw [h] at this; cases this

theorem toks_succ {l : List ByteArray} {k : Nat} (h : Toks l k) (hk : k < l.length) (h1 : (tokOf l[k]).isSome = true) : Toks l (k + 1) := by
  intro i hi hlt
  by_cases e : i < k
  · exact h i hi e
  · obtain rfl : i = k := by omega
    exact h1

theorem sc_at {l : List ByteArray} {k : Nat} (hk : k < l.length) {s : ByteArray} {m : Int} (h : tokOf l[k] = some (s, m)) : tc (scS l) (scN l) k = [.string s, .int .i64 m] := by
  have : l.getD k ⟨#[]⟩ = l[k] := by simp [List.getD, List.getElem?_eq_getElem hk]
  simp only [tc, scS, scN, scAt, this, h, Option.getD_some]

theorem own_cell {w : World} {B : Nat} {l : List ByteArray} {g n c : Nat} (h : Owns w B (.slice (some ⟨g, 0, none⟩) n c) l) {j : Nat} (hj : j < l.length) : w.cell? ⟨g, j, none⟩ = some (.string l[j]) := by
  have hx := World.ownsRow.cells h (g := g) rfl j (.string l[j]) (by simp [hj])
  by_cases h0 : j = 0
  · subst h0; simpa [Addr.add] using hx
  · simpa [Addr.add, h0] using hx

theorem owns_on {w w' : World} {B : Nat} {T : TypeId} {c n : Nat} {v : Value} {xs : List Value} (h : w.ownsRow B T c v n xs) (hb : Below w.heap.size w w') : w'.ownsRow B T c v n xs :=
  h.kept (row := none) ⟨hb.os, hb.tape, hb.output, hb.size, fun k hk _ => hb.block k hk⟩ (by cases v.ownBlock <;> simp)

theorem number_some {s : ByteArray} {m : Int} (hm : s.size ≤ 1048576) (h : numOf s = some m) (w : World) : Calls Tryd.prog 31 #[.string s] w fun e w' => e = .returned (.tuple #[.int .i64 m, .bool true]) ∧ Below w.heap.size w w' :=
  (number_spec s hm w).mono fun e w' ⟨⟨x, he, hx⟩, hb⟩ => by
    have := hx m h; subst this
    rw [h] at he
    exact ⟨he, hb⟩

theorem number_none {s : ByteArray} (hm : s.size ≤ 1048576) (h : numOf s = none) (w : World) : Calls Tryd.prog 31 #[.string s] w fun e w' => (∃ x : Int, e = .returned (.tuple #[.int .i64 x, .bool false])) ∧ Below w.heap.size w w' :=
  (number_spec s hm w).mono fun e w' ⟨⟨x, he, hx⟩, hb⟩ => by
    rw [h] at he
    exact ⟨⟨x, he⟩, hb⟩

theorem split_is {s : ByteArray} {b : Bool} {l : List ByteArray} (h : Ans s b l) (hs : s.size ≤ 1048576) (w : World) : Calls Tryd.prog 30 #[.string s] w fun e w' => ∃ v : Value, e = .returned (.tuple #[v, .bool b]) ∧ Owns w' w.heap.size v l ∧ Below w.heap.size w w' :=
  (Split.spec_split s w hs).mono fun e w' ⟨v, b', l', he, ha, ho, hb⟩ => by
    have : b' = b ∧ l' = l := by
      rcases h with ⟨h, rfl, rfl⟩ | ⟨h, rfl, rfl⟩ <;> rcases ha with ⟨h', rfl, rfl⟩ | ⟨h', rfl, rfl⟩
      · exact ⟨rfl, rfl⟩
      · exact absurd h h'
      · exact absurd h' h
      · exact ⟨rfl, rfl⟩
    obtain ⟨rfl, rfl⟩ := this
    exact ⟨v, he, ho, hb⟩

theorem ans_len {s : ByteArray} {b : Bool} {l : List ByteArray} (h : Ans s b l) : l.length ≤ 24 ∧ ∀ f ∈ l, f.size ≤ 600 := by
  rcases h with ⟨h, rfl, rfl⟩ | ⟨h, rfl, rfl⟩
  · exact ⟨h.2.2, fun f hf => by have := Split.fin_short f hf; have := h.1; omega⟩
  · exact ⟨by simp, fun f hf => by cases hf⟩

/-- What ScanText leaves. -/
def ScLeft (b0 : Bool) (l : List ByteArray) (w : World) (e : Ending) (w' : World) : Prop := ∃ v : Value, e = .returned (.tuple #[v, .bool (b0 && scB l)]) ∧ Slab w' w.heap.size v (scL b0 l) 2 (tc (scS l) (scN l)) ∧ Below w.heap.size w w'

theorem sc_no {b0 : Bool} {l : List ByteArray} {w w' : World} (h : (b0 && scB l) = false) (a : Option Addr) (cap : Nat) (hb : Below w.heap.size w w') : ScLeft b0 l w (.returned (.tuple #[.slice a 0 cap, .bool false])) w' := by
  refine ⟨_, by rw [h], ⟨a, cap, by simp [scL, h], by simp [scL, h], .inl (by simp [scL, h])⟩, hb⟩

theorem info_tok : (Tryd.prog.info? 31).map (fun i => (i.zero, i.size, i.bytes)) = some (some (.agg #[.string ⟨#[]⟩, .int .i64 0]), 2, 24) := by kernel_rfl

set_option maxHeartbeats 4000000 in
theorem scan_spec (s : ByteArray) (hs : s.size ≤ 1048576) (b0 : Bool) (l : List ByteArray) (h : Ans s b0 l) (w : World) : Calls Tryd.prog 16 #[.string s] w (ScLeft b0 l w) := by
  obtain ⟨hl24, hf600⟩ := ans_len h
  have HA := Lib.hid (And.intro h hf600)
  obtain ⟨i0, hi0, hz0, hz1, hz2⟩ := info_parts info_tok
  clear h hf600
  cases b0
  · go_enter Tryd.func16, Tryd.ntmps16
    go_wp2_with (go_at_call 30; (with_reducible refine (split_is HA.out.1 hs _).mono ?_); rintro e w1 ⟨v, rfl, ho, hb⟩)
    refine bodyPost_ret (by simp [results, Tryd.results16, go_sem, *]; try rfl) rfl ?_
    exact sc_no rfl _ _ (hb.alloc hb.size _)
  · go_enter Tryd.func16, Tryd.ntmps16
    go_wp2_with fail
    ((with_reducible refine (split_is HA.out.1 hs _).mono ?_); rintro e w1 ⟨v, rfl, ho, hb1⟩)
    obtain ⟨p, c, rfl⟩ := Split.Owns.form ho
    have HO := Lib.hid ho
    clear ho
    have h60 : ¬ (60 : Int) < (l.length : Int) := by omega
    go_wp2_with fail
    go_loopw [6, 7] (fun v6 v7 wr => ∃ k : Nat, k ≤ l.length ∧ v7 = .int .i64 (k : Int) ∧ Toks l k ∧ wr.ownsRow w1.heap.size 31 2 v6 k (flat (tc (scS l) (scN l)) k) ∧ w1.heap.size ≤ wr.heap.size ∧ Below w1.heap.size w1 wr) (fun _ v7 _ => l.length - (intOf v7).toNat)
    case atStart => exact ⟨0, Nat.zero_le _, rfl, fun i h h0 => by omega, World.ownsRow_made w1 #[] 0 (Nat.le_refl _) (by decide) (by simp), by simp, (Below.refl _ _).alloc (Nat.le_refl _) _⟩
    case round =>
      obtain ⟨k, hk, rfl, ht, hown, hsz, hbel⟩ := hrel
      have HT := Lib.hid ht
      clear ht
      by_cases hlt : k < l.length
      · have i0' : (0 : Int) ≤ (k : Int) := by omega
        have i1 : (k : Int) < (l.length : Int) := by omega
        obtain ⟨g, c', hp⟩ : ∃ g c', (Value.slice p l.length c) = .slice (some ⟨g, 0, none⟩) l.length c' := by
          rcases own_form HO.out with ⟨_, h⟩ | h
          · omega
          · exact h
        injection hp with hp1 hp2 hp3
        subst hp1
        clear hp2 hp3
        have hg := (World.ownsRow.lt HO.out g rfl)
        have hc0 := own_cell HO.out hlt
        have hcell : wr.cell? ⟨g, k, none⟩ = some (.string l[k]) := (hbel.cell (p := ⟨g, k, none⟩) hg.2).trans hc0
        have hw600 := HA.out.2 _ (List.getElem_mem hlt)
        obtain ⟨x, hx⟩ : ∃ x, l[k] = x := ⟨_, rfl⟩
        rw [hx] at hcell hw600
        clear hc0
        have hxs : x.size ≤ 1048576 := by omega
        have hxn : x.size ≤ 281474976710656 := by omega
        have hgw : g < wr.heap.size := by omega
        cases hnum : numOf x with
        | some m =>
          have htk : tokOf x = some (⟨#[]⟩, m) := by simp [tokOf, hnum]
          have hat := sc_at hlt (by rw [hx]; exact htk)
          go_wp2_with (first | (go_at_call 31; (with_reducible refine (number_some hxs hnum _).mono ?_); rintro e w2 ⟨rfl, hb2⟩; have hown2 := owns_on hown hb2; have hsz2 := Nat.le_trans hsz hb2.size) | (at_builtin; refine wpList_append_own _ rfl _ _ 24 rfl w1.heap.size 31 i0 (.agg #[.string ⟨#[]⟩, .int .i64 0]) 2 24 Tryd.underlying24 hi0 hz0 hz1 hz2 rfl (by decide) _ _ _ rfl (hown2.alloc _) ⟨w2.heap.size, 0, none⟩ 1 1 [.string ⟨#[]⟩, .int .i64 m] rfl rfl ?c1 ?c2 ?c3 ?c4 ?c5 ?_))
          case c1 => exact World.news_of_block (cs := #[.string ⟨#[]⟩, .int .i64 m]) (t := 31) (fr := (0, 0)) (heap_alloc_new w2 _)
          case c2 => simp [Value.oneCell']
          case c3 => unfold maxLen; omega
          case c4 => omega
          case c5 => simp; omega
          intro v2 w3 hown3 hgrow _
          have hB3 : Below w1.heap.size w1 w3 := ((hbel.trans (hb2.mono hsz)).alloc (Nat.le_trans hsz hb2.size) _).grown hgrow (by simp; omega) (fun q hq => by have := ((hown2.alloc (.cells #[.string ⟨#[]⟩, .int .i64 m] 31)).lt q hq).1; omega)
          have hs3 : w1.heap.size ≤ w3.heap.size := hB3.size
          have hrel3 : w3.ownsRow w1.heap.size 31 2 v2 (k + 1) (flat (tc (scS l) (scN l)) (k + 1)) := by rw [flat_succ, hat]; exact hown3
          have HR3 := Lib.hid (And.intro hrel3 (And.intro hs3 hB3))
          clear hown2 hown3 hgrow hrel3 hs3 hB3 hbel hown hb2
          go_wp2
          go_roundw
          case rel => exact ⟨k + 1, by omega, by go_num, toks_succ HT.out hlt (by rw [hx, htk]; rfl), HR3.out.1, HR3.out.2.1, HR3.out.2.2⟩
          case measure => simp [intOf]; omega
        | none =>
          cases hnm : nameB x
          · have htk : tokOf x = none := by simp [tokOf, hnum, hnm]
            have hno := toks_no hlt (by rw [hx]; exact htk)
            go_wp2_with (first | (go_at_call 31; (with_reducible refine (number_none hxs hnum _).mono ?_); rintro e w2 ⟨⟨y, rfl⟩, hb2⟩; have hown2 := owns_on hown hb2; have hsz2 := Nat.le_trans hsz hb2.size; have hcell2 := (hb2.cell (p := ⟨g, k, none⟩) hgw).trans hcell) | (go_at_call 32; (with_reducible refine (name_spec _ _ hxn).mono ?_); rintro e w' ⟨rfl, rfl⟩))
            refine bodyPost_ret (by simp [results, Tryd.results16, go_sem, *]; try rfl) rfl ?_
            have hB2 := on_of hb1 (hbel.trans (hb2.mono hsz))
            exact sc_no (by rw [hno]; rfl) _ _ (hB2.alloc hB2.size _)
          · have htk : tokOf x = some (x, 0) := by simp [tokOf, hnum, hnm]
            have hat := sc_at hlt (by rw [hx]; exact htk)
            go_wp2_with (first | (go_at_call 31; (with_reducible refine (number_none hxs hnum _).mono ?_); rintro e w2 ⟨⟨y, rfl⟩, hb2⟩; have hown2 := owns_on hown hb2; have hsz2 := Nat.le_trans hsz hb2.size; have hcell2 := (hb2.cell (p := ⟨g, k, none⟩) hgw).trans hcell) | (go_at_call 32; (with_reducible refine (name_spec _ _ hxn).mono ?_); rintro e w' ⟨rfl, rfl⟩) | (at_builtin; refine wpList_append_own _ rfl _ _ 24 rfl w1.heap.size 31 i0 (.agg #[.string ⟨#[]⟩, .int .i64 0]) 2 24 Tryd.underlying24 hi0 hz0 hz1 hz2 rfl (by decide) _ _ _ rfl (hown2.alloc _) ⟨w2.heap.size, 0, none⟩ 1 1 [.string x, .int .i64 0] rfl rfl ?c1 ?c2 ?c3 ?c4 ?c5 ?_))
            case c1 => exact World.news_of_block (cs := #[.string x, .int .i64 0]) (t := 31) (fr := (0, 0)) (heap_alloc_new w2 _)
            case c2 => simp [Value.oneCell']
            case c3 => unfold maxLen; omega
            case c4 => omega
            case c5 => simp; omega
            intro v2 w3 hown3 hgrow _
            have hB3 : Below w1.heap.size w1 w3 := ((hbel.trans (hb2.mono hsz)).alloc (Nat.le_trans hsz hb2.size) _).grown hgrow (by simp; omega) (fun q hq => by have := ((hown2.alloc (.cells #[.string x, .int .i64 0] 31)).lt q hq).1; omega)
            have hs3 : w1.heap.size ≤ w3.heap.size := hB3.size
            have hrel3 : w3.ownsRow w1.heap.size 31 2 v2 (k + 1) (flat (tc (scS l) (scN l)) (k + 1)) := by rw [flat_succ, hat]; exact hown3
            have HR3 := Lib.hid (And.intro hrel3 (And.intro hs3 hB3))
            clear hown2 hown3 hgrow hrel3 hs3 hB3 hbel hown hb2
            go_wp2
            go_roundw
            case rel => exact ⟨k + 1, by omega, by go_num, toks_succ HT.out hlt (by rw [hx, htk]; rfl), HR3.out.1, HR3.out.2.1, HR3.out.2.2⟩
            case measure => simp [intOf]; omega
      · obtain rfl : k = l.length := by omega
        have hall := toks_all HT.out
        have HX := Lib.hid (And.intro hown hall)
        clear hown hall
        go_wp2
        refine bodyPost_ret (by simp [results, Tryd.results16, go_sem, *]; try rfl) rfl ?_
        refine ⟨_, by rw [HX.out.2]; rfl, ?_, on_of hb1 hbel⟩
        have := (Slab.of_owns HX.out.1 (tc_len _ _)).weaken hb1.size
        rw [show scL true l = l.length by simp [scL, HX.out.2]]
        exact this

end Go.Proofs.YtkkflpjpijnalaaDoor.ScanSpec
