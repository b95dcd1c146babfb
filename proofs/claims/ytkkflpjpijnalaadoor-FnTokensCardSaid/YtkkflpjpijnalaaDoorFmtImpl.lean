/-
  The program's Token.text and FormatTokens: what each call returns, and that nothing that was there has turned.
-/
import Derived.Test.YtkkflpjpijnalaaDoorFmt
import Derived.Test.YtkkflpjpijnalaaDoorNum
import Derived.Test.YtkkflpjpijnalaaDoorFig
import Derived.Test.YtkkflpjpijnalaaDoorTokImpl
import Derived.Lib.AppendStr
namespace Go.Proofs.YtkkflpjpijnalaaDoor.Impl
open Go.ChangeShapes Go.WideShapes Go.ChangeAt Go.RowKit
open Kit Slabs Scan Num Fmt
set_option linter.unusedVariables false
set_option linter.unusedSimpArgs false
set_option linter.unnecessarySimpa false
set_option maxRecDepth 100000

theorem tok_impl (s : ByteArray) (n : Int) (w : World) (hs : s.size ≤ 281474976710656) : Calls Tryd.prog 10 #[.agg #[.string s, .int .i64 n]] w fun e w' => e = .returned (.bool (tkB s n)) ∧ Below w.heap.size w w' := NameImpl.tok_impl s n w hs
theorem name_impl (s : ByteArray) (w : World) (hs : s.size ≤ 281474976710656) : Calls Tryd.prog 11 #[.string s] w fun e w' => e = .returned (.bool (nameB s)) ∧ Below w.heap.size w w' := NameImpl.name_impl s w hs

theorem text_impl (s : ByteArray) (n : Int) (w : World) (h0 : -9223372036854775808 ≤ n) (h1 : n ≤ 9223372036854775807) (hT : Tab w) : Calls Tryd.prog 22 #[.agg #[.string s, .int .i64 n]] w fun e w' => e = .returned (.string (tkT s n)) ∧ Below w.heap.size w w' := by
  have HT := Lib.hid hT
  clear hT
  cases h : s.toList.isEmpty
  · go_enter Tryd.func22, Tryd.ntmps22
    go_wp2
    go_ret
    exact ⟨by simp [tkT, h], by go_grown⟩
  · go_enter Tryd.func22, Tryd.ntmps22
    go_wp2_with fail
    ((with_reducible refine (impl_format _ _ h0 h1 (tab_below HT.out (by go_grown))).mono ?_); rintro e w' ⟨rfl, hb⟩; have hB := on_of (W := w) (by go_grown) hb)
    go_wp2
    go_ret
    exact ⟨by simp [tkT, h], hB⟩

/-- A slice of bytes that the call owns and that holds a string's bytes, as a string. -/
theorem str_cells {w : World} {base : Nat} {v : Value} {n : Nat} {s : ByteArray} (h : w.ownsRow base 5 1 v n (Lib.strCells s)) :
    (convert 22 9 v).run Tryd.prog w = .ok (.string s) w := by
  have e : Lib.strCells s = (s.data.toList.map fun b => (b.toNat : Int)).map (Value.int .u8) := by simp [Lib.strCells, List.map_map, Function.comp_def]
  rw [e] at h
  rw [Hex.str_own h]
  congr 2
  apply ByteArray.ext; apply Array.ext'
  simp [strOfNums, List.map_map, Function.comp_def]

theorem cells_append (a b : ByteArray) : Lib.strCells a ++ Lib.strCells b = Lib.strCells (a ++ b) := by
  simp [Lib.strCells]

theorem owns_below {w w' : World} {B : Nat} {T : TypeId} {c n : Nat} {v : Value} {xs : List Value} (h : w.ownsRow B T c v n xs) (hb : Below w.heap.size w w') : w'.ownsRow B T c v n xs :=
  h.kept (row := none) ⟨hb.os, hb.tape, hb.output, hb.size, fun k hk _ => hb.block k hk⟩ (by cases v.ownBlock <;> simp)

theorem cells_space : Lib.strCells ⟨#[32]⟩ = [.int .u8 32] := rfl

set_option maxHeartbeats 2000000 in
theorem fmt_impl (w : World) (B : Nat) (v : Value) (n : Nat) (S : Nat → ByteArray) (N : Nat → Int) (hslab : Slab w B v n 2 (tc S N)) (hn : n ≤ 1048576)
    (hN : ∀ i, i < n → -9223372036854775808 ≤ N i ∧ N i ≤ 9223372036854775807) (hS : ∀ i, i < n → (S i).size ≤ 281474976710656) (hT : Tab w) :
    Calls Tryd.prog 8 #[v] w fun e w' => e = .returned (.tuple #[.string (fmT S N n), .bool (fmB S N n)]) ∧ Below w.heap.size w w' := by
  obtain ⟨i0, hi0, hz0, hz1, hz2⟩ := info_parts Hex.info5
  rcases hslab.writes with ⟨h0, a1, c1, rfl⟩ | ⟨g, cap, rfl, hBg, W1⟩
  · subst h0
    clear hslab hN hS hT
    go_enter Tryd.func8, Tryd.ntmps8
    go_wp2
    go_loopw [4, 12] (fun v4 v12 wr => v12 = .int .i64 0 ∧ v4 = .slice none 0 0 ∧ wr = w) (fun _ _ _ => 0)
    case atStart => exact ⟨rfl, rfl, rfl⟩
    case round =>
      obtain ⟨rfl, rfl, rfl⟩ := hrel
      have hnil : wr.ownsRow wr.heap.size 5 1 (.slice none 0 0) 0 (Lib.strCells ⟨#[]⟩) := World.ownsRow_nil _ _ _ _
      have hconv := str_cells hnil
      clear hnil
      go_wp2
      refine bodyPost_ret (by simp [results, Tryd.results8, go_sem, *]; try rfl) rfl ?_
      exact ⟨fm_yes (S := S) (N := N) (n := 0) rfl, Below.refl _ _⟩
  · by_cases hbig : (60 : Int) < (n : Int)
    · clear hslab hN hS hT W1
      go_enter Tryd.func8, Tryd.ntmps8
      go_wp2
      refine bodyPost_ret (by simp [results, Tryd.results8, go_sem, *]; try rfl) rfl ?_
      exact ⟨fm_no (by simp [fmB]; omega), Below.refl _ _⟩
    · have HW := Lib.hid (And.intro W1 (And.intro hN hS))
      have HT := Lib.hid hT
      have hg := W1.here
      clear hslab hN hS W1 hT
      go_enter Tryd.func8, Tryd.ntmps8
      go_wp2
      go_loopw [4, 12] (fun v4 v12 wr => ∃ k : Nat, k ≤ n ∧ v12 = .int .i64 (k : Int) ∧ wr.ownsRow w.heap.size 5 1 v4 (joinT S N k).size (Lib.strCells (joinT S N k)) ∧ okB S N k = true ∧ Below w.heap.size w wr) (fun _ v12 _ => n - (intOf v12).toNat)
      case atStart => exact ⟨0, Nat.zero_le _, rfl, World.ownsRow_nil _ _ _ _, rfl, Below.refl _ _⟩
      case round =>
        obtain ⟨k, hk, rfl, hown, hok, hbel⟩ := hrel
        have HK := Lib.hid hok
        clear hok
        by_cases hlt : k < n
        · have q0 : wr.cell? ⟨g, k * 2, none⟩ = some (.string (S k)) := by rw [hbel.cell (p := ⟨g, k * 2, none⟩) hg]; simpa [tc] using HW.out.1.cell k hlt 0 _ rfl
          have q1 : wr.cell? ⟨g, k * 2 + 1, none⟩ = some (.int .i64 (N k)) := by rw [hbel.cell (p := ⟨g, k * 2 + 1, none⟩) hg]; simpa [tc] using HW.out.1.cell k hlt 1 _ rfl
          have hSk := HW.out.2.2 k hlt
          have hNk := HW.out.2.1 k hlt
          have i0' : (0 : Int) ≤ (k : Int) := by omega
          have i1 : (k : Int) < (n : Int) := by omega
          have hwr := hbel.size
          go_wp2_with fail
          ((with_reducible refine (tok_impl _ _ _ hSk).mono ?_); rintro e w1 ⟨rfl, hb⟩)
          have s0 : w1.cell? ⟨wr.heap.size, 0, none⟩ = some (.string (S k)) := (hb.cell (p := ⟨wr.heap.size, 0, none⟩) (by simp)).trans (by simp [go_sem])
          have s1 : w1.cell? ⟨wr.heap.size, 1, none⟩ = some (.int .i64 (N k)) := (hb.cell (p := ⟨wr.heap.size, 1, none⟩) (by simp)).trans (by simp [go_sem])
          have hb1 : Below wr.heap.size wr w1 := on_of (W := wr) (by go_grown) hb
          have hB1 := on_of hbel hb1
          have hown1 := owns_below hown hb1
          have hlt1 : wr.heap.size < w1.heap.size := by have := hb.size; simp only [World.size_alloc] at this; omega
          have hrow : ∀ q, u4.ownBlock = some q → q < wr.heap.size := fun q hq => (hown.lt q hq).2
          clear hb hb1 hown q0 q1
          cases htk : tkB (S k) (N k)
          · go_wp2_with fail
            refine bodyPost_ret (by simp [results, Tryd.results8, go_sem, *]; try rfl) rfl ?_
            exact ⟨fm_no (by simp [fmB, okB_no hlt htk]), hB1⟩
          · have hsz := joinT_size HK.out
            have hts := tkT_size htk
            have hok2 : okB S N (k + 1) = true := by rw [okB_succ, HK.out, htk]; rfl
            have HO := Lib.hid hok2
            clear hok2 htk
            by_cases hk0 : k = 0
            · subst hk0
              go_wp2_with fail
              ((with_reducible refine (text_impl _ _ _ hNk.1 hNk.2 (tab_below HT.out hB1)).mono ?_); rintro e w2 ⟨rfl, hb2⟩)
              have hown2 := owns_below hown1 hb2
              have hB2 := on_of hB1 hb2
              have hz2' := hB2.size
              go_wp2_with (at_builtin; refine Lib.wpList_append_own_string _ rfl _ _ 22 9 rfl w.heap.size 5 i0 Tryd.underlying22 Tryd.underlying9 hi0 hz0 hz1 hz2 _ _ _ rfl hown2 _ rfl ?d1 ?d2 ?d3 ?_)
              case d1 => unfold maxLen; omega
              case d2 => omega
              case d3 => omega
              intro v3 w3 hown3 hgrow _
              have hB3 : Below w.heap.size w w3 := hB2.grown hgrow (by omega) (fun q hq => (hown2.lt q hq).1)
              have e : joinT S N 0 ++ tkT (S 0) (N 0) = joinT S N (0 + 1) := by simp [joinT]
              rw [cells_append, ← ByteArray.size_append, e] at hown3
              have HR := Lib.hid (And.intro hown3 hB3)
              clear hown3 hB3 hgrow hown2 hown1 hB2 hb2 s0 s1 e
              go_wp2
              go_roundw
              case rel => exact ⟨1, by omega, by go_num, HR.out.1, HO.out, HR.out.2⟩
              case measure => simp [intOf]; omega
            · have hk1 : (0 : Int) < (k : Int) := by omega
              have hz1' := hB1.size
              go_wp2_with (at_builtin; refine wpList_append_own _ rfl _ _ 22 rfl w.heap.size 5 i0 (.int .u8 0) 1 1 Tryd.underlying22 hi0 hz0 hz1 hz2 rfl (by decide) _ _ _ rfl (hown1.alloc _) ⟨w1.heap.size, 0, none⟩ 1 1 [.int .u8 32] rfl rfl ?c1 ?c2 ?c3 ?c4 ?c5 ?_)
              case c1 => exact World.news_of_block (cs := #[.int .u8 32]) (t := 5) (fr := (0, 0)) (heap_alloc_new w1 _)
              case c2 => simp [Value.oneCell']
              case c3 => unfold maxLen; omega
              case c4 => omega
              case c5 => simp; omega
              intro v2 w2 hown2 hgrow _
              have hB2 : Below w.heap.size w w2 := (hB1.alloc hB1.size _).grown hgrow (by simp; omega) (fun q hq => ((hown1.alloc (.cells #[.int .u8 32] 5)).lt q hq).1)
              have hne : some wr.heap.size ≠ u4.ownBlock := fun e => by have := hrow _ e.symm; omega
              have hal : Below w1.heap.size w1 (w1.alloc (.cells #[.int .u8 32] 5)) := (Below.refl _ _).alloc (Nat.le_refl _) _
              have t0 : w2.cell? ⟨wr.heap.size, 0, none⟩ = some (.string (S k)) := (hgrow.cell_far ⟨wr.heap.size, 0, none⟩ (by simp; omega) hne).trans ((hal.cell (p := ⟨wr.heap.size, 0, none⟩) hlt1).trans s0)
              have t1 : w2.cell? ⟨wr.heap.size, 1, none⟩ = some (.int .i64 (N k)) := (hgrow.cell_far ⟨wr.heap.size, 1, none⟩ (by simp; omega) hne).trans ((hal.cell (p := ⟨wr.heap.size, 1, none⟩) hlt1).trans s1)
              have hsp : (joinT S N k).size + 1 = (joinT S N k ++ ⟨#[32]⟩).size := by rw [ByteArray.size_append]; rfl
              rw [← cells_space, cells_append, hsp] at hown2
              have hsz2 : (joinT S N k ++ ⟨#[32]⟩).size ≤ 12 * k + 1 := by omega
              clear hgrow hne hal s0 s1 hown1 hsp
              go_wp2_with fail
              ((with_reducible refine (text_impl _ _ _ hNk.1 hNk.2 (tab_below HT.out hB2)).mono ?_); rintro e w3 ⟨rfl, hb3⟩)
              have hown3 := owns_below hown2 hb3
              have hB3 := on_of hB2 hb3
              have hz3' := hB3.size
              go_wp2_with (at_builtin; refine Lib.wpList_append_own_string _ rfl _ _ 22 9 rfl w.heap.size 5 i0 Tryd.underlying22 Tryd.underlying9 hi0 hz0 hz1 hz2 _ _ _ rfl hown3 _ rfl ?d1 ?d2 ?d3 ?_)
              case d1 => unfold maxLen; omega
              case d2 => omega
              case d3 => omega
              intro v4 w4 hown4 hgrow4 _
              have hB4 : Below w.heap.size w w4 := hB3.grown hgrow4 (by omega) (fun q hq => (hown3.lt q hq).1)
              have e : (joinT S N k).size + 1 + (tkT (S k) (N k)).size = (joinT S N (k + 1)).size := by rw [joinT_more hk0, ByteArray.size_append, ByteArray.size_append]; rfl
              rw [cells_append, ← joinT_more hk0, e] at hown4
              have HR := Lib.hid (And.intro hown4 hB4)
              clear hown4 hB4 hgrow4 hown3 hown2 hB2 hB3 hb3 t0 t1 e hsz2
              go_wp2
              go_roundw
              case rel => exact ⟨k + 1, by omega, by go_num, HR.out.1, HO.out, HR.out.2⟩
              case measure => simp [intOf]; omega
        · obtain rfl : k = n := by omega
          have hconv := str_cells hown
          have hfm := fm_last HK.out (fun _ => by omega)
          clear hown
          go_wp2
          refine bodyPost_ret (by simp [results, Tryd.results8, go_sem, *]; try rfl) rfl ?_
          exact ⟨fm_yes hfm, hbel⟩

end Go.Proofs.YtkkflpjpijnalaaDoor.Impl
