/-
  The model's drawn texts (l01Long, l01Text): each returns some string of at most so many bytes, and turns nothing but the cursor's block; condition: the bytes that came in can be read.
-/
import Derived.Test.YthemadiofegjmaaDoorDraw
import Derived.Test.YthemadiofegjmaaDoorFig
namespace Go.Proofs.YthemadiofegjmaaDoor.Draw
open Go.ChangeShapes Go.WideShapes Go.ChangeAt Go.RowKit
open Hex
set_option linter.unusedVariables false

theorem made_cell (n j : Nat) (hj : j < n) : (madeCells (Value.int .u8 0).cells n)[j]? = some (.int .u8 0) := by
  simp [madeCells, hj, Value.cells, Nat.mod_one]

/-- make([]byte, n) -/
theorem make_n (n : Nat) (w : World) (hn : n ≤ 1000000) : ∃ C : Array Value, (∀ j, j < n → C[j]? = some (.int .u8 0)) ∧
    (Instr.makeSlice 22 (.int .i64 (n : Int)) (.int .i64 (n : Int))).run Tryd.prog w = .ok (.slice (some ⟨w.heap.size, 0, none⟩) n n) (w.alloc (.cells C 5)) := by
  obtain ⟨i0, hi0, hz0, hz1, hz2⟩ := info_parts info5
  have h := run_make (P := Tryd.prog) w 22 5 i0 _ Tryd.underlying22 hi0 hz0 .i64 .i64 (n : Int) (n : Int) (by omega) (by omega) (by rw [hz2]; omega) (by omega)
  refine ⟨madeCells (Value.int .u8 0).cells ((n : Int).toNat * i0.size), ?_, ?_⟩
  · intro j hj
    rw [hz1]
    exact made_cell _ j (by omega)
  · rw [h]; congr 2

/-- A slice whose cells are bytes, as a string. -/
theorem str_cells (w : World) (g n c : Nat) (h : ∀ j, j < n → ∃ q : Int, w.cell? ⟨g, j, none⟩ = some (.int .u8 q)) :
    ∃ s : ByteArray, s.size = n ∧ (convert 22 9 (.slice (some ⟨g, 0, none⟩) n c)).run Tryd.prog w = .ok (.string s) w := by
  have hf : ∃ f : Nat → Int, ∀ j, j < n → w.cell? ⟨g, j, none⟩ = some (.int .u8 (f j)) := by
    refine ⟨fun j => if hj : j < n then (h j hj).choose else 0, fun j hj => ?_⟩
    simp only [hj, dif_pos]
    exact (h j hj).choose_spec
  obtain ⟨f, hf⟩ := hf
  refine ⟨strOfNums ((List.range n).map f), by rw [strOfNums_size]; simp, ?_⟩
  refine run_convert_bytes_arg w 22 5 Tryd.underlying22 Tryd.underlying5 g 0 n c _ (by simp) (fun i hi => ?_) 9 Tryd.underlying9
  rw [Nat.zero_add, hf i hi]
  simp [List.getD, hi]

set_option maxHeartbeats 1000000 in
theorem long_any (n : Nat) (x : Int) (w : World) (hn : n ≤ 1000000) :
    Calls Tryd.prog 23 #[.int .i64 (n : Int), .int .u8 x] w fun e w' => ∃ s : ByteArray, s.size = n ∧ e = .returned (.string s) ∧ Below w.heap.size w w' := by
  obtain ⟨C, hC, hmk⟩ := make_n n w hn
  have HC := Lib.hid hC
  clear hC
  go_enter Tryd.func23, Tryd.ntmps23
  go_wp2
  go_loopw [6] (fun i wr => ∃ k : Nat, k ≤ n ∧ i = .int .i64 k ∧ (∀ j, j < n → ∃ q : Int, wr.cell? ⟨w.heap.size, j, none⟩ = some (.int .u8 q)) ∧ (∀ j, wr.frozen? ⟨w.heap.size, j, none⟩ = false) ∧ Below w.heap.size w wr) (fun i _ => n - (intOf i).toNat)
  case atStart => exact ⟨0, Nat.zero_le _, rfl, fun j hj => ⟨0, by simp [go_sem]; exact HC.out j hj⟩, fun j => by simp [go_sem], (Below.refl _ _).alloc (Nat.le_refl _) _⟩
  case round =>
    obtain ⟨k, hk, rfl, hcs, hfz, hbel⟩ := hrel
    have HCS := Lib.hid hcs
    have HFZ := Lib.hid hfz
    clear hcs hfz
    by_cases hlt : k < n
    · obtain ⟨q, hq⟩ := HCS.out k hlt
      have hf := HFZ.out k
      go_wp2
      go_roundw
      case rel =>
        refine ⟨k + 1, by omega, by go_num, fun j hj => ?_, fun j => ?_, hbel.setCell (p := ⟨w.heap.size, k, none⟩) (Nat.le_refl _) _⟩
        · by_cases hjk : j = k
          · subst hjk; exact ⟨x, World.cell?_setCell_same' _ _ _ (by rw [hq]; rfl)⟩
          · obtain ⟨q', hq'⟩ := HCS.out j hj
            exact ⟨q', by rw [World.cell?_setCell_other _ _ _ _ (by intro e; injection e with _ e _; exact hjk e.symm)]; exact hq'⟩
        · rw [World.frozen?_setCell]; exact HFZ.out j
      case measure => simp [intOf]; omega
    · obtain rfl : k = n := by omega
      obtain ⟨s, hs, hcv⟩ := str_cells wr w.heap.size k k HCS.out
      have HS := Lib.hid hs
      clear hs
      go_wp2
      go_ret
      exact ⟨s, HS.out, rfl, hbel⟩

/-- The cursor goes on behind a write to another block of the call's own. -/
theorem Drawn.grown {W w0 w w' : World} {a : Option Addr} {len cap : Nat} {z : List Int} {b : Nat} {row : Option Nat} (h : Drawn W a len cap z b w0 w) (hg : w.grownBy w' row) (hr : ∀ k, row = some k → w0.heap.size ≤ k ∧ W.heap.size ≤ k ∧ k ≠ b) : Drawn W a len cap z b w0 w' := by
  obtain ⟨d, g⟩ := h
  obtain ⟨i, q, hi, hl, c0, c1, c2, f1, f2⟩ := d.cur
  have hb : w'.heap[b]? = w.heap[b]? := hg.block b d.here (fun e => (hr b e.symm).2.2 rfl)
  refine ⟨⟨d.row, d.far, Nat.lt_of_lt_of_le d.here hg.size, ⟨i, q, hi, hl, ?_, ?_, ?_, ?_, ?_⟩, d.below.grown hg (Nat.le_trans d.far (Nat.le_of_lt d.here)) (fun k hk => (hr k hk).2.1)⟩, ?_⟩
  · rw [World.cell?_of_block (w := w) hb]; exact c0
  · rw [World.cell?_of_block (w := w) hb]; exact c1
  · rw [World.cell?_of_block (w := w) hb]; exact c2
  · rw [World.frozen?_of_block (w := w) hb]; exact f1
  · rw [World.frozen?_of_block (w := w) hb]; exact f2
  · refine ⟨hg.os.trans g.os, hg.tape.trans g.tape, hg.output.trans g.output, Nat.le_trans g.size hg.size, fun k hk hne => ?_⟩
    rw [hg.block k (Nat.lt_of_lt_of_le hk g.size) (fun e => by have := (hr k e.symm).1; omega)]
    exact g.block k hk hne

set_option maxHeartbeats 1000000 in
theorem text_any (W w0 w : World) (b : Nat) (a : Option Addr) (len cap : Nat) (z : List Int) (n : Int) (d : Drawn W a len cap z b w0 w) :
    Calls Tryd.prog 25 #[.pointer (some ⟨b, 0, none⟩), .int .i64 n] w fun e w' => ∃ s : ByteArray, s.size ≤ 5000 ∧ e = .returned (.string s) ∧ Drawn W a len cap z b w0 w' := by
  obtain ⟨i0, hi0, hz0, hz1, hz2⟩ := info_parts info5
  have hbw := d.1.here
  have hWw := d.1.below.size
  have hw0 := d.2.size
  by_cases h5 : 5000 < n
  · go_enter Tryd.func25, Tryd.ntmps25
    go_wp2
    clear h5
    generalize hM : (5000 : Int) = M
    have hM5 : M ≤ 5000 := by omega
    clear hM
    go_loopw [5, 6] (fun v i wr => ∃ (k : Nat) (xs : List Int), (k : Int) ≤ max M 0 ∧ i = .int .i64 k ∧ wr.ownsRow w.heap.size 5 1 v k (xs.map (Value.int .u8)) ∧ w.heap.size ≤ wr.heap.size ∧ Drawn W a len cap z b w0 wr) (fun _ i _ => (M - intOf i).toNat)
    case atStart => exact ⟨0, [], by omega, rfl, World.ownsRow_made w #[] 0 (Nat.le_refl _) (by decide) (by simp), by simp, d.alloc _⟩
    case round =>
      obtain ⟨k, xs, hk, rfl, hown, hws, hd⟩ := hrel
      by_cases hlt : (k : Int) < M
      · go_wp2_with (first
          | (go_at_call 33; refine (byte_any W _ b a len cap z hd.1).mono ?_; rintro e w1 ⟨x, hx0, hx1, rfl, d1⟩; have hown1 := hown.kept d1.2 (.inr fun e => by have := (hown.lt b e).1; omega); have hd1 := hd.trans d1; have hsz1 := d1.2.size; have hsz := hd.2.size)
          | (at_builtin; refine wpList_append_own _ rfl _ _ 22 rfl w.heap.size 5 i0 (.int .u8 0) 1 1 Tryd.underlying22 hi0 hz0 hz1 hz2 rfl (by decide) _ _ _ rfl (hown1.alloc _) ⟨w1.heap.size, 0, none⟩ 1 1 [.int .u8 x] rfl rfl ?c1 ?c2 ?c3 ?c4 ?c5 ?_))
        case c1 => exact World.news_of_block (cs := #[.int .u8 x]) (t := 5) (fr := (0, 0)) (heap_alloc_new w1 _)
        case c2 => simp [Value.oneCell']
        case c3 => unfold maxLen; omega
        case c4 => omega
        case c5 => simp; omega
        intro v2 w2 hown2 hgrow _
        have hd2 := (hd1.alloc (.cells #[.int .u8 x] 5)).grown hgrow (fun q hq => by have := (hown1.lt q hq).1; omega)
        have hws2 : w.heap.size ≤ w2.heap.size := by have := hgrow.size; simp at this; omega
        have hrel2 : w2.ownsRow w.heap.size 5 1 v2 (k + 1) ((xs ++ [x]).map (Value.int .u8)) := by rw [List.map_append]; exact hown2
        clear hown hown1 hown2 hd hd1 hgrow d1
        go_wp2
        go_roundw
        case rel => exact ⟨k + 1, xs ++ [x], by omega, by go_num, hrel2, hws2, hd2⟩
        case measure => simp [intOf]; omega
      · have hconv := str_own hown
        have hlen : xs.length = k := by have := hown.1; simpa using this
        have HLN := Lib.hid hlen
        clear hown hlen
        go_wp2
        go_ret
        exact ⟨_, by rw [strOfNums_size, HLN.out]; omega, rfl, hd⟩
  · obtain ⟨M, rfl⟩ : ∃ M : Int, M = n := ⟨_, rfl⟩
    have hM5 : M ≤ 5000 := by omega
    go_enter Tryd.func25, Tryd.ntmps25
    go_wp2
    clear h5
    go_loopw [5, 6] (fun v i wr => ∃ (k : Nat) (xs : List Int), (k : Int) ≤ max M 0 ∧ i = .int .i64 k ∧ wr.ownsRow w.heap.size 5 1 v k (xs.map (Value.int .u8)) ∧ w.heap.size ≤ wr.heap.size ∧ Drawn W a len cap z b w0 wr) (fun _ i _ => (M - intOf i).toNat)
    case atStart => exact ⟨0, [], by omega, rfl, World.ownsRow_made w #[] 0 (Nat.le_refl _) (by decide) (by simp), by simp, d.alloc _⟩
    case round =>
      obtain ⟨k, xs, hk, rfl, hown, hws, hd⟩ := hrel
      by_cases hlt : (k : Int) < M
      · go_wp2_with (first
          | (go_at_call 33; refine (byte_any W _ b a len cap z hd.1).mono ?_; rintro e w1 ⟨x, hx0, hx1, rfl, d1⟩; have hown1 := hown.kept d1.2 (.inr fun e => by have := (hown.lt b e).1; omega); have hd1 := hd.trans d1; have hsz1 := d1.2.size; have hsz := hd.2.size)
          | (at_builtin; refine wpList_append_own _ rfl _ _ 22 rfl w.heap.size 5 i0 (.int .u8 0) 1 1 Tryd.underlying22 hi0 hz0 hz1 hz2 rfl (by decide) _ _ _ rfl (hown1.alloc _) ⟨w1.heap.size, 0, none⟩ 1 1 [.int .u8 x] rfl rfl ?c1 ?c2 ?c3 ?c4 ?c5 ?_))
        case c1 => exact World.news_of_block (cs := #[.int .u8 x]) (t := 5) (fr := (0, 0)) (heap_alloc_new w1 _)
        case c2 => simp [Value.oneCell']
        case c3 => unfold maxLen; omega
        case c4 => omega
        case c5 => simp; omega
        intro v2 w2 hown2 hgrow _
        have hd2 := (hd1.alloc (.cells #[.int .u8 x] 5)).grown hgrow (fun q hq => by have := (hown1.lt q hq).1; omega)
        have hws2 : w.heap.size ≤ w2.heap.size := by have := hgrow.size; simp at this; omega
        have hrel2 : w2.ownsRow w.heap.size 5 1 v2 (k + 1) ((xs ++ [x]).map (Value.int .u8)) := by rw [List.map_append]; exact hown2
        clear hown hown1 hown2 hd hd1 hgrow d1
        go_wp2
        go_roundw
        case rel => exact ⟨k + 1, xs ++ [x], by omega, by go_num, hrel2, hws2, hd2⟩
        case measure => simp [intOf]; omega
      · have hconv := str_own hown
        have hlen : xs.length = k := by have := hown.1; simpa using this
        have HLN := Lib.hid hlen
        clear hown hlen
        go_wp2
        go_ret
        exact ⟨_, by rw [strOfNums_size, HLN.out]; omega, rfl, hd⟩

end Go.Proofs.YthemadiofegjmaaDoor.Draw
