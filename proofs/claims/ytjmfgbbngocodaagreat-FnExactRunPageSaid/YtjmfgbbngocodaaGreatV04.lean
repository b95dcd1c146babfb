/-
  Texts of this seat, laid together: OwnFlat, Mark, Tab, Name
-/
import Derived.Deep.RegionHeld3
import Derived.Laws.BytesArg
import Derived.Lib.ItoaNum
import Derived.Lib.ItoaLen
import Derived.WideMake
import Derived.Carry
import Derived.Test.YtjmfgbbngocodaaGreatV02
import Derived.Test.YtjmfgbbngocodaaGreatV03
import Derived.Test.YtjmfgbbngocodaaGreatV01
namespace Go.Proofs.YtjmfgbbngocodaaGreat.Own
open Go.ChangeShapes Go.WideShapes Go.ChangeAt Go.RowKit
open Kit Slabs
set_option linter.unusedVariables false
set_option linter.unusedSimpArgs false
set_option linter.unnecessarySimpa false
theorem rows_flat {w : World} {e : Kd} {g : Nat} : ∀ (n o : Nat) (F : Nat → List Value) (D : Nat → Dt), (∀ i, i < n → Own w e (F i) (D i) []) → (∀ i, i < n → ∀ j u, (F i)[j]? = some u → w.cell? ⟨g, o + i * e.sz + j, none⟩ = some u) → Rows w e g o ((List.range n).map D) []
  | 0, o, F, D, _, _ => .nil
  | n + 1, o, F, D, h, hc => by
    have h1 := rows_flat n (o + e.sz) (fun i => F (i + 1)) (fun i => D (i + 1)) (fun i hi => h (i + 1) (by omega)) (fun i hi j u hu => by
      have := hc (i + 1) (by omega) j u hu
      rw [Nat.succ_mul] at this
      rw [show o + e.sz + i * e.sz + j = o + (i * e.sz + e.sz) + j by omega]
      exact this)
    have h2 := Rows.cons (w := w) (e := e) (g := g) (o := o) (fun j u hu => by have := hc 0 (by omega) j u hu; simpa using this) (h 0 (by omega)) h1
    rw [List.range_succ_eq_map, List.map_cons, List.map_map]
    exact h2
theorem own_of_slab {w : World} {B n c : Nat} {v : Value} {F : Nat → List Value} {e : Kd} {D : Nat → Dt} (h : Slab w B v n c F) (hc : e.sz = c) (hF : ∀ i, i < n → Own w e (F i) (D i) []) :
    Own w (.sl e) [v] (.sl ((List.range n).map D)) (rowOf n v).toList := by
  obtain ⟨a, cap, rfl, hnc, h⟩ := h
  by_cases hn : n = 0
  · subst hn
    exact .nil a cap
  · rcases h with h | ⟨g, rfl, h1, h2, h3, h4⟩
    · exact absurd h hn
    · have hrow : rowOf n (.slice (some ⟨g, 0, none⟩) n cap) = some g := by simp [rowOf, hn, Value.ownBlock]
      rw [hrow]
      refine .sl (by simp) hn hnc h2 h3 (rows_flat n 0 F D hF (fun i hi j u hu => ?_))
      have := h4 i hi j u hu
      rw [hc, Nat.zero_add]; exact this
theorem nodup_row (r : Option Nat) : r.toList.Nodup := by cases r <;> simp
theorem rows_at {w : World} : ∀ {e : Kd} {g o : Nat} {ds : List Dt} {fp : List Nat}, Rows w e g o ds fp → ∀ i (h : i < ds.length), ∃ cs fpi, Own w e cs ds[i] fpi ∧ (∀ b ∈ fpi, b ∈ fp) ∧ ∀ j u, cs[j]? = some u → w.cell? ⟨g, o + i * e.sz + j, none⟩ = some u
  | _, _, _, _, _, .nil, i, h => by simp at h
  | e, g, o, _, _, .cons (cs := cs) (d := d) (fp := fp) (ds := ds) (fp' := fp') hc hd r, i, h => by
    cases i with
    | zero => exact ⟨cs, fp, hd, fun b hb => List.mem_append_left _ hb, fun j u hu => by have := hc j u hu; simpa using this⟩
    | succ i =>
      obtain ⟨cs2, fpi, h1, h2, h3⟩ := rows_at r i (by simpa using h)
      refine ⟨cs2, fpi, h1, fun b hb => List.mem_append_right _ (h2 b hb), fun j u hu => ?_⟩
      have := h3 j u hu
      rw [Nat.succ_mul, show o + (i * e.sz + e.sz) + j = o + e.sz + i * e.sz + j by omega]
      exact this
theorem camer_at {w : World} : ∀ {e : Kd} {g o : Nat} {ds : List Dt}, CameR w e g o ds → ∀ i (h : i < ds.length), ∃ cs, Came w e cs ds[i] ∧ ∀ j u, cs[j]? = some u → w.cell? ⟨g, o + i * e.sz + j, none⟩ = some u
  | _, _, _, _, .nil, i, h => by simp at h
  | e, g, o, _, .cons (cs := cs) (d := d) (ds := ds) hc hd r, i, h => by
    cases i with
    | zero => exact ⟨cs, hd, fun j u hu => by have := hc j u hu; simpa using this⟩
    | succ i =>
      obtain ⟨cs2, h1, h3⟩ := camer_at r i (by simpa using h)
      refine ⟨cs2, h1, fun j u hu => ?_⟩
      have := h3 j u hu
      rw [Nat.succ_mul, show o + (i * e.sz + e.sz) + j = o + e.sz + i * e.sz + j by omega]
      exact this
def Dt.num : Dt → Int
  | .int n => n
  | _ => 0
end Go.Proofs.YtjmfgbbngocodaaGreat.Own

namespace Go.Proofs.YtjmfgbbngocodaaGreat.Marking
open Go.ChangeShapes Go.WideShapes Go.ChangeAt Go.RowKit
open Kit
set_option linter.unusedVariables false
set_option linter.unusedSimpArgs false
set_option linter.unnecessarySimpa false
def rest (m : Nat) : List UInt8 := if m = 0 then [] else Lib.decDigits m
theorem rest_step (m : Nat) (h : m ≠ 0) : rest m = rest (m / 10) ++ [UInt8.ofNat (48 + m % 10)] := by
  unfold rest
  rw [if_neg h]
  by_cases h1 : m < 10
  · rw [Lib.decDigits_one h1, if_pos (by omega), Nat.mod_eq_of_lt h1]; rfl
  · rw [Lib.decDigits, dif_neg h1, if_neg (by omega)]
theorem cons_str (c : UInt8) (l : List UInt8) : (({ data := #[c] } : ByteArray) ++ ({ data := l.toArray } : ByteArray)) = { data := (c :: l).toArray } := by
  apply ByteArray.ext
  simp
theorem digits_le {N : Nat} (h1 : N < 18446744073709551616) {m : Nat} {l : List UInt8} (h : rest m ++ l = Lib.decDigits N) : l.length ≤ 20 := by
  have h2 : (rest m ++ l).length = Lib.nDigits N := by rw [h, Lib.decDigits_length]
  rw [List.length_append] at h2
  have := Lib.nDigits_le20 N h1
  omega
theorem rest_next {N m : Nat} {l : List UInt8} (hm : m ≠ 0) (h : rest m ++ l = Lib.decDigits N) : rest (m / 10) ++ (UInt8.ofNat (48 + m % 10) :: l) = Lib.decDigits N := by
  rw [← h, rest_step m hm, List.append_assoc]; rfl
theorem drewN_below {B : Nat} {a w : World} (h : Below B a w) (n : Nat) : Below B a (w.drewN n) := ⟨h.os, h.tape, h.output, h.size, h.block⟩
theorem one_str (w : World) (x : Int) : (convert 144 9 (.slice (some ⟨w.heap.size, 0, none⟩) 1 1)).run Tryz.prog (w.alloc (.cells #[.int .u8 x] 5)) = .ok (.string ⟨#[UInt8.ofNat x.toNat]⟩) (w.alloc (.cells #[.int .u8 x] 5)) :=
  run_convert_bytes_arg _ 144 5 Tryz.underlying144 Tryz.underlying5 w.heap.size 0 1 1 [x] rfl (fun i hi => by
    obtain rfl : i = 0 := by omega
    simp [go_sem]) 9 Tryz.underlying9
def mt (k : Nat) : ByteArray := ⟨(109 :: Lib.decDigits k).toArray⟩
set_option maxRecDepth 100000 in
set_option maxHeartbeats 1000000 in
theorem mark_any (N : Nat) (w : World) (h0 : 0 < N) (h1 : N ≤ 9000000) :
    Calls Tryz.prog 54 #[.int .i64 (N : Int)] w fun e w' => e = .returned (.string (mt N)) ∧ Below w.heap.size w w' := by
  have hne : ¬ ((N : Int) ≤ 0) := by omega
  go_enter Tryz.func54, Tryz.ntmps54
  go_wp2
  go_loopw [0, 3] (fun v s wr => ∃ (m : Nat) (l : List UInt8), v = .int .i64 (m : Int) ∧ m ≤ N ∧ s = .string ⟨l.toArray⟩ ∧ rest m ++ l = Lib.decDigits N ∧ Below w.heap.size w wr) (fun v _ _ => (intOf v).toNat)
  case atStart => exact ⟨N, [], rfl, Nat.le_refl _, rfl, by simp [rest]; omega, Below.refl _ _⟩
  case round =>
    obtain ⟨m, l, rfl, hm, rfl, hl, hbel⟩ := hrel
    have hll := digits_le (by omega) hl
    have HL := Lib.hid hl
    have hlen : ¬ (9223372036854775807 < 1 + l.length) := by omega
    clear hl
    by_cases hz : m = 0
    · subst hz
      go_wp2
      go_ret
      refine ⟨?_, hbel⟩
      have := HL.out
      simp only [rest, if_pos, List.nil_append] at this
      unfold mt
      rw [← this]
      simp [cons_str]
    · have hnz : (0 : Int) < (m : Int) := by omega
      have hsz := hbel.size
      have hd0 : 0 ≤ (m : Int) % 10 := by omega
      have hd1 : (m : Int) % 10 ≤ 9 := by omega
      have hcv := one_str wr (48 + (m : Int) % 10)
      go_wp2
      refine ⟨⟨m / 10, UInt8.ofNat (48 + m % 10) :: l, by simp, by omega, ?_, rest_next hz HL.out, hbel.alloc hsz _⟩, by simp [intOf]; omega⟩
      rw [cons_str]
      congr 4
      rw [UInt8.ofNat_add]
      rfl
end Go.Proofs.YtjmfgbbngocodaaGreat.Marking

namespace Go.Proofs.YtjmfgbbngocodaaGreat.Tab
open Go.ChangeShapes Go.WideShapes Go.ChangeAt Go.RowKit
set_option linter.unusedVariables false
set_option linter.unusedSimpArgs false
set_option linter.unnecessarySimpa false
theorem set_alloc (w : World) (o o' : Obj) : ({ w.alloc o with heap := (w.alloc o).heap.setIfInBounds w.heap.size o' } : World) = w.alloc o' := by
  show ({ w with heap := (w.heap.push o).setIfInBounds w.heap.size o' } : World) = { w with heap := w.heap.push o' }
  congr 1
  apply Array.ext
  · simp
  · intro i h1 h2
    have h3 : i < (w.heap.push o).size := by simpa using h1
    simp only [Array.size_setIfInBounds, Array.size_push] at h1
    rw [Array.getElem_setIfInBounds h3]
    by_cases e : w.heap.size = i
    · subst e; simp
    · rw [if_neg e, Array.getElem_push, Array.getElem_push]; simp [show i < w.heap.size by omega]
theorem run_ins {P : Program} {mty kt et : TypeId} (hm : P.underlying mty = some (.map kt et)) (hk : P.underlying kt = some .string) (w : World) (es : Array MapEntry) (clock : Nat) (s : ByteArray) (val : Value)
    (hf : Instr.findNow .string (.string s) es.toList 0 = some none) :
    (Instr.mapUpdate mty (.map (some w.heap.size)) (.string s) val).run P (w.alloc (.map es clock)) = .ok () (w.alloc (.map (es.push { key := .string s, val := val, born := clock }) (clock + 1))) := by
  have hb : (w.alloc (.map es clock)).heap[w.heap.size]? = some (.map es clock) := heap_alloc_new w _
  have hc : (Instr.checkKey false 10000 kt (.string s)).run P (w.alloc (.map es clock)) = .ok () (w.alloc (.map es clock)) := MapKept.run_checkKey (k := .string s) hk (by simp [MapKept.IsKey]) false 9999
  simp [Instr.mapUpdate, run_underlying hm, MapKept.run_getObj_map hb, hc, MapKept.run_findKey hk hf, MapKept.run_setObj_map _ hb, Result.andThen]
  exact set_alloc w _ _
theorem run_look_yes {P : Program} {mty kt et : TypeId} (hm : P.underlying mty = some (.map kt et)) (hk : P.underlying kt = some .string) {W : World} {b : Nat} {es : Array MapEntry} {clock : Nat} (hb : W.heap[b]? = some (.map es clock)) {s : ByteArray} {i : Nat} {v : Value}
    (hf : Instr.findNow .string (.string s) es.toList 0 = some (some (i, v))) :
    (Instr.lookup mty (.map (some b)) (.string s) true).run P W = .ok (.tuple #[v, .bool true]) W := by
  have hc : ∀ e, (Instr.checkKey e 10000 kt (.string s)).run P W = .ok () W := fun e => MapKept.run_checkKey (k := .string s) hk (by simp [MapKept.IsKey]) e 9999
  simp [Instr.lookup, run_underlying hm, MapKept.run_getObj_map hb, hc, MapKept.run_findKey hk hf, Result.andThen]
theorem run_look_no {P : Program} {mty kt et : TypeId} (hm : P.underlying mty = some (.map kt et)) (hk : P.underlying kt = some .string) {W : World} {b : Nat} {es : Array MapEntry} {clock : Nat} (hb : W.heap[b]? = some (.map es clock)) {s : ByteArray} {z : Value}
    (hf : Instr.findNow .string (.string s) es.toList 0 = some none) (hz : (zeroValue et).run P W = .ok z W) :
    (Instr.lookup mty (.map (some b)) (.string s) true).run P W = .ok (.tuple #[z, .bool false]) W := by
  have hc : ∀ e, (Instr.checkKey e 10000 kt (.string s)).run P W = .ok () W := fun e => MapKept.run_checkKey (k := .string s) hk (by simp [MapKept.IsKey]) e 9999
  simp [Instr.lookup, run_underlying hm, MapKept.run_getObj_map hb, hc, MapKept.run_findKey hk hf, hz, Result.andThen]
end Go.Proofs.YtjmfgbbngocodaaGreat.Tab

namespace Go.Proofs.YtjmfgbbngocodaaGreat.Scan
open Go.ChangeShapes Go.WideShapes Go.ChangeAt Go.RowKit
open Kit
open Split (byt byt_in byt_end)
set_option linter.unusedVariables false
set_option linter.unusedSimpArgs false
set_option linter.unnecessarySimpa false
set_option maxRecDepth 100000
def Letters (s : ByteArray) (k : Nat) : Prop := ∀ j, j < k → 97 ≤ byt s j ∧ byt s j ≤ 122
def IsNm (s : ByteArray) : Prop := 1 ≤ s.size ∧ s.size ≤ 8 ∧ Letters s s.size
def nameB (s : ByteArray) : Bool := decide (1 ≤ s.size ∧ s.size ≤ 8) && (List.range s.size).all fun j => decide (97 ≤ byt s j ∧ byt s j ≤ 122)
theorem nameB_iff (s : ByteArray) : nameB s = true ↔ IsNm s := by
  unfold nameB IsNm Letters
  simp only [Bool.and_eq_true, decide_eq_true_eq, List.all_eq_true, List.mem_range]
  constructor
  · rintro ⟨⟨h1, h2⟩, h3⟩; exact ⟨h1, h2, h3⟩
  · rintro ⟨h1, h2, h3⟩; exact ⟨⟨h1, h2⟩, h3⟩
theorem nameB_no {s : ByteArray} {k : Nat} (hk : k < s.size) (h : ¬ (97 ≤ byt s k ∧ byt s k ≤ 122)) : nameB s = false := by
  rw [← Bool.not_eq_true, nameB_iff]
  rintro ⟨_, _, h3⟩
  exact h (h3 k hk)
theorem nameB_all {s : ByteArray} (h : Letters s s.size) : nameB s = decide (1 ≤ s.size ∧ s.size ≤ 8) := by
  rw [Bool.eq_iff_iff, nameB_iff, decide_eq_true_eq]
  exact ⟨fun h => ⟨h.1, h.2.1⟩, fun h2 => ⟨h2.1, h2.2, h⟩⟩
theorem name_spec (s : ByteArray) (w : World) (hs : s.size ≤ 281474976710656) : Calls Tryz.prog 61 #[.string s] w fun e w' => e = .returned (.bool (nameB s)) ∧ w = w' := by
  go_enter Tryz.func61, Tryz.ntmps61
  go_wp2
  go_loopw [3] (fun v3 wr => ∃ k : Nat, k ≤ s.size ∧ v3 = .int .i64 (k : Int) ∧ Letters s k ∧ wr = w) (fun v3 _ => s.size - (intOf v3).toNat)
  case atStart => exact ⟨0, Nat.zero_le _, rfl, fun j hj => by omega, rfl⟩
  case round =>
    obtain ⟨k, hk, rfl, hl, rfl⟩ := hrel
    have HL := Lib.hid hl
    clear hl
    by_cases hlt : k < s.size
    · have hb := byt_in s k hlt
      have i0 : (0 : Int) ≤ (k : Int) := by omega
      have i1 : (k : Int) < (s.size : Int) := by omega
      by_cases h1 : (s[k].toNat : Int) < 97
      · go_wp2
        go_ret
        exact ⟨ret_bool (nameB_no hlt (by omega)).symm, rfl⟩
      · by_cases h2 : (122 : Int) < (s[k].toNat : Int)
        · go_wp2
          go_ret
          exact ⟨ret_bool (nameB_no hlt (by omega)).symm, rfl⟩
        · go_wp2
          refine ⟨⟨k + 1, by omega, by go_num, fun j hj => ?_, by first | rfl | trivial⟩, by simp [intOf]; omega⟩
          by_cases e : j < k
          · exact HL.out j e
          · obtain rfl : j = k := by omega
            omega
    · obtain rfl : k = s.size := by omega
      go_wp2_with (go_at_call 60; refine (Point.in_any _ _ _ _).mono ?_; rintro e w' ⟨rfl, rfl⟩)
      go_ret
      exact ⟨ret_bool (by rw [nameB_all HL.out, Bool.decide_and]; congr 1 <;> (apply decide_eq_decide.2; omega)), rfl⟩
def tkB (s : ByteArray) (n : Int) : Bool := if s.toList.isEmpty = true then decide (-999 ≤ n ∧ n ≤ 999) else nameB s && decide (n = 0)
theorem tok_spec (s : ByteArray) (n : Int) (w : World) (hs : s.size ≤ 281474976710656) : Calls Tryz.prog 24 #[.agg #[.string s, .int .i64 n]] w fun e w' => e = .returned (.bool (tkB s n)) ∧ Below w.heap.size w w' := by
  cases h : s.toList.isEmpty
  · cases h1 : nameB s
    all_goals
      go_enter Tryz.func24, Tryz.ntmps24
      go_wp2_with (go_at_call 61; refine (name_spec _ _ hs).mono ?_; rintro e w' ⟨rfl, rfl⟩)
      go_ret
      exact ⟨ret_bool (by simp [tkB, h, h1]; try rfl), by go_grown⟩
  · go_enter Tryz.func24, Tryz.ntmps24
    go_wp2_with (go_at_call 60; refine (Point.in_any _ _ _ _).mono ?_; rintro e w' ⟨rfl, rfl⟩)
    go_ret
    exact ⟨ret_bool (by simp [tkB, h]), by go_grown⟩
end Go.Proofs.YtjmfgbbngocodaaGreat.Scan

