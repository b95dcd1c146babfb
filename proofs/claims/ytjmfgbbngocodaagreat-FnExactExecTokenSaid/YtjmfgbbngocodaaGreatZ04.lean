/-
  Texts of this seat, laid together: Came, OwnFlat, Mark
-/
import Derived.Test.YtjmfgbbngocodaaGreatRows
import Derived.WalkKit
import Derived.ProofKit
import Derived.OpenShut
import Derived.ChangeArms
import Derived.Deep.Slices
import Derived.Deep.Fields
import Derived.ChangeSame
import Derived.Deep.RegionHeld3
import Derived.Laws.BytesArg
import Derived.Lib.ItoaNum
import Derived.Lib.ItoaLen
import Derived.Test.YtjmfgbbngocodaaGreatZ02
import Derived.Test.YtjmfgbbngocodaaGreatZ03
import Derived.Test.YtjmfgbbngocodaaGreatZ01
namespace Go.Proofs.YtjmfgbbngocodaaGreat.Own
open Go.ChangeShapes Go.WideShapes Go.ChangeAt Go.RowKit
open Go.Deep (open_slice)
set_option linter.unusedVariables false
set_option linter.unusedSimpArgs false
set_option linter.unnecessarySimpa false
mutual
inductive Came (w : World) : Kd → List Value → Dt → Prop
  | int (n : Int) : (Lit.int .i64 n).wf = true → Came w .int [.int .i64 n] (.int n)
  | str (s : ByteArray) : s.size ≤ maxLen → Came w .str [.string s] (.str s)
  | bool (b : Bool) : Came w .bool [.bool b] (.bool b)
  | st {ks : List Kd} {cs : List Value} {ds : List Dt} : CameL w ks cs ds → Came w (.st ks) cs (.st ds)
  | nil {e : Kd} (a : Option Addr) (cap : Nat) : cap ≤ maxLen → Came w (.sl e) [.slice a 0 cap] (.sl [])
  | sl {e : Kd} {g o n cap : Nat} {es : List Dt} : es.length = n → n ≠ 0 → n ≤ cap → cap ≤ maxLen → g < w.heap.size → CameR w e g o es → Came w (.sl e) [.slice (some ⟨g, o, none⟩) n cap] (.sl es)
inductive CameL (w : World) : List Kd → List Value → List Dt → Prop
  | nil : CameL w [] [] []
  | cons {k : Kd} {cs : List Value} {d : Dt} {ks : List Kd} {cs' : List Value} {ds : List Dt} : Came w k cs d → CameL w ks cs' ds → CameL w (k :: ks) (cs ++ cs') (d :: ds)
inductive CameR (w : World) : Kd → Nat → Nat → List Dt → Prop
  | nil {e : Kd} {g o : Nat} : CameR w e g o []
  | cons {e : Kd} {g o : Nat} {cs : List Value} {d : Dt} {ds : List Dt} : (∀ j u, cs[j]? = some u → w.cell? ⟨g, o + j, none⟩ = some u) → Came w e cs d → CameR w e g (o + e.sz) ds → CameR w e g o (d :: ds)
end
mutual
theorem Came.len {w : World} : ∀ {k : Kd} {cs : List Value} {d : Dt}, Came w k cs d → cs.length = k.sz
  | _, _, _, .int n _ => rfl
  | _, _, _, .str s _ => rfl
  | _, _, _, .bool b => rfl
  | _, _, _, .st h => by simp only [Kd.sz]; exact CameL.len h
  | _, _, _, .nil a cap _ => rfl
  | _, _, _, .sl _ _ _ _ _ _ => rfl
theorem CameL.len {w : World} : ∀ {ks : List Kd} {cs : List Value} {ds : List Dt}, CameL w ks cs ds → cs.length = szL ks
  | _, _, _, .nil => rfl
  | _, _, _, .cons h r => by simp only [szL, List.length_append]; rw [Came.len h, CameL.len r]
end
mutual
theorem Came.on {w w' : World} (hb : Below w.heap.size w w') : ∀ {k : Kd} {cs : List Value} {d : Dt}, Came w k cs d → Came w' k cs d
  | _, _, _, .int n h => .int n h
  | _, _, _, .str s h => .str s h
  | _, _, _, .bool b => .bool b
  | _, _, _, .st h => .st (CameL.on hb h)
  | _, _, _, .nil a cap h => .nil a cap h
  | _, _, _, .sl h1 h2 h3 h4 h5 h6 => .sl h1 h2 h3 h4 (Nat.lt_of_lt_of_le h5 hb.size) (CameR.on hb h5 h6)
theorem CameL.on {w w' : World} (hb : Below w.heap.size w w') : ∀ {ks : List Kd} {cs : List Value} {ds : List Dt}, CameL w ks cs ds → CameL w' ks cs ds
  | _, _, _, .nil => .nil
  | _, _, _, .cons h r => .cons (Came.on hb h) (CameL.on hb r)
theorem CameR.on {w w' : World} (hb : Below w.heap.size w w') : ∀ {e : Kd} {g o : Nat} {ds : List Dt}, g < w.heap.size → CameR w e g o ds → CameR w' e g o ds
  | _, _, _, _, _, .nil => .nil
  | _, g, o, _, hg, .cons hc h r => .cons (fun j u hu => (hb.cell (p := ⟨g, o + j, none⟩) hg).trans (hc j u hu)) (Came.on hb h) (CameR.on hb hg r)
end
mutual
def tyB (P : Program) : Kd → TypeId → Bool
  | .int, t => match P.underlying t with
    | some (.int .i64) => true
    | _ => false
  | .str, t => match P.underlying t with
    | some .string => true
    | _ => false
  | .bool, t => match P.underlying t with
    | some .bool => true
    | _ => false
  | .st ks, t => match P.underlying t with
    | some (.struct fs) => tyL P ks 0 fs.toList && (P.cellsOf t == szL ks)
    | _ => false
  | .sl e, t => match P.underlying t with
    | some (.slice u) => tyB P e u && (P.cellsOf u == e.sz) && decide (0 < e.sz)
    | _ => false
def tyL (P : Program) : List Kd → Nat → List Field → Bool
  | [], _, [] => true
  | k :: ks, o, f :: fs => (f.offset == o) && (P.cellsOf f.type == k.sz) && tyB P k f.type && tyL P ks (o + k.sz) fs
  | _, _, _ => false
end
theorem rows_of {w : World} {e : Kd} {g : Nat} : ∀ (n o : Nat), (∀ i, i < n → ∃ cs d, (∀ j u, cs[j]? = some u → w.cell? ⟨g, o + i * e.sz + j, none⟩ = some u) ∧ Came w e cs d) → ∃ ds, ds.length = n ∧ CameR w e g o ds
  | 0, o, _ => ⟨[], rfl, .nil⟩
  | n + 1, o, h => by
    obtain ⟨cs, d, hc, hd⟩ := h 0 (by omega)
    obtain ⟨ds, hl, hr⟩ := rows_of n (o + e.sz) (fun i hi => by
      obtain ⟨cs, d, hc, hd⟩ := h (i + 1) (by omega)
      refine ⟨cs, d, fun j u hu => ?_, hd⟩
      have := hc j u hu
      rw [Nat.succ_mul] at this
      rw [show o + e.sz + i * e.sz + j = o + (i * e.sz + e.sz) + j by omega]
      exact this)
    exact ⟨d :: ds, by simp [hl], .cons (fun j u hu => by have := hc j u hu; simpa using this) hd hr⟩
section
variable {H : Type} {enc : TypeId × Value → H} {P : Program} {w : World} {base : Nat} {spare : Nat → Bool} {held : Bool}
mutual
theorem came_of : ∀ (k : Kd) (t : TypeId) (n : Nat) (cs : List Value) (x : DataW H × List MemPlace), tyB P k t = true → DataW.trod enc P w base spare held n t cs = some x → ∃ d, Came w k cs d
  | .int, t, n, cs, x, ht, h => by
    unfold tyB at ht
    split at ht
    · rename_i hu
      obtain ⟨m, e, _, hw⟩ := DataW.trod_int hu h
      subst e
      exact ⟨_, .int m hw⟩
    · cases ht
  | .str, t, n, cs, x, ht, h => by
    unfold tyB at ht
    split at ht
    · rename_i hu
      obtain ⟨m, e, _, hw⟩ := DataW.trod_string hu h
      subst e
      exact ⟨_, .str m hw⟩
    · cases ht
  | .bool, t, n, cs, x, ht, h => by
    unfold tyB at ht
    split at ht
    · rename_i hu
      obtain ⟨m, e, _⟩ := DataW.trod_bool hu h
      subst e
      exact ⟨_, .bool m⟩
    · cases ht
  | .st ks, t, n, cs, x, ht, h => by
    unfold tyB at ht
    split at ht
    · rename_i fs hu
      rw [Bool.and_eq_true, beq_iff_eq] at ht
      obtain ⟨xs, m, _, _, hcl, hxl, hf⟩ := DataW.trod_struct hu h
      obtain ⟨ds, hd⟩ := came_ofL ks 0 fs.toList m cs (fun i f hi => by
        have hi' : fs[i]? = some f := by simpa using hi
        have hlt : i < fs.size := (Array.getElem?_eq_some_iff.1 hi').1
        exact ⟨_, (hf i f hi').trans (List.getElem?_eq_getElem (by omega))⟩) ht.1 (by rw [hcl, ht.2]; omega)
      rw [List.drop_zero] at hd
      exact ⟨_, .st hd⟩
    · cases ht
  | .sl e, t, n, cs, x, ht, h => by
    unfold tyB at ht
    split at ht
    · rename_i u hu
      rw [Bool.and_eq_true, Bool.and_eq_true, beq_iff_eq, decide_eq_true_eq] at ht
      obtain ⟨⟨hte, hsz⟩, hpos⟩ := ht
      rcases open_slice hu h with ⟨h0, _⟩ | ⟨a, len, cap, m, n', D, Pl, hcs, hb, hl, hm, hmm, hx, hi⟩
      · subst h0; exact ⟨_, .nil none 0 (Nat.zero_le _)⟩
      · subst hcs
        by_cases h0 : len = 0
        · subst h0; exact ⟨_, .nil _ _ hm⟩
        · have hel : ∀ i, i < len → ∃ cs', w.cells? base (a.add (i * P.cellsOf u)) (P.cellsOf u) = some cs' ∧ ∃ d, Came w e cs' d := fun i hil => by
            obtain ⟨cs', hc, ht'⟩ := hi i (by rw [hmm]; split <;> omega)
            exact ⟨cs', hc, came_of e u n' cs' _ hte ht'⟩
          rw [hsz] at hel
          obtain ⟨g, o, s⟩ := a
          have hs : s = none ∧ g < w.heap.size := by
            obtain ⟨cs', hc, d, hd⟩ := hel 0 (by omega)
            obtain ⟨_, hcl, hat⟩ := World.cells?_some hc
            have h1 := hat 0 hpos
            rw [List.getElem?_eq_getElem (by omega)] at h1
            have h2 : w.cell? ⟨g, o, s⟩ = some (cs'[0]'(by omega)) := by simpa [Addr.add] using h1
            exact ⟨World.cell?_spot h2, World.block_lt_of_cell? w _ h2⟩
          obtain ⟨rfl, hg⟩ := hs
          obtain ⟨ds, hdl, hr⟩ := rows_of (w := w) (e := e) (g := g) len o (fun i hil => by
            obtain ⟨cs', hc, d, hd⟩ := hel i hil
            obtain ⟨_, hcl, hat⟩ := World.cells?_some hc
            refine ⟨cs', d, fun j u' hu' => ?_, hd⟩
            have hj : j < e.sz := by have := (List.getElem?_eq_some_iff.1 hu').1; omega
            have h1 := hat j hj
            rw [hu'] at h1
            rw [Go.Deep.add_add] at h1
            by_cases hz : i * e.sz + j = 0
            · rw [hz] at h1
              have : o + i * e.sz + j = o := by omega
              rw [this]; simpa [Addr.add] using h1
            · simp only [Addr.add, if_neg hz] at h1
              rw [Nat.add_assoc]; exact h1)
          exact ⟨_, .sl hdl h0 hl hm hg hr⟩
    · cases ht
theorem came_ofL : ∀ (ks : List Kd) (o : Nat) (fs : List Field) (n : Nat) (cs : List Value), (∀ (i : Nat) (f : Field), fs[i]? = some f → ∃ y, DataW.trod enc P w base spare held n f.type ((cs.drop f.offset).take (P.cellsOf f.type)) = some y) → tyL P ks o fs = true → cs.length = o + szL ks → ∃ ds, CameL w ks (cs.drop o) ds
  | [], o, fs, n, cs, hf, ht, hl => by
    have : cs.drop o = [] := List.drop_eq_nil_iff.2 (by simp only [szL] at hl; omega)
    rw [this]; exact ⟨[], .nil⟩
  | k :: ks, o, [], n, cs, hf, ht, hl => by simp [tyL] at ht
  | k :: ks, o, f :: fs, n, cs, hf, ht, hl => by
    simp only [tyL, Bool.and_eq_true, beq_iff_eq] at ht
    obtain ⟨⟨⟨ho, hc⟩, hk⟩, hr⟩ := ht
    obtain ⟨y, hy⟩ := hf 0 f rfl
    rw [ho, hc] at hy
    obtain ⟨d, hd⟩ := came_of k f.type n _ y hk hy
    obtain ⟨ds, hds⟩ := came_ofL ks (o + k.sz) fs n cs (fun i f' hi => hf (i + 1) f' (by simpa using hi)) hr (by simp only [szL] at hl; omega)
    refine ⟨d :: ds, ?_⟩
    have e1 : cs.drop o = (cs.drop o).take k.sz ++ cs.drop (o + k.sz) := by rw [← List.drop_drop, List.take_append_drop]
    rw [e1]
    exact .cons hd hds
end
end
end Go.Proofs.YtjmfgbbngocodaaGreat.Own

namespace Go.Proofs.YtjmfgbbngocodaaGreat.Own
open Go.ChangeShapes Go.WideShapes Go.ChangeAt Go.RowKit
open Kit Slabs
set_option linter.unusedVariables false
set_option linter.unusedSimpArgs false
set_option linter.unnecessarySimpa false
theorem rows_flat {w : World} {e : Kd} {g : Nat} : ∀ (n o : Nat) (F : Nat → List Value) (D : Nat → Dt), (∀ i, i < n → Own w e (F i) (D i) []) → (∀ i, i < n → ∀ j u, (F i)[j]? = some u → w.cell? ⟨g, o + i * e.sz + j, none⟩ = some u) → Rows w e g o ((List.range n).map D) []
  | 0, o, F, D, _, _ => .nil
  | n + 1, o, F, D, h, hc => by
    have h1 := rows_flat n (o + e.sz) (fun i => F (i + 1)) (fun i => D (i + 1)) (fun i hi => h (i + 1) (by omega)) (fun i hi j u hu => by
      have := hc (i + 1) (by omega) j u hu
      rw [Nat.succ_mul] at this
      rw [show o + e.sz + i * e.sz + j = o + (i * e.sz + e.sz) + j by omega]
      exact this)
    have h2 := Rows.cons (w := w) (e := e) (g := g) (o := o) (fun j u hu => by have := hc 0 (by omega) j u hu; simpa using this) (h 0 (by omega)) h1
    rw [List.range_succ_eq_map, List.map_cons, List.map_map]
    exact h2
theorem own_of_slab {w : World} {B n c : Nat} {v : Value} {F : Nat → List Value} {e : Kd} {D : Nat → Dt} (h : Slab w B v n c F) (hc : e.sz = c) (hF : ∀ i, i < n → Own w e (F i) (D i) []) :
    Own w (.sl e) [v] (.sl ((List.range n).map D)) (rowOf n v).toList := by
  obtain ⟨a, cap, rfl, hnc, h⟩ := h
  by_cases hn : n = 0
  · subst hn
    exact .nil a cap
  · rcases h with h | ⟨g, rfl, h1, h2, h3, h4⟩
    · exact absurd h hn
    · have hrow : rowOf n (.slice (some ⟨g, 0, none⟩) n cap) = some g := by simp [rowOf, hn, Value.ownBlock]
      rw [hrow]
      refine .sl (by simp) hn hnc h2 h3 (rows_flat n 0 F D hF (fun i hi j u hu => ?_))
      have := h4 i hi j u hu
      rw [hc, Nat.zero_add]; exact this
theorem nodup_row (r : Option Nat) : r.toList.Nodup := by cases r <;> simp
theorem rows_at {w : World} : ∀ {e : Kd} {g o : Nat} {ds : List Dt} {fp : List Nat}, Rows w e g o ds fp → ∀ i (h : i < ds.length), ∃ cs fpi, Own w e cs ds[i] fpi ∧ (∀ b ∈ fpi, b ∈ fp) ∧ ∀ j u, cs[j]? = some u → w.cell? ⟨g, o + i * e.sz + j, none⟩ = some u
  | _, _, _, _, _, .nil, i, h => by simp at h
  | e, g, o, _, _, .cons (cs := cs) (d := d) (fp := fp) (ds := ds) (fp' := fp') hc hd r, i, h => by
    cases i with
    | zero => exact ⟨cs, fp, hd, fun b hb => List.mem_append_left _ hb, fun j u hu => by have := hc j u hu; simpa using this⟩
    | succ i =>
      obtain ⟨cs2, fpi, h1, h2, h3⟩ := rows_at r i (by simpa using h)
      refine ⟨cs2, fpi, h1, fun b hb => List.mem_append_right _ (h2 b hb), fun j u hu => ?_⟩
      have := h3 j u hu
      rw [Nat.succ_mul, show o + (i * e.sz + e.sz) + j = o + e.sz + i * e.sz + j by omega]
      exact this
theorem camer_at {w : World} : ∀ {e : Kd} {g o : Nat} {ds : List Dt}, CameR w e g o ds → ∀ i (h : i < ds.length), ∃ cs, Came w e cs ds[i] ∧ ∀ j u, cs[j]? = some u → w.cell? ⟨g, o + i * e.sz + j, none⟩ = some u
  | _, _, _, _, .nil, i, h => by simp at h
  | e, g, o, _, .cons (cs := cs) (d := d) (ds := ds) hc hd r, i, h => by
    cases i with
    | zero => exact ⟨cs, hd, fun j u hu => by have := hc j u hu; simpa using this⟩
    | succ i =>
      obtain ⟨cs2, h1, h3⟩ := camer_at r i (by simpa using h)
      refine ⟨cs2, h1, fun j u hu => ?_⟩
      have := h3 j u hu
      rw [Nat.succ_mul, show o + (i * e.sz + e.sz) + j = o + e.sz + i * e.sz + j by omega]
      exact this
def Dt.num : Dt → Int
  | .int n => n
  | _ => 0
end Go.Proofs.YtjmfgbbngocodaaGreat.Own

namespace Go.Proofs.YtjmfgbbngocodaaGreat.Marking
open Go.ChangeShapes Go.WideShapes Go.ChangeAt Go.RowKit
open Kit
set_option linter.unusedVariables false
set_option linter.unusedSimpArgs false
set_option linter.unnecessarySimpa false
def rest (m : Nat) : List UInt8 := if m = 0 then [] else Lib.decDigits m
theorem rest_step (m : Nat) (h : m ≠ 0) : rest m = rest (m / 10) ++ [UInt8.ofNat (48 + m % 10)] := by
  unfold rest
  rw [if_neg h]
  by_cases h1 : m < 10
  · rw [Lib.decDigits_one h1, if_pos (by omega), Nat.mod_eq_of_lt h1]; rfl
  · rw [Lib.decDigits, dif_neg h1, if_neg (by omega)]
theorem cons_str (c : UInt8) (l : List UInt8) : (({ data := #[c] } : ByteArray) ++ ({ data := l.toArray } : ByteArray)) = { data := (c :: l).toArray } := by
  apply ByteArray.ext
  simp
theorem digits_le {N : Nat} (h1 : N < 18446744073709551616) {m : Nat} {l : List UInt8} (h : rest m ++ l = Lib.decDigits N) : l.length ≤ 20 := by
  have h2 : (rest m ++ l).length = Lib.nDigits N := by rw [h, Lib.decDigits_length]
  rw [List.length_append] at h2
  have := Lib.nDigits_le20 N h1
  omega
theorem rest_next {N m : Nat} {l : List UInt8} (hm : m ≠ 0) (h : rest m ++ l = Lib.decDigits N) : rest (m / 10) ++ (UInt8.ofNat (48 + m % 10) :: l) = Lib.decDigits N := by
  rw [← h, rest_step m hm, List.append_assoc]; rfl
theorem drewN_below {B : Nat} {a w : World} (h : Below B a w) (n : Nat) : Below B a (w.drewN n) := ⟨h.os, h.tape, h.output, h.size, h.block⟩
theorem one_str (w : World) (x : Int) : (convert 144 9 (.slice (some ⟨w.heap.size, 0, none⟩) 1 1)).run Tryz.prog (w.alloc (.cells #[.int .u8 x] 5)) = .ok (.string ⟨#[UInt8.ofNat x.toNat]⟩) (w.alloc (.cells #[.int .u8 x] 5)) :=
  run_convert_bytes_arg _ 144 5 Tryz.underlying144 Tryz.underlying5 w.heap.size 0 1 1 [x] rfl (fun i hi => by
    obtain rfl : i = 0 := by omega
    simp [go_sem]) 9 Tryz.underlying9
def mt (k : Nat) : ByteArray := ⟨(109 :: Lib.decDigits k).toArray⟩
set_option maxRecDepth 100000 in
set_option maxHeartbeats 1000000 in
theorem mark_any (N : Nat) (w : World) (h0 : 0 < N) (h1 : N ≤ 9000000) :
    Calls Tryz.prog 54 #[.int .i64 (N : Int)] w fun e w' => e = .returned (.string (mt N)) ∧ Below w.heap.size w w' := by
  have hne : ¬ ((N : Int) ≤ 0) := by omega
  go_enter Tryz.func54, Tryz.ntmps54
  go_wp2
  go_loopw [0, 3] (fun v s wr => ∃ (m : Nat) (l : List UInt8), v = .int .i64 (m : Int) ∧ m ≤ N ∧ s = .string ⟨l.toArray⟩ ∧ rest m ++ l = Lib.decDigits N ∧ Below w.heap.size w wr) (fun v _ _ => (intOf v).toNat)
  case atStart => exact ⟨N, [], rfl, Nat.le_refl _, rfl, by simp [rest]; omega, Below.refl _ _⟩
  case round =>
    obtain ⟨m, l, rfl, hm, rfl, hl, hbel⟩ := hrel
    have hll := digits_le (by omega) hl
    have HL := Lib.hid hl
    have hlen : ¬ (9223372036854775807 < 1 + l.length) := by omega
    clear hl
    by_cases hz : m = 0
    · subst hz
      go_wp2
      go_ret
      refine ⟨?_, hbel⟩
      have := HL.out
      simp only [rest, if_pos, List.nil_append] at this
      unfold mt
      rw [← this]
      simp [cons_str]
    · have hnz : (0 : Int) < (m : Int) := by omega
      have hsz := hbel.size
      have hd0 : 0 ≤ (m : Int) % 10 := by omega
      have hd1 : (m : Int) % 10 ≤ 9 := by omega
      have hcv := one_str wr (48 + (m : Int) % 10)
      go_wp2
      refine ⟨⟨m / 10, UInt8.ofNat (48 + m % 10) :: l, by simp, by omega, ?_, rest_next hz HL.out, hbel.alloc hsz _⟩, by simp [intOf]; omega⟩
      rw [cons_str]
      congr 4
      rw [UInt8.ofNat_add]
      rfl
end Go.Proofs.YtjmfgbbngocodaaGreat.Marking

