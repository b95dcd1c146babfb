/-
  Texts of this seat, laid together: Zip, Form
-/
import Derived.Laws.IdiomCopy
import Derived.Deep.Upon
import Derived.Test.YtbdjnfnphilklaaM04
import Derived.Test.YtbdjnfnphilklaaM05
import Derived.Test.YtbdjnfnphilklaaM06
namespace Go.Proofs.Ytbdjnfnphilklaa.Own
open Go.ChangeShapes Go.WideShapes Go.ChangeAt Go.RowKit
open Kit Slabs
open Marking (mt)
set_option linter.unusedVariables false
set_option linter.unusedSimpArgs false
set_option linter.unnecessarySimpa false
def Blk (w : World) (b : Nat) (vs : List Value) : Prop := (∀ o v, vs[o]? = some v → w.cell? ⟨b, o, none⟩ = some v) ∧ (∀ o, w.frozen? ⟨b, o, none⟩ = false) ∧ b < w.heap.size
theorem Blk.new (w : World) (cs : Array Value) (t : TypeId) {b : Nat} (hb : w.heap.size = b) : Blk (w.alloc (.cells cs t)) b cs.toList := by
  subst hb
  exact ⟨fun o v h => by rw [World.cell?_alloc_new]; simpa using h, fun o => by simp, by simp⟩
theorem Blk.keep {w w' : World} {b : Nat} {vs : List Value} (h : Blk w b vs) (hb : Below w.heap.size w w') : Blk w' b vs :=
  ⟨fun o v hv => (hb.cell (p := ⟨b, o, none⟩) h.2.2).trans (h.1 o v hv), fun o => ((bcell hb).2 b o h.2.2).trans (h.2.1 o), Nat.lt_of_lt_of_le h.2.2 hb.size⟩
theorem Blk.alloc {w : World} {b : Nat} {vs : List Value} (h : Blk w b vs) (o : Obj) : Blk (w.alloc o) b vs := h.keep ((Below.refl _ _).alloc (Nat.le_refl _) _)
theorem Blk.drew {w : World} {b : Nat} {vs : List Value} (h : Blk w b vs) : Blk w.drew b vs := h
theorem Blk.other {w : World} {b b' : Nat} {vs : List Value} (h : Blk w b vs) (hne : b' ≠ b) (o : Nat) (v : Value) : Blk (w.setCell ⟨b', o, none⟩ v) b vs :=
  ⟨fun p u hu => by exact (World.cell?_setCell_far _ _ _ _ hne).trans (h.1 p u hu), fun p => by rw [World.frozen?_setCell]; exact h.2.1 p, by simpa using h.2.2⟩
theorem Blk.others {b b' : Nat} {vs : List Value} (hne : b' ≠ b) : ∀ (us : List Value) (o : Nat) {w : World}, Blk w b vs → Blk (w.setCells b' o us) b vs
  | [], _, _, h => h
  | v :: r, o, w, h => Blk.others hne r (o + 1) (h.other hne o v)
theorem Below.setCells {B : Nat} {a : World} {b : Nat} (hB : B ≤ b) : ∀ (vs : List Value) (o : Nat) {w : World}, Below B a w → Below B a (w.setCells b o vs)
  | [], _, _, h => h
  | v :: r, o, w, h => Below.setCells hB r (o + 1) (h.setCell (p := ⟨b, o, none⟩) hB v)
theorem size_sets (b : Nat) : ∀ (vs : List Value) (o : Nat) (w : World), (w.setCells b o vs).heap.size = w.heap.size
  | [], _, _ => rfl
  | v :: r, o, w => by rw [World.setCells, size_sets b r]; simp
theorem heap_sets (b : Nat) {i : Nat} (hne : i ≠ b) : ∀ (vs : List Value) (o : Nat) (w : World), (w.setCells b o vs).heap[i]? = w.heap[i]?
  | [], _, _ => rfl
  | v :: r, o, w => by rw [World.setCells, heap_sets b hne r]; exact Below.heap_setCell _ _ _ _ hne
theorem turns_sets (b : Nat) {S : Nat → Prop} (hS : S b) (vs : List Value) (o : Nat) (w : World) : Turns w (w.setCells b o vs) S := by
  induction vs generalizing o w with
  | nil => exact Turns.refl _ _
  | cons v r ih =>
    refine Turns.trans ?_ (ih (o + 1) _)
    have hb := (Below.refl 0 w).setCell (p := ⟨b, o, none⟩) (Nat.zero_le _) v
    exact ⟨hb.os, hb.tape, hb.output, hb.size, fun k hk hn => Below.heap_setCell _ _ _ _ (fun e => hn (by rw [e]; exact hS))⟩
theorem Blk.sets {w : World} {b o : Nat} {P us vs R : List Value} (h : Blk w b (P ++ (us ++ R))) (ho : P.length = o) (hl : vs.length = us.length) : Blk (w.setCells b o vs) b (P ++ (vs ++ R)) := by
  subst ho
  refine ⟨fun p u hu => ?_, fun p => by rw [World.frozen?_setCells]; exact h.2.1 p, by rw [size_sets]; exact h.2.2⟩
  by_cases h1 : p < P.length
  · rw [World.cell?_setCells_out b vs P.length w ⟨b, p, none⟩ (fun _ _ => .inl h1)]
    rw [List.getElem?_append_left h1] at hu
    exact h.1 p u (by rw [List.getElem?_append_left h1]; exact hu)
  · rw [List.getElem?_append_right (by omega)] at hu
    by_cases h2 : p - P.length < vs.length
    · rw [List.getElem?_append_left h2] at hu
      have := World.cell?_setCells_in b vs P.length w (fun j hj => by
        rw [h.1 (P.length + j) _ (by rw [List.getElem?_append_right (by omega), Nat.add_sub_cancel_left, List.getElem?_append_left (by omega)]; exact List.getElem?_eq_getElem (by omega))]; rfl) (p - P.length) h2
      rw [show P.length + (p - P.length) = p by omega] at this
      rw [this, ← hu, List.getElem?_eq_getElem h2]
    · rw [World.cell?_setCells_out b vs P.length w ⟨b, p, none⟩ (fun _ _ => .inr (by show P.length + vs.length ≤ p; omega))]
      rw [List.getElem?_append_right (by omega)] at hu
      refine h.1 p u ?_
      rw [List.getElem?_append_right (by omega), List.getElem?_append_right (by omega), ← hl]; exact hu
theorem Blk.put {w : World} {b o : Nat} {P R : List Value} {x : Value} (h : Blk w b (P ++ (x :: R))) (ho : P.length = o) (v : Value) : Blk (w.setCell ⟨b, o, none⟩ v) b (P ++ (v :: R)) :=
  Blk.sets (us := [x]) (vs := [v]) h ho rfl
theorem Blk.cell {w : World} {b o : Nat} {P R : List Value} {x : Value} (h : Blk w b (P ++ (x :: R))) (ho : P.length = o) : w.cell? ⟨b, o, none⟩ = some x := by
  subst ho; exact h.1 _ _ (by simp)
@[irreducible] def hload (t : TypeId) (a : Addr) : Sem Value := loadVar t a
@[irreducible] def hstore (t : TypeId) (a : Addr) (v : Value) : Sem Unit := storeVar t a v
theorem hload_of (t : TypeId) (a : Addr) : loadVar t a = hload t a := by unfold hload; rfl
theorem hstore_of (t : TypeId) (a : Addr) (v : Value) : storeVar t a v = hstore t a v := by unfold hstore; rfl
theorem loads_run {P : Program} {w : World} {b o : Nat} {us : List Value} (hc : ∀ j v, us[j]? = some v → w.cell? ⟨b, o + j, none⟩ = some v) {n : Nat} (hl : us.length = n) : (loadCells ⟨b, o, none⟩ n).run P w = .ok us.toArray w := by
  subst hl
  exact run_loadCells_list (P := P) w ⟨b, o, none⟩ us (fun j v hj => by rw [Addr.add_lit]; exact hc j v hj)
theorem hload_run {P : Program} {t : TypeId} {n : Nat} (hagg : ∀ w : World, (isAgg t).run P w = .ok true w) (hsz : ∀ w : World, (Go.sizeOf t).run P w = .ok n w) {w : World} {b o : Nat} {us : List Value} (hc : ∀ j v, us[j]? = some v → w.cell? ⟨b, o + j, none⟩ = some v) (hl : us.length = n) :
    (hload t ⟨b, o, none⟩).run P w = .ok (.agg us.toArray) w := by
  unfold hload
  simp [loadVar, hagg, hsz, loads_run hc hl, Result.andThen]
theorem hstore_run {P : Program} {t : TypeId} {n : Nat} (hsz : ∀ w : World, (Go.sizeOf t).run P w = .ok n w) {w : World} {b o : Nat} {A us vs R : List Value} (h : Blk w b (A ++ (us ++ R))) (ho : A.length = o) (hl : vs.length = us.length) (hn : vs.length = n) (h1 : ∀ v ∈ vs, v.oneCell' = true) :
    (hstore t ⟨b, o, none⟩ (.agg vs.toArray)).run P w = .ok () (w.setCells b o vs) := by
  unfold hstore
  subst ho
  have := run_storeCells_cells (P := P) b A.length vs 0 w (fun j hj => by
    rw [h.1 (A.length + 0 + j) _ (by rw [Nat.add_zero, List.getElem?_append_right (by omega), Nat.add_sub_cancel_left, List.getElem?_append_left (by omega)]; exact List.getElem?_eq_getElem (by omega))]; rfl) (fun j _ => h.2.1 _) h1
  simp [storeVar, Value.cells, hsz, hn, this, Result.andThen]
theorem Blk.part {w : World} {b o : Nat} {P us R : List Value} (h : Blk w b (P ++ (us ++ R))) (ho : P.length = o) : ∀ j v, us[j]? = some v → w.cell? ⟨b, o + j, none⟩ = some v := by
  subst ho
  intro j v hj
  have hlt := (List.getElem?_eq_some_iff.1 hj).1
  exact h.1 _ _ (by rw [List.getElem?_append_right (by omega), Nat.add_sub_cancel_left, List.getElem?_append_left hlt]; exact hj)
theorem own_set {w : World} {k : Kd} {cs : List Value} {d : Dt} {fp : List Nat} {b : Nat} (h : Own w k cs d fp) (hn : ∀ x ∈ fp, x ≠ b) (o : Nat) (v : Value) : Own (w.setCell ⟨b, o, none⟩ v) k cs d fp :=
  h.stays (by simp) (fun x hx => Below.heap_setCell _ _ _ _ (hn x hx))
theorem ownL_sets {w : World} {ks : List Kd} {cs : List Value} {ds : List Dt} {fp : List Nat} {b : Nat} (h : OwnL w ks cs ds fp) (hn : ∀ x ∈ fp, x ≠ b) (o : Nat) (vs : List Value) : OwnL (w.setCells b o vs) ks cs ds fp :=
  h.stays (by rw [size_sets]; exact Nat.le_refl _) (fun x hx => heap_sets b (hn x hx) _ _ _)
theorem own_sets {w : World} {k : Kd} {cs : List Value} {d : Dt} {fp : List Nat} {b : Nat} (h : Own w k cs d fp) (hn : ∀ x ∈ fp, x ≠ b) (o : Nat) (vs : List Value) : Own (w.setCells b o vs) k cs d fp :=
  h.stays (by rw [size_sets]; exact Nat.le_refl _) (fun x hx => heap_sets b (hn x hx) _ _ _)
theorem OwnL.under {w w' : World} {ks : List Kd} {cs : List Value} {ds : List Dt} {fp : List Nat} (h : OwnL w ks cs ds fp) (hb : Below w.heap.size w w') : OwnL w' ks cs ds fp :=
  h.stays hb.size (fun b hm => hb.block b (h.lt b hm))
theorem OwnL.turned {w w' : World} {ks : List Kd} {cs : List Value} {ds : List Dt} {fp : List Nat} {S : Nat → Prop} (h : OwnL w ks cs ds fp) (ht : Turns w w' S) (hS : ∀ b ∈ fp, ¬ S b) : OwnL w' ks cs ds fp :=
  h.stays ht.size (fun b hm => ht.block b (h.lt b hm) (hS b hm))
theorem OwnL.app {w : World} {ks' : List Kd} {cs' : List Value} {ds' : List Dt} {fp' : List Nat} (h' : OwnL w ks' cs' ds' fp') : ∀ {ks : List Kd} {cs : List Value} {ds : List Dt} {fp : List Nat}, OwnL w ks cs ds fp → OwnL w (ks ++ ks') (cs ++ cs') (ds ++ ds') (fp ++ fp')
  | _, _, _, _, .nil => h'
  | _, _, _, _, .cons h r => by rw [List.append_assoc, List.append_assoc]; exact .cons h (OwnL.app h' r)
theorem Own.alone {w : World} {k : Kd} {cs : List Value} {d : Dt} {fp : List Nat} (h : Own w k cs d fp) : OwnL w [k] cs [d] fp := by
  have := OwnL.cons h (OwnL.nil (w := w)); simpa using this
theorem OwnL.snoc {w : World} {k : Kd} {c : List Value} {d : Dt} {f : List Nat} {ks : List Kd} {cs : List Value} {ds : List Dt} {fp : List Nat} (h : OwnL w ks cs ds fp) (h' : Own w k c d f) : OwnL w (ks ++ [k]) (cs ++ c) (ds ++ [d]) (fp ++ f) := OwnL.app h'.alone h
mutual
theorem Own.one {w : World} : ∀ {k : Kd} {cs : List Value} {d : Dt} {fp : List Nat}, Own w k cs d fp → ∀ v ∈ cs, v.oneCell' = true
  | _, _, _, _, .int n, v, hv => by rw [List.mem_singleton.1 hv]; simp [Value.oneCell']
  | _, _, _, _, .str s, v, hv => by rw [List.mem_singleton.1 hv]; simp [Value.oneCell']
  | _, _, _, _, .bool b, v, hv => by rw [List.mem_singleton.1 hv]; simp [Value.oneCell']
  | _, _, _, _, .st h, v, hv => OwnL.one h v hv
  | _, _, _, _, .nil a cap, v, hv => by rw [List.mem_singleton.1 hv]; simp [Value.oneCell']
  | _, _, _, _, .sl _ _ _ _ _ _, v, hv => by rw [List.mem_singleton.1 hv]; simp [Value.oneCell']
theorem OwnL.one {w : World} : ∀ {ks : List Kd} {cs : List Value} {ds : List Dt} {fp : List Nat}, OwnL w ks cs ds fp → ∀ v ∈ cs, v.oneCell' = true
  | _, _, _, _, .nil, v, hv => by cases hv
  | _, _, _, _, .cons h r, v, hv => by
    rcases List.mem_append.1 hv with hv | hv
    · exact Own.one h v hv
    · exact OwnL.one r v hv
end
mutual
def Dt.bulk : Dt → Nat
  | .int _ => 0
  | .str s => s.size
  | .bool _ => 0
  | .st fs => bulkL fs
  | .sl es => es.length + bulkL es
def bulkL : List Dt → Nat
  | [] => 0
  | d :: r => d.bulk + bulkL r
end
mutual
def Dt.cnt : Dt → Nat
  | .int _ => 1
  | .str _ => 1
  | .bool _ => 1
  | .st fs => cntL fs
  | .sl es => cntL es
def cntL : List Dt → Nat
  | [] => 0
  | d :: r => d.cnt + cntL r
end
mutual
def Dt.mk : Dt → Nat → Dt
  | .int _, N => .int (N : Int)
  | .str _, N => .str (mt N)
  | .bool _, N => .bool (decide (N % 3 = 0))
  | .st fs, N => .st (mkL fs N)
  | .sl es, N => .sl (mkL es N)
def mkL : List Dt → Nat → List Dt
  | [], _ => []
  | d :: r, N => d.mk N :: mkL r (N + d.cnt)
end
mutual
def Dt.cnt0 : Dt → Nat
  | .int _ => 0
  | .str _ => 0
  | .bool _ => 0
  | .st fs => cnt0L fs
  | .sl es => cntL es
def cnt0L : List Dt → Nat
  | [] => 0
  | d :: r => d.cnt0 + cnt0L r
end
mutual
def Dt.mk0 : Dt → Nat → Dt
  | .int n, _ => .int n
  | .str s, _ => .str s
  | .bool b, _ => .bool b
  | .st fs, N => .st (mk0L fs N)
  | .sl es, N => .sl (mkL es N)
def mk0L : List Dt → Nat → List Dt
  | [], _ => []
  | d :: r, N => d.mk0 N :: mk0L r (N + d.cnt0)
end
theorem mkL_length : ∀ (es : List Dt) (N : Nat), (mkL es N).length = es.length
  | [], _ => rfl
  | d :: r, N => by simp [mkL, mkL_length r]
theorem cntL_app : ∀ (a b : List Dt), cntL (a ++ b) = cntL a + cntL b
  | [], b => by simp [cntL]
  | d :: r, b => by simp [cntL, cntL_app r b, Nat.add_assoc]
theorem bulkL_app : ∀ (a b : List Dt), bulkL (a ++ b) = bulkL a + bulkL b
  | [], b => by simp [bulkL]
  | d :: r, b => by simp [bulkL, bulkL_app r b, Nat.add_assoc]
theorem mkL_app : ∀ (a b : List Dt) (N : Nat), mkL (a ++ b) N = mkL a N ++ mkL b (N + cntL a)
  | [], b, N => by simp [mkL, cntL]
  | d :: r, b, N => by simp [mkL, cntL, mkL_app r b, Nat.add_assoc]
theorem rows_of_part {w : World} {e : Kd} {g : Nat} : ∀ {ks : List Kd} {P : List Value} {ds : List Dt} {fp : List Nat}, OwnL w ks P ds fp → (∀ k ∈ ks, k = e) → ∀ o, (∀ j u, P[j]? = some u → w.cell? ⟨g, o + j, none⟩ = some u) → Rows w e g o ds fp
  | _, _, _, _, .nil, _, _, _ => .nil
  | _, _, _, _, .cons (k := k) (cs := cs) h r, hk, o, hc => by
    obtain rfl : k = e := hk k List.mem_cons_self
    have hl := h.len
    refine .cons (fun j u hu => hc j u (by rw [List.getElem?_append_left (List.getElem?_eq_some_iff.1 hu).1]; exact hu)) h (rows_of_part r (fun k' hk' => hk k' (List.mem_cons_of_mem _ hk')) (o + k.sz) (fun j u hu => ?_))
    have := hc (cs.length + j) u (by rw [List.getElem?_append_right (by omega), Nat.add_sub_cancel_left]; exact hu)
    rw [hl] at this
    rw [Nat.add_assoc]; exact this
theorem part_of_rows {w : World} {e : Kd} {g : Nat} : ∀ {o : Nat} {ds : List Dt} {fp : List Nat}, Rows w e g o ds fp → ∃ P, P.length = ds.length * e.sz ∧ OwnL w (List.replicate ds.length e) P ds fp ∧ ∀ j u, P[j]? = some u → w.cell? ⟨g, o + j, none⟩ = some u
  | _, _, _, .nil => ⟨[], by simp, .nil, fun j u hu => by simp at hu⟩
  | _, _, _, .cons (cs := cs) hc h r => by
    obtain ⟨P, hl, ho, hp⟩ := part_of_rows r
    have hcl := h.len
    refine ⟨cs ++ P, by simp [hl, hcl, Nat.succ_mul, Nat.add_comm], .cons h ho, fun j u hu => ?_⟩
    by_cases hj : j < cs.length
    · rw [List.getElem?_append_left hj] at hu; exact hc j u hu
    · rw [List.getElem?_append_right (by omega)] at hu
      have := hp _ u hu
      rw [Nat.add_assoc, show e.sz + (j - cs.length) = j by omega] at this
      exact this
theorem Own.sl_is {w : World} {e : Kd} {v : Value} {d : Dt} {fp : List Nat} (h : Own w (.sl e) [v] d fp) :
    (∃ a cap, v = .slice a 0 cap ∧ d = .sl [] ∧ fp = []) ∨
    ∃ g n cap es P fq, v = .slice (some ⟨g, 0, none⟩) n cap ∧ d = .sl es ∧ fp = g :: fq ∧ es.length = n ∧ n ≠ 0 ∧ n ≤ cap ∧ P.length = n * e.sz ∧ OwnL w (List.replicate n e) P es fq ∧ Blk w g P := by
  cases h with
  | nil a cap => exact .inl ⟨a, cap, rfl, rfl, rfl⟩
  | @sl _ g n cap es fq hl hn hnc hg hf hr =>
    obtain ⟨P, hpl, ho, hp⟩ := part_of_rows hr
    rw [hl] at hpl ho
    exact .inr ⟨g, n, cap, es, P, fq, rfl, rfl, rfl, hl, hn, hnc, hpl, ho, fun o v hv => by have := hp o v hv; rwa [Nat.zero_add] at this, hf, hg⟩
theorem own_sl {w : World} {e : Kd} {g n cap : Nat} {P : List Value} {ks : List Kd} {es : List Dt} {fq : List Nat} (hb : Blk w g P) (ho : OwnL w ks P es fq) (hk : ∀ k ∈ ks, k = e) (hl : es.length = n) (hn : n ≠ 0) (hc : n ≤ cap) : Own w (.sl e) [.slice (some ⟨g, 0, none⟩) n cap] (.sl es) (g :: fq) :=
  .sl hl hn hc hb.2.2 hb.2.1 (rows_of_part ho hk 0 (fun j u hu => by rw [Nat.zero_add]; exact hb.1 j u hu))
end Go.Proofs.Ytbdjnfnphilklaa.Own
namespace Go.Proofs.Ytbdjnfnphilklaa.Own
open Go.ChangeShapes Go.WideShapes Go.ChangeAt Go.RowKit
open Kit Slabs
open Marking (mt)
open Recs (FK IsRecs)
set_option linter.unusedVariables false
set_option linter.unusedSimpArgs false
set_option linter.unnecessarySimpa false
mutual
def Dt.cells : Dt → List Value
  | .int n => [.int .i64 n]
  | .str s => [.string s]
  | .bool b => [.bool b]
  | .st fs => cellsL fs
  | .sl _ => []
def cellsL : List Dt → List Value
  | [] => []
  | d :: r => d.cells ++ cellsL r
end
mutual
def Kd.flat : Kd → Bool
  | .int => true
  | .str => true
  | .bool => true
  | .st ks => flatL ks
  | .sl _ => false
def flatL : List Kd → Bool
  | [] => true
  | k :: r => k.flat && flatL r
end
mutual
theorem Own.flat {w : World} : ∀ {k : Kd} {cs : List Value} {d : Dt} {fp : List Nat}, k.flat = true → Own w k cs d fp → cs = d.cells ∧ fp = [] ∧ ∀ w', Own w' k cs d fp
  | _, _, _, _, _, .int n => ⟨rfl, rfl, fun w' => .int n⟩
  | _, _, _, _, _, .str s => ⟨rfl, rfl, fun w' => .str s⟩
  | _, _, _, _, _, .bool b => ⟨rfl, rfl, fun w' => .bool b⟩
  | .st ks, _, _, _, h, .st ho => by
    obtain ⟨h1, h2, h3⟩ := OwnL.flat (ks := ks) h ho
    exact ⟨by simp only [Dt.cells]; exact h1, h2, fun w' => .st (h3 w')⟩
  | _, _, _, _, h, .nil a cap => by simp [Kd.flat] at h
  | _, _, _, _, h, .sl _ _ _ _ _ _ => by simp [Kd.flat] at h
theorem OwnL.flat {w : World} : ∀ {ks : List Kd} {cs : List Value} {ds : List Dt} {fp : List Nat}, flatL ks = true → OwnL w ks cs ds fp → cs = cellsL ds ∧ fp = [] ∧ ∀ w', OwnL w' ks cs ds fp
  | _, _, _, _, _, .nil => ⟨rfl, rfl, fun w' => .nil⟩
  | k :: ks, _, _, _, h, .cons ho hr => by
    simp only [flatL, Bool.and_eq_true] at h
    obtain ⟨h1, h2, h3⟩ := Own.flat (k := k) h.1 ho
    obtain ⟨g1, g2, g3⟩ := OwnL.flat (ks := ks) h.2 hr
    exact ⟨by simp only [cellsL]; rw [← h1, ← g1], by rw [h2, g2]; rfl, fun w' => .cons (h3 w') (g3 w')⟩
end
mutual
theorem Came.flat {w : World} : ∀ {k : Kd} {cs : List Value} {d : Dt}, k.flat = true → Came w k cs d → cs = d.cells ∧ ∀ w', Own w' k cs d []
  | _, _, _, _, .int n _ => ⟨rfl, fun w' => .int n⟩
  | _, _, _, _, .str s _ => ⟨rfl, fun w' => .str s⟩
  | _, _, _, _, .bool b => ⟨rfl, fun w' => .bool b⟩
  | .st ks, _, _, h, .st ho => by
    obtain ⟨h1, h3⟩ := CameL.flat (ks := ks) h ho
    exact ⟨by simp only [Dt.cells]; exact h1, fun w' => .st (h3 w')⟩
  | _, _, _, h, .nil a cap _ => by simp [Kd.flat] at h
  | _, _, _, h, .sl _ _ _ _ _ _ => by simp [Kd.flat] at h
theorem CameL.flat {w : World} : ∀ {ks : List Kd} {cs : List Value} {ds : List Dt}, flatL ks = true → CameL w ks cs ds → cs = cellsL ds ∧ ∀ w', OwnL w' ks cs ds []
  | _, _, _, _, .nil => ⟨rfl, fun w' => .nil⟩
  | k :: ks, _, _, h, .cons ho hr => by
    simp only [flatL, Bool.and_eq_true] at h
    obtain ⟨h1, h3⟩ := Came.flat (k := k) h.1 ho
    obtain ⟨g1, g3⟩ := CameL.flat (ks := ks) h.2 hr
    exact ⟨by simp only [cellsL]; rw [← h1, ← g1], fun w' => .cons (fp := []) (fp' := []) (h3 w') (g3 w')⟩
end
def at_ (es : List Dt) (i : Nat) : Dt := es.getD i (.int 0)
theorem at_eq {es : List Dt} {i : Nat} (h : i < es.length) : at_ es i = es[i] := by simp [at_, List.getD, List.getElem?_eq_getElem h]
theorem rows_flat_fp {w : World} {e : Kd} (he : e.flat = true) {g : Nat} : ∀ {o : Nat} {ds : List Dt} {fp : List Nat}, Rows w e g o ds fp → fp = []
  | _, _, _, .nil => rfl
  | _, _, _, .cons hc hd r => by rw [rows_flat_fp he r, (hd.flat he).2.1]; rfl
theorem slab_of_own {w : World} {e : Kd} (he : e.flat = true) {v : Value} {es : List Dt} {fp : List Nat} (h : Own w (.sl e) [v] (.sl es) fp) {B : Nat} (hB : ∀ b ∈ fp, B ≤ b) :
    Slab w B v es.length e.sz (fun i => (at_ es i).cells) ∧ fp = (rowOf es.length v).toList ∧ ∀ i, i < es.length → Own w e (at_ es i).cells (at_ es i) [] := by
  cases h with
  | nil a cap => exact ⟨⟨a, cap, rfl, Nat.zero_le _, .inl rfl⟩, by simp [rowOf], fun i hi => by simp at hi⟩
  | @sl _ g n cap es fp hl hn hnc hg hf hr =>
    have key : ∀ i (h : i < es.length), Own w e (at_ es i).cells (at_ es i) [] ∧ ∀ j u, (at_ es i).cells[j]? = some u → w.cell? ⟨g, i * e.sz + j, none⟩ = some u := by
      intro i hi
      obtain ⟨cs, fpi, h1, _, h3⟩ := rows_at hr i hi
      rw [at_eq hi]
      obtain ⟨e1, e2, _⟩ := h1.flat he
      rw [e1, e2] at h1
      rw [e1] at h3
      exact ⟨h1, fun j u hu => by have := h3 j u hu; rwa [Nat.zero_add] at this⟩
    refine ⟨⟨_, cap, by rw [hl], by omega, .inr ⟨g, rfl, hB g (by simp), hg, hf, fun i hi j u hu => (key i hi).2 j u hu⟩⟩, ?_, fun i hi => (key i hi).1⟩
    rw [rows_flat_fp he hr]
    have hne : ¬ es.length = 0 := by omega
    simp [rowOf, hne, Value.ownBlock]
theorem map_at (es : List Dt) : (List.range es.length).map (at_ es) = es := by
  apply List.ext_getElem
  · simp
  · intro i h1 h2
    simp [at_eq h2]
theorem own_of_at {w : World} {B n : Nat} {v : Value} {F : Nat → List Value} {e : Kd} {es : List Dt} (h : Slab w B v n e.sz F) (hn : es.length = n) (hF : ∀ i, i < n → Own w e (F i) (at_ es i) []) : Own w (.sl e) [v] (.sl es) (rowOf n v).toList := by
  have := own_of_slab (D := at_ es) h rfl hF
  rw [← hn] at this ⊢
  rwa [map_at] at this
end Go.Proofs.Ytbdjnfnphilklaa.Own
