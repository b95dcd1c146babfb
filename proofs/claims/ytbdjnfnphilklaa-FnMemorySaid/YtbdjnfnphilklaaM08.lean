/-
  Texts of this seat, laid together: Nest
-/
import Derived.Test.YtbdjnfnphilklaaM07
namespace Go.Proofs.Ytbdjnfnphilklaa.Own
open Go.ChangeShapes Go.WideShapes Go.ChangeAt Go.RowKit
open Kit Slabs
set_option linter.unusedVariables false
set_option linter.unusedSimpArgs false
set_option linter.unnecessarySimpa false
mutual
def Kd.fl : Kd → Kd
  | .int => .int
  | .str => .str
  | .bool => .bool
  | .st ks => .st (lvL ks)
  | .sl e => .sl e.fl
def Kd.lv : Kd → List Kd
  | .int => [.int]
  | .str => [.str]
  | .bool => [.bool]
  | .st ks => lvL ks
  | .sl e => [.sl e.fl]
def lvL : List Kd → List Kd
  | [] => []
  | k :: r => k.lv ++ lvL r
end
theorem szL_app : ∀ a b : List Kd, szL (a ++ b) = szL a + szL b
  | [], b => by simp [szL]
  | k :: r, b => by simp [szL, szL_app r b, Nat.add_assoc]
mutual
theorem sz_lv : ∀ k : Kd, szL k.lv = k.sz
  | .int => rfl
  | .str => rfl
  | .bool => rfl
  | .st ks => by simp only [Kd.lv, Kd.sz]; exact szL_lv ks
  | .sl e => rfl
theorem szL_lv : ∀ ks : List Kd, szL (lvL ks) = szL ks
  | [] => rfl
  | k :: r => by simp only [lvL, szL]; rw [szL_app, sz_lv k, szL_lv r]
end
theorem sz_fl (k : Kd) : k.fl.sz = k.sz := by
  cases k <;> simp only [Kd.fl, Kd.sz]
  exact szL_lv _
theorem CameL.app {w : World} {ks' : List Kd} {cs' : List Value} {ds' : List Dt} (h' : CameL w ks' cs' ds') : ∀ {ks : List Kd} {cs : List Value} {ds : List Dt}, CameL w ks cs ds → CameL w (ks ++ ks') (cs ++ cs') (ds ++ ds')
  | _, _, _, .nil => h'
  | _, _, _, .cons h r => by rw [List.append_assoc]; exact .cons h (CameL.app h' r)
theorem Came.alone {w : World} {k : Kd} {cs : List Value} {d : Dt} (h : Came w k cs d) : CameL w [k] cs [d] := by
  have := CameL.cons h (CameL.nil (w := w)); simpa using this
mutual
theorem Came.leaves {w : World} : ∀ {k : Kd} {cs : List Value} {d : Dt}, Came w k cs d → ∃ ds, CameL w k.lv cs ds
  | _, _, _, .int n h => ⟨_, (Came.int n h).alone⟩
  | _, _, _, .str s h => ⟨_, (Came.str s h).alone⟩
  | _, _, _, .bool b => ⟨_, (Came.bool b).alone⟩
  | _, _, _, .st h => by
    obtain ⟨ds, hd⟩ := CameL.leaves h
    exact ⟨ds, hd⟩
  | _, _, _, .nil a cap h => ⟨_, (Came.nil a cap h).alone⟩
  | _, _, _, .sl h1 h2 h3 h4 h5 h6 => by
    obtain ⟨ds, hl, hr⟩ := CameR.leaves h6
    exact ⟨_, (Came.sl (hl.trans h1) h2 h3 h4 h5 hr).alone⟩
theorem CameL.leaves {w : World} : ∀ {ks : List Kd} {cs : List Value} {ds : List Dt}, CameL w ks cs ds → ∃ ds', CameL w (lvL ks) cs ds'
  | _, _, _, .nil => ⟨[], .nil⟩
  | _, _, _, .cons h r => by
    obtain ⟨d1, h1⟩ := Came.leaves h
    obtain ⟨d2, h2⟩ := CameL.leaves r
    exact ⟨d1 ++ d2, CameL.app h2 h1⟩
theorem CameR.leaves {w : World} : ∀ {e : Kd} {g o : Nat} {ds : List Dt}, CameR w e g o ds → ∃ ds', ds'.length = ds.length ∧ CameR w e.fl g o ds'
  | _, _, _, _, .nil => ⟨[], rfl, .nil⟩
  | e, _, _, _, .cons hc h r => by
    obtain ⟨d2, hl, h2⟩ := CameR.leaves r
    obtain ⟨d1, h1⟩ : ∃ d, Came w e.fl _ d := by
      obtain ⟨ds, hd⟩ := Came.leaves h
      cases e with
      | int => exact ⟨_, h⟩
      | str => exact ⟨_, h⟩
      | bool => exact ⟨_, h⟩
      | st ks => exact ⟨_, .st hd⟩
      | sl e =>
        cases hd with
        | cons h1 h2 => cases h2; exact ⟨_, by simp only [Kd.fl, List.append_nil]; exact h1⟩
    exact ⟨d1 :: d2, by simp [hl], .cons hc h1 (by rw [sz_fl]; exact h2)⟩
end
theorem Came.flatten {w : World} {k : Kd} {cs : List Value} {d : Dt} (h : Came w k cs d) : ∃ d', Came w k.fl cs d' := by
  obtain ⟨ds, hd⟩ := h.leaves
  cases k with
  | int => exact ⟨_, h⟩
  | str => exact ⟨_, h⟩
  | bool => exact ⟨_, h⟩
  | st ks => exact ⟨_, .st hd⟩
  | sl e =>
    cases hd with
    | cons h1 h2 => cases h2; exact ⟨_, by simp only [Kd.fl, List.append_nil]; exact h1⟩
/-! ### Heads -/
theorem OwnL.int {w : World} {ks : List Kd} {cs : List Value} {ds : List Dt} {fp : List Nat} (h : OwnL w (.int :: ks) cs ds fp) : ∃ q cs' ds', cs = .int .i64 q :: cs' ∧ ds = .int q :: ds' ∧ OwnL w ks cs' ds' fp := by
  cases h with
  | cons h r => cases h; exact ⟨_, _, _, rfl, rfl, r⟩
theorem OwnL.str {w : World} {ks : List Kd} {cs : List Value} {ds : List Dt} {fp : List Nat} (h : OwnL w (.str :: ks) cs ds fp) : ∃ q cs' ds', cs = .string q :: cs' ∧ ds = .str q :: ds' ∧ OwnL w ks cs' ds' fp := by
  cases h with
  | cons h r => cases h; exact ⟨_, _, _, rfl, rfl, r⟩
theorem OwnL.bool {w : World} {ks : List Kd} {cs : List Value} {ds : List Dt} {fp : List Nat} (h : OwnL w (.bool :: ks) cs ds fp) : ∃ q cs' ds', cs = .bool q :: cs' ∧ ds = .bool q :: ds' ∧ OwnL w ks cs' ds' fp := by
  cases h with
  | cons h r => cases h; exact ⟨_, _, _, rfl, rfl, r⟩
theorem OwnL.sl {w : World} {e : Kd} {ks : List Kd} {cs : List Value} {ds : List Dt} {fp : List Nat} (h : OwnL w (.sl e :: ks) cs ds fp) : ∃ a c es f cs' ds' fp', cs = .slice a es.length c :: cs' ∧ ds = .sl es :: ds' ∧ fp = f ++ fp' ∧ Own w (.sl e) [.slice a es.length c] (.sl es) f ∧ OwnL w ks cs' ds' fp' := by
  cases h with
  | cons h r =>
    cases h with
    | nil a c => exact ⟨_, _, [], _, _, _, _, rfl, rfl, rfl, .nil a c, r⟩
    | sl h1 h2 h3 h4 h5 h6 => subst h1; exact ⟨_, _, _, _, _, _, _, rfl, rfl, rfl, .sl rfl h2 h3 h4 h5 h6, r⟩
theorem OwnL.end_ {w : World} {cs : List Value} {ds : List Dt} {fp : List Nat} (h : OwnL w [] cs ds fp) : cs = [] ∧ ds = [] ∧ fp = [] := by cases h; exact ⟨rfl, rfl, rfl⟩
theorem CameL.int {w : World} {ks : List Kd} {cs : List Value} {ds : List Dt} (h : CameL w (.int :: ks) cs ds) : ∃ q cs' ds', cs = .int .i64 q :: cs' ∧ ds = .int q :: ds' ∧ (Lit.int .i64 q).wf = true ∧ CameL w ks cs' ds' := by
  cases h with
  | cons h r => cases h with | int n hw => exact ⟨_, _, _, rfl, rfl, hw, r⟩
theorem CameL.str {w : World} {ks : List Kd} {cs : List Value} {ds : List Dt} (h : CameL w (.str :: ks) cs ds) : ∃ q cs' ds', cs = .string q :: cs' ∧ ds = .str q :: ds' ∧ q.size ≤ maxLen ∧ CameL w ks cs' ds' := by
  cases h with
  | cons h r => cases h with | str n hw => exact ⟨_, _, _, rfl, rfl, hw, r⟩
theorem CameL.bool {w : World} {ks : List Kd} {cs : List Value} {ds : List Dt} (h : CameL w (.bool :: ks) cs ds) : ∃ q cs' ds', cs = .bool q :: cs' ∧ ds = .bool q :: ds' ∧ CameL w ks cs' ds' := by
  cases h with
  | cons h r => cases h with | bool b => exact ⟨_, _, _, rfl, rfl, r⟩
theorem CameL.sl {w : World} {e : Kd} {ks : List Kd} {cs : List Value} {ds : List Dt} (h : CameL w (.sl e :: ks) cs ds) : ∃ a c es cs' ds', cs = .slice a es.length c :: cs' ∧ ds = .sl es :: ds' ∧ es.length ≤ maxLen ∧ Came w (.sl e) [.slice a es.length c] (.sl es) ∧ CameL w ks cs' ds' := by
  cases h with
  | cons h r =>
    cases h with
    | nil a c hc => exact ⟨_, _, [], _, _, rfl, rfl, Nat.zero_le _, .nil a c hc, r⟩
    | sl h1 h2 h3 h4 h5 h6 => subst h1; exact ⟨_, _, _, _, _, rfl, rfl, Nat.le_trans h3 h4, .sl rfl h2 h3 h4 h5 h6, r⟩
theorem CameL.end_ {w : World} {cs : List Value} {ds : List Dt} (h : CameL w [] cs ds) : cs = [] ∧ ds = [] := by cases h; exact ⟨rfl, rfl⟩
/-! ### Parts -/
theorem OwnL.dlen {w : World} : ∀ {ks : List Kd} {cs : List Value} {ds : List Dt} {fp : List Nat}, OwnL w ks cs ds fp → ds.length = ks.length
  | _, _, _, _, .nil => rfl
  | _, _, _, _, .cons h r => by simp [OwnL.dlen r]
theorem CameL.dlen {w : World} : ∀ {ks : List Kd} {cs : List Value} {ds : List Dt}, CameL w ks cs ds → ds.length = ks.length
  | _, _, _, .nil => rfl
  | _, _, _, .cons h r => by simp [CameL.dlen r]
theorem OwnL.split {w : World} : ∀ (ks1 : List Kd) {ks2 : List Kd} {cs : List Value} {ds : List Dt} {fp : List Nat}, OwnL w (ks1 ++ ks2) cs ds fp → ∃ cs1 cs2 ds1 ds2 f1 f2, cs = cs1 ++ cs2 ∧ ds = ds1 ++ ds2 ∧ fp = f1 ++ f2 ∧ OwnL w ks1 cs1 ds1 f1 ∧ OwnL w ks2 cs2 ds2 f2
  | [], _, _, _, _, h => ⟨[], _, [], _, [], _, rfl, rfl, rfl, .nil, h⟩
  | k :: r, _, _, _, _, .cons (cs := c) (d := d) (fp := f) h h2 => by
    obtain ⟨cs1, cs2, ds1, ds2, f1, f2, rfl, rfl, rfl, o1, o2⟩ := OwnL.split r h2
    exact ⟨c ++ cs1, cs2, d :: ds1, ds2, f ++ f1, f2, by simp, by simp, by simp, .cons h o1, o2⟩
theorem CameL.split {w : World} : ∀ (ks1 : List Kd) {ks2 : List Kd} {cs : List Value} {ds : List Dt}, CameL w (ks1 ++ ks2) cs ds → ∃ cs1 cs2 ds1 ds2, cs = cs1 ++ cs2 ∧ ds = ds1 ++ ds2 ∧ CameL w ks1 cs1 ds1 ∧ CameL w ks2 cs2 ds2
  | [], _, _, _, h => ⟨[], _, [], _, rfl, rfl, .nil, h⟩
  | k :: r, _, _, _, .cons (cs := c) (d := d) h h2 => by
    obtain ⟨cs1, cs2, ds1, ds2, rfl, rfl, o1, o2⟩ := CameL.split r h2
    exact ⟨c ++ cs1, cs2, d :: ds1, ds2, by simp, by simp, .cons h o1, o2⟩
theorem OwnL.split_at {w : World} {ks1 ks2 : List Kd} {cs : List Value} {ds1 ds2 : List Dt} {fp : List Nat} (h : OwnL w (ks1 ++ ks2) cs (ds1 ++ ds2) fp) (hl : ds1.length = ks1.length) : ∃ cs1 cs2 f1 f2, cs = cs1 ++ cs2 ∧ fp = f1 ++ f2 ∧ OwnL w ks1 cs1 ds1 f1 ∧ OwnL w ks2 cs2 ds2 f2 := by
  obtain ⟨cs1, cs2, e1, e2, f1, f2, rfl, he, rfl, o1, o2⟩ := OwnL.split ks1 h
  obtain ⟨rfl, rfl⟩ := List.append_inj he (hl.trans o1.dlen.symm)
  exact ⟨cs1, cs2, f1, f2, rfl, rfl, o1, o2⟩
/-! ### Heads, the datum known -/
theorem OwnL.int_ {w : World} {ks : List Kd} {cs : List Value} {q : Int} {ds : List Dt} {fp : List Nat} (h : OwnL w (.int :: ks) cs (.int q :: ds) fp) : ∃ cs', cs = .int .i64 q :: cs' ∧ OwnL w ks cs' ds fp := by
  cases h with
  | cons h r => cases h; exact ⟨_, rfl, r⟩
theorem OwnL.str_ {w : World} {ks : List Kd} {cs : List Value} {q : ByteArray} {ds : List Dt} {fp : List Nat} (h : OwnL w (.str :: ks) cs (.str q :: ds) fp) : ∃ cs', cs = .string q :: cs' ∧ OwnL w ks cs' ds fp := by
  cases h with
  | cons h r => cases h; exact ⟨_, rfl, r⟩
theorem OwnL.bool_ {w : World} {ks : List Kd} {cs : List Value} {q : Bool} {ds : List Dt} {fp : List Nat} (h : OwnL w (.bool :: ks) cs (.bool q :: ds) fp) : ∃ cs', cs = .bool q :: cs' ∧ OwnL w ks cs' ds fp := by
  cases h with
  | cons h r => cases h; exact ⟨_, rfl, r⟩
theorem OwnL.sl_ {w : World} {e : Kd} {ks : List Kd} {cs : List Value} {es : List Dt} {ds : List Dt} {fp : List Nat} (h : OwnL w (.sl e :: ks) cs (.sl es :: ds) fp) : ∃ a c f cs' fp', cs = .slice a es.length c :: cs' ∧ fp = f ++ fp' ∧ Own w (.sl e) [.slice a es.length c] (.sl es) f ∧ OwnL w ks cs' ds fp' := by
  cases h with
  | cons h r =>
    cases h with
    | nil a c => exact ⟨_, _, _, _, _, rfl, rfl, .nil a c, r⟩
    | sl h1 h2 h3 h4 h5 h6 => subst h1; exact ⟨_, _, _, _, _, rfl, rfl, .sl rfl h2 h3 h4 h5 h6, r⟩
/-! ### Elements -/
theorem Own.elt {w : World} {ks : List Kd} {g n cap : Nat} {o : Nat} {es : List Dt} {fp : List Nat} (h : Own w (.sl (.st ks)) [.slice (some ⟨g, o, none⟩) n cap] (.sl es) fp) {i : Nat} (hi : i < es.length) :
    g < w.heap.size ∧ o = 0 ∧ ∃ cs ds fq, es[i] = .st ds ∧ OwnL w ks cs ds fq ∧ cs.length = szL ks ∧ (∀ b ∈ fq, b ∈ fp) ∧ ∀ W, Below w.heap.size w W → ∀ j u, cs[j]? = some u → W.cell? ⟨g, i * szL ks + j, none⟩ = some u := by
  cases h with
  | nil a cap => simp at hi
  | sl h1 h2 h3 h4 h5 h6 =>
    obtain ⟨cs, fq, o1, o2, o3⟩ := rows_at h6 i hi
    generalize hd : es[i] = d at *
    cases o1 with
    | st o1 =>
      refine ⟨h4, rfl, cs, _, fq, rfl, o1, o1.len, fun b hb => List.mem_cons_of_mem _ (o2 b hb), fun W hW j u hu => ?_⟩
      have := o3 j u hu
      rw [Nat.zero_add] at this
      exact (hW.cell (p := ⟨g, _, none⟩) h4).trans this
theorem Came.elt {w : World} {ks : List Kd} {g o n cap : Nat} {es : List Dt} (h : Came w (.sl (.st ks)) [.slice (some ⟨g, o, none⟩) n cap] (.sl es)) {i : Nat} (hi : i < es.length) :
    g < w.heap.size ∧ ∃ cs ds, es[i] = .st ds ∧ CameL w ks cs ds ∧ cs.length = szL ks ∧ ∀ W, Below w.heap.size w W → ∀ j u, cs[j]? = some u → W.cell? ⟨g, o + i * szL ks + j, none⟩ = some u := by
  cases h with
  | nil a cap => simp at hi
  | sl h1 h2 h3 h4 h5 h6 =>
    obtain ⟨cs, o1, o3⟩ := camer_at h6 i hi
    generalize hd : es[i] = d at *
    cases o1 with
    | st o1 => exact ⟨h5, cs, _, rfl, o1, o1.len, fun W hW j u hu => (hW.cell (p := ⟨g, _, none⟩) h5).trans (o3 j u hu)⟩
theorem Own.row {w : World} {e : Kd} {a : Option Addr} {n cap : Nat} {es : List Dt} {fp : List Nat} (h : Own w (.sl e) [.slice a n cap] (.sl es) fp) : es.length = n ∧ (n ≠ 0 → ∃ g, a = some ⟨g, 0, none⟩ ∧ g ∈ fp) := by
  cases h with
  | nil a cap => exact ⟨rfl, fun h => absurd rfl h⟩
  | sl h1 h2 h3 h4 h5 h6 => exact ⟨h1, fun _ => ⟨_, rfl, List.mem_cons_self⟩⟩
theorem Came.row {w : World} {e : Kd} {a : Option Addr} {n cap : Nat} {es : List Dt} (h : Came w (.sl e) [.slice a n cap] (.sl es)) : es.length = n ∧ (n ≠ 0 → ∃ g o, a = some ⟨g, o, none⟩ ∧ g < w.heap.size) := by
  cases h with
  | nil a cap => exact ⟨rfl, fun h => absurd rfl h⟩
  | sl h1 h2 h3 h4 h5 h6 => exact ⟨h1, fun _ => ⟨_, _, rfl, h5⟩⟩
theorem take_bulk {es : List Dt} {i : Nat} (h : i < es.length) : bulkL (es.take (i + 1)) = bulkL (es.take i) + es[i].bulk := by
  rw [List.take_succ_eq_append_getElem h, bulkL_app]; simp [bulkL]
theorem bulk_parts (es : List Dt) (i : Nat) : bulkL es = bulkL (es.take i) + bulkL (es.drop i) := by
  rw [← bulkL_app, List.take_append_drop]
theorem bulk0_int {w : World} {g : Nat} : ∀ {o : Nat} {ds : List Dt}, CameR w .int g o ds → bulkL ds = 0
  | _, _, .nil => rfl
  | _, _, .cons _ h r => by cases h; simp [bulkL, Dt.bulk, bulk0_int r]
theorem bulk0_ints {w : World} {a : Option Addr} {n c : Nat} {es : List Dt} (h : Came w (.sl .int) [.slice a n c] (.sl es)) : bulkL es = 0 := by
  cases h with
  | nil a c => rfl
  | sl _ _ _ _ _ h => exact bulk0_int h
theorem bulk_elt {es : List Dt} {i : Nat} (h : i < es.length) : es[i].bulk ≤ bulkL es := by
  induction es generalizing i with
  | nil => simp at h
  | cons d r ih =>
    cases i with
    | zero => simp [bulkL]
    | succ i => have := ih (i := i) (by simpa using h); simp only [List.getElem_cons_succ, bulkL]; omega
/-! ### Marks -/
theorem Blk.turned {w w' : World} {b : Nat} {vs : List Value} {S : Nat → Prop} (h : Blk w b vs) (ht : Turns w w' S) (hb : ¬ S b) : Blk w' b vs := by
  have hh := ht.block b h.2.2 hb
  exact ⟨fun o v hv => (World.cell?_of_block (w := w) (a := ⟨b, o, none⟩) hh).trans (h.1 o v hv), fun o => (World.frozen?_of_block (w := w) (a := ⟨b, o, none⟩) hh).trans (h.2.1 o), Nat.lt_of_lt_of_le h.2.2 ht.size⟩
theorem Turns.of_below {w w' : World} {S : Nat → Prop} (h : Below w.heap.size w w') : Turns w w' S := ⟨h.os, h.tape, h.output, h.size, fun k hk _ => h.block k hk⟩
theorem nodup_parts {a b : List Nat} (h : (a ++ b).Nodup) : a.Nodup ∧ b.Nodup ∧ ∀ x ∈ a, x ∉ b := by
  obtain ⟨h1, h2, h3⟩ := List.nodup_append.1 h
  exact ⟨h1, h2, fun x hx hb => h3 x hx x hb rfl⟩
theorem cnt0L_app : ∀ (a b : List Dt), cnt0L (a ++ b) = cnt0L a + cnt0L b
  | [], b => by simp [cnt0L]
  | d :: r, b => by simp [cnt0L, cnt0L_app r b, Nat.add_assoc]
theorem mk0L_app : ∀ (a b : List Dt) (N : Nat), mk0L (a ++ b) N = mk0L a N ++ mk0L b (N + cnt0L a)
  | [], b, N => by simp [mk0L, cnt0L]
  | d :: r, b, N => by simp [mk0L, cnt0L, mk0L_app r b, Nat.add_assoc]
theorem mk0L_length : ∀ (es : List Dt) (N : Nat), (mk0L es N).length = es.length
  | [], _ => rfl
  | d :: r, N => by simp [mk0L, mk0L_length r]
theorem take_cnt {es : List Dt} {i : Nat} (h : i < es.length) : cntL (es.take (i + 1)) = cntL (es.take i) + es[i].cnt := by
  rw [List.take_succ_eq_append_getElem h, cntL_app]; simp [cntL]
theorem cnt_parts (es : List Dt) (i : Nat) : cntL es = cntL (es.take i) + cntL (es.drop i) := by
  rw [← cntL_app, List.take_append_drop]
theorem mk_elt : ∀ {es : List Dt} {N i : Nat} (h : i < es.length), (mkL es N)[i]'(by rw [mkL_length]; exact h) = es[i].mk (N + cntL (es.take i))
  | d :: r, N, 0, h => by simp [mkL, cntL]
  | d :: r, N, i + 1, h => by
    simp only [mkL, List.getElem_cons_succ, List.take_succ_cons, cntL]
    rw [mk_elt (es := r) (by simpa using h), Nat.add_assoc]
theorem ownL_set {w : World} {ks : List Kd} {cs : List Value} {ds : List Dt} {fp : List Nat} {b : Nat} (h : OwnL w ks cs ds fp) (hn : b ∉ fp) (o : Nat) (v : Value) : OwnL (w.setCell ⟨b, o, none⟩ v) ks cs ds fp :=
  h.stays (by simp) (fun x hx => Below.heap_setCell _ _ _ _ (fun e => hn (by have e' : x = b := e; rw [← e']; exact hx)))
theorem own_setN {w : World} {k : Kd} {cs : List Value} {d : Dt} {fp : List Nat} {b : Nat} (h : Own w k cs d fp) (hn : b ∉ fp) (o : Nat) (v : Value) : Own (w.setCell ⟨b, o, none⟩ v) k cs d fp :=
  own_set h (fun x hx e => hn (by rw [← e]; exact hx)) o v
theorem turns_set {w w' : World} {S : Nat → Prop} {b : Nat} (h : Turns w w' S) (hS : S b) (o : Nat) (v : Value) : Turns w (w'.setCell ⟨b, o, none⟩ v) S := by
  refine h.trans ?_
  have hb := (Below.refl 0 w').setCell (p := ⟨b, o, none⟩) (Nat.zero_le _) v
  exact ⟨hb.os, hb.tape, hb.output, hb.size, fun k hk hn => Below.heap_setCell _ _ _ _ (fun e => hn (by rw [e]; exact hS))⟩
theorem Own.pick {w : World} {ks : List Kd} {g n c : Nat} {e1 e2 : List Dt} {d : Dt} {fp : List Nat} (h : Own w (.sl (.st ks)) [.slice (some ⟨g, 0, none⟩) n c] (.sl (e1 ++ d :: e2)) fp) :
    ∃ P1 cs P2 f1 fq f2 ds, d = .st ds ∧ fp = g :: (f1 ++ (fq ++ f2)) ∧ P1.length = e1.length * szL ks ∧ Blk w g (P1 ++ (cs ++ P2)) ∧ OwnL w (List.replicate e1.length (.st ks)) P1 e1 f1 ∧ OwnL w ks cs ds fq ∧ OwnL w (List.replicate e2.length (.st ks)) P2 e2 f2 ∧ n = e1.length + (e2.length + 1) ∧ n ≤ c := by
  rcases h.sl_is with ⟨_, _, _, hd, _⟩ | ⟨g', n', cap, es, P, fq, hv, hd, hf, hl, hn, hnc, hP, ho, hb⟩
  · simp at hd
  · simp only [Value.slice.injEq, Option.some.injEq, Addr.mk.injEq, and_true] at hv
    obtain ⟨rfl, rfl, rfl⟩ := hv
    simp only [Dt.sl.injEq] at hd
    subst hd
    have hlen : n = e1.length + (e2.length + 1) := by rw [← hl]; simp
    rw [hlen, ← List.replicate_append_replicate, List.replicate_succ] at ho
    obtain ⟨P1, P', f1, f', rfl, rfl, o1, o'⟩ := OwnL.split_at ho (by simp)
    cases o' with
    | cons oe o2 =>
      cases oe with
      | st oe =>
        refine ⟨P1, _, _, f1, _, _, _, rfl, hf, ?_, hb, o1, oe, o2, hlen, hnc⟩
        have := o1.len
        rw [this]
        have : ∀ m, szL (List.replicate m (Kd.st ks)) = m * szL ks := by
          intro m
          induction m with
          | zero => simp [szL]
          | succ m ih => rw [List.replicate_succ, szL, ih, Nat.succ_mul, Kd.sz]; omega
        exact this _
theorem Own.unpick {w : World} {ks : List Kd} {g n c : Nat} {e1 e2 : List Dt} {ds : List Dt} {P1 cs P2 : List Value} {f1 fq f2 : List Nat} (hb : Blk w g (P1 ++ (cs ++ P2))) (o1 : OwnL w (List.replicate e1.length (.st ks)) P1 e1 f1) (oe : OwnL w ks cs ds fq) (o2 : OwnL w (List.replicate e2.length (.st ks)) P2 e2 f2) (hn : n = e1.length + (e2.length + 1)) (hc : n ≤ c) :
    Own w (.sl (.st ks)) [.slice (some ⟨g, 0, none⟩) n c] (.sl (e1 ++ .st ds :: e2)) (g :: (f1 ++ (fq ++ f2))) :=
  own_sl hb (OwnL.app (.cons (.st oe) o2) o1) (fun k hk => by
    rcases List.mem_append.1 hk with h | h
    · exact (List.mem_replicate.1 h).2
    · rcases List.mem_cons.1 h with h | h
      · exact h
      · exact (List.mem_replicate.1 h).2) (by simp; omega) (by omega) hc
theorem drop_elt {es : List Dt} {k : Nat} (h : k < es.length) : es.drop k = es[k] :: es.drop (k + 1) := List.drop_eq_getElem_cons h
theorem take_mk {es : List Dt} {k N : Nat} (h : k < es.length) : mkL (es.take (k + 1)) N = mkL (es.take k) N ++ [es[k].mk (N + cntL (es.take k))] := by
  rw [List.take_succ_eq_append_getElem h, mkL_app]; rfl
theorem results_h {P : Program} {fn : Func} {p : Tmp} {ty : TypeId} (h : fn.results = #[.cell p ty]) {tmps : Array Value} {w : World} {b o : Nat} (hp : tmps.getD p undef = .pointer (some ⟨b, o, none⟩)) {v : Value} (hv : (hload ty ⟨b, o, none⟩).run P w = .ok v w) : (results fn tmps).run P w = .ok v w := by
  rw [← hload_of] at hv
  have hp2 : tmps[p]?.getD undef = .pointer (some ⟨b, o, none⟩) := by simpa [Array.getD_eq_getD_getElem?] using hp
  simp [results, h, hp2, asAddr, hv, Result.andThen]
def szv (l : Int) (n : Nat) : Int := if l - (n : Int) < 0 then -1 else l - (n : Int)
theorem szv_add {l : Int} {a b : Nat} (h : 0 ≤ szv l a) : szv (szv l a) b = szv l (a + b) := by
  unfold szv at *; split at h <;> split <;> (try split) <;> first | rfl | omega
theorem szv_le {l : Int} {a : Nat} (h : 0 ≤ l) : szv l a ≤ l := by
  unfold szv; split <;> omega
theorem szv_neg {l : Int} {a b : Nat} (h0 : 0 ≤ l) (h : szv l a < 0) : szv l (a + b) = -1 := by
  unfold szv at *; split at h <;> split <;> first | rfl | omega
end Go.Proofs.Ytbdjnfnphilklaa.Own
