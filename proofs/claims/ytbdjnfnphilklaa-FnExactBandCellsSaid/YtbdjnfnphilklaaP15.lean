/-
  Texts of this seat, laid together: ClC, Cap, Obr, HdSO
-/
import Derived.Deep.RegionHeld3
import Derived.WalkKit
import Derived.Deep.DeepCutAuto
import Derived.Deep.QuietTactic
import Derived.BigQuiet
import Derived.Handy
import Derived.Test.YtbdjnfnphilklaaP14
import Derived.Test.YtbdjnfnphilklaaP11
namespace Go.Proofs.Ytbdjnfnphilklaa.Own
open Go.ChangeShapes Go.WideShapes Go.ChangeAt Go.RowKit
open Kit Slabs Ints Stack Point Turn
set_option linter.unusedVariables false
set_option linter.unusedSimpArgs false
set_option linter.unnecessarySimpa false
set_option maxRecDepth 100000
def NewSt (ks : List Kd) (ds : List Dt) (w : World) (e : Ending) (w' : World) : Prop := ∃ (R : Array Value) (f : List Nat), e = .returned (.agg R) ∧ OwnL w' ks R.toList ds f ∧ f.Nodup ∧ (∀ b ∈ f, w.heap.size ≤ b) ∧ Below w.heap.size w w'
attribute [local go_sem ↓] hload_Object hstore_Object
set_option maxHeartbeats 4000000 in
theorem clone_Object (w : World) {A : Array Value} {o : Ob} {fp : List Nat} (hb : bulkL o.dt ≤ 1048576) (h : OwnL w LObject A.toList o.dt fp) :
    Calls Try.prog 71 #[.agg A] w fun e w' => ∃ (R : Array Value) (f : List Nat), e = .returned (.agg R) ∧ OwnL w' LObject R.toList o.dt f ∧ f.Nodup ∧ (∀ b ∈ f, w.heap.size ≤ b) ∧ Below w.heap.size w w' := by
  obtain ⟨a0, c0, f0, hA, hf, o0⟩ := inv_Object_ h
  simp only [Ob.dt, bulkL, Dt.bulk, len_dI, len_dP, bulk_dI, bulk_dP] at hb
  simp only [len_dI, len_dP] at hA o0
  obtain ⟨P0, q0, L0, l0, O0, _, e0, _, _⟩ := own_lies o0
  have F0 : q0 = [] ∧ ∀ W, OwnL W (List.replicate o.path.length KPt) P0 (dP o.path) [] := by
    obtain ⟨_, hq, hO⟩ := OwnL.flat (flat_rep rfl _) O0
    subst hq; exact ⟨rfl, hO⟩
  have HF := Lib.hid F0.2
  clear O0 F0 o0
  have hw2 : ((w.alloc (.cells A 40)).alloc (.cells #[.slice none 0 0, .int .i64 0, .int .i64 0, .int .i64 0, .int .i64 0, .int .i64 0] 40)).heap.size = w.heap.size + 2 := by simp
  have BA : Blk ((w.alloc (.cells A 40)).alloc (.cells #[.slice none 0 0, .int .i64 0, .int .i64 0, .int .i64 0, .int .i64 0, .int .i64 0] 40)) w.heap.size A.toList := (Blk.new w A 40 rfl).alloc _
  have BR : Blk ((w.alloc (.cells A 40)).alloc (.cells #[.slice none 0 0, .int .i64 0, .int .i64 0, .int .i64 0, .int .i64 0, .int .i64 0] 40)) (w.heap.size + 1) (#[.slice none 0 0, .int .i64 0, .int .i64 0, .int .i64 0, .int .i64 0, .int .i64 0] : Array Value).toList := Blk.new _ _ 40 (by simp)
  rw [hA] at BA
  have hW : Below w.heap.size w ((w.alloc (.cells A 40)).alloc (.cells #[.slice none 0 0, .int .i64 0, .int .i64 0, .int .i64 0, .int .i64 0, .int .i64 0] 40)) := by go_grown
  have HS := Lib.hid (And.intro BA (And.intro BR (And.intro hW hw2)))
  have l0' : P0.length = o.path.length * 2 := by simpa [Kd.sz, szL] using l0
  have HL := Lib.hid (And.intro L0 (And.intro l0' e0))
  clear BA BR hW hw2 L0 l0 l0' e0 hA h hf
  go_enter Try.func71, Try.ntmps71
  go_upto_region 1 with (fail)
  obtain ⟨W, hWe⟩ : ∃ W, W = ((w.alloc (.cells A 40)).alloc (.cells #[.slice none 0 0, .int .i64 0, .int .i64 0, .int .i64 0, .int .i64 0, .int .i64 0] 40)) := ⟨_, rfl⟩
  rw [← hWe] at HS ⊢
  clear hWe
  obtain ⟨GA, hGA⟩ : ∃ x, w.heap.size = x := ⟨_, rfl⟩
  obtain ⟨GR, hGR⟩ : ∃ x, w.heap.size + 1 = x := ⟨_, rfl⟩
  have HS2 : Hid (Blk W GA [.slice a0 o.path.length c0, .int .i64 o.gray, .int .i64 o.x0, .int .i64 o.y0, .int .i64 o.x1, .int .i64 o.y1] ∧ Blk W GR (#[.slice none 0 0, .int .i64 0, .int .i64 0, .int .i64 0, .int .i64 0, .int .i64 0] : Array Value).toList) := Lib.hid ⟨hGA ▸ HS.out.1, hGR ▸ HS.out.2.1⟩
  rw [hGR]
  have hWw := Lib.hid HS.out.2.2
  have gA : w.heap.size ≤ GA := by omega
  have gAR : GA < GR := by omega
  have gAW : GA < W.heap.size := by have := hWw.out.2; omega
  have gR : GR < W.heap.size := by have := hWw.out.2; omega
  rw [hGA]
  clear HS hGR hGA
  have k0 := HS2.out.1.1 0 _ rfl
  go_wp2_with fail
  clear k0
  ((with_reducible refine (cop_pts W a0 o.path.length c0 P0 (by omega) HL.out.2.1 HL.out.2.2 (HL.out.1.on hWw.out.1)).mono ?_); rintro e w1 ⟨m0, d0, rfl, r0, b1⟩)
  have B1 := HS2.out.1.keep b1
  have fz := B1.2.1
  have k0 := B1.1 0 _ rfl
  have z1 := b1.size
  have H1 := Lib.hid (And.intro B1 (And.intro r0 b1))
  clear B1 r0 b1
  go_upto_region 2 with (fail)
  clear k0 fz
  have o0 := row_own2 H1.out.2.1 (HF.out w1)
  have g0 := rowF_ge (n := o.path.length) (fq := []) (fun b hb => (rowL_ge H1.out.2.1 b hb).1) (fun b hb => absurd hb List.not_mem_nil)
  have n0 := rowF_nodup (n := o.path.length) (u := .slice m0 o.path.length d0) (fq := []) List.nodup_nil (fun b _ h => absurd h List.not_mem_nil)
  generalize (if o.path.length = 0 then [] else rowL (.slice m0 o.path.length d0) ++ []) = F0 at o0 g0 n0
  have o0 := own_setN o0 (b := GA) (fun h => by have := g0 _ h; omega) 0 (.slice m0 o.path.length d0)
  have BV := Blk.put (P := []) H1.out.1 rfl (.slice m0 o.path.length d0)
  have BR2 := (HS2.out.2.keep H1.out.2.2).other (b' := GA) (by omega) 0 (.slice m0 o.path.length d0)
  have bV := (on_of hWw.out.1 H1.out.2.2).setCell (p := ⟨GA, 0, none⟩) gA (.slice m0 o.path.length d0)
  have sV : (w1.setCell ⟨GA, 0, none⟩ (.slice m0 o.path.length d0)).heap.size = w1.heap.size := by simp [size_sets]
  generalize w1.setCell ⟨GA, 0, none⟩ (.slice m0 o.path.length d0) = V at o0 BV BR2 bV sV ⊢
  have oV := mk_ob o.gray o.x0 o.y0 o.x1 o.y1 o0
  obtain ⟨R, E, s1, s2, s3, e4, tE, bE⟩ := hand_over (P := Try.prog) (T := 40) Try.isAgg40 Try.sizeOf40 BV BR2 rfl oV rfl bV (by omega) (by omega)
  have oE := oV.turned tE (fun b hb e => by have := g0 b hb; have e' : b = GR := e; omega)
  have oE : OwnL E LObject R.toList o.dt F0 := by rw [e4]; exact oE
  have gw : w.heap.size ≤ W.heap.size := hWw.out.1.size
  have HX := Lib.hid (And.intro oE (And.intro bE (And.intro n0 (And.intro g0 s3))))
  clear o0 g0 n0 bV BV BR2 oV oE bE s3 sV e4 tE
  go_wp2
  refine bodyPost_ret (v := .agg R) ?_ rfl ⟨R, _, rfl, HX.out.1, HX.out.2.2.1, fun b hb => by have := HX.out.2.2.2.1 b hb; omega, HX.out.2.1⟩
  exact results_h Try.results71 (by rfl) HX.out.2.2.2.2
end Go.Proofs.Ytbdjnfnphilklaa.Own
namespace Go.Proofs.Ytbdjnfnphilklaa.Own
open Go.ChangeShapes Go.WideShapes Go.ChangeAt Go.RowKit
open Kit Slabs Ints Stack Point Turn
set_option linter.unusedVariables false
set_option linter.unusedSimpArgs false
set_option linter.unnecessarySimpa false
def Cap (w : World) (g : Nat) (T : TypeId) (m : Nat) : Prop := ∃ cur : Array Value, w.heap[g]? = some (.cells cur T (0, 0)) ∧ cur.size = m
theorem Cap.stays {w w' : World} {g : Nat} {T : TypeId} {m : Nat} (h : Cap w g T m) (e : w'.heap[g]? = w.heap[g]?) : Cap w' g T m := by
  obtain ⟨cur, h1, h2⟩ := h; exact ⟨cur, e.trans h1, h2⟩
theorem Cap.lt {w : World} {g : Nat} {T : TypeId} {m : Nat} (h : Cap w g T m) : g < w.heap.size := by
  obtain ⟨cur, h1, _⟩ := h; exact (Array.getElem?_eq_some_iff.1 h1).1
theorem Cap.keep {w w' : World} {g : Nat} {T : TypeId} {m : Nat} (h : Cap w g T m) (hb : Below w.heap.size w w') : Cap w' g T m := h.stays (hb.block g h.lt)
theorem Cap.turned {w w' : World} {g : Nat} {T : TypeId} {m : Nat} {S : Nat → Prop} (h : Cap w g T m) (ht : Turns w w' S) (hS : ¬ S g) : Cap w' g T m := h.stays (ht.block g h.lt hS)
theorem Cap.set {w : World} {g : Nat} {T : TypeId} {m : Nat} (h : Cap w g T m) (i : Nat) (v : Value) : Cap (w.setCell ⟨g, i, none⟩ v) g T m := by
  obtain ⟨cur, h1, h2⟩ := h
  exact ⟨_, heap_setCell_same w g i cur T v h1, by simpa using h2⟩
theorem Cap.sets {g : Nat} {T : TypeId} {m : Nat} : ∀ (vs : List Value) (o : Nat) {w : World}, Cap w g T m → Cap (w.setCells g o vs) g T m
  | [], _, _, h => h
  | v :: r, o, w, h => Cap.sets r (o + 1) (h.set o v)
theorem row_cap {w : World} {B : Nat} {T : TypeId} {k n : Nat} {a : Option Addr} {c : Nat} {P : List Value} (h : w.ownsRow B T k (.slice a n c) n P) (h0 : n ≠ 0) :
    ∃ g, a = some ⟨g, 0, none⟩ ∧ B ≤ g ∧ Blk w g P ∧ Cap w g T (c * k) ∧ n ≤ c ∧ c ≤ maxLen := by
  obtain ⟨a', c', he, _, hb⟩ := row_blk h
  injection he with h1 h2 h3
  subst h1; subst h3
  obtain ⟨g, rfl, hb2⟩ := hb h0
  rcases h.2 with ⟨_, h2⟩ | ⟨g', cap, cur, hv, hB, hg, hnc, hm, hs, _⟩
  · exact absurd h2 h0
  · injection hv with h1 h2 h3
    injection h1 with h1
    injection h1 with h1
    subst h1; subst h3
    exact ⟨_, rfl, hB, hb2, ⟨cur, hg, hs⟩, hnc, hm⟩
theorem cap_row {w : World} {B g : Nat} {T : TypeId} {k n c : Nat} {P : List Value} (hb : Blk w g P) (hc : Cap w g T (c * k)) (hl : P.length = n * k) (hn : n ≤ c) (hm : c ≤ maxLen) (hB : B ≤ g) :
    w.ownsRow B T k (.slice (some ⟨g, 0, none⟩) n c) n P := by
  obtain ⟨cur, h1, h2⟩ := hc
  refine ⟨hl, .inr ⟨g, c, cur, rfl, hB, h1, hn, hm, h2, ?_⟩⟩
  have hle : n * k ≤ cur.size := by rw [h2]; exact Nat.mul_le_mul_right _ hn
  apply List.ext_getElem
  · simp; omega
  · intro i i1 i2
    have hv := hb.1 i P[i] (List.getElem?_eq_getElem i2)
    rw [cell_of_row _ _ _ _ _ _ h1] at hv
    have i3 : i < cur.size := by omega
    rw [Array.getElem?_eq_getElem i3] at hv
    simpa using hv
theorem pick_rep {w : World} {ks : List Kd} : ∀ {n i : Nat} {P : List Value} {es : List Dt} {f : List Nat}, OwnL w (List.replicate n (.st ks)) P es f → (hi : i < es.length) →
    ∃ A cs D ds f', P = A ++ (cs ++ D) ∧ A.length = i * szL ks ∧ cs.length = szL ks ∧ es[i] = .st ds ∧ OwnL w ks cs ds f' ∧ (∀ b ∈ f', b ∈ f)
  | 0, i, P, es, f, h, hi => by
    cases h; simp at hi
  | n + 1, 0, P, es, f, h, hi => by
    rw [List.replicate_succ] at h
    cases h with
    | cons h r =>
      cases h with
      | st h => exact ⟨[], _, _, _, _, rfl, by simp, h.len, rfl, h, fun b hb => List.mem_append_left _ hb⟩
  | n + 1, i + 1, P, es, f, h, hi => by
    rw [List.replicate_succ] at h
    cases h with
    | cons h r =>
      obtain ⟨A, cs, D, ds, f', rfl, e1, e2, e3, o, e4⟩ := pick_rep r (i := i) (by simpa using hi)
      exact ⟨_ ++ A, cs, D, ds, f', (List.append_assoc _ _ _).symm, by rw [List.length_append, h.len, e1, Kd.sz, Nat.succ_mul]; omega, e2, by simpa using e3, o, fun b hb => List.mem_append_right _ (e4 b hb)⟩
end Go.Proofs.Ytbdjnfnphilklaa.Own
namespace Go.Proofs.Ytbdjnfnphilklaa.Own
open Go.ChangeShapes Go.WideShapes Go.ChangeAt Go.RowKit
open Kit Slabs Ints Point
set_option linter.unusedVariables false
set_option linter.unusedSimpArgs false
set_option linter.unnecessarySimpa false
def ObsRow (w : World) (B : Nat) (a : Option Addr) (c : Nat) (l : List Ob) (F : List Nat) : Prop := ∃ (P : List Value) (f : List Nat), w.ownsRow B 40 6 (.slice a l.length c) l.length P ∧ OwnL w (List.replicate l.length KObject) P (dO l) f ∧ F = rowL (.slice a l.length c) ++ f ∧ F.Nodup ∧ ∀ b ∈ F, B ≤ b
theorem ObsRow.nil (w : World) (B : Nat) : ObsRow w B none 0 [] [] := ⟨[], [], World.ownsRow_nil _ _ _ _, .nil, rfl, List.nodup_nil, fun b hb => absurd hb List.not_mem_nil⟩
theorem ObsRow.lt {w : World} {B : Nat} {a : Option Addr} {c : Nat} {l : List Ob} {F : List Nat} (h : ObsRow w B a c l F) : ∀ b ∈ F, b < w.heap.size := by
  obtain ⟨P, f, r, o, rfl, hn, hB⟩ := h
  exact mem2 (p := fun b => b < w.heap.size) (fun b hb => (rowL_ge r b hb).2) o.lt
theorem ObsRow.ge {w : World} {B : Nat} {a : Option Addr} {c : Nat} {l : List Ob} {F : List Nat} (h : ObsRow w B a c l F) : ∀ b ∈ F, B ≤ b := by
  obtain ⟨P, f, r, o, rfl, hn, hB⟩ := h; exact hB
theorem ObsRow.nodup {w : World} {B : Nat} {a : Option Addr} {c : Nat} {l : List Ob} {F : List Nat} (h : ObsRow w B a c l F) : F.Nodup := by
  obtain ⟨P, f, r, o, rfl, hn, hB⟩ := h; exact hn
theorem ObsRow.stays {w w' : World} {B : Nat} {a : Option Addr} {c : Nat} {l : List Ob} {F : List Nat} (h : ObsRow w B a c l F) (hs : w.heap.size ≤ w'.heap.size) (hb : ∀ b ∈ F, w'.heap[b]? = w.heap[b]?) : ObsRow w' B a c l F := by
  obtain ⟨P, f, r, o, rfl, hn, hB⟩ := h
  exact ⟨P, f, row_stays r (fun b hm => hb b (by simp [hm])), o.stays hs (fun b hm => hb b (by simp [hm])), rfl, hn, hB⟩
theorem ObsRow.under {w w' : World} {B : Nat} {a : Option Addr} {c : Nat} {l : List Ob} {F : List Nat} (h : ObsRow w B a c l F) (hb : Below w.heap.size w w') : ObsRow w' B a c l F := h.stays hb.size (fun b hm => hb.block b (h.lt b hm))
theorem ObsRow.turned {w w' : World} {B : Nat} {a : Option Addr} {c : Nat} {l : List Ob} {F : List Nat} {S : Nat → Prop} (h : ObsRow w B a c l F) (ht : Turns w w' S) (hS : ∀ b ∈ F, ¬ S b) : ObsRow w' B a c l F := h.stays ht.size (fun b hm => ht.block b (h.lt b hm) (hS b hm))
theorem ObsRow.base {w : World} {B C : Nat} {a : Option Addr} {c : Nat} {l : List Ob} {F : List Nat} (h : ObsRow w B a c l F) (hC : C ≤ B) : ObsRow w C a c l F := by
  obtain ⟨P, f, r, o, rfl, hn, hB⟩ := h
  exact ⟨P, f, row_base r hC, o, rfl, hn, fun b hb => Nat.le_trans hC (hB b hb)⟩
theorem ObsRow.own {w : World} {B : Nat} {a : Option Addr} {c : Nat} {l : List Ob} {F : List Nat} (h : ObsRow w B a c l F) : ∃ f, Own w (.sl KObject) [.slice a l.length c] (.sl (dO l)) f ∧ f.Nodup ∧ ∀ b ∈ f, b ∈ F := by
  obtain ⟨P, f, r, o, rfl, hn, hB⟩ := h
  obtain ⟨n1, n2, d⟩ := nodup_parts hn
  refine ⟨_, row_own2 r o, rowF_nodup n2 d, fun b hb => ?_⟩
  rcases rowF_sub b hb with h | h
  · exact List.mem_append_left _ h
  · exact List.mem_append_right _ h
theorem ObsRow.next {w : World} {B : Nat} {a : Option Addr} {c : Nat} {l : List Ob} {F : List Nat} (h : ObsRow w B a c l F) : ∃ P, w.ownsRow B 40 6 (.slice a l.length c) l.length P ∧ ∀ (w1 w' : World) (a' : Option Addr) (c' : Nat) (us : List Value) (o : Ob) (f : List Nat),
    Below w.heap.size w w1 → OwnL w1 LObject us o.dt f → f.Nodup → (∀ b ∈ f, w.heap.size ≤ b) → B ≤ w.heap.size → w'.ownsRow B 40 6 (.slice a' (l.length + 1) c') (l.length + 1) (P ++ us) → w1.grownBy w' (Value.ownBlock (.slice a l.length c)) → (∀ b ∈ rowL (.slice a' (l.length + 1) c'), b ∈ rowL (.slice a l.length c) ∨ w1.heap.size ≤ b) →
    ∃ F', ObsRow w' B a' c' (l ++ [o]) F' ∧ (∀ b ∈ F', b ∈ F ∨ w.heap.size ≤ b) ∧ Turns w w' (fun b => b ∈ F) := by
  obtain ⟨P, f0, r, o0, rfl, hn, hB⟩ := h
  obtain ⟨n1, n2, d⟩ := nodup_parts hn
  refine ⟨P, r, fun w1 w' a' c' us o f hb ho hf hge hBw hown hg hnew => ?_⟩
  have hlt := rowL_ge r
  have ht := Turns.of_grown hg
  have hl : (l ++ [o]).length = l.length + 1 := by simp
  have hOw : OwnL w' (List.replicate (l.length + 1) KObject) (P ++ us) (dO (l ++ [o])) (f0 ++ f) := by
    rw [List.replicate_succ', show dO (l ++ [o]) = dO l ++ [.st o.dt] by simp [dO]]
    refine OwnL.snoc ((o0.under hb).turned ht (fun b hb2 e => d b (by simp [rowL, e]) hb2)) (.st (ho.turned ht (fun b hb2 e => ?_)))
    have := hlt b (by simp [rowL, e])
    have := hge b hb2
    omega
  have dd : ∀ b ∈ rowL (.slice a' (l.length + 1) c'), b ∉ f0 ++ f := fun b hm hx => by
    rcases hnew b hm with h | h
    · rcases List.mem_append.1 hx with k | k
      · exact d b h k
      · have := hlt b h; have := hge b k; omega
    · rcases List.mem_append.1 hx with k | k
      · have := o0.lt b k; have := hb.size; omega
      · have := ho.lt b k; omega
  refine ⟨rowL (.slice a' (l.length + 1) c') ++ (f0 ++ f), ⟨P ++ us, f0 ++ f, by rw [hl]; exact hown, by rw [hl]; exact hOw, by rw [hl], app_nodup (rowL_nodup _) (app_nodup n2 hf (fun x hx hy => by have := hge x hy; have := o0.lt x hx; omega)) dd, ?_⟩, ?_, ?_⟩
  · intro b hm
    rcases List.mem_append.1 hm with h | h
    · exact (rowL_ge hown b h).1
    · rcases List.mem_append.1 h with h | h
      · exact hB b (List.mem_append_right _ h)
      · exact Nat.le_trans hBw (hge b h)
  · intro b hm
    rcases List.mem_append.1 hm with h | h
    · rcases hnew b h with h | h
      · exact .inl (List.mem_append_left _ h)
      · exact .inr (by have := hb.size; omega)
    · rcases List.mem_append.1 h with h | h
      · exact .inl (List.mem_append_right _ h)
      · exact .inr (hge b h)
  · exact (Turns.of_below hb).trans (ht.mono (fun k hk => List.mem_append_left _ (by simp [rowL, hk])))
def ObsNew (l : List Ob) (w : World) (e : Ending) (w' : World) : Prop := ∃ (a : Option Addr) (c : Nat) (F : List Nat), e = .returned (.slice a l.length c) ∧ ObsRow w' w.heap.size a c l F ∧ Below w.heap.size w w'
end Go.Proofs.Ytbdjnfnphilklaa.Own
namespace Go.Proofs.Ytbdjnfnphilklaa.Own
open Go.ChangeShapes Go.WideShapes Go.ChangeAt Go.RowKit
open Kit Slabs Ints
set_option linter.unusedVariables false
set_option linter.unusedSimpArgs false
set_option linter.unnecessarySimpa false
set_option maxRecDepth 100000
set_option maxHeartbeats 8000000 in
theorem held_ObjectS (w : World) (N : Nat) {a : Option Addr} {n c : Nat} {es : List Dt} {fp fq : List Nat} {w0 : World} {v0 : Value} (hn : es.length + bulkL es ≤ 1048576) (h0 : 0 < N) (hN : N + cntL es ≤ 1000000000) (hs : Own w0 (.sl KObject) [v0] (.sl es) fq) (h : Own w (.sl KObject) [.slice a n c] (.sl (mkL es N)) fp) :
    Calls Try.prog 52 #[.slice a n c, .int .i64 (N : Int)] w fun e w' => e = .returned (.int .i64 ((N + cntL es : Nat) : Int)) ∧ Below w.heap.size w w' := by
  obtain ⟨hl, hr⟩ := h.row
  rw [mkL_length] at hl
  obtain ⟨hl0, _⟩ : es.length = n ∧ True := ⟨hl, trivial⟩
  by_cases hz : n = 0
  · subst hz
    have hes : es = [] := List.eq_nil_of_length_eq_zero hl
    subst hes
    clear h hr hs
    go_enter Try.func52, Try.ntmps52
    go_wp2
    go_rounds 1
    go_ret
    exact ⟨ret_int (by simp [cntL]), Below.refl _ _⟩
  · obtain ⟨g, rfl, _⟩ := hr hz
    have H := Lib.hid (And.intro h (And.intro hs hl))
    have hn1 : n ≤ 1048576 := by omega
    have HB := Lib.hid (And.intro hn hN)
    clear h hs hr hl hl0 hn hN
    go_enter Try.func52, Try.ntmps52
    go_wp2
    go_loopw [1, 5] (fun v1 i wr => ∃ k : Nat, k ≤ n ∧ i = .int .i64 (k : Int) ∧ v1 = .int .i64 ((N + cntL (es.take k) : Nat) : Int) ∧ Below w.heap.size w wr) (fun _ i _ => n - (intOf i).toNat)
    case atStart => exact ⟨0, Nat.zero_le _, rfl, by simp [cntL], Below.refl _ _⟩
    case round =>
      obtain ⟨k, hk, rfl, rfl, hbel⟩ := hrel
      by_cases hlt : k < n
      · have hke : k < es.length := by rw [H.out.2.2]; exact hlt
        have hkm : k < (mkL es N).length := by rw [mkL_length]; exact hke
        obtain ⟨hg, _, cs, ds, q, ed, od, ld, _, sd⟩ := H.out.1.elt hkm
        rw [mk_elt hke] at ed
        obtain ⟨v0a, v0n, v0c, hv0⟩ : ∃ a n c, v0 = .slice a n c := by cases H.out.2.1 <;> exact ⟨_, _, _, rfl⟩
        have hs1 := H.out.2.1
        rw [hv0] at hs1
        obtain ⟨e0, r0⟩ := hs1.row
        obtain ⟨g0, rfl, _⟩ := r0 (by omega)
        obtain ⟨_, _, cs0, ds0, q0, ed0, od0, _, _, _⟩ := hs1.elt hke
        have htk := take_cnt hke
        have hpart := cnt_parts es (k + 1)
        have hbk := bulk_elt hke
        rw [ed0] at ed htk hbk
        simp only [Dt.mk] at ed
        injection ed with ed
        subst ed
        obtain ⟨xa0, xc0, xs0, xx1_0, xx2_0, xx2_1, xx2_2, xx2_3, xF0, _, rfl, rfl, ox0⟩ := inv_Object od0
        obtain ⟨M0, hM0⟩ : ∃ M, N + cntL (es.take k) = M := ⟨_, rfl⟩
        rw [hM0] at od ⊢
        obtain ⟨M1, hM1⟩ : ∃ M, M0 + cntL xs0 = M := ⟨_, rfl⟩
        obtain ⟨M2, hM2⟩ : ∃ M, M1 + 1 = M := ⟨_, rfl⟩
        obtain ⟨M3, hM3⟩ : ∃ M, M2 + 1 = M := ⟨_, rfl⟩
        obtain ⟨M4, hM4⟩ : ∃ M, M3 + 1 = M := ⟨_, rfl⟩
        obtain ⟨M5, hM5⟩ : ∃ M, M4 + 1 = M := ⟨_, rfl⟩
        obtain ⟨M6, hM6⟩ : ∃ M, M5 + 1 = M := ⟨_, rfl⟩
        have hmk : mkL (.sl xs0 :: (.int xx1_0 :: (.int xx2_0 :: (.int xx2_1 :: (.int xx2_2 :: (.int xx2_3 :: ([]))))))) M0 = .sl (mkL xs0 M0) :: (.int ((M1 : Nat) : Int) :: (.int ((M2 : Nat) : Int) :: (.int ((M3 : Nat) : Int) :: (.int ((M4 : Nat) : Int) :: (.int ((M5 : Nat) : Int) :: ([])))))) := by simp only [mkL, Dt.mk, Dt.cnt, hM1, hM2, hM3, hM4, hM5, hM6]
        rw [hmk] at od
        have hM : N + cntL (es.take (k + 1)) = M6 := by rw [htk, ← Nat.add_assoc, hM0]; simp only [Dt.cnt, cntL]; omega
        simp only [Dt.bulk, bulkL] at hbk
        have hMb : M6 ≤ 1000000000 := by have := HB.out.2; omega
        have hMp : 0 < M0 := by omega
        obtain ⟨ya0, yc0, yF0, rfl, rfl, oy0⟩ := inv_Object_ od
        simp only [mkL_length] at sd oy0
        have HBK := Lib.hid hbk
        have u0 : xs0.length + bulkL xs0 ≤ 1048576 := by have := HB.out.1; omega
        have HS := Lib.hid sd
        have HE := Lib.hid (ox0)
        have HO := Lib.hid (oy0)
        have HM := Lib.hid hM
        have b0 : M0 ≤ 1000000000 := by omega
        have p0 : 0 < M0 := by omega
        have g1 : ¬ ((M1 : Int) < 0) := by omega
        have s0 : M0 + cntL xs0 ≤ 1000000000 := by omega
        have e2 : (M1 : Int) + 1 = (M2 : Int) := by omega
        have b1 : M1 ≤ 1000000000 := by omega
        have e3 : (M2 : Int) + 1 = (M3 : Int) := by omega
        have b2 : M2 ≤ 1000000000 := by omega
        have e4 : (M3 : Int) + 1 = (M4 : Int) := by omega
        have b3 : M3 ≤ 1000000000 := by omega
        have e5 : (M4 : Int) + 1 = (M5 : Int) := by omega
        have b4 : M4 ≤ 1000000000 := by omega
        have e6 : (M5 : Int) + 1 = (M6 : Int) := by omega
        have b5 : M5 ≤ 1000000000 := by omega
        have i0 : (0 : Int) ≤ (k : Int) := by omega
        have i1 : (k : Int) < (n : Int) := by omega
        clear od od0 hs1 r0 e0 htk hpart hmk hM hM0 hbk sd hke hkm ed0 ox0 oy0
        have HW0 := Lib.hid hbel
        have ca0 : wr.cell? ⟨g, k * 6, none⟩ = some (.slice ya0 xs0.length yc0) := HS.out wr HW0.out 0 _ rfl
        go_wp2_with fail
        ((with_reducible refine (held_PointS _ M0 u0 p0 s0 (HE.out) ((HO.out).under HW0.out)).mono ?_); rintro e w1 ⟨rfl, bb⟩)
        rw [hM1]
        have HW1 := Lib.hid (on_of HW0.out bb)
        clear bb ca0
        have ca1 : w1.cell? ⟨g, k * 6 + 1, none⟩ = some (.int .i64 (M1 : Int)) := HS.out w1 HW1.out 1 _ rfl
        have ca2 : w1.cell? ⟨g, k * 6 + 2, none⟩ = some (.int .i64 (M2 : Int)) := HS.out w1 HW1.out 2 _ rfl
        have ca3 : w1.cell? ⟨g, k * 6 + 3, none⟩ = some (.int .i64 (M3 : Int)) := HS.out w1 HW1.out 3 _ rfl
        have ca4 : w1.cell? ⟨g, k * 6 + 4, none⟩ = some (.int .i64 (M4 : Int)) := HS.out w1 HW1.out 4 _ rfl
        have ca5 : w1.cell? ⟨g, k * 6 + 5, none⟩ = some (.int .i64 (M5 : Int)) := HS.out w1 HW1.out 5 _ rfl
        have HWl := HW1.out
        go_wp2
        go_roundw
        case rel => exact ⟨k + 1, by omega, by go_num, by rw [HM.out], HWl⟩
        case measure => simp [intOf]; omega
      · obtain rfl : k = n := by omega
        have HY := Lib.hid (show es.take k = es by rw [← H.out.2.2, List.take_length])
        rw [HY.out]
        go_wp2
        go_ret
        exact ⟨rfl, hbel⟩
end Go.Proofs.Ytbdjnfnphilklaa.Own
