/-
  Texts of this seat, laid together: ClC, Cap, Obr, Rs11, Cb13
-/
import Derived.Deep.RegionHeld3
import Derived.Test.YtbdjnfnphilklaaM16
import Derived.Test.YtbdjnfnphilklaaM31
namespace Go.Proofs.Ytbdjnfnphilklaa.Own
open Go.ChangeShapes Go.WideShapes Go.ChangeAt Go.RowKit
open Kit Slabs Ints Stack Point Turn
set_option linter.unusedVariables false
set_option linter.unusedSimpArgs false
set_option linter.unnecessarySimpa false
set_option maxRecDepth 100000
def NewSt (ks : List Kd) (ds : List Dt) (w : World) (e : Ending) (w' : World) : Prop := ∃ (R : Array Value) (f : List Nat), e = .returned (.agg R) ∧ OwnL w' ks R.toList ds f ∧ f.Nodup ∧ (∀ b ∈ f, w.heap.size ≤ b) ∧ Below w.heap.size w w'
attribute [local go_sem ↓] hload_Object hstore_Object
set_option maxHeartbeats 4000000 in
theorem clone_Object (w : World) {A : Array Value} {o : Ob} {fp : List Nat} (hb : bulkL o.dt ≤ 1048576) (h : OwnL w LObject A.toList o.dt fp) :
    Calls Try.prog 71 #[.agg A] w fun e w' => ∃ (R : Array Value) (f : List Nat), e = .returned (.agg R) ∧ OwnL w' LObject R.toList o.dt f ∧ f.Nodup ∧ (∀ b ∈ f, w.heap.size ≤ b) ∧ Below w.heap.size w w' := by
  obtain ⟨a0, c0, f0, hA, hf, o0⟩ := inv_Object_ h
  simp only [Ob.dt, bulkL, Dt.bulk, len_dI, len_dP, bulk_dI, bulk_dP] at hb
  simp only [len_dI, len_dP] at hA o0
  obtain ⟨P0, q0, L0, l0, O0, _, e0, _, _⟩ := own_lies o0
  have F0 : q0 = [] ∧ ∀ W, OwnL W (List.replicate o.path.length KPt) P0 (dP o.path) [] := by
    obtain ⟨_, hq, hO⟩ := OwnL.flat (flat_rep rfl _) O0
    subst hq; exact ⟨rfl, hO⟩
  have HF := Lib.hid F0.2
  clear O0 F0 o0
  have hw2 : ((w.alloc (.cells A 40)).alloc (.cells #[.slice none 0 0, .int .i64 0, .int .i64 0, .int .i64 0, .int .i64 0, .int .i64 0] 40)).heap.size = w.heap.size + 2 := by simp
  have BA : Blk ((w.alloc (.cells A 40)).alloc (.cells #[.slice none 0 0, .int .i64 0, .int .i64 0, .int .i64 0, .int .i64 0, .int .i64 0] 40)) w.heap.size A.toList := (Blk.new w A 40 rfl).alloc _
  have BR : Blk ((w.alloc (.cells A 40)).alloc (.cells #[.slice none 0 0, .int .i64 0, .int .i64 0, .int .i64 0, .int .i64 0, .int .i64 0] 40)) (w.heap.size + 1) (#[.slice none 0 0, .int .i64 0, .int .i64 0, .int .i64 0, .int .i64 0, .int .i64 0] : Array Value).toList := Blk.new _ _ 40 (by simp)
  rw [hA] at BA
  have hW : Below w.heap.size w ((w.alloc (.cells A 40)).alloc (.cells #[.slice none 0 0, .int .i64 0, .int .i64 0, .int .i64 0, .int .i64 0, .int .i64 0] 40)) := by go_grown
  have HS := Lib.hid (And.intro BA (And.intro BR (And.intro hW hw2)))
  have l0' : P0.length = o.path.length * 2 := by simpa [Kd.sz, szL] using l0
  have HL := Lib.hid (And.intro L0 (And.intro l0' e0))
  clear BA BR hW hw2 L0 l0 l0' e0 hA h hf
  go_enter Try.func71, Try.ntmps71
  go_upto_region 1 with (fail)
  obtain ⟨W, hWe⟩ : ∃ W, W = ((w.alloc (.cells A 40)).alloc (.cells #[.slice none 0 0, .int .i64 0, .int .i64 0, .int .i64 0, .int .i64 0, .int .i64 0] 40)) := ⟨_, rfl⟩
  rw [← hWe] at HS ⊢
  clear hWe
  obtain ⟨GA, hGA⟩ : ∃ x, w.heap.size = x := ⟨_, rfl⟩
  obtain ⟨GR, hGR⟩ : ∃ x, w.heap.size + 1 = x := ⟨_, rfl⟩
  have HS2 : Hid (Blk W GA [.slice a0 o.path.length c0, .int .i64 o.gray, .int .i64 o.x0, .int .i64 o.y0, .int .i64 o.x1, .int .i64 o.y1] ∧ Blk W GR (#[.slice none 0 0, .int .i64 0, .int .i64 0, .int .i64 0, .int .i64 0, .int .i64 0] : Array Value).toList) := Lib.hid ⟨hGA ▸ HS.out.1, hGR ▸ HS.out.2.1⟩
  rw [hGR]
  have hWw := Lib.hid HS.out.2.2
  have gA : w.heap.size ≤ GA := by omega
  have gAR : GA < GR := by omega
  have gAW : GA < W.heap.size := by have := hWw.out.2; omega
  have gR : GR < W.heap.size := by have := hWw.out.2; omega
  rw [hGA]
  clear HS hGR hGA
  have k0 := HS2.out.1.1 0 _ rfl
  go_wp2_with fail
  clear k0
  ((with_reducible refine (cop_pts W a0 o.path.length c0 P0 (by omega) HL.out.2.1 HL.out.2.2 (HL.out.1.on hWw.out.1)).mono ?_); rintro e w1 ⟨m0, d0, rfl, r0, b1⟩)
  have B1 := HS2.out.1.keep b1
  have fz := B1.2.1
  have k0 := B1.1 0 _ rfl
  have z1 := b1.size
  have H1 := Lib.hid (And.intro B1 (And.intro r0 b1))
  clear B1 r0 b1
  go_upto_region 2 with (fail)
  clear k0 fz
  have o0 := row_own2 H1.out.2.1 (HF.out w1)
  have g0 := rowF_ge (n := o.path.length) (fq := []) (fun b hb => (rowL_ge H1.out.2.1 b hb).1) (fun b hb => absurd hb List.not_mem_nil)
  have n0 := rowF_nodup (n := o.path.length) (u := .slice m0 o.path.length d0) (fq := []) List.nodup_nil (fun b _ h => absurd h List.not_mem_nil)
  generalize (if o.path.length = 0 then [] else rowL (.slice m0 o.path.length d0) ++ []) = F0 at o0 g0 n0
  have o0 := own_setN o0 (b := GA) (fun h => by have := g0 _ h; omega) 0 (.slice m0 o.path.length d0)
  have BV := Blk.put (P := []) H1.out.1 rfl (.slice m0 o.path.length d0)
  have BR2 := (HS2.out.2.keep H1.out.2.2).other (b' := GA) (by omega) 0 (.slice m0 o.path.length d0)
  have bV := (on_of hWw.out.1 H1.out.2.2).setCell (p := ⟨GA, 0, none⟩) gA (.slice m0 o.path.length d0)
  have sV : (w1.setCell ⟨GA, 0, none⟩ (.slice m0 o.path.length d0)).heap.size = w1.heap.size := by simp [size_sets]
  generalize w1.setCell ⟨GA, 0, none⟩ (.slice m0 o.path.length d0) = V at o0 BV BR2 bV sV ⊢
  have oV := mk_ob o.gray o.x0 o.y0 o.x1 o.y1 o0
  obtain ⟨R, E, s1, s2, s3, e4, tE, bE⟩ := hand_over (P := Try.prog) (T := 40) Try.isAgg40 Try.sizeOf40 BV BR2 rfl oV rfl bV (by omega) (by omega)
  have oE := oV.turned tE (fun b hb e => by have := g0 b hb; have e' : b = GR := e; omega)
  have oE : OwnL E LObject R.toList o.dt F0 := by rw [e4]; exact oE
  have gw : w.heap.size ≤ W.heap.size := hWw.out.1.size
  have HX := Lib.hid (And.intro oE (And.intro bE (And.intro n0 (And.intro g0 s3))))
  clear o0 g0 n0 bV BV BR2 oV oE bE s3 sV e4 tE
  go_wp2
  refine bodyPost_ret (v := .agg R) ?_ rfl ⟨R, _, rfl, HX.out.1, HX.out.2.2.1, fun b hb => by have := HX.out.2.2.2.1 b hb; omega, HX.out.2.1⟩
  exact results_h Try.results71 (by rfl) HX.out.2.2.2.2
end Go.Proofs.Ytbdjnfnphilklaa.Own
namespace Go.Proofs.Ytbdjnfnphilklaa.Own
open Go.ChangeShapes Go.WideShapes Go.ChangeAt Go.RowKit
open Kit Slabs Ints Stack Point Turn
set_option linter.unusedVariables false
set_option linter.unusedSimpArgs false
set_option linter.unnecessarySimpa false
def Cap (w : World) (g : Nat) (T : TypeId) (m : Nat) : Prop := ∃ cur : Array Value, w.heap[g]? = some (.cells cur T (0, 0)) ∧ cur.size = m
theorem Cap.stays {w w' : World} {g : Nat} {T : TypeId} {m : Nat} (h : Cap w g T m) (e : w'.heap[g]? = w.heap[g]?) : Cap w' g T m := by
  obtain ⟨cur, h1, h2⟩ := h; exact ⟨cur, e.trans h1, h2⟩
theorem Cap.lt {w : World} {g : Nat} {T : TypeId} {m : Nat} (h : Cap w g T m) : g < w.heap.size := by
  obtain ⟨cur, h1, _⟩ := h; exact (Array.getElem?_eq_some_iff.1 h1).1
theorem Cap.keep {w w' : World} {g : Nat} {T : TypeId} {m : Nat} (h : Cap w g T m) (hb : Below w.heap.size w w') : Cap w' g T m := h.stays (hb.block g h.lt)
theorem Cap.turned {w w' : World} {g : Nat} {T : TypeId} {m : Nat} {S : Nat → Prop} (h : Cap w g T m) (ht : Turns w w' S) (hS : ¬ S g) : Cap w' g T m := h.stays (ht.block g h.lt hS)
theorem Cap.set {w : World} {g : Nat} {T : TypeId} {m : Nat} (h : Cap w g T m) (i : Nat) (v : Value) : Cap (w.setCell ⟨g, i, none⟩ v) g T m := by
  obtain ⟨cur, h1, h2⟩ := h
  exact ⟨_, heap_setCell_same w g i cur T v h1, by simpa using h2⟩
theorem Cap.sets {g : Nat} {T : TypeId} {m : Nat} : ∀ (vs : List Value) (o : Nat) {w : World}, Cap w g T m → Cap (w.setCells g o vs) g T m
  | [], _, _, h => h
  | v :: r, o, w, h => Cap.sets r (o + 1) (h.set o v)
theorem row_cap {w : World} {B : Nat} {T : TypeId} {k n : Nat} {a : Option Addr} {c : Nat} {P : List Value} (h : w.ownsRow B T k (.slice a n c) n P) (h0 : n ≠ 0) :
    ∃ g, a = some ⟨g, 0, none⟩ ∧ B ≤ g ∧ Blk w g P ∧ Cap w g T (c * k) ∧ n ≤ c ∧ c ≤ maxLen := by
  obtain ⟨a', c', he, _, hb⟩ := row_blk h
  injection he with h1 h2 h3
  subst h1; subst h3
  obtain ⟨g, rfl, hb2⟩ := hb h0
  rcases h.2 with ⟨_, h2⟩ | ⟨g', cap, cur, hv, hB, hg, hnc, hm, hs, _⟩
  · exact absurd h2 h0
  · injection hv with h1 h2 h3
    injection h1 with h1
    injection h1 with h1
    subst h1; subst h3
    exact ⟨_, rfl, hB, hb2, ⟨cur, hg, hs⟩, hnc, hm⟩
theorem cap_row {w : World} {B g : Nat} {T : TypeId} {k n c : Nat} {P : List Value} (hb : Blk w g P) (hc : Cap w g T (c * k)) (hl : P.length = n * k) (hn : n ≤ c) (hm : c ≤ maxLen) (hB : B ≤ g) :
    w.ownsRow B T k (.slice (some ⟨g, 0, none⟩) n c) n P := by
  obtain ⟨cur, h1, h2⟩ := hc
  refine ⟨hl, .inr ⟨g, c, cur, rfl, hB, h1, hn, hm, h2, ?_⟩⟩
  have hle : n * k ≤ cur.size := by rw [h2]; exact Nat.mul_le_mul_right _ hn
  apply List.ext_getElem
  · simp; omega
  · intro i i1 i2
    have hv := hb.1 i P[i] (List.getElem?_eq_getElem i2)
    rw [cell_of_row _ _ _ _ _ _ h1] at hv
    have i3 : i < cur.size := by omega
    rw [Array.getElem?_eq_getElem i3] at hv
    simpa using hv
theorem pick_rep {w : World} {ks : List Kd} : ∀ {n i : Nat} {P : List Value} {es : List Dt} {f : List Nat}, OwnL w (List.replicate n (.st ks)) P es f → (hi : i < es.length) →
    ∃ A cs D ds f', P = A ++ (cs ++ D) ∧ A.length = i * szL ks ∧ cs.length = szL ks ∧ es[i] = .st ds ∧ OwnL w ks cs ds f' ∧ (∀ b ∈ f', b ∈ f)
  | 0, i, P, es, f, h, hi => by
    cases h; simp at hi
  | n + 1, 0, P, es, f, h, hi => by
    rw [List.replicate_succ] at h
    cases h with
    | cons h r =>
      cases h with
      | st h => exact ⟨[], _, _, _, _, rfl, by simp, h.len, rfl, h, fun b hb => List.mem_append_left _ hb⟩
  | n + 1, i + 1, P, es, f, h, hi => by
    rw [List.replicate_succ] at h
    cases h with
    | cons h r =>
      obtain ⟨A, cs, D, ds, f', rfl, e1, e2, e3, o, e4⟩ := pick_rep r (i := i) (by simpa using hi)
      exact ⟨_ ++ A, cs, D, ds, f', (List.append_assoc _ _ _).symm, by rw [List.length_append, h.len, e1, Kd.sz, Nat.succ_mul]; omega, e2, by simpa using e3, o, fun b hb => List.mem_append_right _ (e4 b hb)⟩
end Go.Proofs.Ytbdjnfnphilklaa.Own
namespace Go.Proofs.Ytbdjnfnphilklaa.Own
open Go.ChangeShapes Go.WideShapes Go.ChangeAt Go.RowKit
open Kit Slabs Ints Point
set_option linter.unusedVariables false
set_option linter.unusedSimpArgs false
set_option linter.unnecessarySimpa false
def ObsRow (w : World) (B : Nat) (a : Option Addr) (c : Nat) (l : List Ob) (F : List Nat) : Prop := ∃ (P : List Value) (f : List Nat), w.ownsRow B 40 6 (.slice a l.length c) l.length P ∧ OwnL w (List.replicate l.length KObject) P (dO l) f ∧ F = rowL (.slice a l.length c) ++ f ∧ F.Nodup ∧ ∀ b ∈ F, B ≤ b
theorem ObsRow.nil (w : World) (B : Nat) : ObsRow w B none 0 [] [] := ⟨[], [], World.ownsRow_nil _ _ _ _, .nil, rfl, List.nodup_nil, fun b hb => absurd hb List.not_mem_nil⟩
theorem ObsRow.lt {w : World} {B : Nat} {a : Option Addr} {c : Nat} {l : List Ob} {F : List Nat} (h : ObsRow w B a c l F) : ∀ b ∈ F, b < w.heap.size := by
  obtain ⟨P, f, r, o, rfl, hn, hB⟩ := h
  exact mem2 (p := fun b => b < w.heap.size) (fun b hb => (rowL_ge r b hb).2) o.lt
theorem ObsRow.ge {w : World} {B : Nat} {a : Option Addr} {c : Nat} {l : List Ob} {F : List Nat} (h : ObsRow w B a c l F) : ∀ b ∈ F, B ≤ b := by
  obtain ⟨P, f, r, o, rfl, hn, hB⟩ := h; exact hB
theorem ObsRow.nodup {w : World} {B : Nat} {a : Option Addr} {c : Nat} {l : List Ob} {F : List Nat} (h : ObsRow w B a c l F) : F.Nodup := by
  obtain ⟨P, f, r, o, rfl, hn, hB⟩ := h; exact hn
theorem ObsRow.stays {w w' : World} {B : Nat} {a : Option Addr} {c : Nat} {l : List Ob} {F : List Nat} (h : ObsRow w B a c l F) (hs : w.heap.size ≤ w'.heap.size) (hb : ∀ b ∈ F, w'.heap[b]? = w.heap[b]?) : ObsRow w' B a c l F := by
  obtain ⟨P, f, r, o, rfl, hn, hB⟩ := h
  exact ⟨P, f, row_stays r (fun b hm => hb b (by simp [hm])), o.stays hs (fun b hm => hb b (by simp [hm])), rfl, hn, hB⟩
theorem ObsRow.under {w w' : World} {B : Nat} {a : Option Addr} {c : Nat} {l : List Ob} {F : List Nat} (h : ObsRow w B a c l F) (hb : Below w.heap.size w w') : ObsRow w' B a c l F := h.stays hb.size (fun b hm => hb.block b (h.lt b hm))
theorem ObsRow.turned {w w' : World} {B : Nat} {a : Option Addr} {c : Nat} {l : List Ob} {F : List Nat} {S : Nat → Prop} (h : ObsRow w B a c l F) (ht : Turns w w' S) (hS : ∀ b ∈ F, ¬ S b) : ObsRow w' B a c l F := h.stays ht.size (fun b hm => ht.block b (h.lt b hm) (hS b hm))
theorem ObsRow.base {w : World} {B C : Nat} {a : Option Addr} {c : Nat} {l : List Ob} {F : List Nat} (h : ObsRow w B a c l F) (hC : C ≤ B) : ObsRow w C a c l F := by
  obtain ⟨P, f, r, o, rfl, hn, hB⟩ := h
  exact ⟨P, f, row_base r hC, o, rfl, hn, fun b hb => Nat.le_trans hC (hB b hb)⟩
theorem ObsRow.own {w : World} {B : Nat} {a : Option Addr} {c : Nat} {l : List Ob} {F : List Nat} (h : ObsRow w B a c l F) : ∃ f, Own w (.sl KObject) [.slice a l.length c] (.sl (dO l)) f ∧ f.Nodup ∧ ∀ b ∈ f, b ∈ F := by
  obtain ⟨P, f, r, o, rfl, hn, hB⟩ := h
  obtain ⟨n1, n2, d⟩ := nodup_parts hn
  refine ⟨_, row_own2 r o, rowF_nodup n2 d, fun b hb => ?_⟩
  rcases rowF_sub b hb with h | h
  · exact List.mem_append_left _ h
  · exact List.mem_append_right _ h
theorem ObsRow.next {w : World} {B : Nat} {a : Option Addr} {c : Nat} {l : List Ob} {F : List Nat} (h : ObsRow w B a c l F) : ∃ P, w.ownsRow B 40 6 (.slice a l.length c) l.length P ∧ ∀ (w1 w' : World) (a' : Option Addr) (c' : Nat) (us : List Value) (o : Ob) (f : List Nat),
    Below w.heap.size w w1 → OwnL w1 LObject us o.dt f → f.Nodup → (∀ b ∈ f, w.heap.size ≤ b) → B ≤ w.heap.size → w'.ownsRow B 40 6 (.slice a' (l.length + 1) c') (l.length + 1) (P ++ us) → w1.grownBy w' (Value.ownBlock (.slice a l.length c)) → (∀ b ∈ rowL (.slice a' (l.length + 1) c'), b ∈ rowL (.slice a l.length c) ∨ w1.heap.size ≤ b) →
    ∃ F', ObsRow w' B a' c' (l ++ [o]) F' ∧ (∀ b ∈ F', b ∈ F ∨ w.heap.size ≤ b) ∧ Turns w w' (fun b => b ∈ F) := by
  obtain ⟨P, f0, r, o0, rfl, hn, hB⟩ := h
  obtain ⟨n1, n2, d⟩ := nodup_parts hn
  refine ⟨P, r, fun w1 w' a' c' us o f hb ho hf hge hBw hown hg hnew => ?_⟩
  have hlt := rowL_ge r
  have ht := Turns.of_grown hg
  have hl : (l ++ [o]).length = l.length + 1 := by simp
  have hOw : OwnL w' (List.replicate (l.length + 1) KObject) (P ++ us) (dO (l ++ [o])) (f0 ++ f) := by
    rw [List.replicate_succ', show dO (l ++ [o]) = dO l ++ [.st o.dt] by simp [dO]]
    refine OwnL.snoc ((o0.under hb).turned ht (fun b hb2 e => d b (by simp [rowL, e]) hb2)) (.st (ho.turned ht (fun b hb2 e => ?_)))
    have := hlt b (by simp [rowL, e])
    have := hge b hb2
    omega
  have dd : ∀ b ∈ rowL (.slice a' (l.length + 1) c'), b ∉ f0 ++ f := fun b hm hx => by
    rcases hnew b hm with h | h
    · rcases List.mem_append.1 hx with k | k
      · exact d b h k
      · have := hlt b h; have := hge b k; omega
    · rcases List.mem_append.1 hx with k | k
      · have := o0.lt b k; have := hb.size; omega
      · have := ho.lt b k; omega
  refine ⟨rowL (.slice a' (l.length + 1) c') ++ (f0 ++ f), ⟨P ++ us, f0 ++ f, by rw [hl]; exact hown, by rw [hl]; exact hOw, by rw [hl], app_nodup (rowL_nodup _) (app_nodup n2 hf (fun x hx hy => by have := hge x hy; have := o0.lt x hx; omega)) dd, ?_⟩, ?_, ?_⟩
  · intro b hm
    rcases List.mem_append.1 hm with h | h
    · exact (rowL_ge hown b h).1
    · rcases List.mem_append.1 h with h | h
      · exact hB b (List.mem_append_right _ h)
      · exact Nat.le_trans hBw (hge b h)
  · intro b hm
    rcases List.mem_append.1 hm with h | h
    · rcases hnew b h with h | h
      · exact .inl (List.mem_append_left _ h)
      · exact .inr (by have := hb.size; omega)
    · rcases List.mem_append.1 h with h | h
      · exact .inl (List.mem_append_right _ h)
      · exact .inr (hge b h)
  · exact (Turns.of_below hb).trans (ht.mono (fun k hk => List.mem_append_left _ (by simp [rowL, hk])))
def ObsNew (l : List Ob) (w : World) (e : Ending) (w' : World) : Prop := ∃ (a : Option Addr) (c : Nat) (F : List Nat), e = .returned (.slice a l.length c) ∧ ObsRow w' w.heap.size a c l F ∧ Below w.heap.size w w'
end Go.Proofs.Ytbdjnfnphilklaa.Own
namespace Go.Proofs.Ytbdjnfnphilklaa.Own
open Go.ChangeShapes Go.WideShapes Go.ChangeAt Go.RowKit
open Kit Slabs Ints
set_option linter.unusedVariables false
set_option linter.unusedSimpArgs false
set_option linter.unnecessarySimpa false
set_option maxRecDepth 100000
def sameB (R S : List (List Int)) : Bool := decide (R = S)
theorem ext_getD {α : Type} {l m : List α} {z : α} (hl : l.length = m.length) (h : ∀ i, i < l.length → l.getD i z = m.getD i z) : l = m := by
  apply List.ext_getElem hl
  intro i h1 h2
  have := h i h1
  simpa [List.getD, List.getElem?_eq_getElem h1, List.getElem?_eq_getElem h2] using this
theorem ne_getD {α : Type} {l m : List α} {z : α} (i : Nat) (h : l.getD i z ≠ m.getD i z) : l ≠ m := fun e => h (by rw [e])
set_option maxHeartbeats 1000000 in
theorem equal_impl (w : World) (a b : Option Addr) (c d : Nat) (r s : List Int) (hn : r.length ≤ 1048576) (hm : s.length ≤ 1048576) (h : Lies w a (ivs r)) (h2 : Lies w b (ivs s)) :
    Calls Try.prog 42 #[.slice a r.length c, .slice b s.length d] w fun e w' => e = .returned (.bool (decide (r = s))) ∧ Below w.heap.size w w' := by
  by_cases hl : r.length = s.length
  · have HP := Lib.hid (And.intro h h2)
    obtain ⟨n, hN⟩ : ∃ n, r.length = n := ⟨_, rfl⟩
    have hN2 : s.length = n := by omega
    have HN := Lib.hid (And.intro hN hN2)
    rw [hN] at hn ⊢
    rw [hN2]
    clear hN hN2 h h2 hm hl
    go_enter Try.func42, Try.ntmps42
    go_wp2
    go_loopw [13] (fun v9 wr => ∃ k : Nat, k ≤ n ∧ v9 = .int .i64 (k : Int) ∧ Hid (∀ i, i < k → r.getD i 0 = s.getD i 0) ∧ Below w.heap.size w wr) (fun v9 _ => n - (intOf v9).toNat)
    case atStart => exact ⟨0, Nat.zero_le _, rfl, Lib.hid (fun i hi => absurd hi (Nat.not_lt_zero i)), Below.refl _ _⟩
    case round =>
      obtain ⟨k, hk, rfl, hb, hB⟩ := hrel
      by_cases hlt : k < n
      · obtain ⟨g, o, rfl, hg, hc⟩ := lies_at (HP.out.1.on hB) (by rw [HN.out.1]; omega)
        obtain ⟨g2, o2, rfl, hg2, hc2⟩ := lies_at (HP.out.2.on hB) (by rw [HN.out.2]; omega)
        have q := hc k (by rw [HN.out.1]; exact hlt)
        have q2 := hc2 k (by rw [HN.out.2]; exact hlt)
        obtain ⟨x, hx⟩ : ∃ x, r.getD k 0 = x := ⟨_, rfl⟩
        obtain ⟨y, hy⟩ : ∃ y, s.getD k 0 = y := ⟨_, rfl⟩
        rw [hx] at q
        rw [hy] at q2
        have i0 : (0 : Int) ≤ (k : Int) := by omega
        have i1 : (k : Int) < (n : Int) := by omega
        have HX := Lib.hid (And.intro hx hy)
        have HB := Lib.hid hB
        clear hx hy hB hc hc2
        by_cases he : x = y
        · have e9 : (x == y) = true := by simpa using he
          have hyes : ∀ i, i < k + 1 → r.getD i 0 = s.getD i 0 := fun i hi => by
            by_cases e : i = k
            · subst e; rw [HX.out.1, HX.out.2]; exact he
            · exact hb.out i (by omega)
          have HS := Lib.hid hyes
          clear hyes he
          go_wp2
          go_quiet (fail)
          go_wp2
          refine ⟨⟨k + 1, by omega, by go_num, HS, drewN_below HB.out _⟩, by simp [intOf]; omega⟩
        · have e9 : (x == y) = false := by simpa using he
          have HS : Hid (r ≠ s) := Lib.hid (ne_getD (z := 0) k (by rw [HX.out.1, HX.out.2]; exact he))
          clear he
          go_wp2
          go_quiet (fail)
          go_wp2
          go_ret
          exact ⟨ret_bool (by simp [HS.out]), drewN_below HB.out _⟩
      · obtain rfl : k = n := by omega
        have HB := Lib.hid hB
        have HS : Hid (r = s) := Lib.hid (ext_getD (z := 0) (by rw [HN.out.1, HN.out.2]) (fun i hi => hb.out i (by rw [← HN.out.1]; exact hi)))
        clear hB
        go_wp2
        go_ret
        exact ⟨ret_bool (by simp [HS.out]), HB.out⟩
  · have HS : Hid (r ≠ s) := Lib.hid (fun e => hl (by rw [e]))
    have h1' : ((r.length : Int) == (s.length : Int)) = false := by simp; omega
    clear h h2 hl
    go_enter Try.func42, Try.ntmps42
    go_wp2
    go_ret
    exact ⟨ret_bool (by simp [HS.out]), Below.refl _ _⟩
set_option maxHeartbeats 1000000 in
theorem eqfunc_impl (w : World) (a b : Option Addr) (c d : Nat) (R S : List (List Int)) (hn : R.length ≤ 1048576) (hm : S.length ≤ 1048576) (tr : tot R ≤ 1048576) (ts : tot S ≤ 1048576) (h : RR w a R) (h2 : RR w b S) :
    Calls Try.prog 41 #[.slice a R.length c, .slice b S.length d, .func (.func 42) #[] #[]] w fun e w' => e = .returned (.bool (sameB R S)) ∧ Below w.heap.size w w' := by
  by_cases hl : R.length = S.length
  · have HP := Lib.hid (And.intro h h2)
    obtain ⟨n, hN⟩ : ∃ n, R.length = n := ⟨_, rfl⟩
    have hN2 : S.length = n := by omega
    have HN := Lib.hid (And.intro hN (And.intro hN2 (And.intro tr ts)))
    rw [hN] at hn ⊢
    rw [hN2]
    clear hN hN2 h h2 hm hl tr ts
    go_enter Try.func41, Try.ntmps41
    go_wp2
    go_loopw [17] (fun v9 wr => ∃ k : Nat, k ≤ n ∧ v9 = .int .i64 (k : Int) ∧ Hid (∀ i, i < k → R.getD i [] = S.getD i []) ∧ Below w.heap.size w wr) (fun v9 _ => n - (intOf v9).toNat)
    case atStart => exact ⟨0, Nat.zero_le _, rfl, Lib.hid (fun i hi => absurd hi (Nat.not_lt_zero i)), Below.refl _ _⟩
    case round =>
      obtain ⟨k, hk, rfl, hb, hB⟩ := hrel
      by_cases hlt : k < n
      · obtain ⟨g, o, rfl, hg, hc⟩ := (HP.out.1.on hB).some (by rw [HN.out.1]; omega)
        obtain ⟨g2, o2, rfl, hg2, hc2⟩ := (HP.out.2.on hB).some (by rw [HN.out.2.1]; omega)
        obtain ⟨a', c', q, hl⟩ := hc k (by rw [HN.out.1]; exact hlt)
        obtain ⟨b', d', q2, hl2⟩ := hc2 k (by rw [HN.out.2.1]; exact hlt)
        have hx0 := tot_at (R := R) (k := k) (by rw [HN.out.1]; exact hlt)
        have hy0 := tot_at (R := S) (k := k) (by rw [HN.out.2.1]; exact hlt)
        obtain ⟨x, hx⟩ : ∃ x, R.getD k [] = x := ⟨_, rfl⟩
        obtain ⟨y, hy⟩ : ∃ y, S.getD k [] = y := ⟨_, rfl⟩
        rw [hx] at q hl hx0
        rw [hy] at q2 hl2 hy0
        have i0 : (0 : Int) ≤ (k : Int) := by omega
        have i1 : (k : Int) < (n : Int) := by omega
        have HX := Lib.hid (And.intro hx hy)
        have HB := Lib.hid hB
        have HL := Lib.hid (And.intro hl (And.intro hl2 (And.intro (show x.length ≤ 1048576 by have := HN.out.2.2.1; omega) (show y.length ≤ 1048576 by have := HN.out.2.2.2; omega))))
        clear hx hy hB hc hc2 hl hl2 hx0 hy0
        go_wp2_with fail
        ((with_reducible refine (equal_impl _ _ _ _ _ x y HL.out.2.2.1 HL.out.2.2.2 HL.out.1 HL.out.2.1).mono ?_); rintro e w1 ⟨rfl, bb⟩)
        have HB1 := Lib.hid (on_of HB.out bb)
        clear bb
        by_cases he : x = y
        · have e9 : decide (x = y) = true := by simpa using he
          have hyes : ∀ i, i < k + 1 → R.getD i [] = S.getD i [] := fun i hi => by
            by_cases e : i = k
            · subst e; rw [HX.out.1, HX.out.2]; exact he
            · exact hb.out i (by omega)
          have HS := Lib.hid hyes
          rw [e9]
          clear hyes he e9
          go_wp2
          go_roundw
          case rel => exact ⟨k + 1, by omega, by go_num, HS, HB1.out⟩
          case measure => simp [intOf]; omega
        · have e9 : decide (x = y) = false := by simpa using he
          have HS : Hid (R ≠ S) := Lib.hid (ne_getD (z := []) k (by rw [HX.out.1, HX.out.2]; exact he))
          rw [e9]
          clear he e9
          go_wp2
          go_ret
          exact ⟨ret_bool (by simp [sameB, HS.out]), HB1.out⟩
      · obtain rfl : k = n := by omega
        have HB := Lib.hid hB
        have HS : Hid (R = S) := Lib.hid (ext_getD (z := []) (by rw [HN.out.1, HN.out.2.1]) (fun i hi => hb.out i (by rw [← HN.out.1]; exact hi)))
        clear hB
        go_wp2
        go_ret
        exact ⟨ret_bool (by simp [sameB, HS.out]), HB.out⟩
  · have HS : Hid (R ≠ S) := Lib.hid (fun e => hl (by rw [e]))
    have h1' : ((R.length : Int) == (S.length : Int)) = false := by simp; omega
    clear h h2 hl
    go_enter Try.func41, Try.ntmps41
    go_wp2
    go_ret
    exact ⟨ret_bool (by simp [sameB, HS.out]), Below.refl _ _⟩
theorem same_impl (w : World) (a b : Option Addr) (c d : Nat) (R S : List (List Int)) (hn : R.length ≤ 1048576) (hm : S.length ≤ 1048576) (tr : tot R ≤ 1048576) (ts : tot S ≤ 1048576) (h : RR w a R) (h2 : RR w b S) :
    Calls Try.prog 16 #[.slice a R.length c, .slice b S.length d] w fun e w' => e = .returned (.bool (sameB R S)) ∧ Below w.heap.size w w' := by
  have HC := Lib.hid (eqfunc_impl w a b c d R S hn hm tr ts h h2)
  clear h h2
  go_enter Try.func16, Try.ntmps16
  go_wp2_with fail
  ((with_reducible refine HC.out.mono ?_); rintro e w1 ⟨rfl, bb⟩)
  go_wp2
  go_ret
  exact ⟨rfl, bb⟩
def cnt1 (v : Int) (r : List Int) : Nat := (r.map fun x => if x = v then 1 else 0).sum
def cntR (v : Int) (R : List (List Int)) : Nat := (R.map (cnt1 v)).sum
theorem cnt1_le (v : Int) (r : List Int) : cnt1 v r ≤ r.length := by
  induction r with
  | nil => simp [cnt1]
  | cons x r ih => simp only [cnt1, List.map_cons, List.sum_cons, List.length_cons] at *; split <;> omega
theorem cntR_le (v : Int) (R : List (List Int)) : cntR v R ≤ tot R := by
  induction R with
  | nil => simp [cntR, tot]
  | cons r R ih => have := cnt1_le v r; simp only [cntR, tot, List.map_cons, List.sum_cons] at *; omega
theorem cnt1_take {v : Int} {r : List Int} {k : Nat} (h : k < r.length) : cnt1 v (r.take (k + 1)) = cnt1 v (r.take k) + (if r.getD k 0 = v then 1 else 0) := by
  rw [List.take_succ_eq_append_getElem h]
  simp only [cnt1, List.map_append, List.sum_append, List.map_cons, List.map_nil, List.sum_cons, List.sum_nil, Nat.add_zero]
  simp [List.getD, List.getElem?_eq_getElem h]
theorem cntR_take {v : Int} {R : List (List Int)} {k : Nat} (h : k < R.length) : cntR v (R.take (k + 1)) = cntR v (R.take k) + cnt1 v (R.getD k []) := by
  rw [List.take_succ_eq_append_getElem h]
  simp only [cntR, List.map_append, List.sum_append, List.map_cons, List.map_nil, List.sum_cons, List.sum_nil, Nat.add_zero]
  simp [List.getD, List.getElem?_eq_getElem h]
theorem cnt1_upto (v : Int) (r : List Int) (k : Nat) : cnt1 v (r.take k) ≤ cnt1 v r := by
  have : cnt1 v r = cnt1 v (r.take k) + cnt1 v (r.drop k) := by
    have : cnt1 v (r.take k ++ r.drop k) = cnt1 v (r.take k) + cnt1 v (r.drop k) := by simp only [cnt1, List.map_append, List.sum_append]
    rw [← this, List.take_append_drop]
  omega
theorem cntR_upto (v : Int) (R : List (List Int)) (k : Nat) : cntR v (R.take k) ≤ cntR v R := by
  have : cntR v R = cntR v (R.take k) + cntR v (R.drop k) := by
    have : cntR v (R.take k ++ R.drop k) = cntR v (R.take k) + cntR v (R.drop k) := by simp only [cntR, List.map_append, List.sum_append]
    rw [← this, List.take_append_drop]
  omega
end Go.Proofs.Ytbdjnfnphilklaa.Own
namespace Go.Proofs.Ytbdjnfnphilklaa.Own
open Go.ChangeShapes Go.WideShapes Go.ChangeAt Go.RowKit
open Kit Slabs Ints Point
set_option linter.unusedVariables false
set_option linter.unusedSimpArgs false
set_option linter.unnecessarySimpa false
set_option maxRecDepth 100000
def Rpo (l : List Ob) (P0 : List Value) (b : Option Addr) (d : Nat) (w : World) (j : Nat) (wr : World) : Prop := ∃ (U : List Value) (fu : List Nat),
  U.length = j * 6 ∧ wr.ownsRow w.heap.size 40 6 (.slice b l.length d) l.length (U ++ P0.drop (j * 6)) ∧ OwnL wr (List.replicate j KObject) U ((dO l).take j) fu ∧ (rowL (.slice b l.length d) ++ fu).Nodup ∧ (∀ x ∈ fu, w.heap.size ≤ x) ∧ Below w.heap.size w wr
theorem Rpo.start {l : List Ob} {P0 : List Value} {b : Option Addr} {d : Nat} {w wr : World} (h : wr.ownsRow w.heap.size 40 6 (.slice b l.length d) l.length P0) (hb : Below w.heap.size w wr) : Rpo l P0 b d w 0 wr :=
  ⟨[], [], rfl, by simpa using h, .nil, by simpa using rowL_nodup _, by simp, hb⟩
theorem Rpo.on {l : List Ob} {P0 : List Value} {b : Option Addr} {d : Nat} {w wr w' : World} {j : Nat} (h : Rpo l P0 b d w j wr) (hb : Below wr.heap.size wr w') : Rpo l P0 b d w j w' := by
  obtain ⟨U, fu, e, r, o, n, hf, bw⟩ := h
  exact ⟨U, fu, e, row_on r hb, o.under hb, n, hf, on_of bw hb⟩
theorem Rpo.below {l : List Ob} {P0 : List Value} {b : Option Addr} {d : Nat} {w wr : World} {j : Nat} (h : Rpo l P0 b d w j wr) : Below w.heap.size w wr := by
  obtain ⟨U, fu, e, r, o, n, hf, bw⟩ := h; exact bw
theorem Rpo.done {l : List Ob} {P0 : List Value} {b : Option Addr} {d : Nat} {w wr : World} {j : Nat} (h : Rpo l P0 b d w j wr) (hj : j = l.length) (hP : P0.length = l.length * 6) : ObsNew l w (.returned (.slice b l.length d)) wr := by
  subst hj
  obtain ⟨U, fu, e, r, o, n, hf, bw⟩ := h
  rw [← hP, List.drop_length, List.append_nil] at r
  rw [← len_dO, List.take_length, len_dO] at o
  exact ⟨b, d, _, rfl, ⟨U, fu, r, o, rfl, n, mem2 (p := fun x => w.heap.size ≤ x) (fun x hx => (rowL_ge r x hx).1) hf⟩, bw⟩
theorem Rpo.one {l : List Ob} {P0 : List Value} {b : Option Addr} {d : Nat} {w wr : World} {j : Nat} (h : Rpo l P0 b d w j wr) {q : List Nat} (O : OwnL w (List.replicate l.length KObject) P0 (dO l) q) (hk : j < l.length) :
    ∃ g C f, b = some ⟨g, 0, none⟩ ∧ w.heap.size ≤ g ∧ g < wr.heap.size ∧ OwnL w LObject C.toList l[j].dt f ∧ (hload 40 ⟨g, j * 6, none⟩).run Try.prog wr = .ok (.agg C) wr ∧
      ∀ (w5 : World) (R : Array Value) (F : List Nat), Below wr.heap.size wr w5 → OwnL w5 LObject R.toList l[j].dt F → F.Nodup → (∀ x ∈ F, wr.heap.size ≤ x) →
        ∃ V, (hstore 40 ⟨g, j * 6, none⟩ (.agg R)).run Try.prog w5 = .ok () V ∧ Rpo l P0 b d w (j + 1) V := by
  obtain ⟨U, fu, e2, r12, o12, nd, hf, bw⟩ := h
  have hke : j < (dO l).length := by rw [len_dO]; exact hk
  obtain ⟨A, cs, D, ds, f', hP, lA, lc, he, oc, _⟩ := pick_rep O hke
  have e3 : (dO l)[j] = .st l[j].dt := by simp [dO]
  rw [e3] at he
  injection he with he
  subst he
  have lA' : A.length = j * 6 := lA
  have lc' : cs.length = 6 := lc
  have hd : P0.drop (j * 6) = cs ++ D := by rw [hP, ← lA', List.drop_left]
  have hd2 : P0.drop ((j + 1) * 6) = D := by
    rw [hP, ← List.append_assoc, show (j + 1) * 6 = (A ++ cs).length by rw [List.length_append, lA', lc', Nat.succ_mul], List.drop_left]
  rw [hd] at r12
  obtain ⟨g, rfl, hg, bg, cg, hnc, hcm⟩ := row_cap r12 (by omega)
  have hgr : rowL (.slice (some ⟨g, 0, none⟩) l.length d) = [g] := rfl
  have hgl := bg.2.2
  rw [hgr] at nd
  have gn : g ∉ fu := fun hm => (List.nodup_cons.1 nd).1 hm
  refine ⟨g, cs.toArray, f', rfl, hg, hgl, by simpa using oc, ?_, fun w5 R F hb oR nR gR => ?_⟩
  · exact hload_run (P := Try.prog) (t := 40) Try.isAgg40 Try.sizeOf40 (w := wr) (b := g) (o := j * 6) (us := cs) (Blk.part bg e2) lc
  · have b5 := bg.keep hb
    have lR : R.toList.length = 6 := oR.len
    have st := hstore_run (P := Try.prog) (t := 40) Try.sizeOf40 (w := w5) (b := g) (o := j * 6) (A := U) (us := cs) (R := D) (vs := R.toList) b5 e2 (by rw [lR, lc']) lR (fun v hv => oR.one v hv)
    have est : R.toList.toArray = R := by simp
    rw [est] at st
    have BS := Blk.sets (P := U) (us := cs) (vs := R.toList) (R := D) (w := w5) (b := g) (o := j * 6) b5 e2 (by rw [lR, lc'])
    have cS := (cg.keep hb).sets R.toList (j * 6)
    have tS := turns_sets (S := fun b => b = g) g rfl R.toList (j * 6) w5
    generalize w5.setCells g (j * 6) R.toList = V at st BS cS tS
    have hsz := bw.size
    have hsz5 := hb.size
    refine ⟨V, st, U ++ R.toList, fu ++ F, by rw [List.length_append, e2, lR, Nat.succ_mul], (by rw [hd2]; exact (cap_row (by simpa using BS) cS (by have h2 := r12.1; simp only [List.length_append, e2, lc', lR] at h2 ⊢; omega) hnc hcm hg)), (by rw [List.take_succ_eq_append_getElem hke, e3, List.replicate_succ']; exact ((o12.under hb).turned tS (fun b hm e => gn (by have e' : b = g := e; rw [← e']; exact hm))).snoc (.st (oR.turned tS (fun b hm e => by have e' : b = g := e; have := gR b hm; omega)))), ?_, ?_, ?_⟩
    · rw [hgr, ← List.append_assoc]
      exact app_nodup nd nR (fun x hx hy => by
        have := gR x hy
        rcases List.mem_append.1 hx with h | h
        · have : x = g := by simpa using h
          omega
        · have := o12.lt x h; omega)
    · intro x hm
      rcases List.mem_append.1 hm with h | h
      · exact hf x h
      · have := gR x h; omega
    · exact (on_of bw hb).trans (tS.below (by omega) (fun x e => by have e' : x = g := e; omega))
attribute [local go_sem ↓] hload_Object hstore_Object
set_option maxHeartbeats 4000000 in
theorem cobs_impl (w : World) (a : Option Addr) (c : Nat) (l : List Ob) {fp : List Nat} (hb : l.length + bulkL (dO l) ≤ 1048576) (h : Own w (.sl KObject) [.slice a l.length c] (.sl (dO l)) fp) :
    Calls Try.prog 65 #[.slice a l.length c] w (ObsNew l w) := by
  obtain ⟨P, q, L, hl, O, _, h1, _, _⟩ := own_lies h
  have hl' : P.length = l.length * 6 := by simpa [Kd.sz, szL] using hl
  have HP := Lib.hid (And.intro L (And.intro hl' (And.intro O (And.intro h1 hb))))
  obtain ⟨n, hN⟩ : ∃ n, l.length = n := ⟨_, rfl⟩
  have HN := Lib.hid hN
  have hn : n ≤ 1048576 := by omega
  have HC := Lib.hid (cop_obs w a n c P hn (by rw [hl', hN]) h1 L)
  rw [hN]
  clear L hl hl' O h1 hb h hN
  go_enter Try.func65, Try.ntmps65
  go_wp2_with fail
  ((with_reducible refine HC.out.mono ?_); rintro e w1 ⟨b, d, rfl, r1, bb⟩)
  have HR := Lib.hid (Rpo.start (P0 := P) (b := b) (d := d) (l := l) (by rw [HN.out]; exact r1) bb)
  clear r1 bb HC
  go_wp2
  go_loopw [10] (fun v wr => ∃ k : Nat, k ≤ n ∧ v = .int .i64 (k : Int) ∧ Hid (Rpo l P b d w k wr)) (fun v _ => n - (intOf v).toNat)
  case atStart => exact ⟨0, Nat.zero_le _, rfl, HR⟩
  case round =>
    obtain ⟨k, hk, rfl, hL⟩ := hrel
    by_cases hlt : k < n
    · have hkl : k < l.length := by rw [HN.out]; exact hlt
      obtain ⟨g, C, f, rfl, hgB, hgl, oC, hld, hput⟩ := hL.out.one HP.out.2.2.1 hkl
      have hbk : bulkL l[k].dt ≤ 1048576 := by
        have h1 := bulk_elt (es := dO l) (i := k) (by rw [len_dO]; exact hkl)
        have e3 : (dO l)[k]'(by rw [len_dO]; exact hkl) = .st l[k].dt := by simp [dO]
        rw [e3] at h1
        simp only [Dt.bulk] at h1
        have := HP.out.2.2.2.2
        omega
      have i0 : (0 : Int) ≤ (k : Int) := by omega
      have i1 : (k : Int) < (n : Int) := by omega
      obtain ⟨E, st, BX, cx, zx⟩ := var_new (P := Try.prog) (T := 40) Try.sizeOf40 wr #[.slice none 0 0, .int .i64 0, .int .i64 0, .int .i64 0, .int .i64 0, .int .i64 0] rfl oC rfl
      have lv := var_load (P := Try.prog) Try.isAgg40 Try.sizeOf40 BX oC rfl
      have HX := Lib.hid (And.intro hput (And.intro (oC.under (on_of hL.out.below cx)) (And.intro hbk (And.intro cx hgB))))
      clear hput oC hbk BX cx
      go_wp2_with fail
      clear hld st lv
      ((with_reducible refine (clone_Object E HX.out.2.2.1 HX.out.2.1).mono ?_); rintro e w5 ⟨R, F, rfl, oR, nR, gF, bb⟩)
      have hs := HX.out.2.2.2.1.size
      obtain ⟨V, st, hV⟩ := HX.out.1 w5 R F (on_of HX.out.2.2.2.1 bb) oR nR (fun x hx => by have := gF x hx; omega)
      have HV := Lib.hid hV
      clear oR nR gF bb hV
      go_wp2
      go_roundw
      case rel => exact ⟨k + 1, by omega, by go_num, HV⟩
      case measure => simp [intOf]; omega
    · obtain rfl : k = n := by omega
      go_wp2
      go_ret
      have h9 := hL.out.done HN.out.symm HP.out.2.1
      rw [HN.out] at h9
      exact h9
end Go.Proofs.Ytbdjnfnphilklaa.Own
