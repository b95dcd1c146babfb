/-
  Texts of this seat, laid together: ClA, ClB
-/
import Derived.Deep.RegionLaw
import Derived.Test.YtjmfgbbngocodaaGreatV22
namespace Go.Proofs.YtjmfgbbngocodaaGreat.Own
open Go.ChangeShapes Go.WideShapes Go.ChangeAt Go.RowKit
open Kit Slabs Ints Stack Point Turn
set_option linter.unusedVariables false
set_option linter.unusedSimpArgs false
set_option linter.unnecessarySimpa false
set_option maxRecDepth 100000
theorem own_lies {w : World} {e : Kd} {a : Option Addr} {n c : Nat} {es : List Dt} {fp : List Nat} (h : Own w (.sl e) [.slice a n c] (.sl es) fp) :
    ∃ P fq, Lies w a P ∧ P.length = n * e.sz ∧ OwnL w (List.replicate n e) P es fq ∧ (∀ b ∈ fq, b ∈ fp) ∧ (∀ u ∈ P, u.oneCell' = true) ∧ es.length = n ∧ (fp.Nodup → fq.Nodup) := by
  rcases h.sl_is with ⟨a', cap, hv, hd, hf⟩ | ⟨g', n', cap, es', P, fq, hv, hd, hf, hl, hn, hnc, hP, ho, hb⟩
  · simp only [Value.slice.injEq] at hv
    obtain ⟨rfl, rfl, rfl⟩ := hv
    simp only [Dt.sl.injEq] at hd
    subst hd
    exact ⟨[], [], .inl rfl, by simp, .nil, by simp, by simp, rfl, fun _ => List.nodup_nil⟩
  · simp only [Value.slice.injEq] at hv
    obtain ⟨rfl, rfl, rfl⟩ := hv
    simp only [Dt.sl.injEq] at hd
    subst hd
    subst hf
    exact ⟨P, fq, .inr ⟨g', 0, rfl, hb.2.2, fun j u hu => by rw [Nat.zero_add]; exact hb.1 j u hu⟩, hP, ho, fun b hm => List.mem_cons_of_mem _ hm, fun u hu => ho.one u hu, hl, fun hn => (List.nodup_cons.1 hn).2⟩
theorem row_blk {w : World} {B : Nat} {T : TypeId} {k n : Nat} {u : Value} {P : List Value} (h : w.ownsRow B T k u n P) : ∃ a c, u = .slice a n c ∧ n ≤ c ∧ (n ≠ 0 → ∃ g, a = some ⟨g, 0, none⟩ ∧ Blk w g P) := by
  obtain ⟨hl, h⟩ := h
  rcases h with ⟨rfl, rfl⟩ | ⟨g, cap, cur, rfl, hB, hg, hc, _, hs, ht⟩
  · exact ⟨none, 0, rfl, Nat.le_refl _, fun h => absurd rfl h⟩
  · refine ⟨_, _, rfl, hc, fun _ => ⟨g, rfl, fun o v hv => ?_, fun o => ?_, (Array.getElem?_eq_some_iff.1 hg).1⟩⟩
    · rw [cell_of_row _ _ _ _ _ _ hg]
      rw [← ht] at hv
      have h1 : o < n * k := by have := (List.getElem?_eq_some_iff.1 hv).1; simp at this; omega
      rw [List.getElem?_take_of_lt h1] at hv
      simpa using hv
    · simp [World.frozen?, hg]
theorem row_own {w : World} {B : Nat} {T : TypeId} {e : Kd} {k n : Nat} {u : Value} {P : List Value} {es : List Dt} {fq : List Nat} (h : w.ownsRow B T k u n P) (ho : OwnL w (List.replicate n e) P es fq) :
    ∃ a c, u = .slice a n c ∧ Own w (.sl e) [.slice a n c] (.sl es) (if n = 0 then [] else rowL u ++ fq) := by
  have hes : es.length = n := by have := ho.dlen; simpa using this
  obtain ⟨a, c, rfl, hc, hb⟩ := row_blk h
  refine ⟨a, c, rfl, ?_⟩
  by_cases h0 : n = 0
  · subst h0
    obtain rfl : es = [] := List.eq_nil_of_length_eq_zero hes
    simp only [if_true]
    exact .nil a c
  · obtain ⟨g, rfl, hb2⟩ := hb h0
    rw [if_neg h0]
    exact own_sl hb2 ho (fun q hq => (List.mem_replicate.1 hq).2) hes h0 hc
theorem rowL_ge {w : World} {B : Nat} {T : TypeId} {k n : Nat} {u : Value} {P : List Value} (h : w.ownsRow B T k u n P) : ∀ b ∈ rowL u, B ≤ b ∧ b < w.heap.size := fun b hb => h.lt b (by simpa [rowL] using hb)
theorem rowL_nodup (u : Value) : (rowL u).Nodup := by unfold rowL; cases u.ownBlock <;> simp
theorem row_own2 {w : World} {B : Nat} {T : TypeId} {e : Kd} {k n : Nat} {a : Option Addr} {c : Nat} {P : List Value} {es : List Dt} {fq : List Nat} (h : w.ownsRow B T k (.slice a n c) n P) (ho : OwnL w (List.replicate n e) P es fq) :
    Own w (.sl e) [.slice a n c] (.sl es) (if n = 0 then [] else rowL (.slice a n c) ++ fq) := by
  obtain ⟨a', c', he, h⟩ := row_own h ho
  injection he with h1 h2 h3
  subst h1; subst h3
  exact h
theorem rowF_ge {B n : Nat} {u : Value} {fq : List Nat} (h : ∀ b ∈ rowL u, B ≤ b) (k : ∀ b ∈ fq, B ≤ b) : ∀ b ∈ (if n = 0 then [] else rowL u ++ fq), B ≤ b := by
  intro b hb
  split at hb
  · simp at hb
  · exact (List.mem_append.1 hb).elim (h b) (k b)
theorem rowF_sub {n : Nat} {u : Value} {fq : List Nat} : ∀ b ∈ (if n = 0 then [] else rowL u ++ fq), b ∈ rowL u ∨ b ∈ fq := by
  intro b hb
  split at hb
  · simp at hb
  · exact List.mem_append.1 hb
theorem rowF_nodup {n : Nat} {u : Value} {fq : List Nat} (h : fq.Nodup) (k : ∀ b ∈ rowL u, b ∉ fq) : (if n = 0 then [] else rowL u ++ fq).Nodup := by
  split
  · exact List.nodup_nil
  · exact List.nodup_append.2 ⟨rowL_nodup u, h, fun x hx y hy e => k x hx (e ▸ hy)⟩
theorem app_nodup {a b : List Nat} (h : a.Nodup) (k : b.Nodup) (d : ∀ x ∈ a, x ∉ b) : (a ++ b).Nodup := List.nodup_append.2 ⟨h, k, fun x hx y hy e => d x hx (e ▸ hy)⟩
theorem mem2 {p : Nat → Prop} {a b : List Nat} (h : ∀ x ∈ a, p x) (k : ∀ x ∈ b, p x) : ∀ x ∈ a ++ b, p x := fun x hx => (List.mem_append.1 hx).elim (h x) (k x)
theorem mk_gr {w : World} {v0 v5 : Value} {s0 s5 : List Dt} {f0 f5 : List Nat} (q1 q2 q3 q4 q6 q7 q8 q9 q10 : Int) (o0 : Own w (.sl .int) [v0] (.sl s0) f0) (o5 : Own w (.sl KPt) [v5] (.sl s5) f5) :
    OwnL w LGraphics [v0, .int .i64 q1, .int .i64 q2, .int .i64 q3, .int .i64 q4, v5, .int .i64 q6, .int .i64 q7, .int .i64 q8, .int .i64 q9, .int .i64 q10] [.sl s0, .int q1, .int q2, .int q3, .int q4, .sl s5, .int q6, .int q7, .int q8, .int q9, .int q10] (f0 ++ f5) := by
  have := OwnL.cons o0 (.cons (fp := []) (.int q1) (.cons (fp := []) (.int q2) (.cons (fp := []) (.int q3) (.cons (fp := []) (.int q4) (.cons o5 (.cons (fp := []) (.int q6) (.cons (fp := []) (.int q7) (.cons (fp := []) (.int q8) (.cons (fp := []) (.int q9) (.cons (fp := []) (.int q10) .nil))))))))))
  simpa using this
theorem mk_ob {w : World} {v0 : Value} {s0 : List Dt} {f0 : List Nat} (q1 q2 q3 q4 q5 : Int) (o0 : Own w (.sl KPt) [v0] (.sl s0) f0) :
    OwnL w LObject [v0, .int .i64 q1, .int .i64 q2, .int .i64 q3, .int .i64 q4, .int .i64 q5] [.sl s0, .int q1, .int q2, .int q3, .int q4, .int q5] f0 := by
  have := OwnL.cons o0 (.cons (fp := []) (.int q1) (.cons (fp := []) (.int q2) (.cons (fp := []) (.int q3) (.cons (fp := []) (.int q4) (.cons (fp := []) (.int q5) .nil)))))
  simpa using this
theorem row_stays {w w' : World} {B : Nat} {T : TypeId} {k n : Nat} {v : Value} {xs : List Value} (h : w.ownsRow B T k v n xs) (hb : ∀ b ∈ rowL v, w'.heap[b]? = w.heap[b]?) : w'.ownsRow B T k v n xs := by
  refine ⟨h.1, ?_⟩
  rcases h.2 with h | ⟨g, cap, cur, rfl, h1, h2, h3⟩
  · exact .inl h
  · exact .inr ⟨g, cap, cur, rfl, h1, (hb g (by simp [rowL, Value.ownBlock])).trans h2, h3⟩
theorem row_set {w : World} {B : Nat} {T : TypeId} {k n : Nat} {v : Value} {xs : List Value} {g : Nat} (h : w.ownsRow B T k v n xs) (hg : g ∉ rowL v) (o : Nat) (u : Value) : (w.setCell ⟨g, o, none⟩ u).ownsRow B T k v n xs :=
  row_stays h (fun b hb => Below.heap_setCell _ _ _ _ (fun e => hg (by have e' : b = g := e; rw [← e']; exact hb)))
theorem row_turned {w w' : World} {B : Nat} {T : TypeId} {k n : Nat} {v : Value} {xs : List Value} {S : Nat → Prop} (h : w.ownsRow B T k v n xs) (ht : Turns w w' S) (hS : ∀ b ∈ rowL v, ¬ S b) : w'.ownsRow B T k v n xs :=
  row_stays h (fun b hb => ht.block b (rowL_ge h b hb).2 (hS b hb))
theorem row_on {w w' : World} {B : Nat} {T : TypeId} {k n : Nat} {v : Value} {xs : List Value} (h : w.ownsRow B T k v n xs) (hb : Below w.heap.size w w') : w'.ownsRow B T k v n xs :=
  row_stays h (fun b hm => hb.block b (rowL_ge h b hm).2)
theorem row_base {w : World} {B C : Nat} {T : TypeId} {k n : Nat} {v : Value} {xs : List Value} (h : w.ownsRow B T k v n xs) (hC : C ≤ B) : w.ownsRow C T k v n xs := by
  refine ⟨h.1, ?_⟩
  rcases h.2 with h | ⟨g, cap, cur, rfl, h1, h2⟩
  · exact .inl h
  · exact .inr ⟨g, cap, cur, rfl, Nat.le_trans hC h1, h2⟩
def GrRows (w : World) (B : Nat) (R : List Value) (g : Gr) (F : List Nat) : Prop := ∃ (a0 : Option Addr) (c0 : Nat) (f0 : List Nat) (a5 : Option Addr) (c5 : Nat) (P5 : List Value),
  R = [.slice a0 g.st.length c0, .int .i64 g.q, .int .i64 g.s, .int .i64 g.dx, .int .i64 g.dy, .slice a5 g.path.length c5, .int .i64 g.gray, .int .i64 g.x0, .int .i64 g.y0, .int .i64 g.x1, .int .i64 g.y1] ∧
  Own w (.sl .int) [.slice a0 g.st.length c0] (.sl (dI g.st)) f0 ∧ w.ownsRow B 109 2 (.slice a5 g.path.length c5) g.path.length P5 ∧ (∀ W, OwnL W (List.replicate g.path.length KPt) P5 (dP g.path) []) ∧
  F = f0 ++ rowL (.slice a5 g.path.length c5) ∧ F.Nodup ∧ ∀ b ∈ F, B ≤ b
theorem GrRows.own {w : World} {B : Nat} {R : List Value} {g : Gr} {F : List Nat} (h : GrRows w B R g F) : ∃ f, OwnL w LGraphics R g.dt f ∧ f.Nodup ∧ (∀ b ∈ f, b ∈ F) := by
  obtain ⟨a0, c0, f0, a5, c5, P5, rfl, o0, r5, O5, rfl, hn, hB⟩ := h
  obtain ⟨n0, n5, d⟩ := nodup_parts hn
  refine ⟨_, by have := mk_gr g.q g.s g.dx g.dy g.gray g.x0 g.y0 g.x1 g.y1 o0 (row_own2 r5 (O5 w)); exact this, app_nodup n0 (rowF_nodup List.nodup_nil (fun b _ h => absurd h List.not_mem_nil)) (fun x hx hy => ?_), ?_⟩
  · rcases rowF_sub x hy with h | h
    · exact d x hx h
    · cases h
  · intro b hb
    rcases List.mem_append.1 hb with h | h
    · exact List.mem_append_left _ h
    · rcases rowF_sub b h with h | h
      · exact List.mem_append_right _ h
      · cases h
theorem GrRows.stays {w w' : World} {B : Nat} {R : List Value} {g : Gr} {F : List Nat} (h : GrRows w B R g F) (hs : w.heap.size ≤ w'.heap.size) (hb : ∀ b ∈ F, w'.heap[b]? = w.heap[b]?) : GrRows w' B R g F := by
  obtain ⟨a0, c0, f0, a5, c5, P5, rfl, o0, r5, O5, rfl, hn, hB⟩ := h
  exact ⟨a0, c0, f0, a5, c5, P5, rfl, o0.stays hs (fun b hm => hb b (List.mem_append_left _ hm)), row_stays r5 (fun b hm => hb b (List.mem_append_right _ hm)), O5, rfl, hn, hB⟩
theorem GrRows.lt {w : World} {B : Nat} {R : List Value} {g : Gr} {F : List Nat} (h : GrRows w B R g F) : ∀ b ∈ F, b < w.heap.size := by
  obtain ⟨a0, c0, f0, a5, c5, P5, rfl, o0, r5, O5, rfl, hn, hB⟩ := h
  exact mem2 (p := fun b => b < w.heap.size) o0.lt (fun b hb => (rowL_ge r5 b hb).2)
def GrNew (g : Gr) (w : World) (e : Ending) (w' : World) : Prop := ∃ (R : Array Value) (F : List Nat), e = .returned (.agg R) ∧ GrRows w' w.heap.size R.toList g F ∧ Below w.heap.size w w'
theorem hand_over {P : Program} {T : TypeId} {n : Nat} (hagg : ∀ w : World, (isAgg T).run P w = .ok true w) (hsz : ∀ w : World, (Go.sizeOf T).run P w = .ok n w) {V w0 : World} {GA GR B : Nat} {cs Z : List Value} (BA : Blk V GA cs) (BR : Blk V GR Z) (hZ : Z.length = n) {ks : List Kd} {ds : List Dt} {f : List Nat} (o : OwnL V ks cs ds f) (hn : szL ks = n) (hB : Below B w0 V) (hR : B ≤ GR) (h0 : B ≤ V.heap.size) :
    ∃ (R : Array Value) (E : World), (hload T ⟨GA, 0, none⟩).run P V = .ok (.agg R) V ∧ (hstore T ⟨GR, 0, none⟩ (.agg R)).run P V = .ok () E ∧ (hload T ⟨GR, 0, none⟩).run P E = .ok (.agg R) E ∧ R.toList = cs ∧ Turns V E (fun b => b = GR) ∧ Below B w0 E := by
  obtain ⟨R, rfl⟩ : ∃ R : Array Value, R.toList = cs := ⟨cs.toArray, rfl⟩
  obtain ⟨Z', rfl⟩ : ∃ R : Array Value, R.toList = Z := ⟨Z.toArray, rfl⟩
  obtain ⟨E, st, BX, tt⟩ := var_put (P := P) (T := T) hsz BR (by simpa using hZ) o hn
  exact ⟨R, E, var_load hagg hsz BA o hn, st, var_load hagg hsz BX o hn, rfl, tt, hB.trans (tt.below h0 (fun k e => e ▸ hR))⟩
theorem flat_rep {k : Kd} (h : k.flat = true) : ∀ n, flatL (List.replicate n k) = true
  | 0 => rfl
  | n + 1 => by rw [List.replicate_succ, flatL, h, flat_rep h n]; rfl
attribute [local go_sem ↓] hload_Graphics hload_Object hstore_Graphics hstore_Object
set_option maxHeartbeats 4000000 in
theorem clone_Graphics (w : World) {A : Array Value} {g : Gr} {fp : List Nat} (hb : bulkL g.dt ≤ 1048576) (h : OwnL w LGraphics A.toList g.dt fp) :
    Calls Tryz.prog 81 #[.agg A] w (GrNew g w) := by
  obtain ⟨a0, c0, a5, c5, f0, f5, hA, hf, o0, o5⟩ := inv_Graphics_ h
  simp only [Gr.dt, bulkL, Dt.bulk, len_dI, len_dP, bulk_dI, bulk_dP] at hb
  simp only [len_dI, len_dP] at hA o0 o5
  obtain ⟨P0, q0, L0, l0, O0, _, e0, _, _⟩ := own_lies o0
  obtain ⟨P5, q5, L5, l5, O5, _, e5, _, _⟩ := own_lies o5
  have F0 : q0 = [] ∧ ∀ W, OwnL W (List.replicate g.st.length Kd.int) P0 (dI g.st) [] := by
    obtain ⟨_, hq, hO⟩ := OwnL.flat (flat_rep rfl _) O0
    subst hq; exact ⟨rfl, hO⟩
  have F5 : q5 = [] ∧ ∀ W, OwnL W (List.replicate g.path.length KPt) P5 (dP g.path) [] := by
    obtain ⟨_, hq, hO⟩ := OwnL.flat (flat_rep rfl _) O5
    subst hq; exact ⟨rfl, hO⟩
  have HF := Lib.hid (And.intro F0.2 F5.2)
  clear O0 O5 F0 F5 o0 o5
  have hw2 : ((w.alloc (.cells A 42)).alloc (.cells #[.slice none 0 0, .int .i64 0, .int .i64 0, .int .i64 0, .int .i64 0, .slice none 0 0, .int .i64 0, .int .i64 0, .int .i64 0, .int .i64 0, .int .i64 0] 42)).heap.size = w.heap.size + 2 := by simp
  have BA : Blk ((w.alloc (.cells A 42)).alloc (.cells #[.slice none 0 0, .int .i64 0, .int .i64 0, .int .i64 0, .int .i64 0, .slice none 0 0, .int .i64 0, .int .i64 0, .int .i64 0, .int .i64 0, .int .i64 0] 42)) w.heap.size A.toList := (Blk.new w A 42 rfl).alloc _
  have BR : Blk ((w.alloc (.cells A 42)).alloc (.cells #[.slice none 0 0, .int .i64 0, .int .i64 0, .int .i64 0, .int .i64 0, .slice none 0 0, .int .i64 0, .int .i64 0, .int .i64 0, .int .i64 0, .int .i64 0] 42)) (w.heap.size + 1) (#[.slice none 0 0, .int .i64 0, .int .i64 0, .int .i64 0, .int .i64 0, .slice none 0 0, .int .i64 0, .int .i64 0, .int .i64 0, .int .i64 0, .int .i64 0] : Array Value).toList := Blk.new _ _ 42 (by simp)
  rw [hA] at BA
  have hW : Below w.heap.size w ((w.alloc (.cells A 42)).alloc (.cells #[.slice none 0 0, .int .i64 0, .int .i64 0, .int .i64 0, .int .i64 0, .slice none 0 0, .int .i64 0, .int .i64 0, .int .i64 0, .int .i64 0, .int .i64 0] 42)) := by go_grown
  have HS := Lib.hid (And.intro BA (And.intro BR (And.intro hW hw2)))
  have HL := Lib.hid (And.intro L0 (And.intro L5 (And.intro l0 l5)))
  have HE := Lib.hid (And.intro e0 e5)
  clear BA BR hW hw2 L0 L5 l0 l5 e0 e5 hA h hf
  go_enter Tryz.func81, Tryz.ntmps81
  go_wp2_with fail
  obtain ⟨W, hWe⟩ : ∃ W, W = ((w.alloc (.cells A 42)).alloc (.cells #[.slice none 0 0, .int .i64 0, .int .i64 0, .int .i64 0, .int .i64 0, .slice none 0 0, .int .i64 0, .int .i64 0, .int .i64 0, .int .i64 0, .int .i64 0] 42)) := ⟨_, rfl⟩
  rw [← hWe] at HS ⊢
  clear hWe
  obtain ⟨GA, hGA⟩ : ∃ x, w.heap.size = x := ⟨_, rfl⟩
  obtain ⟨GR, hGR⟩ : ∃ x, w.heap.size + 1 = x := ⟨_, rfl⟩
  have HS2 : Hid (Blk W GA [Value.slice a0 g.st.length c0, .int .i64 g.q, .int .i64 g.s, .int .i64 g.dx, .int .i64 g.dy, .slice a5 g.path.length c5, .int .i64 g.gray, .int .i64 g.x0, .int .i64 g.y0, .int .i64 g.x1, .int .i64 g.y1] ∧ Blk W GR [.slice none 0 0, .int .i64 0, .int .i64 0, .int .i64 0, .int .i64 0, .slice none 0 0, .int .i64 0, .int .i64 0, .int .i64 0, .int .i64 0, .int .i64 0]) := Lib.hid ⟨hGA ▸ HS.out.1, hGR ▸ HS.out.2.1⟩
  rw [hGR]
  have hWw := Lib.hid HS.out.2.2
  have gA : w.heap.size ≤ GA := by omega
  have gAR : GA < GR := by omega
  have gAW : GA < W.heap.size := by have := hWw.out.2; omega
  have gR : GR < W.heap.size := by have := hWw.out.2; omega
  rw [hGA]
  clear HS hGR
  have c0' := HS2.out.1.1 0 _ rfl
  have c5' := HS2.out.1.1 5 _ rfl
  have fz := HS2.out.1.2.1
  clear hGA
  have hLd := Lib.hid (HL.out.1.on (show Below w.heap.size w W.drew from by have := hWw.out.1; go_grown))
  go_region_law (first
    | (go_simp; go_at_call 117; (with_reducible refine (cop_int _ _ _ _ P0 (by omega) (by have := HL.out.2.2.1; simpa [Kd.sz] using this) HE.out.1 hLd.out).mono ?_); rintro e w1 ⟨m0, d0, rfl, r0, b1⟩; have b1 := on_of (W := W) (by go_grown) b1; have r0 : w1.ownsRow W.heap.size 3 1 (.slice m0 _ d0) _ _ := r0; have k5 := ((bcell b1).1 GA 5 gAW).trans c5'; have hz := b1.size; have HR0 := Lib.hid (And.intro r0 b1); clear r0 b1)
    | (go_simp; go_at_call 118; (with_reducible refine (cop_pts _ _ _ _ P5 (by omega) (by have := HL.out.2.2.2; simpa [Kd.sz, szL] using this) HE.out.2 (HL.out.2.1.on (on_of hWw.out.1 HR0.out.2))).mono ?_); rintro e w2 ⟨m5, d5, rfl, r5, b2⟩; have hz2 := b2.size; have ka := ((bcell b2).1 GA 0 (by omega)).trans (((bcell HR0.out.2).1 GA 0 gAW).trans c0'); have kb := ((bcell b2).1 GA 5 (by omega)).trans k5; have kf : ∀ o, w2.frozen? ⟨GA, o, none⟩ = false := fun o => ((bcell b2).2 GA o (by omega)).trans (((bcell HR0.out.2).2 GA o (by omega)).trans (fz o)); have HR5 := Lib.hid (And.intro r5 b2); clear r5 b2))
  all_goals
    have o0 := row_own2 (Push.owns_on HR0.out.1 HR5.out.2) (HF.out.1 w2)
    have g0 := rowF_ge (n := g.st.length) (fq := []) (fun b hb => (rowL_ge HR0.out.1 b hb).1) (fun b hb => absurd hb List.not_mem_nil)
    have n0 := rowF_nodup (n := g.st.length) (u := .slice m0 g.st.length d0) (fq := []) List.nodup_nil (fun b _ h => absurd h List.not_mem_nil)
    have l0 : ∀ b ∈ (if g.st.length = 0 then [] else rowL (.slice m0 g.st.length d0) ++ []), b < w1.heap.size := fun b hb => by
      rcases rowF_sub b hb with h | h
      · exact (rowL_ge HR0.out.1 b h).2
      · cases h
    generalize (if g.st.length = 0 then [] else rowL (.slice m0 g.st.length d0) ++ []) = F0 at o0 g0 n0 l0
    have g5 := fun b hb => (rowL_ge HR5.out.1 b hb).1
    have o0 := own_setN (own_setN o0 (b := GA) (fun h => by have := g0 _ h; omega) 0 (.slice m0 g.st.length d0)) (b := GA) (fun h => by have := g0 _ h; omega) 5 (.slice m5 g.path.length d5)
    have r5 := row_set (row_set HR5.out.1 (g := GA) (fun h => by have := g5 _ h; omega) 0 (.slice m0 g.st.length d0)) (g := GA) (fun h => by have := g5 _ h; omega) 5 (.slice m5 g.path.length d5)
    have bW2 := on_of (on_of hWw.out.1 HR0.out.2) HR5.out.2
    have bV := (bW2.setCell (p := ⟨GA, 0, none⟩) gA (.slice m0 g.st.length d0)).setCell (p := ⟨GA, 5, none⟩) gA (.slice m5 g.path.length d5)
    have BA2 := (HS2.out.1.keep HR0.out.2).keep HR5.out.2
    have BV := Blk.put (P := [.slice m0 g.st.length d0, .int .i64 g.q, .int .i64 g.s, .int .i64 g.dx, .int .i64 g.dy]) (R := [.int .i64 g.gray, .int .i64 g.x0, .int .i64 g.y0, .int .i64 g.x1, .int .i64 g.y1]) (Blk.put (P := []) BA2 rfl (.slice m0 g.st.length d0)) rfl (.slice m5 g.path.length d5)
    have BR2 := (((HS2.out.2.keep HR0.out.2).keep HR5.out.2).other (b' := GA) (by omega) 0 (.slice m0 g.st.length d0)).other (b' := GA) (by omega) 5 (.slice m5 g.path.length d5)
    have sV : ((w2.setCell ⟨GA, 0, none⟩ (.slice m0 g.st.length d0)).setCell ⟨GA, 5, none⟩ (.slice m5 g.path.length d5)).heap.size = w2.heap.size := by simp [size_sets]
    generalize ((w2.setCell ⟨GA, 0, none⟩ (.slice m0 g.st.length d0)).setCell ⟨GA, 5, none⟩ (.slice m5 g.path.length d5)) = V at o0 r5 bV BV BR2 sV ⊢
    have gw : w.heap.size ≤ W.heap.size := hWw.out.1.size
    have nV := app_nodup n0 (rowL_nodup (.slice m5 g.path.length d5)) (fun x hx hy => by have := l0 x hx; have := g5 x hy; omega)
    have gV := mem2 (p := fun x => W.heap.size ≤ x) g0 (fun x hx => by have := g5 x hx; omega)
    have GV : GrRows V w.heap.size _ g (F0 ++ rowL (.slice m5 g.path.length d5)) := ⟨m0, d0, F0, m5, d5, P5, rfl, o0, row_base r5 (by omega), HF.out.2, rfl, nV, fun b hb => by have := gV b hb; omega⟩
    obtain ⟨fV, oV, _, _⟩ := GV.own
    obtain ⟨R, E, s1, s2, s3, e4, tE, bE⟩ := hand_over (P := Tryz.prog) (T := 42) Tryz.isAgg42 Tryz.sizeOf42 BV BR2 rfl oV rfl bV (by omega) (by omega)
    have GE := GV.stays tE.size (fun b hb => tE.block b (GV.lt b hb) (fun e => by have := gV b hb; have e' : b = GR := e; omega))
    have GE : GrRows E w.heap.size R.toList g (F0 ++ rowL (.slice m5 g.path.length d5)) := by rw [e4]; exact GE
    have HX := Lib.hid (And.intro GE (And.intro bE s3))
    clear o0 g0 n0 l0 bV BV BR2 BA2 bW2 oV nV gV GV GE bE s3 ka kb kf k5 c0' c5' fz r0 b1 g5 r5 e4 tE sV
    go_wp2
    refine bodyPost_ret (v := .agg R) ?_ rfl ⟨R, _, rfl, HX.out.1, HX.out.2.1⟩
    exact results_h Tryz.results81 (by rfl) HX.out.2.2
end Go.Proofs.YtjmfgbbngocodaaGreat.Own

namespace Go.Proofs.YtjmfgbbngocodaaGreat.Own
open Go.ChangeShapes Go.WideShapes Go.ChangeAt Go.RowKit
open Kit Slabs Ints Stack Point Turn
set_option linter.unusedVariables false
set_option linter.unusedSimpArgs false
set_option linter.unnecessarySimpa false
set_option maxRecDepth 100000
attribute [local go_sem ↓] hload_Graphics hload_Object hstore_Graphics hstore_Object
set_option maxHeartbeats 4000000 in
theorem copy_Graphics (w : World) {A : Array Value} {g : Gr} {fp : List Nat} (hb : bulkL g.dt ≤ 1048576) (h : OwnL w LGraphics A.toList g.dt fp) :
    Calls Tryz.prog 62 #[.agg A] w (GrNew g w) := by
  have HOA := Lib.hid h
  obtain ⟨a0, c0, a5, c5, f0, f5, hA, hf, o0, o5⟩ := inv_Graphics_ h
  simp only [Gr.dt, bulkL, Dt.bulk, len_dI, len_dP, bulk_dI, bulk_dP] at hb
  simp only [len_dI, len_dP] at hA o0 o5
  obtain ⟨P0, q0, L0, l0, O0, _, e0, _, _⟩ := own_lies o0
  obtain ⟨P5, q5, L5, l5, O5, _, e5, _, _⟩ := own_lies o5
  have F0 : q0 = [] ∧ ∀ W, OwnL W (List.replicate g.st.length Kd.int) P0 (dI g.st) [] := by
    obtain ⟨_, hq, hO⟩ := OwnL.flat (flat_rep rfl _) O0
    subst hq; exact ⟨rfl, hO⟩
  have F5 : q5 = [] ∧ ∀ W, OwnL W (List.replicate g.path.length KPt) P5 (dP g.path) [] := by
    obtain ⟨_, hq, hO⟩ := OwnL.flat (flat_rep rfl _) O5
    subst hq; exact ⟨rfl, hO⟩
  have HF := Lib.hid (And.intro F0.2 F5.2)
  clear O0 O5 F0 F5 o0 o5
  have hw2 : ((w.alloc (.cells A 42)).alloc (.cells #[.slice none 0 0, .int .i64 0, .int .i64 0, .int .i64 0, .int .i64 0, .slice none 0 0, .int .i64 0, .int .i64 0, .int .i64 0, .int .i64 0, .int .i64 0] 42)).heap.size = w.heap.size + 2 := by simp
  have BA : Blk ((w.alloc (.cells A 42)).alloc (.cells #[.slice none 0 0, .int .i64 0, .int .i64 0, .int .i64 0, .int .i64 0, .slice none 0 0, .int .i64 0, .int .i64 0, .int .i64 0, .int .i64 0, .int .i64 0] 42)) w.heap.size A.toList := (Blk.new w A 42 rfl).alloc _
  have BR : Blk ((w.alloc (.cells A 42)).alloc (.cells #[.slice none 0 0, .int .i64 0, .int .i64 0, .int .i64 0, .int .i64 0, .slice none 0 0, .int .i64 0, .int .i64 0, .int .i64 0, .int .i64 0, .int .i64 0] 42)) (w.heap.size + 1) (#[.slice none 0 0, .int .i64 0, .int .i64 0, .int .i64 0, .int .i64 0, .slice none 0 0, .int .i64 0, .int .i64 0, .int .i64 0, .int .i64 0, .int .i64 0] : Array Value).toList := Blk.new _ _ 42 (by simp)
  rw [hA] at BA
  have hW : Below w.heap.size w ((w.alloc (.cells A 42)).alloc (.cells #[.slice none 0 0, .int .i64 0, .int .i64 0, .int .i64 0, .int .i64 0, .slice none 0 0, .int .i64 0, .int .i64 0, .int .i64 0, .int .i64 0, .int .i64 0] 42)) := by go_grown
  have HS := Lib.hid (And.intro BA (And.intro BR (And.intro hW hw2)))
  have HL := Lib.hid (And.intro L0 (And.intro L5 (And.intro l0 l5)))
  have HE := Lib.hid (And.intro e0 e5)
  have HAe := Lib.hid hA
  clear BA BR hW hw2 L0 L5 l0 l5 e0 e5 hA h hf
  have hA' := HOA
  go_enter Tryz.func62, Tryz.ntmps62
  go_upto_region 1 with (fail)
  obtain ⟨W, hWe⟩ : ∃ W, W = ((w.alloc (.cells A 42)).alloc (.cells #[.slice none 0 0, .int .i64 0, .int .i64 0, .int .i64 0, .int .i64 0, .slice none 0 0, .int .i64 0, .int .i64 0, .int .i64 0, .int .i64 0, .int .i64 0] 42)) := ⟨_, rfl⟩
  rw [← hWe] at HS ⊢
  clear hWe
  obtain ⟨GA, hGA⟩ : ∃ x, w.heap.size = x := ⟨_, rfl⟩
  obtain ⟨GR, hGR⟩ : ∃ x, w.heap.size + 1 = x := ⟨_, rfl⟩
  have HS2 : Hid (Blk W GA [Value.slice a0 g.st.length c0, .int .i64 g.q, .int .i64 g.s, .int .i64 g.dx, .int .i64 g.dy, .slice a5 g.path.length c5, .int .i64 g.gray, .int .i64 g.x0, .int .i64 g.y0, .int .i64 g.x1, .int .i64 g.y1] ∧ Blk W GR [.slice none 0 0, .int .i64 0, .int .i64 0, .int .i64 0, .int .i64 0, .slice none 0 0, .int .i64 0, .int .i64 0, .int .i64 0, .int .i64 0, .int .i64 0]) := Lib.hid ⟨hGA ▸ HS.out.1, hGR ▸ HS.out.2.1⟩
  rw [hGR]
  have hWw := Lib.hid HS.out.2.2
  have gA : w.heap.size ≤ GA := by omega
  have gAR : GA < GR := by omega
  have gAW : GA < W.heap.size := by have := hWw.out.2; omega
  have gR : GR < W.heap.size := by have := hWw.out.2; omega
  rw [hGA]
  clear HS hGR
  have HAl : Hid (Blk W GA A.toList) := Lib.hid (by rw [HAe.out]; exact HS2.out.1)
  have la := var_load (P := Tryz.prog) (T := 42) Tryz.isAgg42 Tryz.sizeOf42 HAl.out HOA.out rfl
  obtain ⟨E, st, BX, cx, zx⟩ := var_new (P := Tryz.prog) (T := 42) Tryz.sizeOf42 W #[.slice none 0 0, .int .i64 0, .int .i64 0, .int .i64 0, .int .i64 0, .slice none 0 0, .int .i64 0, .int .i64 0, .int .i64 0, .int .i64 0, .int .i64 0] rfl HOA.out rfl
  obtain ⟨O, hO⟩ : ∃ O, W.heap.size = O := ⟨_, rfl⟩
  have HBO : Hid (Blk E O [Value.slice a0 g.st.length c0, .int .i64 g.q, .int .i64 g.s, .int .i64 g.dx, .int .i64 g.dy, .slice a5 g.path.length c5, .int .i64 g.gray, .int .i64 g.x0, .int .i64 g.y0, .int .i64 g.x1, .int .i64 g.y1]) := Lib.hid (by have := HAe.out; rw [← this, ← hO]; exact BX)
  have HAE := Lib.hid (And.intro (HS2.out.1.keep cx) (HS2.out.2.keep cx))
  have HWE := Lib.hid (And.intro (on_of hWw.out.1 cx) cx)
  have ce0 := HAE.out.1.1 0 _ rfl
  have gO : GR < O := by omega
  have zO : O < E.heap.size := by omega
  rw [hO] at st
  have oW : W.heap.size ≤ O := by omega
  have oW2 : w.heap.size ≤ O := by have := hWw.out.1.size; omega
  clear BX cx zx hGA
  go_wp2_with fail
  clear st la ce0 hO
  ((with_reducible refine (cop_l05 _ a0 g.st.length c0 P0 (by omega) (by have := HL.out.2.2.1; simpa [Kd.sz] using this) HE.out.1 (HL.out.1.on HWE.out.1)).mono ?_); rintro e w1 ⟨m0, d0, rfl, r0, b1⟩)
  have HB1 := Lib.hid (And.intro (HBO.out.keep b1) (And.intro (HAE.out.1.keep b1) (HAE.out.2.keep b1)))
  have HW1 := Lib.hid (on_of HWE.out.1 b1)
  have z1 := b1.size
  have fO := HB1.out.1.2.1
  have k0 := HB1.out.1.1 0 _ rfl
  have k5 := HB1.out.2.1.1 5 _ rfl
  have HR0 := Lib.hid (And.intro r0 b1)
  clear r0 b1
  have H5 := Lib.hid (And.intro (HF.out.1 w1) (And.intro (HL.out.2.1.on HW1.out) HL.out.2.2.2))
  go_upto_region 3 with (fail)
  clear k0 k5 fO
  have r0' := row_own2 HR0.out.1 (HF.out.1 w1)
  have g0 := rowF_ge (n := g.st.length) (fq := []) (fun b hb => (rowL_ge HR0.out.1 b hb).1) (fun b hb => absurd hb List.not_mem_nil)
  have n0 := rowF_nodup (n := g.st.length) (u := .slice m0 g.st.length d0) (fq := []) List.nodup_nil (fun b _ h => absurd h List.not_mem_nil)
  generalize (if g.st.length = 0 then [] else rowL (.slice m0 g.st.length d0) ++ []) = F0 at r0' g0 n0
  have o0 := own_setN r0' (b := O) (fun h => by have := g0 _ h; omega) 0 (.slice m0 g.st.length d0)
  have l0 := o0.lt
  have BO := Blk.put (P := []) HB1.out.1 rfl (.slice m0 g.st.length d0)
  have BG := HB1.out.2.1.other (b' := O) (by omega) 0 (.slice m0 g.st.length d0)
  have BR := HB1.out.2.2.other (b' := O) (by omega) 0 (.slice m0 g.st.length d0)
  have bV := HW1.out.setCell (p := ⟨O, 0, none⟩) oW2 (.slice m0 g.st.length d0)
  have sV : (w1.setCell ⟨O, 0, none⟩ (.slice m0 g.st.length d0)).heap.size = w1.heap.size := by simp [size_sets]
  generalize w1.setCell ⟨O, 0, none⟩ (.slice m0 g.st.length d0) = V at o0 l0 BO BG BR bV sV ⊢
  have ho := World.ownsRow_made V #[] (e := 109) (size := 2) 0 (Nat.le_refl _) (by decide) (by simp)
  have bV2 : Below V.heap.size V (V.alloc (.cells #[] 109)) := by go_grown
  have L5 := Lib.hid (HL.out.2.1.on (on_of bV bV2))
  have HV := Lib.hid (And.intro o0 (And.intro BO (And.intro BG (And.intro BR (And.intro bV ho)))))
  have k5 := BG.1 5 _ rfl
  have Hn := Lib.hid (And.intro n0 (And.intro g0 l0))
  have sVl := Nat.le_of_eq sV
  have sVg := Nat.le_of_eq sV.symm
  have gAV : GA < V.heap.size := by omega
  clear o0 BO BG BR bV ho n0 r0' l0 g0 sV
  go_wp2_with (at_builtin; refine wpList_append_sl _ et_pts rfl _ _ rfl V.heap.size _ 0 _ [] rfl HV.out.2.2.2.2.2 a5 g.path.length c5 P5 rfl (by have := HL.out.2.2.2; simpa [Kd.sz, szL] using this) L5.out HE.out.2 (by unfold maxLen; omega) (by omega) (by simp) ?_)
  intro m5 d5 w2 r5 hgrow _
  try simp only [List.nil_append, Nat.zero_add] at r5
  have b2 : Below V.heap.size V w2 := bV2.grown hgrow (by simp) (fun q hq => by have := (HV.out.2.2.2.2.2.lt q hq).1; omega)
  have BO2 := HV.out.2.1.keep b2
  have fO := BO2.2.1
  have k05 := BO2.1 5 _ rfl
  have HX2 := Lib.hid (And.intro b2 (And.intro BO2 r5))
  have z2 := b2.size
  clear b2 BO2 r5 hgrow bV2 k5
  go_upto_region 4 with (fail)
  clear fO k05
  have g5 := fun b hb => (rowL_ge HX2.out.2.2 b hb).1
  have o0 := own_setN (HV.out.1.under HX2.out.1) (b := O) (fun h => by have := Hn.out.2.1 _ h; omega) 5 (.slice m5 g.path.length d5)
  have r5 := row_set HX2.out.2.2 (g := O) (fun h => by have := g5 _ h; omega) 5 (.slice m5 g.path.length d5)
  have BV := Blk.put (P := [.slice m0 g.st.length d0, .int .i64 g.q, .int .i64 g.s, .int .i64 g.dx, .int .i64 g.dy]) (R := [.int .i64 g.gray, .int .i64 g.x0, .int .i64 g.y0, .int .i64 g.x1, .int .i64 g.y1]) HX2.out.2.1 rfl (.slice m5 g.path.length d5)
  have BR2 := (HV.out.2.2.2.1.keep HX2.out.1).other (b' := O) (by omega) 5 (.slice m5 g.path.length d5)
  have bV := (on_of HV.out.2.2.2.2.1 HX2.out.1).setCell (p := ⟨O, 5, none⟩) oW2 (.slice m5 g.path.length d5)
  have sV2 : (w2.setCell ⟨O, 5, none⟩ (.slice m5 g.path.length d5)).heap.size = w2.heap.size := by simp [size_sets]
  generalize w2.setCell ⟨O, 5, none⟩ (.slice m5 g.path.length d5) = V2 at o0 r5 bV BV BR2 sV2 ⊢
  have nV := app_nodup Hn.out.1 (rowL_nodup (.slice m5 g.path.length d5)) (fun x hx hy => by have := Hn.out.2.2 x hx; have := g5 x hy; omega)
  have gV := mem2 (p := fun x => E.heap.size ≤ x) Hn.out.2.1 (fun x hx => by have := g5 x hx; omega)
  have eE := HWE.out.2.size
  have gw : w.heap.size ≤ W.heap.size := hWw.out.1.size
  have GV : GrRows V2 w.heap.size _ g (F0 ++ rowL (.slice m5 g.path.length d5)) := ⟨m0, d0, F0, m5, d5, P5, rfl, o0, row_base r5 (by omega), HF.out.2, rfl, nV, fun b hb => by have := gV b hb; omega⟩
  obtain ⟨fV, oV, _, _⟩ := GV.own
  obtain ⟨R, E2, s1, s2, s3, e4, tE, bE⟩ := hand_over (P := Tryz.prog) (T := 42) Tryz.isAgg42 Tryz.sizeOf42 BV BR2 rfl oV rfl bV (by omega) (by omega)
  have GE := GV.stays tE.size (fun b hb => tE.block b (GV.lt b hb) (fun e => by have := gV b hb; have e' : b = GR := e; omega))
  have GE : GrRows E2 w.heap.size R.toList g (F0 ++ rowL (.slice m5 g.path.length d5)) := by rw [e4]; exact GE
  have HX := Lib.hid (And.intro GE (And.intro bE s3))
  clear o0 g5 r5 bV BV BR2 oV nV gV GV GE bE s3 e4 tE sV2
  go_wp2
  refine bodyPost_ret (v := .agg R) ?_ rfl ⟨R, _, rfl, HX.out.1, HX.out.2.1⟩
  exact results_h Tryz.results62 (by rfl) HX.out.2.2
end Go.Proofs.YtjmfgbbngocodaaGreat.Own

