/-
  Texts of this seat, laid together: Cop, ClA, ClB, Is9, Lw9, MkO
-/
import Derived.WalkKit
import Derived.Handy
import Derived.Laws.EntriesVeiled
import Derived.Lib.Hide
import Derived.Laws.OwnMore
import Derived.Deep.RegionLaw
import Derived.Deep.DeepCutAuto
import Derived.Deep.QuietTactic
import Derived.BigQuiet
import Derived.Deep.RegionHeld3
import Derived.Test.YtbdjnfnphilklaaM13
import Derived.Test.YtbdjnfnphilklaaM15
import Derived.Test.YtbdjnfnphilklaaM10
import Derived.Test.YtbdjnfnphilklaaM27
import Derived.Test.YtbdjnfnphilklaaM04
import Derived.Test.YtbdjnfnphilklaaM05
import Derived.Test.YtbdjnfnphilklaaM20
import Derived.Test.YtbdjnfnphilklaaM09
import Derived.Test.YtbdjnfnphilklaaM12
namespace Go.Proofs.Ytbdjnfnphilklaa.Own
open Go.ChangeShapes Go.WideShapes Go.ChangeAt Go.RowKit
open Kit Slabs Ints Stack Point Turn
set_option linter.unusedVariables false
set_option linter.unusedSimpArgs false
set_option linter.unnecessarySimpa false
set_option maxRecDepth 100000
def Cop (T : TypeId) (k n : Nat) (cs : List Value) (w : World) (e : Ending) (w' : World) : Prop := ∃ a c, e = .returned (.slice a n c) ∧ w'.ownsRow w.heap.size T k (.slice a n c) n cs ∧ Below w.heap.size w w'
theorem cop_of {T : TypeId} {k n : Nat} {cs : List Value} {w w' : World} {u : Value} (h : w'.ownsRow w.heap.size T k u n cs) (b : Below w.heap.size w w') : Cop T k n cs w (.returned u) w' := by
  have h2 := h
  rcases h.2 with ⟨rfl, rfl⟩ | ⟨g, cap, cur, rfl, _⟩
  · exact ⟨_, _, rfl, h2, b⟩
  · exact ⟨_, _, rfl, h2, b⟩
theorem inf_int : (Try.prog.info? 3).map (fun i => (i.zero, i.size, i.bytes)) = some (some (.int .i64 0), 1, 8) := by kernel_rfl
theorem et_int : ElemT Try.prog 27 3 1 8 := by
  obtain ⟨i0, hi0, hz0, hz1, hz2⟩ := info_parts inf_int
  exact ⟨i0, _, Try.underlying27, hi0, hz0, hz1, hz2, rfl, by decide⟩
theorem inf_pts : (Try.prog.info? 113).map (fun i => (i.zero, i.size, i.bytes)) = some (some (.agg #[.int .i64 0, .int .i64 0]), 2, 16) := by kernel_rfl
theorem et_pts : ElemT Try.prog 36 113 2 16 := by
  obtain ⟨i0, hi0, hz0, hz1, hz2⟩ := info_parts inf_pts
  exact ⟨i0, _, Try.underlying36, hi0, hz0, hz1, hz2, rfl, by decide⟩
set_option maxHeartbeats 1000000 in
theorem cop_pts (w : World) (a : Option Addr) (n cap : Nat) (cs : List Value) (hn : n ≤ 1048576) (hl : cs.length = n * 2) (h1 : ∀ u ∈ cs, u.oneCell' = true) (h : Lies w a cs) :
    Calls Try.prog 101 #[.slice a n cap] w (Cop 113 2 n cs w) := by
  have ho := World.ownsRow_made w #[] (e := 113) (size := 2) 0 (Nat.le_refl _) (by decide) (by simp)
  have HO := Lib.hid (And.intro ho (And.intro hl (And.intro h1 (h.on (show Below w.heap.size w (w.alloc (.cells #[] 113)) from by go_grown)))))
  clear ho hl h1 h
  go_enter Try.func101, Try.ntmps101
  go_wp2_with (at_builtin; refine wpList_append_sl _ et_pts rfl _ _ rfl w.heap.size _ 0 _ [] rfl HO.out.1 a n cap cs rfl HO.out.2.1 HO.out.2.2.2 HO.out.2.2.1 ?c3 ?c4 ?c5 ?_)
  case c3 => unfold maxLen; omega
  case c4 => omega
  case c5 => simp
  intro a2 c2 w2 hown hgrow _
  have hB := ((Below.refl w.heap.size w).alloc (Nat.le_refl _) (.cells #[] 113)).grown hgrow (by simp) (fun q hq => by have := (HO.out.1.lt q hq).1; omega)
  have HX := Lib.hid (And.intro hown hB)
  clear hown hB hgrow
  go_wp2
  go_ret
  exact cop_of (by simpa using HX.out.1) HX.out.2
theorem inf_obs : (Try.prog.info? 40).map (fun i => (i.zero, i.size, i.bytes)) = some (some (.agg #[.slice none 0 0, .int .i64 0, .int .i64 0, .int .i64 0, .int .i64 0, .int .i64 0]), 6, 64) := by kernel_rfl
theorem et_obs : ElemT Try.prog 24 40 6 64 := by
  obtain ⟨i0, hi0, hz0, hz1, hz2⟩ := info_parts inf_obs
  exact ⟨i0, _, Try.underlying24, hi0, hz0, hz1, hz2, rfl, by decide⟩
set_option maxHeartbeats 1000000 in
theorem cop_obs (w : World) (a : Option Addr) (n cap : Nat) (cs : List Value) (hn : n ≤ 1048576) (hl : cs.length = n * 6) (h1 : ∀ u ∈ cs, u.oneCell' = true) (h : Lies w a cs) :
    Calls Try.prog 94 #[.slice a n cap] w (Cop 40 6 n cs w) := by
  have ho := World.ownsRow_made w #[] (e := 40) (size := 6) 0 (Nat.le_refl _) (by decide) (by simp)
  have HO := Lib.hid (And.intro ho (And.intro hl (And.intro h1 (h.on (show Below w.heap.size w (w.alloc (.cells #[] 40)) from by go_grown)))))
  clear ho hl h1 h
  go_enter Try.func94, Try.ntmps94
  go_wp2_with (at_builtin; refine wpList_append_sl _ et_obs rfl _ _ rfl w.heap.size _ 0 _ [] rfl HO.out.1 a n cap cs rfl HO.out.2.1 HO.out.2.2.2 HO.out.2.2.1 ?c3 ?c4 ?c5 ?_)
  case c3 => unfold maxLen; omega
  case c4 => omega
  case c5 => simp
  intro a2 c2 w2 hown hgrow _
  have hB := ((Below.refl w.heap.size w).alloc (Nat.le_refl _) (.cells #[] 40)).grown hgrow (by simp) (fun q hq => by have := (HO.out.1.lt q hq).1; omega)
  have HX := Lib.hid (And.intro hown hB)
  clear hown hB hgrow
  go_wp2
  go_ret
  exact cop_of (by simpa using HX.out.1) HX.out.2
end Go.Proofs.Ytbdjnfnphilklaa.Own
namespace Go.Proofs.Ytbdjnfnphilklaa.Own
open Go.ChangeShapes Go.WideShapes Go.ChangeAt Go.RowKit
open Kit Slabs Ints Stack Point Turn
set_option linter.unusedVariables false
set_option linter.unusedSimpArgs false
set_option linter.unnecessarySimpa false
set_option maxRecDepth 100000
theorem own_lies {w : World} {e : Kd} {a : Option Addr} {n c : Nat} {es : List Dt} {fp : List Nat} (h : Own w (.sl e) [.slice a n c] (.sl es) fp) :
    ∃ P fq, Lies w a P ∧ P.length = n * e.sz ∧ OwnL w (List.replicate n e) P es fq ∧ (∀ b ∈ fq, b ∈ fp) ∧ (∀ u ∈ P, u.oneCell' = true) ∧ es.length = n ∧ (fp.Nodup → fq.Nodup) := by
  rcases h.sl_is with ⟨a', cap, hv, hd, hf⟩ | ⟨g', n', cap, es', P, fq, hv, hd, hf, hl, hn, hnc, hP, ho, hb⟩
  · simp only [Value.slice.injEq] at hv
    obtain ⟨rfl, rfl, rfl⟩ := hv
    simp only [Dt.sl.injEq] at hd
    subst hd
    exact ⟨[], [], .inl rfl, by simp, .nil, by simp, by simp, rfl, fun _ => List.nodup_nil⟩
  · simp only [Value.slice.injEq] at hv
    obtain ⟨rfl, rfl, rfl⟩ := hv
    simp only [Dt.sl.injEq] at hd
    subst hd
    subst hf
    exact ⟨P, fq, .inr ⟨g', 0, rfl, hb.2.2, fun j u hu => by rw [Nat.zero_add]; exact hb.1 j u hu⟩, hP, ho, fun b hm => List.mem_cons_of_mem _ hm, fun u hu => ho.one u hu, hl, fun hn => (List.nodup_cons.1 hn).2⟩
theorem row_blk {w : World} {B : Nat} {T : TypeId} {k n : Nat} {u : Value} {P : List Value} (h : w.ownsRow B T k u n P) : ∃ a c, u = .slice a n c ∧ n ≤ c ∧ (n ≠ 0 → ∃ g, a = some ⟨g, 0, none⟩ ∧ Blk w g P) := by
  obtain ⟨hl, h⟩ := h
  rcases h with ⟨rfl, rfl⟩ | ⟨g, cap, cur, rfl, hB, hg, hc, _, hs, ht⟩
  · exact ⟨none, 0, rfl, Nat.le_refl _, fun h => absurd rfl h⟩
  · refine ⟨_, _, rfl, hc, fun _ => ⟨g, rfl, fun o v hv => ?_, fun o => ?_, (Array.getElem?_eq_some_iff.1 hg).1⟩⟩
    · rw [cell_of_row _ _ _ _ _ _ hg]
      rw [← ht] at hv
      have h1 : o < n * k := by have := (List.getElem?_eq_some_iff.1 hv).1; simp at this; omega
      rw [List.getElem?_take_of_lt h1] at hv
      simpa using hv
    · simp [World.frozen?, hg]
theorem row_own {w : World} {B : Nat} {T : TypeId} {e : Kd} {k n : Nat} {u : Value} {P : List Value} {es : List Dt} {fq : List Nat} (h : w.ownsRow B T k u n P) (ho : OwnL w (List.replicate n e) P es fq) :
    ∃ a c, u = .slice a n c ∧ Own w (.sl e) [.slice a n c] (.sl es) (if n = 0 then [] else rowL u ++ fq) := by
  have hes : es.length = n := by have := ho.dlen; simpa using this
  obtain ⟨a, c, rfl, hc, hb⟩ := row_blk h
  refine ⟨a, c, rfl, ?_⟩
  by_cases h0 : n = 0
  · subst h0
    obtain rfl : es = [] := List.eq_nil_of_length_eq_zero hes
    simp only [if_true]
    exact .nil a c
  · obtain ⟨g, rfl, hb2⟩ := hb h0
    rw [if_neg h0]
    exact own_sl hb2 ho (fun q hq => (List.mem_replicate.1 hq).2) hes h0 hc
theorem rowL_ge {w : World} {B : Nat} {T : TypeId} {k n : Nat} {u : Value} {P : List Value} (h : w.ownsRow B T k u n P) : ∀ b ∈ rowL u, B ≤ b ∧ b < w.heap.size := fun b hb => h.lt b (by simpa [rowL] using hb)
theorem rowL_nodup (u : Value) : (rowL u).Nodup := by unfold rowL; cases u.ownBlock <;> simp
theorem row_own2 {w : World} {B : Nat} {T : TypeId} {e : Kd} {k n : Nat} {a : Option Addr} {c : Nat} {P : List Value} {es : List Dt} {fq : List Nat} (h : w.ownsRow B T k (.slice a n c) n P) (ho : OwnL w (List.replicate n e) P es fq) :
    Own w (.sl e) [.slice a n c] (.sl es) (if n = 0 then [] else rowL (.slice a n c) ++ fq) := by
  obtain ⟨a', c', he, h⟩ := row_own h ho
  injection he with h1 h2 h3
  subst h1; subst h3
  exact h
theorem rowF_ge {B n : Nat} {u : Value} {fq : List Nat} (h : ∀ b ∈ rowL u, B ≤ b) (k : ∀ b ∈ fq, B ≤ b) : ∀ b ∈ (if n = 0 then [] else rowL u ++ fq), B ≤ b := by
  intro b hb
  split at hb
  · simp at hb
  · exact (List.mem_append.1 hb).elim (h b) (k b)
theorem rowF_sub {n : Nat} {u : Value} {fq : List Nat} : ∀ b ∈ (if n = 0 then [] else rowL u ++ fq), b ∈ rowL u ∨ b ∈ fq := by
  intro b hb
  split at hb
  · simp at hb
  · exact List.mem_append.1 hb
theorem rowF_nodup {n : Nat} {u : Value} {fq : List Nat} (h : fq.Nodup) (k : ∀ b ∈ rowL u, b ∉ fq) : (if n = 0 then [] else rowL u ++ fq).Nodup := by
  split
  · exact List.nodup_nil
  · exact List.nodup_append.2 ⟨rowL_nodup u, h, fun x hx y hy e => k x hx (e ▸ hy)⟩
theorem app_nodup {a b : List Nat} (h : a.Nodup) (k : b.Nodup) (d : ∀ x ∈ a, x ∉ b) : (a ++ b).Nodup := List.nodup_append.2 ⟨h, k, fun x hx y hy e => d x hx (e ▸ hy)⟩
theorem mem2 {p : Nat → Prop} {a b : List Nat} (h : ∀ x ∈ a, p x) (k : ∀ x ∈ b, p x) : ∀ x ∈ a ++ b, p x := fun x hx => (List.mem_append.1 hx).elim (h x) (k x)
theorem mk_gr {w : World} {v0 v5 : Value} {s0 s5 : List Dt} {f0 f5 : List Nat} (q1 q2 q3 q4 q6 q7 q8 q9 q10 : Int) (o0 : Own w (.sl .int) [v0] (.sl s0) f0) (o5 : Own w (.sl KPt) [v5] (.sl s5) f5) :
    OwnL w LGraphics [v0, .int .i64 q1, .int .i64 q2, .int .i64 q3, .int .i64 q4, v5, .int .i64 q6, .int .i64 q7, .int .i64 q8, .int .i64 q9, .int .i64 q10] [.sl s0, .int q1, .int q2, .int q3, .int q4, .sl s5, .int q6, .int q7, .int q8, .int q9, .int q10] (f0 ++ f5) := by
  have := OwnL.cons o0 (.cons (fp := []) (.int q1) (.cons (fp := []) (.int q2) (.cons (fp := []) (.int q3) (.cons (fp := []) (.int q4) (.cons o5 (.cons (fp := []) (.int q6) (.cons (fp := []) (.int q7) (.cons (fp := []) (.int q8) (.cons (fp := []) (.int q9) (.cons (fp := []) (.int q10) .nil))))))))))
  simpa using this
theorem mk_ob {w : World} {v0 : Value} {s0 : List Dt} {f0 : List Nat} (q1 q2 q3 q4 q5 : Int) (o0 : Own w (.sl KPt) [v0] (.sl s0) f0) :
    OwnL w LObject [v0, .int .i64 q1, .int .i64 q2, .int .i64 q3, .int .i64 q4, .int .i64 q5] [.sl s0, .int q1, .int q2, .int q3, .int q4, .int q5] f0 := by
  have := OwnL.cons o0 (.cons (fp := []) (.int q1) (.cons (fp := []) (.int q2) (.cons (fp := []) (.int q3) (.cons (fp := []) (.int q4) (.cons (fp := []) (.int q5) .nil)))))
  simpa using this
theorem row_stays {w w' : World} {B : Nat} {T : TypeId} {k n : Nat} {v : Value} {xs : List Value} (h : w.ownsRow B T k v n xs) (hb : ∀ b ∈ rowL v, w'.heap[b]? = w.heap[b]?) : w'.ownsRow B T k v n xs := by
  refine ⟨h.1, ?_⟩
  rcases h.2 with h | ⟨g, cap, cur, rfl, h1, h2, h3⟩
  · exact .inl h
  · exact .inr ⟨g, cap, cur, rfl, h1, (hb g (by simp [rowL, Value.ownBlock])).trans h2, h3⟩
theorem row_set {w : World} {B : Nat} {T : TypeId} {k n : Nat} {v : Value} {xs : List Value} {g : Nat} (h : w.ownsRow B T k v n xs) (hg : g ∉ rowL v) (o : Nat) (u : Value) : (w.setCell ⟨g, o, none⟩ u).ownsRow B T k v n xs :=
  row_stays h (fun b hb => Below.heap_setCell _ _ _ _ (fun e => hg (by have e' : b = g := e; rw [← e']; exact hb)))
theorem row_turned {w w' : World} {B : Nat} {T : TypeId} {k n : Nat} {v : Value} {xs : List Value} {S : Nat → Prop} (h : w.ownsRow B T k v n xs) (ht : Turns w w' S) (hS : ∀ b ∈ rowL v, ¬ S b) : w'.ownsRow B T k v n xs :=
  row_stays h (fun b hb => ht.block b (rowL_ge h b hb).2 (hS b hb))
theorem row_on {w w' : World} {B : Nat} {T : TypeId} {k n : Nat} {v : Value} {xs : List Value} (h : w.ownsRow B T k v n xs) (hb : Below w.heap.size w w') : w'.ownsRow B T k v n xs :=
  row_stays h (fun b hm => hb.block b (rowL_ge h b hm).2)
theorem row_base {w : World} {B C : Nat} {T : TypeId} {k n : Nat} {v : Value} {xs : List Value} (h : w.ownsRow B T k v n xs) (hC : C ≤ B) : w.ownsRow C T k v n xs := by
  refine ⟨h.1, ?_⟩
  rcases h.2 with h | ⟨g, cap, cur, rfl, h1, h2⟩
  · exact .inl h
  · exact .inr ⟨g, cap, cur, rfl, Nat.le_trans hC h1, h2⟩
def GrRows (w : World) (B : Nat) (R : List Value) (g : Gr) (F : List Nat) : Prop := ∃ (a0 : Option Addr) (c0 : Nat) (f0 : List Nat) (a5 : Option Addr) (c5 : Nat) (P5 : List Value),
  R = [.slice a0 g.st.length c0, .int .i64 g.q, .int .i64 g.s, .int .i64 g.dx, .int .i64 g.dy, .slice a5 g.path.length c5, .int .i64 g.gray, .int .i64 g.x0, .int .i64 g.y0, .int .i64 g.x1, .int .i64 g.y1] ∧
  Own w (.sl .int) [.slice a0 g.st.length c0] (.sl (dI g.st)) f0 ∧ w.ownsRow B 113 2 (.slice a5 g.path.length c5) g.path.length P5 ∧ (∀ W, OwnL W (List.replicate g.path.length KPt) P5 (dP g.path) []) ∧
  F = f0 ++ rowL (.slice a5 g.path.length c5) ∧ F.Nodup ∧ ∀ b ∈ F, B ≤ b
theorem GrRows.own {w : World} {B : Nat} {R : List Value} {g : Gr} {F : List Nat} (h : GrRows w B R g F) : ∃ f, OwnL w LGraphics R g.dt f ∧ f.Nodup ∧ (∀ b ∈ f, b ∈ F) := by
  obtain ⟨a0, c0, f0, a5, c5, P5, rfl, o0, r5, O5, rfl, hn, hB⟩ := h
  obtain ⟨n0, n5, d⟩ := nodup_parts hn
  refine ⟨_, by have := mk_gr g.q g.s g.dx g.dy g.gray g.x0 g.y0 g.x1 g.y1 o0 (row_own2 r5 (O5 w)); exact this, app_nodup n0 (rowF_nodup List.nodup_nil (fun b _ h => absurd h List.not_mem_nil)) (fun x hx hy => ?_), ?_⟩
  · rcases rowF_sub x hy with h | h
    · exact d x hx h
    · cases h
  · intro b hb
    rcases List.mem_append.1 hb with h | h
    · exact List.mem_append_left _ h
    · rcases rowF_sub b h with h | h
      · exact List.mem_append_right _ h
      · cases h
theorem GrRows.stays {w w' : World} {B : Nat} {R : List Value} {g : Gr} {F : List Nat} (h : GrRows w B R g F) (hs : w.heap.size ≤ w'.heap.size) (hb : ∀ b ∈ F, w'.heap[b]? = w.heap[b]?) : GrRows w' B R g F := by
  obtain ⟨a0, c0, f0, a5, c5, P5, rfl, o0, r5, O5, rfl, hn, hB⟩ := h
  exact ⟨a0, c0, f0, a5, c5, P5, rfl, o0.stays hs (fun b hm => hb b (List.mem_append_left _ hm)), row_stays r5 (fun b hm => hb b (List.mem_append_right _ hm)), O5, rfl, hn, hB⟩
theorem GrRows.lt {w : World} {B : Nat} {R : List Value} {g : Gr} {F : List Nat} (h : GrRows w B R g F) : ∀ b ∈ F, b < w.heap.size := by
  obtain ⟨a0, c0, f0, a5, c5, P5, rfl, o0, r5, O5, rfl, hn, hB⟩ := h
  exact mem2 (p := fun b => b < w.heap.size) o0.lt (fun b hb => (rowL_ge r5 b hb).2)
def GrNew (g : Gr) (w : World) (e : Ending) (w' : World) : Prop := ∃ (R : Array Value) (F : List Nat), e = .returned (.agg R) ∧ GrRows w' w.heap.size R.toList g F ∧ Below w.heap.size w w'
theorem hand_over {P : Program} {T : TypeId} {n : Nat} (hagg : ∀ w : World, (isAgg T).run P w = .ok true w) (hsz : ∀ w : World, (Go.sizeOf T).run P w = .ok n w) {V w0 : World} {GA GR B : Nat} {cs Z : List Value} (BA : Blk V GA cs) (BR : Blk V GR Z) (hZ : Z.length = n) {ks : List Kd} {ds : List Dt} {f : List Nat} (o : OwnL V ks cs ds f) (hn : szL ks = n) (hB : Below B w0 V) (hR : B ≤ GR) (h0 : B ≤ V.heap.size) :
    ∃ (R : Array Value) (E : World), (hload T ⟨GA, 0, none⟩).run P V = .ok (.agg R) V ∧ (hstore T ⟨GR, 0, none⟩ (.agg R)).run P V = .ok () E ∧ (hload T ⟨GR, 0, none⟩).run P E = .ok (.agg R) E ∧ R.toList = cs ∧ Turns V E (fun b => b = GR) ∧ Below B w0 E := by
  obtain ⟨R, rfl⟩ : ∃ R : Array Value, R.toList = cs := ⟨cs.toArray, rfl⟩
  obtain ⟨Z', rfl⟩ : ∃ R : Array Value, R.toList = Z := ⟨Z.toArray, rfl⟩
  obtain ⟨E, st, BX, tt⟩ := var_put (P := P) (T := T) hsz BR (by simpa using hZ) o hn
  exact ⟨R, E, var_load hagg hsz BA o hn, st, var_load hagg hsz BX o hn, rfl, tt, hB.trans (tt.below h0 (fun k e => e ▸ hR))⟩
theorem flat_rep {k : Kd} (h : k.flat = true) : ∀ n, flatL (List.replicate n k) = true
  | 0 => rfl
  | n + 1 => by rw [List.replicate_succ, flatL, h, flat_rep h n]; rfl
attribute [local go_sem ↓] hload_Object hstore_Object
end Go.Proofs.Ytbdjnfnphilklaa.Own
namespace Go.Proofs.Ytbdjnfnphilklaa.Own
open Go.ChangeShapes Go.WideShapes Go.ChangeAt Go.RowKit
open Kit Slabs Ints Stack Point Turn
set_option linter.unusedVariables false
set_option linter.unusedSimpArgs false
set_option linter.unnecessarySimpa false
set_option maxRecDepth 100000
attribute [local go_sem ↓] hload_Object hstore_Object
end Go.Proofs.Ytbdjnfnphilklaa.Own
namespace Go.Proofs.Ytbdjnfnphilklaa.Ins
open Go.ChangeShapes Go.WideShapes Go.ChangeAt Go.RowKit Go.Shelf
open Kit Point
set_option linter.unusedVariables false
set_option linter.unusedSimpArgs false
set_option linter.unnecessarySimpa false
def encP (p : Pt) : List Value := [.int .i64 p.1, .int .i64 p.2]
end Go.Proofs.Ytbdjnfnphilklaa.Ins
namespace Go.Proofs.Ytbdjnfnphilklaa.Ins
open Go.ChangeShapes Go.WideShapes Go.ChangeAt Go.RowKit
open Kit Point Slabs Recs
set_option linter.unusedVariables false
set_option linter.unusedSimpArgs false
set_option linter.unnecessarySimpa false
theorem recs_keep9 {w w' : World} {a : Option Addr} {n c : Nat} {z : Nat → Nat → Value} (h : IsRecs Spans.kl w a n c z) (hb : Below w.heap.size w w') : IsRecs Spans.kl w' a n c z := by
  obtain ⟨h1, h2, h3⟩ := h
  refine ⟨h1, h2, ?_⟩
  rcases h3 with h3 | ⟨g, o, ha, hg, h4⟩
  · exact .inl h3
  · exact .inr ⟨g, o, ha, Nat.lt_of_lt_of_le hg hb.size, fun i hi j kd hk => ⟨(hb.cell (p := ⟨g, _, none⟩) hg).trans (h4 i hi j kd hk).1, (h4 i hi j kd hk).2⟩⟩
theorem slab_path9 {w : World} {B n : Nat} {v : Value} {z : Nat → Nat → Value} (h : Slab w B v n 2 (fun i => [z i 0, z i 1])) (hs : Spans.Shape (fun i => [z i 0, z i 1]) n) :
    ∃ a c, v = .slice a (plst z n).length c ∧ PathAt w a (plst z n) := slab_path h (show Points.Shape _ _ from hs)
theorem pcF_shape9 (l : List Pt) (n : Nat) : Spans.Shape (pcF l) n := fun i _ => ⟨_, _, rfl⟩
theorem slab_owns9 {w : World} {B : Nat} {v : Value} {m : List Pt} (h : w.ownsRow B 96 2 v m.length (cellsP m)) : Slab w B v m.length 2 (pcF m) :=
  Slab.of_owns (by rw [flat_pc]; exact h) (pcF_len m)
variable {w : World} {B n : Nat} {v : Value} {z : Nat → Nat → Value}
theorem sok_impl_v (h : Slab w B v n 2 (fun i => [z i 0, z i 1])) (hs : Spans.Shape (fun i => [z i 0, z i 1]) n) (hn : n ≤ 1048576) :
    Calls Try.prog 118 #[v] w fun e w' => e = .returned (.bool (spB (plst z n))) ∧ Below w.heap.size w w' := by
  obtain ⟨a, c, rfl, hp⟩ := slab_path9 h hs; exact sok_impl w a c _ (by rw [plst_len]; exact hn) hp
theorem meet_impl_v (h : Slab w B v n 2 (fun i => [z i 0, z i 1])) (hs : Spans.Shape (fun i => [z i 0, z i 1]) n) (hn : n ≤ 1048576) (x y : Int) :
    Calls Try.prog 103 #[v, .int .i64 x, .int .i64 y] w fun e w' => ∃ u : Value, e = .returned u ∧ Slab w' w.heap.size u (mtV (plst z n) x y).length 2 (pcF (mtV (plst z n) x y)) ∧ Below w.heap.size w w' := by
  obtain ⟨a, c, rfl, hp⟩ := slab_path9 h hs
  exact (meet_impl w a c _ x y (by rw [plst_len]; exact hn) hp).mono fun e w' ⟨u, he, ho, hb⟩ => ⟨u, he, slab_owns9 ho, hb⟩
theorem spsV_len (l : List Pt) (y : Int) : 2 * (spsV l y).length ≤ l.length := by
  unfold spsV
  split
  · have := cols_len l y l.length; rw [prs_len]; omega
  · simp
theorem sa_impl_v (h : Slab w B v n 2 (fun i => [z i 0, z i 1])) (hs : Points.Shape (fun i => [z i 0, z i 1]) n) (hn : n ≤ 1048576) (y : Int) :
    Calls Try.prog 120 #[v, .int .i64 y] w fun e w' => ∃ u : Value, e = .returned u ∧ Slab w' w.heap.size u (spsV (plst z n) y).length 2 (pcF (spsV (plst z n) y)) ∧ Below w.heap.size w w' := by
  obtain ⟨a, c, rfl, hp⟩ := slab_path h hs
  exact (sa_impl w a c _ y (by rw [plst_len]; exact hn) hp).mono fun e w' ⟨u, he, ho, hb⟩ => ⟨u, he, slab_owns9 ho, hb⟩
end Go.Proofs.Ytbdjnfnphilklaa.Ins
namespace Go.Proofs.Ytbdjnfnphilklaa.Own
open Go.ChangeShapes Go.WideShapes Go.ChangeAt Go.RowKit
open Kit Slabs Ints
set_option linter.unusedVariables false
set_option linter.unusedSimpArgs false
set_option linter.unnecessarySimpa false
set_option maxRecDepth 100000
end Go.Proofs.Ytbdjnfnphilklaa.Own
