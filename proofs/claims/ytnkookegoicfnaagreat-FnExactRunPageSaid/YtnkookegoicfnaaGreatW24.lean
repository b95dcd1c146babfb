/-
  Texts of this seat, laid together: ClE
-/
import Derived.Test.YtnkookegoicfnaaGreatW23
namespace Go.Proofs.YtnkookegoicfnaaGreat.Own
open Go.ChangeShapes Go.WideShapes Go.ChangeAt Go.RowKit
open Kit Slabs Ints Stack Point Turn
set_option linter.unusedVariables false
set_option linter.unusedSimpArgs false
set_option linter.unnecessarySimpa false
set_option maxRecDepth 100000
attribute [local go_sem ↓] hload_Graphics hload_Object hstore_Graphics hstore_Object hload_Page hstore_Page
def Mid1 (p : Pg) (B GA GR : Nat) (P11 P12 : List Value) (w wx : World) : Prop := ∃ (R1 : Array Value) (F1 : List Nat) (a : Option Addr) (c : Nat) (a' : Option Addr) (c' : Nat),
  Blk wx GA (R1.toList ++ [.slice a p.saved.length c, .slice a' p.objs.length c']) ∧ Blk wx GR (#[.slice none 0 0, .int .i64 0, .int .i64 0, .int .i64 0, .int .i64 0, .slice none 0 0, .int .i64 0, .int .i64 0, .int .i64 0, .int .i64 0, .int .i64 0, .slice none 0 0, .slice none 0 0] : Array Value).toList ∧ GrRows wx B R1.toList p.now F1 ∧ wx.ownsRow B 42 11 (.slice a p.saved.length c) p.saved.length P11 ∧ wx.ownsRow B 101 6 (.slice a' p.objs.length c') p.objs.length P12 ∧ (F1 ++ (rowL (.slice a p.saved.length c) ++ rowL (.slice a' p.objs.length c'))).Nodup ∧ Below w.heap.size w wx
theorem GrRows.ge {w : World} {B : Nat} {R : List Value} {g : Gr} {F : List Nat} (h : GrRows w B R g F) : ∀ b ∈ F, B ≤ b := by
  obtain ⟨a0, c0, f0, a5, c5, P5, rfl, o0, r5, O5, rfl, hn, hB⟩ := h; exact hB
theorem GrRows.nodup {w : World} {B : Nat} {R : List Value} {g : Gr} {F : List Nat} (h : GrRows w B R g F) : F.Nodup := by
  obtain ⟨a0, c0, f0, a5, c5, P5, rfl, o0, r5, O5, rfl, hn, hB⟩ := h; exact hn
theorem GrRows.under {w w' : World} {B : Nat} {R : List Value} {g : Gr} {F : List Nat} (h : GrRows w B R g F) (hb : Below w.heap.size w w') : GrRows w' B R g F := h.stays hb.size (fun b hm => hb.block b (h.lt b hm))
theorem GrRows.set {w : World} {B : Nat} {R : List Value} {g : Gr} {F : List Nat} {b : Nat} (h : GrRows w B R g F) (hn : b ∉ F) (o : Nat) (v : Value) : GrRows (w.setCell ⟨b, o, none⟩ v) B R g F := h.stays (by simp) (fun x hx => Below.heap_setCell _ _ _ _ (fun e => hn (by have e' : x = b := e; rw [← e']; exact hx)))
theorem one_of {w : World} {B : Nat} {R : List Value} {g : Gr} {F : List Nat} (h : GrRows w B R g F) : ∀ u ∈ R, u.oneCell' = true := by
  obtain ⟨f, o, _⟩ := h.own; exact o.one
theorem mid_of {p : Pg} {GA GR : Nat} {P11 P12 : List Value} {w W w1 w2 w3 V : World} {R1 : Array Value} {F1 : List Nat} {a11 a12 m11 m12 : Option Addr} {c11 c12 d11 d12 : Nat}
    (hW : Below w.heap.size w W) (gA : w.heap.size ≤ GA) (gAR : GA < GR) (gAW : GA < W.heap.size) (gR : GR < W.heap.size) (BR : Blk W GR (#[.slice none 0 0, .int .i64 0, .int .i64 0, .int .i64 0, .int .i64 0, .slice none 0 0, .int .i64 0, .int .i64 0, .int .i64 0, .int .i64 0, .int .i64 0, .slice none 0 0, .slice none 0 0] : Array Value).toList)
    (g1 : GrRows w1 W.heap.size R1.toList p.now F1) (b1 : Below W.heap.size W w1) (r11 : w2.ownsRow w1.heap.size 42 11 (.slice m11 p.saved.length d11) p.saved.length P11) (b2 : Below w1.heap.size w1 w2)
    (r12 : w3.ownsRow w2.heap.size 101 6 (.slice m12 p.objs.length d12) p.objs.length P12) (b3 : Below w2.heap.size w2 w3) (BV : Blk V GA (R1.toList ++ [.slice a11 p.saved.length c11, .slice a12 p.objs.length c12])) (tV : Turns w3 V (fun b => b = GA)) :
    Mid1 p W.heap.size GA GR P11 P12 w ((V.setCell ⟨GA, 11, none⟩ (.slice m11 p.saved.length d11)).setCell ⟨GA, 12, none⟩ (.slice m12 p.objs.length d12)) := by
  have z1 := b1.size
  have z2 := b2.size
  have z3 := b3.size
  have zV := tV.size
  have zW := hW.size
  have hge : ∀ b ∈ F1, W.heap.size ≤ b ∧ b < w1.heap.size := fun b hb => ⟨g1.ge b hb, g1.lt b hb⟩
  have r11' := row_on r11 b3
  have g11 := rowL_ge r11
  have g12 := rowL_ge r12
  have GV := (((g1.under b2).under b3).stays tV.size (fun b hb => tV.block b (by have := hge b hb; omega) (fun e => by have e' : b = GA := e; have := hge b hb; omega)))
  have R11 := row_turned r11' tV (fun b hb e => by have e' : b = GA := e; have := g11 b hb; omega)
  have R12 := row_turned r12 tV (fun b hb e => by have e' : b = GA := e; have := g12 b hb; omega)
  have BV1 := Blk.put (o := 11) (P := R1.toList) (R := [.slice a12 p.objs.length c12]) BV g1.len (.slice m11 p.saved.length d11)
  have BV2 := Blk.put (o := 12) (P := R1.toList ++ [.slice m11 p.saved.length d11]) (R := []) (by simpa using BV1) (by rw [List.length_append, g1.len]; rfl) (.slice m12 p.objs.length d12)
  have BR2 := (((BR.keep (on_of (on_of b1 b2) b3)).turned tV (fun e => by have e' : GR = GA := e; omega)).other (b' := GA) (by omega) 11 (.slice m11 p.saved.length d11)).other (b' := GA) (by omega) 12 (.slice m12 p.objs.length d12)
  have bV := (((on_of (on_of (on_of hW b1) b2) b3).trans (tV.below (by omega) (fun k e => by have e' : k = GA := e; omega))).setCell (p := ⟨GA, 11, none⟩) gA (.slice m11 p.saved.length d11)).setCell (p := ⟨GA, 12, none⟩) gA (.slice m12 p.objs.length d12)
  exact ⟨R1, F1, m11, d11, m12, d12, by simpa using BV2, BR2,
        (GV.set (fun h => by have := hge _ h; omega) 11 _).set (fun h => by have := hge _ h; omega) 12 _,
        row_base (row_set (row_set R11 (fun h => by have := g11 _ h; omega) 11 _) (fun h => by have := g11 _ h; omega) 12 _) (by omega),
        row_base (row_set (row_set R12 (fun h => by have := g12 _ h; omega) 11 _) (fun h => by have := g12 _ h; omega) 12 _) (by omega),
        app_nodup g1.nodup (app_nodup (rowL_nodup _) (rowL_nodup _) (fun x hx hy => by have := g11 x hx; have := g12 x hy; omega)) (fun x hx hy => by
          have h1 := hge x hx
          rcases List.mem_append.1 hy with h | h
          · have := g11 x h; omega
          · have := g12 x h; omega), bV⟩
theorem GrRows.base {w : World} {B C : Nat} {R : List Value} {g : Gr} {F : List Nat} (h : GrRows w B R g F) (hC : C ≤ B) : GrRows w C R g F := by
  obtain ⟨a0, c0, f0, a5, c5, P5, rfl, o0, r5, O5, rfl, hn, hB⟩ := h
  exact ⟨a0, c0, f0, a5, c5, P5, rfl, o0, row_base r5 hC, O5, rfl, hn, fun b hb => Nat.le_trans hC (hB b hb)⟩
theorem PgRows.base {w : World} {B C : Nat} {R : List Value} {p : Pg} {F : List Nat} (h : PgRows w B R p F) (hC : C ≤ B) : PgRows w C R p F := by
  obtain ⟨G, F0, a11, c11, P11, f11, a12, c12, P12, f12, rfl, g0, r11, o11, r12, o12, rfl, hn, hB⟩ := h
  exact ⟨G, F0, a11, c11, P11, f11, a12, c12, P12, f12, rfl, g0.base hC, row_base r11 hC, o11, row_base r12 hC, o12, rfl, hn, fun b hb => Nat.le_trans hC (hB b hb)⟩
theorem PgRows.ge {w : World} {B : Nat} {R : List Value} {p : Pg} {F : List Nat} (h : PgRows w B R p F) : ∀ b ∈ F, B ≤ b := by
  obtain ⟨G, F0, a11, c11, P11, f11, a12, c12, P12, f12, rfl, g0, r11, o11, r12, o12, rfl, hn, hB⟩ := h; exact hB
def Lp (p : Pg) (B GA GR : Nat) (b11 : Option Addr) (d11 : Nat) (b12 : Option Addr) (d12 : Nat) (P11 P12 : List Value) (R1 : List Value) (F1 : List Nat) (w : World) (k j : Nat) (wr : World) : Prop := ∃ (Q : List Value) (fq : List Nat) (U : List Value) (fu : List Nat),
  Q.length = k * 11 ∧ U.length = j * 6 ∧ Blk wr GA (R1 ++ [.slice b11 p.saved.length d11, .slice b12 p.objs.length d12]) ∧ Blk wr GR (#[.slice none 0 0, .int .i64 0, .int .i64 0, .int .i64 0, .int .i64 0, .slice none 0 0, .int .i64 0, .int .i64 0, .int .i64 0, .int .i64 0, .int .i64 0, .slice none 0 0, .slice none 0 0] : Array Value).toList ∧ GrRows wr B R1 p.now F1 ∧
  wr.ownsRow B 42 11 (.slice b11 p.saved.length d11) p.saved.length (Q ++ P11.drop (k * 11)) ∧ OwnL wr (List.replicate k KGraphics) Q ((dG p.saved).take k) fq ∧
  wr.ownsRow B 101 6 (.slice b12 p.objs.length d12) p.objs.length (U ++ P12.drop (j * 6)) ∧ OwnL wr (List.replicate j KObject) U ((dO p.objs).take j) fu ∧
  (F1 ++ (rowL (.slice b11 p.saved.length d11) ++ (fq ++ (rowL (.slice b12 p.objs.length d12) ++ fu)))).Nodup ∧ (∀ b ∈ fq ++ fu, B ≤ b) ∧ Below w.heap.size w wr
theorem pick_rep {w : World} {ks : List Kd} : ∀ {n i : Nat} {P : List Value} {es : List Dt} {f : List Nat}, OwnL w (List.replicate n (.st ks)) P es f → (hi : i < es.length) →
    ∃ A cs D ds f', P = A ++ (cs ++ D) ∧ A.length = i * szL ks ∧ cs.length = szL ks ∧ es[i] = .st ds ∧ OwnL w ks cs ds f' ∧ (∀ b ∈ f', b ∈ f)
  | 0, i, P, es, f, h, hi => by
    cases h; simp at hi
  | n + 1, 0, P, es, f, h, hi => by
    rw [List.replicate_succ] at h
    cases h with
    | cons h r =>
      cases h with
      | st h => exact ⟨[], _, _, _, _, rfl, by simp, h.len, rfl, h, fun b hb => List.mem_append_left _ hb⟩
  | n + 1, i + 1, P, es, f, h, hi => by
    rw [List.replicate_succ] at h
    cases h with
    | cons h r =>
      obtain ⟨A, cs, D, ds, f', rfl, e1, e2, e3, o, e4⟩ := pick_rep r (i := i) (by simpa using hi)
      exact ⟨_ ++ A, cs, D, ds, f', (List.append_assoc _ _ _).symm, by rw [List.length_append, h.len, e1, Kd.sz, Nat.succ_mul]; omega, e2, by simpa using e3, o, fun b hb => List.mem_append_right _ (e4 b hb)⟩
theorem Lp.start {p : Pg} {B GA GR : Nat} {P11 P12 : List Value} {w wx : World} (h : Mid1 p B GA GR P11 P12 w wx) (hB : w.heap.size ≤ B) : ∃ b11 d11 b12 d12 R1 F1, Lp p B GA GR b11 d11 b12 d12 P11 P12 R1 F1 w 0 0 wx ∧ R1.length = 11 := by
  obtain ⟨R1, F1, b11, d11, b12, d12, BG, BRc, g1, r11, r12, nd, bw⟩ := h
  exact ⟨b11, d11, b12, d12, R1.toList, F1, ⟨[], [], [], [], rfl, rfl, BG, BRc, g1, by simpa using r11, .nil, by simpa using r12, .nil, by simpa using nd, by simp, bw⟩, g1.len⟩
theorem Lp.on {p : Pg} {B GA GR : Nat} {b11 b12 : Option Addr} {d11 d12 : Nat} {P11 P12 R1 : List Value} {F1 : List Nat} {w : World} {k j : Nat} {wr w' : World} (h : Lp p B GA GR b11 d11 b12 d12 P11 P12 R1 F1 w k j wr) (hb : Below wr.heap.size wr w') : Lp p B GA GR b11 d11 b12 d12 P11 P12 R1 F1 w k j w' := by
  obtain ⟨Q, fq, U, fu, e1, e2, BG, BRc, g1, r11, o11, r12, o12, nd, hf, bw⟩ := h
  exact ⟨Q, fq, U, fu, e1, e2, BG.keep hb, BRc.keep hb, g1.under hb, row_on r11 hb, o11.under hb, row_on r12 hb, o12.under hb, nd, hf, on_of bw hb⟩
theorem Lp.cells {p : Pg} {B GA GR : Nat} {b11 b12 : Option Addr} {d11 d12 : Nat} {P11 P12 R1 : List Value} {F1 : List Nat} {w : World} {k j : Nat} {wr : World} (h : Lp p B GA GR b11 d11 b12 d12 P11 P12 R1 F1 w k j wr) (hl : R1.length = 11) : wr.cell? ⟨GA, 11, none⟩ = some (.slice b11 p.saved.length d11) ∧ wr.cell? ⟨GA, 12, none⟩ = some (.slice b12 p.objs.length d12) := by
  obtain ⟨Q, fq, U, fu, e1, e2, BG, _⟩ := h
  exact ⟨BG.1 11 _ (by rw [List.getElem?_append_right (by omega)]; simp [hl]), BG.1 12 _ (by rw [List.getElem?_append_right (by omega)]; simp [hl])⟩
theorem Lp.below {p : Pg} {B GA GR : Nat} {b11 b12 : Option Addr} {d11 d12 : Nat} {P11 P12 R1 : List Value} {F1 : List Nat} {w : World} {k j : Nat} {wr : World} (h : Lp p B GA GR b11 d11 b12 d12 P11 P12 R1 F1 w k j wr) : Below w.heap.size w wr := by
  obtain ⟨Q, fq, U, fu, e1, e2, BG, BRc, g1, r11, o11, r12, o12, nd, hf, bw⟩ := h; exact bw
theorem Lp.done {p : Pg} {B GA GR : Nat} {b11 b12 : Option Addr} {d11 d12 : Nat} {P11 P12 R1 : List Value} {F1 : List Nat} {w wr : World} (h : Lp p B GA GR b11 d11 b12 d12 P11 P12 R1 F1 w p.saved.length p.objs.length wr) (l11 : P11.length = p.saved.length * 11) (l12 : P12.length = p.objs.length * 6) :
    ∃ F, PgRows wr B (R1 ++ [.slice b11 p.saved.length d11, .slice b12 p.objs.length d12]) p F ∧ Blk wr GA (R1 ++ [.slice b11 p.saved.length d11, .slice b12 p.objs.length d12]) ∧ Blk wr GR (#[.slice none 0 0, .int .i64 0, .int .i64 0, .int .i64 0, .int .i64 0, .slice none 0 0, .int .i64 0, .int .i64 0, .int .i64 0, .int .i64 0, .int .i64 0, .slice none 0 0, .slice none 0 0] : Array Value).toList := by
  obtain ⟨Q, fq, U, fu, e1, e2, BG, BRc, g1, r11, o11, r12, o12, nd, hf, bw⟩ := h
  rw [← l11, List.drop_length, List.append_nil] at r11
  rw [← l12, List.drop_length, List.append_nil] at r12
  rw [← len_dG, List.take_length] at o11
  rw [← len_dO, List.take_length] at o12
  rw [len_dG] at o11
  rw [len_dO] at o12
  refine ⟨_, ⟨R1, F1, b11, d11, Q, fq, b12, d12, U, fu, rfl, g1, r11, o11, r12, o12, rfl, nd, ?_⟩, BG, BRc⟩
  refine mem2 (p := fun b => B ≤ b) g1.ge (mem2 (p := fun b => B ≤ b) (fun b hb => (rowL_ge r11 b hb).1) (mem2 (p := fun b => B ≤ b) (fun b hb => hf b (List.mem_append_left _ hb)) (mem2 (p := fun b => B ≤ b) (fun b hb => (rowL_ge r12 b hb).1) (fun b hb => hf b (List.mem_append_right _ hb)))))
theorem nd_out1 {F1 fq s fu : List Nat} {g : Nat} (h : (F1 ++ ([g] ++ (fq ++ (s ++ fu)))).Nodup) (hb : g ∈ F1 ++ (s ++ (fq ++ fu))) : False := by
  obtain ⟨_, h2, d⟩ := nodup_parts h
  obtain ⟨_, h3, d2⟩ := nodup_parts h2
  have e := d2 g (by simp)
  rcases List.mem_append.1 hb with h | h
  · exact d g h (by simp)
  · apply e
    simp only [List.mem_append] at h ⊢
    rcases h with h | h | h
    · exact .inr (.inl h)
    · exact .inl h
    · exact .inr (.inr h)
theorem nd_out2 {F1 r fq fu : List Nat} {g : Nat} (h : (F1 ++ (r ++ (fq ++ ([g] ++ fu)))).Nodup) (hb : g ∈ F1 ++ (r ++ (fq ++ fu))) : False := by
  obtain ⟨_, h2, d⟩ := nodup_parts h
  obtain ⟨_, h3, d2⟩ := nodup_parts h2
  obtain ⟨_, h4, d3⟩ := nodup_parts h3
  obtain ⟨_, _, d4⟩ := nodup_parts h4
  simp only [List.mem_append] at hb
  rcases hb with h | h | h | h
  · exact d g h (by simp)
  · exact d2 g h (by simp)
  · exact d3 g h (by simp)
  · exact d4 g (by simp) h
theorem nd_ins1 {F1 r s a b F : List Nat} (h : (F1 ++ (r ++ (a ++ (s ++ b)))).Nodup) (hF : F.Nodup) (d : ∀ x ∈ F1 ++ (r ++ (a ++ (s ++ b))), x ∉ F) : (F1 ++ (r ++ ((a ++ F) ++ (s ++ b)))).Nodup := by
  have h2 := app_nodup h hF d
  refine (List.Perm.nodup_iff ?_).1 h2
  simp only [List.append_assoc]
  refine List.Perm.append_left _ (List.Perm.append_left _ (List.Perm.append_left _ ?_))
  rw [← List.append_assoc, ← List.append_assoc F]
  have := List.perm_append_comm (l₁ := s ++ b) (l₂ := F)
  simpa using this
theorem nd_ins2 {F1 r s a b F : List Nat} (h : (F1 ++ (r ++ (a ++ (s ++ b)))).Nodup) (hF : F.Nodup) (d : ∀ x ∈ F1 ++ (r ++ (a ++ (s ++ b))), x ∉ F) : (F1 ++ (r ++ (a ++ (s ++ (b ++ F))))).Nodup := by
  have h2 := app_nodup h hF d
  simpa [List.append_assoc] using h2
theorem Lp.one {p : Pg} {B GA GR : Nat} {b11 b12 : Option Addr} {d11 d12 : Nat} {P11 P12 R1 : List Value} {F1 : List Nat} {w : World} {k j : Nat} {wr : World} (h : Lp p B GA GR b11 d11 b12 d12 P11 P12 R1 F1 w k j wr)
    {q : List Nat} (O : OwnL w (List.replicate p.saved.length KGraphics) P11 (dG p.saved) q) (hk : k < p.saved.length) (hG : GA < B) (hR : GR < B) (hw : w.heap.size ≤ B) :
    ∃ g C f, b11 = some ⟨g, 0, none⟩ ∧ B ≤ g ∧ g < wr.heap.size ∧ OwnL w LGraphics C.toList p.saved[k].dt f ∧ (hload 42 ⟨g, k * 11, none⟩).run Tryz.prog wr = .ok (.agg C) wr ∧
      ∀ (w5 : World) (R : Array Value) (F : List Nat), Below wr.heap.size wr w5 → OwnL w5 LGraphics R.toList p.saved[k].dt F → F.Nodup → (∀ b ∈ F, wr.heap.size ≤ b) →
        ∃ V, (hstore 42 ⟨g, k * 11, none⟩ (.agg R)).run Tryz.prog w5 = .ok () V ∧ Turns w5 V (fun b => b = g) ∧ Lp p B GA GR b11 d11 b12 d12 P11 P12 R1 F1 w (k + 1) j V := by
  obtain ⟨Q, fq, U, fu, e1, e2, BG, BRc, g1, r11, o11, r12, o12, nd, hf, bw⟩ := h
  have hke : k < (dG p.saved).length := by rw [len_dG]; exact hk
  obtain ⟨A, cs, D, ds, f', hP, lA, lc, he, oc, _⟩ := pick_rep O hke
  have e3 : (dG p.saved)[k] = .st p.saved[k].dt := by simp [dG]
  rw [e3] at he
  injection he with he
  subst he
  have lA' : A.length = k * 11 := lA
  have lc' : cs.length = 11 := lc
  have hd : P11.drop (k * 11) = cs ++ D := by rw [hP, ← lA', List.drop_left]
  have hd2 : P11.drop ((k + 1) * 11) = D := by
    rw [hP, ← List.append_assoc, show (k + 1) * 11 = (A ++ cs).length by rw [List.length_append, lA', lc', Nat.succ_mul], List.drop_left]
  rw [hd] at r11
  obtain ⟨g, rfl, hg, bg, cg, hnc, hcm⟩ := row_cap r11 (by omega)
  have hgr : rowL (.slice (some ⟨g, 0, none⟩) p.saved.length d11) = [g] := rfl
  have hgl := bg.2.2
  have ndg := nd
  rw [hgr] at ndg
  have gOther : ∀ b, b ∈ F1 ++ (rowL (.slice b12 p.objs.length d12) ++ (fq ++ fu)) → b ≠ g := fun b hb e => nd_out1 ndg (e ▸ hb)
  refine ⟨g, cs.toArray, f', rfl, hg, hgl, by simpa using oc, ?_, fun w5 R F hb oR nR gR => ?_⟩
  · exact hload_run (P := Tryz.prog) (t := 42) Tryz.isAgg42 Tryz.sizeOf42 (w := wr) (b := g) (o := k * 11) (us := cs) (Blk.part bg e1) lc
  · have b5 := bg.keep hb
    have lR : R.toList.length = 11 := oR.len
    have st := hstore_run (P := Tryz.prog) (t := 42) Tryz.sizeOf42 (w := w5) (b := g) (o := k * 11) (A := Q) (us := cs) (R := D) (vs := R.toList) b5 e1 (by rw [lR, lc']) lR (fun v hv => oR.one v hv)
    have est : R.toList.toArray = R := by simp
    rw [est] at st
    have BS := Blk.sets (P := Q) (us := cs) (vs := R.toList) (R := D) (w := w5) (b := g) (o := k * 11) b5 e1 (by rw [lR, lc'])
    have cS := (cg.keep hb).sets R.toList (k * 11)
    have tS := turns_sets (S := fun b => b = g) g rfl R.toList (k * 11) w5
    generalize w5.setCells g (k * 11) R.toList = V at st BS cS tS
    refine ⟨V, st, tS, Q ++ R.toList, fq ++ F, U, fu, by rw [List.length_append, e1, lR, Nat.succ_mul], e2, ((BG.keep hb).turned tS (fun e => by have e' : GA = g := e; omega)), ((BRc.keep hb).turned tS (fun e => by have e' : GR = g := e; omega)), ?_, (by rw [hd2]; exact (cap_row (by simpa using BS) cS (by have h2 := r11.1; simp only [List.length_append, e1, lc', lR] at h2 ⊢; omega) hnc hcm hg)), (by rw [List.take_succ_eq_append_getElem hke, e3, List.replicate_succ']; exact ((o11.under hb).turned tS (fun b hm e => gOther b (by simp [hm]) e)).snoc (.st (oR.turned tS (fun b hm e => by have e' : b = g := e; have := gR b hm; omega)))), (row_turned (row_on r12 hb) tS (fun b hm e => gOther b (by simp [hm]) e)), ((o12.under hb).turned tS (fun b hm e => gOther b (by simp [hm]) e)), ?_, ?_, ?_⟩
    · exact (g1.under hb).stays tS.size (fun b hm => tS.block b (by have := g1.lt b hm; have := hb.size; omega) (fun e => gOther b (by simp [hm]) e))
    · exact nd_ins1 nd nR (fun x hx hy => by
        have := gR x hy
        rcases List.mem_append.1 hx with h | h
        · have := g1.lt x h; omega
        rcases List.mem_append.1 h with h | h
        · have := (rowL_ge r11 x h).2; omega
        rcases List.mem_append.1 h with h | h
        · have := o11.lt x h; omega
        rcases List.mem_append.1 h with h | h
        · have := (rowL_ge r12 x h).2; omega
        · have := o12.lt x h; omega)
    · intro b hm
      have hBw : B ≤ wr.heap.size := by omega
      simp only [List.mem_append] at hm
      by_cases hq : b ∈ fq ++ fu
      · exact hf b hq
      · have : b ∈ F := by simp only [List.mem_append] at hq; rcases hm with h | h <;> simp_all
        have := gR b this; omega
    · exact (on_of bw hb).trans (tS.below (by have := bw.size; have := hb.size; omega) (fun x e => by have e' : x = g := e; omega))
theorem Lp.two {p : Pg} {B GA GR : Nat} {b11 b12 : Option Addr} {d11 d12 : Nat} {P11 P12 R1 : List Value} {F1 : List Nat} {w : World} {k j : Nat} {wr : World} (h : Lp p B GA GR b11 d11 b12 d12 P11 P12 R1 F1 w k j wr)
    {q : List Nat} (O : OwnL w (List.replicate p.objs.length KObject) P12 (dO p.objs) q) (hk : j < p.objs.length) (hG : GA < B) (hR : GR < B) (hw : w.heap.size ≤ B) :
    ∃ g C f, b12 = some ⟨g, 0, none⟩ ∧ B ≤ g ∧ g < wr.heap.size ∧ OwnL w LObject C.toList p.objs[j].dt f ∧ (hload 101 ⟨g, j * 6, none⟩).run Tryz.prog wr = .ok (.agg C) wr ∧
      ∀ (w5 : World) (R : Array Value) (F : List Nat), Below wr.heap.size wr w5 → OwnL w5 LObject R.toList p.objs[j].dt F → F.Nodup → (∀ b ∈ F, wr.heap.size ≤ b) →
        ∃ V, (hstore 101 ⟨g, j * 6, none⟩ (.agg R)).run Tryz.prog w5 = .ok () V ∧ Turns w5 V (fun b => b = g) ∧ Lp p B GA GR b11 d11 b12 d12 P11 P12 R1 F1 w k (j + 1) V := by
  obtain ⟨Q, fq, U, fu, e1, e2, BG, BRc, g1, r11, o11, r12, o12, nd, hf, bw⟩ := h
  have hke : j < (dO p.objs).length := by rw [len_dO]; exact hk
  obtain ⟨A, cs, D, ds, f', hP, lA, lc, he, oc, _⟩ := pick_rep O hke
  have e3 : (dO p.objs)[j] = .st p.objs[j].dt := by simp [dO]
  rw [e3] at he
  injection he with he
  subst he
  have lA' : A.length = j * 6 := lA
  have lc' : cs.length = 6 := lc
  have hd : P12.drop (j * 6) = cs ++ D := by rw [hP, ← lA', List.drop_left]
  have hd2 : P12.drop ((j + 1) * 6) = D := by
    rw [hP, ← List.append_assoc, show (j + 1) * 6 = (A ++ cs).length by rw [List.length_append, lA', lc', Nat.succ_mul], List.drop_left]
  rw [hd] at r12
  obtain ⟨g, rfl, hg, bg, cg, hnc, hcm⟩ := row_cap r12 (by omega)
  have hgr : rowL (.slice (some ⟨g, 0, none⟩) p.objs.length d12) = [g] := rfl
  have hgl := bg.2.2
  have ndg := nd
  rw [hgr] at ndg
  have gOther : ∀ b, b ∈ F1 ++ (rowL (.slice b11 p.saved.length d11) ++ (fq ++ fu)) → b ≠ g := fun b hb e => nd_out2 ndg (e ▸ hb)
  refine ⟨g, cs.toArray, f', rfl, hg, hgl, by simpa using oc, ?_, fun w5 R F hb oR nR gR => ?_⟩
  · exact hload_run (P := Tryz.prog) (t := 101) Tryz.isAgg101 Tryz.sizeOf101 (w := wr) (b := g) (o := j * 6) (us := cs) (Blk.part bg e2) lc
  · have b5 := bg.keep hb
    have lR : R.toList.length = 6 := oR.len
    have st := hstore_run (P := Tryz.prog) (t := 101) Tryz.sizeOf101 (w := w5) (b := g) (o := j * 6) (A := U) (us := cs) (R := D) (vs := R.toList) b5 e2 (by rw [lR, lc']) lR (fun v hv => oR.one v hv)
    have est : R.toList.toArray = R := by simp
    rw [est] at st
    have BS := Blk.sets (P := U) (us := cs) (vs := R.toList) (R := D) (w := w5) (b := g) (o := j * 6) b5 e2 (by rw [lR, lc'])
    have cS := (cg.keep hb).sets R.toList (j * 6)
    have tS := turns_sets (S := fun b => b = g) g rfl R.toList (j * 6) w5
    generalize w5.setCells g (j * 6) R.toList = V at st BS cS tS
    refine ⟨V, st, tS, Q, fq, U ++ R.toList, fu ++ F, e1, by rw [List.length_append, e2, lR, Nat.succ_mul], ((BG.keep hb).turned tS (fun e => by have e' : GA = g := e; omega)), ((BRc.keep hb).turned tS (fun e => by have e' : GR = g := e; omega)), ?_, (row_turned (row_on r11 hb) tS (fun b hm e => gOther b (by simp [hm]) e)), ((o11.under hb).turned tS (fun b hm e => gOther b (by simp [hm]) e)), (by rw [hd2]; exact (cap_row (by simpa using BS) cS (by have h2 := r12.1; simp only [List.length_append, e2, lc', lR] at h2 ⊢; omega) hnc hcm hg)), (by rw [List.take_succ_eq_append_getElem hke, e3, List.replicate_succ']; exact ((o12.under hb).turned tS (fun b hm e => gOther b (by simp [hm]) e)).snoc (.st (oR.turned tS (fun b hm e => by have e' : b = g := e; have := gR b hm; omega)))), ?_, ?_, ?_⟩
    · exact (g1.under hb).stays tS.size (fun b hm => tS.block b (by have := g1.lt b hm; have := hb.size; omega) (fun e => gOther b (by simp [hm]) e))
    · exact nd_ins2 nd nR (fun x hx hy => by
        have := gR x hy
        rcases List.mem_append.1 hx with h | h
        · have := g1.lt x h; omega
        rcases List.mem_append.1 h with h | h
        · have := (rowL_ge r11 x h).2; omega
        rcases List.mem_append.1 h with h | h
        · have := o11.lt x h; omega
        rcases List.mem_append.1 h with h | h
        · have := (rowL_ge r12 x h).2; omega
        · have := o12.lt x h; omega)
    · intro b hm
      have hBw : B ≤ wr.heap.size := by omega
      simp only [List.mem_append] at hm
      by_cases hq : b ∈ fq ++ fu
      · exact hf b hq
      · have : b ∈ F := by simp only [List.mem_append] at hq; rcases hm with h | h <;> simp_all
        have := gR b this; omega
    · exact (on_of bw hb).trans (tS.below (by have := bw.size; have := hb.size; omega) (fun x e => by have e' : x = g := e; omega))
end Go.Proofs.YtnkookegoicfnaaGreat.Own

