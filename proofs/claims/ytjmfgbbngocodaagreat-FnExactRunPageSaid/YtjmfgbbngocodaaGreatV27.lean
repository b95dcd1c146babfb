/-
  Texts of this seat, laid together: ClG, OpM, PlI, OpI
-/
import Derived.Deep.RegionLaw
import Derived.Deep.RegionHeld3
import Derived.Laws.EntriesVeiled
import Derived.Test.YtjmfgbbngocodaaGreatV25
import Derived.Test.YtjmfgbbngocodaaGreatV26
import Derived.Test.YtjmfgbbngocodaaGreatV22
namespace Go.Proofs.YtjmfgbbngocodaaGreat.Own
open Go.ChangeShapes Go.WideShapes Go.ChangeAt Go.RowKit
open Kit Slabs Ints Stack Point Turn
set_option linter.unusedVariables false
set_option linter.unusedSimpArgs false
set_option linter.unnecessarySimpa false
structure PgOpen (w : World) (B X : Nat) (p : Pg) (G : List Value) (F0 : List Nat) (a11 : Option Addr) (c11 : Nat) (P11 : List Value) (f11 : List Nat) (a12 : Option Addr) (c12 : Nat) (P12 : List Value) (f12 : List Nat) : Prop where
  blk : Blk w X (G ++ [.slice a11 p.saved.length c11, .slice a12 p.objs.length c12])
  now : GrRows w B G p.now F0
  r11 : w.ownsRow B 42 11 (.slice a11 p.saved.length c11) p.saved.length P11
  o11 : OwnL w (List.replicate p.saved.length KGraphics) P11 (dG p.saved) f11
  r12 : w.ownsRow B 101 6 (.slice a12 p.objs.length c12) p.objs.length P12
  o12 : OwnL w (List.replicate p.objs.length KObject) P12 (dO p.objs) f12
  nd : (X :: (F0 ++ (rowL (.slice a11 p.saved.length c11) ++ (f11 ++ (rowL (.slice a12 p.objs.length c12) ++ f12))))).Nodup
  ge : ∀ b ∈ f11 ++ f12, B ≤ b
def PgAt (w : World) (B X : Nat) (p : Pg) : Prop := ∃ G F0 a11 c11 P11 f11 a12 c12 P12 f12, PgOpen w B X p G F0 a11 c11 P11 f11 a12 c12 P12 f12
def PgOwn (w : World) (B X : Nat) (p : Pg) : Prop := ∃ (R : Array Value) (f : List Nat), Blk w X R.toList ∧ OwnL w LPage R.toList p.dt f ∧ f.Nodup ∧ X ∉ f ∧ ∀ b ∈ f, B ≤ b
section
variable {w w' : World} {B X : Nat} {p : Pg} {G : List Value} {F0 : List Nat} {a11 : Option Addr} {c11 : Nat} {P11 : List Value} {f11 : List Nat} {a12 : Option Addr} {c12 : Nat} {P12 : List Value} {f12 : List Nat}
theorem PgOpen.rows (h : PgOpen w B X p G F0 a11 c11 P11 f11 a12 c12 P12 f12) : ∃ F, PgRows w B (G ++ [.slice a11 p.saved.length c11, .slice a12 p.objs.length c12]) p F ∧ F = F0 ++ (rowL (.slice a11 p.saved.length c11) ++ (f11 ++ (rowL (.slice a12 p.objs.length c12) ++ f12))) ∧ X ∉ F := by
  have nd := List.nodup_cons.1 h.nd
  exact ⟨_, ⟨G, F0, a11, c11, P11, f11, a12, c12, P12, f12, rfl, h.now, h.r11, h.o11, h.r12, h.o12, rfl, nd.2, mem2 (p := fun b => B ≤ b) h.now.ge (mem2 (p := fun b => B ≤ b) (fun b hb => (rowL_ge h.r11 b hb).1) (mem2 (p := fun b => B ≤ b) (fun b hb => h.ge b (List.mem_append_left _ hb)) (mem2 (p := fun b => B ≤ b) (fun b hb => (rowL_ge h.r12 b hb).1) (fun b hb => h.ge b (List.mem_append_right _ hb)))))⟩, rfl, nd.1⟩
theorem PgOpen.own (h : PgOpen w B X p G F0 a11 c11 P11 f11 a12 c12 P12 f12) : PgOwn w B X p := by
  obtain ⟨F, PR, hF, hX⟩ := h.rows
  obtain ⟨f, o, n, s⟩ := PR.own
  exact ⟨(G ++ [Value.slice a11 p.saved.length c11, Value.slice a12 p.objs.length c12]).toArray, f, by simpa using h.blk, by simpa using o, n, fun hx => hX (s X hx), fun b hb => PR.ge b (s b hb)⟩
theorem PgOpen.at_ (h : PgOpen w B X p G F0 a11 c11 P11 f11 a12 c12 P12 f12) : PgAt w B X p := ⟨_, _, _, _, _, _, _, _, _, _, h⟩
theorem PgOpen.on (h : PgOpen w B X p G F0 a11 c11 P11 f11 a12 c12 P12 f12) (hb : Below w.heap.size w w') : PgOpen w' B X p G F0 a11 c11 P11 f11 a12 c12 P12 f12 :=
  ⟨h.blk.keep hb, h.now.under hb, row_on h.r11 hb, h.o11.under hb, row_on h.r12 hb, h.o12.under hb, h.nd, h.ge⟩
theorem PgOpen.len (h : PgOpen w B X p G F0 a11 c11 P11 f11 a12 c12 P12 f12) : G.length = 11 := h.now.len
theorem PgOpen.cell11 (h : PgOpen w B X p G F0 a11 c11 P11 f11 a12 c12 P12 f12) : w.cell? ⟨X, 11, none⟩ = some (.slice a11 p.saved.length c11) := h.blk.1 11 _ (by have := h.len; rw [List.getElem?_append_right (by omega)]; simp [this])
theorem PgOpen.cell12 (h : PgOpen w B X p G F0 a11 c11 P11 f11 a12 c12 P12 f12) : w.cell? ⟨X, 12, none⟩ = some (.slice a12 p.objs.length c12) := h.blk.1 12 _ (by have := h.len; rw [List.getElem?_append_right (by omega)]; simp [this])
theorem PgOpen.lt (h : PgOpen w B X p G F0 a11 c11 P11 f11 a12 c12 P12 f12) : ∀ b ∈ X :: (F0 ++ (rowL (.slice a11 p.saved.length c11) ++ (f11 ++ (rowL (.slice a12 p.objs.length c12) ++ f12)))), b < w.heap.size := by
  intro b hb
  rcases List.mem_cons.1 hb with rfl | hb
  · exact h.blk.2.2
  · exact mem2 (p := fun b => b < w.heap.size) h.now.lt (mem2 (p := fun b => b < w.heap.size) (fun b hb => (rowL_ge h.r11 b hb).2) (mem2 (p := fun b => b < w.heap.size) h.o11.lt (mem2 (p := fun b => b < w.heap.size) (fun b hb => (rowL_ge h.r12 b hb).2) h.o12.lt))) b hb
end
theorem cons_nodup {a : Nat} {l : List Nat} (h : a ∉ l) (k : l.Nodup) : (a :: l).Nodup := List.nodup_cons.2 ⟨h, k⟩
theorem nd_row1 {X m0 m1 : Nat} {F0 r r' a s b F : List Nat} (h : (X :: (F0 ++ (r ++ (a ++ (s ++ b))))).Nodup) (hr : r'.Nodup) (hF : F.Nodup) (l : ∀ x ∈ X :: (F0 ++ (r ++ (a ++ (s ++ b)))), x < m0) (gF : ∀ x ∈ F, m0 ≤ x ∧ x < m1) (hm : m0 ≤ m1) (sub : ∀ x ∈ r', x ∈ r ∨ m1 ≤ x) : (X :: (F0 ++ (r' ++ ((a ++ F) ++ (s ++ b))))).Nodup := by
  obtain ⟨hX, h0⟩ := List.nodup_cons.1 h
  obtain ⟨n0, h1, d0⟩ := nodup_parts h0
  obtain ⟨nr, h2, dr⟩ := nodup_parts h1
  obtain ⟨na, h3, da⟩ := nodup_parts h2
  have lX := l X List.mem_cons_self
  have l' : ∀ x ∈ F0 ++ (r ++ (a ++ (s ++ b))), x < m0 := fun x hx => l x (List.mem_cons_of_mem _ hx)
  have nF : ∀ x, x < m0 → x ∉ F := fun x hx hf => by have := (gF x hf).1; omega
  have key : ∀ x, x ∈ r' → x ∈ (a ++ F) ++ (s ++ b) → False := by
    intro x hx hy
    rcases sub x hx with h | h
    · rcases List.mem_append.1 hy with hy | hy
      · rcases List.mem_append.1 hy with hy | hy
        · exact dr x h (List.mem_append_left _ hy)
        · exact nF x (l' x (by simp [h])) hy
      · exact dr x h (List.mem_append_right _ hy)
    · rcases List.mem_append.1 hy with hy | hy
      · rcases List.mem_append.1 hy with hy | hy
        · have := l' x (by simp [hy]); omega
        · have := (gF x hy).2; omega
      · have := l' x (by simp only [List.mem_append] at hy ⊢; exact .inr (.inr (.inr hy))); omega
  refine cons_nodup ?_ (app_nodup n0 (app_nodup hr (app_nodup (app_nodup na hF (fun x hx => nF x (l' x (by simp [hx])))) h3 ?_) (fun x hx hy => key x hx hy)) ?_)
  · intro hx
    simp only [List.mem_append] at hx hX
    rcases hx with h | h | (h | h) | h
    · exact hX (.inl h)
    · rcases sub X h with h | h
      · exact hX (.inr (.inl h))
      · omega
    · exact hX (.inr (.inr (.inl h)))
    · exact nF X lX h
    · exact hX (.inr (.inr (.inr h)))
  · intro x hx hy
    rcases List.mem_append.1 hx with hx | hx
    · exact da x hx hy
    · exact nF x (l' x (by simp only [List.mem_append] at hy ⊢; exact .inr (.inr (.inr hy)))) hx
  · intro x hx hy
    have lx := l' x (by simp [hx])
    simp only [List.mem_append] at hy
    rcases hy with h | (h | h) | h
    · rcases sub x h with h | h
      · exact d0 x hx (List.mem_append_left _ h)
      · omega
    · exact d0 x hx (by simp [h])
    · exact nF x lx h
    · exact d0 x hx (by simp only [List.mem_append]; exact .inr (.inr h))
theorem nd_row2 {X m0 m1 : Nat} {F0 r a s s' b F : List Nat} (h : (X :: (F0 ++ (r ++ (a ++ (s ++ b))))).Nodup) (hr : s'.Nodup) (hF : F.Nodup) (l : ∀ x ∈ X :: (F0 ++ (r ++ (a ++ (s ++ b)))), x < m0) (gF : ∀ x ∈ F, m0 ≤ x ∧ x < m1) (hm : m0 ≤ m1) (sub : ∀ x ∈ s', x ∈ s ∨ m1 ≤ x) : (X :: (F0 ++ (r ++ (a ++ (s' ++ (b ++ F)))))).Nodup := by
  have p1 : List.Perm (X :: (F0 ++ (r ++ (a ++ (s ++ b))))) (X :: ((F0 ++ (r ++ a)) ++ (s ++ (b ++ ([] ++ []))))) := by simp
  have h' := (List.Perm.nodup_iff p1).1 h
  have l' : ∀ x ∈ X :: ((F0 ++ (r ++ a)) ++ (s ++ (b ++ ([] ++ [])))), x < m0 := fun x hx => l x (p1.mem_iff.2 hx)
  have := nd_row1 h' hr hF l' gF hm sub
  simpa [List.append_assoc] using this
theorem PgOpen.push_saved {w w5 w6 w7 : World} {B X : Nat} {p : Pg} {G : List Value} {F0 : List Nat} {a11 : Option Addr} {c11 : Nat} {P11 : List Value} {f11 : List Nat} {a12 : Option Addr} {c12 : Nat} {P12 : List Value} {f12 : List Nat} (h : PgOpen w B X p G F0 a11 c11 P11 f11 a12 c12 P12 f12)
    {g : Gr} {R : List Value} {F : List Nat} (b5 : Below w.heap.size w w5) (oR : OwnL w5 LGraphics R g.dt F) (nR : F.Nodup) (gR : ∀ b ∈ F, w.heap.size ≤ b) (b6 : Below w5.heap.size w5 w6) (hB : B ≤ w.heap.size)
    {a' : Option Addr} {c' : Nat} (r' : w7.ownsRow B 42 11 (.slice a' (p.saved.length + 1) c') (p.saved.length + 1) (P11 ++ R)) (gr : w6.grownBy w7 (Value.ownBlock (.slice a11 p.saved.length c11))) (sub : ∀ b ∈ rowL (.slice a' (p.saved.length + 1) c'), b ∈ rowL (.slice a11 p.saved.length c11) ∨ w6.heap.size ≤ b) :
    PgOpen (w7.setCell ⟨X, 11, none⟩ (.slice a' (p.saved.length + 1) c')) B X { p with saved := p.saved ++ [g] } G F0 a' c' (P11 ++ R) (f11 ++ F) a12 c12 P12 f12 := by
  have h6 := h.on (on_of b5 b6)
  have z5 := b5.size
  have z6 := b6.size
  have lt := h.lt
  have tt : Turns w6 w7 (fun k => k ∈ rowL (.slice a11 p.saved.length c11)) := (Turns.of_grown gr).mono (fun k hk => by simpa [rowL] using hk)
  obtain ⟨hX, h0⟩ := List.nodup_cons.1 h.nd
  obtain ⟨n0, h1, d0⟩ := nodup_parts h0
  obtain ⟨nr, h2, dr⟩ := nodup_parts h1
  obtain ⟨na, h3, da⟩ := nodup_parts h2
  obtain ⟨ns, nb, ds⟩ := nodup_parts h3
  have rowX : X ∉ rowL (.slice a11 p.saved.length c11) := fun hx => hX (by simp [hx])
  have lF : ∀ b ∈ F, b < w6.heap.size := fun b hb => by have := oR.lt b hb; omega
  have lX := lt X List.mem_cons_self
  have newX : X ∉ rowL (.slice a' (p.saved.length + 1) c') := fun hx => by
    rcases sub X hx with h | h
    · exact rowX h
    · omega
  have BX := h6.blk.turned tt rowX
  have FX : X ∉ F := fun hx => by have := gR X hx; omega
  refine ⟨(by
      have := Blk.put (o := 11) (P := G) (R := [.slice a12 p.objs.length c12]) (by simpa using BX) h.len (.slice a' (p.saved.length + 1) c')
      simpa using this), ?_, (by have := row_set r' newX 11 (.slice a' (p.saved.length + 1) c'); simpa using this), (by have h8 := ownL_set ((h6.o11.turned tt (fun b hb hk => dr b hk (by simp [hb]))).snoc (.st ((oR.under b6).turned tt (fun b hb hk => by have := gR b hb; have := lt b (by simp [hk]); omega)))) (b := X) (fun hx => (List.mem_append.1 hx).elim (fun hx => hX (by simp [hx])) (fun hx => FX hx)) 11 (.slice a' (p.saved.length + 1) c'); rw [← List.replicate_succ'] at h8; simpa [dG] using h8), (row_set (row_turned h6.r12 tt (fun b hb hk => dr b hk (by simp [hb]))) (fun hx => hX (by simp [hx])) 11 _), (ownL_set (h6.o12.turned tt (fun b hb hk => dr b hk (by simp [hb]))) (fun hx => hX (by simp [hx])) 11 _), ?_, ?_⟩
  · have g7 := h6.now.stays tt.size (fun b hb => tt.block b (h6.now.lt b hb) (fun hk => d0 b hb (by simp [hk])))
    exact g7.set (fun hx => hX (by simp [hx])) _ _
  · have := nd_row1 (m0 := w.heap.size) (m1 := w6.heap.size) (r' := rowL (.slice a' (p.saved.length + 1) c')) h.nd (rowL_nodup _) nR lt (fun x hx => ⟨gR x hx, lF x hx⟩) (by omega) sub
    simpa using this
  · intro b hb
    by_cases hq : b ∈ f11 ++ f12
    · exact h.ge b hq
    · have : b ∈ F := by simp only [List.mem_append] at hq hb; rcases hb with h | h <;> simp_all
      have := gR b this; omega
theorem PgOpen.push_objs {w w5 w6 w7 : World} {B X : Nat} {p : Pg} {G : List Value} {F0 : List Nat} {a11 : Option Addr} {c11 : Nat} {P11 : List Value} {f11 : List Nat} {a12 : Option Addr} {c12 : Nat} {P12 : List Value} {f12 : List Nat} (h : PgOpen w B X p G F0 a11 c11 P11 f11 a12 c12 P12 f12)
    {g : Ob} {R : List Value} {F : List Nat} (b5 : Below w.heap.size w w5) (oR : OwnL w5 LObject R g.dt F) (nR : F.Nodup) (gR : ∀ b ∈ F, w.heap.size ≤ b) (b6 : Below w5.heap.size w5 w6) (hB : B ≤ w.heap.size)
    {a' : Option Addr} {c' : Nat} (r' : w7.ownsRow B 101 6 (.slice a' (p.objs.length + 1) c') (p.objs.length + 1) (P12 ++ R)) (gr : w6.grownBy w7 (Value.ownBlock (.slice a12 p.objs.length c12))) (sub : ∀ b ∈ rowL (.slice a' (p.objs.length + 1) c'), b ∈ rowL (.slice a12 p.objs.length c12) ∨ w6.heap.size ≤ b) :
    PgOpen (w7.setCell ⟨X, 12, none⟩ (.slice a' (p.objs.length + 1) c')) B X { p with objs := p.objs ++ [g] } G F0 a11 c11 P11 f11 a' c' (P12 ++ R) (f12 ++ F) := by
  have h6 := h.on (on_of b5 b6)
  have z5 := b5.size
  have z6 := b6.size
  have lt := h.lt
  have tt : Turns w6 w7 (fun k => k ∈ rowL (.slice a12 p.objs.length c12)) := (Turns.of_grown gr).mono (fun k hk => by simpa [rowL] using hk)
  obtain ⟨hX, h0⟩ := List.nodup_cons.1 h.nd
  obtain ⟨n0, h1, d0⟩ := nodup_parts h0
  obtain ⟨nr, h2, dr⟩ := nodup_parts h1
  obtain ⟨na, h3, da⟩ := nodup_parts h2
  obtain ⟨ns, nb, ds⟩ := nodup_parts h3
  have rowX : X ∉ rowL (.slice a12 p.objs.length c12) := fun hx => hX (by simp [hx])
  have lF : ∀ b ∈ F, b < w6.heap.size := fun b hb => by have := oR.lt b hb; omega
  have lX := lt X List.mem_cons_self
  have newX : X ∉ rowL (.slice a' (p.objs.length + 1) c') := fun hx => by
    rcases sub X hx with h | h
    · exact rowX h
    · omega
  have BX := h6.blk.turned tt rowX
  have FX : X ∉ F := fun hx => by have := gR X hx; omega
  refine ⟨(by
      have := Blk.put (o := 12) (P := G ++ [.slice a11 p.saved.length c11]) (R := []) (by simpa using BX) (by rw [List.length_append, h.len]; rfl) (.slice a' (p.objs.length + 1) c')
      simpa using this), ?_, (row_set (row_turned h6.r11 tt (fun b hb hk => dr b hb (by simp [hk]))) (fun hx => hX (by simp [hx])) 12 _), (ownL_set (h6.o11.turned tt (fun b hb hk => da b hb (by simp [hk]))) (fun hx => hX (by simp [hx])) 12 _), (by have := row_set r' newX 12 (.slice a' (p.objs.length + 1) c'); simpa using this), (by have h8 := ownL_set ((h6.o12.turned tt (fun b hb hk => ds b hk hb)).snoc (.st ((oR.under b6).turned tt (fun b hb hk => by have := gR b hb; have := lt b (by simp [hk]); omega)))) (b := X) (fun hx => (List.mem_append.1 hx).elim (fun hx => hX (by simp [hx])) (fun hx => FX hx)) 12 (.slice a' (p.objs.length + 1) c'); rw [← List.replicate_succ'] at h8; simpa [dO] using h8), ?_, ?_⟩
  · have g7 := h6.now.stays tt.size (fun b hb => tt.block b (h6.now.lt b hb) (fun hk => d0 b hb (by simp [hk])))
    exact g7.set (fun hx => hX (by simp [hx])) _ _
  · have := nd_row2 (m0 := w.heap.size) (m1 := w6.heap.size) (s' := rowL (.slice a' (p.objs.length + 1) c')) h.nd (rowL_nodup _) nR lt (fun x hx => ⟨gR x hx, lF x hx⟩) (by omega) sub
    simpa using this
  · intro b hb
    by_cases hq : b ∈ f11 ++ f12
    · exact h.ge b hq
    · have : b ∈ F := by simp only [List.mem_append] at hq hb; rcases hb with h | h <;> simp_all
      have := gR b this; omega
end Go.Proofs.YtjmfgbbngocodaaGreat.Own

namespace Go.Proofs.YtjmfgbbngocodaaGreat.Own
open Go.ChangeShapes Go.WideShapes Go.ChangeAt Go.RowKit
open Kit Slabs Ints Stack Point Turn Join Pts Box
set_option linter.unusedVariables false
set_option linter.unusedSimpArgs false
set_option linter.unnecessarySimpa false
/-! ### The operators on plain pages -/
def imP (g : Gr) (x y : Int) : Int × Int := (imX g.q g.s g.dx x y, imY g.q g.s g.dy x y)
def setPath (P : Pg) (l : List (Int × Int)) : Pg := { P with now := { P.now with path := l } }
def movM (P : Pg) (x y : Int) : Pg := setPath P [imP P.now x y]
def linM (P : Pg) (x y : Int) : Pg := setPath P (P.now.path ++ [imP P.now x y])
def rctL (x y w h : Int) : List (Int × Int) := [(x, y), (x + w, y), (x + w, y + h), (x, y + h)]
def recM (P : Pg) (x y w h : Int) : Pg := setPath P ((rctL x y w h).map fun q => imP P.now q.1 q.2)
def obM (g : Gr) : Ob := ⟨g.path, g.gray, g.x0, g.y0, g.x1, g.y1⟩
def filM (P : Pg) : Pg := { P with now := { P.now with path := [] }, objs := P.objs ++ [obM P.now] }
def graM (P : Pg) (n : Int) : Pg := { P with now := { P.now with gray := n } }
def bxB (l : List (Int × Int)) : Bool := decide (0 < l.length) && okB (pX l) (pY l) l.length
def bx0 (l : List (Int × Int)) : Int := sel (bxB l) (acc mn (pX l) l.length)
def bx1 (l : List (Int × Int)) : Int := sel (bxB l) (acc mn (pY l) l.length)
def bx2 (l : List (Int × Int)) : Int := sel (bxB l) (acc mx (pX l) l.length)
def bx3 (l : List (Int × Int)) : Int := sel (bxB l) (acc mx (pY l) l.length)
def clB (g : Gr) : Bool := meetB g.x0 g.y0 g.x1 g.y1 (bx0 g.path) (bx1 g.path) (bx2 g.path) (bx3 g.path)
def cliM (P : Pg) : Pg := { P with now := { P.now with path := [], x0 := sel (clB P.now) (mx P.now.x0 (bx0 P.now.path)), y0 := sel (clB P.now) (mx P.now.y0 (bx1 P.now.path)), x1 := sel (clB P.now) (mn P.now.x1 (bx2 P.now.path)), y1 := sel (clB P.now) (mn P.now.y1 (bx3 P.now.path)) } }
def savM (P : Pg) : Pg := { P with saved := P.saved ++ [P.now] }
def resM (P : Pg) (g : Gr) : Pg := { P with now := { g with st := P.now.st }, saved := P.saved.dropLast }
def tuB (g : Gr) (q s dx dy : Int) : Bool := jnB q s dx dy g.q g.s g.dx g.dy
def turM (P : Pg) (q s dx dy : Int) : Pg := { P with now := { P.now with q := sel (tuB P.now q s dx dy) (jq q P.now.q), s := sel (tuB P.now q s dx dy) (s * P.now.s), dx := sel (tuB P.now q s dx dy) (imX P.now.q P.now.s P.now.dx dx dy), dy := sel (tuB P.now q s dx dy) (imY P.now.q P.now.s P.now.dy dx dy) } }
def stkM (P : Pg) (l : List Int) : Pg := { P with now := { P.now with st := l } }
def OpRes (B X : Nat) (r : Option Pg) (w : World) (e : Ending) (w' : World) : Prop := e = .returned (.bool r.isSome) ∧ Below B w w' ∧ ∀ P', r = some P' → PgOwn w' B X P'
/-! ### A page in a block, laid flat -/
abbrev pgCells (p : Pg) (a0 : Option Addr) (c0 : Nat) (a5 : Option Addr) (c5 : Nat) (a11 : Option Addr) (c11 : Nat) (a12 : Option Addr) (c12 : Nat) : List Value :=
  [.slice a0 p.now.st.length c0, .int .i64 p.now.q, .int .i64 p.now.s, .int .i64 p.now.dx, .int .i64 p.now.dy, .slice a5 p.now.path.length c5, .int .i64 p.now.gray, .int .i64 p.now.x0, .int .i64 p.now.y0, .int .i64 p.now.x1, .int .i64 p.now.y1, .slice a11 p.saved.length c11, .slice a12 p.objs.length c12]
structure PgFl (w : World) (B X : Nat) (p : Pg) (a0 : Option Addr) (c0 : Nat) (f0 : List Nat) (a5 : Option Addr) (c5 : Nat) (P5 : List Value) (a11 : Option Addr) (c11 : Nat) (P11 : List Value) (f11 : List Nat) (a12 : Option Addr) (c12 : Nat) (P12 : List Value) (f12 : List Nat) : Prop where
  blk : Blk w X (pgCells p a0 c0 a5 c5 a11 c11 a12 c12)
  o0 : Own w (.sl .int) [.slice a0 p.now.st.length c0] (.sl (dI p.now.st)) f0
  r5 : w.ownsRow B 109 2 (.slice a5 p.now.path.length c5) p.now.path.length P5
  o5 : ∀ W, OwnL W (List.replicate p.now.path.length KPt) P5 (dP p.now.path) []
  r11 : w.ownsRow B 42 11 (.slice a11 p.saved.length c11) p.saved.length P11
  o11 : OwnL w (List.replicate p.saved.length KGraphics) P11 (dG p.saved) f11
  r12 : w.ownsRow B 101 6 (.slice a12 p.objs.length c12) p.objs.length P12
  o12 : OwnL w (List.replicate p.objs.length KObject) P12 (dO p.objs) f12
  nd : (X :: (f0 ++ (rowL (.slice a5 p.now.path.length c5) ++ (rowL (.slice a11 p.saved.length c11) ++ (f11 ++ (rowL (.slice a12 p.objs.length c12) ++ f12)))))).Nodup
  ge : ∀ b ∈ f0 ++ (f11 ++ f12), B ≤ b
theorem PgAt.flat {w : World} {B X : Nat} {p : Pg} (h : PgAt w B X p) : ∃ a0 c0 f0 a5 c5 P5 a11 c11 P11 f11 a12 c12 P12 f12, PgFl w B X p a0 c0 f0 a5 c5 P5 a11 c11 P11 f11 a12 c12 P12 f12 := by
  obtain ⟨G, F0, a11, c11, P11, f11, a12, c12, P12, f12, h⟩ := h
  obtain ⟨a0, c0, f0, a5, c5, P5, rfl, o0, r5, O5, rfl, hn, hB⟩ := h.now
  exact ⟨a0, c0, f0, a5, c5, P5, a11, c11, P11, f11, a12, c12, P12, f12, h.blk, o0, r5, O5, h.r11, h.o11, h.r12, h.o12, by simpa [List.append_assoc] using h.nd, fun b hb => by
    rcases List.mem_append.1 hb with hb | hb
    · exact hB b (List.mem_append_left _ hb)
    · exact h.ge b hb⟩
section
variable {w w' : World} {B X : Nat} {p : Pg} {a0 : Option Addr} {c0 : Nat} {f0 : List Nat} {a5 : Option Addr} {c5 : Nat} {P5 : List Value} {a11 : Option Addr} {c11 : Nat} {P11 : List Value} {f11 : List Nat} {a12 : Option Addr} {c12 : Nat} {P12 : List Value} {f12 : List Nat}
theorem PgFl.on (h : PgFl w B X p a0 c0 f0 a5 c5 P5 a11 c11 P11 f11 a12 c12 P12 f12) (hb : Below w.heap.size w w') : PgFl w' B X p a0 c0 f0 a5 c5 P5 a11 c11 P11 f11 a12 c12 P12 f12 :=
  ⟨h.blk.keep hb, h.o0.under hb, row_on h.r5 hb, h.o5, row_on h.r11 hb, h.o11.under hb, row_on h.r12 hb, h.o12.under hb, h.nd, h.ge⟩
theorem PgFl.at_ (h : PgFl w B X p a0 c0 f0 a5 c5 P5 a11 c11 P11 f11 a12 c12 P12 f12) : PgAt w B X p := by
  obtain ⟨nX, nd⟩ := List.nodup_cons.1 h.nd
  have nd2 : ((f0 ++ rowL (.slice a5 p.now.path.length c5)) ++ (rowL (.slice a11 p.saved.length c11) ++ (f11 ++ (rowL (.slice a12 p.objs.length c12) ++ f12)))).Nodup := by simpa [List.append_assoc] using nd
  obtain ⟨n0, _, _⟩ := nodup_parts nd2
  refine ⟨_, _, a11, c11, P11, f11, a12, c12, P12, f12, h.blk, ⟨a0, c0, f0, a5, c5, P5, rfl, h.o0, h.r5, h.o5, rfl, n0, ?_⟩, h.r11, h.o11, h.r12, h.o12, by simpa [List.append_assoc] using h.nd, fun b hb => h.ge b (List.mem_append_right _ hb)⟩
  exact mem2 (p := fun b => B ≤ b) (fun b hb => h.ge b (List.mem_append_left _ hb)) (fun b hb => (rowL_ge h.r5 b hb).1)
def rest5 (f0 : List Nat) (s11 : Value) (f11 : List Nat) (s12 : Value) (f12 : List Nat) : List Nat := f0 ++ (rowL s11 ++ (f11 ++ (rowL s12 ++ f12)))
theorem PgFl.lt (h : PgFl w B X p a0 c0 f0 a5 c5 P5 a11 c11 P11 f11 a12 c12 P12 f12) : ∀ b ∈ rest5 f0 (.slice a11 p.saved.length c11) f11 (.slice a12 p.objs.length c12) f12, b < w.heap.size :=
  mem2 (p := fun b => b < w.heap.size) h.o0.lt (mem2 (p := fun b => b < w.heap.size) (fun b hb => (rowL_ge h.r11 b hb).2) (mem2 (p := fun b => b < w.heap.size) h.o11.lt (mem2 (p := fun b => b < w.heap.size) (fun b hb => (rowL_ge h.r12 b hb).2) h.o12.lt)))
theorem PgFl.apart (h : PgFl w B X p a0 c0 f0 a5 c5 P5 a11 c11 P11 f11 a12 c12 P12 f12) : X ∉ rest5 f0 (.slice a11 p.saved.length c11) f11 (.slice a12 p.objs.length c12) f12 ∧ X ∉ rowL (.slice a5 p.now.path.length c5) ∧ (rest5 f0 (.slice a11 p.saved.length c11) f11 (.slice a12 p.objs.length c12) f12).Nodup ∧ ∀ b ∈ rowL (.slice a5 p.now.path.length c5), b ∉ rest5 f0 (.slice a11 p.saved.length c11) f11 (.slice a12 p.objs.length c12) f12 := by
  obtain ⟨nX, nd⟩ := List.nodup_cons.1 h.nd
  obtain ⟨n0, nd1, d0⟩ := nodup_parts nd
  obtain ⟨n5, nd2, d5⟩ := nodup_parts nd1
  unfold rest5
  refine ⟨fun hx => nX ?_, fun hx => nX ?_, app_nodup n0 nd2 (fun x hx hy => d0 x hx (List.mem_append_right _ hy)), fun b hb hc => ?_⟩
  · rcases List.mem_append.1 hx with hx | hx
    · exact List.mem_append_left _ hx
    · exact List.mem_append_right _ (List.mem_append_right _ hx)
  · exact List.mem_append_right _ (List.mem_append_left _ hx)
  · rcases List.mem_append.1 hc with hc | hc
    · exact d0 b hc (List.mem_append_left _ hb)
    · exact d5 b hb hc
theorem PgFl.close (h : PgFl w B X p a0 c0 f0 a5 c5 P5 a11 c11 P11 f11 a12 c12 P12 f12) (hs : w.heap.size ≤ w'.heap.size) (hst : ∀ b ∈ rest5 f0 (.slice a11 p.saved.length c11) f11 (.slice a12 p.objs.length c12) f12, w'.heap[b]? = w.heap[b]?)
    {g : Gr} (eg : g.st = p.now.st) {a5' : Option Addr} {c5' : Nat} {f5 : List Nat} (BX : Blk w' X (pgCells { p with now := g } a0 c0 a5' c5' a11 c11 a12 c12)) (o5 : Own w' (.sl KPt) [.slice a5' g.path.length c5'] (.sl (dP g.path)) f5) (n5 : f5.Nodup) (hX : X < w.heap.size) (hB : B ≤ w.heap.size)
    (d5 : ∀ b ∈ f5, b ∈ rowL (.slice a5 p.now.path.length c5) ∨ w.heap.size ≤ b) : PgOwn w' B X { p with now := g } := by
  obtain ⟨nX, nX5, nr, dr⟩ := h.apart
  have lt := h.lt
  unfold rest5 at nX nr dr lt hst
  obtain ⟨n0, nd1, d0⟩ := nodup_parts nr
  obtain ⟨n11, nd2, d11⟩ := nodup_parts nd1
  obtain ⟨m11, nd3, e11⟩ := nodup_parts nd2
  obtain ⟨n12, m12, e12⟩ := nodup_parts nd3
  have o0' := h.o0.stays hs (fun b hb => hst b (List.mem_append_left _ hb))
  rw [← eg] at o0'
  have o11' := row_own2 (row_stays h.r11 (fun b hb => hst b (by simp [hb]))) (h.o11.stays hs (fun b hb => hst b (by simp [hb])))
  have o12' := row_own2 (row_stays h.r12 (fun b hb => hst b (by simp [hb]))) (h.o12.stays hs (fun b hb => hst b (by simp [hb])))
  have s11 : ∀ b ∈ (if p.saved.length = 0 then [] else rowL (.slice a11 p.saved.length c11) ++ f11), b ∈ rowL (.slice a11 p.saved.length c11) ∨ b ∈ f11 := rowF_sub
  have s12 : ∀ b ∈ (if p.objs.length = 0 then [] else rowL (.slice a12 p.objs.length c12) ++ f12), b ∈ rowL (.slice a12 p.objs.length c12) ∨ b ∈ f12 := rowF_sub
  have q11 := rowF_nodup (n := p.saved.length) (u := .slice a11 p.saved.length c11) m11 (fun b hb hc => d11 b hb (by simp [hc]))
  have q12 := rowF_nodup (n := p.objs.length) (u := .slice a12 p.objs.length c12) m12 (fun b hb hc => e12 b hb hc)
  generalize (if p.saved.length = 0 then [] else rowL (.slice a11 p.saved.length c11) ++ f11) = F11 at *
  generalize (if p.objs.length = 0 then [] else rowL (.slice a12 p.objs.length c12) ++ f12) = F12 at *
  have in11 : ∀ b ∈ F11, b ∈ rowL (.slice a11 p.saved.length c11) ++ (f11 ++ (rowL (.slice a12 p.objs.length c12) ++ f12)) := fun b hb => by rcases s11 b hb with h | h <;> simp [h]
  have in12 : ∀ b ∈ F12, b ∈ rowL (.slice a11 p.saved.length c11) ++ (f11 ++ (rowL (.slice a12 p.objs.length c12) ++ f12)) := fun b hb => by rcases s12 b hb with h | h <;> simp [h]
  have big5 : ∀ b ∈ f5, b ∉ f0 ++ (rowL (.slice a11 p.saved.length c11) ++ (f11 ++ (rowL (.slice a12 p.objs.length c12) ++ f12))) := fun b hb hc => by
    rcases d5 b hb with h | h
    · exact dr b h hc
    · have := lt b hc; omega
  have oG := mk_gr g.q g.s g.dx g.dy g.gray g.x0 g.y0 g.x1 g.y1 (v0 := .slice a0 g.st.length c0) o0' o5
  have oP := mk_pg (p := { p with now := g }) oG o11' o12'
  have oP' : OwnL w' LPage (pgCells { p with now := g } a0 c0 a5' c5' a11 c11 a12 c12) (Pg.dt { p with now := g }) ((f0 ++ f5) ++ (F11 ++ F12)) := by
    have := oP
    simpa using this
  refine ⟨(pgCells { p with now := g } a0 c0 a5' c5' a11 c11 a12 c12).toArray, (f0 ++ f5) ++ (F11 ++ F12), by simpa using BX, by simpa using oP', ?_, ?_, ?_⟩
  · refine app_nodup (app_nodup n0 n5 (fun x hx hy => big5 x hy (by simp [hx]))) (app_nodup q11 q12 ?_) ?_
    · intro x hx hy
      rcases s11 x hx with h | h <;> rcases s12 x hy with k | k
      · exact d11 x h (by simp [k])
      · exact d11 x h (by simp [k])
      · exact e11 x h (by simp [k])
      · exact e11 x h (by simp [k])
    · intro x hx hy
      have hy' : x ∈ rowL (.slice a11 p.saved.length c11) ++ (f11 ++ (rowL (.slice a12 p.objs.length c12) ++ f12)) := (List.mem_append.1 hy).elim (in11 x) (in12 x)
      rcases List.mem_append.1 hx with hx | hx
      · exact d0 x hx hy'
      · exact big5 x hx (List.mem_append_right _ hy')
  · intro hx
    rcases List.mem_append.1 hx with hx | hx
    · rcases List.mem_append.1 hx with hx | hx
      · exact nX (List.mem_append_left _ hx)
      · rcases d5 X hx with h | h
        · exact nX5 h
        · omega
    · exact nX (List.mem_append_right _ ((List.mem_append.1 hx).elim (in11 X) (in12 X)))
  · intro b hb
    rcases List.mem_append.1 hb with hb | hb
    · rcases List.mem_append.1 hb with hb | hb
      · exact h.ge b (List.mem_append_left _ hb)
      · rcases d5 b hb with k | k
        · exact (rowL_ge h.r5 b k).1
        · omega
    · rcases List.mem_append.1 hb with hb | hb
      · rcases s11 b hb with k | k
        · exact (rowL_ge h.r11 b k).1
        · exact h.ge b (by simp [k])
      · rcases s12 b hb with k | k
        · exact (rowL_ge h.r12 b k).1
        · exact h.ge b (by simp [k])
end
end Go.Proofs.YtjmfgbbngocodaaGreat.Own

namespace Go.Proofs.YtjmfgbbngocodaaGreat.Own
open Go.ChangeShapes Go.WideShapes Go.ChangeAt Go.RowKit
open Kit Slabs Ints Stack Point Turn
set_option linter.unusedVariables false
set_option linter.unusedSimpArgs false
set_option linter.unnecessarySimpa false
set_option maxRecDepth 100000
def cellsP : List (Int × Int) → List Value
  | [] => []
  | q :: r => .int .i64 q.1 :: .int .i64 q.2 :: cellsP r
theorem cellsP_len : ∀ l, (cellsP l).length = l.length * 2
  | [] => rfl
  | q :: r => by simp only [cellsP, List.length_cons, cellsP_len r]; omega
theorem cellsP_app : ∀ l m, cellsP (l ++ m) = cellsP l ++ cellsP m
  | [], m => rfl
  | q :: r, m => by simp only [cellsP, List.cons_append, cellsP_app r m]
theorem cellsP_one : ∀ l, ∀ u ∈ cellsP l, u.oneCell' = true
  | [], u, hu => by simp [cellsP] at hu
  | q :: r, u, hu => by
    simp only [cellsP, List.mem_cons] at hu
    rcases hu with rfl | rfl | hu
    · rfl
    · rfl
    · exact cellsP_one r u hu
theorem ownL_pts (W : World) : ∀ l : List (Int × Int), OwnL W (List.replicate l.length KPt) (cellsP l) (dP l) []
  | [] => .nil
  | q :: r => .cons (cs := [.int .i64 q.1, .int .i64 q.2]) (fp := []) (own_pt W q.1 q.2) (ownL_pts W r)
def PathNew (l : List (Int × Int)) (w : World) (e : Ending) (w' : World) : Prop := ∃ (a : Option Addr) (c : Nat), e = .returned (.slice a l.length c) ∧ w'.ownsRow w.heap.size 109 2 (.slice a l.length c) l.length (cellsP l) ∧ Below w.heap.size w w'
set_option maxHeartbeats 2000000 in
theorem placed_impl (w : World) {A : Array Value} {g : Gr} {fp : List Nat} (ht : tokB g.q g.s g.dx g.dy = true) (h : OwnL w LGraphics A.toList g.dt fp) (b c : Nat) (l : List (Int × Int)) (hl : l.length ≤ 8) (hbw : b < w.heap.size) (hp : ∀ i, i < l.length → w.cell? ⟨b, i * 2, none⟩ = some (.int .i64 (pX l i)) ∧ w.cell? ⟨b, i * 2 + 1, none⟩ = some (.int .i64 (pY l i)))
    (hX : ∀ i, i < l.length → (-20000 ≤ pX l i ∧ pX l i ≤ 20000) ∧ (-20000 ≤ pY l i ∧ pY l i ≤ 20000)) :
    Calls Tryz.prog 152 #[.agg A, .slice (some ⟨b, 0, none⟩) l.length c] w (PathNew (l.map fun q => imP g q.1 q.2) w) := by
  obtain ⟨a0, c0, a5, c5, f0, f5, hA, hf, o0, o5⟩ := inv_Graphics_ h
  have BA : Blk (w.alloc (.cells A 42)) w.heap.size A.toList := Blk.new w A 42 rfl
  rw [hA] at BA
  have HB0 := Lib.hid BA
  have HW0 : Hid (Below w.heap.size w (w.alloc (.cells A 42))) := Lib.hid (by go_grown)
  obtain ⟨n, hN⟩ : ∃ n, l.length = n := ⟨_, rfl⟩
  have HN := Lib.hid hN
  have HP := Lib.hid hp
  have HX := Lib.hid hX
  have HT := Lib.hid ht
  rw [hN] at hl ⊢
  clear o0 o5 hA BA h hp hX ht hN
  go_enter Tryz.func152, Tryz.ntmps152
  go_wp2_with fail
  obtain ⟨W, hWe⟩ : ∃ W, W = w.alloc (.cells A 42) := ⟨_, rfl⟩
  have hz0 : (w.alloc (.cells A 42)).heap.size = w.heap.size + 1 := by simp
  rw [← hWe] at HB0 HW0 hz0 ⊢
  clear hWe
  obtain ⟨GA, hGA⟩ : ∃ x, w.heap.size = x := ⟨_, rfl⟩
  have HB0 := Lib.hid (show Blk W GA _ from hGA ▸ HB0.out)
  rw [hGA]
  have gA1 := Nat.le_of_eq hGA
  have gA2 := Nat.le_of_eq hGA.symm
  have gW1 := Nat.le_of_eq hz0
  have gW2 := Nat.le_of_eq hz0.symm
  clear hGA hz0
  go_loopw [5, 10] (fun v5 v10 wr => ∃ (k : Nat) (a' : Option Addr) (c' : Nat), k ≤ n ∧ v10 = .int .i64 (k : Int) ∧ v5 = .slice a' k c' ∧ wr.ownsRow W.heap.size 109 2 (.slice a' k c') k (cellsP ((l.take k).map fun q => imP g q.1 q.2)) ∧ Below W.heap.size W wr) (fun _ v10 _ => n - (intOf v10).toNat)
  case atStart => exact ⟨0, none, 0, Nat.zero_le _, rfl, rfl, World.ownsRow_nil _ _ _ _, Below.refl _ _⟩
  case round =>
    obtain ⟨k, a', c', hk, rfl, rfl, hr, hB⟩ := hrel
    have hzB := hB.size
    by_cases hlt : k < n
    · have hkl : k < l.length := by rw [HN.out]; exact hlt
      obtain ⟨q0, q1⟩ := HP.out k hkl
      have hbr := on_of HW0.out hB
      have q0 := ((bcell hbr).1 b _ hbw).trans q0
      have q1 := ((bcell hbr).1 b _ hbw).trans q1
      have bx := HX.out k hkl
      obtain ⟨x, hx⟩ : ∃ x, pX l k = x := ⟨_, rfl⟩
      obtain ⟨y, hy⟩ : ∃ y, pY l k = y := ⟨_, rfl⟩
      rw [hx] at q0 bx
      rw [hy] at q1 bx
      have htk : (l.take (k + 1)).map (fun q => imP g q.1 q.2) = (l.take k).map (fun q => imP g q.1 q.2) ++ [imP g x y] := by
        have e : l[k] = (x, y) := by
          have e2 : l.getD k (0, 0) = l[k] := by simp [List.getD, List.getElem?_eq_getElem hkl]
          rw [← e2, ← hx, ← hy]; rfl
        rw [List.take_succ_eq_append_getElem hkl, List.map_append, e]; rfl
      have i0 : (0 : Int) ≤ (k : Int) := by omega
      have i1 : (k : Int) < (n : Int) := by omega
      have BG := HB0.out.keep hB
      have t1 := BG.1 1 _ rfl
      have t2 := BG.1 2 _ rfl
      have t3 := BG.1 3 _ rfl
      have t4 := BG.1 4 _ rfl
      have hGr := BG.2.2
      have hbl : b < wr.heap.size := by have := hbr.size; omega
      have HR := Lib.hid (And.intro hr (And.intro hB htk))
      clear hr hB htk hx hy BG hbr
      go_wp2_with fail
      clear q0 q1 t1 t2 t3 t4
      ((with_reducible refine (image_impl_big g.q g.s g.dx g.dy x y _ HT.out bx.1 bx.2).mono ?_); rintro e w1 ⟨rfl, bb⟩)
      have b1 := on_of (show Below wr.heap.size wr (wr.alloc (.cells #[.int .i64 x, .int .i64 y] 109)) from by go_grown) bb
      have r1 := row_on HR.out.1 b1
      have z1 := b1.size
      have H1 := Lib.hid (And.intro (on_of HR.out.2.1 b1) r1)
      clear bb b1 r1
      go_wp2_with (at_builtin; refine wpList_append_sl _ et_pts rfl _ _ rfl W.heap.size a' k c' _ rfl (H1.out.2.alloc _) (some ⟨w1.heap.size, 0, none⟩) 1 1 [.int .i64 (imX g.q g.s g.dx x y), .int .i64 (imY g.q g.s g.dy x y)] rfl rfl (Lies.new w1 _ _ rfl) (by simp [Value.oneCell']) (by unfold maxLen; omega) (by omega) (by simp; omega) ?_)
      intro a2 c2 w2 r2 gr2 _
      have b2 := (H1.out.1.alloc (by omega) (.cells #[.int .i64 (imX g.q g.s g.dx x y), .int .i64 (imY g.q g.s g.dy x y)] 109)).grown gr2 (by simp; omega) (fun q hq => by have := (H1.out.2.lt q hq).1; omega)
      have r2' : w2.ownsRow W.heap.size 109 2 (.slice a2 (k + 1) c2) (k + 1) (cellsP ((l.take (k + 1)).map fun q => imP g q.1 q.2)) := by
        rw [HR.out.2.2, cellsP_app, List.map_take]; exact r2
      have H2 := Lib.hid (And.intro r2' b2)
      clear r2 r2' b2 gr2
      go_wp2
      go_roundw
      case rel => exact ⟨k + 1, a2, c2, by omega, by go_num, rfl, H2.out.1, H2.out.2⟩
      case measure => simp [intOf]; omega
    · obtain rfl : n = k := by omega
      have HR := Lib.hid (And.intro hr (on_of HW0.out hB))
      have HS : Hid (PathNew (l.map fun q => imP g q.1 q.2) w (.returned (.slice a' n c')) wr) := Lib.hid (by
        have e1 : l.take n = l := by rw [← HN.out, List.take_length]
        have r := HR.out.1
        rw [e1] at r
        have hl2 : (l.map fun q => imP g q.1 q.2).length = n := by simp [HN.out]
        refine ⟨a', c', by rw [hl2], ?_, HR.out.2⟩
        rw [hl2]
        exact row_base r (by omega))
      clear hr hB
      go_wp2
      go_ret
      exact HS.out
end Go.Proofs.YtjmfgbbngocodaaGreat.Own

namespace Go.Proofs.YtjmfgbbngocodaaGreat.Own
open Go.ChangeShapes Go.WideShapes Go.ChangeAt Go.RowKit
open Kit Slabs Ints Stack Point Turn Join Pts Box
set_option linter.unusedVariables false
set_option linter.unusedSimpArgs false
set_option linter.unnecessarySimpa false
set_option maxRecDepth 100000
attribute [local go_sem ↓] hload_Graphics hload_Object hstore_Graphics hstore_Object hload_Page hstore_Page
theorem placed_n (w : World) {A : Array Value} {g : Gr} {fp : List Nat} (ht : tokB g.q g.s g.dx g.dy = true) (h : OwnL w LGraphics A.toList g.dt fp) (b c : Nat) (l : List (Int × Int)) (n : Nat) (hn : l.length = n) (hl : l.length ≤ 8) (hbw : b < w.heap.size) (hp : ∀ i, i < l.length → w.cell? ⟨b, i * 2, none⟩ = some (.int .i64 (pX l i)) ∧ w.cell? ⟨b, i * 2 + 1, none⟩ = some (.int .i64 (pY l i)))
    (hX : ∀ i, i < l.length → (-20000 ≤ pX l i ∧ pX l i ≤ 20000) ∧ (-20000 ≤ pY l i ∧ pY l i ≤ 20000)) :
    Calls Tryz.prog 152 #[.agg A, .slice (some ⟨b, 0, none⟩) n c] w (PathNew (l.map fun q => imP g q.1 q.2) w) := by
  subst hn; exact placed_impl w ht h b c l hl hbw hp hX
theorem heap_set_ne {w : World} {X o b : Nat} {v : Value} (h : b ≠ X) : (w.setCell ⟨X, o, none⟩ v).heap[b]? = w.heap[b]? := Below.heap_setCell _ _ _ _ h
section
variable {w w' : World} {B X : Nat} {p : Pg} {a0 : Option Addr} {c0 : Nat} {f0 : List Nat} {a5 : Option Addr} {c5 : Nat} {P5 : List Value} {a11 : Option Addr} {c11 : Nat} {P11 : List Value} {f11 : List Nat} {a12 : Option Addr} {c12 : Nat} {P12 : List Value} {f12 : List Nat}
theorem PgFl.now (h : PgFl w B X p a0 c0 f0 a5 c5 P5 a11 c11 P11 f11 a12 c12 P12 f12) : ∃ f, OwnL w LGraphics [.slice a0 p.now.st.length c0, .int .i64 p.now.q, .int .i64 p.now.s, .int .i64 p.now.dx, .int .i64 p.now.dy, .slice a5 p.now.path.length c5, .int .i64 p.now.gray, .int .i64 p.now.x0, .int .i64 p.now.y0, .int .i64 p.now.x1, .int .i64 p.now.y1] p.now.dt f := by
  obtain ⟨G, F0, _⟩ := h.at_
  exact ⟨_, mk_gr p.now.q p.now.s p.now.dx p.now.dy p.now.gray p.now.x0 p.now.y0 p.now.x1 p.now.y1 h.o0 (row_own2 h.r5 (h.o5 w))⟩
theorem PgFl.store (h : PgFl w B X p a0 c0 f0 a5 c5 P5 a11 c11 P11 f11 a12 c12 P12 f12) (hb : Below w.heap.size w w') (hB : B ≤ w.heap.size) (hX : B ≤ X) {g : Gr} (eg : g.st = p.now.st) {a5' : Option Addr} {c5' : Nat} {f5 : List Nat} {o : Nat} {v : Value}
    (BX : Blk (w'.setCell ⟨X, o, none⟩ v) X (pgCells { p with now := g } a0 c0 a5' c5' a11 c11 a12 c12)) (o5 : Own w' (.sl KPt) [.slice a5' g.path.length c5'] (.sl (dP g.path)) f5) (n5 : f5.Nodup) (d5 : ∀ b ∈ f5, b ∈ rowL (.slice a5 p.now.path.length c5) ∨ w.heap.size ≤ b) :
    OpRes B X (some { p with now := g }) w (.returned (.bool true)) (w'.setCell ⟨X, o, none⟩ v) := by
  have hXl := h.blk.2.2
  obtain ⟨nX, nX5, _⟩ := h.apart
  refine ⟨rfl, (hb.mono hB).setCell (p := ⟨X, o, none⟩) hX v, fun P' hP => ?_⟩
  injection hP with hP
  subst hP
  refine h.close (by have := hb.size; simpa using this) (fun b hb' => ?_) eg BX (own_setN o5 (fun hx => ?_) o v) n5 hXl hB d5
  · rw [heap_set_ne (fun (e : b = X) => nX (e ▸ hb'))]
    exact hb.block b (h.lt b hb')
  · rcases d5 X hx with k | k
    · exact nX5 k
    · omega
end
theorem op_new {w : World} {B X : Nat} {P : Pg} (h : PgAt w B X P) (hB : B ≤ w.heap.size) (hX : B ≤ X) (u : Value) :
    Calls Tryz.prog 122 #[.pointer (some ⟨X, 0, none⟩), u] w (OpRes B X (some (setPath P [])) w) := by
  obtain ⟨a0, c0, f0, a5, c5, P5, a11, c11, P11, f11, a12, c12, P12, f12, h⟩ := h.flat
  have k5 := h.blk.1 5 _ rfl
  have fz := h.blk.2.1
  have HR : Hid (OpRes B X (some (setPath P [])) w (.returned (.bool true)) (w.setCell ⟨X, 5, none⟩ (.slice none 0 0))) := Lib.hid (h.store (Below.refl _ _) hB hX (g := { P.now with path := [] }) rfl (a5' := none) (c5' := 0) (Blk.put (P := [_, _, _, _, _]) h.blk rfl (.slice none 0 0)) (.nil none 0) List.nodup_nil (fun b hb => absurd hb List.not_mem_nil))
  clear h
  go_enter Tryz.func122, Tryz.ntmps122
  go_wp2
  go_ret
  exact HR.out
theorem op_gray {w : World} {B X : Nat} {P : Pg} (h : PgAt w B X P) (hB : B ≤ w.heap.size) (hX : B ≤ X) (g2 c2 : Nat) (x : Int) (hx : w.cell? ⟨g2, 0, none⟩ = some (.int .i64 x)) :
    Calls Tryz.prog 127 #[.pointer (some ⟨X, 0, none⟩), .slice (some ⟨g2, 0, none⟩) 1 c2] w (OpRes B X (some (graM P x)) w) := by
  obtain ⟨a0, c0, f0, a5, c5, P5, a11, c11, P11, f11, a12, c12, P12, f12, h⟩ := h.flat
  have k6 := h.blk.1 6 _ rfl
  have fz := h.blk.2.1
  have HR : Hid (OpRes B X (some (graM P x)) w (.returned (.bool true)) (w.setCell ⟨X, 6, none⟩ (.int .i64 x))) := Lib.hid (h.store (Below.refl _ _) hB hX (g := { P.now with gray := x }) rfl (a5' := a5) (c5' := c5) (Blk.put (P := [_, _, _, _, _, _]) h.blk rfl (.int .i64 x)) (row_own2 h.r5 (h.o5 w)) (rowF_nodup List.nodup_nil (fun b _ hh => absurd hh List.not_mem_nil)) (fun b hb => (rowF_sub b hb).elim .inl (fun hh => absurd hh List.not_mem_nil)))
  clear h
  go_enter Tryz.func127, Tryz.ntmps127
  go_wp2
  go_ret
  exact HR.out
theorem PgFl.load {w : World} {B X : Nat} {p : Pg} {a0 : Option Addr} {c0 : Nat} {f0 : List Nat} {a5 : Option Addr} {c5 : Nat} {P5 : List Value} {a11 : Option Addr} {c11 : Nat} {P11 : List Value} {f11 : List Nat} {a12 : Option Addr} {c12 : Nat} {P12 : List Value} {f12 : List Nat}
    (h : PgFl w B X p a0 c0 f0 a5 c5 P5 a11 c11 P11 f11 a12 c12 P12 f12) : ∃ (A : Array Value) (f : List Nat), OwnL w LGraphics A.toList p.now.dt f ∧ ∀ W, Below w.heap.size w W → (hload 42 ⟨X, 0, none⟩).run Tryz.prog W = .ok (.agg A) W := by
  obtain ⟨f, o⟩ := h.now
  refine ⟨List.toArray _, f, by simpa using o, fun W hb => ?_⟩
  exact hload_run (P := Tryz.prog) (t := 42) Tryz.isAgg42 Tryz.sizeOf42 (w := W) (b := X) (o := 0) (us := [.slice a0 p.now.st.length c0, .int .i64 p.now.q, .int .i64 p.now.s, .int .i64 p.now.dx, .int .i64 p.now.dy, .slice a5 p.now.path.length c5, .int .i64 p.now.gray, .int .i64 p.now.x0, .int .i64 p.now.y0, .int .i64 p.now.x1, .int .i64 p.now.y1]) (Blk.part (P := []) (R := [.slice a11 p.saved.length c11, .slice a12 p.objs.length c12]) (h.blk.keep hb) rfl) rfl
theorem PgFl.placed1 {w W : World} {B X : Nat} {p : Pg} {a0 : Option Addr} {c0 : Nat} {f0 : List Nat} {a5 : Option Addr} {c5 : Nat} {P5 : List Value} {a11 : Option Addr} {c11 : Nat} {P11 : List Value} {f11 : List Nat} {a12 : Option Addr} {c12 : Nat} {P12 : List Value} {f12 : List Nat}
    (h : PgFl w B X p a0 c0 f0 a5 c5 P5 a11 c11 P11 f11 a12 c12 P12 f12) (hB : B ≤ w.heap.size) (hX : B ≤ X) (bA : Below w.heap.size w W) {g : Gr} (hg : g = { p.now with path := g.path }) :
    ∀ (w5 : World) (a' : Option Addr) (c' : Nat), w5.ownsRow W.heap.size 109 2 (.slice a' g.path.length c') g.path.length (cellsP g.path) → Below W.heap.size W w5 → OpRes B X (some { p with now := g }) w (.returned (.bool true)) (w5.setCell ⟨X, 5, none⟩ (.slice a' g.path.length c')) := by
  intro w5 a' c' r5 b5
  have b05 := on_of bA b5
  refine h.store b05 hB hX (by rw [hg]) (a5' := a') (c5' := c') ?_ (row_own2 r5 (ownL_pts w5 _)) (rowF_nodup List.nodup_nil (fun b _ hh => absurd hh List.not_mem_nil)) (fun b hb => .inr (Nat.le_trans bA.size ((rowF_ge (fun b hb => (rowL_ge r5 b hb).1) (fun b hb => absurd hb List.not_mem_nil)) b hb)))
  have := Blk.put (o := 5) (P := [.slice a0 p.now.st.length c0, .int .i64 p.now.q, .int .i64 p.now.s, .int .i64 p.now.dx, .int .i64 p.now.dy]) (h.blk.keep b05) rfl (.slice a' g.path.length c')
  have e : pgCells { p with now := g } a0 c0 a' c' a11 c11 a12 c12 = pgCells { p with now := { p.now with path := g.path } } a0 c0 a' c' a11 c11 a12 c12 := by rw [← hg]
  rw [e]
  exact this
theorem ptcells (w : World) (T : TypeId) (x y : Int) : ∀ i, i < [(x, y)].length → (w.alloc (.cells #[.int .i64 x, .int .i64 y] T)).drew.cell? ⟨w.heap.size, i * 2, none⟩ = some (.int .i64 (pX [(x, y)] i)) ∧ (w.alloc (.cells #[.int .i64 x, .int .i64 y] T)).drew.cell? ⟨w.heap.size, i * 2 + 1, none⟩ = some (.int .i64 (pY [(x, y)] i)) := by
  intro i hi
  obtain rfl : i = 0 := by simpa using hi
  exact ⟨by simp [go_sem, pX], by simp [go_sem, pY]⟩
set_option maxHeartbeats 2000000 in
theorem op_move {w : World} {B X : Nat} {P : Pg} (h : PgAt w B X P) (hB : B ≤ w.heap.size) (hX : B ≤ X) (ht : tokB P.now.q P.now.s P.now.dx P.now.dy = true) (g2 c2 : Nat) (x y : Int) (hg : g2 < w.heap.size) (hx : w.cell? ⟨g2, 0, none⟩ = some (.int .i64 x)) (hy : w.cell? ⟨g2, 1, none⟩ = some (.int .i64 y)) (bx : -9999 ≤ x ∧ x ≤ 9999) (bY : -9999 ≤ y ∧ y ≤ 9999) :
    Calls Tryz.prog 123 #[.pointer (some ⟨X, 0, none⟩), .slice (some ⟨g2, 0, none⟩) 2 c2] w (OpRes B X (some (movM P x y)) w) := by
  obtain ⟨a0, c0, f0, a5, c5, P5, a11, c11, P11, f11, a12, c12, P12, f12, h⟩ := h.flat
  obtain ⟨A, fA, oA, hL⟩ := h.load
  have bA : Below w.heap.size w (w.alloc (.cells #[.int .i64 x, .int .i64 y] 109)).drew := by go_grown
  have ra := hL w.drew (by go_grown)
  have rb := hL _ bA
  have HA := Lib.hid (oA.under bA)
  have HB := Lib.hid bA
  have hXl := h.blk.2.2
  have HC := Lib.hid (placed_n _ ht HA.out w.heap.size 1 [(x, y)] 1 rfl (by simp) (by simp) (ptcells w 109 x y) (fun i hi => by
    obtain rfl : i = 0 := by simpa using hi
    exact ⟨by simp [pX]; omega, by simp [pY]; omega⟩))
  have HS := Lib.hid (h.placed1 hB hX bA (g := { P.now with path := [imP P.now x y] }) rfl)
  have HK := Lib.hid (fun (W : World) (hb : Below w.heap.size w W) => And.intro ((h.blk.keep hb).1 5 _ rfl) (h.blk.keep hb).2.1)
  clear h oA hL bA ht
  go_enter Tryz.func123, Tryz.ntmps123
  go_upto_region 1 with (fail)
  go_region_law (go_simp; go_at_call 152; (with_reducible refine (HC.out).mono ?_); rintro e w5 ⟨a', c', rfl, r5, b5⟩; have kk := HK.out w5 (on_of HB.out b5); obtain ⟨k5, fz⟩ := kk; have HR := Lib.hid (HS.out w5 a' c' r5 b5); clear r5 b5)
  all_goals
    go_wp2
    go_ret
    exact HR.out
end Go.Proofs.YtjmfgbbngocodaaGreat.Own

