/-
  Texts of this seat, laid together: ExM, ExK
-/
import Derived.Test.YtjmfgbbngocodaaGreatV10
import Derived.Test.YtjmfgbbngocodaaGreatV31
import Derived.Test.YtjmfgbbngocodaaGreatV30
import Derived.Test.YtjmfgbbngocodaaGreatV34
import Derived.Test.YtjmfgbbngocodaaGreatV19
namespace Go.Proofs.YtjmfgbbngocodaaGreat.Own
open Go.ChangeShapes Go.WideShapes Go.ChangeAt Go.RowKit
open Kit Slabs Ints Stack Point Turn Join Pts Box Push Take Opn SOp
set_option linter.unusedVariables false
set_option linter.unusedSimpArgs false
set_option linter.unnecessarySimpa false
set_option maxRecDepth 100000
def lst (Y : Nat → Int) (n : Nat) : List Int := (List.range n).map Y
theorem lst_len (Y : Nat → Int) (n : Nat) : (lst Y n).length = n := by simp [lst]
theorem lst_at (Y : Nat → Int) {n i : Nat} (h : i < n) : xI (lst Y n) i = Y i := by
  simp [xI, lst, List.getD, h]
theorem stack_own {w : World} {B n : Nat} {v : Value} {Y : Nat → Int} (h : Slab w B v n 1 (ic Y)) : ∃ a c f, v = .slice a n c ∧ Own w (.sl .int) [.slice a (lst Y n).length c] (.sl (dI (lst Y n))) f ∧ f.Nodup ∧ (∀ b ∈ f, B ≤ b) := by
  have o := ints_own h (es := dI (lst Y n)) (by rw [len_dI, lst_len]) (fun i hi => by rw [at_dI _ (by rw [lst_len]; exact hi), lst_at Y hi])
  have hr := h.row
  obtain ⟨a, c, hv, _⟩ := h
  subst hv
  rw [lst_len]
  exact ⟨a, c, _, rfl, o, nodup_row _, fun b hb => (hr b (by simpa using hb)).1⟩
def opM (k : Nat) (P : Pg) (x : Nat → Int) : Option Pg :=
  match k with
  | 0 => some (setPath P [])
  | 1 => some (movM P (x 0) (x 1))
  | 2 => if P.now.path.length = 0 then none else some (linM P (x 0) (x 1))
  | 3 => if okR (x 2) (x 3) = true then some (recM P (x 0) (x 1) (x 2) (x 3)) else none
  | 4 => some (filM P)
  | 5 => some (graM P (x 0))
  | 6 => if P.now.path.length = 0 then none else some (cliM P)
  | 7 => some (savM P)
  | 8 => resO P
  | 9 => if tuB P.now 0 1 (x 0) (x 1) = true then some (turM P 0 1 (x 0) (x 1)) else none
  | 10 => if tuB P.now (x 0) 1 0 0 = true then some (turM P (x 0) 1 0 0) else none
  | _ => if tuB P.now 0 (x 0) 0 0 = true then some (turM P 0 (x 0) 0 0) else none
theorem nd_stack {X m : Nat} {f0 f r : List Nat} (h : (X :: (f0 ++ r)).Nodup) (lt : ∀ b ∈ X :: (f0 ++ r), b < m) (n : f.Nodup) (g : ∀ b ∈ f, m ≤ b) : (X :: (f ++ r)).Nodup := by
  simp only [List.nodup_cons, List.nodup_append, List.mem_append, List.mem_cons] at *
  grind
theorem PgFl.stack {w w' : World} {B X : Nat} {p : Pg} {a0 : Option Addr} {c0 : Nat} {f0 : List Nat} {a5 : Option Addr} {c5 : Nat} {P5 : List Value} {a11 : Option Addr} {c11 : Nat} {P11 : List Value} {f11 : List Nat} {a12 : Option Addr} {c12 : Nat} {P12 : List Value} {f12 : List Nat}
    (h : PgFl w B X p a0 c0 f0 a5 c5 P5 a11 c11 P11 f11 a12 c12 P12 f12) (hb : Below w.heap.size w w') (hB : B ≤ w.heap.size) (hX : B ≤ X) {l : List Int} {a : Option Addr} {c : Nat} {f : List Nat} (o : Own w' (.sl .int) [.slice a l.length c] (.sl (dI l)) f) (n : f.Nodup) (g : ∀ b ∈ f, w.heap.size ≤ b) :
    Below B w (w'.setCell ⟨X, 0, none⟩ (.slice a l.length c)) ∧ PgFl (w'.setCell ⟨X, 0, none⟩ (.slice a l.length c)) B X (stkM p l) a c f a5 c5 P5 a11 c11 P11 f11 a12 c12 P12 f12 := by
  have hXl := h.blk.2.2
  have nd := h.nd
  have lt := h.parts
  have h1 := h.on hb
  have tX : Turns w' (w'.setCell ⟨X, 0, none⟩ (.slice a l.length c)) (fun b => b = X) := turns_set (S := fun b => b = X) (Turns.refl _ _) rfl _ _
  have B9 := Blk.put (o := 0) (P := []) h1.blk rfl (.slice a l.length c)
  have hsz : w'.heap.size = (w'.setCell ⟨X, 0, none⟩ (.slice a l.length c)).heap.size := by simp
  generalize w'.setCell ⟨X, 0, none⟩ (.slice a l.length c) = W9 at *
  have zb := hb.size
  have d0 : ∀ b ∈ f, ¬ b = X := fun b hb e => by have := g b hb; omega
  have nX := (List.nodup_cons.1 nd).1
  have n5 : ∀ b ∈ rowL (.slice a5 p.now.path.length c5), ¬ b = X := fun b hb e => nX (e ▸ List.mem_append_right _ (List.mem_append_left _ hb))
  have n11 : ∀ b ∈ rowL (.slice a11 p.saved.length c11), ¬ b = X := fun b hb e => nX (e ▸ List.mem_append_right _ (List.mem_append_right _ (List.mem_append_left _ hb)))
  have m11 : ∀ b ∈ f11, ¬ b = X := fun b hb e => nX (e ▸ List.mem_append_right _ (List.mem_append_right _ (List.mem_append_right _ (List.mem_append_left _ hb))))
  have n12 : ∀ b ∈ rowL (.slice a12 p.objs.length c12), ¬ b = X := fun b hb e => nX (e ▸ List.mem_append_right _ (List.mem_append_right _ (List.mem_append_right _ (List.mem_append_right _ (List.mem_append_left _ hb)))))
  have m12 : ∀ b ∈ f12, ¬ b = X := fun b hb e => nX (e ▸ List.mem_append_right _ (List.mem_append_right _ (List.mem_append_right _ (List.mem_append_right _ (List.mem_append_right _ hb)))))
  refine ⟨(hb.mono hB).trans (tX.below (by omega) (fun k e => e ▸ hX)), B9, o.turned tX d0, row_turned h1.r5 tX n5, h.o5, row_turned h1.r11 tX n11, h1.o11.turned tX m11, row_turned h1.r12 tX n12, h1.o12.turned tX m12, ?_, ?_⟩
  · have ltw : ∀ b ∈ X :: (f0 ++ (rowL (.slice a5 p.now.path.length c5) ++ (rowL (.slice a11 p.saved.length c11) ++ (f11 ++ (rowL (.slice a12 p.objs.length c12) ++ f12))))), b < w.heap.size := by
      intro b hb
      rcases List.mem_cons.1 hb with rfl | hb
      · exact hXl
      · exact (lt b hb).2
    exact nd_stack nd ltw n g
  · intro b hb
    rcases List.mem_append.1 hb with hb | hb
    · have := g b hb; omega
    · exact h.ge b (List.mem_append_right _ hb)
end Go.Proofs.YtjmfgbbngocodaaGreat.Own

namespace Go.Proofs.YtjmfgbbngocodaaGreat.Own
open Go.ChangeShapes Go.WideShapes Go.ChangeAt Go.RowKit
open Kit Slabs Ints Stack Point Turn Join Pts Box Push Take Opn SOp
set_option linter.unusedVariables false
set_option linter.unusedSimpArgs false
set_option linter.unnecessarySimpa false
set_option maxRecDepth 100000
theorem row_nums {w : World} {B n : Nat} {u : Value} {x : Nat → Int} (h : w.ownsRow B 3 1 u n (flat (ic x) n)) (h0 : n ≠ 0) : ∃ g c, u = .slice (some ⟨g, 0, none⟩) n c ∧ g < w.heap.size ∧ g ∈ rowL u ∧ ∀ i, i < n → w.cell? ⟨g, i, none⟩ = some (.int .i64 (x i)) := by
  have hs := Slab.of_owns h (ic_len x)
  rcases hs.writes with ⟨h, _⟩ | ⟨g, cap, rfl, _, hw⟩
  · exact absurd h h0
  · exact ⟨g, cap, rfl, hw.here, by simp [rowL, Value.ownBlock], fun i hi => ic_cell hw hi⟩
theorem opN_le {s : ByteArray} {k : Nat} (h : opN s = some k) : k ≤ 11 := by
  unfold opN at h
  by_cases e0 : (s.toList == [110, 101, 119]) = true
  · rw [if_pos e0] at h; injection h with h; omega
  rw [if_neg e0] at h
  by_cases e1 : (s.toList == [109, 111, 118, 101, 116, 111]) = true
  · rw [if_pos e1] at h; injection h with h; omega
  rw [if_neg e1] at h
  by_cases e2 : (s.toList == [108, 105, 110, 101, 116, 111]) = true
  · rw [if_pos e2] at h; injection h with h; omega
  rw [if_neg e2] at h
  by_cases e3 : (s.toList == [114, 101, 99, 116]) = true
  · rw [if_pos e3] at h; injection h with h; omega
  rw [if_neg e3] at h
  by_cases e4 : (s.toList == [102, 105, 108, 108]) = true
  · rw [if_pos e4] at h; injection h with h; omega
  rw [if_neg e4] at h
  by_cases e5 : (s.toList == [103, 114, 97, 121]) = true
  · rw [if_pos e5] at h; injection h with h; omega
  rw [if_neg e5] at h
  by_cases e6 : (s.toList == [99, 108, 105, 112]) = true
  · rw [if_pos e6] at h; injection h with h; omega
  rw [if_neg e6] at h
  by_cases e7 : (s.toList == [115, 97, 118, 101]) = true
  · rw [if_pos e7] at h; injection h with h; omega
  rw [if_neg e7] at h
  by_cases e8 : (s.toList == [114, 101, 115, 116, 111, 114, 101]) = true
  · rw [if_pos e8] at h; injection h with h; omega
  rw [if_neg e8] at h
  by_cases e9 : (s.toList == [115, 104, 105, 102, 116]) = true
  · rw [if_pos e9] at h; injection h with h; omega
  rw [if_neg e9] at h
  by_cases e10 : (s.toList == [116, 117, 114, 110]) = true
  · rw [if_pos e10] at h; injection h with h; omega
  rw [if_neg e10] at h
  by_cases e11 : (s.toList == [115, 99, 97, 108, 101]) = true
  · rw [if_pos e11] at h; injection h with h; omega
  rw [if_neg e11] at h
  cases h
structure PgFit (P : Pg) : Prop where
  tok : tokB P.now.q P.now.s P.now.dx P.now.dy = true
  path : P.now.path.length ≤ 8
  saved : P.saved.length ≤ 4
  objs : P.objs.length ≤ 12
  bulk : bulkL P.now.dt ≤ 1048576
theorem opn_all {w : World} {B X : Nat} {P : Pg} (h : PgAt w B X P) (hB : B ≤ w.heap.size) (hX : B ≤ X) (hf : PgFit P) (k : Nat) (hk : k ≤ 11) {Bt : Nat} {u : Value} {x : Nat → Int} (hu : w.ownsRow Bt 3 1 u (opK k) (flat (ic x) (opK k))) (hap : ∀ b ∈ rowL u, b ≠ X ∧ ∀ v, w.cell? ⟨X, 5, none⟩ = some v → b ∉ rowL v)
    (hx : ∀ i, i < opK k → -9999 ≤ x i ∧ x i ≤ 9999) : Calls Tryz.prog (opF k) #[.pointer (some ⟨X, 0, none⟩), u] w (OpRes B X (opM k P x) w) := by
  have hc : k = 0 ∨ k = 1 ∨ k = 2 ∨ k = 3 ∨ k = 4 ∨ k = 5 ∨ k = 6 ∨ k = 7 ∨ k = 8 ∨ k = 9 ∨ k = 10 ∨ k = 11 := by omega
  rcases hc with rfl | rfl | rfl | rfl | rfl | rfl | rfl | rfl | rfl | rfl | rfl | rfl
  · exact op_new h hB hX u
  · obtain ⟨g, c, rfl, hg, hr, hn⟩ := row_nums hu (by decide)
    exact op_move h hB hX hf.tok g c (x 0) (x 1) hg (hn 0 (by decide)) (hn 1 (by decide)) (hx 0 (by decide)) (hx 1 (by decide))
  · obtain ⟨g, c, rfl, hg, hr, hn⟩ := row_nums hu (by decide)
    exact op_line h hB hX hf.path hf.tok g c (x 0) (x 1) hg (hap g hr).1 (hap g hr).2 (hn 0 (by decide)) (hn 1 (by decide)) (hx 0 (by decide)) (hx 1 (by decide))
  · obtain ⟨g, c, rfl, hg, hr, hn⟩ := row_nums hu (by decide)
    exact op_rect h hB hX hf.tok g c (x 0) (x 1) (x 2) (x 3) hg (hn 0 (by decide)) (hn 1 (by decide)) (hn 2 (by decide)) (hn 3 (by decide)) (hx 0 (by decide)) (hx 1 (by decide))
  · exact op_fill h hB hX hf.objs u
  · obtain ⟨g, c, rfl, hg, hr, hn⟩ := row_nums hu (by decide)
    exact op_gray h hB hX g c (x 0) (hn 0 (by decide))
  · exact op_clip h hB hX hf.path u
  · exact op_save h hB hX hf.bulk hf.saved u
  · exact op_restore h hB hX hf.saved u
  · obtain ⟨g, c, rfl, hg, hr, hn⟩ := row_nums hu (by decide)
    exact op_shift h hB hX g c (x 0) (x 1) (hn 0 (by decide)) (hn 1 (by decide))
  · obtain ⟨g, c, rfl, hg, hr, hn⟩ := row_nums hu (by decide)
    exact op_turn h hB hX g c (x 0) (hn 0 (by decide))
  · obtain ⟨g, c, rfl, hg, hr, hn⟩ := row_nums hu (by decide)
    exact op_scale h hB hX g c (x 0) (hn 0 (by decide))
end Go.Proofs.YtjmfgbbngocodaaGreat.Own

