/-
  Texts of this seat, laid together: Rep, SpA, SpI
-/
import Derived.Deep.Onto
import Derived.Test.YtjmfgbbngocodaaGreatV10
import Derived.Test.YtjmfgbbngocodaaGreatV35
namespace Go.Proofs.YtjmfgbbngocodaaGreat.Blk
open Go.ChangeShapes Go.WideShapes Go.ChangeAt Go.RowKit
open Kit Scan Slabs
set_option linter.unusedVariables false
set_option linter.unusedSimpArgs false
set_option linter.unnecessarySimpa false
set_option maxRecDepth 100000
theorem ok_spec (w : World) (v : Value) (L : List Tok) (hn : L.length ≤ 1048576) (hS : ∀ t ∈ L, t.1.size ≤ 281474976710656) (h : Rdt w v L) :
    Calls Tryz.prog 136 #[v] w fun e w' => e = .returned (.bool (decide (0 ≤ bdV L))) ∧ Below w.heap.size w w' := by
  have HD := Lib.hid (depth_spec w v L hn hS h)
  clear h hS
  go_enter Tryz.func136, Tryz.ntmps136
  go_wp2_with fail
  ((with_reducible refine HD.out.mono ?_); rintro e w1 ⟨rfl, hb⟩)
  go_wp2
  go_ret
  exact ⟨rfl, hb⟩
def FlenIs (L : List Tok) (x : Int) : Prop := (0 ≤ bdV L ∧ ∃ f d, Fl L f d ∧ d ≤ 3 ∧ L.length ≤ 60 ∧ x = (f.length : Int)) ∨ (bdV L < 0 ∧ x = -1)
def FbIs (L A : List Tok) (B : Bool) : Prop := (0 ≤ bdV L ∧ ∃ f d, Fl L f d ∧ d ≤ 3 ∧ L.length ≤ 60 ∧ B = decide (f.length ≤ 200) ∧ A = if f.length ≤ 200 then f else []) ∨ (bdV L < 0 ∧ B = false ∧ A = [])
theorem fb_ex (L : List Tok) : ∃ A B, FbIs L A B := by
  rcases Int.lt_or_le (bdV L) 0 with h | h
  · exact ⟨[], false, .inr ⟨h, rfl, rfl⟩⟩
  · obtain ⟨f, d, F, _, h60, h3⟩ := bd_fl h
    exact ⟨_, _, .inl ⟨h, f, d, F, h3, h60, rfl, rfl⟩⟩
theorem fl_bound {L f : List Tok} {d : Nat} (F : Fl L f d) (h60 : L.length ≤ 60) (hd : d ≤ 3) : f.length ≤ 43740 := by
  have h1 := fl_len F
  have h2 : 9 ^ d ≤ 9 ^ 3 := Nat.pow_le_pow_right (by omega) hd
  have h3 : L.length * 9 ^ d ≤ 60 * 9 ^ 3 := Nat.mul_le_mul h60 h2
  omega
theorem fb_bound {L A : List Tok} {B : Bool} (h : FbIs L A B) : A.length ≤ 200 := by
  rcases h with ⟨_, f, d, F, hd, h60, _, rfl⟩ | ⟨_, _, rfl⟩
  · split
    · assumption
    · simp
  · simp
theorem len_spec (w : World) (v : Value) (L : List Tok) (hn : L.length ≤ 1048576) (hS : ∀ t ∈ L, t.1.size ≤ 281474976710656) (h : Rdt w v L) (x : Int) (hx : FlenIs L x) :
    Calls Tryz.prog 98 #[v] w fun e w' => e = .returned (.int .i64 x) ∧ Below w.heap.size w w' := by
  have HD := Lib.hid (ok_spec w v L hn hS h)
  have HR := Lib.hid h
  clear h hS
  rcases hx with ⟨h0, f, d, F, hd, h60, rfl⟩ | ⟨h0, rfl⟩
  · have hdec : decide (0 ≤ bdV L) = true := by simpa using h0
    have HF := Lib.hid F
    have hfb := fl_bound F h60 hd
    clear F
    go_enter Tryz.func98, Tryz.ntmps98
    go_wp2_with fail
    ((with_reducible refine HD.out.mono ?_); rintro e w1 ⟨rfl, hb⟩)
    rw [hdec]
    go_wp2_with fail
    ((with_reducible refine (flat_spec _ L f d rfl h60 hd HF.out _ _ (HR.out.on hb)).mono ?_); rintro e w2 ⟨u, rfl, ho, hu, hb2⟩)
    have hB := on_of hb hb2
    rcases ho.2 with ⟨h1, _⟩ | ⟨g, cap, cur, h1, _⟩
    · exact absurd h1 hu
    · subst h1
      clear ho hu
      go_wp2
      go_ret
      exact ⟨rfl, hB⟩
  · have hdec : decide (0 ≤ bdV L) = false := by simpa using h0
    go_enter Tryz.func98, Tryz.ntmps98
    go_wp2_with fail
    ((with_reducible refine HD.out.mono ?_); rintro e w1 ⟨rfl, hb⟩)
    rw [hdec]
    go_wp2
    go_ret
    exact ⟨rfl, hb⟩
def FbLeft (A : List Tok) (B : Bool) (w : World) (e : Ending) (w' : World) : Prop := ∃ u : Value, e = .returned (.tuple #[u, .bool B]) ∧ w'.ownsRow w.heap.size 50 2 u A.length (cellsL A) ∧ Below w.heap.size w w'
theorem fb_spec (w : World) (v : Value) (L : List Tok) (hn : L.length ≤ 1048576) (hS : ∀ t ∈ L, t.1.size ≤ 281474976710656) (h : Rdt w v L) (A : List Tok) (B : Bool) (hA : FbIs L A B) :
    Calls Tryz.prog 49 #[v] w (FbLeft A B w) := by
  have ho0 : ∀ W : World, w.heap.size ≤ W.heap.size → (W.alloc (.cells #[] 50)).ownsRow w.heap.size 50 2 (.slice (some ⟨W.heap.size, 0, none⟩) 0 0) 0 [] := fun W hW => World.ownsRow_made W #[] 0 hW (by decide) (by simp)
  rcases hA with ⟨h0, f, d, F, hd, h60, rfl, rfl⟩ | ⟨h0, rfl, rfl⟩
  · have HD := Lib.hid (len_spec w v L hn hS h (f.length : Int) (.inl ⟨h0, f, d, F, hd, h60, rfl⟩))
    have HR := Lib.hid h
    have HF := Lib.hid F
    have HO := Lib.hid ho0
    have hfb := fl_bound F h60 hd
    clear h hS F ho0
    by_cases h200 : f.length ≤ 200
    · have hdec : decide (0 ≤ (f.length : Int) ∧ (f.length : Int) ≤ 200) = true := by simp; omega
      rw [if_pos h200, show decide (f.length ≤ 200) = true by simpa using h200]
      go_enter Tryz.func49, Tryz.ntmps49
      go_wp2_with fail
      ((with_reducible refine HD.out.mono ?_); rintro e w1 ⟨rfl, hb⟩)
      go_wp2_with fail
      (refine (Point.in_any _ _ _ _).mono ?_; rintro e w1' ⟨rfl, rfl⟩; rw [hdec])
      go_wp2_with fail
      ((with_reducible refine (flat_spec _ L f d rfl h60 hd HF.out _ _ (HR.out.on hb)).mono ?_); rintro e w2 ⟨u, rfl, ho, hu, hb2⟩)
      have HX := Lib.hid (And.intro (World.ownsRow.mono ho hb.size) (on_of hb hb2))
      clear ho hu hb hb2
      go_wp2
      refine bodyPost_ret (by simp [results, Tryz.results49, go_sem, *]; try rfl) rfl ?_
      exact ⟨u, rfl, HX.out.1, HX.out.2⟩
    · have hdec : decide (0 ≤ (f.length : Int) ∧ (f.length : Int) ≤ 200) = false := by simp; omega
      rw [if_neg h200, show decide (f.length ≤ 200) = false by simpa using h200]
      go_enter Tryz.func49, Tryz.ntmps49
      go_wp2_with fail
      ((with_reducible refine HD.out.mono ?_); rintro e w1 ⟨rfl, hb⟩)
      go_wp2_with fail
      (refine (Point.in_any _ _ _ _).mono ?_; rintro e w1' ⟨rfl, rfl⟩; rw [hdec])
      go_wp2
      refine bodyPost_ret (by simp [results, Tryz.results49, go_sem, *]; try rfl) rfl ?_
      exact ⟨_, rfl, HO.out _ hb.size, hb.alloc hb.size _⟩
  · have HD := Lib.hid (len_spec w v L hn hS h (-1) (.inr ⟨h0, rfl⟩))
    have HO := Lib.hid ho0
    have hdec : decide (0 ≤ (-1 : Int) ∧ (-1 : Int) ≤ 200) = false := by simp
    clear h hS ho0
    go_enter Tryz.func49, Tryz.ntmps49
    go_wp2_with fail
    ((with_reducible refine HD.out.mono ?_); rintro e w1 ⟨rfl, hb⟩)
    go_wp2_with fail
    (refine (Point.in_any _ _ _ _).mono ?_; rintro e w1' ⟨rfl, rfl⟩; rw [hdec])
    go_wp2
    refine bodyPost_ret (by simp [results, Tryz.results49, go_sem, *]; try rfl) rfl ?_
    exact ⟨_, rfl, HO.out _ hb.size, hb.alloc hb.size _⟩
end Go.Proofs.YtjmfgbbngocodaaGreat.Blk

namespace Go.Proofs.YtjmfgbbngocodaaGreat.Own
open Go.ChangeShapes Go.WideShapes Go.ChangeAt Go.RowKit
open Kit Slabs Ints Stack Point Turn Join Pts Box Push Take Opn SOp
set_option linter.unusedVariables false
set_option linter.unusedSimpArgs false
set_option linter.unnecessarySimpa false
set_option maxRecDepth 100000
attribute [local go_sem ↓] hload_Graphics hload_Object hstore_Graphics hstore_Object hload_Page hstore_Page
theorem PgOwn.on {w w' : World} {B X : Nat} {P : Pg} (h : PgOwn w B X P) (hb : Below w.heap.size w w') : PgOwn w' B X P := by
  obtain ⟨R, f, b, o, n, x, g⟩ := h
  exact ⟨R, f, b.keep hb, o.under hb, n, x, g⟩
theorem OpRes.alloc {B X : Nat} {r : Option Pg} {w W : World} {e : Ending} (h : OpRes B X r w e W) (hB : B ≤ W.heap.size) (o : Obj) : OpRes B X r w e (W.alloc o) :=
  ⟨h.1, h.2.1.alloc hB o, fun P' hP => (h.2.2 P' hP).on (by go_grown)⟩
theorem cell_on {w w' : World} (h : Below w.heap.size w w') {g o : Nat} (hg : g < w.heap.size) : w'.cell? ⟨g, o, none⟩ = w.cell? ⟨g, o, none⟩ := (bcell h).1 g o hg
theorem nm12 {s : ByteArray} {k : Nat} (h : opN s = some k) : (s.toList == [110, 101, 119]) = (k == 0) ∧ (s.toList == [109, 111, 118, 101, 116, 111]) = (k == 1) ∧ (s.toList == [108, 105, 110, 101, 116, 111]) = (k == 2) ∧ (s.toList == [114, 101, 99, 116]) = (k == 3) ∧ (s.toList == [102, 105, 108, 108]) = (k == 4) ∧ (s.toList == [103, 114, 97, 121]) = (k == 5) ∧ (s.toList == [99, 108, 105, 112]) = (k == 6) ∧ (s.toList == [115, 97, 118, 101]) = (k == 7) ∧ (s.toList == [114, 101, 115, 116, 111, 114, 101]) = (k == 8) ∧ (s.toList == [115, 104, 105, 102, 116]) = (k == 9) ∧ (s.toList == [116, 117, 114, 110]) = (k == 10) ∧ (s.toList == [115, 99, 97, 108, 101]) = (k == 11) := by
  unfold opN at h
  by_cases e0 : (s.toList == [110, 101, 119]) = true
  · rw [if_pos e0] at h; injection h with h; subst h; rw [eq_of_beq e0]; decide
  rw [if_neg e0] at h
  by_cases e1 : (s.toList == [109, 111, 118, 101, 116, 111]) = true
  · rw [if_pos e1] at h; injection h with h; subst h; rw [eq_of_beq e1]; decide
  rw [if_neg e1] at h
  by_cases e2 : (s.toList == [108, 105, 110, 101, 116, 111]) = true
  · rw [if_pos e2] at h; injection h with h; subst h; rw [eq_of_beq e2]; decide
  rw [if_neg e2] at h
  by_cases e3 : (s.toList == [114, 101, 99, 116]) = true
  · rw [if_pos e3] at h; injection h with h; subst h; rw [eq_of_beq e3]; decide
  rw [if_neg e3] at h
  by_cases e4 : (s.toList == [102, 105, 108, 108]) = true
  · rw [if_pos e4] at h; injection h with h; subst h; rw [eq_of_beq e4]; decide
  rw [if_neg e4] at h
  by_cases e5 : (s.toList == [103, 114, 97, 121]) = true
  · rw [if_pos e5] at h; injection h with h; subst h; rw [eq_of_beq e5]; decide
  rw [if_neg e5] at h
  by_cases e6 : (s.toList == [99, 108, 105, 112]) = true
  · rw [if_pos e6] at h; injection h with h; subst h; rw [eq_of_beq e6]; decide
  rw [if_neg e6] at h
  by_cases e7 : (s.toList == [115, 97, 118, 101]) = true
  · rw [if_pos e7] at h; injection h with h; subst h; rw [eq_of_beq e7]; decide
  rw [if_neg e7] at h
  by_cases e8 : (s.toList == [114, 101, 115, 116, 111, 114, 101]) = true
  · rw [if_pos e8] at h; injection h with h; subst h; rw [eq_of_beq e8]; decide
  rw [if_neg e8] at h
  by_cases e9 : (s.toList == [115, 104, 105, 102, 116]) = true
  · rw [if_pos e9] at h; injection h with h; subst h; rw [eq_of_beq e9]; decide
  rw [if_neg e9] at h
  by_cases e10 : (s.toList == [116, 117, 114, 110]) = true
  · rw [if_pos e10] at h; injection h with h; subst h; rw [eq_of_beq e10]; decide
  rw [if_neg e10] at h
  by_cases e11 : (s.toList == [115, 99, 97, 108, 101]) = true
  · rw [if_pos e11] at h; injection h with h; subst h; rw [eq_of_beq e11]; decide
  rw [if_neg e11] at h
  cases h
set_option maxHeartbeats 2000000 in
theorem sp_new {w : World} {B X : Nat} {P : Pg} (h : PgAt w B X P) (hB : B ≤ w.heap.size) (hX : B ≤ X) (s : ByteArray) (hk : opN s = some 0) (u : Value) :
    Calls Tryz.prog 31 #[.pointer (some ⟨X, 0, none⟩), .string s, u] w (OpRes B X (some (setPath P [])) w) := by
  obtain ⟨a0, c0, f0, a5, c5, P5, a11, c11, P11, f11, a12, c12, P12, f12, h⟩ := h.flat
  obtain ⟨q0, q1, q2, q3, q4, q5, q6, q7, q8, q9, q10, q11⟩ := nm12 hk
  have HK := Lib.hid (fun (W : World) (hb : Below w.heap.size w W) => (show (W.cell? ⟨X, 5, none⟩ = some (.slice a5 P.now.path.length c5) ∧ ∀ o, W.frozen? ⟨X, o, none⟩ = false) ∧ ∀ g c, OpRes B X (some (setPath P [])) w (.returned (.bool true)) (W.setCell ⟨X, 5, none⟩ (.slice g 0 c)) from
    ⟨⟨(h.blk.keep hb).1 5 _ rfl, (h.blk.keep hb).2.1⟩, fun g c => h.store hb hB hX (g := { P.now with path := [] }) rfl (a5' := g) (c5' := c) (Blk.put (P := [_, _, _, _, _]) (h.blk.keep hb) rfl (.slice g 0 c)) (.nil g c) List.nodup_nil (fun b hb => absurd hb List.not_mem_nil)⟩))
  have hXl := h.blk.2.2
  clear h hk
  go_enter Tryz.func31, Tryz.ntmps31
  obtain ⟨k5, fz⟩ := (HK.out w (Below.refl _ _)).1
  go_upto_region 4 with (fail)
  go_wp2
  go_ret
  exact ((HK.out w (Below.refl _ _)).2 _ _).alloc (by have := hB; simpa using this) _
set_option maxHeartbeats 2000000 in
theorem sp_gray {w : World} {B X : Nat} {P : Pg} (h : PgAt w B X P) (hB : B ≤ w.heap.size) (hX : B ≤ X) (s : ByteArray) (hk : opN s = some 5) (g2 c2 : Nat) (x : Int) (hg : g2 < w.heap.size) (hx : w.cell? ⟨g2, 0, none⟩ = some (.int .i64 x)) :
    Calls Tryz.prog 32 #[.pointer (some ⟨X, 0, none⟩), .string s, .slice (some ⟨g2, 0, none⟩) 1 c2] w (OpRes B X (some (graM P x)) w) := by
  obtain ⟨a0, c0, f0, a5, c5, P5, a11, c11, P11, f11, a12, c12, P12, f12, h⟩ := h.flat
  obtain ⟨q0, q1, q2, q3, q4, q5, q6, q7, q8, q9, q10, q11⟩ := nm12 hk
  have HK := Lib.hid (fun (W : World) (hb : Below w.heap.size w W) => (show (W.cell? ⟨X, 6, none⟩ = some (.int .i64 P.now.gray) ∧ (∀ o, W.frozen? ⟨X, o, none⟩ = false) ∧ W.cell? ⟨g2, 0, none⟩ = some (.int .i64 x)) ∧ OpRes B X (some (graM P x)) w (.returned (.bool true)) (W.setCell ⟨X, 6, none⟩ (.int .i64 x)) from
    ⟨⟨(h.blk.keep hb).1 6 _ rfl, (h.blk.keep hb).2.1, (cell_on hb hg).trans hx⟩, h.store hb hB hX (g := { P.now with gray := x }) rfl (a5' := a5) (c5' := c5) (Blk.put (P := [_, _, _, _, _, _]) (h.blk.keep hb) rfl (.int .i64 x)) (row_own2 (row_on h.r5 hb) (h.o5 W)) (rowF_nodup List.nodup_nil (fun b _ hh => absurd hh List.not_mem_nil)) (fun b hb => (rowF_sub b hb).elim .inl (fun hh => absurd hh List.not_mem_nil))⟩))
  clear h hk hx
  go_enter Tryz.func32, Tryz.ntmps32
  go_wp2_with fail
  ((with_reducible refine (ident_spec _).mono ?_); rintro e w1 ⟨rfl, b1⟩)
  have bA : Below w.heap.size w (w1.alloc (.cells #[.int .i64 0, .int .i64 1, .int .i64 0, .int .i64 0] 38)) := b1.alloc b1.size _
  go_upto_region 2 with (fail)
  generalize hV : w1.alloc (.cells #[.int .i64 0, .int .i64 1, .int .i64 0, .int .i64 0] 38) = V at bA
  obtain ⟨⟨k6, fz, x0⟩, hr⟩ := HK.out V bA
  have HR := Lib.hid hr
  clear hr b1 bA
  go_wp2
  go_ret
  exact HR.out
end Go.Proofs.YtjmfgbbngocodaaGreat.Own

namespace Go.Proofs.YtjmfgbbngocodaaGreat.Own
open Go.ChangeShapes Go.WideShapes Go.ChangeAt Go.RowKit
open Kit Slabs Ints Stack Point Turn Join Pts Box Push Take Opn SOp
set_option linter.unusedVariables false
set_option linter.unusedSimpArgs false
set_option linter.unnecessarySimpa false
set_option maxRecDepth 100000
attribute [local go_sem ↓] hload_Graphics hload_Object hstore_Graphics hstore_Object hload_Page hstore_Page
theorem PgFl.closeR {w wr : World} {B X : Nat} {p : Pg} {a0 : Option Addr} {c0 : Nat} {f0 : List Nat} {a5 : Option Addr} {c5 : Nat} {P5 : List Value} {a11 : Option Addr} {c11 : Nat} {P11 : List Value} {f11 : List Nat} {a12 : Option Addr} {c12 : Nat} {P12 : List Value} {f12 : List Nat}
    (h : PgFl w B X p a0 c0 f0 a5 c5 P5 a11 c11 P11 f11 a12 c12 P12 f12) (hB : B ≤ w.heap.size) (hX : B ≤ X) (T : Turns w wr (fun b => b = X)) {a' : Option Addr} {c' : Nat} {l : List (Int × Int)} (BX : Blk wr X (pgCells (setPath p l) a0 c0 a' c' a11 c11 a12 c12)) (row : wr.ownsRow w.heap.size 109 2 (.slice a' l.length c') l.length (cellsP l)) :
    OpRes B X (some (setPath p l)) w (.returned (.bool true)) wr := by
  obtain ⟨nX, _, _⟩ := h.apart
  refine ⟨rfl, T.below hB (fun k e => e ▸ hX), fun P' hP => ?_⟩
  injection hP with hP
  subst hP
  refine h.close (g := { p.now with path := l }) T.size (fun b hb => T.block b (h.lt b hb) (fun e => nX (e ▸ hb))) rfl (a5' := a') (c5' := c') BX (row_own2 row (ownL_pts wr l)) (rowF_nodup List.nodup_nil (fun b _ hh => absurd hh List.not_mem_nil)) h.blk.2.2 hB (fun b hb => .inr ?_)
  rcases rowF_sub b hb with k | k
  · exact (rowL_ge row b k).1
  · cases k
theorem Turns.cell {w w' : World} {S : Nat → Prop} (h : Turns w w' S) {b : Nat} (hb : b < w.heap.size) (hn : ¬ S b) (o : Nat) : w'.cell? ⟨b, o, none⟩ = w.cell? ⟨b, o, none⟩ := by
  simp only [World.cell?, h.block b hb hn]
def RcAt (W : World) (X : Nat) (P : Pg) (a0 : Option Addr) (c0 : Nat) (a11 : Option Addr) (c11 : Nat) (a12 : Option Addr) (c12 : Nat) (L : List (Int × Int)) (k : Nat) (a' : Option Addr) (c' : Nat) (wr : World) : Prop :=
  Blk wr X [.slice a0 P.now.st.length c0, .int .i64 P.now.q, .int .i64 P.now.s, .int .i64 P.now.dx, .int .i64 P.now.dy, .slice a' k c', .int .i64 P.now.gray, .int .i64 P.now.x0, .int .i64 P.now.y0, .int .i64 P.now.x1, .int .i64 P.now.y1, .slice a11 P.saved.length c11, .slice a12 P.objs.length c12] ∧ Turns W wr (fun b => b = X) ∧ wr.ownsRow W.heap.size 109 2 (.slice a' k c') k (cellsP ((L.take k).map fun q => imP P.now q.1 q.2))
theorem RcAt.on {W : World} {X : Nat} {P : Pg} {a0 : Option Addr} {c0 : Nat} {a11 : Option Addr} {c11 : Nat} {a12 : Option Addr} {c12 : Nat} {L : List (Int × Int)} {k : Nat} {a' : Option Addr} {c' : Nat} {wr w' : World} (h : RcAt W X P a0 c0 a11 c11 a12 c12 L k a' c' wr) (hb : Below wr.heap.size wr w') : RcAt W X P a0 c0 a11 c11 a12 c12 L k a' c' w' :=
  ⟨h.1.keep hb, h.2.1.trans (Turns.of_below hb), row_on h.2.2 hb⟩
theorem RcAt.next {W : World} {X : Nat} {P : Pg} {a0 : Option Addr} {c0 : Nat} {a11 : Option Addr} {c11 : Nat} {a12 : Option Addr} {c12 : Nat} {L : List (Int × Int)} {k : Nat} {a' : Option Addr} {c' : Nat} {wr w6 w7 : World} (h : RcAt W X P a0 c0 a11 c11 a12 c12 L k a' c' wr) (hX : X < W.heap.size) (b6 : Below wr.heap.size wr w6) (hk : k < L.length) {x y : Int} (hx : pX L k = x) (hy : pY L k = y)
    {a2 : Option Addr} {d2 : Nat} (r7 : w7.ownsRow W.heap.size 109 2 (.slice a2 (k + 1) d2) (k + 1) (cellsP ((L.take k).map fun q => imP P.now q.1 q.2) ++ [.int .i64 (imX P.now.q P.now.s P.now.dx x y), .int .i64 (imY P.now.q P.now.s P.now.dy x y)])) (gr : w6.grownBy w7 (Value.ownBlock (.slice a' k c'))) :
    Blk w7 X [.slice a0 P.now.st.length c0, .int .i64 P.now.q, .int .i64 P.now.s, .int .i64 P.now.dx, .int .i64 P.now.dy, .slice a' k c', .int .i64 P.now.gray, .int .i64 P.now.x0, .int .i64 P.now.y0, .int .i64 P.now.x1, .int .i64 P.now.y1, .slice a11 P.saved.length c11, .slice a12 P.objs.length c12] ∧ Turns W w7 (fun b => b = X) ∧ RcAt W X P a0 c0 a11 c11 a12 c12 L (k + 1) a2 d2 (w7.setCell ⟨X, 5, none⟩ (.slice a2 (k + 1) d2)) := by
  obtain ⟨BX, T, row⟩ := h
  have z1 := T.size
  have z6 := b6.size
  have t7 : Turns w6 w7 (fun j => j ∈ rowL (.slice a' k c')) := (Turns.of_grown gr).mono (fun j hj => by simpa [rowL] using hj)
  have nX : X ∉ rowL (.slice a' k c') := fun hx => by have := (rowL_ge row X hx).1; omega
  have B7 := (BX.keep b6).turned t7 nX
  have nX2 : X ∉ rowL (.slice a2 (k + 1) d2) := fun hx => by have := (rowL_ge r7 X hx).1; omega
  have e : (L.take (k + 1)).map (fun q => imP P.now q.1 q.2) = (L.take k).map (fun q => imP P.now q.1 q.2) ++ [imP P.now x y] := by
    have e : L[k] = (x, y) := by
      have e2 : L.getD k (0, 0) = L[k] := by simp [List.getD, List.getElem?_eq_getElem hk]
      rw [← e2, ← hx, ← hy]; rfl
    rw [List.take_succ_eq_append_getElem hk, List.map_append, e]; rfl
  have hW : Turns W w7 (fun b => b = X) := by
    refine ⟨(t7.os.trans b6.os).trans T.os, (t7.tape.trans b6.tape).trans T.tape, (t7.output.trans b6.output).trans T.output, by have := t7.size; omega, fun b hb hn => ?_⟩
    rw [t7.block b (by omega) (fun hj => by have := (rowL_ge row b hj).1; omega), b6.block b (by omega), T.block b hb hn]
  refine ⟨B7, hW, Blk.put (o := 5) (P := [_, _, _, _, _]) B7 rfl (.slice a2 (k + 1) d2), turns_set (S := fun b => b = X) hW rfl _ _, ?_⟩
  · rw [e, cellsP_app]
    exact row_set r7 nX2 5 _
end Go.Proofs.YtjmfgbbngocodaaGreat.Own

