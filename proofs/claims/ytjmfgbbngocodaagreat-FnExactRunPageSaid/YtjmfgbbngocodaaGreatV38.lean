/-
  Texts of this seat, laid together: NewA, SpC, SpF, SpH
-/
import Derived.WalkKit
import Derived.Handy
import Derived.Laws.EntriesVeiled
import Derived.Lib.Hide
import Derived.Test.YtjmfgbbngocodaaGreatV15
import Derived.Test.YtjmfgbbngocodaaGreatV17
import Derived.Test.YtjmfgbbngocodaaGreatV40
namespace Go.Proofs.YtjmfgbbngocodaaGreat.Own
open Go.ChangeShapes Go.WideShapes Go.ChangeAt Go.RowKit
open Kit Slabs Ints Stack Point Turn
set_option linter.unusedVariables false
set_option linter.unusedSimpArgs false
set_option linter.unnecessarySimpa false
set_option maxRecDepth 100000
attribute [local go_sem ↓] hload_Page hstore_Page
def newR : Array Value := #[.slice none 0 0, .int .i64 0, .int .i64 1, .int .i64 0, .int .i64 0, .slice none 0 0, .int .i64 0, .int .i64 0, .int .i64 0, .int .i64 32, .int .i64 32, .slice none 0 0, .slice none 0 0]
theorem new_own (w : World) : OwnL w LPage newR.toList newP.dt [] :=
  .cons (cs := [.slice none 0 0]) (fp := []) (.nil none 0) (.cons (cs := [.int .i64 0]) (fp := []) (.int 0) (.cons (cs := [.int .i64 1]) (fp := []) (.int 1) (.cons (cs := [.int .i64 0]) (fp := []) (.int 0) (.cons (cs := [.int .i64 0]) (fp := []) (.int 0) (.cons (cs := [.slice none 0 0]) (fp := []) (.nil none 0) (.cons (cs := [.int .i64 0]) (fp := []) (.int 0) (.cons (cs := [.int .i64 0]) (fp := []) (.int 0) (.cons (cs := [.int .i64 0]) (fp := []) (.int 0) (.cons (cs := [.int .i64 32]) (fp := []) (.int 32) (.cons (cs := [.int .i64 32]) (fp := []) (.int 32) (.cons (cs := [.slice none 0 0]) (fp := []) (.nil none 0) (.cons (cs := [.slice none 0 0]) (fp := []) (.nil none 0) .nil))))))))))))
theorem full_spec (w : World) : Calls Tryz.prog 100 #[] w fun e w' => e = .returned (.agg #[.int .i64 0, .int .i64 0, .int .i64 32, .int .i64 32]) ∧ Below w.heap.size w w' := by
  go_enter Tryz.func100, Tryz.ntmps100
  go_wp2
  go_returns
  exact ⟨rfl, by go_grown⟩
set_option maxHeartbeats 1000000 in
theorem spec_NewPage (w : World) : Calls Tryz.prog 50 #[] w fun e w' => ∃ (R : Array Value) (fp : List Nat), e = .returned (.agg R) ∧ OwnL w' LPage R.toList newP.dt fp ∧ fp.Nodup ∧ (∀ b ∈ fp, w.heap.size ≤ b) ∧ Below w.heap.size w w' := by
  go_enter Tryz.func50, Tryz.ntmps50
  go_wp2_with fail
  ((with_reducible refine (ident_spec _).mono ?_); rintro e w1 ⟨rfl, bb⟩)
  go_wp2_with fail
  ((with_reducible refine (full_spec _).mono ?_); rintro e w2 ⟨rfl, bb2⟩)
  have bb := on_of bb bb2
  have BZ : Blk w2 w.heap.size (#[.slice none 0 0, .int .i64 0, .int .i64 0, .int .i64 0, .int .i64 0, .slice none 0 0, .int .i64 0, .int .i64 0, .int .i64 0, .int .i64 0, .int .i64 0, .slice none 0 0, .slice none 0 0] : Array Value).toList := (Blk.new w #[.slice none 0 0, .int .i64 0, .int .i64 0, .int .i64 0, .int .i64 0, .slice none 0 0, .int .i64 0, .int .i64 0, .int .i64 0, .int .i64 0, .int .i64 0, .slice none 0 0, .slice none 0 0] 46 rfl).keep bb
  have zz : w.heap.size < w2.heap.size := BZ.2.2
  have hW : Below w.heap.size w w2 := on_of (W := w) (by go_grown) bb
  obtain ⟨E, st, BX, tt⟩ := var_put (P := Tryz.prog) (T := 46) Tryz.sizeOf46 BZ rfl (new_own w) rfl
  have lo := var_load (P := Tryz.prog) (T := 46) Tryz.isAgg46 Tryz.sizeOf46 BX (new_own w) rfl
  have HX := Lib.hid (And.intro (hW.trans (tt.below (by omega) (fun k e => by omega))) lo)
  clear BX tt hW BZ lo bb
  unfold newR at st
  go_wp2
  refine bodyPost_ret (v := .agg newR) ?_ rfl ⟨newR, [], rfl, new_own _, List.nodup_nil, fun b hb => absurd hb List.not_mem_nil, HX.out.1⟩
  exact results_h Tryz.results50 (by rfl) HX.out.2
theorem page_box (w : World) : Calls Tryz.prog 106 #[] w fun e w' => e = .returned (.agg #[.int .i64 0, .int .i64 0, .int .i64 32, .int .i64 32]) ∧ Below w.heap.size w w' := by
  go_enter Tryz.func106, Tryz.ntmps106
  go_wp2
  go_returns
  exact ⟨rfl, by go_grown⟩
set_option maxHeartbeats 1000000 in
theorem impl_NewPage (w : World) : Calls Tryz.prog 52 #[] w fun e w' => ∃ (R : Array Value) (fp : List Nat), e = .returned (.agg R) ∧ OwnL w' LPage R.toList newP.dt fp ∧ fp.Nodup ∧ (∀ b ∈ fp, w.heap.size ≤ b) ∧ Below w.heap.size w w' := by
  go_enter Tryz.func52, Tryz.ntmps52
  go_wp2_with fail
  ((with_reducible refine (ident_impl _).mono ?_); rintro e w1 ⟨rfl, bb⟩)
  go_wp2_with fail
  ((with_reducible refine (page_box _).mono ?_); rintro e w2 ⟨rfl, bb2⟩)
  have bb := on_of bb bb2
  have BZ : Blk w2 w.heap.size (#[.slice none 0 0, .int .i64 0, .int .i64 0, .int .i64 0, .int .i64 0, .slice none 0 0, .int .i64 0, .int .i64 0, .int .i64 0, .int .i64 0, .int .i64 0, .slice none 0 0, .slice none 0 0] : Array Value).toList := (Blk.new w #[.slice none 0 0, .int .i64 0, .int .i64 0, .int .i64 0, .int .i64 0, .slice none 0 0, .int .i64 0, .int .i64 0, .int .i64 0, .int .i64 0, .int .i64 0, .slice none 0 0, .slice none 0 0] 46 rfl).keep bb
  have zz : w.heap.size < w2.heap.size := BZ.2.2
  have hW : Below w.heap.size w w2 := on_of (W := w) (by go_grown) bb
  obtain ⟨E, st, BX, tt⟩ := var_put (P := Tryz.prog) (T := 46) Tryz.sizeOf46 BZ rfl (new_own w) rfl
  have lo := var_load (P := Tryz.prog) (T := 46) Tryz.isAgg46 Tryz.sizeOf46 BX (new_own w) rfl
  have HX := Lib.hid (And.intro (hW.trans (tt.below (by omega) (fun k e => by omega))) lo)
  clear BX tt hW BZ lo bb
  unfold newR at st
  go_wp2
  refine bodyPost_ret (v := .agg newR) ?_ rfl ⟨newR, [], rfl, new_own _, List.nodup_nil, fun b hb => absurd hb List.not_mem_nil, HX.out.1⟩
  exact results_h Tryz.results52 (by rfl) HX.out.2
end Go.Proofs.YtjmfgbbngocodaaGreat.Own

namespace Go.Proofs.YtjmfgbbngocodaaGreat.Own
open Go.ChangeShapes Go.WideShapes Go.ChangeAt Go.RowKit
open Kit Slabs Ints Stack Point Turn Join Pts Box Push Take Opn SOp
set_option linter.unusedVariables false
set_option linter.unusedSimpArgs false
set_option linter.unnecessarySimpa false
set_option maxRecDepth 100000
attribute [local go_sem ↓] hload_Graphics hload_Object hstore_Graphics hstore_Object hload_Page hstore_Page
theorem lit_pts (w : World) (cs : Array Value) {l : List (Int × Int)} {n : Nat} (hn : l.length = n) (hm : n ≤ 100) (hcs : cs.toList = cellsP l) : (w.alloc (.cells cs 109)).ownsRow w.heap.size 109 2 (.slice (some ⟨w.heap.size, 0, none⟩) n n) n (cellsP l) := by
  have hs : cs.size = n * 2 := by have := cellsP_len l; rw [← hcs, hn] at this; simpa using this
  have := World.ownsRow_lit (base := w.heap.size) (e := 109) (size := 2) w cs n (Nat.le_refl _) (by unfold maxLen; omega) hs
  rw [hcs] at this
  exact this
theorem PgFl.litp {w w5 : World} {B X : Nat} {p : Pg} {a0 : Option Addr} {c0 : Nat} {f0 : List Nat} {a5 : Option Addr} {c5 : Nat} {P5 : List Value} {a11 : Option Addr} {c11 : Nat} {P11 : List Value} {f11 : List Nat} {a12 : Option Addr} {c12 : Nat} {P12 : List Value} {f12 : List Nat}
    (h : PgFl w B X p a0 c0 f0 a5 c5 P5 a11 c11 P11 f11 a12 c12 P12 f12) (hB : B ≤ w.heap.size) (hX : B ≤ X) (b5 : Below w.heap.size w w5) (cs : Array Value) {l : List (Int × Int)} {n : Nat} (hn : l.length = n) (hm : n ≤ 100) (hcs : cs.toList = cellsP l) :
    OpRes B X (some (setPath p l)) w (.returned (.bool true)) ((w5.setCell ⟨X, 5, none⟩ (.slice (some ⟨w5.heap.size, 0, none⟩) n n)).alloc (.cells cs 109)) := by
  have hXl := h.blk.2.2
  have z5 := b5.size
  have := h.placed1 hB hX b5 (g := { p.now with path := l }) rfl (w5.alloc (.cells cs 109)) (some ⟨w5.heap.size, 0, none⟩) n (by have := lit_pts w5 cs hn hm hcs; simpa [hn] using this) (by go_grown)
  rw [show ({ p.now with path := l } : Gr).path.length = n from hn, World.setCell_alloc_past _ _ _ _ (by omega)] at this
  exact this
set_option maxHeartbeats 4000000 in
theorem sp_move {w : World} {B X : Nat} {P : Pg} (h : PgAt w B X P) (hB : B ≤ w.heap.size) (hX : B ≤ X) (ht : tokB P.now.q P.now.s P.now.dx P.now.dy = true) (s : ByteArray) (hk : opN s = some 1) (g2 c2 : Nat) (x y : Int) (hg : g2 < w.heap.size) (hx : w.cell? ⟨g2, 0, none⟩ = some (.int .i64 x)) (hy : w.cell? ⟨g2, 1, none⟩ = some (.int .i64 y)) (bx : -9999 ≤ x ∧ x ≤ 9999) (bY : -9999 ≤ y ∧ y ≤ 9999) :
    Calls Tryz.prog 31 #[.pointer (some ⟨X, 0, none⟩), .string s, .slice (some ⟨g2, 0, none⟩) 2 c2] w (OpRes B X (some (movM P x y)) w) := by
  obtain ⟨a0, c0, f0, a5, c5, P5, a11, c11, P11, f11, a12, c12, P12, f12, h⟩ := h.flat
  obtain ⟨q0, q1, q2, q3, q4, q5, q6, q7, q8, q9, q10, q11⟩ := nm12 hk
  have hXl := h.blk.2.2
  have HK := Lib.hid (fun (W : World) (hb : Below w.heap.size w W) => (show (W.cell? ⟨X, 1, none⟩ = some (.int .i64 P.now.q) ∧ W.cell? ⟨X, 2, none⟩ = some (.int .i64 P.now.s) ∧ W.cell? ⟨X, 3, none⟩ = some (.int .i64 P.now.dx) ∧ W.cell? ⟨X, 4, none⟩ = some (.int .i64 P.now.dy)) ∧ W.cell? ⟨X, 5, none⟩ = some (.slice a5 P.now.path.length c5) ∧ ∀ o, W.frozen? ⟨X, o, none⟩ = false from by
    have k := h.blk.keep hb
    exact ⟨⟨k.1 1 _ rfl, k.1 2 _ rfl, k.1 3 _ rfl, k.1 4 _ rfl⟩, k.1 5 _ rfl, k.2.1⟩))
  have HS := Lib.hid (fun (W : World) (hb : Below w.heap.size w W) => h.litp hB hX hb #[.int .i64 (imX P.now.q P.now.s P.now.dx x y), .int .i64 (imY P.now.q P.now.s P.now.dy x y)] (l := [imP P.now x y]) (n := 1) rfl (by omega) rfl)
  have HC := Lib.hid (fun (W : World) => image_spec_big P.now.q P.now.s P.now.dx P.now.dy x y W ht (by omega) (by omega))
  obtain ⟨⟨t1, t2, t3, t4⟩, k5, fz⟩ := HK.out w (Below.refl _ _)
  clear h hk ht
  go_enter Tryz.func31, Tryz.ntmps31
  go_upto_region 6 with (fail)
  go_region_law (go_simp; go_at_call 66; (with_reducible refine (HC.out _).mono ?_); rintro e w5 ⟨rfl, b5⟩; have b5 := on_of (show Below w.heap.size w _ from by go_grown) b5; obtain ⟨_, j5, fj⟩ := HK.out w5 b5; have lX := (show X < w5.heap.size from by have := b5.size; omega); have HR := Lib.hid (HS.out w5 b5); clear b5)
  all_goals
    go_wp2
    go_ret
    exact HR.out
end Go.Proofs.YtjmfgbbngocodaaGreat.Own

namespace Go.Proofs.YtjmfgbbngocodaaGreat.Own
open Go.ChangeShapes Go.WideShapes Go.ChangeAt Go.RowKit
open Kit Slabs Ints Stack Point Turn Join Pts Box Push Take Opn SOp
set_option linter.unusedVariables false
set_option linter.unusedSimpArgs false
set_option linter.unnecessarySimpa false
set_option maxRecDepth 100000
attribute [local go_sem ↓] hload_Graphics hload_Object hstore_Graphics hstore_Object hload_Page hstore_Page
theorem PgFl.fillG {w : World} {B X : Nat} {p : Pg} {a0 : Option Addr} {c0 : Nat} {f0 : List Nat} {a5 : Option Addr} {c5 : Nat} {P5 : List Value} {a11 : Option Addr} {c11 : Nat} {P11 : List Value} {f11 : List Nat} {a12 : Option Addr} {c12 : Nat} {P12 : List Value} {f12 : List Nat}
    (h : PgFl w B X p a0 c0 f0 a5 c5 P5 a11 c11 P11 f11 a12 c12 P12 f12) (hB : B ≤ w.heap.size) (hX : B ≤ X) {w5 w7 : World} (b5 : Below w.heap.size w w5) {a' : Option Addr} {c' n : Nat} (v5 : Option Addr) (k5 : Nat) (hn : p.objs.length = n)
    (r7 : w7.ownsRow B 101 6 (.slice a' (n + 1) c') (n + 1) (P12 ++ [.slice a5 p.now.path.length c5, .int .i64 p.now.gray, .int .i64 p.now.x0, .int .i64 p.now.y0, .int .i64 p.now.x1, .int .i64 p.now.y1])) (gr : w5.grownBy w7 (Value.ownBlock (.slice a12 n c12))) (sub : ∀ b ∈ rowL (.slice a' (n + 1) c'), b ∈ rowL (.slice a12 n c12) ∨ w5.heap.size ≤ b) :
    Blk w7 X (pgCells p a0 c0 a5 c5 a11 c11 a12 c12) ∧ OpRes B X (some (filM p)) w (.returned (.bool true)) ((w7.setCell ⟨X, 12, none⟩ (.slice a' (n + 1) c')).setCell ⟨X, 5, none⟩ (.slice v5 0 k5)) := by
  subst hn
  have h5 := h.on b5
  have tt : Turns w5 w7 (fun k => k ∈ rowL (.slice a12 p.objs.length c12)) := (Turns.of_grown gr).mono (fun k hk => by simpa [rowL] using hk)
  have lt := h.parts
  have hXl := h.blk.2.2
  have z5 := b5.size
  have z7 := tt.size
  have ltX : ∀ b ∈ X :: (f0 ++ (rowL (.slice a5 p.now.path.length c5) ++ (rowL (.slice a11 p.saved.length c11) ++ (f11 ++ (rowL (.slice a12 p.objs.length c12) ++ f12))))), b < w5.heap.size := by
    intro b hb
    rcases List.mem_cons.1 hb with rfl | hb
    · omega
    · have := (lt b hb).2; omega
  have s11 : ∀ b ∈ (if p.saved.length = 0 then [] else rowL (.slice a11 p.saved.length c11) ++ f11), b ∈ rowL (.slice a11 p.saved.length c11) ∨ b ∈ f11 := rowF_sub
  have s5 : ∀ b ∈ (if p.now.path.length = 0 then [] else rowL (.slice a5 p.now.path.length c5) ++ []), b ∈ rowL (.slice a5 p.now.path.length c5) := fun b hb => (rowF_sub b hb).elim id (fun hh => absurd hh List.not_mem_nil)
  have nd := h.nd
  have q11 : (if p.saved.length = 0 then [] else rowL (.slice a11 p.saved.length c11) ++ f11).Nodup := rowF_nodup (by simp only [List.nodup_cons, List.nodup_append] at nd; exact nd.2.2.1.2.1.2.1.1) (fun b hb hc => by simp only [List.nodup_cons, List.nodup_append, List.mem_append] at nd; grind)
  have q5 : (if p.now.path.length = 0 then [] else rowL (.slice a5 p.now.path.length c5) ++ []).Nodup := rowF_nodup List.nodup_nil (fun b _ hh => absurd hh List.not_mem_nil)
  obtain ⟨nd9, nX9⟩ := nd_fill nd ltX (rowL_nodup _) q11 q5 sub s11 s5
  have B7 : Blk w7 X (pgCells p a0 c0 a5 c5 a11 c11 a12 c12) := h5.blk.turned tt (fun hx => by simp only [List.nodup_cons, List.mem_append] at nd; exact nd.1 (by simp [hx]))
  refine ⟨B7, rfl, ?_, fun P' hP => ?_⟩
  · exact (((b5.mono hB).trans (tt.below (by omega) (fun k hk => (rowL_ge h.r12 k hk).1))).setCell (p := ⟨X, 12, none⟩) hX _).setCell (p := ⟨X, 5, none⟩) hX _
  injection hP with hP
  subst hP
  have d0 : ∀ b ∈ f0, ¬ (b ∈ rowL (.slice a12 p.objs.length c12) ∨ b = X) := fun b hb hc => by simp only [List.nodup_cons, List.nodup_append, List.mem_append] at nd; grind
  have d5 : ∀ b ∈ rowL (.slice a5 p.now.path.length c5), ¬ (b ∈ rowL (.slice a12 p.objs.length c12) ∨ b = X) := fun b hb hc => by simp only [List.nodup_cons, List.nodup_append, List.mem_append] at nd; grind
  have d11 : ∀ b ∈ rowL (.slice a11 p.saved.length c11), ¬ (b ∈ rowL (.slice a12 p.objs.length c12) ∨ b = X) := fun b hb hc => by simp only [List.nodup_cons, List.nodup_append, List.mem_append] at nd; grind
  have e11 : ∀ b ∈ f11, ¬ (b ∈ rowL (.slice a12 p.objs.length c12) ∨ b = X) := fun b hb hc => by simp only [List.nodup_cons, List.nodup_append, List.mem_append] at nd; grind
  have e12 : ∀ b ∈ f12, ¬ (b ∈ rowL (.slice a12 p.objs.length c12) ∨ b = X) := fun b hb hc => by simp only [List.nodup_cons, List.nodup_append, List.mem_append] at nd; grind
  have nX12 : X ∉ rowL (.slice a' (p.objs.length + 1) c') := fun hx => by
    rcases sub X hx with k | k
    · simp only [List.nodup_cons, List.mem_append] at nd; exact nd.1 (by simp [k])
    · omega
  have tX : Turns w7 ((w7.setCell ⟨X, 12, none⟩ (.slice a' (p.objs.length + 1) c')).setCell ⟨X, 5, none⟩ (.slice v5 0 k5)) (fun b => b = X) := turns_set (S := fun b => b = X) (turns_set (S := fun b => b = X) (Turns.refl _ _) rfl _ _) rfl _ _
  have T := (tt.mono (T := fun b => b ∈ rowL (.slice a12 p.objs.length c12) ∨ b = X) (fun k hk => .inl hk)).trans (tX.mono (fun k hk => .inr hk))
  have B9 := Blk.put (o := 5) (P := [_, _, _, _, _]) (Blk.put (o := 12) (P := [_, _, _, _, _, _, _, _, _, _, _, _]) (R := []) B7 rfl (.slice a' (p.objs.length + 1) c')) rfl (.slice v5 0 k5)
  generalize (w7.setCell ⟨X, 12, none⟩ (.slice a' (p.objs.length + 1) c')).setCell ⟨X, 5, none⟩ (.slice v5 0 k5) = W9 at *
  have own5 := row_own2 (row_turned h5.r5 T d5) (h.o5 W9)
  have own12 := row_own2 (row_turned r7 tX (fun b hb e => nX12 (e ▸ hb))) (fq := f12 ++ (if p.now.path.length = 0 then [] else rowL (.slice a5 p.now.path.length c5) ++ [])) (es := dO (p.objs ++ [obM p.now])) (by
    have h8 := (h5.o12.turned T e12).snoc (.st (mk_ob p.now.gray p.now.x0 p.now.y0 p.now.x1 p.now.y1 own5))
    rw [← List.replicate_succ'] at h8
    simpa [dO, obM, Ob.dt] using h8)
  rw [if_neg (by omega)] at own12
  have e9 : (p.objs ++ [obM p.now]).length = p.objs.length + 1 := by simp
  refine pg_mk (p := filM p) (a5 := v5) (c5 := k5) (a12 := a') (c12 := c') (by simp only [pgCells, filM, e9]; exact B9) (h5.o0.turned T d0) (.nil v5 k5) (row_own2 (row_turned h5.r11 T d11) (h5.o11.turned T e11)) (by simp only [filM, e9]; exact own12) nd9 nX9 (ge_fill (fun b hb => (lt b hb).1) (show B ≤ w5.heap.size by omega) sub s11 s5)
set_option maxHeartbeats 4000000 in
theorem sp_fill {w : World} {B X : Nat} {P : Pg} (h : PgAt w B X P) (hB : B ≤ w.heap.size) (hX : B ≤ X) (hl : P.objs.length ≤ 12) (s : ByteArray) (hk : opN s = some 4) (u : Value) :
    Calls Tryz.prog 31 #[.pointer (some ⟨X, 0, none⟩), .string s, u] w (OpRes B X (if P.now.path.length < 3 then none else some (filM P)) w) := by
  obtain ⟨a0, c0, f0, a5, c5, P5, a11, c11, P11, f11, a12, c12, P12, f12, h⟩ := h.flat
  obtain ⟨q0, q1, q2, q3, q4, q5, q6, q7, q8, q9, q10, q11⟩ := nm12 hk
  obtain ⟨n, hN⟩ : ∃ n, P.objs.length = n := ⟨_, rfl⟩
  obtain ⟨l, hL⟩ : ∃ l, P.now.path.length = l := ⟨_, rfl⟩
  have HN := Lib.hid hN
  have HL := Lib.hid hL
  have HH := Lib.hid h
  have HK := Lib.hid (fun (W : World) (hb : Below w.heap.size w W) => (show W.cell? ⟨X, 12, none⟩ = some (.slice a12 n c12) from by rw [← hN]; exact (h.blk.keep hb).1 12 _ rfl))
  have HS9 := Lib.hid (fun (W : World) (hb : Below w.heap.size w W) => (show W.cell? ⟨X, 5, none⟩ = some (.slice a5 l c5) ∧ W.cell? ⟨X, 6, none⟩ = some (.int .i64 P.now.gray) ∧ W.cell? ⟨X, 7, none⟩ = some (.int .i64 P.now.x0) ∧ W.cell? ⟨X, 8, none⟩ = some (.int .i64 P.now.y0) ∧ W.cell? ⟨X, 9, none⟩ = some (.int .i64 P.now.x1) ∧ W.cell? ⟨X, 10, none⟩ = some (.int .i64 P.now.y1) from by rw [← hL]; exact s6 (h.blk.keep hb)))
  have HR12 := Lib.hid (fun (W : World) (hb : Below w.heap.size w W) => (show W.ownsRow B 101 6 (.slice a12 n c12) n P12 from by rw [← hN]; exact row_on h.r12 hb))
  have hXl := h.blk.2.2
  rw [hN] at hl
  rw [hL]
  have k5w := (HS9.out w (Below.refl _ _)).1
  by_cases hlt : l < 3
  · rw [if_pos hlt]
    have HZ : Hid (OpRes B X none w (.returned (.bool false)) w) := Lib.hid ⟨rfl, (Below.refl _ _).mono hB, fun P' hP => by cases hP⟩
    clear h hk hN hL
    go_enter Tryz.func31, Tryz.ntmps31
    go_wp2
    go_ret
    exact HZ.out
  rw [if_neg hlt]
  have kO := HK.out w.drew (by go_grown)
  have kO2 := HK.out (w.drew.alloc (.cells #[.slice a5 l c5, .int .i64 P.now.gray, .int .i64 P.now.x0, .int .i64 P.now.y0, .int .i64 P.now.x1, .int .i64 P.now.y1] 101)) (by go_grown)
  have kO3 := HK.out (w.alloc (.cells #[.slice a5 l c5, .int .i64 P.now.gray, .int .i64 P.now.x0, .int .i64 P.now.y0, .int .i64 P.now.x1, .int .i64 P.now.y1] 101)).drew (by go_grown)
  clear h hN hL hk
  go_enter Tryz.func31, Tryz.ntmps31
  go_upto_region 23 with (fail)
  clear k5w
  refine wp_region_held_drew (S := fun W => W.cell? ⟨X, 5, none⟩ = some (.slice a5 l c5) ∧ W.cell? ⟨X, 6, none⟩ = some (.int .i64 P.now.gray) ∧ W.cell? ⟨X, 7, none⟩ = some (.int .i64 P.now.x0) ∧ W.cell? ⟨X, 8, none⟩ = some (.int .i64 P.now.y0) ∧ W.cell? ⟨X, 9, none⟩ = some (.int .i64 P.now.x1) ∧ W.cell? ⟨X, 10, none⟩ = some (.int .i64 P.now.y1)) (by kernel_rfl) (HS9.out _ (by go_grown)) (fun hHeld => ?_)
  refine wpAnyH_take (i := 0) (oi := _) (v := ?_) rfl (by kernel_rfl) (by kernel_rfl) (by kernel_rfl) (fun _ _ _ h => h) (Or.inl ⟨by rfl, ?_⟩) (by assumption) ?_
  rotate_left
  · (intro w hSw; (try dsimp only at hSw); go_simp; try with_reducible rfl)
  try simp only [Act.put, List.setIfInBounds_toArray, List.set_cons_zero, List.set_cons_succ]
  refine wpAnyH_take (i := 1) (oi := _) (v := ?_) rfl (by kernel_rfl) (by kernel_rfl) (by kernel_rfl) (fun _ _ _ h => h) (Or.inl ⟨by rfl, ?_⟩) (by assumption) ?_
  rotate_left
  · (intro w hSw; (try dsimp only at hSw); go_simp; try with_reducible rfl)
  try simp only [Act.put, List.setIfInBounds_toArray, List.set_cons_zero, List.set_cons_succ]
  refine wpAnyH_take (i := 2) (oi := _) (v := ?_) rfl (by kernel_rfl) (by kernel_rfl) (by kernel_rfl) (fun _ _ _ h => h) (Or.inl ⟨by rfl, ?_⟩) (by assumption) ?_
  rotate_left
  · (intro w hSw; (try dsimp only at hSw); go_simp; try with_reducible rfl)
  try simp only [Act.put, List.setIfInBounds_toArray, List.set_cons_zero, List.set_cons_succ]
  refine wpAnyH_take (i := 3) (oi := _) (v := ?_) rfl (by kernel_rfl) (by kernel_rfl) (by kernel_rfl) (fun _ _ _ h => h) (Or.inl ⟨by rfl, ?_⟩) (by assumption) ?_
  rotate_left
  · (intro w hSw; (try dsimp only at hSw); go_simp; try with_reducible rfl)
  try simp only [Act.put, List.setIfInBounds_toArray, List.set_cons_zero, List.set_cons_succ]
  refine wpAnyH_take (i := 5) (oi := _) (v := ?_) rfl (by kernel_rfl) (by kernel_rfl) (by kernel_rfl) (fun _ _ _ h => h) (Or.inl ⟨by rfl, ?_⟩) (by assumption) ?_
  rotate_left
  · (intro w hSw; (try dsimp only at hSw); go_simp; try with_reducible rfl)
  try simp only [Act.put, List.setIfInBounds_toArray, List.set_cons_zero, List.set_cons_succ]
  refine wpAnyH_take (i := 6) (oi := _) (v := ?_) rfl (by kernel_rfl) (by kernel_rfl) (by kernel_rfl) (fun _ _ _ h => h) (Or.inl ⟨by rfl, ?_⟩) (by assumption) ?_
  rotate_left
  · (intro w hSw; (try dsimp only at hSw); go_simp; try with_reducible rfl)
  try simp only [Act.put, List.setIfInBounds_toArray, List.set_cons_zero, List.set_cons_succ]
  refine wpAnyH_take (i := 7) (oi := _) (v := ?_) rfl (by kernel_rfl) (by kernel_rfl) (by kernel_rfl) (fun _ _ _ h => h) (Or.inl ⟨by rfl, ?_⟩) (by assumption) ?_
  rotate_left
  · (intro w hSw; (try dsimp only at hSw); go_simp; try with_reducible rfl)
  try simp only [Act.put, List.setIfInBounds_toArray, List.set_cons_zero, List.set_cons_succ]
  refine wpAnyH_take (i := 8) (oi := _) (v := ?_) rfl (by kernel_rfl) (by kernel_rfl) (by kernel_rfl) (fun _ _ _ h => h) (Or.inl ⟨by rfl, ?_⟩) (by assumption) ?_
  rotate_left
  · (intro w hSw; (try dsimp only at hSw); go_simp; try with_reducible rfl)
  try simp only [Act.put, List.setIfInBounds_toArray, List.set_cons_zero, List.set_cons_succ]
  refine wpAnyH_take (i := 9) (oi := _) (v := ?_) rfl (by kernel_rfl) (by kernel_rfl) (by kernel_rfl) (fun _ _ _ h => h) (Or.inl ⟨by rfl, ?_⟩) (by assumption) ?_
  rotate_left
  · (intro w hSw; (try dsimp only at hSw); go_simp; try with_reducible rfl)
  try simp only [Act.put, List.setIfInBounds_toArray, List.set_cons_zero, List.set_cons_succ]
  refine wpAnyH_take (i := 10) (oi := _) (v := ?_) rfl (by kernel_rfl) (by kernel_rfl) (by kernel_rfl) (fun _ _ _ h => h) (Or.inl ⟨by rfl, ?_⟩) (by assumption) ?_
  rotate_left
  · (intro w hSw; (try dsimp only at hSw); go_simp; try with_reducible rfl)
  try simp only [Act.put, List.setIfInBounds_toArray, List.set_cons_zero, List.set_cons_succ]
  refine wpAnyH_take (i := 11) (oi := _) (v := ?_) rfl (by kernel_rfl) (by kernel_rfl) (by kernel_rfl) (fun _ _ _ h => h) (Or.inl ⟨by rfl, ?_⟩) (by assumption) ?_
  rotate_left
  · (intro w hSw; (try dsimp only at hSw); go_simp; try with_reducible rfl)
  try simp only [Act.put, List.setIfInBounds_toArray, List.set_cons_zero, List.set_cons_succ]
  refine wpAnyH_take (i := 12) (oi := _) (v := ?_) rfl (by kernel_rfl) (by kernel_rfl) (by kernel_rfl) (fun _ _ _ h => h) (Or.inl ⟨by rfl, ?_⟩) (by assumption) ?_
  rotate_left
  · (intro w hSw; (try dsimp only at hSw); go_simp; try with_reducible rfl)
  try simp only [Act.put, List.setIfInBounds_toArray, List.set_cons_zero, List.set_cons_succ]
  refine wpAnyH_take (i := 13) (oi := _) (v := ?_) rfl (by kernel_rfl) (by kernel_rfl) (by kernel_rfl) (fun _ _ _ h => h) (Or.inl ⟨by rfl, ?_⟩) (by assumption) ?_
  rotate_left
  · (intro w hSw; (try dsimp only at hSw); go_simp; try with_reducible rfl)
  try simp only [Act.put, List.setIfInBounds_toArray, List.set_cons_zero, List.set_cons_succ]
  refine wpAnyH_take (i := 14) (oi := _) (v := ?_) rfl (by kernel_rfl) (by kernel_rfl) (by kernel_rfl) (fun _ _ _ h => h) (Or.inl ⟨by rfl, ?_⟩) (by assumption) ?_
  rotate_left
  · (intro w hSw; (try dsimp only at hSw); go_simp; try with_reducible rfl)
  try simp only [Act.put, List.setIfInBounds_toArray, List.set_cons_zero, List.set_cons_succ]
  refine wpAnyH_take (i := 15) (oi := _) (v := ?_) rfl (by kernel_rfl) (by kernel_rfl) (by kernel_rfl) (fun _ _ _ h => h) (Or.inl ⟨by rfl, ?_⟩) (by assumption) ?_
  rotate_left
  · (intro w hSw; (try dsimp only at hSw); go_simp; try with_reducible rfl)
  try simp only [Act.put, List.setIfInBounds_toArray, List.set_cons_zero, List.set_cons_succ]
  refine wpAnyH_take (i := 16) (oi := _) (v := ?_) rfl (by kernel_rfl) (by kernel_rfl) (by kernel_rfl) (fun _ _ _ h => h) (Or.inl ⟨by rfl, ?_⟩) (by assumption) ?_
  rotate_left
  · (intro w hSw; (try dsimp only at hSw); go_simp; try with_reducible rfl)
  try simp only [Act.put, List.setIfInBounds_toArray, List.set_cons_zero, List.set_cons_succ]
  refine wpAnyH_take (i := 17) (oi := _) (v := ?_) rfl (by kernel_rfl) (by kernel_rfl) (by kernel_rfl) (fun _ _ _ h => h) (Or.inl ⟨by rfl, ?_⟩) (by assumption) ?_
  rotate_left
  · (intro w hSw; (try dsimp only at hSw); go_simp; try with_reducible rfl)
  try simp only [Act.put, List.setIfInBounds_toArray, List.set_cons_zero, List.set_cons_succ]
  refine wpAnyH_ready (rs := [4, 18]) (by kernel_rfl) (by simp) ?_
  refine AllReadyH.cons (o := _) rfl (fun KK hKK => ?_) ?_
  · go_simp
    try go_wp2_with fail
    refine hKK.out _ _ ?_ (fun hHeld2 => ?_)
    · (try dsimp only); first | exact HS7b.out | exact HS7.out | (refine HS9.out _ ?_; go_grown; done)
    refine wpAnyH_ready (rs := [18]) (by kernel_rfl) (by simp) ?_
    refine AllReadyH.cons (o := _) rfl (fun KK hKK => ?_) AllReadyH.nil
    go_simp
    try go_wp2_with fail
    refine hKK.out _ _ ?_ (fun hHeld2 => ?_)
    · (try dsimp only); first | exact HS7b.out | exact HS7.out | (refine HS9.out _ ?_; go_grown; done)
    refine wpAnyH_ready (rs := [19]) (by kernel_rfl) (by simp) ?_
    refine AllReadyH.cons (o := _) rfl (fun KK hKK => ?_) AllReadyH.nil
    (refine step_append_sl et_obs rfl _ _ rfl B a12 n c12 P12 (by rfl) (HR12.out _ (by go_grown)) (some ⟨w.heap.size, 0, none⟩) 1 1 [.slice a5 l c5, .int .i64 P.now.gray, .int .i64 P.now.x0, .int .i64 P.now.y0, .int .i64 P.now.x1, .int .i64 P.now.y1] (by rfl) (by rfl) (by first | exact Lies.new w.drew _ _ rfl | exact (Lies.new w _ _ rfl).drew) (by simp [Value.oneCell']) (by unfold maxLen; omega) (by omega) (by simp; omega) ?_; intro a' c' w7 r7 gr7 sub7; rw [← HL.out] at r7; have hh := HH.out.fillG hB hX (by go_grown) (some ⟨w7.heap.size, 0, none⟩) 0 HN.out r7 gr7 sub7; have k7 := hh.1.1 12 _ rfl; have f7 := hh.1.2.1; have k5 := hh.1.1 5 _ rfl; have lX7 := hh.1.2.2; rw [HN.out] at k7; rw [HL.out] at k5; have HR := Lib.hid hh.2; have HS7 := Lib.hid (s6 hh.1); have HS7b := Lib.hid (s6 (Blk.put (o := 12) (P := [_, _, _, _, _, _, _, _, _, _, _, _]) (R := []) hh.1 rfl (.slice a' (n + 1) c'))); rw [HL.out] at HS7 HS7b; have HB7 := Lib.hid gr7.size; clear hh r7 gr7 sub7)
    try go_wp2_with fail
    refine hKK.out _ _ ?_ (fun hHeld2 => ?_)
    · (try dsimp only); first | exact HS7b.out | exact HS7.out | (refine HS9.out _ ?_; go_grown; done)
    refine wpAnyH_take (i := 20) (oi := _) (v := ?_) rfl (by kernel_rfl) (by kernel_rfl) (by kernel_rfl) (fun _ _ _ h => h) (Or.inl ⟨by rfl, ?_⟩) (by assumption) ?_
    rotate_left
    · (intro w hSw; (try dsimp only at hSw); go_simp; try with_reducible rfl)
    try simp only [Act.put, List.setIfInBounds_toArray, List.set_cons_zero, List.set_cons_succ]
    refine wpAnyH_take (i := 21) (oi := _) (v := ?_) rfl (by kernel_rfl) (by kernel_rfl) (by kernel_rfl) (fun _ _ _ h => h) (Or.inl ⟨by rfl, ?_⟩) (by assumption) ?_
    rotate_left
    · (intro w hSw; (try dsimp only at hSw); go_simp; try with_reducible rfl)
    try simp only [Act.put, List.setIfInBounds_toArray, List.set_cons_zero, List.set_cons_succ]
    refine wpAnyH_ready (rs := [22]) (by kernel_rfl) (by simp) ?_
    refine AllReadyH.cons (o := _) rfl (fun KK hKK => ?_) AllReadyH.nil
    go_simp
    try go_wp2_with fail
    refine hKK.out _ _ ?_ (fun hHeld2 => ?_)
    · (try dsimp only); first | exact HS7b.out | exact HS7.out | (refine HS9.out _ ?_; go_grown; done)
    refine wpAnyH_done (by kernel_rfl) ?_ _
    go_wp2_with fail
    go_wp2
    go_ret
    exact HR.out.alloc (by have := HB7.out; simp at this ⊢; omega) _
  refine AllReadyH.cons (o := _) rfl (fun KK hKK => ?_) AllReadyH.nil
  go_simp
  try go_wp2_with fail
  refine hKK.out _ _ ?_ (fun hHeld2 => ?_)
  · (try dsimp only); first | exact HS7b.out | exact HS7.out | (refine HS9.out _ ?_; go_grown; done)
  refine wpAnyH_ready (rs := [4]) (by kernel_rfl) (by simp) ?_
  refine AllReadyH.cons (o := _) rfl (fun KK hKK => ?_) AllReadyH.nil
  go_simp
  try go_wp2_with fail
  refine hKK.out _ _ ?_ (fun hHeld2 => ?_)
  · (try dsimp only); first | exact HS7b.out | exact HS7.out | (refine HS9.out _ ?_; go_grown; done)
  refine wpAnyH_ready (rs := [19]) (by kernel_rfl) (by simp) ?_
  refine AllReadyH.cons (o := _) rfl (fun KK hKK => ?_) AllReadyH.nil
  (refine step_append_sl et_obs rfl _ _ rfl B a12 n c12 P12 (by rfl) (HR12.out _ (by go_grown)) (some ⟨w.heap.size, 0, none⟩) 1 1 [.slice a5 l c5, .int .i64 P.now.gray, .int .i64 P.now.x0, .int .i64 P.now.y0, .int .i64 P.now.x1, .int .i64 P.now.y1] (by rfl) (by rfl) (by first | exact Lies.new w.drew _ _ rfl | exact (Lies.new w _ _ rfl).drew) (by simp [Value.oneCell']) (by unfold maxLen; omega) (by omega) (by simp; omega) ?_; intro a' c' w7 r7 gr7 sub7; rw [← HL.out] at r7; have hh := HH.out.fillG hB hX (by go_grown) (some ⟨w7.heap.size, 0, none⟩) 0 HN.out r7 gr7 sub7; have k7 := hh.1.1 12 _ rfl; have f7 := hh.1.2.1; have k5 := hh.1.1 5 _ rfl; have lX7 := hh.1.2.2; rw [HN.out] at k7; rw [HL.out] at k5; have HR := Lib.hid hh.2; have HS7 := Lib.hid (s6 hh.1); have HS7b := Lib.hid (s6 (Blk.put (o := 12) (P := [_, _, _, _, _, _, _, _, _, _, _, _]) (R := []) hh.1 rfl (.slice a' (n + 1) c'))); rw [HL.out] at HS7 HS7b; have HB7 := Lib.hid gr7.size; clear hh r7 gr7 sub7)
  try go_wp2_with fail
  refine hKK.out _ _ ?_ (fun hHeld2 => ?_)
  · (try dsimp only); first | exact HS7b.out | exact HS7.out | (refine HS9.out _ ?_; go_grown; done)
  refine wpAnyH_take (i := 20) (oi := _) (v := ?_) rfl (by kernel_rfl) (by kernel_rfl) (by kernel_rfl) (fun _ _ _ h => h) (Or.inl ⟨by rfl, ?_⟩) (by assumption) ?_
  rotate_left
  · (intro w hSw; (try dsimp only at hSw); go_simp; try with_reducible rfl)
  try simp only [Act.put, List.setIfInBounds_toArray, List.set_cons_zero, List.set_cons_succ]
  refine wpAnyH_take (i := 21) (oi := _) (v := ?_) rfl (by kernel_rfl) (by kernel_rfl) (by kernel_rfl) (fun _ _ _ h => h) (Or.inl ⟨by rfl, ?_⟩) (by assumption) ?_
  rotate_left
  · (intro w hSw; (try dsimp only at hSw); go_simp; try with_reducible rfl)
  try simp only [Act.put, List.setIfInBounds_toArray, List.set_cons_zero, List.set_cons_succ]
  refine wpAnyH_ready (rs := [22]) (by kernel_rfl) (by simp) ?_
  refine AllReadyH.cons (o := _) rfl (fun KK hKK => ?_) AllReadyH.nil
  go_simp
  try go_wp2_with fail
  refine hKK.out _ _ ?_ (fun hHeld2 => ?_)
  · (try dsimp only); first | exact HS7b.out | exact HS7.out | (refine HS9.out _ ?_; go_grown; done)
  refine wpAnyH_done (by kernel_rfl) ?_ _
  go_wp2_with fail
  go_wp2
  go_ret
  exact HR.out.alloc (by have := HB7.out; simp at this ⊢; omega) _
end Go.Proofs.YtjmfgbbngocodaaGreat.Own

namespace Go.Proofs.YtjmfgbbngocodaaGreat.Own
open Go.ChangeShapes Go.WideShapes Go.ChangeAt Go.RowKit
open Kit Slabs Ints Stack Point Turn Join Pts Box Push Take Opn SOp
set_option linter.unusedVariables false
set_option linter.unusedSimpArgs false
set_option linter.unnecessarySimpa false
set_option maxRecDepth 100000
attribute [local go_sem ↓] hload_Graphics hload_Object hstore_Graphics hstore_Object hload_Page hstore_Page
theorem PgFl.restG {w : World} {B X : Nat} {p : Pg} {a0 : Option Addr} {c0 : Nat} {f0 : List Nat} {a5 : Option Addr} {c5 : Nat} {P5 : List Value} {ga c11 : Nat} {P11 : List Value} {fa g0 g5 : List Nat} {a12 : Option Addr} {c12 : Nat} {P12 : List Value} {f12 : List Nat}
    (h : PgFl w B X p a0 c0 f0 a5 c5 P5 (some ⟨ga, 0, none⟩) c11 P11 (fa ++ (g0 ++ g5)) a12 c12 P12 f12) (hB : B ≤ w.heap.size) (hX : B ≤ X) {S : List Gr} {g : Gr} {k : Nat} (hk : S.length = k) {P' : List Value} (oS : OwnL w (List.replicate k KGraphics) P' (dG S) fa) {b5 : Option Addr} {e5 : Nat} (o5 : Own w (.sl KPt) [.slice b5 g.path.length e5] (.sl (dP g.path)) g5)
    {w1 E w7 : World} (b1 : Below w.heap.size w w1) (tE : Turns w1 E (fun b => b = X)) (BE : Blk E X ([.slice a0 p.now.st.length c0, .int .i64 g.q, .int .i64 g.s, .int .i64 g.dx, .int .i64 g.dy, .slice b5 g.path.length e5, .int .i64 g.gray, .int .i64 g.x0, .int .i64 g.y0, .int .i64 g.x1, .int .i64 g.y1] ++ [.slice (some ⟨ga, 0, none⟩) p.saved.length c11, .slice a12 p.objs.length c12])) (t7 : Turns E w7 (fun b => b = ga)) (r7 : w7.ownsRow B 42 11 (.slice (some ⟨ga, 0, none⟩) k c11) k P') :
    Blk w7 X ([.slice a0 p.now.st.length c0, .int .i64 g.q, .int .i64 g.s, .int .i64 g.dx, .int .i64 g.dy, .slice b5 g.path.length e5, .int .i64 g.gray, .int .i64 g.x0, .int .i64 g.y0, .int .i64 g.x1, .int .i64 g.y1] ++ [.slice (some ⟨ga, 0, none⟩) p.saved.length c11, .slice a12 p.objs.length c12]) ∧ OpRes B X (some { p with now := { g with st := p.now.st }, saved := S }) w (.returned (.bool true)) (w7.setCell ⟨X, 11, none⟩ (.slice (some ⟨ga, 0, none⟩) k c11)) := by
  subst hk
  have h1 := h.on b1
  have nd := h.nd
  have lt := h.parts
  have hXl := h.blk.2.2
  have z1 := b1.size
  have e0 : rowL (.slice (some ⟨ga, 0, none⟩) p.saved.length c11) = [ga] := rfl
  have e1 : rowL (.slice (some ⟨ga, 0, none⟩) S.length c11) = [ga] := rfl
  have hga : ga ∈ rowL (.slice (some ⟨ga, 0, none⟩) p.saved.length c11) := by rw [e0]; simp
  have hgX : ga ≠ X := fun e => by subst e; simp only [List.nodup_cons, List.mem_append] at nd; exact nd.1 (by simp [hga])
  have hgB := (lt ga (by simp [hga])).1
  have s11 : ∀ b ∈ (if S.length = 0 then [] else rowL (.slice (some ⟨ga, 0, none⟩) S.length c11) ++ fa), b ∈ rowL (.slice (some ⟨ga, 0, none⟩) S.length c11) ∨ b ∈ fa := rowF_sub
  have s12 : ∀ b ∈ (if p.objs.length = 0 then [] else rowL (.slice a12 p.objs.length c12) ++ f12), b ∈ rowL (.slice a12 p.objs.length c12) ∨ b ∈ f12 := rowF_sub
  have hsub : ∀ b ∈ rowL (.slice (some ⟨ga, 0, none⟩) S.length c11), b ∈ rowL (.slice (some ⟨ga, 0, none⟩) p.saved.length c11) := fun b hb => by rw [e0]; rw [e1] at hb; exact hb
  have q11 : (if S.length = 0 then [] else rowL (.slice (some ⟨ga, 0, none⟩) S.length c11) ++ fa).Nodup := rowF_nodup (by simp only [List.nodup_cons, List.nodup_append] at nd; grind) (fun b hb hc => by have hb := hsub b hb; simp only [List.nodup_cons, List.nodup_append, List.mem_append] at nd; grind)
  have q12 : (if p.objs.length = 0 then [] else rowL (.slice a12 p.objs.length c12) ++ f12).Nodup := rowF_nodup (by simp only [List.nodup_cons, List.nodup_append] at nd; grind) (fun b hb hc => by simp only [List.nodup_cons, List.nodup_append, List.mem_append] at nd; grind)
  obtain ⟨nd9, nX9⟩ := nd_res nd q11 q12 hsub s11 s12
  have B7 := BE.turned t7 (fun e => hgX e.symm)
  refine ⟨B7, rfl, ?_, fun P' hP => ?_⟩
  · exact (((b1.mono hB).trans (tE.below (by omega) (fun k e => e ▸ hX))).trans (t7.below (by have := tE.size; omega) (fun k e => e ▸ hgB))).setCell (p := ⟨X, 11, none⟩) hX _
  injection hP with hP
  subst hP
  have tX : Turns w7 (w7.setCell ⟨X, 11, none⟩ (.slice (some ⟨ga, 0, none⟩) S.length c11)) (fun b => b = X) := turns_set (S := fun b => b = X) (Turns.refl _ _) rfl _ _
  have T := ((tE.mono (T := fun b => b = ga ∨ b = X) (fun k hk => .inr hk)).trans (t7.mono (fun k hk => .inl hk))).trans (tX.mono (fun k hk => .inr hk))
  have B9 := Blk.put (o := 11) (P := [_, _, _, _, _, _, _, _, _, _, _]) B7 rfl (.slice (some ⟨ga, 0, none⟩) S.length c11)
  generalize w7.setCell ⟨X, 11, none⟩ (.slice (some ⟨ga, 0, none⟩) S.length c11) = W9 at *
  have d0 : ∀ b ∈ f0, ¬ (b = ga ∨ b = X) := fun b hb hc => by simp only [List.nodup_cons, List.nodup_append, List.mem_append] at nd; grind
  have d5 : ∀ b ∈ g5, ¬ (b = ga ∨ b = X) := fun b hb hc => by simp only [List.nodup_cons, List.nodup_append, List.mem_append] at nd; grind
  have d11 : ∀ b ∈ fa, ¬ (b = ga ∨ b = X) := fun b hb hc => by simp only [List.nodup_cons, List.nodup_append, List.mem_append] at nd; grind
  have d12 : ∀ b ∈ rowL (.slice a12 p.objs.length c12), ¬ (b = ga ∨ b = X) := fun b hb hc => by simp only [List.nodup_cons, List.nodup_append, List.mem_append] at nd; grind
  have e12 : ∀ b ∈ f12, ¬ (b = ga ∨ b = X) := fun b hb hc => by simp only [List.nodup_cons, List.nodup_append, List.mem_append] at nd; grind
  exact pg_mk (p := { p with now := { g with st := p.now.st }, saved := S }) B9 (h1.o0.turned T d0) ((o5.under b1).turned T d5) (row_own2 (row_turned r7 tX (fun b hb e => by rw [e1, List.mem_singleton] at hb; exact hgX (hb.symm.trans e))) ((oS.under b1).turned T d11)) (row_own2 (row_turned h1.r12 T d12) (h1.o12.turned T e12)) nd9 nX9 (ge_res (fun b hb => (lt b hb).1) hsub s11 s12)
set_option maxHeartbeats 4000000 in
theorem sp_restore {w : World} {B X : Nat} {P : Pg} (h : PgAt w B X P) (hB : B ≤ w.heap.size) (hX : B ≤ X) (hl : P.saved.length ≤ 4) (str : ByteArray) (hk8 : opN str = some 8) (u : Value) :
    Calls Tryz.prog 32 #[.pointer (some ⟨X, 0, none⟩), .string str, u] w (OpRes B X (resO P) w) := by
  obtain ⟨q0', q1', q2', q3', q4', q5', q6', q7', q8', q9', q10', q11'⟩ := nm12 hk8
  have H0 := Lib.hid h
  clear h hk8
  go_enter Tryz.func32, Tryz.ntmps32
  go_wp2_with fail
  ((with_reducible refine (ident_spec _).mono ?_); rintro e w1 ⟨rfl, b1⟩)
  have bA : Below w.heap.size w (w1.alloc (.cells #[.int .i64 0, .int .i64 1, .int .i64 0, .int .i64 0] 38)) := b1.alloc b1.size _
  go_upto_region 10 with (fail)
  generalize w1.alloc (.cells #[.int .i64 0, .int .i64 1, .int .i64 0, .int .i64 0] 38) = V at bA ⊢
  have HBV := Lib.hid (bA.mono hB)
  have hBV : B ≤ V.heap.size := Nat.le_trans hB bA.size
  obtain ⟨a0, c0, f0, a5, c5, P5, a11, c11, P11, f11, a12, c12, P12, f12, h⟩ := (H0.out.on bA).flat
  clear b1 bA H0
  have k11 := h.blk.1 11 _ rfl
  have fz := h.blk.2.1
  rcases List.eq_nil_or_concat P.saved with hs | ⟨S, g, hs⟩
  · have HN : Hid (OpRes B X (resO P) V (.returned (.bool false)) V) := Lib.hid (by
      have e : resO P = none := by simp [resO, hs]
      rw [e]
      exact ⟨rfl, (Below.refl _ _).mono hBV, fun P' hP => by cases hP⟩)
    simp only [hs, List.length_nil] at k11
    clear h hs hl
    go_wp2
    go_ret
    exact HN.out.from HBV.out
  · obtain ⟨k, hk⟩ : ∃ k, S.length = k := ⟨_, rfl⟩
    have hs : P.saved = S ++ [g] := by rw [hs, List.concat_eq_append]
    have hn : P.saved.length = k + 1 := by rw [hs, List.length_append, hk]; rfl
    have er : resO P = some { P with now := { g with st := P.now.st }, saved := S } := by simp [resO, resM, hs]
    have o11 := h.o11
    rw [hn, hs] at o11
    obtain ⟨P', cs, fa, fb, rfl, rfl, oS, oG⟩ := last_gr hk o11
    obtain ⟨b0, e0, b5, e5, g0, g5, hcs, rfl, q0, q5⟩ := inv_Graphics_ oG
    simp only [len_dI, len_dP] at hcs q0 q5
    simp only [List.append_nil] at h oG
    have r11 := h.r11
    rw [hn] at r11
    obtain ⟨ga, rfl, hBg, bg, hcap, hnc, hcm⟩ := row_cap r11 (by omega)
    have lP : P'.length = k * 11 := by have := r11.1; rw [List.length_append, hcs] at this; simp at this; omega
    have lcs : cs.length = 11 := by rw [hcs]; rfl
    have h1c : ∀ v ∈ cs, v.oneCell' = true := fun v hv => oG.one v hv
    obtain ⟨l, hL⟩ : ∃ l, P.now.st.length = l := ⟨_, rfl⟩
    have k0 := h.blk.1 0 _ rfl
    rw [hL] at k0
    rw [hn] at k11
    have hXl := h.blk.2.2
    have ldG : (hload 42 ⟨ga, k * 11, none⟩).run Tryz.prog V = .ok (.agg cs.toArray) V := hload_run (P := Tryz.prog) (t := 42) Tryz.isAgg42 Tryz.sizeOf42 (w := V) (b := ga) (o := k * 11) (us := cs) (Blk.part (P := P') (R := []) (by simpa using bg) lP) lcs
    have stX := hstore_run (P := Tryz.prog) (t := 42) Tryz.sizeOf42 (o := 0) (A := []) (us := [_, _, _, _, _, _, _, _, _, _, _]) (vs := cs) h.blk rfl lcs lcs h1c
    have BE := Blk.sets (w := V) (b := X) (o := 0) (P := []) (us := [_, _, _, _, _, _, _, _, _, _, _]) (vs := cs) h.blk rfl lcs
    obtain ⟨E, hE⟩ : ∃ E, V.setCells X 0 cs = E := ⟨_, rfl⟩
    have tE0 : Turns V E (fun b => b = X) := by rw [← hE]; exact turns_sets (S := fun b => b = X) X rfl _ _ _
    rw [hE] at stX BE
    rw [hcs] at BE
    have BE2 := Blk.put (o := 0) (P := []) BE rfl (.slice a0 l c0)
    have tE : Turns V (E.setCell ⟨X, 0, none⟩ (.slice a0 l c0)) (fun b => b = X) := turns_set (S := fun b => b = X) tE0 rfl _ _
    have nd := h.nd
    have hgX : ga ≠ X := fun e => by subst e; simp only [List.nodup_cons, List.mem_append] at nd; exact nd.1 (.inr (.inr (.inl (by simp [rowL, Value.ownBlock]))))
    have bg2 := bg.turned tE hgX
    have r2 := cap_row (k := 11) (n := k) (c := c11) (B := B) (T := 42) (P := P') (w := E.setCell ⟨X, 0, none⟩ (.slice a0 l c0)) (g := ga) ⟨fun o v hv => bg2.1 o v (by rw [List.getElem?_append_left (List.getElem?_eq_some_iff.1 hv).1]; exact hv), bg2.2⟩ (hcap.turned tE hgX) lP (by omega) hcm hBg
    have o5g : Own V (.sl KPt) [.slice b5 g.path.length e5] (.sl (dP g.path)) g5 := q5
    have HF := Lib.hid (h.restG hBV hX hk oS o5g (Below.refl _ _) tE (by rw [hL]; exact BE2) (Turns.refl _ _) r2).2
    rw [← er] at HF
    have y0 := BE.1 0 _ rfl
    have yf := BE.2.1
    have x11 := BE2.1 11 _ rfl
    have xf := BE2.2.1
    rw [hn] at x11
    have hk3 : k ≤ 3 := by omega
    have hkc : k ≤ c11 := by omega
    have n0 : ((k : Int) + 1 == 0) = false := by simp; omega
    clear h hs hn er oS oG q0 q5 hcs lcs lP r11 bg o5g BE BE2 tE nd r2 hE hL hl o11 bg2 hcap tE0 h1c
    go_wp2
    go_ret
    exact HF.out.from HBV.out
end Go.Proofs.YtjmfgbbngocodaaGreat.Own

