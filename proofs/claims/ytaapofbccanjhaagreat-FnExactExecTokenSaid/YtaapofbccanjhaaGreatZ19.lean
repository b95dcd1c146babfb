/-
  Texts of this seat, laid together: TokO, SpA, SpC, SpI
-/
import Derived.Test.YtaapofbccanjhaaGreatZ08
import Derived.Test.YtaapofbccanjhaaGreatZ18
import Derived.Test.YtaapofbccanjhaaGreatZ31
namespace Go.Proofs.YtaapofbccanjhaaGreat.Own
open Go.ChangeShapes Go.WideShapes Go.ChangeAt Go.RowKit
open Kit Slabs
open Marking (mt)
open Recs
set_option linter.unusedVariables false
set_option linter.unusedSimpArgs false
set_option linter.unnecessarySimpa false
set_option maxRecDepth 100000
abbrev KToken : Kd := .st [.str, .int]
theorem tok_at {w : World} {cs : List Value} {d : Dt} (h : Own w KToken cs d []) : ∃ s n, d = .st [.str s, .int n] := by
  cases h with
  | st h =>
    obtain ⟨x, _, _, rfl, rfl, h1⟩ := h.str
    obtain ⟨y, _, _, rfl, rfl, h2⟩ := h1.int
    obtain ⟨rfl, rfl, _⟩ := h2.end_
    exact ⟨x, y, rfl⟩
theorem own_tok (w : World) (s : ByteArray) (n : Int) : Own w KToken [.string s, .int .i64 n] (.st [.str s, .int n]) [] :=
  .st (.cons (cs := [.string s]) (fp := []) (.str s) (.cons (cs := [.int .i64 n]) (fp := []) (.int n) .nil))
theorem toks_slab {w : World} {v : Value} {es : List Dt} {fp : List Nat} (h : Own w (.sl KToken) [v] (.sl es) fp) {B : Nat} (hB : ∀ b ∈ fp, B ≤ b) :
    Slab w B v es.length 2 (fun i => (at_ es i).cells) ∧ fp = (rowOf es.length v).toList ∧ (∀ i, i < es.length → ∃ s n, at_ es i = .st [.str s, .int n]) ∧ (∀ i, i < es.length → (at_ es i).cnt = 2) := by
  obtain ⟨h1, h2, h3⟩ := slab_of_own (e := KToken) rfl h hB
  have key : ∀ i, i < es.length → ∃ s n, at_ es i = .st [.str s, .int n] := fun i hi => tok_at (h3 i hi)
  exact ⟨h1, h2, key, fun i hi => by obtain ⟨x, y, e⟩ := key i hi; rw [e]; rfl⟩
theorem toks_own {w : World} {B : Nat} {v : Value} {es : List Dt} {F : Nat → List Value} {n : Nat} (h : Slab w B v n 2 F) (hn : es.length = n) (hF : ∀ i, i < n → ∃ s m, at_ es i = .st [.str s, .int m] ∧ F i = [.string s, .int .i64 m]) : Own w (.sl KToken) [v] (.sl es) (rowOf n v).toList :=
  own_of_at (e := KToken) h hn (fun i hi => by obtain ⟨x, y, e1, e2⟩ := hF i hi; rw [e1, e2]; exact own_tok w x y)
def tkD (es : List Dt) (i : Nat) : List Value := match at_ es i with
  | .st [.str s, .int n] => [.string s, .int .i64 n]
  | _ => [.string ⟨#[]⟩, .int .i64 0]
theorem tkD_len (es : List Dt) (i : Nat) : (tkD es i).length = 2 := by unfold tkD; split <;> rfl
theorem eq_TokenS (w : World) {v1 v2 : Value} {es : List Dt} {f1 f2 : List Nat} (hn : es.length ≤ 1048576) (h1 : Own w (.sl KToken) [v1] (.sl es) f1) (h2 : Own w (.sl KToken) [v2] (.sl es) f2) :
    Calls Tryz.prog 18 #[v1, v2] w fun e w' => e = .returned (.bool true) ∧ Below w.heap.size w w' := by
  obtain ⟨s1, _, k1, _⟩ := toks_slab h1 (B := 0) (fun _ _ => Nat.zero_le _)
  obtain ⟨s2, _, _, _⟩ := toks_slab h2 (B := 0) (fun _ _ => Nat.zero_le _)
  exact Tokens.eqS_same w 0 0 v1 v2 es.length _ hn s1 s2 (fun i hi => by obtain ⟨x, y, e⟩ := k1 i hi; exact ⟨x, y, by rw [e]; rfl⟩)
theorem mark_TokenS1 (w : World) {v : Value} {es : List Dt} {fp : List Nat} (hn : es.length ≤ 1048576) (h : Own w (.sl KToken) [v] (.sl es) fp) :
    Calls Tryz.prog 19 #[v, .int .i64 1] w fun e w' => e = .returned (.int .i64 ((1 + cntL es : Nat) : Int)) ∧ Own w' (.sl KToken) [v] (.sl (mkL es 1)) fp ∧ Turns w w' (fun b => b ∈ fp) := by
  obtain ⟨hs, hf, hk, hc⟩ := toks_slab h (B := 0) (fun _ _ => Nat.zero_le _)
  have hs2 : Slab w 0 v es.length 2 (tkD es) := hs.same (fun i hi => by obtain ⟨x, y, e⟩ := hk i hi; simp only [tkD, e]; rfl)
  refine (Tokens.markS_any w 0 1 es.length v _ (by omega) (by omega) (by omega) (Nat.zero_le _) hs2 (fun i hi => by obtain ⟨x, y, e⟩ := hk i hi; exact ⟨x, y, by simp only [tkD, e]⟩) (tkD_len es)).mono fun e w' ⟨he, hs', _, hg⟩ => ?_
  refine ⟨by rw [he, cnt_all es 2 hc], ?_, turns_row hg hf⟩
  rw [hf]
  exact toks_own hs' (mkL_length es 1) (fun i hi => by
    obtain ⟨x, y, e⟩ := hk i hi
    exact ⟨mt (1 + i * 2), ((1 + i * 2 + 1 : Nat) : Int), by rw [mk_at es 2 1 hc i hi, e]; rfl, rfl⟩)
theorem sz_Token (w : World) (s : ByteArray) (n : Int) (hm : s.size ≤ maxLen) (l : Int) (h0 : 0 ≤ l) (h1 : l ≤ 1048576) : Calls Tryz.prog 6 #[.agg #[.string s, .int .i64 n], .int .i64 l] w fun e w' => e = .returned (.int .i64 (szv l s.size)) ∧ Below w.heap.size w w' :=
  (Tokens.sz_any s n l w h0 h1 hm).mono fun e w' ⟨he, hb⟩ => ⟨by rw [he]; refine ret_int ?_; unfold szv; split <;> split <;> first | rfl | omega, hb⟩
theorem to_Token (s : ByteArray) (n : Int) (w : World) : Calls Tryz.prog 9 #[.agg #[.string s, .int .i64 n]] w fun e w' => e = .returned (.agg #[.string s, .int .i64 n]) ∧ Below w.heap.size w w' := Tokens.to_any s n w
def tkE (z : Nat → Nat → Value) (i : Nat) : Dt := match z i 0, z i 1 with
  | .string s, .int _ m => .st [.str s, .int m]
  | _, _ => .st [.str ⟨#[]⟩, .int 0]
def tkEs (z : Nat → Nat → Value) : Nat → List Dt
  | 0 => []
  | n + 1 => tkEs z n ++ [tkE z n]
theorem tkEs_len (z : Nat → Nat → Value) : ∀ n, (tkEs z n).length = n
  | 0 => rfl
  | n + 1 => by rw [tkEs, List.length_append, tkEs_len z n]; rfl
theorem tkEs_at (z : Nat → Nat → Value) : ∀ n i, i < n → at_ (tkEs z n) i = tkE z i
  | n + 1, i, h => by
    rw [tkEs]
    by_cases hi : i < n
    · rw [← tkEs_at z n i hi]; unfold at_; rw [List.getD_eq_getElem?_getD, List.getD_eq_getElem?_getD, List.getElem?_append_left (by rw [tkEs_len]; exact hi)]
    · have : i = n := by omega
      subst this
      unfold at_; rw [List.getD_eq_getElem?_getD, List.getElem?_append_right (by rw [tkEs_len]; omega), tkEs_len]; simp
theorem tkEs_bulk {z : Nat → Nat → Value} : ∀ n, (∀ i, i < n → ∃ (x0 : ByteArray) (x1 : Int), z i 0 = .string x0 ∧ z i 1 = .int .i64 x1) → bulkL (tkEs z n) = Tokens.total z n
  | 0, _ => rfl
  | n + 1, h => by
    obtain ⟨x, y, e1, e2⟩ := h n (by omega)
    rw [tkEs, bulkL_app, tkEs_bulk n (fun i hi => h i (by omega)), Tokens.total]
    simp only [tkE, e1, e2, bulkL, Dt.bulk, Tokens.strSize]; omega
theorem recs_keep {w W' : World} {a : Option Addr} {n cap : Nat} {z : Nat → Nat → Value} (hr : IsRecs Tokens.kl w a n cap z) (hb : Below w.heap.size w W') : IsRecs Tokens.kl W' a n cap z := by
  obtain ⟨h1, h2, h3⟩ := hr
  refine ⟨h1, h2, ?_⟩
  rcases h3 with h3 | ⟨g, o, ha, hg, h4⟩
  · exact .inl h3
  · exact .inr ⟨g, o, ha, Nat.lt_of_lt_of_le hg hb.size, fun i hi j kd hk => ⟨(hb.cell (p := ⟨g, _, none⟩) hg).trans (h4 i hi j kd hk).1, (h4 i hi j kd hk).2⟩⟩
theorem to_TokenS (w : World) {a : Option Addr} {n cap : Nat} {z : Nat → Nat → Value} (hn : n ≤ 1048576) (hr : IsRecs Tokens.kl w a n cap z) :
    Calls Tryz.prog 16 #[.slice a n cap] w fun e w' => ∃ (v : Value) (fp : List Nat), e = .returned v ∧ Own w' (.sl KToken) [v] (.sl (tkEs z n)) fp ∧ fp.Nodup ∧ (∀ b ∈ fp, w.heap.size ≤ b) ∧ Below w.heap.size w w' :=
  (Tokens.toS_any a n cap z w hn hr).mono fun e w' ⟨v, he, hs, hb⟩ => ⟨v, _, he, toks_own hs (tkEs_len z n) (fun i hi => by
    obtain ⟨x, y, e1, e2⟩ := Tokens.rec_at hr hi
    exact ⟨x, y, by rw [tkEs_at z n i hi]; simp only [tkE, e1, e2], by simp only [e1, e2]⟩), by cases rowOf n v <;> simp, fun b hb' => (hs.row b (by simpa using hb')).1, hb⟩
end Go.Proofs.YtaapofbccanjhaaGreat.Own
namespace Go.Proofs.YtaapofbccanjhaaGreat.Own
open Go.ChangeShapes Go.WideShapes Go.ChangeAt Go.RowKit
open Kit Slabs Ints Stack Point Turn Join Pts Box Push Take Opn SOp
set_option linter.unusedVariables false
set_option linter.unusedSimpArgs false
set_option linter.unnecessarySimpa false
set_option maxRecDepth 100000
attribute [local go_sem ↓] hload_Graphics hload_Object hstore_Graphics hstore_Object hload_Page hstore_Page
theorem PgOwn.on {w w' : World} {B X : Nat} {P : Pg} (h : PgOwn w B X P) (hb : Below w.heap.size w w') : PgOwn w' B X P := by
  obtain ⟨R, f, b, o, n, x, g⟩ := h
  exact ⟨R, f, b.keep hb, o.under hb, n, x, g⟩
theorem OpRes.alloc {B X : Nat} {r : Option Pg} {w W : World} {e : Ending} (h : OpRes B X r w e W) (hB : B ≤ W.heap.size) (o : Obj) : OpRes B X r w e (W.alloc o) :=
  ⟨h.1, h.2.1.alloc hB o, fun P' hP => (h.2.2 P' hP).on (by go_grown)⟩
theorem cell_on {w w' : World} (h : Below w.heap.size w w') {g o : Nat} (hg : g < w.heap.size) : w'.cell? ⟨g, o, none⟩ = w.cell? ⟨g, o, none⟩ := (bcell h).1 g o hg
theorem nm12 {s : ByteArray} {k : Nat} (h : opN s = some k) : (s.toList == [110, 101, 119]) = (k == 0) ∧ (s.toList == [109, 111, 118, 101, 116, 111]) = (k == 1) ∧ (s.toList == [108, 105, 110, 101, 116, 111]) = (k == 2) ∧ (s.toList == [114, 101, 99, 116]) = (k == 3) ∧ (s.toList == [102, 105, 108, 108]) = (k == 4) ∧ (s.toList == [103, 114, 97, 121]) = (k == 5) ∧ (s.toList == [99, 108, 105, 112]) = (k == 6) ∧ (s.toList == [115, 97, 118, 101]) = (k == 7) ∧ (s.toList == [114, 101, 115, 116, 111, 114, 101]) = (k == 8) ∧ (s.toList == [115, 104, 105, 102, 116]) = (k == 9) ∧ (s.toList == [116, 117, 114, 110]) = (k == 10) ∧ (s.toList == [115, 99, 97, 108, 101]) = (k == 11) := by
  unfold opN at h
  by_cases e0 : (s.toList == [110, 101, 119]) = true
  · rw [if_pos e0] at h; injection h with h; subst h; rw [eq_of_beq e0]; decide
  rw [if_neg e0] at h
  by_cases e1 : (s.toList == [109, 111, 118, 101, 116, 111]) = true
  · rw [if_pos e1] at h; injection h with h; subst h; rw [eq_of_beq e1]; decide
  rw [if_neg e1] at h
  by_cases e2 : (s.toList == [108, 105, 110, 101, 116, 111]) = true
  · rw [if_pos e2] at h; injection h with h; subst h; rw [eq_of_beq e2]; decide
  rw [if_neg e2] at h
  by_cases e3 : (s.toList == [114, 101, 99, 116]) = true
  · rw [if_pos e3] at h; injection h with h; subst h; rw [eq_of_beq e3]; decide
  rw [if_neg e3] at h
  by_cases e4 : (s.toList == [102, 105, 108, 108]) = true
  · rw [if_pos e4] at h; injection h with h; subst h; rw [eq_of_beq e4]; decide
  rw [if_neg e4] at h
  by_cases e5 : (s.toList == [103, 114, 97, 121]) = true
  · rw [if_pos e5] at h; injection h with h; subst h; rw [eq_of_beq e5]; decide
  rw [if_neg e5] at h
  by_cases e6 : (s.toList == [99, 108, 105, 112]) = true
  · rw [if_pos e6] at h; injection h with h; subst h; rw [eq_of_beq e6]; decide
  rw [if_neg e6] at h
  by_cases e7 : (s.toList == [115, 97, 118, 101]) = true
  · rw [if_pos e7] at h; injection h with h; subst h; rw [eq_of_beq e7]; decide
  rw [if_neg e7] at h
  by_cases e8 : (s.toList == [114, 101, 115, 116, 111, 114, 101]) = true
  · rw [if_pos e8] at h; injection h with h; subst h; rw [eq_of_beq e8]; decide
  rw [if_neg e8] at h
  by_cases e9 : (s.toList == [115, 104, 105, 102, 116]) = true
  · rw [if_pos e9] at h; injection h with h; subst h; rw [eq_of_beq e9]; decide
  rw [if_neg e9] at h
  by_cases e10 : (s.toList == [116, 117, 114, 110]) = true
  · rw [if_pos e10] at h; injection h with h; subst h; rw [eq_of_beq e10]; decide
  rw [if_neg e10] at h
  by_cases e11 : (s.toList == [115, 99, 97, 108, 101]) = true
  · rw [if_pos e11] at h; injection h with h; subst h; rw [eq_of_beq e11]; decide
  rw [if_neg e11] at h
  cases h
set_option maxHeartbeats 2000000 in
theorem sp_new {w : World} {B X : Nat} {P : Pg} (h : PgAt w B X P) (hB : B ≤ w.heap.size) (hX : B ≤ X) (s : ByteArray) (hk : opN s = some 0) (u : Value) :
    Calls Tryz.prog 31 #[.pointer (some ⟨X, 0, none⟩), .string s, u] w (OpRes B X (some (setPath P [])) w) := by
  obtain ⟨a0, c0, f0, a5, c5, P5, a11, c11, P11, f11, a12, c12, P12, f12, h⟩ := h.flat
  obtain ⟨q0, q1, q2, q3, q4, q5, q6, q7, q8, q9, q10, q11⟩ := nm12 hk
  have HK := Lib.hid (fun (W : World) (hb : Below w.heap.size w W) => (show (W.cell? ⟨X, 5, none⟩ = some (.slice a5 P.now.path.length c5) ∧ ∀ o, W.frozen? ⟨X, o, none⟩ = false) ∧ ∀ g c, OpRes B X (some (setPath P [])) w (.returned (.bool true)) (W.setCell ⟨X, 5, none⟩ (.slice g 0 c)) from
    ⟨⟨(h.blk.keep hb).1 5 _ rfl, (h.blk.keep hb).2.1⟩, fun g c => h.store hb hB hX (g := { P.now with path := [] }) rfl (a5' := g) (c5' := c) (Blk.put (P := [_, _, _, _, _]) (h.blk.keep hb) rfl (.slice g 0 c)) (.nil g c) List.nodup_nil (fun b hb => absurd hb List.not_mem_nil)⟩))
  have hXl := h.blk.2.2
  clear h hk
  go_enter Tryz.func31, Tryz.ntmps31
  obtain ⟨k5, fz⟩ := (HK.out w (Below.refl _ _)).1
  go_upto_region 4 with (fail)
  go_wp2
  go_ret
  exact ((HK.out w (Below.refl _ _)).2 _ _).alloc (by have := hB; simpa using this) _
set_option maxHeartbeats 2000000 in
theorem sp_gray {w : World} {B X : Nat} {P : Pg} (h : PgAt w B X P) (hB : B ≤ w.heap.size) (hX : B ≤ X) (s : ByteArray) (hk : opN s = some 5) (g2 c2 : Nat) (x : Int) (hg : g2 < w.heap.size) (hx : w.cell? ⟨g2, 0, none⟩ = some (.int .i64 x)) :
    Calls Tryz.prog 32 #[.pointer (some ⟨X, 0, none⟩), .string s, .slice (some ⟨g2, 0, none⟩) 1 c2] w (OpRes B X (some (graM P x)) w) := by
  obtain ⟨a0, c0, f0, a5, c5, P5, a11, c11, P11, f11, a12, c12, P12, f12, h⟩ := h.flat
  obtain ⟨q0, q1, q2, q3, q4, q5, q6, q7, q8, q9, q10, q11⟩ := nm12 hk
  have HK := Lib.hid (fun (W : World) (hb : Below w.heap.size w W) => (show (W.cell? ⟨X, 6, none⟩ = some (.int .i64 P.now.gray) ∧ (∀ o, W.frozen? ⟨X, o, none⟩ = false) ∧ W.cell? ⟨g2, 0, none⟩ = some (.int .i64 x)) ∧ OpRes B X (some (graM P x)) w (.returned (.bool true)) (W.setCell ⟨X, 6, none⟩ (.int .i64 x)) from
    ⟨⟨(h.blk.keep hb).1 6 _ rfl, (h.blk.keep hb).2.1, (cell_on hb hg).trans hx⟩, h.store hb hB hX (g := { P.now with gray := x }) rfl (a5' := a5) (c5' := c5) (Blk.put (P := [_, _, _, _, _, _]) (h.blk.keep hb) rfl (.int .i64 x)) (row_own2 (row_on h.r5 hb) (h.o5 W)) (rowF_nodup List.nodup_nil (fun b _ hh => absurd hh List.not_mem_nil)) (fun b hb => (rowF_sub b hb).elim .inl (fun hh => absurd hh List.not_mem_nil))⟩))
  clear h hk hx
  go_enter Tryz.func32, Tryz.ntmps32
  go_wp2_with fail
  ((with_reducible refine (ident_spec _).mono ?_); rintro e w1 ⟨rfl, b1⟩)
  have bA : Below w.heap.size w (w1.alloc (.cells #[.int .i64 0, .int .i64 1, .int .i64 0, .int .i64 0] 38)) := b1.alloc b1.size _
  go_upto_region 2 with (fail)
  generalize hV : w1.alloc (.cells #[.int .i64 0, .int .i64 1, .int .i64 0, .int .i64 0] 38) = V at bA
  obtain ⟨⟨k6, fz, x0⟩, hr⟩ := HK.out V bA
  have HR := Lib.hid hr
  clear hr b1 bA
  go_wp2
  go_ret
  exact HR.out
end Go.Proofs.YtaapofbccanjhaaGreat.Own
namespace Go.Proofs.YtaapofbccanjhaaGreat.Own
open Go.ChangeShapes Go.WideShapes Go.ChangeAt Go.RowKit
open Kit Slabs Ints Stack Point Turn Join Pts Box Push Take Opn SOp
set_option linter.unusedVariables false
set_option linter.unusedSimpArgs false
set_option linter.unnecessarySimpa false
set_option maxRecDepth 100000
attribute [local go_sem ↓] hload_Graphics hload_Object hstore_Graphics hstore_Object hload_Page hstore_Page
theorem lit_pts (w : World) (cs : Array Value) {l : List (Int × Int)} {n : Nat} (hn : l.length = n) (hm : n ≤ 100) (hcs : cs.toList = cellsP l) : (w.alloc (.cells cs 109)).ownsRow w.heap.size 109 2 (.slice (some ⟨w.heap.size, 0, none⟩) n n) n (cellsP l) := by
  have hs : cs.size = n * 2 := by have := cellsP_len l; rw [← hcs, hn] at this; simpa using this
  have := World.ownsRow_lit (base := w.heap.size) (e := 109) (size := 2) w cs n (Nat.le_refl _) (by unfold maxLen; omega) hs
  rw [hcs] at this
  exact this
theorem PgFl.litp {w w5 : World} {B X : Nat} {p : Pg} {a0 : Option Addr} {c0 : Nat} {f0 : List Nat} {a5 : Option Addr} {c5 : Nat} {P5 : List Value} {a11 : Option Addr} {c11 : Nat} {P11 : List Value} {f11 : List Nat} {a12 : Option Addr} {c12 : Nat} {P12 : List Value} {f12 : List Nat}
    (h : PgFl w B X p a0 c0 f0 a5 c5 P5 a11 c11 P11 f11 a12 c12 P12 f12) (hB : B ≤ w.heap.size) (hX : B ≤ X) (b5 : Below w.heap.size w w5) (cs : Array Value) {l : List (Int × Int)} {n : Nat} (hn : l.length = n) (hm : n ≤ 100) (hcs : cs.toList = cellsP l) :
    OpRes B X (some (setPath p l)) w (.returned (.bool true)) ((w5.setCell ⟨X, 5, none⟩ (.slice (some ⟨w5.heap.size, 0, none⟩) n n)).alloc (.cells cs 109)) := by
  have hXl := h.blk.2.2
  have z5 := b5.size
  have := h.placed1 hB hX b5 (g := { p.now with path := l }) rfl (w5.alloc (.cells cs 109)) (some ⟨w5.heap.size, 0, none⟩) n (by have := lit_pts w5 cs hn hm hcs; simpa [hn] using this) (by go_grown)
  rw [show ({ p.now with path := l } : Gr).path.length = n from hn, World.setCell_alloc_past _ _ _ _ (by omega)] at this
  exact this
set_option maxHeartbeats 4000000 in
theorem sp_move {w : World} {B X : Nat} {P : Pg} (h : PgAt w B X P) (hB : B ≤ w.heap.size) (hX : B ≤ X) (ht : tokB P.now.q P.now.s P.now.dx P.now.dy = true) (s : ByteArray) (hk : opN s = some 1) (g2 c2 : Nat) (x y : Int) (hg : g2 < w.heap.size) (hx : w.cell? ⟨g2, 0, none⟩ = some (.int .i64 x)) (hy : w.cell? ⟨g2, 1, none⟩ = some (.int .i64 y)) (bx : -9999 ≤ x ∧ x ≤ 9999) (bY : -9999 ≤ y ∧ y ≤ 9999) :
    Calls Tryz.prog 31 #[.pointer (some ⟨X, 0, none⟩), .string s, .slice (some ⟨g2, 0, none⟩) 2 c2] w (OpRes B X (some (movM P x y)) w) := by
  obtain ⟨a0, c0, f0, a5, c5, P5, a11, c11, P11, f11, a12, c12, P12, f12, h⟩ := h.flat
  obtain ⟨q0, q1, q2, q3, q4, q5, q6, q7, q8, q9, q10, q11⟩ := nm12 hk
  have hXl := h.blk.2.2
  have HK := Lib.hid (fun (W : World) (hb : Below w.heap.size w W) => (show (W.cell? ⟨X, 1, none⟩ = some (.int .i64 P.now.q) ∧ W.cell? ⟨X, 2, none⟩ = some (.int .i64 P.now.s) ∧ W.cell? ⟨X, 3, none⟩ = some (.int .i64 P.now.dx) ∧ W.cell? ⟨X, 4, none⟩ = some (.int .i64 P.now.dy)) ∧ W.cell? ⟨X, 5, none⟩ = some (.slice a5 P.now.path.length c5) ∧ ∀ o, W.frozen? ⟨X, o, none⟩ = false from by
    have k := h.blk.keep hb
    exact ⟨⟨k.1 1 _ rfl, k.1 2 _ rfl, k.1 3 _ rfl, k.1 4 _ rfl⟩, k.1 5 _ rfl, k.2.1⟩))
  have HS := Lib.hid (fun (W : World) (hb : Below w.heap.size w W) => h.litp hB hX hb #[.int .i64 (imX P.now.q P.now.s P.now.dx x y), .int .i64 (imY P.now.q P.now.s P.now.dy x y)] (l := [imP P.now x y]) (n := 1) rfl (by omega) rfl)
  have HC := Lib.hid (fun (W : World) => image_spec_big P.now.q P.now.s P.now.dx P.now.dy x y W ht (by omega) (by omega))
  obtain ⟨⟨t1, t2, t3, t4⟩, k5, fz⟩ := HK.out w (Below.refl _ _)
  clear h hk ht
  go_enter Tryz.func31, Tryz.ntmps31
  go_upto_region 6 with (fail)
  go_region_law (go_simp; go_at_call 66; (with_reducible refine (HC.out _).mono ?_); rintro e w5 ⟨rfl, b5⟩; have b5 := on_of (show Below w.heap.size w _ from by go_grown) b5; obtain ⟨_, j5, fj⟩ := HK.out w5 b5; have lX := (show X < w5.heap.size from by have := b5.size; omega); have HR := Lib.hid (HS.out w5 b5); clear b5)
  all_goals
    go_wp2
    go_ret
    exact HR.out
end Go.Proofs.YtaapofbccanjhaaGreat.Own
namespace Go.Proofs.YtaapofbccanjhaaGreat.Own
open Go.ChangeShapes Go.WideShapes Go.ChangeAt Go.RowKit
open Kit Slabs Ints Stack Point Turn Join Pts Box Push Take Opn SOp
set_option linter.unusedVariables false
set_option linter.unusedSimpArgs false
set_option linter.unnecessarySimpa false
set_option maxRecDepth 100000
attribute [local go_sem ↓] hload_Graphics hload_Object hstore_Graphics hstore_Object hload_Page hstore_Page
theorem PgFl.closeR {w wr : World} {B X : Nat} {p : Pg} {a0 : Option Addr} {c0 : Nat} {f0 : List Nat} {a5 : Option Addr} {c5 : Nat} {P5 : List Value} {a11 : Option Addr} {c11 : Nat} {P11 : List Value} {f11 : List Nat} {a12 : Option Addr} {c12 : Nat} {P12 : List Value} {f12 : List Nat}
    (h : PgFl w B X p a0 c0 f0 a5 c5 P5 a11 c11 P11 f11 a12 c12 P12 f12) (hB : B ≤ w.heap.size) (hX : B ≤ X) (T : Turns w wr (fun b => b = X)) {a' : Option Addr} {c' : Nat} {l : List (Int × Int)} (BX : Blk wr X (pgCells (setPath p l) a0 c0 a' c' a11 c11 a12 c12)) (row : wr.ownsRow w.heap.size 109 2 (.slice a' l.length c') l.length (cellsP l)) :
    OpRes B X (some (setPath p l)) w (.returned (.bool true)) wr := by
  obtain ⟨nX, _, _⟩ := h.apart
  refine ⟨rfl, T.below hB (fun k e => e ▸ hX), fun P' hP => ?_⟩
  injection hP with hP
  subst hP
  refine h.close (g := { p.now with path := l }) T.size (fun b hb => T.block b (h.lt b hb) (fun e => nX (e ▸ hb))) rfl (a5' := a') (c5' := c') BX (row_own2 row (ownL_pts wr l)) (rowF_nodup List.nodup_nil (fun b _ hh => absurd hh List.not_mem_nil)) h.blk.2.2 hB (fun b hb => .inr ?_)
  rcases rowF_sub b hb with k | k
  · exact (rowL_ge row b k).1
  · cases k
theorem Turns.cell {w w' : World} {S : Nat → Prop} (h : Turns w w' S) {b : Nat} (hb : b < w.heap.size) (hn : ¬ S b) (o : Nat) : w'.cell? ⟨b, o, none⟩ = w.cell? ⟨b, o, none⟩ := by
  simp only [World.cell?, h.block b hb hn]
def RcAt (W : World) (X : Nat) (P : Pg) (a0 : Option Addr) (c0 : Nat) (a11 : Option Addr) (c11 : Nat) (a12 : Option Addr) (c12 : Nat) (L : List (Int × Int)) (k : Nat) (a' : Option Addr) (c' : Nat) (wr : World) : Prop :=
  Blk wr X [.slice a0 P.now.st.length c0, .int .i64 P.now.q, .int .i64 P.now.s, .int .i64 P.now.dx, .int .i64 P.now.dy, .slice a' k c', .int .i64 P.now.gray, .int .i64 P.now.x0, .int .i64 P.now.y0, .int .i64 P.now.x1, .int .i64 P.now.y1, .slice a11 P.saved.length c11, .slice a12 P.objs.length c12] ∧ Turns W wr (fun b => b = X) ∧ wr.ownsRow W.heap.size 109 2 (.slice a' k c') k (cellsP ((L.take k).map fun q => imP P.now q.1 q.2))
theorem RcAt.on {W : World} {X : Nat} {P : Pg} {a0 : Option Addr} {c0 : Nat} {a11 : Option Addr} {c11 : Nat} {a12 : Option Addr} {c12 : Nat} {L : List (Int × Int)} {k : Nat} {a' : Option Addr} {c' : Nat} {wr w' : World} (h : RcAt W X P a0 c0 a11 c11 a12 c12 L k a' c' wr) (hb : Below wr.heap.size wr w') : RcAt W X P a0 c0 a11 c11 a12 c12 L k a' c' w' :=
  ⟨h.1.keep hb, h.2.1.trans (Turns.of_below hb), row_on h.2.2 hb⟩
theorem RcAt.next {W : World} {X : Nat} {P : Pg} {a0 : Option Addr} {c0 : Nat} {a11 : Option Addr} {c11 : Nat} {a12 : Option Addr} {c12 : Nat} {L : List (Int × Int)} {k : Nat} {a' : Option Addr} {c' : Nat} {wr w6 w7 : World} (h : RcAt W X P a0 c0 a11 c11 a12 c12 L k a' c' wr) (hX : X < W.heap.size) (b6 : Below wr.heap.size wr w6) (hk : k < L.length) {x y : Int} (hx : pX L k = x) (hy : pY L k = y)
    {a2 : Option Addr} {d2 : Nat} (r7 : w7.ownsRow W.heap.size 109 2 (.slice a2 (k + 1) d2) (k + 1) (cellsP ((L.take k).map fun q => imP P.now q.1 q.2) ++ [.int .i64 (imX P.now.q P.now.s P.now.dx x y), .int .i64 (imY P.now.q P.now.s P.now.dy x y)])) (gr : w6.grownBy w7 (Value.ownBlock (.slice a' k c'))) :
    Blk w7 X [.slice a0 P.now.st.length c0, .int .i64 P.now.q, .int .i64 P.now.s, .int .i64 P.now.dx, .int .i64 P.now.dy, .slice a' k c', .int .i64 P.now.gray, .int .i64 P.now.x0, .int .i64 P.now.y0, .int .i64 P.now.x1, .int .i64 P.now.y1, .slice a11 P.saved.length c11, .slice a12 P.objs.length c12] ∧ Turns W w7 (fun b => b = X) ∧ RcAt W X P a0 c0 a11 c11 a12 c12 L (k + 1) a2 d2 (w7.setCell ⟨X, 5, none⟩ (.slice a2 (k + 1) d2)) := by
  obtain ⟨BX, T, row⟩ := h
  have z1 := T.size
  have z6 := b6.size
  have t7 : Turns w6 w7 (fun j => j ∈ rowL (.slice a' k c')) := (Turns.of_grown gr).mono (fun j hj => by simpa [rowL] using hj)
  have nX : X ∉ rowL (.slice a' k c') := fun hx => by have := (rowL_ge row X hx).1; omega
  have B7 := (BX.keep b6).turned t7 nX
  have nX2 : X ∉ rowL (.slice a2 (k + 1) d2) := fun hx => by have := (rowL_ge r7 X hx).1; omega
  have e : (L.take (k + 1)).map (fun q => imP P.now q.1 q.2) = (L.take k).map (fun q => imP P.now q.1 q.2) ++ [imP P.now x y] := by
    have e : L[k] = (x, y) := by
      have e2 : L.getD k (0, 0) = L[k] := by simp [List.getD, List.getElem?_eq_getElem hk]
      rw [← e2, ← hx, ← hy]; rfl
    rw [List.take_succ_eq_append_getElem hk, List.map_append, e]; rfl
  have hW : Turns W w7 (fun b => b = X) := by
    refine ⟨(t7.os.trans b6.os).trans T.os, (t7.tape.trans b6.tape).trans T.tape, (t7.output.trans b6.output).trans T.output, by have := t7.size; omega, fun b hb hn => ?_⟩
    rw [t7.block b (by omega) (fun hj => by have := (rowL_ge row b hj).1; omega), b6.block b (by omega), T.block b hb hn]
  refine ⟨B7, hW, Blk.put (o := 5) (P := [_, _, _, _, _]) B7 rfl (.slice a2 (k + 1) d2), turns_set (S := fun b => b = X) hW rfl _ _, ?_⟩
  · rw [e, cellsP_app]
    exact row_set r7 nX2 5 _
end Go.Proofs.YtaapofbccanjhaaGreat.Own
