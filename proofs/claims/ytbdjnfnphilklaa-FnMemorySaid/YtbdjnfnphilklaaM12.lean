/-
  Texts of this seat, laid together: FlatO, Inv7
-/
import Derived.Test.YtbdjnfnphilklaaM08
import Derived.Test.YtbdjnfnphilklaaM11
namespace Go.Proofs.Ytbdjnfnphilklaa.Own
open Go.ChangeShapes Go.WideShapes Go.ChangeAt Go.RowKit
open Kit Slabs Ints
set_option linter.unusedVariables false
set_option linter.unusedSimpArgs false
set_option linter.unnecessarySimpa false
set_option maxRecDepth 100000
theorem mk_at : ∀ (es : List Dt) (c N : Nat), (∀ i, i < es.length → (at_ es i).cnt = c) → ∀ i, i < es.length → at_ (mkL es N) i = (at_ es i).mk (N + i * c)
  | [], c, N, _, i, hi => by simp at hi
  | d :: r, c, N, h, i, hi => by
    cases i with
    | zero => simp [at_, mkL]
    | succ i =>
      have h0 := h 0 (by simp)
      have hd : d.cnt = c := by simpa [at_] using h0
      have hr := mk_at r c (N + d.cnt) (fun j hj => by have := h (j + 1) (by simpa using hj); simpa [at_] using this) i (by simpa using hi)
      have e1 : at_ (mkL (d :: r) N) (i + 1) = at_ (mkL r (N + d.cnt)) i := by simp [at_, mkL]
      have e2 : at_ (d :: r) (i + 1) = at_ r i := by simp [at_]
      rw [e1, e2, hr, hd]
      congr 1
      rw [Nat.succ_mul]; omega
theorem cnt_all : ∀ (es : List Dt) (c : Nat), (∀ i, i < es.length → (at_ es i).cnt = c) → cntL es = es.length * c
  | [], c, _ => by simp [cntL]
  | d :: r, c, h => by
    have hd : d.cnt = c := by have := h 0 (by simp); simpa [at_] using this
    have := cnt_all r c (fun j hj => by have := h (j + 1) (by simpa using hj); simpa [at_] using this)
    simp only [cntL, List.length_cons, this, hd, Nat.succ_mul]; omega
theorem int_at {w : World} {cs : List Value} {d : Dt} (h : Own w .int cs d []) : ∃ q, d = .int q := by
  cases h; exact ⟨_, rfl⟩
theorem ints_slab {w : World} {v : Value} {es : List Dt} {fp : List Nat} (h : Own w (.sl .int) [v] (.sl es) fp) {B : Nat} (hB : ∀ b ∈ fp, B ≤ b) :
    Slab w B v es.length 1 (ic fun i => (at_ es i).num) ∧ fp = (rowOf es.length v).toList ∧ (∀ i, i < es.length → at_ es i = .int (at_ es i).num) ∧ (∀ i, i < es.length → (at_ es i).cnt = 1) := by
  obtain ⟨h1, h2, h3⟩ := slab_of_own (e := .int) rfl h hB
  have key : ∀ i, i < es.length → at_ es i = .int (at_ es i).num := fun i hi => by
    obtain ⟨q, hq⟩ := int_at (h3 i hi)
    rw [hq]; rfl
  exact ⟨h1.same (fun i hi => by rw [key i hi]; rfl), h2, key, fun i hi => by rw [key i hi]; rfl⟩
theorem ints_own {w : World} {B : Nat} {v : Value} {es : List Dt} {X : Nat → Int} {n : Nat} (h : Slab w B v n 1 (ic X)) (hn : es.length = n) (hX : ∀ i, i < n → at_ es i = .int (X i)) : Own w (.sl .int) [v] (.sl es) (rowOf n v).toList :=
  own_of_at (e := .int) h hn (fun i hi => by rw [hX i hi]; exact .int _)
theorem turns_row {w w' : World} {n : Nat} {v : Value} {fp : List Nat} (hg : w.grownBy w' (rowOf n v)) (hf : fp = (rowOf n v).toList) : Turns w w' (fun b => b ∈ fp) := by
  refine (Turns.of_grown hg).mono (fun k hk => ?_)
  rw [hf, hk]; simp
theorem eqI_o (w : World) {v1 v2 : Value} {es : List Dt} {f1 f2 : List Nat} (hn : es.length ≤ 1048576) (h1 : Own w (.sl .int) [v1] (.sl es) f1) (h2 : Own w (.sl .int) [v2] (.sl es) f2) :
    Calls Try.prog 76 #[v1, v2] w fun e w' => e = .returned (.bool true) ∧ Below w.heap.size w w' :=
  eqI_same w 0 0 v1 v2 es.length _ (by omega) (ints_slab h1 (fun _ _ => Nat.zero_le _)).1 (ints_slab h2 (fun _ _ => Nat.zero_le _)).1
theorem markI_o (w : World) (N : Nat) {v : Value} {es : List Dt} {fp : List Nat} (hn : es.length ≤ 1048576) (hN : N ≤ 1000000000) (h : Own w (.sl .int) [v] (.sl es) fp) :
    Calls Try.prog 78 #[v, .int .i64 (N : Int)] w fun e w' => e = .returned (.int .i64 ((N + cntL es : Nat) : Int)) ∧ Own w' (.sl .int) [v] (.sl (mkL es N)) fp ∧ Turns w w' (fun b => b ∈ fp) := by
  obtain ⟨hs, hf, hk, hc⟩ := ints_slab h (B := 0) (fun _ _ => Nat.zero_le _)
  refine (markI_any w 0 N es.length v _ (by omega) (by omega) (Nat.zero_le _) hs).mono fun e w' ⟨he, hs', _, hg⟩ => ?_
  have h1 := cnt_all es 1 hc
  refine ⟨by rw [he, h1, Nat.mul_one], ?_, turns_row hg hf⟩
  rw [hf]
  exact ints_own (X := fun i => ((N + i : Nat) : Int)) hs' (mkL_length es N) (fun i hi => by rw [mk_at es 1 N hc i hi, hk i hi, Nat.mul_one]; rfl)
theorem heldI_o (w : World) (N : Nat) {v : Value} {es : List Dt} {fp fq : List Nat} {w0 : World} {v0 : Value} (hn : es.length ≤ 1048576) (hN : N ≤ 1000000000) (h0 : Own w0 (.sl .int) [v0] (.sl es) fq) (h : Own w (.sl .int) [v] (.sl (mkL es N)) fp) :
    Calls Try.prog 80 #[v, .int .i64 (N : Int)] w fun e w' => e = .returned (.int .i64 ((N + cntL es : Nat) : Int)) ∧ Below w.heap.size w w' := by
  obtain ⟨_, _, hk, hc⟩ := ints_slab h0 (B := 0) (fun _ _ => Nat.zero_le _)
  obtain ⟨hs, _, _, _⟩ := ints_slab h (B := 0) (fun _ _ => Nat.zero_le _)
  rw [mkL_length] at hs
  have hs2 : Slab w 0 v es.length 1 (marked N) := hs.same (fun i hi => by rw [ic, mk_at es 1 N hc i hi, hk i hi, Nat.mul_one]; rfl)
  refine (heldI_any w 0 N es.length v (by omega) (by omega) hs2).mono fun e w' ⟨he, hb⟩ => ⟨?_, hb⟩
  rw [he, cnt_all es 1 hc, Nat.mul_one]
/-! ### Points -/
theorem pt_at {w : World} {cs : List Value} {d : Dt} (h : Own w KPt cs d []) : ∃ x y, d = .st [.int x, .int y] := by
  cases h with
  | st h =>
    obtain ⟨x, _, _, rfl, rfl, h1⟩ := h.int
    obtain ⟨y, _, _, rfl, rfl, h2⟩ := h1.int
    obtain ⟨rfl, rfl, _⟩ := h2.end_
    exact ⟨x, y, rfl⟩
theorem pts_slab {w : World} {v : Value} {es : List Dt} {fp : List Nat} (h : Own w (.sl KPt) [v] (.sl es) fp) {B : Nat} (hB : ∀ b ∈ fp, B ≤ b) :
    Slab w B v es.length 2 (fun i => (at_ es i).cells) ∧ fp = (rowOf es.length v).toList ∧ (∀ i, i < es.length → ∃ x y, at_ es i = .st [.int x, .int y]) ∧ (∀ i, i < es.length → (at_ es i).cnt = 2) := by
  obtain ⟨h1, h2, h3⟩ := slab_of_own (e := KPt) rfl h hB
  have key : ∀ i, i < es.length → ∃ x y, at_ es i = .st [.int x, .int y] := fun i hi => pt_at (h3 i hi)
  exact ⟨h1, h2, key, fun i hi => by obtain ⟨x, y, e⟩ := key i hi; rw [e]; rfl⟩
theorem pts_own {w : World} {B : Nat} {v : Value} {es : List Dt} {F : Nat → List Value} {n : Nat} (h : Slab w B v n 2 F) (hn : es.length = n) (hF : ∀ i, i < n → ∃ x y, at_ es i = .st [.int x, .int y] ∧ F i = [.int .i64 x, .int .i64 y]) : Own w (.sl KPt) [v] (.sl es) (rowOf n v).toList :=
  own_of_at (e := KPt) h hn (fun i hi => by obtain ⟨x, y, e1, e2⟩ := hF i hi; rw [e1, e2]; exact own_pt w x y)
def ptF (es : List Dt) (i : Nat) : List Value := match at_ es i with
  | .st [.int x, .int y] => [.int .i64 x, .int .i64 y]
  | _ => [.int .i64 0, .int .i64 0]
theorem ptF_len (es : List Dt) (i : Nat) : (ptF es i).length = 2 := by unfold ptF; split <;> rfl
theorem eqP_o (w : World) {v1 v2 : Value} {es : List Dt} {f1 f2 : List Nat} (hn : es.length ≤ 1048576) (h1 : Own w (.sl KPt) [v1] (.sl es) f1) (h2 : Own w (.sl KPt) [v2] (.sl es) f2) :
    Calls Try.prog 105 #[v1, v2] w fun e w' => e = .returned (.bool true) ∧ Below w.heap.size w w' := by
  obtain ⟨s1, _, k1, _⟩ := pts_slab h1 (B := 0) (fun _ _ => Nat.zero_le _)
  obtain ⟨s2, _, _, _⟩ := pts_slab h2 (B := 0) (fun _ _ => Nat.zero_le _)
  exact Points.eqS_same w 0 0 v1 v2 es.length _ hn s1 s2 (fun i hi => by obtain ⟨x, y, e⟩ := k1 i hi; exact ⟨x, y, by rw [e]; rfl⟩)
theorem markP_o (w : World) (N : Nat) {v : Value} {es : List Dt} {fp : List Nat} (hn : es.length ≤ 1048576) (hN0 : 0 < N) (hN : N ≤ 1000000000) (h : Own w (.sl KPt) [v] (.sl es) fp) :
    Calls Try.prog 79 #[v, .int .i64 (N : Int)] w fun e w' => e = .returned (.int .i64 ((N + cntL es : Nat) : Int)) ∧ Own w' (.sl KPt) [v] (.sl (mkL es N)) fp ∧ Turns w w' (fun b => b ∈ fp) := by
  obtain ⟨hs, hf, hk, hc⟩ := pts_slab h (B := 0) (fun _ _ => Nat.zero_le _)
  have hs2 : Slab w 0 v es.length 2 (ptF es) := hs.same (fun i hi => by obtain ⟨x, y, e⟩ := hk i hi; simp only [ptF, e]; rfl)
  refine (Points.markS_any w 0 N es.length v _ (by omega) hN0 (by omega) (Nat.zero_le _) hs2 (fun i hi => by obtain ⟨x, y, e⟩ := hk i hi; exact ⟨x, y, by simp only [ptF, e]⟩) (ptF_len es)).mono fun e w' ⟨he, hs', _, hg⟩ => ?_
  refine ⟨by rw [he, cnt_all es 2 hc], ?_, turns_row hg hf⟩
  rw [hf]
  exact pts_own hs' (mkL_length es N) (fun i hi => by
    obtain ⟨x, y, e⟩ := hk i hi
    exact ⟨((N + i * 2 : Nat) : Int), ((N + i * 2 + 1 : Nat) : Int), by rw [mk_at es 2 N hc i hi, e]; rfl, rfl⟩)
theorem heldP_o (w : World) (N : Nat) {v : Value} {es : List Dt} {fp fq : List Nat} {w0 : World} {v0 : Value} (hn : es.length ≤ 1048576) (hN0 : 0 < N) (hN : N ≤ 1000000000) (h0 : Own w0 (.sl KPt) [v0] (.sl es) fq) (h : Own w (.sl KPt) [v] (.sl (mkL es N)) fp) :
    Calls Try.prog 81 #[v, .int .i64 (N : Int)] w fun e w' => e = .returned (.int .i64 ((N + cntL es : Nat) : Int)) ∧ Below w.heap.size w w' := by
  obtain ⟨_, _, hk, hc⟩ := pts_slab h0 (B := 0) (fun _ _ => Nat.zero_le _)
  obtain ⟨hs, _, _, _⟩ := pts_slab h (B := 0) (fun _ _ => Nat.zero_le _)
  rw [mkL_length] at hs
  have hs2 : Slab w 0 v es.length 2 (Points.marked N) := hs.same (fun i hi => by obtain ⟨x, y, e⟩ := hk i hi; rw [mk_at es 2 N hc i hi, e]; rfl)
  refine (Points.heldS_any w 0 N es.length v (by omega) hN0 (by omega) hs2).mono fun e w' ⟨he, hb⟩ => ⟨?_, hb⟩
  rw [he, cnt_all es 2 hc]
theorem szI_o (w : World) (a : Option Addr) (n c : Nat) (l : Int) (hn : n ≤ maxLen) (h0 : 0 ≤ l) (h1 : l ≤ 1048576) : Calls Try.prog 82 #[.slice a n c, .int .i64 l] w fun e w' => e = .returned (.int .i64 (szv l n)) ∧ w' = w := by
  unfold maxLen at hn
  by_cases h : l - (n : Int) < 0
  all_goals
    go_enter Try.func82, Try.ntmps82
    go_wp2
    go_ret
    exact ⟨ret_int (by simp only [szv]; omega), rfl⟩
theorem szP_o (w : World) (a : Option Addr) (n c : Nat) (l : Int) (hn : n ≤ maxLen) (h0 : 0 ≤ l) (h1 : l ≤ 1048576) : Calls Try.prog 107 #[.slice a n c, .int .i64 l] w fun e w' => e = .returned (.int .i64 (szv l n)) ∧ w' = w := by
  unfold maxLen at hn
  by_cases h : l - (n : Int) < 0
  all_goals
    go_enter Try.func107, Try.ntmps107
    go_wp2
    go_ret
    exact ⟨ret_int (by simp only [szv]; omega), rfl⟩
theorem bulk0_pt {w : World} {g : Nat} : ∀ {o : Nat} {ds : List Dt}, CameR w KPt g o ds → bulkL ds = 0
  | _, _, .nil => rfl
  | _, _, .cons _ h r => by
    obtain ⟨x, y, _, rfl, _⟩ := pt_is h
    simp [bulkL, Dt.bulk, bulk0_pt r]
theorem bulk0_pts {w : World} {a : Option Addr} {n c : Nat} {es : List Dt} (h : Came w (.sl KPt) [.slice a n c] (.sl es)) : bulkL es = 0 := by
  cases h with
  | nil a c => rfl
  | sl _ _ _ _ _ h => exact bulk0_pt h
theorem sz_IntS (w : World) {a : Option Addr} {c : Nat} {es : List Dt} (h : Came w (.sl .int) [.slice a es.length c] (.sl es)) (hm : es.length ≤ maxLen) (l : Int) (h0 : 0 ≤ l) (h1 : l ≤ 1048576) : Calls Try.prog 82 #[.slice a es.length c, .int .i64 l] w fun e w' => e = .returned (.int .i64 (szv l (es.length + bulkL es))) ∧ Below w.heap.size w w' := by
  rw [bulk0_ints h, Nat.add_zero]
  exact (szI_o w a _ c l hm h0 h1).mono fun e w' ⟨he, hw⟩ => ⟨he, hw ▸ Below.refl _ _⟩
theorem sz_PointS (w : World) {a : Option Addr} {c : Nat} {es : List Dt} (h : Came w (.sl KPt) [.slice a es.length c] (.sl es)) (hm : es.length ≤ maxLen) (l : Int) (h0 : 0 ≤ l) (h1 : l ≤ 1048576) : Calls Try.prog 107 #[.slice a es.length c, .int .i64 l] w fun e w' => e = .returned (.int .i64 (szv l (es.length + bulkL es))) ∧ Below w.heap.size w w' := by
  rw [bulk0_pts h, Nat.add_zero]
  exact (szP_o w a _ c l hm h0 h1).mono fun e w' ⟨he, hw⟩ => ⟨he, hw ▸ Below.refl _ _⟩
theorem mark_IntS (w : World) (N : Nat) {v : Value} {es : List Dt} {fp : List Nat} (hn : es.length + bulkL es ≤ 1048576) (h0 : 0 < N) (hN : N + cntL es ≤ 1000000000) (h : Own w (.sl .int) [v] (.sl es) fp) (hd : fp.Nodup) :
    Calls Try.prog 78 #[v, .int .i64 (N : Int)] w fun e w' => e = .returned (.int .i64 ((N + cntL es : Nat) : Int)) ∧ Own w' (.sl .int) [v] (.sl (mkL es N)) fp ∧ Turns w w' (fun b => b ∈ fp) := markI_o w N (by omega) (by omega) h
theorem held_IntS (w : World) (N : Nat) {v : Value} {es : List Dt} {fp fq : List Nat} {w0 : World} {v0 : Value} (hn : es.length + bulkL es ≤ 1048576) (h0 : 0 < N) (hN : N + cntL es ≤ 1000000000) (hs : Own w0 (.sl .int) [v0] (.sl es) fq) (h : Own w (.sl .int) [v] (.sl (mkL es N)) fp) :
    Calls Try.prog 80 #[v, .int .i64 (N : Int)] w fun e w' => e = .returned (.int .i64 ((N + cntL es : Nat) : Int)) ∧ Below w.heap.size w w' := heldI_o w N (by omega) (by omega) hs h
theorem mark_PointS (w : World) (N : Nat) {v : Value} {es : List Dt} {fp : List Nat} (hn : es.length + bulkL es ≤ 1048576) (h0 : 0 < N) (hN : N + cntL es ≤ 1000000000) (h : Own w (.sl KPt) [v] (.sl es) fp) (hd : fp.Nodup) :
    Calls Try.prog 79 #[v, .int .i64 (N : Int)] w fun e w' => e = .returned (.int .i64 ((N + cntL es : Nat) : Int)) ∧ Own w' (.sl KPt) [v] (.sl (mkL es N)) fp ∧ Turns w w' (fun b => b ∈ fp) := markP_o w N (by omega) h0 (by omega) h
theorem held_PointS (w : World) (N : Nat) {v : Value} {es : List Dt} {fp fq : List Nat} {w0 : World} {v0 : Value} (hn : es.length + bulkL es ≤ 1048576) (h0 : 0 < N) (hN : N + cntL es ≤ 1000000000) (hs : Own w0 (.sl KPt) [v0] (.sl es) fq) (h : Own w (.sl KPt) [v] (.sl (mkL es N)) fp) :
    Calls Try.prog 81 #[v, .int .i64 (N : Int)] w fun e w' => e = .returned (.int .i64 ((N + cntL es : Nat) : Int)) ∧ Below w.heap.size w w' := heldP_o w N (by omega) h0 (by omega) hs h
end Go.Proofs.Ytbdjnfnphilklaa.Own
namespace Go.Proofs.Ytbdjnfnphilklaa.Own
open Go.ChangeShapes Go.WideShapes Go.ChangeAt Go.RowKit
open Kit Slabs
set_option linter.unusedVariables false
set_option linter.unusedSimpArgs false
set_option linter.unnecessarySimpa false
abbrev LGraphics : List Kd := [.sl .int, .int, .int, .int, .int, .sl KPt, .int, .int, .int, .int, .int]
abbrev KGraphics : Kd := .st LGraphics
theorem inv_Graphics {w : World} {cs : List Value} {ds : List Dt} {fp : List Nat} (h : OwnL w LGraphics cs ds fp) : ∃ (xa0 : Option Addr) (xc0 : Nat) (xa5 : Option Addr) (xc5 : Nat) (xs0 : List Dt) (xx1_0 : Int) (xx1_1 : Int) (xx1_2 : Int) (xx1_3 : Int) (xs5 : List Dt) (xx6_0 : Int) (xx7_0 : Int) (xx7_1 : Int) (xx7_2 : Int) (xx7_3 : Int) (xF0 : List Nat) (xF5 : List Nat), cs = .slice xa0 xs0.length xc0 :: (.int .i64 xx1_0 :: (.int .i64 xx1_1 :: (.int .i64 xx1_2 :: (.int .i64 xx1_3 :: (.slice xa5 xs5.length xc5 :: (.int .i64 xx6_0 :: (.int .i64 xx7_0 :: (.int .i64 xx7_1 :: (.int .i64 xx7_2 :: (.int .i64 xx7_3 :: ([]))))))))))) ∧ ds = .sl xs0 :: (.int xx1_0 :: (.int xx1_1 :: (.int xx1_2 :: (.int xx1_3 :: (.sl xs5 :: (.int xx6_0 :: (.int xx7_0 :: (.int xx7_1 :: (.int xx7_2 :: (.int xx7_3 :: ([]))))))))))) ∧ fp = xF0 ++ (xF5 ++ ([])) ∧ Own w (.sl .int) [.slice xa0 xs0.length xc0] (.sl xs0) xF0 ∧ Own w (.sl KPt) [.slice xa5 xs5.length xc5] (.sl xs5) xF5 := by
  obtain ⟨xa0, xc0, xs0, xF0, r1, d1, q1, rfl, rfl, rfl, ox0, h1⟩ := OwnL.sl h
  obtain ⟨xx1_0, r2, d2, rfl, rfl, h2⟩ := OwnL.int h1
  obtain ⟨xx1_1, r3, d3, rfl, rfl, h3⟩ := OwnL.int h2
  obtain ⟨xx1_2, r4, d4, rfl, rfl, h4⟩ := OwnL.int h3
  obtain ⟨xx1_3, r5, d5, rfl, rfl, h5⟩ := OwnL.int h4
  obtain ⟨xa5, xc5, xs5, xF5, r6, d6, q6, rfl, rfl, rfl, ox5, h6⟩ := OwnL.sl h5
  obtain ⟨xx6_0, r7, d7, rfl, rfl, h7⟩ := OwnL.int h6
  obtain ⟨xx7_0, r8, d8, rfl, rfl, h8⟩ := OwnL.int h7
  obtain ⟨xx7_1, r9, d9, rfl, rfl, h9⟩ := OwnL.int h8
  obtain ⟨xx7_2, r10, d10, rfl, rfl, h10⟩ := OwnL.int h9
  obtain ⟨xx7_3, r11, d11, rfl, rfl, h11⟩ := OwnL.int h10
  obtain ⟨rfl, rfl, rfl⟩ := OwnL.end_ h11
  exact ⟨xa0, xc0, xa5, xc5, xs0, xx1_0, xx1_1, xx1_2, xx1_3, xs5, xx6_0, xx7_0, xx7_1, xx7_2, xx7_3, xF0, xF5, rfl, rfl, rfl, ox0, ox5⟩
theorem inv_Graphics_ {w : World} {cs : List Value} {fp : List Nat} {xs0 : List Dt} {xx1_0 : Int} {xx1_1 : Int} {xx1_2 : Int} {xx1_3 : Int} {xs5 : List Dt} {xx6_0 : Int} {xx7_0 : Int} {xx7_1 : Int} {xx7_2 : Int} {xx7_3 : Int}  (h : OwnL w LGraphics cs (.sl xs0 :: (.int xx1_0 :: (.int xx1_1 :: (.int xx1_2 :: (.int xx1_3 :: (.sl xs5 :: (.int xx6_0 :: (.int xx7_0 :: (.int xx7_1 :: (.int xx7_2 :: (.int xx7_3 :: ([])))))))))))) fp) : ∃ (ya0 : Option Addr) (yc0 : Nat) (ya5 : Option Addr) (yc5 : Nat) (yF0 : List Nat) (yF5 : List Nat), cs = .slice ya0 xs0.length yc0 :: (.int .i64 xx1_0 :: (.int .i64 xx1_1 :: (.int .i64 xx1_2 :: (.int .i64 xx1_3 :: (.slice ya5 xs5.length yc5 :: (.int .i64 xx6_0 :: (.int .i64 xx7_0 :: (.int .i64 xx7_1 :: (.int .i64 xx7_2 :: (.int .i64 xx7_3 :: ([]))))))))))) ∧ fp = yF0 ++ (yF5 ++ ([])) ∧ Own w (.sl .int) [.slice ya0 xs0.length yc0] (.sl xs0) yF0 ∧ Own w (.sl KPt) [.slice ya5 xs5.length yc5] (.sl xs5) yF5 := by
  obtain ⟨ya0, yc0, yF0, r1, q1, rfl, rfl, oy0, h1⟩ := OwnL.sl_ h
  obtain ⟨r2, rfl, h2⟩ := OwnL.int_ h1
  obtain ⟨r3, rfl, h3⟩ := OwnL.int_ h2
  obtain ⟨r4, rfl, h4⟩ := OwnL.int_ h3
  obtain ⟨r5, rfl, h5⟩ := OwnL.int_ h4
  obtain ⟨ya5, yc5, yF5, r6, q6, rfl, rfl, oy5, h6⟩ := OwnL.sl_ h5
  obtain ⟨r7, rfl, h7⟩ := OwnL.int_ h6
  obtain ⟨r8, rfl, h8⟩ := OwnL.int_ h7
  obtain ⟨r9, rfl, h9⟩ := OwnL.int_ h8
  obtain ⟨r10, rfl, h10⟩ := OwnL.int_ h9
  obtain ⟨r11, rfl, h11⟩ := OwnL.int_ h10
  obtain ⟨rfl, _, rfl⟩ := OwnL.end_ h11
  exact ⟨ya0, yc0, ya5, yc5, yF0, yF5, rfl, rfl, oy0, oy5⟩
theorem invC_Graphics {w : World} {cs : List Value} {ds : List Dt} (h : CameL w LGraphics cs ds) : ∃ (xa0 : Option Addr) (xc0 : Nat) (xa5 : Option Addr) (xc5 : Nat) (xs0 : List Dt) (xx1_0 : Int) (xx1_1 : Int) (xx1_2 : Int) (xx1_3 : Int) (xs5 : List Dt) (xx6_0 : Int) (xx7_0 : Int) (xx7_1 : Int) (xx7_2 : Int) (xx7_3 : Int), cs = .slice xa0 xs0.length xc0 :: (.int .i64 xx1_0 :: (.int .i64 xx1_1 :: (.int .i64 xx1_2 :: (.int .i64 xx1_3 :: (.slice xa5 xs5.length xc5 :: (.int .i64 xx6_0 :: (.int .i64 xx7_0 :: (.int .i64 xx7_1 :: (.int .i64 xx7_2 :: (.int .i64 xx7_3 :: ([]))))))))))) ∧ ds = .sl xs0 :: (.int xx1_0 :: (.int xx1_1 :: (.int xx1_2 :: (.int xx1_3 :: (.sl xs5 :: (.int xx6_0 :: (.int xx7_0 :: (.int xx7_1 :: (.int xx7_2 :: (.int xx7_3 :: ([]))))))))))) ∧ (Came w (.sl .int) [.slice xa0 xs0.length xc0] (.sl xs0) ∧ xs0.length ≤ maxLen) ∧ (Came w (.sl KPt) [.slice xa5 xs5.length xc5] (.sl xs5) ∧ xs5.length ≤ maxLen) := by
  obtain ⟨xa0, xc0, xs0, r1, d1, rfl, rfl, m1, ox0, h1⟩ := CameL.sl h
  obtain ⟨xx1_0, r2, d2, rfl, rfl, _, h2⟩ := CameL.int h1
  obtain ⟨xx1_1, r3, d3, rfl, rfl, _, h3⟩ := CameL.int h2
  obtain ⟨xx1_2, r4, d4, rfl, rfl, _, h4⟩ := CameL.int h3
  obtain ⟨xx1_3, r5, d5, rfl, rfl, _, h5⟩ := CameL.int h4
  obtain ⟨xa5, xc5, xs5, r6, d6, rfl, rfl, m6, ox5, h6⟩ := CameL.sl h5
  obtain ⟨xx6_0, r7, d7, rfl, rfl, _, h7⟩ := CameL.int h6
  obtain ⟨xx7_0, r8, d8, rfl, rfl, _, h8⟩ := CameL.int h7
  obtain ⟨xx7_1, r9, d9, rfl, rfl, _, h9⟩ := CameL.int h8
  obtain ⟨xx7_2, r10, d10, rfl, rfl, _, h10⟩ := CameL.int h9
  obtain ⟨xx7_3, r11, d11, rfl, rfl, _, h11⟩ := CameL.int h10
  obtain ⟨rfl, rfl⟩ := CameL.end_ h11
  exact ⟨xa0, xc0, xa5, xc5, xs0, xx1_0, xx1_1, xx1_2, xx1_3, xs5, xx6_0, xx7_0, xx7_1, xx7_2, xx7_3, rfl, rfl, ⟨ox0, m1⟩, ⟨ox5, m6⟩⟩
abbrev LObject : List Kd := [.sl KPt, .int, .int, .int, .int, .int]
abbrev KObject : Kd := .st LObject
theorem inv_Object {w : World} {cs : List Value} {ds : List Dt} {fp : List Nat} (h : OwnL w LObject cs ds fp) : ∃ (xa0 : Option Addr) (xc0 : Nat) (xs0 : List Dt) (xx1_0 : Int) (xx2_0 : Int) (xx2_1 : Int) (xx2_2 : Int) (xx2_3 : Int) (xF0 : List Nat), cs = .slice xa0 xs0.length xc0 :: (.int .i64 xx1_0 :: (.int .i64 xx2_0 :: (.int .i64 xx2_1 :: (.int .i64 xx2_2 :: (.int .i64 xx2_3 :: ([])))))) ∧ ds = .sl xs0 :: (.int xx1_0 :: (.int xx2_0 :: (.int xx2_1 :: (.int xx2_2 :: (.int xx2_3 :: ([])))))) ∧ fp = xF0 ++ ([]) ∧ Own w (.sl KPt) [.slice xa0 xs0.length xc0] (.sl xs0) xF0 := by
  obtain ⟨xa0, xc0, xs0, xF0, r1, d1, q1, rfl, rfl, rfl, ox0, h1⟩ := OwnL.sl h
  obtain ⟨xx1_0, r2, d2, rfl, rfl, h2⟩ := OwnL.int h1
  obtain ⟨xx2_0, r3, d3, rfl, rfl, h3⟩ := OwnL.int h2
  obtain ⟨xx2_1, r4, d4, rfl, rfl, h4⟩ := OwnL.int h3
  obtain ⟨xx2_2, r5, d5, rfl, rfl, h5⟩ := OwnL.int h4
  obtain ⟨xx2_3, r6, d6, rfl, rfl, h6⟩ := OwnL.int h5
  obtain ⟨rfl, rfl, rfl⟩ := OwnL.end_ h6
  exact ⟨xa0, xc0, xs0, xx1_0, xx2_0, xx2_1, xx2_2, xx2_3, xF0, rfl, rfl, rfl, ox0⟩
theorem inv_Object_ {w : World} {cs : List Value} {fp : List Nat} {xs0 : List Dt} {xx1_0 : Int} {xx2_0 : Int} {xx2_1 : Int} {xx2_2 : Int} {xx2_3 : Int}  (h : OwnL w LObject cs (.sl xs0 :: (.int xx1_0 :: (.int xx2_0 :: (.int xx2_1 :: (.int xx2_2 :: (.int xx2_3 :: ([]))))))) fp) : ∃ (ya0 : Option Addr) (yc0 : Nat) (yF0 : List Nat), cs = .slice ya0 xs0.length yc0 :: (.int .i64 xx1_0 :: (.int .i64 xx2_0 :: (.int .i64 xx2_1 :: (.int .i64 xx2_2 :: (.int .i64 xx2_3 :: ([])))))) ∧ fp = yF0 ++ ([]) ∧ Own w (.sl KPt) [.slice ya0 xs0.length yc0] (.sl xs0) yF0 := by
  obtain ⟨ya0, yc0, yF0, r1, q1, rfl, rfl, oy0, h1⟩ := OwnL.sl_ h
  obtain ⟨r2, rfl, h2⟩ := OwnL.int_ h1
  obtain ⟨r3, rfl, h3⟩ := OwnL.int_ h2
  obtain ⟨r4, rfl, h4⟩ := OwnL.int_ h3
  obtain ⟨r5, rfl, h5⟩ := OwnL.int_ h4
  obtain ⟨r6, rfl, h6⟩ := OwnL.int_ h5
  obtain ⟨rfl, _, rfl⟩ := OwnL.end_ h6
  exact ⟨ya0, yc0, yF0, rfl, rfl, oy0⟩
theorem invC_Object {w : World} {cs : List Value} {ds : List Dt} (h : CameL w LObject cs ds) : ∃ (xa0 : Option Addr) (xc0 : Nat) (xs0 : List Dt) (xx1_0 : Int) (xx2_0 : Int) (xx2_1 : Int) (xx2_2 : Int) (xx2_3 : Int), cs = .slice xa0 xs0.length xc0 :: (.int .i64 xx1_0 :: (.int .i64 xx2_0 :: (.int .i64 xx2_1 :: (.int .i64 xx2_2 :: (.int .i64 xx2_3 :: ([])))))) ∧ ds = .sl xs0 :: (.int xx1_0 :: (.int xx2_0 :: (.int xx2_1 :: (.int xx2_2 :: (.int xx2_3 :: ([])))))) ∧ (Came w (.sl KPt) [.slice xa0 xs0.length xc0] (.sl xs0) ∧ xs0.length ≤ maxLen) := by
  obtain ⟨xa0, xc0, xs0, r1, d1, rfl, rfl, m1, ox0, h1⟩ := CameL.sl h
  obtain ⟨xx1_0, r2, d2, rfl, rfl, _, h2⟩ := CameL.int h1
  obtain ⟨xx2_0, r3, d3, rfl, rfl, _, h3⟩ := CameL.int h2
  obtain ⟨xx2_1, r4, d4, rfl, rfl, _, h4⟩ := CameL.int h3
  obtain ⟨xx2_2, r5, d5, rfl, rfl, _, h5⟩ := CameL.int h4
  obtain ⟨xx2_3, r6, d6, rfl, rfl, _, h6⟩ := CameL.int h5
  obtain ⟨rfl, rfl⟩ := CameL.end_ h6
  exact ⟨xa0, xc0, xs0, xx1_0, xx2_0, xx2_1, xx2_2, xx2_3, rfl, rfl, ⟨ox0, m1⟩⟩
abbrev LPage : List Kd := LGraphics ++ ([.sl KGraphics, .sl KObject])
abbrev KPage : Kd := .st LPage
theorem inv_Page {w : World} {cs : List Value} {ds : List Dt} {fp : List Nat} (h : OwnL w LPage cs ds fp) : ∃ (xG0 : List Value) (xa11 : Option Addr) (xc11 : Nat) (xa12 : Option Addr) (xc12 : Nat) (xD0 : List Dt) (xs11 : List Dt) (xs12 : List Dt) (xF0 : List Nat) (xF11 : List Nat) (xF12 : List Nat), cs = xG0 ++ (.slice xa11 xs11.length xc11 :: (.slice xa12 xs12.length xc12 :: ([]))) ∧ ds = xD0 ++ (.sl xs11 :: (.sl xs12 :: ([]))) ∧ fp = xF0 ++ (xF11 ++ (xF12 ++ ([]))) ∧ OwnL w LGraphics xG0 xD0 xF0 ∧ Own w (.sl KGraphics) [.slice xa11 xs11.length xc11] (.sl xs11) xF11 ∧ Own w (.sl KObject) [.slice xa12 xs12.length xc12] (.sl xs12) xF12 := by
  obtain ⟨xG0, r1, xD0, d1, xF0, q1, rfl, rfl, rfl, ox0, h1⟩ := OwnL.split LGraphics h
  obtain ⟨xa11, xc11, xs11, xF11, r2, d2, q2, rfl, rfl, rfl, ox11, h2⟩ := OwnL.sl h1
  obtain ⟨xa12, xc12, xs12, xF12, r3, d3, q3, rfl, rfl, rfl, ox12, h3⟩ := OwnL.sl h2
  obtain ⟨rfl, rfl, rfl⟩ := OwnL.end_ h3
  exact ⟨xG0, xa11, xc11, xa12, xc12, xD0, xs11, xs12, xF0, xF11, xF12, rfl, rfl, rfl, ox0, ox11, ox12⟩
theorem inv_Page_ {w : World} {cs : List Value} {fp : List Nat} {xD0 : List Dt} {xs11 : List Dt} {xs12 : List Dt} (lxD0 : xD0.length = LGraphics.length) (h : OwnL w LPage cs (xD0 ++ (.sl xs11 :: (.sl xs12 :: ([])))) fp) : ∃ (yG0 : List Value) (ya11 : Option Addr) (yc11 : Nat) (ya12 : Option Addr) (yc12 : Nat) (yF0 : List Nat) (yF11 : List Nat) (yF12 : List Nat), cs = yG0 ++ (.slice ya11 xs11.length yc11 :: (.slice ya12 xs12.length yc12 :: ([]))) ∧ fp = yF0 ++ (yF11 ++ (yF12 ++ ([]))) ∧ OwnL w LGraphics yG0 xD0 yF0 ∧ Own w (.sl KGraphics) [.slice ya11 xs11.length yc11] (.sl xs11) yF11 ∧ Own w (.sl KObject) [.slice ya12 xs12.length yc12] (.sl xs12) yF12 := by
  obtain ⟨yG0, r1, yF0, q1, rfl, rfl, oy0, h1⟩ := OwnL.split_at (ks1 := LGraphics) h lxD0
  obtain ⟨ya11, yc11, yF11, r2, q2, rfl, rfl, oy11, h2⟩ := OwnL.sl_ h1
  obtain ⟨ya12, yc12, yF12, r3, q3, rfl, rfl, oy12, h3⟩ := OwnL.sl_ h2
  obtain ⟨rfl, _, rfl⟩ := OwnL.end_ h3
  exact ⟨yG0, ya11, yc11, ya12, yc12, yF0, yF11, yF12, rfl, rfl, oy0, oy11, oy12⟩
theorem invC_Page {w : World} {cs : List Value} {ds : List Dt} (h : CameL w LPage cs ds) : ∃ (xG0 : List Value) (xa11 : Option Addr) (xc11 : Nat) (xa12 : Option Addr) (xc12 : Nat) (xD0 : List Dt) (xs11 : List Dt) (xs12 : List Dt), cs = xG0 ++ (.slice xa11 xs11.length xc11 :: (.slice xa12 xs12.length xc12 :: ([]))) ∧ ds = xD0 ++ (.sl xs11 :: (.sl xs12 :: ([]))) ∧ (CameL w LGraphics xG0 xD0) ∧ (Came w (.sl KGraphics) [.slice xa11 xs11.length xc11] (.sl xs11) ∧ xs11.length ≤ maxLen) ∧ (Came w (.sl KObject) [.slice xa12 xs12.length xc12] (.sl xs12) ∧ xs12.length ≤ maxLen) := by
  obtain ⟨xG0, r1, xD0, d1, rfl, rfl, ox0, h1⟩ := CameL.split LGraphics h
  obtain ⟨xa11, xc11, xs11, r2, d2, rfl, rfl, m2, ox11, h2⟩ := CameL.sl h1
  obtain ⟨xa12, xc12, xs12, r3, d3, rfl, rfl, m3, ox12, h3⟩ := CameL.sl h2
  obtain ⟨rfl, rfl⟩ := CameL.end_ h3
  exact ⟨xG0, xa11, xc11, xa12, xc12, xD0, xs11, xs12, rfl, rfl, ox0, ⟨ox11, m2⟩, ⟨ox12, m3⟩⟩
theorem hload_Object (a : Addr) : loadVar 40 a = hload 40 a := hload_of _ _
theorem hloadL_Object (a : Addr) : loadVar 105 a = hload 105 a := hload_of _ _
theorem hstore_Object (a : Addr) (v : Value) : storeVar 40 a v = hstore 40 a v := hstore_of _ _ _
end Go.Proofs.Ytbdjnfnphilklaa.Own
