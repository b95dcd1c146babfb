/-
  The laws' helpers (eq, sz, mark, held) over slices of ints and of points, told of owned values.
-/
import Derived.Test.YtejnfdpckipbeaaNest
import Derived.Test.YtejnfdpckipbeaaOwnTo
namespace Go.Proofs.Ytejnfdpckipbeaa.Own
open Go.ChangeShapes Go.WideShapes Go.ChangeAt Go.RowKit
open Kit Slabs Ints
set_option linter.unusedVariables false
set_option linter.unusedSimpArgs false
set_option linter.unnecessarySimpa false
set_option maxRecDepth 100000

theorem mk_at : ∀ (es : List Dt) (c N : Nat), (∀ i, i < es.length → (at_ es i).cnt = c) → ∀ i, i < es.length → at_ (mkL es N) i = (at_ es i).mk (N + i * c)
  | [], c, N, _, i, hi => by simp at hi
  | d :: r, c, N, h, i, hi => by
    cases i with
    | zero => simp [at_, mkL]
    | succ i =>
      have h0 := h 0 (by simp)
      have hd : d.cnt = c := by simpa [at_] using h0
      have hr := mk_at r c (N + d.cnt) (fun j hj => by have := h (j + 1) (by simpa using hj); simpa [at_] using this) i (by simpa using hi)
      have e1 : at_ (mkL (d :: r) N) (i + 1) = at_ (mkL r (N + d.cnt)) i := by simp [at_, mkL]
      have e2 : at_ (d :: r) (i + 1) = at_ r i := by simp [at_]
      rw [e1, e2, hr, hd]
      congr 1
      rw [Nat.succ_mul]; omega

theorem cnt_all : ∀ (es : List Dt) (c : Nat), (∀ i, i < es.length → (at_ es i).cnt = c) → cntL es = es.length * c
  | [], c, _ => by simp [cntL]
  | d :: r, c, h => by
    have hd : d.cnt = c := by have := h 0 (by simp); simpa [at_] using this
    have := cnt_all r c (fun j hj => by have := h (j + 1) (by simpa using hj); simpa [at_] using this)
    simp only [cntL, List.length_cons, this, hd, Nat.succ_mul]; omega

theorem int_at {w : World} {cs : List Value} {d : Dt} (h : Own w .int cs d []) : ∃ q, d = .int q := by
  cases h; exact ⟨_, rfl⟩

/-- Slices of ints as slabs. -/
theorem ints_slab {w : World} {v : Value} {es : List Dt} {fp : List Nat} (h : Own w (.sl .int) [v] (.sl es) fp) {B : Nat} (hB : ∀ b ∈ fp, B ≤ b) :
    Slab w B v es.length 1 (ic fun i => (at_ es i).num) ∧ fp = (rowOf es.length v).toList ∧ (∀ i, i < es.length → at_ es i = .int (at_ es i).num) ∧ (∀ i, i < es.length → (at_ es i).cnt = 1) := by
  obtain ⟨h1, h2, h3⟩ := slab_of_own (e := .int) rfl h hB
  have key : ∀ i, i < es.length → at_ es i = .int (at_ es i).num := fun i hi => by
    obtain ⟨q, hq⟩ := int_at (h3 i hi)
    rw [hq]; rfl
  exact ⟨h1.same (fun i hi => by rw [key i hi]; rfl), h2, key, fun i hi => by rw [key i hi]; rfl⟩

theorem ints_own {w : World} {B : Nat} {v : Value} {es : List Dt} {X : Nat → Int} {n : Nat} (h : Slab w B v n 1 (ic X)) (hn : es.length = n) (hX : ∀ i, i < n → at_ es i = .int (X i)) : Own w (.sl .int) [v] (.sl es) (rowOf n v).toList :=
  own_of_at (e := .int) h hn (fun i hi => by rw [hX i hi]; exact .int _)

theorem turns_row {w w' : World} {n : Nat} {v : Value} {fp : List Nat} (hg : w.grownBy w' (rowOf n v)) (hf : fp = (rowOf n v).toList) : Turns w w' (fun b => b ∈ fp) := by
  refine (Turns.of_grown hg).mono (fun k hk => ?_)
  rw [hf, hk]; simp

theorem eqI_o (w : World) {v1 v2 : Value} {es : List Dt} {f1 f2 : List Nat} (hn : es.length ≤ 1048576) (h1 : Own w (.sl .int) [v1] (.sl es) f1) (h2 : Own w (.sl .int) [v2] (.sl es) f2) :
    Calls Try.prog 109 #[v1, v2] w fun e w' => e = .returned (.bool true) ∧ Below w.heap.size w w' :=
  eqI_same w 0 0 v1 v2 es.length _ (by omega) (ints_slab h1 (fun _ _ => Nat.zero_le _)).1 (ints_slab h2 (fun _ _ => Nat.zero_le _)).1

theorem markI_o (w : World) (N : Nat) {v : Value} {es : List Dt} {fp : List Nat} (hn : es.length ≤ 1048576) (hN : N ≤ 1000000000) (h : Own w (.sl .int) [v] (.sl es) fp) :
    Calls Try.prog 111 #[v, .int .i64 (N : Int)] w fun e w' => e = .returned (.int .i64 ((N + cntL es : Nat) : Int)) ∧ Own w' (.sl .int) [v] (.sl (mkL es N)) fp ∧ Turns w w' (fun b => b ∈ fp) := by
  obtain ⟨hs, hf, hk, hc⟩ := ints_slab h (B := 0) (fun _ _ => Nat.zero_le _)
  refine (markI_any w 0 N es.length v _ (by omega) (by omega) (Nat.zero_le _) hs).mono fun e w' ⟨he, hs', _, hg⟩ => ?_
  have h1 := cnt_all es 1 hc
  refine ⟨by rw [he, h1, Nat.mul_one], ?_, turns_row hg hf⟩
  rw [hf]
  exact ints_own (X := fun i => ((N + i : Nat) : Int)) hs' (mkL_length es N) (fun i hi => by rw [mk_at es 1 N hc i hi, hk i hi, Nat.mul_one]; rfl)

theorem heldI_o (w : World) (N : Nat) {v : Value} {es : List Dt} {fp fq : List Nat} {w0 : World} {v0 : Value} (hn : es.length ≤ 1048576) (hN : N ≤ 1000000000) (h0 : Own w0 (.sl .int) [v0] (.sl es) fq) (h : Own w (.sl .int) [v] (.sl (mkL es N)) fp) :
    Calls Try.prog 112 #[v, .int .i64 (N : Int)] w fun e w' => e = .returned (.int .i64 ((N + cntL es : Nat) : Int)) ∧ Below w.heap.size w w' := by
  obtain ⟨_, _, hk, hc⟩ := ints_slab h0 (B := 0) (fun _ _ => Nat.zero_le _)
  obtain ⟨hs, _, _, _⟩ := ints_slab h (B := 0) (fun _ _ => Nat.zero_le _)
  rw [mkL_length] at hs
  have hs2 : Slab w 0 v es.length 1 (marked N) := hs.same (fun i hi => by rw [ic, mk_at es 1 N hc i hi, hk i hi, Nat.mul_one]; rfl)
  refine (heldI_any w 0 N es.length v (by omega) (by omega) hs2).mono fun e w' ⟨he, hb⟩ => ⟨?_, hb⟩
  rw [he, cnt_all es 1 hc, Nat.mul_one]

/-! ### Points -/
theorem pt_at {w : World} {cs : List Value} {d : Dt} (h : Own w KPt cs d []) : ∃ x y, d = .st [.int x, .int y] := by
  cases h with
  | st h =>
    obtain ⟨x, _, _, rfl, rfl, h1⟩ := h.int
    obtain ⟨y, _, _, rfl, rfl, h2⟩ := h1.int
    obtain ⟨rfl, rfl, _⟩ := h2.end_
    exact ⟨x, y, rfl⟩

theorem pts_slab {w : World} {v : Value} {es : List Dt} {fp : List Nat} (h : Own w (.sl KPt) [v] (.sl es) fp) {B : Nat} (hB : ∀ b ∈ fp, B ≤ b) :
    Slab w B v es.length 2 (fun i => (at_ es i).cells) ∧ fp = (rowOf es.length v).toList ∧ (∀ i, i < es.length → ∃ x y, at_ es i = .st [.int x, .int y]) ∧ (∀ i, i < es.length → (at_ es i).cnt = 2) := by
  obtain ⟨h1, h2, h3⟩ := slab_of_own (e := KPt) rfl h hB
  have key : ∀ i, i < es.length → ∃ x y, at_ es i = .st [.int x, .int y] := fun i hi => pt_at (h3 i hi)
  exact ⟨h1, h2, key, fun i hi => by obtain ⟨x, y, e⟩ := key i hi; rw [e]; rfl⟩

theorem pts_own {w : World} {B : Nat} {v : Value} {es : List Dt} {F : Nat → List Value} {n : Nat} (h : Slab w B v n 2 F) (hn : es.length = n) (hF : ∀ i, i < n → ∃ x y, at_ es i = .st [.int x, .int y] ∧ F i = [.int .i64 x, .int .i64 y]) : Own w (.sl KPt) [v] (.sl es) (rowOf n v).toList :=
  own_of_at (e := KPt) h hn (fun i hi => by obtain ⟨x, y, e1, e2⟩ := hF i hi; rw [e1, e2]; exact own_pt w x y)

/-- The cells of a point, whatever stands beyond the list's end. -/
def ptF (es : List Dt) (i : Nat) : List Value := match at_ es i with
  | .st [.int x, .int y] => [.int .i64 x, .int .i64 y]
  | _ => [.int .i64 0, .int .i64 0]
theorem ptF_len (es : List Dt) (i : Nat) : (ptF es i).length = 2 := by unfold ptF; split <;> rfl

theorem eqP_o (w : World) {v1 v2 : Value} {es : List Dt} {f1 f2 : List Nat} (hn : es.length ≤ 1048576) (h1 : Own w (.sl KPt) [v1] (.sl es) f1) (h2 : Own w (.sl KPt) [v2] (.sl es) f2) :
    Calls Try.prog 80 #[v1, v2] w fun e w' => e = .returned (.bool true) ∧ Below w.heap.size w w' := by
  obtain ⟨s1, _, k1, _⟩ := pts_slab h1 (B := 0) (fun _ _ => Nat.zero_le _)
  obtain ⟨s2, _, _, _⟩ := pts_slab h2 (B := 0) (fun _ _ => Nat.zero_le _)
  exact Points.eqS_same w 0 0 v1 v2 es.length _ hn s1 s2 (fun i hi => by obtain ⟨x, y, e⟩ := k1 i hi; exact ⟨x, y, by rw [e]; rfl⟩)

theorem markP_o (w : World) (N : Nat) {v : Value} {es : List Dt} {fp : List Nat} (hn : es.length ≤ 1048576) (hN0 : 0 < N) (hN : N ≤ 1000000000) (h : Own w (.sl KPt) [v] (.sl es) fp) :
    Calls Try.prog 87 #[v, .int .i64 (N : Int)] w fun e w' => e = .returned (.int .i64 ((N + cntL es : Nat) : Int)) ∧ Own w' (.sl KPt) [v] (.sl (mkL es N)) fp ∧ Turns w w' (fun b => b ∈ fp) := by
  obtain ⟨hs, hf, hk, hc⟩ := pts_slab h (B := 0) (fun _ _ => Nat.zero_le _)
  have hs2 : Slab w 0 v es.length 2 (ptF es) := hs.same (fun i hi => by obtain ⟨x, y, e⟩ := hk i hi; simp only [ptF, e]; rfl)
  refine (Points.markS_any w 0 N es.length v _ (by omega) hN0 (by omega) (Nat.zero_le _) hs2 (fun i hi => by obtain ⟨x, y, e⟩ := hk i hi; exact ⟨x, y, by simp only [ptF, e]⟩) (ptF_len es)).mono fun e w' ⟨he, hs', _, hg⟩ => ?_
  refine ⟨by rw [he, cnt_all es 2 hc], ?_, turns_row hg hf⟩
  rw [hf]
  exact pts_own hs' (mkL_length es N) (fun i hi => by
    obtain ⟨x, y, e⟩ := hk i hi
    exact ⟨((N + i * 2 : Nat) : Int), ((N + i * 2 + 1 : Nat) : Int), by rw [mk_at es 2 N hc i hi, e]; rfl, rfl⟩)

theorem heldP_o (w : World) (N : Nat) {v : Value} {es : List Dt} {fp fq : List Nat} {w0 : World} {v0 : Value} (hn : es.length ≤ 1048576) (hN0 : 0 < N) (hN : N ≤ 1000000000) (h0 : Own w0 (.sl KPt) [v0] (.sl es) fq) (h : Own w (.sl KPt) [v] (.sl (mkL es N)) fp) :
    Calls Try.prog 92 #[v, .int .i64 (N : Int)] w fun e w' => e = .returned (.int .i64 ((N + cntL es : Nat) : Int)) ∧ Below w.heap.size w w' := by
  obtain ⟨_, _, hk, hc⟩ := pts_slab h0 (B := 0) (fun _ _ => Nat.zero_le _)
  obtain ⟨hs, _, _, _⟩ := pts_slab h (B := 0) (fun _ _ => Nat.zero_le _)
  rw [mkL_length] at hs
  have hs2 : Slab w 0 v es.length 2 (Points.marked N) := hs.same (fun i hi => by obtain ⟨x, y, e⟩ := hk i hi; rw [mk_at es 2 N hc i hi, e]; rfl)
  refine (Points.heldS_any w 0 N es.length v (by omega) hN0 (by omega) hs2).mono fun e w' ⟨he, hb⟩ => ⟨?_, hb⟩
  rw [he, cnt_all es 2 hc]

theorem szP_o (w : World) (a : Option Addr) (n c : Nat) (l : Int) (hn : n ≤ maxLen) (h0 : 0 ≤ l) (h1 : l ≤ 1048576) : Calls Try.prog 76 #[.slice a n c, .int .i64 l] w fun e w' => e = .returned (.int .i64 (szv l n)) ∧ w' = w := by
  unfold maxLen at hn
  by_cases h : l - (n : Int) < 0
  all_goals
    go_enter Try.func76, Try.ntmps76
    go_wp2
    go_ret
    exact ⟨ret_int (by simp only [szv]; omega), rfl⟩

theorem bulk0_pt {w : World} {g : Nat} : ∀ {o : Nat} {ds : List Dt}, CameR w KPt g o ds → bulkL ds = 0
  | _, _, .nil => rfl
  | _, _, .cons _ h r => by
    obtain ⟨x, y, _, rfl, _⟩ := pt_is h
    simp [bulkL, Dt.bulk, bulk0_pt r]
theorem bulk0_pts {w : World} {a : Option Addr} {n c : Nat} {es : List Dt} (h : Came w (.sl KPt) [.slice a n c] (.sl es)) : bulkL es = 0 := by
  cases h with
  | nil a c => rfl
  | sl _ _ _ _ _ h => exact bulk0_pt h
theorem sz_PointS (w : World) {a : Option Addr} {c : Nat} {es : List Dt} (h : Came w (.sl KPt) [.slice a es.length c] (.sl es)) (hm : es.length ≤ maxLen) (l : Int) (h0 : 0 ≤ l) (h1 : l ≤ 1048576) : Calls Try.prog 76 #[.slice a es.length c, .int .i64 l] w fun e w' => e = .returned (.int .i64 (szv l (es.length + bulkL es))) ∧ Below w.heap.size w w' := by
  rw [bulk0_pts h, Nat.add_zero]
  exact (szP_o w a _ c l hm h0 h1).mono fun e w' ⟨he, hw⟩ => ⟨he, hw ▸ Below.refl _ _⟩

theorem mark_IntS (w : World) (N : Nat) {v : Value} {es : List Dt} {fp : List Nat} (hn : es.length + bulkL es ≤ 1048576) (h0 : 0 < N) (hN : N + cntL es ≤ 1000000000) (h : Own w (.sl .int) [v] (.sl es) fp) (hd : fp.Nodup) :
    Calls Try.prog 111 #[v, .int .i64 (N : Int)] w fun e w' => e = .returned (.int .i64 ((N + cntL es : Nat) : Int)) ∧ Own w' (.sl .int) [v] (.sl (mkL es N)) fp ∧ Turns w w' (fun b => b ∈ fp) := markI_o w N (by omega) (by omega) h
theorem held_IntS (w : World) (N : Nat) {v : Value} {es : List Dt} {fp fq : List Nat} {w0 : World} {v0 : Value} (hn : es.length + bulkL es ≤ 1048576) (h0 : 0 < N) (hN : N + cntL es ≤ 1000000000) (hs : Own w0 (.sl .int) [v0] (.sl es) fq) (h : Own w (.sl .int) [v] (.sl (mkL es N)) fp) :
    Calls Try.prog 112 #[v, .int .i64 (N : Int)] w fun e w' => e = .returned (.int .i64 ((N + cntL es : Nat) : Int)) ∧ Below w.heap.size w w' := heldI_o w N (by omega) (by omega) hs h
theorem mark_PointS (w : World) (N : Nat) {v : Value} {es : List Dt} {fp : List Nat} (hn : es.length + bulkL es ≤ 1048576) (h0 : 0 < N) (hN : N + cntL es ≤ 1000000000) (h : Own w (.sl KPt) [v] (.sl es) fp) (hd : fp.Nodup) :
    Calls Try.prog 87 #[v, .int .i64 (N : Int)] w fun e w' => e = .returned (.int .i64 ((N + cntL es : Nat) : Int)) ∧ Own w' (.sl KPt) [v] (.sl (mkL es N)) fp ∧ Turns w w' (fun b => b ∈ fp) := markP_o w N (by omega) h0 (by omega) h
theorem held_PointS (w : World) (N : Nat) {v : Value} {es : List Dt} {fp fq : List Nat} {w0 : World} {v0 : Value} (hn : es.length + bulkL es ≤ 1048576) (h0 : 0 < N) (hN : N + cntL es ≤ 1000000000) (hs : Own w0 (.sl KPt) [v0] (.sl es) fq) (h : Own w (.sl KPt) [v] (.sl (mkL es N)) fp) :
    Calls Try.prog 92 #[v, .int .i64 (N : Int)] w fun e w' => e = .returned (.int .i64 ((N + cntL es : Nat) : Int)) ∧ Below w.heap.size w w' := heldP_o w N (by omega) h0 (by omega) hs h

end Go.Proofs.Ytejnfdpckipbeaa.Own
