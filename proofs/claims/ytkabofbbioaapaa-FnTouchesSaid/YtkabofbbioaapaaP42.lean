/-
  Texts of this seat, laid together: Lw12, Dh12
-/
import Derived.Test.YtkabofbbioaapaaP39
import Derived.Test.YtkabofbbioaapaaP40
import Derived.Test.YtkabofbbioaapaaP41
import Derived.Test.YtkabofbbioaapaaP44
namespace Go.Proofs.Ytkabofbbioaapaa.Own
open Go.ChangeShapes Go.WideShapes Go.ChangeAt Go.RowKit
open Kit Slabs Ints
set_option linter.unusedVariables false
set_option linter.unusedSimpArgs false
set_option linter.unnecessarySimpa false
theorem spec_TouchesBand (w : World) {A : Array Value} {ds : List Dt} {fp : List Nat} (hb : bulkL ds ≤ 1048576) (h : OwnL w LObject A.toList ds fp) (ht bd : Int) :
    Calls Try.prog 21 #[.agg A, .int .i64 ht, .int .i64 bd] w fun e w' => e = .returned (.bool (tbO ht bd (obOf ds))) ∧ Below w.heap.size w w' := by
  have e := ob_dt h
  rw [e] at hb h
  obtain ⟨a, c, rfl, hp⟩ := Ins.obj_open h
  exact touch_spec w a c _ _ _ _ _ _ ht bd (Ins.obj_len hb) hp
theorem impl_TouchesBand (w : World) {A : Array Value} {ds : List Dt} {fp : List Nat} (hb : bulkL ds ≤ 1048576) (h : OwnL w LObject A.toList ds fp) (ht bd : Int) :
    Calls Try.prog 14 #[.agg A, .int .i64 ht, .int .i64 bd] w fun e w' => e = .returned (.bool (tbO ht bd (obOf ds))) ∧ Below w.heap.size w w' := by
  have e := ob_dt h
  rw [e] at hb h
  obtain ⟨a, c, rfl, hp⟩ := Ins.obj_open h
  exact touch_impl w a c _ _ _ _ _ _ ht bd (Ins.obj_len hb) hp
theorem filter_bulk (p : Dt → Bool) : ∀ es : List Dt, (es.filter p).length + bulkL (es.filter p) ≤ es.length + bulkL es
  | [] => Nat.le_refl _
  | d :: es => by
    have ih := filter_bulk p es
    rw [List.filter_cons]
    split
    · simp only [List.length_cons, bulkL]; omega
    · simp only [List.length_cons, bulkL]; omega
theorem ofB_le {ht bd : Int} {es : List Dt} (hb : es.length + bulkL es ≤ 1048576) : (ofB ht bd es).length + bulkL (ofB ht bd es) ≤ 1048576 := by
  have := filter_bulk (tbD ht bd) es
  unfold ofB; omega
theorem spec_ObjectsOfBand_ (w : World) {a : Option Addr} {c : Nat} {es : List Dt} {fp : List Nat} (hb : es.length + bulkL es ≤ 1048576) (h : Own w (.sl KObject) [.slice a es.length c] (.sl es) fp) (ht bd : Int) {T : List Dt} (hT : ofB ht bd es = T) :
    Calls Try.prog 25 #[.slice a es.length c, .int .i64 ht, .int .i64 bd] w (NewOs T w) := by
  rw [← hT]; exact objsof_spec w a c es fp ht bd hb h
theorem impl_ObjectsOfBand_ (w : World) {a : Option Addr} {c : Nat} {es : List Dt} {fp : List Nat} (hb : es.length + bulkL es ≤ 1048576) (h : Own w (.sl KObject) [.slice a es.length c] (.sl es) fp) (ht bd : Int) {T : List Dt} (hT : ofB ht bd es = T) :
    Calls Try.prog 17 #[.slice a es.length c, .int .i64 ht, .int .i64 bd] w (NewOs T w) := by
  rw [← hT]; exact objsof_impl w a c es fp ht bd hb h
theorem rbR_le (ht bd : Int) (l : List Ob) : (rbR ht bd l).length + tot (rbR ht bd l) ≤ 1048576 := by
  unfold rbR
  split
  · rename_i hb
    obtain ⟨b0, b1, b2, b3, b4, b5⟩ := bn_rows hb
    obtain ⟨h1, h2⟩ := foldF (bd * ht) l (whR_len ht) (whR_32 ht)
    rw [tot_32 h2, h1]; omega
  · simp [tot]
theorem impl_RenderBand_ (w : World) {a : Option Addr} {c : Nat} {es : List Dt} {fp : List Nat} (hb : es.length + bulkL es ≤ 1048576) (h : Own w (.sl KObject) [.slice a es.length c] (.sl es) fp) (ht bd : Int) {T : List (List Int)} {B : Bool} (hT : rbR ht bd (obsOf es) = T ∧ true = B) :
    Calls Try.prog 13 #[.slice a es.length c, .int .i64 ht, .int .i64 bd] w (SsNew T w) := by
  have h1 := render_impl w a c (obsOf es) ht bd (by simp [obsOf]; omega) (obl_of hb h)
  rw [hT.1, show (obsOf es).length = es.length by simp [obsOf]] at h1
  exact h1
end Go.Proofs.Ytkabofbbioaapaa.Own
namespace Go.Proofs.Ytkabofbbioaapaa.Own
open Go.ChangeShapes Go.WideShapes Go.ChangeAt Go.RowKit
open Kit Slabs Ints Draw
open Go.Proofs.Ytkabofbbioaapaa.Ins (Pt obx obK orow)
set_option linter.unusedVariables false
set_option linter.unusedSimpArgs false
set_option linter.unnecessarySimpa false
set_option maxRecDepth 100000
theorem sevenH (w : World) (T : TypeId) : ∀ k, k < 7 → ∃ q : Int, hgB q = true ∧ (w.alloc (.cells #[.int .i64 1, .int .i64 2, .int .i64 4, .int .i64 8, .int .i64 8, .int .i64 16, .int .i64 32] T)).cell? ⟨w.heap.size, k, none⟩ = some (.int .i64 q) := by
  intro k hk
  have : k = 0 ∨ k = 1 ∨ k = 2 ∨ k = 3 ∨ k = 4 ∨ k = 5 ∨ k = 6 := by omega
  rcases this with rfl | rfl | rfl | rfl | rfl | rfl | rfl
  · exact ⟨1, by decide, by simp [go_sem]⟩
  · exact ⟨2, by decide, by simp [go_sem]⟩
  · exact ⟨4, by decide, by simp [go_sem]⟩
  · exact ⟨8, by decide, by simp [go_sem]⟩
  · exact ⟨8, by decide, by simp [go_sem]⟩
  · exact ⟨16, by decide, by simp [go_sem]⟩
  · exact ⟨32, by decide, by simp [go_sem]⟩
theorem height_on (W w0 w : World) (b : Nat) (a : Option Addr) (len cap : Nat) (z : List Int) (d : Drawn W a len cap z b w0 w) :
    Calls Try.prog 32 #[.pointer (some ⟨b, 0, none⟩)] w fun e w' => ∃ q : Int, hgB q = true ∧ e = .returned (.int .i64 q) ∧ Drawn W a len cap z b w0 w' := by
  have HD := Lib.hid d
  clear d
  go_enter Try.func32, Try.ntmps32
  go_wp2_with fail
  (refine (pickP_on (fun q => hgB q = true) W _ _ b a len cap z _ 7 _ (Drawn.ne HD.out) (by decide) (by decide) (sevenH _ _) (HD.out.alloc _)).mono ?_; rintro e w3 ⟨q, hq, rfl, d3⟩)
  have HQ := Lib.hid (And.intro hq d3)
  clear hq d3
  go_wp2
  go_ret
  exact ⟨_, HQ.out.1, rfl, HQ.out.2⟩
theorem height_any (w : World) (a : Option Addr) (len cap : Nat) (z : List Int) (hr : IsRow .u8 w a len cap z) :
    Calls Try.prog 10 #[.slice a len cap] w fun e w' => ∃ q : Int, hgB q = true ∧ e = .returned (.int .i64 q) ∧ Below w.heap.size w w' := by
  have HR := Lib.hid hr
  clear hr
  go_enter Try.func10, Try.ntmps10
  go_wp2_with fail
  (refine (new_any _ _ _ _ z HR.out).mono ?_; rintro e w1 ⟨rfl, dr⟩)
  have HD := Lib.hid (And.intro dr.same dr.below)
  clear dr
  go_wp2_with fail
  ((with_reducible refine (height_on _ _ _ _ a len cap z HD.out.1).mono ?_); rintro e w2 ⟨q, hq, rfl, d2⟩)
  have HQ := Lib.hid (And.intro hq d2.1.below)
  clear hq d2
  go_wp2
  go_ret
  exact ⟨_, HQ.out.1, rfl, HQ.out.2⟩
theorem pnF_out {ht bd : Int} {o : Ob} (hb : bnB ht bd = true) (h : tbO ht bd o = false) {R : List (List Int)} (hR : (R.length : Int) ≤ ht) : pnF (bd * ht) R o = R := by
  have hB := pgb_obx o.path o.gray o.x0 o.y0 o.x1 o.y1
  unfold tbO tbB tbX at h
  rw [hb, Bool.true_and, decide_eq_false_iff_not] at h
  have hnone : ∀ k, k < R.length → rowsL o.path o.gray o.x0 o.y0 o.x1 o.y1 (bd * ht) k = [] := by
    intro k hk
    unfold rowsL Ins.orow
    rw [if_neg]
    generalize obx o.path o.gray o.x0 o.y0 o.x1 o.y1 = B at *
    generalize bd * ht = r at *
    rcases hB with rfl | ⟨k0, k1, k2, k3, k4, k5⟩
    · rintro ⟨h1, h2⟩
      have h1' : (0 : Int) ≤ r + k := h1
      have h2' : r + (k : Int) < 0 := h2
      omega
    · intro h2
      have hd : 0 < (B.x1 - B.x0) * (B.y1 - B.y0) := Int.mul_pos (by omega) (by omega)
      exact h ⟨hd, by omega, by omega⟩
  unfold pnF pntR pntK
  apply List.ext_getElem
  · simp
  · intro i h1 h2
    rw [List.getElem_mapIdx]
    rw [if_pos h2, hnone i h2, pnt_nil]
theorem rb_one {ht bd : Int} {o : Ob} (hb : bnB ht bd = true) : rbR ht bd [o] = pnF (bd * ht) (whR ht) o ∧ (rbR ht bd [o]).length = ht.toNat := by
  have e : rbR ht bd [o] = pnF (bd * ht) (whR ht) o := by simp [rbR, hb]
  exact ⟨e, by rw [e, pnF_len, whR_len]⟩
theorem rb_out {ht bd : Int} {o : Ob} (hb : bnB ht bd = true) (h : tbO ht bd o = false) : rbR ht bd [o] = whR ht ∧ ofB ht bd [.st o.dt] = [] := by
  obtain ⟨b0, b1, b2, b3, b4, b5⟩ := bn_rows hb
  refine ⟨by rw [(rb_one hb).1]; exact pnF_out hb h (by rw [whR_len]; omega), ?_⟩
  simp [ofB, tbD_st, h]
theorem obs_one (o : Ob) : obsOf [.st o.dt] = [o] := by
  show [obOf (unS (.st o.dt))] = [o]
  show [obOf o.dt] = [o]
  rw [ob_un]
structure FtS (V w : World) (GO B : Nat) (o : Ob) (a : Option Addr) (c : Nat) : Prop where
  O : Blk V GO (sixo o a c)
  P : V.ownsRow B 83 2 (.slice a o.path.length c) o.path.length (Ins.cellsP o.path)
  L : o.path.length ≤ 1048576
  B : Below w.heap.size w V
theorem FtS.on {V W w : World} {GO B : Nat} {o : Ob} {a : Option Addr} {c : Nat} (h : FtS V w GO B o a c) (hb : Below V.heap.size V W) : FtS W w GO B o a c :=
  ⟨h.O.keep hb, row_on h.P hb, h.L, on_of h.B hb⟩
theorem FtS.path {V w : World} {GO B : Nat} {o : Ob} {a : Option Addr} {c : Nat} (h : FtS V w GO B o a c) : Ins.PathAt V a o.path := by
  obtain ⟨a', c', e, hp⟩ := Ins.path_of_owns h.P
  injection e with e1 e2 e3
  subst e1; exact hp
theorem FtS.one {V w : World} {GO B : Nat} {o : Ob} {a : Option Addr} {c : Nat} (h : FtS V w GO B o a c) : ∃ fp, Own (V.alloc (.cells #[.slice a o.path.length c, .int .i64 o.gray, .int .i64 o.x0, .int .i64 o.y0, .int .i64 o.x1, .int .i64 o.y1] 28)) (.sl KObject) [.slice (some ⟨V.heap.size, 0, none⟩) 1 1] (.sl [.st o.dt]) fp := by
  have hb : Below V.heap.size V (V.alloc (.cells #[.slice a o.path.length c, .int .i64 o.gray, .int .i64 o.x0, .int .i64 o.y0, .int .i64 o.x1, .int .i64 o.y1] 28)) := by go_grown
  obtain ⟨f, h1, h2, h3⟩ := Ins.obj_close (row_on h.P hb)
  have hB := Blk.new V #[.slice a o.path.length c, .int .i64 o.gray, .int .i64 o.x0, .int .i64 o.y0, .int .i64 o.x1, .int .i64 o.y1] 28 rfl
  exact ⟨_, .sl rfl (by decide) (Nat.le_refl _) hB.2.2 hB.2.1 (.cons (fun j u hu => by rw [Nat.zero_add]; exact hB.1 j u hu) (.st h1) .nil)⟩
theorem one_bulk {o : Ob} (h : o.path.length ≤ 1048570) : ([Dt.st o.dt] : List Dt).length + bulkL [.st o.dt] ≤ 1048576 := by
  simp only [List.length_singleton, bulkL, Dt.bulk, Ob.dt, len_dP, bulk_dP]; omega
end Go.Proofs.Ytkabofbbioaapaa.Own
