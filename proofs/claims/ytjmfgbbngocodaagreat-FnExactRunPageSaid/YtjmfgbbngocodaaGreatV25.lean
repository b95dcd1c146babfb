/-
  Texts of this seat, laid together: ClD, Cb13, ClE
-/
import Derived.Deep.RegionHeld3
import Derived.Test.YtjmfgbbngocodaaGreatV24
namespace Go.Proofs.YtjmfgbbngocodaaGreat.Own
open Go.ChangeShapes Go.WideShapes Go.ChangeAt Go.RowKit
open Kit Slabs Ints Stack Point Turn
set_option linter.unusedVariables false
set_option linter.unusedSimpArgs false
set_option linter.unnecessarySimpa false
def PgRows (w : World) (B : Nat) (R : List Value) (p : Pg) (F : List Nat) : Prop := ∃ (G : List Value) (F0 : List Nat) (a11 : Option Addr) (c11 : Nat) (P11 : List Value) (f11 : List Nat) (a12 : Option Addr) (c12 : Nat) (P12 : List Value) (f12 : List Nat),
  R = G ++ [.slice a11 p.saved.length c11, .slice a12 p.objs.length c12] ∧ GrRows w B G p.now F0 ∧
  w.ownsRow B 42 11 (.slice a11 p.saved.length c11) p.saved.length P11 ∧ OwnL w (List.replicate p.saved.length KGraphics) P11 (dG p.saved) f11 ∧
  w.ownsRow B 101 6 (.slice a12 p.objs.length c12) p.objs.length P12 ∧ OwnL w (List.replicate p.objs.length KObject) P12 (dO p.objs) f12 ∧
  F = F0 ++ (rowL (.slice a11 p.saved.length c11) ++ (f11 ++ (rowL (.slice a12 p.objs.length c12) ++ f12))) ∧ F.Nodup ∧ ∀ b ∈ F, B ≤ b
theorem GrRows.len {w : World} {B : Nat} {R : List Value} {g : Gr} {F : List Nat} (h : GrRows w B R g F) : R.length = 11 := by
  obtain ⟨a0, c0, f0, a5, c5, P5, rfl, _⟩ := h; rfl
theorem mk_pg {w : World} {G : List Value} {p : Pg} {a11 a12 : Option Addr} {c11 c12 : Nat} {f0 f11 f12 : List Nat} (o0 : OwnL w LGraphics G p.now.dt f0) (o11 : Own w (.sl KGraphics) [.slice a11 p.saved.length c11] (.sl (dG p.saved)) f11) (o12 : Own w (.sl KObject) [.slice a12 p.objs.length c12] (.sl (dO p.objs)) f12) :
    OwnL w LPage (G ++ [.slice a11 p.saved.length c11, .slice a12 p.objs.length c12]) p.dt (f0 ++ (f11 ++ f12)) := by
  have := OwnL.app (.cons o11 (.cons o12 .nil)) o0
  unfold Pg.dt
  simpa using this
theorem PgRows.own {w : World} {B : Nat} {R : List Value} {p : Pg} {F : List Nat} (h : PgRows w B R p F) : ∃ f, OwnL w LPage R p.dt f ∧ f.Nodup ∧ (∀ b ∈ f, b ∈ F) := by
  obtain ⟨G, F0, a11, c11, P11, f11, a12, c12, P12, f12, rfl, g0, r11, o11, r12, o12, rfl, hn, hB⟩ := h
  obtain ⟨f0, q0, m0, s0⟩ := g0.own
  obtain ⟨n0, n1, d0⟩ := nodup_parts hn
  obtain ⟨n11, n2, d11⟩ := nodup_parts n1
  obtain ⟨m11, n3, e11⟩ := nodup_parts n2
  obtain ⟨n12, m12, d12⟩ := nodup_parts n3
  have s11 : ∀ b ∈ (if p.saved.length = 0 then [] else rowL (.slice a11 p.saved.length c11) ++ f11), b ∈ rowL (.slice a11 p.saved.length c11) ∨ b ∈ f11 := rowF_sub
  have s12 : ∀ b ∈ (if p.objs.length = 0 then [] else rowL (.slice a12 p.objs.length c12) ++ f12), b ∈ rowL (.slice a12 p.objs.length c12) ∨ b ∈ f12 := rowF_sub
  refine ⟨_, mk_pg q0 (row_own2 r11 o11) (row_own2 r12 o12), app_nodup m0 (app_nodup (rowF_nodup m11 (fun b hb hc => d11 b hb (List.mem_append_left _ hc))) (rowF_nodup m12 (fun b hb hc => d12 b hb hc)) ?_) ?_, ?_⟩
  · intro x hx hy
    rcases s11 x hx with h | h <;> rcases s12 x hy with k | k
    · exact d11 x h (List.mem_append_right _ (List.mem_append_left _ k))
    · exact d11 x h (List.mem_append_right _ (List.mem_append_right _ k))
    · exact e11 x h (List.mem_append_left _ k)
    · exact e11 x h (List.mem_append_right _ k)
  · intro x hx hy
    have := d0 x (s0 x hx)
    apply this
    rcases List.mem_append.1 hy with h | h
    · rcases s11 x h with h | h
      · exact List.mem_append_left _ h
      · exact List.mem_append_right _ (List.mem_append_left _ h)
    · rcases s12 x h with h | h
      · exact List.mem_append_right _ (List.mem_append_right _ (List.mem_append_left _ h))
      · exact List.mem_append_right _ (List.mem_append_right _ (List.mem_append_right _ h))
  · intro x hy
    rcases List.mem_append.1 hy with h | h
    · exact List.mem_append_left _ (s0 x h)
    · apply List.mem_append_right
      rcases List.mem_append.1 h with h | h
      · rcases s11 x h with h | h
        · exact List.mem_append_left _ h
        · exact List.mem_append_right _ (List.mem_append_left _ h)
      · rcases s12 x h with h | h
        · exact List.mem_append_right _ (List.mem_append_right _ (List.mem_append_left _ h))
        · exact List.mem_append_right _ (List.mem_append_right _ (List.mem_append_right _ h))
theorem PgRows.stays {w w' : World} {B : Nat} {R : List Value} {p : Pg} {F : List Nat} (h : PgRows w B R p F) (hs : w.heap.size ≤ w'.heap.size) (hb : ∀ b ∈ F, w'.heap[b]? = w.heap[b]?) : PgRows w' B R p F := by
  obtain ⟨G, F0, a11, c11, P11, f11, a12, c12, P12, f12, rfl, g0, r11, o11, r12, o12, rfl, hn, hB⟩ := h
  refine ⟨G, F0, a11, c11, P11, f11, a12, c12, P12, f12, rfl, g0.stays hs ?_, row_stays r11 ?_, o11.stays hs ?_, row_stays r12 ?_, o12.stays hs ?_, rfl, hn, hB⟩ <;> intro b hm <;> apply hb b <;> simp [hm]
theorem PgRows.lt {w : World} {B : Nat} {R : List Value} {p : Pg} {F : List Nat} (h : PgRows w B R p F) : ∀ b ∈ F, b < w.heap.size := by
  obtain ⟨G, F0, a11, c11, P11, f11, a12, c12, P12, f12, rfl, g0, r11, o11, r12, o12, rfl, hn, hB⟩ := h
  exact mem2 (p := fun b => b < w.heap.size) g0.lt (mem2 (p := fun b => b < w.heap.size) (fun b hb => (rowL_ge r11 b hb).2) (mem2 (p := fun b => b < w.heap.size) o11.lt (mem2 (p := fun b => b < w.heap.size) (fun b hb => (rowL_ge r12 b hb).2) o12.lt)))
def PgNew (p : Pg) (w : World) (e : Ending) (w' : World) : Prop := ∃ (R : Array Value) (F : List Nat), e = .returned (.agg R) ∧ PgRows w' w.heap.size R.toList p F ∧ Below w.heap.size w w'
end Go.Proofs.YtjmfgbbngocodaaGreat.Own

namespace Go.Proofs.YtjmfgbbngocodaaGreat.Own
open Go.ChangeShapes Go.WideShapes Go.ChangeAt Go.RowKit
open Kit Slabs Ints Point
set_option linter.unusedVariables false
set_option linter.unusedSimpArgs false
set_option linter.unnecessarySimpa false
set_option maxRecDepth 100000
def Rpo (l : List Ob) (P0 : List Value) (b : Option Addr) (d : Nat) (w : World) (j : Nat) (wr : World) : Prop := ∃ (U : List Value) (fu : List Nat),
  U.length = j * 6 ∧ wr.ownsRow w.heap.size 101 6 (.slice b l.length d) l.length (U ++ P0.drop (j * 6)) ∧ OwnL wr (List.replicate j KObject) U ((dO l).take j) fu ∧ (rowL (.slice b l.length d) ++ fu).Nodup ∧ (∀ x ∈ fu, w.heap.size ≤ x) ∧ Below w.heap.size w wr
theorem Rpo.start {l : List Ob} {P0 : List Value} {b : Option Addr} {d : Nat} {w wr : World} (h : wr.ownsRow w.heap.size 101 6 (.slice b l.length d) l.length P0) (hb : Below w.heap.size w wr) : Rpo l P0 b d w 0 wr :=
  ⟨[], [], rfl, by simpa using h, .nil, by simpa using rowL_nodup _, by simp, hb⟩
theorem Rpo.on {l : List Ob} {P0 : List Value} {b : Option Addr} {d : Nat} {w wr w' : World} {j : Nat} (h : Rpo l P0 b d w j wr) (hb : Below wr.heap.size wr w') : Rpo l P0 b d w j w' := by
  obtain ⟨U, fu, e, r, o, n, hf, bw⟩ := h
  exact ⟨U, fu, e, row_on r hb, o.under hb, n, hf, on_of bw hb⟩
theorem Rpo.below {l : List Ob} {P0 : List Value} {b : Option Addr} {d : Nat} {w wr : World} {j : Nat} (h : Rpo l P0 b d w j wr) : Below w.heap.size w wr := by
  obtain ⟨U, fu, e, r, o, n, hf, bw⟩ := h; exact bw
theorem Rpo.done {l : List Ob} {P0 : List Value} {b : Option Addr} {d : Nat} {w wr : World} {j : Nat} (h : Rpo l P0 b d w j wr) (hj : j = l.length) (hP : P0.length = l.length * 6) : ObsNew l w (.returned (.slice b l.length d)) wr := by
  subst hj
  obtain ⟨U, fu, e, r, o, n, hf, bw⟩ := h
  rw [← hP, List.drop_length, List.append_nil] at r
  rw [← len_dO, List.take_length, len_dO] at o
  exact ⟨b, d, _, rfl, ⟨U, fu, r, o, rfl, n, mem2 (p := fun x => w.heap.size ≤ x) (fun x hx => (rowL_ge r x hx).1) hf⟩, bw⟩
theorem Rpo.one {l : List Ob} {P0 : List Value} {b : Option Addr} {d : Nat} {w wr : World} {j : Nat} (h : Rpo l P0 b d w j wr) {q : List Nat} (O : OwnL w (List.replicate l.length KObject) P0 (dO l) q) (hk : j < l.length) :
    ∃ g C f, b = some ⟨g, 0, none⟩ ∧ w.heap.size ≤ g ∧ g < wr.heap.size ∧ OwnL w LObject C.toList l[j].dt f ∧ (hload 101 ⟨g, j * 6, none⟩).run Tryz.prog wr = .ok (.agg C) wr ∧
      ∀ (w5 : World) (R : Array Value) (F : List Nat), Below wr.heap.size wr w5 → OwnL w5 LObject R.toList l[j].dt F → F.Nodup → (∀ x ∈ F, wr.heap.size ≤ x) →
        ∃ V, (hstore 101 ⟨g, j * 6, none⟩ (.agg R)).run Tryz.prog w5 = .ok () V ∧ Rpo l P0 b d w (j + 1) V := by
  obtain ⟨U, fu, e2, r12, o12, nd, hf, bw⟩ := h
  have hke : j < (dO l).length := by rw [len_dO]; exact hk
  obtain ⟨A, cs, D, ds, f', hP, lA, lc, he, oc, _⟩ := pick_rep O hke
  have e3 : (dO l)[j] = .st l[j].dt := by simp [dO]
  rw [e3] at he
  injection he with he
  subst he
  have lA' : A.length = j * 6 := lA
  have lc' : cs.length = 6 := lc
  have hd : P0.drop (j * 6) = cs ++ D := by rw [hP, ← lA', List.drop_left]
  have hd2 : P0.drop ((j + 1) * 6) = D := by
    rw [hP, ← List.append_assoc, show (j + 1) * 6 = (A ++ cs).length by rw [List.length_append, lA', lc', Nat.succ_mul], List.drop_left]
  rw [hd] at r12
  obtain ⟨g, rfl, hg, bg, cg, hnc, hcm⟩ := row_cap r12 (by omega)
  have hgr : rowL (.slice (some ⟨g, 0, none⟩) l.length d) = [g] := rfl
  have hgl := bg.2.2
  rw [hgr] at nd
  have gn : g ∉ fu := fun hm => (List.nodup_cons.1 nd).1 hm
  refine ⟨g, cs.toArray, f', rfl, hg, hgl, by simpa using oc, ?_, fun w5 R F hb oR nR gR => ?_⟩
  · exact hload_run (P := Tryz.prog) (t := 101) Tryz.isAgg101 Tryz.sizeOf101 (w := wr) (b := g) (o := j * 6) (us := cs) (Blk.part bg e2) lc
  · have b5 := bg.keep hb
    have lR : R.toList.length = 6 := oR.len
    have st := hstore_run (P := Tryz.prog) (t := 101) Tryz.sizeOf101 (w := w5) (b := g) (o := j * 6) (A := U) (us := cs) (R := D) (vs := R.toList) b5 e2 (by rw [lR, lc']) lR (fun v hv => oR.one v hv)
    have est : R.toList.toArray = R := by simp
    rw [est] at st
    have BS := Blk.sets (P := U) (us := cs) (vs := R.toList) (R := D) (w := w5) (b := g) (o := j * 6) b5 e2 (by rw [lR, lc'])
    have cS := (cg.keep hb).sets R.toList (j * 6)
    have tS := turns_sets (S := fun b => b = g) g rfl R.toList (j * 6) w5
    generalize w5.setCells g (j * 6) R.toList = V at st BS cS tS
    have hsz := bw.size
    have hsz5 := hb.size
    refine ⟨V, st, U ++ R.toList, fu ++ F, by rw [List.length_append, e2, lR, Nat.succ_mul], (by rw [hd2]; exact (cap_row (by simpa using BS) cS (by have h2 := r12.1; simp only [List.length_append, e2, lc', lR] at h2 ⊢; omega) hnc hcm hg)), (by rw [List.take_succ_eq_append_getElem hke, e3, List.replicate_succ']; exact ((o12.under hb).turned tS (fun b hm e => gn (by have e' : b = g := e; rw [← e']; exact hm))).snoc (.st (oR.turned tS (fun b hm e => by have e' : b = g := e; have := gR b hm; omega)))), ?_, ?_, ?_⟩
    · rw [hgr, ← List.append_assoc]
      exact app_nodup nd nR (fun x hx hy => by
        have := gR x hy
        rcases List.mem_append.1 hx with h | h
        · have : x = g := by simpa using h
          omega
        · have := o12.lt x h; omega)
    · intro x hm
      rcases List.mem_append.1 hm with h | h
      · exact hf x h
      · have := gR x h; omega
    · exact (on_of bw hb).trans (tS.below (by omega) (fun x e => by have e' : x = g := e; omega))
attribute [local go_sem ↓] hload_Object hstore_Object
set_option maxHeartbeats 4000000 in
theorem cobs_impl (w : World) (a : Option Addr) (c : Nat) (l : List Ob) {fp : List Nat} (hb : l.length + bulkL (dO l) ≤ 1048576) (h : Own w (.sl KObject) [.slice a l.length c] (.sl (dO l)) fp) :
    Calls Tryz.prog 83 #[.slice a l.length c] w (ObsNew l w) := by
  obtain ⟨P, q, L, hl, O, _, h1, _, _⟩ := own_lies h
  have hl' : P.length = l.length * 6 := by simpa [Kd.sz, szL] using hl
  have HP := Lib.hid (And.intro L (And.intro hl' (And.intro O (And.intro h1 hb))))
  obtain ⟨n, hN⟩ : ∃ n, l.length = n := ⟨_, rfl⟩
  have HN := Lib.hid hN
  have hn : n ≤ 1048576 := by omega
  have HC := Lib.hid (cop_obs w a n c P hn (by rw [hl', hN]) h1 L)
  rw [hN]
  clear L hl hl' O h1 hb h hN
  go_enter Tryz.func83, Tryz.ntmps83
  go_wp2_with fail
  ((with_reducible refine HC.out.mono ?_); rintro e w1 ⟨b, d, rfl, r1, bb⟩)
  have HR := Lib.hid (Rpo.start (P0 := P) (b := b) (d := d) (l := l) (by rw [HN.out]; exact r1) bb)
  clear r1 bb HC
  go_wp2
  go_loopw [10] (fun v wr => ∃ k : Nat, k ≤ n ∧ v = .int .i64 (k : Int) ∧ Hid (Rpo l P b d w k wr)) (fun v _ => n - (intOf v).toNat)
  case atStart => exact ⟨0, Nat.zero_le _, rfl, HR⟩
  case round =>
    obtain ⟨k, hk, rfl, hL⟩ := hrel
    by_cases hlt : k < n
    · have hkl : k < l.length := by rw [HN.out]; exact hlt
      obtain ⟨g, C, f, rfl, hgB, hgl, oC, hld, hput⟩ := hL.out.one HP.out.2.2.1 hkl
      have hbk : bulkL l[k].dt ≤ 1048576 := by
        have h1 := bulk_elt (es := dO l) (i := k) (by rw [len_dO]; exact hkl)
        have e3 : (dO l)[k]'(by rw [len_dO]; exact hkl) = .st l[k].dt := by simp [dO]
        rw [e3] at h1
        simp only [Dt.bulk] at h1
        have := HP.out.2.2.2.2
        omega
      have i0 : (0 : Int) ≤ (k : Int) := by omega
      have i1 : (k : Int) < (n : Int) := by omega
      obtain ⟨E, st, BX, cx, zx⟩ := var_new (P := Tryz.prog) (T := 101) Tryz.sizeOf101 wr #[.slice none 0 0, .int .i64 0, .int .i64 0, .int .i64 0, .int .i64 0, .int .i64 0] rfl oC rfl
      have lv := var_load (P := Tryz.prog) Tryz.isAgg101 Tryz.sizeOf101 BX oC rfl
      have HX := Lib.hid (And.intro hput (And.intro (oC.under (on_of hL.out.below cx)) (And.intro hbk (And.intro cx hgB))))
      clear hput oC hbk BX cx
      go_wp2_with fail
      clear hld st lv
      ((with_reducible refine (clone_Object E HX.out.2.2.1 HX.out.2.1).mono ?_); rintro e w5 ⟨R, F, rfl, oR, nR, gF, bb⟩)
      have hs := HX.out.2.2.2.1.size
      obtain ⟨V, st, hV⟩ := HX.out.1 w5 R F (on_of HX.out.2.2.2.1 bb) oR nR (fun x hx => by have := gF x hx; omega)
      have HV := Lib.hid hV
      clear oR nR gF bb hV
      go_wp2
      go_roundw
      case rel => exact ⟨k + 1, by omega, by go_num, HV⟩
      case measure => simp [intOf]; omega
    · obtain rfl : k = n := by omega
      go_wp2
      go_ret
      have h9 := hL.out.done HN.out.symm HP.out.2.1
      rw [HN.out] at h9
      exact h9
end Go.Proofs.YtjmfgbbngocodaaGreat.Own

namespace Go.Proofs.YtjmfgbbngocodaaGreat.Own
open Go.ChangeShapes Go.WideShapes Go.ChangeAt Go.RowKit
open Kit Slabs Ints Stack Point Turn
set_option linter.unusedVariables false
set_option linter.unusedSimpArgs false
set_option linter.unnecessarySimpa false
set_option maxRecDepth 100000
attribute [local go_sem ↓] hload_Graphics hload_Object hstore_Graphics hstore_Object hload_Page hstore_Page
def Mid1 (p : Pg) (B GA GR : Nat) (P11 : List Value) (w wx : World) : Prop := ∃ (R1 : Array Value) (F1 : List Nat) (a : Option Addr) (c : Nat) (a' : Option Addr) (c' : Nat) (F12 : List Nat),
  Blk wx GA (R1.toList ++ [.slice a p.saved.length c, .slice a' p.objs.length c']) ∧ Blk wx GR (#[.slice none 0 0, .int .i64 0, .int .i64 0, .int .i64 0, .int .i64 0, .slice none 0 0, .int .i64 0, .int .i64 0, .int .i64 0, .int .i64 0, .int .i64 0, .slice none 0 0, .slice none 0 0] : Array Value).toList ∧ GrRows wx B R1.toList p.now F1 ∧ wx.ownsRow B 42 11 (.slice a p.saved.length c) p.saved.length P11 ∧ ObsRow wx B a' c' p.objs F12 ∧ (F1 ++ (rowL (.slice a p.saved.length c) ++ F12)).Nodup ∧ Below w.heap.size w wx
theorem GrRows.ge {w : World} {B : Nat} {R : List Value} {g : Gr} {F : List Nat} (h : GrRows w B R g F) : ∀ b ∈ F, B ≤ b := by
  obtain ⟨a0, c0, f0, a5, c5, P5, rfl, o0, r5, O5, rfl, hn, hB⟩ := h; exact hB
theorem GrRows.nodup {w : World} {B : Nat} {R : List Value} {g : Gr} {F : List Nat} (h : GrRows w B R g F) : F.Nodup := by
  obtain ⟨a0, c0, f0, a5, c5, P5, rfl, o0, r5, O5, rfl, hn, hB⟩ := h; exact hn
theorem GrRows.under {w w' : World} {B : Nat} {R : List Value} {g : Gr} {F : List Nat} (h : GrRows w B R g F) (hb : Below w.heap.size w w') : GrRows w' B R g F := h.stays hb.size (fun b hm => hb.block b (h.lt b hm))
theorem GrRows.set {w : World} {B : Nat} {R : List Value} {g : Gr} {F : List Nat} {b : Nat} (h : GrRows w B R g F) (hn : b ∉ F) (o : Nat) (v : Value) : GrRows (w.setCell ⟨b, o, none⟩ v) B R g F := h.stays (by simp) (fun x hx => Below.heap_setCell _ _ _ _ (fun e => hn (by have e' : x = b := e; rw [← e']; exact hx)))
theorem one_of {w : World} {B : Nat} {R : List Value} {g : Gr} {F : List Nat} (h : GrRows w B R g F) : ∀ u ∈ R, u.oneCell' = true := by
  obtain ⟨f, o, _⟩ := h.own; exact o.one
theorem mid_of {p : Pg} {GA GR : Nat} {P11 : List Value} {F12 : List Nat} {w W w1 w2 w3 V : World} {R1 : Array Value} {F1 : List Nat} {a11 a12 m11 m12 : Option Addr} {c11 c12 d11 d12 : Nat}
    (hW : Below w.heap.size w W) (gA : w.heap.size ≤ GA) (gAR : GA < GR) (gAW : GA < W.heap.size) (gR : GR < W.heap.size) (BR : Blk W GR (#[.slice none 0 0, .int .i64 0, .int .i64 0, .int .i64 0, .int .i64 0, .slice none 0 0, .int .i64 0, .int .i64 0, .int .i64 0, .int .i64 0, .int .i64 0, .slice none 0 0, .slice none 0 0] : Array Value).toList)
    (g1 : GrRows w1 W.heap.size R1.toList p.now F1) (b1 : Below W.heap.size W w1) (r11 : w2.ownsRow w1.heap.size 42 11 (.slice m11 p.saved.length d11) p.saved.length P11) (b2 : Below w1.heap.size w1 w2)
    (r12 : ObsRow w3 w2.heap.size m12 d12 p.objs F12) (b3 : Below w2.heap.size w2 w3) (BV : Blk V GA (R1.toList ++ [.slice a11 p.saved.length c11, .slice a12 p.objs.length c12])) (tV : Turns w3 V (fun b => b = GA)) :
    Mid1 p W.heap.size GA GR P11 w ((V.setCell ⟨GA, 11, none⟩ (.slice m11 p.saved.length d11)).setCell ⟨GA, 12, none⟩ (.slice m12 p.objs.length d12)) := by
  have z1 := b1.size
  have z2 := b2.size
  have z3 := b3.size
  have zV := tV.size
  have zW := hW.size
  have hge : ∀ b ∈ F1, W.heap.size ≤ b ∧ b < w1.heap.size := fun b hb => ⟨g1.ge b hb, g1.lt b hb⟩
  have r11' := row_on r11 b3
  have g11 := rowL_ge r11
  have g12 := r12.ge
  have GV := (((g1.under b2).under b3).stays tV.size (fun b hb => tV.block b (by have := hge b hb; omega) (fun e => by have e' : b = GA := e; have := hge b hb; omega)))
  have R11 := row_turned r11' tV (fun b hb e => by have e' : b = GA := e; have := g11 b hb; omega)
  have R12 := r12.turned tV (fun b hb e => by have e' : b = GA := e; have := g12 b hb; omega)
  have BV1 := Blk.put (o := 11) (P := R1.toList) (R := [.slice a12 p.objs.length c12]) BV g1.len (.slice m11 p.saved.length d11)
  have BV2 := Blk.put (o := 12) (P := R1.toList ++ [.slice m11 p.saved.length d11]) (R := []) (by simpa using BV1) (by rw [List.length_append, g1.len]; rfl) (.slice m12 p.objs.length d12)
  have BR2 := (((BR.keep (on_of (on_of b1 b2) b3)).turned tV (fun e => by have e' : GR = GA := e; omega)).other (b' := GA) (by omega) 11 (.slice m11 p.saved.length d11)).other (b' := GA) (by omega) 12 (.slice m12 p.objs.length d12)
  have bV := (((on_of (on_of (on_of hW b1) b2) b3).trans (tV.below (by omega) (fun k e => by have e' : k = GA := e; omega))).setCell (p := ⟨GA, 11, none⟩) gA (.slice m11 p.saved.length d11)).setCell (p := ⟨GA, 12, none⟩) gA (.slice m12 p.objs.length d12)
  exact ⟨R1, F1, m11, d11, m12, d12, F12, by simpa using BV2, BR2,
        (GV.set (fun h => by have := hge _ h; omega) 11 _).set (fun h => by have := hge _ h; omega) 12 _,
        row_base (row_set (row_set R11 (fun h => by have := g11 _ h; omega) 11 _) (fun h => by have := g11 _ h; omega) 12 _) (by omega),
        (R12.turned (turns_set (S := fun x => x = GA) (b := GA) (turns_set (S := fun x => x = GA) (b := GA) (Turns.refl V _) rfl 11 _) rfl 12 _) (fun x hx e => by have e' : x = GA := e; have := g12 x hx; omega)).base (by omega),
        app_nodup g1.nodup (app_nodup (rowL_nodup _) r12.nodup (fun x hx hy => by have := g11 x hx; have := g12 x hy; omega)) (fun x hx hy => by
          have h1 := hge x hx
          rcases List.mem_append.1 hy with h | h
          · have := g11 x h; omega
          · have := g12 x h; omega), bV⟩
theorem GrRows.base {w : World} {B C : Nat} {R : List Value} {g : Gr} {F : List Nat} (h : GrRows w B R g F) (hC : C ≤ B) : GrRows w C R g F := by
  obtain ⟨a0, c0, f0, a5, c5, P5, rfl, o0, r5, O5, rfl, hn, hB⟩ := h
  exact ⟨a0, c0, f0, a5, c5, P5, rfl, o0, row_base r5 hC, O5, rfl, hn, fun b hb => Nat.le_trans hC (hB b hb)⟩
theorem PgRows.base {w : World} {B C : Nat} {R : List Value} {p : Pg} {F : List Nat} (h : PgRows w B R p F) (hC : C ≤ B) : PgRows w C R p F := by
  obtain ⟨G, F0, a11, c11, P11, f11, a12, c12, P12, f12, rfl, g0, r11, o11, r12, o12, rfl, hn, hB⟩ := h
  exact ⟨G, F0, a11, c11, P11, f11, a12, c12, P12, f12, rfl, g0.base hC, row_base r11 hC, o11, row_base r12 hC, o12, rfl, hn, fun b hb => Nat.le_trans hC (hB b hb)⟩
theorem PgRows.ge {w : World} {B : Nat} {R : List Value} {p : Pg} {F : List Nat} (h : PgRows w B R p F) : ∀ b ∈ F, B ≤ b := by
  obtain ⟨G, F0, a11, c11, P11, f11, a12, c12, P12, f12, rfl, g0, r11, o11, r12, o12, rfl, hn, hB⟩ := h; exact hB
def Lp (p : Pg) (B GA GR : Nat) (b11 : Option Addr) (d11 : Nat) (b12 : Option Addr) (d12 : Nat) (P11 P12 : List Value) (R1 : List Value) (F1 : List Nat) (w : World) (k j : Nat) (wr : World) : Prop := ∃ (Q : List Value) (fq : List Nat) (U : List Value) (fu : List Nat),
  Q.length = k * 11 ∧ U.length = j * 6 ∧ Blk wr GA (R1 ++ [.slice b11 p.saved.length d11, .slice b12 p.objs.length d12]) ∧ Blk wr GR (#[.slice none 0 0, .int .i64 0, .int .i64 0, .int .i64 0, .int .i64 0, .slice none 0 0, .int .i64 0, .int .i64 0, .int .i64 0, .int .i64 0, .int .i64 0, .slice none 0 0, .slice none 0 0] : Array Value).toList ∧ GrRows wr B R1 p.now F1 ∧
  wr.ownsRow B 42 11 (.slice b11 p.saved.length d11) p.saved.length (Q ++ P11.drop (k * 11)) ∧ OwnL wr (List.replicate k KGraphics) Q ((dG p.saved).take k) fq ∧
  wr.ownsRow B 101 6 (.slice b12 p.objs.length d12) p.objs.length (U ++ P12.drop (j * 6)) ∧ OwnL wr (List.replicate j KObject) U ((dO p.objs).take j) fu ∧
  (F1 ++ (rowL (.slice b11 p.saved.length d11) ++ (fq ++ (rowL (.slice b12 p.objs.length d12) ++ fu)))).Nodup ∧ (∀ b ∈ fq ++ fu, B ≤ b) ∧ Below w.heap.size w wr
theorem Lp.start {p : Pg} {B GA GR : Nat} {P11 : List Value} {w wx : World} (h : Mid1 p B GA GR P11 w wx) (hB : w.heap.size ≤ B) : ∃ b11 d11 b12 d12 P12 R1 F1, Lp p B GA GR b11 d11 b12 d12 P11 P12 R1 F1 w 0 p.objs.length wx ∧ R1.length = 11 ∧ P12.length = p.objs.length * 6 := by
  obtain ⟨R1, F1, b11, d11, b12, d12, F12, BG, BRc, g1, r11, ⟨P12, f12, r12, o12, rfl, n12, h12⟩, nd, bw⟩ := h
  have hl := r12.1
  refine ⟨b11, d11, b12, d12, P12, R1.toList, F1, ⟨[], [], P12, f12, rfl, hl, BG, BRc, g1, by simpa using r11, .nil, by rw [← hl, List.drop_length, List.append_nil]; exact r12, by rw [show (dO p.objs).take p.objs.length = dO p.objs by rw [← len_dO, List.take_length]]; exact o12, by simpa using nd, fun b hb => h12 b (List.mem_append_right _ (by simpa using hb)), bw⟩, g1.len, hl⟩
theorem Lp.on {p : Pg} {B GA GR : Nat} {b11 b12 : Option Addr} {d11 d12 : Nat} {P11 P12 R1 : List Value} {F1 : List Nat} {w : World} {k j : Nat} {wr w' : World} (h : Lp p B GA GR b11 d11 b12 d12 P11 P12 R1 F1 w k j wr) (hb : Below wr.heap.size wr w') : Lp p B GA GR b11 d11 b12 d12 P11 P12 R1 F1 w k j w' := by
  obtain ⟨Q, fq, U, fu, e1, e2, BG, BRc, g1, r11, o11, r12, o12, nd, hf, bw⟩ := h
  exact ⟨Q, fq, U, fu, e1, e2, BG.keep hb, BRc.keep hb, g1.under hb, row_on r11 hb, o11.under hb, row_on r12 hb, o12.under hb, nd, hf, on_of bw hb⟩
theorem Lp.cells {p : Pg} {B GA GR : Nat} {b11 b12 : Option Addr} {d11 d12 : Nat} {P11 P12 R1 : List Value} {F1 : List Nat} {w : World} {k j : Nat} {wr : World} (h : Lp p B GA GR b11 d11 b12 d12 P11 P12 R1 F1 w k j wr) (hl : R1.length = 11) : wr.cell? ⟨GA, 11, none⟩ = some (.slice b11 p.saved.length d11) ∧ wr.cell? ⟨GA, 12, none⟩ = some (.slice b12 p.objs.length d12) := by
  obtain ⟨Q, fq, U, fu, e1, e2, BG, _⟩ := h
  exact ⟨BG.1 11 _ (by rw [List.getElem?_append_right (by omega)]; simp [hl]), BG.1 12 _ (by rw [List.getElem?_append_right (by omega)]; simp [hl])⟩
theorem Lp.below {p : Pg} {B GA GR : Nat} {b11 b12 : Option Addr} {d11 d12 : Nat} {P11 P12 R1 : List Value} {F1 : List Nat} {w : World} {k j : Nat} {wr : World} (h : Lp p B GA GR b11 d11 b12 d12 P11 P12 R1 F1 w k j wr) : Below w.heap.size w wr := by
  obtain ⟨Q, fq, U, fu, e1, e2, BG, BRc, g1, r11, o11, r12, o12, nd, hf, bw⟩ := h; exact bw
theorem Lp.done {p : Pg} {B GA GR : Nat} {b11 b12 : Option Addr} {d11 d12 : Nat} {P11 P12 R1 : List Value} {F1 : List Nat} {w wr : World} (h : Lp p B GA GR b11 d11 b12 d12 P11 P12 R1 F1 w p.saved.length p.objs.length wr) (l11 : P11.length = p.saved.length * 11) (l12 : P12.length = p.objs.length * 6) :
    ∃ F, PgRows wr B (R1 ++ [.slice b11 p.saved.length d11, .slice b12 p.objs.length d12]) p F ∧ Blk wr GA (R1 ++ [.slice b11 p.saved.length d11, .slice b12 p.objs.length d12]) ∧ Blk wr GR (#[.slice none 0 0, .int .i64 0, .int .i64 0, .int .i64 0, .int .i64 0, .slice none 0 0, .int .i64 0, .int .i64 0, .int .i64 0, .int .i64 0, .int .i64 0, .slice none 0 0, .slice none 0 0] : Array Value).toList := by
  obtain ⟨Q, fq, U, fu, e1, e2, BG, BRc, g1, r11, o11, r12, o12, nd, hf, bw⟩ := h
  rw [← l11, List.drop_length, List.append_nil] at r11
  rw [← l12, List.drop_length, List.append_nil] at r12
  rw [← len_dG, List.take_length] at o11
  rw [← len_dO, List.take_length] at o12
  rw [len_dG] at o11
  rw [len_dO] at o12
  refine ⟨_, ⟨R1, F1, b11, d11, Q, fq, b12, d12, U, fu, rfl, g1, r11, o11, r12, o12, rfl, nd, ?_⟩, BG, BRc⟩
  refine mem2 (p := fun b => B ≤ b) g1.ge (mem2 (p := fun b => B ≤ b) (fun b hb => (rowL_ge r11 b hb).1) (mem2 (p := fun b => B ≤ b) (fun b hb => hf b (List.mem_append_left _ hb)) (mem2 (p := fun b => B ≤ b) (fun b hb => (rowL_ge r12 b hb).1) (fun b hb => hf b (List.mem_append_right _ hb)))))
theorem nd_out1 {F1 fq s fu : List Nat} {g : Nat} (h : (F1 ++ ([g] ++ (fq ++ (s ++ fu)))).Nodup) (hb : g ∈ F1 ++ (s ++ (fq ++ fu))) : False := by
  obtain ⟨_, h2, d⟩ := nodup_parts h
  obtain ⟨_, h3, d2⟩ := nodup_parts h2
  have e := d2 g (by simp)
  rcases List.mem_append.1 hb with h | h
  · exact d g h (by simp)
  · apply e
    simp only [List.mem_append] at h ⊢
    rcases h with h | h | h
    · exact .inr (.inl h)
    · exact .inl h
    · exact .inr (.inr h)
theorem nd_ins1 {F1 r s a b F : List Nat} (h : (F1 ++ (r ++ (a ++ (s ++ b)))).Nodup) (hF : F.Nodup) (d : ∀ x ∈ F1 ++ (r ++ (a ++ (s ++ b))), x ∉ F) : (F1 ++ (r ++ ((a ++ F) ++ (s ++ b)))).Nodup := by
  have h2 := app_nodup h hF d
  refine (List.Perm.nodup_iff ?_).1 h2
  simp only [List.append_assoc]
  refine List.Perm.append_left _ (List.Perm.append_left _ (List.Perm.append_left _ ?_))
  rw [← List.append_assoc, ← List.append_assoc F]
  have := List.perm_append_comm (l₁ := s ++ b) (l₂ := F)
  simpa using this
theorem Lp.one {p : Pg} {B GA GR : Nat} {b11 b12 : Option Addr} {d11 d12 : Nat} {P11 P12 R1 : List Value} {F1 : List Nat} {w : World} {k j : Nat} {wr : World} (h : Lp p B GA GR b11 d11 b12 d12 P11 P12 R1 F1 w k j wr)
    {q : List Nat} (O : OwnL w (List.replicate p.saved.length KGraphics) P11 (dG p.saved) q) (hk : k < p.saved.length) (hG : GA < B) (hR : GR < B) (hw : w.heap.size ≤ B) :
    ∃ g C f, b11 = some ⟨g, 0, none⟩ ∧ B ≤ g ∧ g < wr.heap.size ∧ OwnL w LGraphics C.toList p.saved[k].dt f ∧ (hload 42 ⟨g, k * 11, none⟩).run Tryz.prog wr = .ok (.agg C) wr ∧
      ∀ (w5 : World) (R : Array Value) (F : List Nat), Below wr.heap.size wr w5 → OwnL w5 LGraphics R.toList p.saved[k].dt F → F.Nodup → (∀ b ∈ F, wr.heap.size ≤ b) →
        ∃ V, (hstore 42 ⟨g, k * 11, none⟩ (.agg R)).run Tryz.prog w5 = .ok () V ∧ Turns w5 V (fun b => b = g) ∧ Lp p B GA GR b11 d11 b12 d12 P11 P12 R1 F1 w (k + 1) j V := by
  obtain ⟨Q, fq, U, fu, e1, e2, BG, BRc, g1, r11, o11, r12, o12, nd, hf, bw⟩ := h
  have hke : k < (dG p.saved).length := by rw [len_dG]; exact hk
  obtain ⟨A, cs, D, ds, f', hP, lA, lc, he, oc, _⟩ := pick_rep O hke
  have e3 : (dG p.saved)[k] = .st p.saved[k].dt := by simp [dG]
  rw [e3] at he
  injection he with he
  subst he
  have lA' : A.length = k * 11 := lA
  have lc' : cs.length = 11 := lc
  have hd : P11.drop (k * 11) = cs ++ D := by rw [hP, ← lA', List.drop_left]
  have hd2 : P11.drop ((k + 1) * 11) = D := by
    rw [hP, ← List.append_assoc, show (k + 1) * 11 = (A ++ cs).length by rw [List.length_append, lA', lc', Nat.succ_mul], List.drop_left]
  rw [hd] at r11
  obtain ⟨g, rfl, hg, bg, cg, hnc, hcm⟩ := row_cap r11 (by omega)
  have hgr : rowL (.slice (some ⟨g, 0, none⟩) p.saved.length d11) = [g] := rfl
  have hgl := bg.2.2
  have ndg := nd
  rw [hgr] at ndg
  have gOther : ∀ b, b ∈ F1 ++ (rowL (.slice b12 p.objs.length d12) ++ (fq ++ fu)) → b ≠ g := fun b hb e => nd_out1 ndg (e ▸ hb)
  refine ⟨g, cs.toArray, f', rfl, hg, hgl, by simpa using oc, ?_, fun w5 R F hb oR nR gR => ?_⟩
  · exact hload_run (P := Tryz.prog) (t := 42) Tryz.isAgg42 Tryz.sizeOf42 (w := wr) (b := g) (o := k * 11) (us := cs) (Blk.part bg e1) lc
  · have b5 := bg.keep hb
    have lR : R.toList.length = 11 := oR.len
    have st := hstore_run (P := Tryz.prog) (t := 42) Tryz.sizeOf42 (w := w5) (b := g) (o := k * 11) (A := Q) (us := cs) (R := D) (vs := R.toList) b5 e1 (by rw [lR, lc']) lR (fun v hv => oR.one v hv)
    have est : R.toList.toArray = R := by simp
    rw [est] at st
    have BS := Blk.sets (P := Q) (us := cs) (vs := R.toList) (R := D) (w := w5) (b := g) (o := k * 11) b5 e1 (by rw [lR, lc'])
    have cS := (cg.keep hb).sets R.toList (k * 11)
    have tS := turns_sets (S := fun b => b = g) g rfl R.toList (k * 11) w5
    generalize w5.setCells g (k * 11) R.toList = V at st BS cS tS
    refine ⟨V, st, tS, Q ++ R.toList, fq ++ F, U, fu, by rw [List.length_append, e1, lR, Nat.succ_mul], e2, ((BG.keep hb).turned tS (fun e => by have e' : GA = g := e; omega)), ((BRc.keep hb).turned tS (fun e => by have e' : GR = g := e; omega)), ?_, (by rw [hd2]; exact (cap_row (by simpa using BS) cS (by have h2 := r11.1; simp only [List.length_append, e1, lc', lR] at h2 ⊢; omega) hnc hcm hg)), (by rw [List.take_succ_eq_append_getElem hke, e3, List.replicate_succ']; exact ((o11.under hb).turned tS (fun b hm e => gOther b (by simp [hm]) e)).snoc (.st (oR.turned tS (fun b hm e => by have e' : b = g := e; have := gR b hm; omega)))), (row_turned (row_on r12 hb) tS (fun b hm e => gOther b (by simp [hm]) e)), ((o12.under hb).turned tS (fun b hm e => gOther b (by simp [hm]) e)), ?_, ?_, ?_⟩
    · exact (g1.under hb).stays tS.size (fun b hm => tS.block b (by have := g1.lt b hm; have := hb.size; omega) (fun e => gOther b (by simp [hm]) e))
    · exact nd_ins1 nd nR (fun x hx hy => by
        have := gR x hy
        rcases List.mem_append.1 hx with h | h
        · have := g1.lt x h; omega
        rcases List.mem_append.1 h with h | h
        · have := (rowL_ge r11 x h).2; omega
        rcases List.mem_append.1 h with h | h
        · have := o11.lt x h; omega
        rcases List.mem_append.1 h with h | h
        · have := (rowL_ge r12 x h).2; omega
        · have := o12.lt x h; omega)
    · intro b hm
      have hBw : B ≤ wr.heap.size := by omega
      simp only [List.mem_append] at hm
      by_cases hq : b ∈ fq ++ fu
      · exact hf b hq
      · have : b ∈ F := by simp only [List.mem_append] at hq; rcases hm with h | h <;> simp_all
        have := gR b this; omega
    · exact (on_of bw hb).trans (tS.below (by have := bw.size; have := hb.size; omega) (fun x e => by have e' : x = g := e; omega))
end Go.Proofs.YtjmfgbbngocodaaGreat.Own

