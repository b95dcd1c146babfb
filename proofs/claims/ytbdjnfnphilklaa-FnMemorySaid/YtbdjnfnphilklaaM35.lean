/-
  Texts of this seat, laid together: Po11, Pa11, ShI8, Mv10, Mo10, Ms10, Do10, SzO, Lw10, Ps11
-/
import Derived.WalkKit
import Derived.Deep.DeepCutAuto
import Derived.Deep.QuietTactic
import Derived.BigQuiet
import Derived.Deep.RegionHeld3
import Derived.Handy
import Derived.Deep.RegionLaw
import Derived.Test.YtbdjnfnphilklaaM33
import Derived.Test.YtbdjnfnphilklaaM28
import Derived.Test.YtbdjnfnphilklaaM04
import Derived.Test.YtbdjnfnphilklaaM21
import Derived.Test.YtbdjnfnphilklaaM16
import Derived.Test.YtbdjnfnphilklaaM20
import Derived.Test.YtbdjnfnphilklaaM17
import Derived.Test.YtbdjnfnphilklaaM29
import Derived.Test.YtbdjnfnphilklaaM12
namespace Go.Proofs.Ytbdjnfnphilklaa.Own
open Go.ChangeShapes Go.WideShapes Go.ChangeAt Go.RowKit
open Kit Slabs Ints
open Go.Proofs.Ytbdjnfnphilklaa.Ins (Pt gen_any9 orow obK)
set_option linter.unusedVariables false
set_option linter.unusedSimpArgs false
set_option linter.unnecessarySimpa false
set_option maxRecDepth 100000
theorem paint_none (w : World) (ra : Option Addr) (rc : Nat) (first : Int) (a : Option Addr) (n c : Nat) (gr x0 y0 x1 y1 : Int) :
    Calls Try.prog 44 #[.slice ra 0 rc, .int .i64 first, .agg #[.slice a n c, .int .i64 gr, .int .i64 x0, .int .i64 y0, .int .i64 x1, .int .i64 y1]] w fun e w' => e = .returned (.tuple #[]) ∧ Below w.heap.size w w' := by
  go_enter Try.func44, Try.ntmps44
  go_wp2
  go_rounds 1
  refine bodyPost_end (results_none rfl _ _ _) rfl ?_
  exact ⟨rfl, by go_grown⟩
theorem paint_any (w : World) (ra : Option Addr) (rc : Nat) (R : List (List Int)) (fp : List Nat) (first : Int) (a : Option Addr) (c : Nat) (l : List Pt) (gr x0 y0 x1 y1 : Int)
    (hn : l.length ≤ 1048576) (hR : R.length ≤ 32) (h32 : ∀ r ∈ R, r.length = 32) (hf : 0 ≤ first ∧ first ≤ 32)
    (ho : Own w KSS [.slice ra R.length rc] (.sl (dR R)) fp) (hd : fp.Nodup) (hpa : ∀ W, Turns w W (fun b => b ∈ fp) → Ins.PathAt W a l) :
    Calls Try.prog 44 #[.slice ra R.length rc, .int .i64 first, .agg #[.slice a l.length c, .int .i64 gr, .int .i64 x0, .int .i64 y0, .int .i64 x1, .int .i64 y1]] w fun e w' =>
      e = .returned (.tuple #[]) ∧ Own w' KSS [.slice ra R.length rc] (.sl (dR (pntR gr (rowsL l gr x0 y0 x1 y1 first) R))) fp ∧ Turns w w' (fun b => b ∈ fp) := by
  by_cases h0 : R.length = 0
  · have hR : R = [] := List.eq_nil_of_length_eq_zero h0
    subst hR
    refine (paint_none w ra rc first a l.length c gr x0 y0 x1 y1).mono fun e w' ⟨h1, h2⟩ => ⟨h1, ho.under h2, Turns.of_below h2⟩
  · obtain ⟨a9, c9, hv, _, hG⟩ := own_ss ho
    simp only [Value.slice.injEq] at hv
    obtain ⟨rfl, _, rfl⟩ := hv
    obtain ⟨g, P, fq, rfl, _⟩ := hG h0
    exact paint_impl w g rc R fp first a c l gr x0 y0 x1 y1 hn hR h32 hf h0 ho hd hpa
theorem rows32 {R : List (List Int)} (h : rowsB R = true) : R.length ≤ 32 ∧ ∀ r ∈ R, r.length = 32 := by
  simp only [rowsB, Bool.and_eq_true, decide_eq_true_eq, List.all_eq_true] at h
  refine ⟨h.1, fun r hr => ?_⟩
  have := h.2 r hr
  simp only [rowB, Bool.and_eq_true, decide_eq_true_eq] at this
  exact this.1
def poB (R : List (List Int)) (first : Int) (l : List Pt) (gr x0 y0 x1 y1 : Int) : Bool := rowsB R && obK l gr x0 y0 x1 y1 && decide (0 ≤ first ∧ first ≤ 32)
def poR (R : List (List Int)) (first : Int) (l : List Pt) (gr x0 y0 x1 y1 : Int) : List (List Int) := if poB R first l gr x0 y0 x1 y1 then pntR gr (rowsL l gr x0 y0 x1 y1 first) R else R
theorem poR_len (R : List (List Int)) (first : Int) (l : List Pt) (gr x0 y0 x1 y1 : Int) : (poR R first l gr x0 y0 x1 y1).length = R.length := by
  unfold poR; split
  · exact pntR_len _ _ _
  · rfl
def PoNew (R : List (List Int)) (b : Bool) (w : World) (e : Ending) (w' : World) : Prop := ∃ a c fp, e = .returned (.tuple #[.slice a R.length c, .bool b]) ∧ Own w' KSS [.slice a R.length c] (.sl (dR R)) fp ∧ fp.Nodup ∧ (∀ b ∈ fp, w.heap.size ≤ b) ∧ Below w.heap.size w w'
structure PoS (w W : World) (X : Nat) (a' : Option Addr) (c' : Nat) (R : List (List Int)) (fp : List Nat) (six : List Value) : Prop where
  X : Blk W X six
  O : Own W KSS [.slice a' R.length c'] (.sl (dR R)) fp
  B : Below w.heap.size w W
theorem PoS.on {w W V : World} {X : Nat} {a' : Option Addr} {c' : Nat} {R : List (List Int)} {fp : List Nat} {six : List Value} (h : PoS w W X a' c' R fp six) (hb : Below W.heap.size W V) : PoS w V X a' c' R fp six :=
  ⟨h.X.keep hb, h.O.under hb, on_of h.B hb⟩
end Go.Proofs.Ytbdjnfnphilklaa.Own
namespace Go.Proofs.Ytbdjnfnphilklaa.Own
open Go.ChangeShapes Go.WideShapes Go.ChangeAt Go.RowKit
open Kit Slabs Ints
open Go.Proofs.Ytbdjnfnphilklaa.Ins (Pt gen_any9 orow obK)
set_option linter.unusedVariables false
set_option linter.unusedSimpArgs false
set_option linter.unnecessarySimpa false
set_option maxRecDepth 100000
def sixo (o : Ob) (pa : Option Addr) (pc : Nat) : List Value := sixv pa o.path.length pc o.gray o.x0 o.y0 o.x1 o.y1
def ob0 : Ob := ⟨[], 0, 0, 0, 0, 0⟩
def ObL (w : World) (a : Option Addr) (l : List Ob) : Prop := l = [] ∨ ∃ g, a = some ⟨g, 0, none⟩ ∧ g < w.heap.size ∧ ∀ i, i < l.length → ∃ pa pc, (∀ j u, (sixo (l.getD i ob0) pa pc)[j]? = some u → w.cell? ⟨g, i * 6 + j, none⟩ = some u) ∧ Ins.PathAt w pa (l.getD i ob0).path ∧ (l.getD i ob0).path.length ≤ 1048576
theorem ObL.on {w w' : World} {a : Option Addr} {l : List Ob} (h : ObL w a l) (hb : Below w.heap.size w w') : ObL w' a l := by
  rcases h with h | ⟨g, rfl, hg, hc⟩
  · exact .inl h
  · refine .inr ⟨g, rfl, Nat.lt_of_lt_of_le hg hb.size, fun i hi => ?_⟩
    obtain ⟨pa, pc, h1, h2, h3⟩ := hc i hi
    exact ⟨pa, pc, fun j u hu => (hb.cell (p := ⟨g, i * 6 + j, none⟩) hg).trans (h1 j u hu), h2.on hb, h3⟩
theorem ObL.some {w : World} {a : Option Addr} {l : List Ob} (h : ObL w a l) (h0 : l.length ≠ 0) : ∃ g, a = some ⟨g, 0, none⟩ ∧ g < w.heap.size ∧ ∀ i, i < l.length → ∃ pa pc, (∀ j u, (sixo (l.getD i ob0) pa pc)[j]? = some u → w.cell? ⟨g, i * 6 + j, none⟩ = some u) ∧ Ins.PathAt w pa (l.getD i ob0).path ∧ (l.getD i ob0).path.length ≤ 1048576 := by
  rcases h with rfl | h
  · exact absurd rfl h0
  · exact h
def okO (o : Ob) : Bool := obK o.path o.gray o.x0 o.y0 o.x1 o.y1
set_option maxHeartbeats 2000000 in
theorem allob_impl (w : World) (a : Option Addr) (c : Nat) (l : List Ob) (hn : l.length ≤ 1048576) (h : ObL w a l) :
    Calls Try.prog 40 #[.slice a l.length c, .func (.func 35) #[] #[]] w fun e w' => e = .returned (.bool (l.all okO)) ∧ Below w.heap.size w w' := by
  have HP := Lib.hid h
  obtain ⟨n, hN⟩ : ∃ n, l.length = n := ⟨_, rfl⟩
  have HN := Lib.hid hN
  rw [hN] at hn ⊢
  clear hN h
  go_enter Try.func40, Try.ntmps40
  go_wp2
  go_loopw [9] (fun v9 wr => ∃ k : Nat, k ≤ n ∧ v9 = .int .i64 (k : Int) ∧ Hid (∀ i, i < k → okO (l.getD i ob0) = true) ∧ Below w.heap.size w wr) (fun v9 _ => n - (intOf v9).toNat)
  case atStart => exact ⟨0, Nat.zero_le _, rfl, Lib.hid (fun i hi => absurd hi (Nat.not_lt_zero i)), Below.refl _ _⟩
  case round =>
    obtain ⟨k, hk, rfl, hb, hB⟩ := hrel
    by_cases hlt : k < n
    · obtain ⟨g, rfl, hg, hc⟩ := (HP.out.on hB).some (by rw [HN.out]; omega)
      obtain ⟨pa, pc, h6, hpa, hpl⟩ := hc k (by rw [HN.out]; exact hlt)
      obtain ⟨o, hx⟩ : ∃ o, l.getD k ob0 = o := ⟨_, rfl⟩
      rw [hx] at h6 hpa hpl
      have q0 : wr.cell? ⟨g, k * 6, none⟩ = some (.slice pa o.path.length pc) := h6 0 _ rfl
      have q1 : wr.cell? ⟨g, k * 6 + 1, none⟩ = some (.int .i64 o.gray) := h6 1 _ rfl
      have q2 : wr.cell? ⟨g, k * 6 + 2, none⟩ = some (.int .i64 o.x0) := h6 2 _ rfl
      have q3 : wr.cell? ⟨g, k * 6 + 3, none⟩ = some (.int .i64 o.y0) := h6 3 _ rfl
      have q4 : wr.cell? ⟨g, k * 6 + 4, none⟩ = some (.int .i64 o.x1) := h6 4 _ rfl
      have q5 : wr.cell? ⟨g, k * 6 + 5, none⟩ = some (.int .i64 o.y1) := h6 5 _ rfl
      have i0 : (0 : Int) ≤ (k : Int) := by omega
      have i1 : (k : Int) < (n : Int) := by omega
      have hb1 : Below wr.heap.size wr (wr.alloc (.cells #[.slice pa o.path.length pc, .int .i64 o.gray, .int .i64 o.x0, .int .i64 o.y0, .int .i64 o.x1, .int .i64 o.y1] 40)) := by go_grown
      have HX := Lib.hid (And.intro hx (And.intro (hpa.on hb1) (And.intro hpl (on_of hB hb1))))
      clear hx hpa hpl hc h6 hB hb1
      go_wp2_with fail
      clear q0 q1 q2 q3 q4 q5
      ((with_reducible refine (Ins.ok_impl _ pa pc o.path o.gray o.x0 o.y0 o.x1 o.y1 HX.out.2.2.1 HX.out.2.1).mono ?_); rintro e w1 ⟨rfl, bb⟩)
      have HB1 := Lib.hid (on_of HX.out.2.2.2 bb)
      have HK9 := Lib.hid (show okO o = obK o.path o.gray o.x0 o.y0 o.x1 o.y1 from rfl)
      clear bb
      cases hp : obK o.path o.gray o.x0 o.y0 o.x1 o.y1
      · have HS := Lib.hid (all_no (p := okO) (l := l) (z := ob0) (k := k) (by rw [HN.out]; exact hlt) (by rw [HX.out.1, HK9.out]; exact hp))
        clear hp
        go_wp2
        go_ret
        exact ⟨ret_bool HS.out.symm, HB1.out⟩
      · have hyes : ∀ i, i < k + 1 → okO (l.getD i ob0) = true := fun i hi => by
          by_cases e : i = k
          · subst e; rw [HX.out.1, HK9.out]; exact hp
          · exact hb.out i (by omega)
        have HS := Lib.hid hyes
        clear hyes hp
        go_wp2
        go_roundw
        case rel => exact ⟨k + 1, by omega, by go_num, HS, HB1.out⟩
        case measure => simp [intOf]; omega
    · obtain rfl : k = n := by omega
      have HB := Lib.hid hB
      clear hB
      go_wp2
      go_ret
      exact ⟨ret_bool (all_yes (z := ob0) (fun i hi => hb.out i (by rw [← HN.out]; exact hi))).symm, HB.out⟩
def paB (l : List Ob) : Bool := decide (l.length ≤ 12) && l.all okO
def pnO (R : List (List Int)) (o : Ob) : List (List Int) := pntR o.gray (rowsL o.path o.gray o.x0 o.y0 o.x1 o.y1 0) R
def paR (l : List Ob) : List (List Int) := if paB l then l.foldl pnO (List.replicate 32 whiteR) else []
theorem pnO_len (R : List (List Int)) (o : Ob) : (pnO R o).length = R.length := pntR_len _ _ _
theorem pntK_32 {g : Int} {L : Nat → List Pt} {R : List (List Int)} {k : Nat} (h : ∀ r ∈ R, r.length = 32) : ∀ r ∈ pntK g L R k, r.length = 32 := by
  intro r hr
  obtain ⟨i, hi, rfl⟩ := List.mem_iff_getElem.1 hr
  simp only [pntK, List.getElem_mapIdx]
  split
  · rw [pnt_len]; exact h _ (List.getElem_mem _)
  · exact h _ (List.getElem_mem _)
theorem fold_32 (l : List Ob) : ∀ {R : List (List Int)}, R.length = 32 → (∀ r ∈ R, r.length = 32) → (l.foldl pnO R).length = 32 ∧ ∀ r ∈ l.foldl pnO R, r.length = 32 := by
  induction l with
  | nil => intro R h1 h2; exact ⟨h1, h2⟩
  | cons o l ih => intro R h1 h2; exact ih (by rw [pnO_len]; exact h1) (pntK_32 h2)
theorem white_32 : (List.replicate 32 whiteR).length = 32 ∧ ∀ r ∈ List.replicate 32 whiteR, r.length = 32 :=
  ⟨List.length_replicate, fun r hr => by rw [(List.mem_replicate.1 hr).2]; exact whiteR_len⟩
theorem whites32_impl (w : World) : Calls Try.prog 33 #[.int .i64 32] w (SsNew (List.replicate 32 whiteR) w) := by
  have := whites_impl w 32
  rw [if_pos (by omega)] at this
  exact this
end Go.Proofs.Ytbdjnfnphilklaa.Own
namespace Go.Proofs.Ytbdjnfnphilklaa.Ins
open Go.ChangeShapes Go.WideShapes Go.ChangeAt Go.RowKit
open Kit Point Slabs
set_option linter.unusedVariables false
set_option linter.unusedSimpArgs false
set_option linter.unnecessarySimpa false
theorem all_sh (l : List Pt) (d : Pt) : l.all (shB d) = (ptsB l && ptsB (l.map (mv d))) := by
  rw [Bool.eq_iff_iff]
  simp only [Bool.and_eq_true, ptsB, List.all_eq_true, List.mem_map, shB, forall_exists_index, and_imp]
  constructor
  · intro h
    exact ⟨fun p hp => (h p hp).1, fun q p hp e => by subst e; exact (h p hp).2⟩
  · intro h p hp
    exact ⟨h.1 p hp, h.2 _ p hp rfl⟩
def ShI (w : World) (m : List Pt) (e : Ending) (w' : World) : Prop := ∃ v, e = .returned v ∧ w'.ownsRow w.heap.size 113 2 v m.length (cellsP m) ∧ Below w.heap.size w w'
theorem shi_none (w W : World) (h : Below w.heap.size w W) : ShI w [] (.returned (.slice none 0 0)) W :=
  ⟨_, rfl, ⟨by decide, .inl ⟨rfl, rfl⟩⟩, h⟩
end Go.Proofs.Ytbdjnfnphilklaa.Ins
namespace Go.Proofs.Ytbdjnfnphilklaa.Ins
open Go.ChangeShapes Go.WideShapes Go.ChangeAt Go.RowKit
open Kit Point
open Go.Proofs.Ytbdjnfnphilklaa.Own (Blk Ob grayB)
set_option linter.unusedVariables false
set_option linter.unusedSimpArgs false
set_option linter.unnecessarySimpa false
set_option maxRecDepth 100000
def FgIs (w : World) (m : List Pt) (g x0 y0 x1 y1 : Int) (e : Ending) (w' : World) : Prop := ∃ va vc, e = .returned (.agg #[.slice va m.length vc, .int .i64 g, .int .i64 x0, .int .i64 y0, .int .i64 x1, .int .i64 y1]) ∧
  w'.ownsRow w.heap.size 113 2 (.slice va m.length vc) m.length (cellsP m) ∧ Below w.heap.size w w'
end Go.Proofs.Ytbdjnfnphilklaa.Ins
namespace Go.Proofs.Ytbdjnfnphilklaa.Ins
open Go.ChangeShapes Go.WideShapes Go.ChangeAt Go.RowKit
open Kit Point Slabs
open Go.Proofs.Ytbdjnfnphilklaa.Own (Blk Ob grayB OwnL LObject KPt dP dPt)
set_option linter.unusedVariables false
set_option linter.unusedSimpArgs false
set_option linter.unnecessarySimpa false
set_option maxRecDepth 100000
def mvO (o : Ob) (dx dy : Int) : Ob := ⟨shV o.path (dx, dy), o.gray, IntKind.i64.wrap (o.x0 + dx), IntKind.i64.wrap (o.y0 + dy), IntKind.i64.wrap (o.x1 + dx), IntKind.i64.wrap (o.y1 + dy)⟩
def mvB (o : Ob) (dx dy : Int) : Bool := Own.obB o && Own.obB (mvO o dx dy)
def mvR (o : Ob) (dx dy : Int) : Ob := if mvB o dx dy then mvO o dx dy else o
def MvIs (o : Ob) (r : Bool) (w : World) (e : Ending) (w' : World) : Prop := ∃ (R : Array Value) (f : List Nat), e = .returned (.tuple #[.agg R, .bool r]) ∧ OwnL w' LObject R.toList o.dt f ∧ f.Nodup ∧ (∀ b ∈ f, w.heap.size ≤ b) ∧ Below w.heap.size w w'
theorem ownL_set {w : World} {ks : List Own.Kd} {cs : List Value} {ds : List Own.Dt} {fp : List Nat} {b : Nat} (h : OwnL w ks cs ds fp) (hn : b ∉ fp) (o : Nat) (v : Value) : OwnL (w.setCell ⟨b, o, none⟩ v) ks cs ds fp :=
  OwnL.stays (by simp) h (fun x hx => Below.heap_setCell _ _ _ _ (fun e => hn (by have e' : x = b := e; rw [← e']; exact hx)))
theorem own_row10 {w : World} {B : Nat} {v : Value} {m : List Pt} (h : w.ownsRow B 113 2 v m.length (cellsP m)) : ∃ fp, Own.Own w (.sl KPt) [v] (.sl (dP m)) fp ∧ fp.Nodup ∧ ∀ b ∈ fp, B ≤ b := by
  have hs := slab_owns h
  refine ⟨_, Own.pts_own hs (Own.len_dP m) (fun i hi => ⟨pX m i, pY m i, ?_, rfl⟩), ?_, fun b hb => (hs.row b (by simpa using hb)).1⟩
  · have e : m.getD i (0, 0) = m[i] := by simp [List.getD, List.getElem?_eq_getElem hi]
    simp only [Own.at_, dP, List.getD_eq_getElem?_getD, List.getElem?_map, List.getElem?_eq_getElem hi, Option.map_some, Option.getD_some, dPt, pX, pY]
  · cases Slabs.rowOf m.length v <;> simp
theorem obj_open {w : World} {A : Array Value} {o : Ob} {fp : List Nat} (h : OwnL w LObject A.toList o.dt fp) :
    ∃ a c, A = #[.slice a o.path.length c, .int .i64 o.gray, .int .i64 o.x0, .int .i64 o.y0, .int .i64 o.x1, .int .i64 o.y1] ∧ PathAt w a o.path := by
  obtain ⟨a0, c0, f0, hA, hf, o0⟩ := Own.inv_Object_ h
  simp only [Own.len_dP] at hA o0
  refine ⟨a0, c0, ?_, (Own.path_of o0).2⟩
  apply Array.toList_inj.1
  simpa using hA
theorem obj_len {o : Ob} (hb : Own.bulkL o.dt ≤ 1048576) : o.path.length ≤ 1048576 := by
  simp only [Own.Ob.dt, Own.bulkL, Own.Dt.bulk, Own.len_dP, Own.bulk_dP] at hb; omega
theorem obj_close {w : World} {B : Nat} {va : Option Addr} {vc : Nat} {o : Ob} (h : w.ownsRow B 113 2 (.slice va o.path.length vc) o.path.length (cellsP o.path)) :
    ∃ f, OwnL w LObject [.slice va o.path.length vc, .int .i64 o.gray, .int .i64 o.x0, .int .i64 o.y0, .int .i64 o.x1, .int .i64 o.y1] o.dt f ∧ f.Nodup ∧ ∀ b ∈ f, B ≤ b := by
  obtain ⟨f, o0, n0, g0⟩ := own_row10 h
  exact ⟨f, Own.mk_ob o.gray o.x0 o.y0 o.x1 o.y1 o0, n0, g0⟩
structure MvS (W w : World) (GA GR GM : Nat) (cs ms : List Value) : Prop where
  A : Blk W GA cs
  R : Blk W GR [.slice none 0 0, .int .i64 0, .int .i64 0, .int .i64 0, .int .i64 0, .int .i64 0]
  M : Blk W GM ms
  B : Below w.heap.size w W
theorem MvS.on {W w V : World} {GA GR GM : Nat} {cs ms : List Value} (h : MvS W w GA GR GM cs ms) (hb : Below W.heap.size W V) : MvS V w GA GR GM cs ms :=
  ⟨h.A.keep hb, h.R.keep hb, h.M.keep hb, on_of h.B hb⟩
theorem six {W : World} {G : Nat} {v : Value} {g x0 y0 x1 y1 : Int} (h : Blk W G [v, .int .i64 g, .int .i64 x0, .int .i64 y0, .int .i64 x1, .int .i64 y1]) :
    W.cell? ⟨G, 0, none⟩ = some v ∧ W.cell? ⟨G, 1, none⟩ = some (.int .i64 g) ∧ W.cell? ⟨G, 2, none⟩ = some (.int .i64 x0) ∧ W.cell? ⟨G, 3, none⟩ = some (.int .i64 y0) ∧ W.cell? ⟨G, 4, none⟩ = some (.int .i64 x1) ∧ W.cell? ⟨G, 5, none⟩ = some (.int .i64 y1) ∧ (∀ o, W.frozen? ⟨G, o, none⟩ = false) ∧ G < W.heap.size :=
  ⟨h.1 0 _ rfl, h.1 1 _ rfl, h.1 2 _ rfl, h.1 3 _ rfl, h.1 4 _ rfl, h.1 5 _ rfl, h.2.1, h.2.2⟩
end Go.Proofs.Ytbdjnfnphilklaa.Ins
namespace Go.Proofs.Ytbdjnfnphilklaa.Ins
open Go.ChangeShapes Go.WideShapes Go.ChangeAt Go.RowKit
open Kit Point Slabs
open Go.Proofs.Ytbdjnfnphilklaa.Own (Blk Ob grayB OwnL LObject KPt dP dPt)
set_option linter.unusedVariables false
set_option linter.unusedSimpArgs false
set_option linter.unnecessarySimpa false
set_option maxRecDepth 100000
structure MvT (W w : World) (GA GR : Nat) (cs : List Value) : Prop where
  A : Blk W GA cs
  R : Blk W GR [.slice none 0 0, .int .i64 0, .int .i64 0, .int .i64 0, .int .i64 0, .int .i64 0]
  B : Below w.heap.size w W
theorem MvT.on {W w V : World} {GA GR : Nat} {cs : List Value} (h : MvT W w GA GR cs) (hb : Below W.heap.size W V) : MvT V w GA GR cs :=
  ⟨h.A.keep hb, h.R.keep hb, on_of h.B hb⟩
theorem MvS.two {W w : World} {GA GR GM : Nat} {cs ms : List Value} (h : MvS W w GA GR GM cs ms) : MvT W w GA GR cs := ⟨h.A, h.R, h.B⟩
theorem shV_no {l : List Pt} {dx dy : Int} (h : (inB dx && inB dy) = false) : shV l (dx, dy) = [] := shV_far h
end Go.Proofs.Ytbdjnfnphilklaa.Ins
namespace Go.Proofs.Ytbdjnfnphilklaa.Ins
open Go.ChangeShapes Go.WideShapes Go.ChangeAt Go.RowKit
open Kit Point
open Go.Proofs.Ytbdjnfnphilklaa.Own (Blk Ob grayB)
set_option linter.unusedVariables false
set_option linter.unusedSimpArgs false
set_option linter.unnecessarySimpa false
set_option maxRecDepth 100000
def odK (f : Nat → Int) : Nat → Int
  | 0 => 0
  | k + 1 => IntKind.i64.wrap (odK f k + f k)
def odV (l : List Pt) (g x0 y0 x1 y1 : Int) : Int := odK (fun k => dtV (orow l g x0 y0 x1 y1 (k : Int))) 32
theorem odK_succ (f : Nat → Int) (k : Nat) : odK f (k + 1) = wrap64 (odK f k + f k) := IntWalk.i64_left _
theorem orow_len (l : List Pt) (g x0 y0 x1 y1 y : Int) : (orow l g x0 y0 x1 y1 y).length ≤ l.length := by
  unfold orow
  split
  · have h1 := mtV_len (spsV l y) (obx l g x0 y0 x1 y1).x0 (obx l g x0 y0 x1 y1).x1
    have h2 := spsV_len l y
    omega
  · simp
end Go.Proofs.Ytbdjnfnphilklaa.Ins
namespace Go.Proofs.Ytbdjnfnphilklaa.Own
open Go.ChangeShapes Go.WideShapes Go.ChangeAt Go.RowKit
open Kit Slabs Ints
set_option linter.unusedVariables false
set_option linter.unusedSimpArgs false
set_option linter.unnecessarySimpa false
set_option maxRecDepth 100000
set_option maxHeartbeats 4000000 in
theorem sz_Object (w : World) {A : Array Value} {ds : List Dt} (h : CameL w LObject A.toList ds) (l : Int) (l0 : 0 ≤ l) (l1 : l ≤ 1048576) :
    Calls Try.prog 83 #[.agg A, .int .i64 l] w fun e w' => e = .returned (.int .i64 (szv l (bulkL ds))) ∧ Below w.heap.size w w' := by
  obtain ⟨xa0, xc0, xs0, xx1_0, xx2_0, xx2_1, xx2_2, xx2_3, hA, rfl, ⟨ox0, mox0⟩⟩ := invC_Object h
  have hbk : bulkL (.sl xs0 :: (.int xx1_0 :: (.int xx2_0 :: (.int xx2_1 :: (.int xx2_2 :: (.int xx2_3 :: ([]))))))) = (xs0.length + bulkL xs0) := by simp only [bulkL_app, bulkL, Dt.bulk]; omega
  rw [hbk]
  obtain ⟨y1, q1⟩ : ∃ x, szv l (xs0.length + bulkL xs0) = x := ⟨_, rfl⟩
  have BA : Blk (w.alloc (.cells A 105)) w.heap.size A.toList := Blk.new w A 105 rfl
  have hW : Below w.heap.size w (w.alloc (.cells A 105)) := by go_grown
  rw [hA] at BA
  have HO := Lib.hid (ox0)
  have HA0 := Lib.hid BA
  have HW0 := Lib.hid hW
  by_cases c1 : y1 < 0
  · have u : y1 = -1 := by rw [← q1] at c1 ⊢; unfold szv at c1 ⊢; split at c1 <;> first | rfl | omega
    have HZ := Lib.hid (q1.trans u)
    clear u
    have ca0 : A[0]? = some (.slice xa0 xs0.length xc0) := by rw [← Array.getElem?_toList, hA]; rfl
    clear ox0 hA BA hW h hbk
    go_enter Try.func83, Try.ntmps83
    go_wp2_with fail
    ((with_reducible refine (sz_PointS _ ((HO.out).on HW0.out) mox0 l (by omega) (by omega)).mono ?_); rintro e w1 ⟨rfl, b1⟩)
    rw [q1]
    have HW1 := Lib.hid (on_of HW0.out b1)
    have HA1 := Lib.hid (HA0.out.keep b1)
    clear b1 ca0
    clear q1
    go_wp2
    go_ret
    exact ⟨ret_int HZ.out.symm, HW1.out⟩
  · have d1 : 0 ≤ y1 := by omega
    have e1 : y1 ≤ 1048576 := by have := szv_le (a := (xs0.length + bulkL xs0)) (show 0 ≤ l by omega); rw [q1] at this; omega
    have HZ := Lib.hid q1
    have ca0 : A[0]? = some (.slice xa0 xs0.length xc0) := by rw [← Array.getElem?_toList, hA]; rfl
    clear ox0 hA BA hW h hbk
    go_enter Try.func83, Try.ntmps83
    go_wp2_with fail
    ((with_reducible refine (sz_PointS _ ((HO.out).on HW0.out) mox0 l (by omega) (by omega)).mono ?_); rintro e w1 ⟨rfl, b1⟩)
    rw [q1]
    have HW1 := Lib.hid (on_of HW0.out b1)
    have HA1 := Lib.hid (HA0.out.keep b1)
    clear b1 ca0
    clear q1
    go_wp2
    go_ret
    exact ⟨ret_int HZ.out.symm, HW1.out⟩
end Go.Proofs.Ytbdjnfnphilklaa.Own
namespace Go.Proofs.Ytbdjnfnphilklaa.Own
open Go.ChangeShapes Go.WideShapes Go.ChangeAt Go.RowKit
open Kit Slabs
set_option linter.unusedVariables false
set_option linter.unusedSimpArgs false
set_option linter.unnecessarySimpa false
theorem spec_ObjectOk (w : World) {A : Array Value} {ds : List Dt} {fp : List Nat} (hb : bulkL ds ≤ 1048576) (h : OwnL w LObject A.toList ds fp) : Calls Try.prog 55 #[.agg A] w fun e w' => e = .returned (.bool (obB (obOf ds))) ∧ Below w.heap.size w w' := by
  have e := ob_dt h
  rw [e] at hb h
  obtain ⟨a, c, rfl, hp⟩ := Ins.obj_open h
  exact Ins.ok_spec w a c _ _ _ _ _ _ (Ins.obj_len hb) hp
theorem impl_ObjectOk (w : World) {A : Array Value} {ds : List Dt} {fp : List Nat} (hb : bulkL ds ≤ 1048576) (h : OwnL w LObject A.toList ds fp) : Calls Try.prog 35 #[.agg A] w fun e w' => e = .returned (.bool (obB (obOf ds))) ∧ Below w.heap.size w w' := by
  have e := ob_dt h
  rw [e] at hb h
  obtain ⟨a, c, rfl, hp⟩ := Ins.obj_open h
  exact Ins.ok_impl w a c _ _ _ _ _ _ (Ins.obj_len hb) hp
def obD (o : Ob) : Int := Ins.odV o.path o.gray o.x0 o.y0 o.x1 o.y1
def obX (o : Ob) : Ins.Bx := Ins.obx o.path o.gray o.x0 o.y0 o.x1 o.y1
theorem impl_ObjectBox (w : World) {A : Array Value} {ds : List Dt} {fp : List Nat} (hb : bulkL ds ≤ 1048576) (h : OwnL w LObject A.toList ds fp) {p0 p1 p2 p3 : Int} (hX : obX (obOf ds) = ⟨p0, p1, p2, p3⟩) : Calls Try.prog 68 #[.agg A] w fun e w' => e = .returned (.agg #[.int .i64 p0, .int .i64 p1, .int .i64 p2, .int .i64 p3]) ∧ Below w.heap.size w w' := by
  have e := ob_dt h
  rw [e] at hb h
  obtain ⟨a, c, rfl, hp⟩ := Ins.obj_open h
  have := Ins.obox_impl w a c _ (obOf ds).gray (obOf ds).x0 (obOf ds).y0 (obOf ds).x1 (obOf ds).y1 (Ins.obj_len hb) hp
  rw [show Ins.obx (obOf ds).path (obOf ds).gray (obOf ds).x0 (obOf ds).y0 (obOf ds).x1 (obOf ds).y1 = ⟨p0, p1, p2, p3⟩ from hX] at this
  exact this
def obS (o : Ob) (y : Int) : List (Int × Int) := Ins.orow o.path o.gray o.x0 o.y0 o.x1 o.y1 y
theorem obS_le (ds : List Dt) (hd : ds = (obOf ds).dt) (hb : bulkL ds ≤ 1048576) (y : Int) : (dP (obS (obOf ds) y)).length ≤ 1048576 := by
  rw [len_dP]
  rw [hd] at hb
  exact Nat.le_trans (Ins.orow_len _ _ _ _ _ _ _) (Ins.obj_len hb)
theorem own_spans {w : World} {B : Nat} {v : Value} {m : List (Int × Int)} (h : w.ownsRow B 96 2 v m.length (Ins.cellsP m)) : ∃ fp, Own w (.sl KPt) [v] (.sl (dP m)) fp ∧ fp.Nodup ∧ ∀ b ∈ fp, B ≤ b := by
  have hs := Ins.slab_owns9 h
  refine ⟨_, pts_own hs (len_dP m) (fun i hi => ⟨Ins.pX m i, Ins.pY m i, ?_, rfl⟩), ?_, fun b hb => (hs.row b (by simpa using hb)).1⟩
  · simp only [at_, dP, List.getD_eq_getElem?_getD, List.getElem?_map, List.getElem?_eq_getElem hi, Option.map_some, Option.getD_some, dPt, Ins.pX, Ins.pY]
  · cases rowOf m.length v <;> simp
theorem impl_ObjectRow (w : World) {A : Array Value} {ds : List Dt} {fp : List Nat} (hb : bulkL ds ≤ 1048576) (h : OwnL w LObject A.toList ds fp) (y : Int) : Calls Try.prog 74 #[.agg A, .int .i64 y] w fun e w' => ∃ (u : Value) (fp : List Nat), e = .returned u ∧ Own w' (.sl KPt) [u] (.sl (dP (obS (obOf ds) y))) fp ∧ fp.Nodup ∧ (∀ b ∈ fp, w.heap.size ≤ b) ∧ Below w.heap.size w w' := by
  have e := ob_dt h
  rw [e] at hb h
  obtain ⟨a, c, rfl, hp⟩ := Ins.obj_open h
  refine (Ins.orow_impl w a c _ (obOf ds).gray (obOf ds).x0 (obOf ds).y0 (obOf ds).x1 (obOf ds).y1 y (Ins.obj_len hb) hp).mono fun e w' ⟨u, he, ho, hb⟩ => ?_
  obtain ⟨f, h1, h2, h3⟩ := own_spans ho
  exact ⟨u, f, he, h1, h2, h3, hb⟩
theorem bulk_ob (o : Ob) : bulkL o.dt = o.path.length := by simp only [Ob.dt, bulkL, Dt.bulk, len_dP, bulk_dP]; omega
end Go.Proofs.Ytbdjnfnphilklaa.Own
namespace Go.Proofs.Ytbdjnfnphilklaa.Own
open Go.ChangeShapes Go.WideShapes Go.ChangeAt Go.RowKit
open Kit Slabs Ints
open Go.Proofs.Ytbdjnfnphilklaa.Ins (Pt gen_any9 orow obK)
set_option linter.unusedVariables false
set_option linter.unusedSimpArgs false
set_option linter.unnecessarySimpa false
set_option maxRecDepth 100000
theorem Turns.drewN {w w' : World} {S : Nat → Prop} (h : Turns w w' S) (n : Nat) : Turns w (w'.drewN n) S := ⟨h.os, h.tape, h.output, h.size, h.block⟩
theorem Turns.cell {w w' : World} {S : Nat → Prop} (h : Turns w w' S) {g : Nat} (hg : g < w.heap.size) (hS : ¬ S g) (o : Nat) : w'.cell? ⟨g, o, none⟩ = w.cell? ⟨g, o, none⟩ := World.cell?_of_block (w := w) (h.block g hg hS)
end Go.Proofs.Ytbdjnfnphilklaa.Own
