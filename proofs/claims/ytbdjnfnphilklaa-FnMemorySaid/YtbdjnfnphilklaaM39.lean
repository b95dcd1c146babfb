/-
  Texts of this seat, laid together: Bd13, Ce13, Cl13, Mg13
-/
import Derived.Deep.RegionHeld3
import Derived.Deep.RegionLaw
import Derived.Test.YtbdjnfnphilklaaM17
import Derived.Test.YtbdjnfnphilklaaM36
import Derived.Test.YtbdjnfnphilklaaM37
import Derived.Test.YtbdjnfnphilklaaM34
import Derived.Test.YtbdjnfnphilklaaM32
import Derived.Test.YtbdjnfnphilklaaM35
namespace Go.Proofs.Ytbdjnfnphilklaa.Own
open Go.ChangeShapes Go.WideShapes Go.ChangeAt Go.RowKit
open Kit Slabs Ints Point
set_option linter.unusedVariables false
set_option linter.unusedSimpArgs false
set_option linter.unnecessarySimpa false
structure Bd where
  h : Int
  n : Int
  base : List (List Int)
  objs : List Ob
def Bd.dt (b : Bd) : List Dt := [.int b.h, .int b.n, .sl (dR b.base), .sl (dO b.objs)]
def unR (es : List Dt) : List (List Int) := es.map fun d => (unS d).map unI
def unO (es : List Dt) : List Ob := es.map fun d => obOf (unS d)
def bdOf (ds : List Dt) : Bd := ⟨unI (at_ ds 0), unI (at_ ds 1), unR (unS (at_ ds 2)), unO (unS (at_ ds 3))⟩
theorem ownl_nth {w : World} {e : Kd} : ∀ {n : Nat} {P : List Value} {es : List Dt} {fq : List Nat}, OwnL w (List.replicate n e) P es fq → ∀ d ∈ es, ∃ cs f, Own w e cs d f
  | 0, _, _, _, h, d, hd => by cases h; simp at hd
  | n + 1, _, _, _, h, d, hd => by
    rw [List.replicate_succ] at h
    cases h with
    | cons h r =>
      rcases List.mem_cons.1 hd with rfl | hd
      · exact ⟨_, _, h⟩
      · exact ownl_nth r d hd
theorem rows_dt {w : World} {v : Value} {es : List Dt} {fp : List Nat} (h : Own w KSS [v] (.sl es) fp) : es = dR (unR es) := by
  refine map_same (f := fun d => (unS d).map unI) (g := fun r : List Int => Dt.sl (dI r)) fun d hd => ?_
  have key : ∃ cs f, Own w (.sl .int) cs d f := by
    rcases h.sl_is with ⟨a, cap, rfl, hdn, hf⟩ | ⟨g, n, cap, es', P, fq, rfl, hdn, hf, hl, hn, hnc, hP, ho, hb⟩
    · simp only [Dt.sl.injEq] at hdn
      subst hdn; simp at hd
    · simp only [Dt.sl.injEq] at hdn
      subst hdn
      exact ownl_nth ho d hd
  obtain ⟨cs, f, ho⟩ := key
  have hl := ho.len
  obtain ⟨v, rfl⟩ : ∃ v, cs = [v] := by
    match cs, hl with
    | [v], _ => exact ⟨v, rfl⟩
  obtain ⟨es', rfl⟩ : ∃ es', d = .sl es' := by cases ho <;> exact ⟨_, rfl⟩
  rw [unS_sl, ← ints_dt ho]
theorem bd_dt {w : World} {cs : List Value} {ds : List Dt} {fp : List Nat} (h : OwnL w LBand cs ds fp) : ds = (bdOf ds).dt := by
  obtain ⟨a2, c2, a3, c3, q0, q1, s2, s3, f2, f3, _, rfl, _, o2, o3⟩ := inv_Band h
  show _ = [Dt.int q0, Dt.int q1, .sl (dR (unR s2)), .sl (dO (s3.map fun d => obOf (unS d)))]
  rw [← rows_dt o2, ← obs_dt o3]
theorem un_rows (R : List (List Int)) : unR (dR R) = R := by
  simp only [unR, dR, List.map_map]
  exact List.map_id'' (fun r => by simp [unS, un_ints]) _
theorem un_objs (l : List Ob) : unO (dO l) = l := by
  simp only [unO, dO, List.map_map]
  exact List.map_id'' (fun g => by simp [unS, ob_un]) _
theorem bd_un (b : Bd) : bdOf b.dt = b := by
  simp only [Bd.dt, bdOf, at_, unS, unI, List.getD_cons_zero, List.getD_cons_succ, un_rows, un_objs]
/-! ### What the functions answer -/
def cellsN (l : List Ob) : Nat := (l.map fun o => 2 + o.path.length).sum
theorem cells_nil : cellsN [] = 0 := rfl
theorem cells_app (l m : List Ob) : cellsN (l ++ m) = cellsN l + cellsN m := by simp [cellsN]
theorem cells_one (o : Ob) : cellsN [o] = 2 + o.path.length := by simp [cellsN]
theorem cells_take {l : List Ob} {k : Nat} (hk : k < l.length) : cellsN (l.take (k + 1)) = cellsN (l.take k) + (2 + (l.getD k ob0).path.length) := by
  rw [List.take_succ_eq_append_getElem hk, cells_app, cells_one]
  simp [List.getD, List.getElem?_eq_getElem hk]
def bdB (b : Bd) : Bool := bnB b.h b.n && decide ((b.base.length : Int) = b.h) && rowsB b.base && b.objs.all okO && decide (cellsN b.objs ≤ 60)
def mgR (b : Bd) : List (List Int) := b.objs.foldl (pnF (b.n * b.h)) b.base
def mgD (b : Bd) : Bd := if bdB b then ⟨b.h, b.n, mgR b, []⟩ else b
def adF (b : Bd) (o : Ob) : Bool := bdB b && okO o
def adI (b : Bd) (o : Ob) : Bd := if cellsN b.objs + (2 + o.path.length) ≤ 60 then ⟨b.h, b.n, b.base, b.objs ++ [o]⟩ else ⟨b.h, b.n, mgR b, [o]⟩
def adD (b : Bd) (o : Ob) : Bd := if adF b o && tbO b.h b.n o then adI b o else b
def rbD (b : Bd) : List (List Int) := if bdB b then mgR b else []
def bd0 : Bd := ⟨0, 0, [], []⟩
def nbD (h n : Int) : Bd := if bnB h n then ⟨h, n, whR h, []⟩ else bd0
theorem bd_parts {b : Bd} (h : bdB b = true) : bnB b.h b.n = true ∧ (b.base.length : Int) = b.h ∧ rowsB b.base = true ∧ b.objs.all okO = true ∧ cellsN b.objs ≤ 60 := by
  simp only [bdB, Bool.and_eq_true, decide_eq_true_eq] at h
  exact ⟨h.1.1.1.1, h.1.1.1.2, h.1.1.2, h.1.2, h.2⟩
/-! ### Memory -/
def BdRows (w : World) (B : Nat) (R : List Value) (b : Bd) (F : List Nat) : Prop := ∃ (ra : Option Addr) (rc : Nat) (rf : List Nat) (oa : Option Addr) (oc : Nat) (F2 : List Nat),
  R = [.int .i64 b.h, .int .i64 b.n, .slice ra b.base.length rc, .slice oa b.objs.length oc] ∧ Own w KSS [.slice ra b.base.length rc] (.sl (dR b.base)) rf ∧ ObsRow w B oa oc b.objs F2 ∧ F = rf ++ F2 ∧ F.Nodup ∧ ∀ x ∈ F, B ≤ x
theorem mk_bd {w : World} {ra oa : Option Addr} {rc oc : Nat} {b : Bd} {rf of : List Nat} (o2 : Own w KSS [.slice ra b.base.length rc] (.sl (dR b.base)) rf) (o3 : Own w (.sl KObject) [.slice oa b.objs.length oc] (.sl (dO b.objs)) of) :
    OwnL w LBand [.int .i64 b.h, .int .i64 b.n, .slice ra b.base.length rc, .slice oa b.objs.length oc] b.dt (rf ++ of) := by
  have := OwnL.cons (cs := [.int .i64 b.h]) (fp := []) (.int b.h) (.cons (cs := [.int .i64 b.n]) (fp := []) (.int b.n) (.cons o2 (.cons o3 .nil)))
  simp only [List.cons_append, List.nil_append, List.append_nil] at this
  exact this
theorem BdRows.own {w : World} {B : Nat} {R : List Value} {b : Bd} {F : List Nat} (h : BdRows w B R b F) : ∃ f, OwnL w LBand R b.dt f ∧ f.Nodup ∧ ∀ x ∈ f, x ∈ F := by
  obtain ⟨ra, rc, rf, oa, oc, F2, rfl, o2, o3, rfl, hn, hB⟩ := h
  obtain ⟨f3, q3, m3, s3⟩ := o3.own
  obtain ⟨n1, n2, d⟩ := nodup_parts hn
  refine ⟨_, mk_bd o2 q3, app_nodup n1 m3 (fun x hx hy => d x hx (s3 x hy)), fun x hx => ?_⟩
  rcases List.mem_append.1 hx with h | h
  · exact List.mem_append_left _ h
  · exact List.mem_append_right _ (s3 x h)
theorem BdRows.lt {w : World} {B : Nat} {R : List Value} {b : Bd} {F : List Nat} (h : BdRows w B R b F) : ∀ x ∈ F, x < w.heap.size := by
  obtain ⟨ra, rc, rf, oa, oc, F2, rfl, o2, o3, rfl, hn, hB⟩ := h
  exact mem2 (p := fun b => b < w.heap.size) o2.lt o3.lt
theorem BdRows.ge {w : World} {B : Nat} {R : List Value} {b : Bd} {F : List Nat} (h : BdRows w B R b F) : ∀ x ∈ F, B ≤ x := by
  obtain ⟨ra, rc, rf, oa, oc, F2, rfl, o2, o3, rfl, hn, hB⟩ := h; exact hB
theorem BdRows.stays {w w' : World} {B : Nat} {R : List Value} {b : Bd} {F : List Nat} (h : BdRows w B R b F) (hs : w.heap.size ≤ w'.heap.size) (hb : ∀ x ∈ F, w'.heap[x]? = w.heap[x]?) : BdRows w' B R b F := by
  obtain ⟨ra, rc, rf, oa, oc, F2, rfl, o2, o3, rfl, hn, hB⟩ := h
  exact ⟨ra, rc, rf, oa, oc, F2, rfl, o2.stays hs (fun x hm => hb x (by simp [hm])), o3.stays hs (fun x hm => hb x (by simp [hm])), rfl, hn, hB⟩
theorem BdRows.under {w w' : World} {B : Nat} {R : List Value} {b : Bd} {F : List Nat} (h : BdRows w B R b F) (hb : Below w.heap.size w w') : BdRows w' B R b F := h.stays hb.size (fun x hm => hb.block x (h.lt x hm))
theorem BdRows.turned {w w' : World} {B : Nat} {R : List Value} {b : Bd} {F : List Nat} {S : Nat → Prop} (h : BdRows w B R b F) (ht : Turns w w' S) (hS : ∀ x ∈ F, ¬ S x) : BdRows w' B R b F := h.stays ht.size (fun x hm => ht.block x (h.lt x hm) (hS x hm))
theorem BdRows.low {w : World} {B C : Nat} {R : List Value} {b : Bd} {F : List Nat} (h : BdRows w B R b F) (hC : C ≤ B) : BdRows w C R b F := by
  obtain ⟨ra, rc, rf, oa, oc, F2, rfl, o2, o3, rfl, hn, hB⟩ := h
  exact ⟨ra, rc, rf, oa, oc, F2, rfl, o2, o3.base hC, rfl, hn, fun x hx => Nat.le_trans hC (hB x hx)⟩
def BdNew (b : Bd) (w : World) (e : Ending) (w' : World) : Prop := ∃ (R : Array Value) (F : List Nat), e = .returned (.agg R) ∧ BdRows w' w.heap.size R.toList b F ∧ Below w.heap.size w w'
theorem bd_four {w : World} {R : Array Value} {b : Bd} {F : List Nat} (h : OwnL w LBand R.toList b.dt F) : ∃ ra rc oa oc rf of, R = #[.int .i64 b.h, .int .i64 b.n, .slice ra b.base.length rc, .slice oa b.objs.length oc] ∧ F = rf ++ of ∧ Own w KSS [.slice ra b.base.length rc] (.sl (dR b.base)) rf ∧ Own w (.sl KObject) [.slice oa b.objs.length oc] (.sl (dO b.objs)) of := by
  obtain ⟨a2, c2, a3, c3, f2, f3, hA, hf, o2, o3⟩ := inv_Band_ h
  simp only [len_dR, len_dO] at hA o2 o3
  exact ⟨a2, c2, a3, c3, f2, f3, Array.toList_inj.1 (by rw [hA]), by simpa using hf, o2, o3⟩
end Go.Proofs.Ytbdjnfnphilklaa.Own
namespace Go.Proofs.Ytbdjnfnphilklaa.Own
open Go.ChangeShapes Go.WideShapes Go.ChangeAt Go.RowKit
open Kit Slabs Ints Point
open Go.Proofs.Ytbdjnfnphilklaa.Ins (obK gen_any9)
set_option linter.unusedVariables false
set_option linter.unusedSimpArgs false
set_option linter.unnecessarySimpa false
set_option maxRecDepth 100000
structure BdA (w : World) (b : Bd) (ra : Option Addr) (rc : Nat) (oa : Option Addr) (oc : Nat) : Prop where
  s : b.base.length + tot b.base + (b.objs.length + bulkL (dO b.objs)) ≤ 1048576
  r : RR w ra b.base
  o : ∃ f, Own w (.sl KObject) [.slice oa b.objs.length oc] (.sl (dO b.objs)) f
theorem BdA.on {w w' : World} {b : Bd} {ra oa : Option Addr} {rc oc : Nat} (h : BdA w b ra rc oa oc) (hb : Below w.heap.size w w') : BdA w' b ra rc oa oc := by
  obtain ⟨f, o⟩ := h.o
  exact ⟨h.s, h.r.on hb, f, o.under hb⟩
theorem BdA.obl {w : World} {b : Bd} {ra oa : Option Addr} {rc oc : Nat} (h : BdA w b ra rc oa oc) : ObL w oa b.objs := by
  obtain ⟨f, o⟩ := h.o
  have hs := h.s
  have := obl_of (es := dO b.objs) (c := oc) (by rw [len_dO]; omega) (by rw [len_dO]; exact o)
  rwa [show obsOf (dO b.objs) = b.objs from un_objs b.objs] at this
theorem cells_le (l : List Ob) : cellsN l ≤ 2 * (l.length + bulkL (dO l)) := by
  induction l with
  | nil => simp [cellsN]
  | cons o l ih =>
    have e : cellsN (o :: l) = 2 + o.path.length + cellsN l := by simp [cellsN]
    have e2 : bulkL (dO (o :: l)) = o.path.length + bulkL (dO l) := by
      show bulkL (Dt.st o.dt :: dO l) = _
      simp only [bulkL, Dt.bulk, Ob.dt, len_dP, bulk_dP]; omega
    rw [e, e2, List.length_cons]; omega
theorem cells_part (l : List Ob) (k : Nat) : cellsN (l.take k) ≤ cellsN l := by
  have : cellsN (l.take k ++ l.drop k) = cellsN (l.take k) + cellsN (l.drop k) := cells_app _ _
  rw [List.take_append_drop] at this; omega
theorem cells_impl (w : World) (pa : Option Addr) (pc : Nat) (n : Nat) (g x0 y0 x1 y1 : Int) (hn : n ≤ 1048576) :
    Calls Try.prog 38 #[.agg #[.slice pa n pc, .int .i64 g, .int .i64 x0, .int .i64 y0, .int .i64 x1, .int .i64 y1]] w fun e w' => e = .returned (.int .i64 (2 + (n : Int))) ∧ Below w.heap.size w w' := by
  go_enter Try.func38, Try.ntmps38
  go_wp2
  go_ret
  exact ⟨rfl, by go_grown⟩
set_option maxHeartbeats 2000000 in
theorem bcells_impl (w : World) (b : Bd) (ra : Option Addr) (rc : Nat) (oa : Option Addr) (oc : Nat) (h : BdA w b ra rc oa oc) :
    Calls Try.prog 14 #[.agg #[.int .i64 b.h, .int .i64 b.n, .slice ra b.base.length rc, .slice oa b.objs.length oc]] w fun e w' => e = .returned (.int .i64 (cellsN b.objs : Nat)) ∧ Below w.heap.size w w' := by
  have HP := Lib.hid h.obl
  have HM := Lib.hid (fun k => Nat.le_trans (cells_part b.objs k) (Nat.le_trans (cells_le b.objs) (show 2 * (b.objs.length + bulkL (dO b.objs)) ≤ 2097152 by have := h.s; omega)))
  have hn0 : b.objs.length ≤ 1048576 := by have := h.s; omega
  clear h
  generalize b.base.length = m
  generalize b.objs = l at *
  generalize b.h = ht
  generalize b.n = bd
  obtain ⟨n, hN⟩ : ∃ n, l.length = n := ⟨_, rfl⟩
  have HN := Lib.hid hN
  rw [hN] at hn0 ⊢
  clear hN
  go_enter Try.func14, Try.ntmps14
  go_wp2
  go_loopw [3, 9] (fun v3 v9 wr => ∃ (k y : Nat), k ≤ n ∧ v9 = .int .i64 (k : Int) ∧ v3 = .int .i64 (y : Int) ∧ y ≤ 2097152 ∧ Hid (cellsN (l.take k) = y) ∧ Below w.heap.size w wr) (fun v3 v9 _ => n - (intOf v9).toNat)
  case atStart => exact ⟨0, 0, Nat.zero_le _, rfl, rfl, by omega, Lib.hid rfl, by go_grown⟩
  case round =>
    obtain ⟨k, y, hk, rfl, rfl, hy, hY, hB⟩ := hrel
    by_cases hlt : k < n
    · have hkl : k < l.length := by rw [HN.out]; exact hlt
      obtain ⟨g, rfl, hg, hc⟩ := (HP.out.on hB).some (by rw [HN.out]; omega)
      obtain ⟨pa, pc, h6, hpa, hpl⟩ := hc k hkl
      have htk := cells_take hkl
      have hmx := HM.out (k + 1)
      obtain ⟨o, hx⟩ : ∃ o, l.getD k ob0 = o := ⟨_, rfl⟩
      rw [hx] at h6 hpa hpl htk
      rw [hY.out] at htk
      have q0 : wr.cell? ⟨g, k * 6, none⟩ = some (.slice pa o.path.length pc) := h6 0 _ rfl
      have q1 : wr.cell? ⟨g, k * 6 + 1, none⟩ = some (.int .i64 o.gray) := h6 1 _ rfl
      have q2 : wr.cell? ⟨g, k * 6 + 2, none⟩ = some (.int .i64 o.x0) := h6 2 _ rfl
      have q3 : wr.cell? ⟨g, k * 6 + 3, none⟩ = some (.int .i64 o.y0) := h6 3 _ rfl
      have q4 : wr.cell? ⟨g, k * 6 + 4, none⟩ = some (.int .i64 o.x1) := h6 4 _ rfl
      have q5 : wr.cell? ⟨g, k * 6 + 5, none⟩ = some (.int .i64 o.y1) := h6 5 _ rfl
      have i0 : (0 : Int) ≤ (k : Int) := by omega
      have i1 : (k : Int) < (n : Int) := by omega
      obtain ⟨pl, hp⟩ : ∃ pl, o.path.length = pl := ⟨_, rfl⟩
      rw [hp] at q0 hpl htk
      rw [htk] at hmx
      have HX := Lib.hid (And.intro htk (on_of hB (show Below wr.heap.size wr (wr.alloc (.cells #[.slice pa pl pc, .int .i64 o.gray, .int .i64 o.x0, .int .i64 o.y0, .int .i64 o.x1, .int .i64 o.y1] 40)) by go_grown)))
      clear hx hpa hc h6 hB htk hp
      go_wp2_with fail
      clear q0 q1 q2 q3 q4 q5
      ((with_reducible refine (cells_impl _ pa pc pl _ _ _ _ _ hpl).mono ?_); rintro e w1 ⟨rfl, bb⟩)
      have HB := Lib.hid (on_of HX.out.2 bb)
      have HE := Lib.hid (show cellsN (l.take (k + 1)) = y + (2 + pl) from HX.out.1)
      have e9 : IntKind.i64.wrap ((y : Int) + (2 + (pl : Int))) = ((y + (2 + pl) : Nat) : Int) := by rw [IntWalk.i64_in _ ⟨by omega, by omega⟩]; omega
      have hy2 : y + (2 + pl) ≤ 2097152 := hmx
      clear bb hmx
      go_wp2
      go_roundw
      case rel => exact ⟨k + 1, y + (2 + pl), by omega, by go_num, by simp [e9], hy2, HE, HB.out⟩
      case measure => simp [intOf]; omega
    · obtain rfl : k = n := by omega
      have HB := Lib.hid hB
      have HE := Lib.hid (show cellsN l = y by rw [← hY.out, ← HN.out, List.take_length])
      clear hB
      go_wp2
      go_ret
      exact ⟨ret_int (by rw [HE.out]), HB.out⟩
theorem bdB_eq (b : Bd) : bdB b = (bnB b.h b.n && decide ((b.base.length : Int) = b.h) && decide (cellsN b.objs ≤ 60) && rowsB b.base && b.objs.all okO) := by
  unfold bdB
  cases bnB b.h b.n <;> cases rowsB b.base <;> cases b.objs.all okO <;> simp [Bool.and_comm]
set_option maxHeartbeats 4000000 in
theorem bok_impl (w : World) (b : Bd) (ra : Option Addr) (rc : Nat) (oa : Option Addr) (oc : Nat) (h : BdA w b ra rc oa oc) :
    Calls Try.prog 15 #[.agg #[.int .i64 b.h, .int .i64 b.n, .slice ra b.base.length rc, .slice oa b.objs.length oc]] w fun e w' => e = .returned (.bool (bdB b)) ∧ Below w.heap.size w w' := by
  have hw0 : Below w.heap.size w (w.alloc (.cells #[.int .i64 b.h, .int .i64 b.n, .slice ra b.base.length rc, .slice oa b.objs.length oc] 32)) := by go_grown
  have hs := h.s
  have HI := Lib.hid (fun W => isband_impl b.h b.n W)
  have HC := Lib.hid (fun W (hW : Below w.heap.size w W) => bcells_impl W b ra rc oa oc (h.on hW))
  have HR := Lib.hid (fun W (hW : Below w.heap.size w W) => rowsok_impl W ra rc b.base (by omega) (by omega) (h.r.on hW))
  have HO := Lib.hid (fun W (hW : Below w.heap.size w W) => allob_impl W oa oc b.objs (by omega) (h.obl.on hW))
  have HV := Lib.hid (bdB_eq b)
  have hcm : cellsN b.objs ≤ 2097152 := by have := cells_le b.objs; omega
  have hm : b.base.length ≤ 1048576 := by omega
  have hn : b.objs.length ≤ 1048576 := by omega
  have HW0 := Lib.hid hw0
  generalize bdB b = V at *
  generalize bnB b.h b.n = t1 at *
  generalize rowsB b.base = t4 at *
  generalize b.objs.all okO = t5 at *
  generalize cellsN b.objs = cn at *
  generalize b.base.length = m at *
  generalize b.objs.length = n at *
  generalize b.h = ht at *
  generalize b.n = bd at *
  clear hs h hw0
  have hB : Blk (w.alloc (.cells #[.int .i64 ht, .int .i64 bd, .slice ra m rc, .slice oa n oc] 32)) w.heap.size [.int .i64 ht, .int .i64 bd, .slice ra m rc, .slice oa n oc] := Blk.new w _ _ rfl
  have HB0 := Lib.hid hB
  clear hB
  go_enter Try.func15, Try.ntmps15
  go_wp2_with fail
  ((with_reducible refine (HI.out _).mono ?_); rintro e w1 ⟨rfl, bb⟩)
  have HW1 := Lib.hid (on_of HW0.out bb)
  have HB1 := Lib.hid (HB0.out.keep bb)
  clear bb
  have c0 := HB1.out.1 0 _ rfl
  have c1 := HB1.out.1 1 _ rfl
  have c2 := HB1.out.1 2 _ rfl
  have c3 := HB1.out.1 3 _ rfl
  cases t1
  · go_wp2
    go_ret
    exact ⟨ret_bool (by rw [HV.out]; rfl), HW1.out⟩
  · by_cases e1 : (m : Int) = ht
    · have e2 : ((m : Int) == ht) = true := by simpa using e1
      go_wp2_with fail
      ((with_reducible refine (HC.out _ HW1.out).mono ?_); rintro e w2 ⟨rfl, bb⟩)
      have HW2 := Lib.hid (on_of HW1.out bb)
      have HB2 := Lib.hid (HB1.out.keep bb)
      clear bb c0 c1 c2 c3
      by_cases e3 : cn ≤ 60
      · have e4 : decide ((60 : Int) < (cn : Int)) = false := by simp; omega
        have c2 := HB2.out.1 2 _ rfl
        have c3 := HB2.out.1 3 _ rfl
        go_wp2_with fail
        ((with_reducible refine (HR.out _ HW2.out).mono ?_); rintro e w3 ⟨rfl, bb⟩)
        have HW3 := Lib.hid (on_of HW2.out bb)
        have HB3 := Lib.hid (HB2.out.keep bb)
        clear bb c2 c3
        have c3 := HB3.out.1 3 _ rfl
        cases t4
        · go_wp2
          go_ret
          exact ⟨ret_bool (by rw [HV.out]; simp), HW3.out⟩
        · go_wp2_with fail
          ((with_reducible refine (HO.out _ HW3.out).mono ?_); rintro e w4 ⟨rfl, bb⟩)
          have HW4 := Lib.hid (on_of HW3.out bb)
          clear bb c3
          go_wp2
          go_ret
          exact ⟨ret_bool (by rw [HV.out]; simp [e1, e3]), HW4.out⟩
      · have e4 : decide ((60 : Int) < (cn : Int)) = true := by simp; omega
        go_wp2
        go_ret
        exact ⟨ret_bool (by rw [HV.out]; simp [e3]), HW2.out⟩
    · have e2 : ((m : Int) == ht) = false := by simpa using e1
      go_wp2
      go_ret
      exact ⟨ret_bool (by rw [HV.out]; simp [e1]), HW1.out⟩
end Go.Proofs.Ytbdjnfnphilklaa.Own
namespace Go.Proofs.Ytbdjnfnphilklaa.Own
open Go.ChangeShapes Go.WideShapes Go.ChangeAt Go.RowKit
open Kit Slabs Ints Point
set_option linter.unusedVariables false
set_option linter.unusedSimpArgs false
set_option linter.unnecessarySimpa false
set_option maxRecDepth 100000
abbrev Z4 : Array Value := #[.int .i64 0, .int .i64 0, .slice none 0 0, .slice none 0 0]
theorem nd_two {f2 F3 : List Nat} {m : Nat} (h2 : f2.Nodup) (h3 : F3.Nodup) (l2 : ∀ x ∈ f2, x < m) (g3 : ∀ x ∈ F3, m ≤ x) : (f2 ++ F3).Nodup :=
  app_nodup h2 h3 (fun x hx hy => by have := l2 x hx; have := g3 x hy; omega)
attribute [local go_sem ↓] hload_Band hstore_Band
set_option maxHeartbeats 4000000 in
theorem bclone_impl (w : World) (b : Bd) (ra : Option Addr) (rc : Nat) (oa : Option Addr) (oc : Nat) (h : BdA w b ra rc oa oc) :
    Calls Try.prog 34 #[.agg #[.int .i64 b.h, .int .i64 b.n, .slice ra b.base.length rc, .slice oa b.objs.length oc]] w (BdNew b w) := by
  have hs := h.s
  have HB := Lib.hid h
  obtain ⟨fo, hoo⟩ := h.o
  have HOo := Lib.hid hoo
  clear h hoo
  have hw2 : ((w.alloc (.cells #[.int .i64 b.h, .int .i64 b.n, .slice ra b.base.length rc, .slice oa b.objs.length oc] 32)).alloc (.cells Z4 32)).heap.size = w.heap.size + 2 := by simp
  have BA : Blk ((w.alloc (.cells #[.int .i64 b.h, .int .i64 b.n, .slice ra b.base.length rc, .slice oa b.objs.length oc] 32)).alloc (.cells Z4 32)) w.heap.size [.int .i64 b.h, .int .i64 b.n, .slice ra b.base.length rc, .slice oa b.objs.length oc] := (Blk.new w _ 32 rfl).alloc _
  have BR : Blk ((w.alloc (.cells #[.int .i64 b.h, .int .i64 b.n, .slice ra b.base.length rc, .slice oa b.objs.length oc] 32)).alloc (.cells Z4 32)) (w.heap.size + 1) Z4.toList := Blk.new _ _ 32 (by simp)
  have hW : Below w.heap.size w ((w.alloc (.cells #[.int .i64 b.h, .int .i64 b.n, .slice ra b.base.length rc, .slice oa b.objs.length oc] 32)).alloc (.cells Z4 32)) := by go_grown
  have HS := Lib.hid (And.intro BA (And.intro BR (And.intro hW hw2)))
  clear BA BR hW hw2
  go_enter Try.func34, Try.ntmps34
  go_upto_region 1 with (fail)
  obtain ⟨W, hWe⟩ : ∃ W, W = ((w.alloc (.cells #[.int .i64 b.h, .int .i64 b.n, .slice ra b.base.length rc, .slice oa b.objs.length oc] 32)).alloc (.cells Z4 32)) := ⟨_, rfl⟩
  rw [← hWe] at HS ⊢
  clear hWe
  obtain ⟨GA, hGA⟩ : ∃ x, w.heap.size = x := ⟨_, rfl⟩
  obtain ⟨GR, hGR⟩ : ∃ x, w.heap.size + 1 = x := ⟨_, rfl⟩
  have HS2 : Hid (Blk W GA [.int .i64 b.h, .int .i64 b.n, .slice ra b.base.length rc, .slice oa b.objs.length oc] ∧ Blk W GR Z4.toList) := Lib.hid ⟨hGA ▸ HS.out.1, hGR ▸ HS.out.2.1⟩
  rw [hGR]
  have hWw := Lib.hid HS.out.2.2
  have gA : w.heap.size ≤ GA := by omega
  have gAR : GA < GR := by omega
  have gAW : GA < W.heap.size := by have := hWw.out.2; omega
  have gR : GR < W.heap.size := by have := hWw.out.2; omega
  rw [hGA]
  clear HS hGR
  have c2' := HS2.out.1.1 2 _ rfl
  have c3' := HS2.out.1.1 3 _ rfl
  have fz := HS2.out.1.2.1
  clear hGA
  have hWd := Lib.hid (show Below w.heap.size w W.drew from by have := hWw.out.1; go_grown)
  go_region_law (first
    | (go_simp; go_at_call 64; (with_reducible refine (copyrows_impl _ ra rc b.base (by omega) (by omega) (HB.out.r.on hWd.out)).mono ?_); rintro e w1 ⟨m2, d2, f2, rfl, o2, n2, g2, b1⟩; have b1 := on_of (W := W) (by go_grown) b1; have g2 : ∀ x ∈ f2, W.heap.size ≤ x := g2; have k3 := ((bcell b1).1 GA 3 gAW).trans c3'; have hz := b1.size; have HR0 := Lib.hid (And.intro o2 (And.intro n2 (And.intro g2 b1))); clear o2 n2 g2 b1)
    | (go_simp; go_at_call 65; (with_reducible refine (cobs_impl _ oa oc b.objs (by omega) (HOo.out.under (on_of hWw.out.1 HR0.out.2.2.2))).mono ?_); rintro e w2 ⟨m3, d3, F3, rfl, r3, b2⟩; have hz2 := b2.size; have ka := ((bcell b2).1 GA 2 (by omega)).trans (((bcell HR0.out.2.2.2).1 GA 2 gAW).trans c2'); have kb := ((bcell b2).1 GA 3 (by omega)).trans k3; have kf : ∀ o, w2.frozen? ⟨GA, o, none⟩ = false := fun o => ((bcell b2).2 GA o (by omega)).trans (((bcell HR0.out.2.2.2).2 GA o (by omega)).trans (fz o)); have HR5 := Lib.hid (And.intro r3 b2); clear r3 b2))
  all_goals
    have o2 := HR0.out.1.under HR5.out.2
    have l2 := HR0.out.1.lt
    have g2 := HR0.out.2.2.1
    have r3 := HR5.out.1
    have g3 := r3.ge
    have bW2 := on_of (on_of hWw.out.1 HR0.out.2.2.2) HR5.out.2
    have bV := (bW2.setCell (p := ⟨GA, 2, none⟩) gA (.slice m2 b.base.length d2)).setCell (p := ⟨GA, 3, none⟩) gA (.slice m3 b.objs.length d3)
    have BA2 := (HS2.out.1.keep HR0.out.2.2.2).keep HR5.out.2
    have BV := Blk.put (P := [.int .i64 b.h, .int .i64 b.n, .slice m2 b.base.length d2]) (R := []) (Blk.put (P := [.int .i64 b.h, .int .i64 b.n]) BA2 rfl (.slice m2 b.base.length d2)) rfl (.slice m3 b.objs.length d3)
    have BR2 := (((HS2.out.2.keep HR0.out.2.2.2).keep HR5.out.2).other (b' := GA) (by omega) 2 (.slice m2 b.base.length d2)).other (b' := GA) (by omega) 3 (.slice m3 b.objs.length d3)
    have tV : Turns w2 ((w2.setCell ⟨GA, 2, none⟩ (.slice m2 b.base.length d2)).setCell ⟨GA, 3, none⟩ (.slice m3 b.objs.length d3)) (fun x => x = GA) := Turns.one (Turns.one (Turns.refl w2 (fun x => x = GA)) 2 _) 3 _
    have sV := tV.size
    generalize ((w2.setCell ⟨GA, 2, none⟩ (.slice m2 b.base.length d2)).setCell ⟨GA, 3, none⟩ (.slice m3 b.objs.length d3)) = V at bV BV BR2 tV sV ⊢
    have gw : w.heap.size ≤ W.heap.size := hWw.out.1.size
    have nV := nd_two HR0.out.2.1 r3.nodup l2 g3
    have gV := mem2 (p := fun x => W.heap.size ≤ x) g2 (fun x hx => by have := g3 x hx; omega)
    have GV : BdRows V w.heap.size [.int .i64 b.h, .int .i64 b.n, .slice m2 b.base.length d2, .slice m3 b.objs.length d3] b (f2 ++ F3) := ⟨m2, d2, f2, m3, d3, F3, rfl, o2.turned tV (fun x hx e => by have e' : x = GA := e; have := g2 x hx; omega), (r3.turned tV (fun x hx e => by have e' : x = GA := e; have := g3 x hx; omega)).base (by omega), rfl, nV, fun x hx => by have := gV x hx; omega⟩
    obtain ⟨fV, oV, _, _⟩ := GV.own
    obtain ⟨R, E, s1, s2, s3, e4, tE, bE⟩ := hand_over (P := Try.prog) (T := 32) Try.isAgg32 Try.sizeOf32 BV BR2 rfl oV rfl bV (by omega) (by omega)
    have GE := GV.turned tE (fun x hx e => by have := gV x hx; have e' : x = GR := e; omega)
    have GE : BdRows E w.heap.size R.toList b (f2 ++ F3) := by rw [e4]; exact GE
    have HX := Lib.hid (And.intro GE (And.intro bE s3))
    clear o2 l2 g2 r3 g3 bV BV BR2 BA2 bW2 tV oV nV gV GV GE bE s3 ka kb kf k3 c2' c3' fz e4 tE sV
    go_wp2
    refine bodyPost_ret (v := .agg R) ?_ rfl ⟨R, _, rfl, HX.out.1, HX.out.2.1⟩
    exact results_h Try.results34 (by rfl) HX.out.2.2
end Go.Proofs.Ytbdjnfnphilklaa.Own
namespace Go.Proofs.Ytbdjnfnphilklaa.Own
open Go.ChangeShapes Go.WideShapes Go.ChangeAt Go.RowKit
open Kit Slabs Ints Point
open Go.Proofs.Ytbdjnfnphilklaa.Ins (gen_any9)
set_option linter.unusedVariables false
set_option linter.unusedSimpArgs false
set_option linter.unnecessarySimpa false
set_option maxRecDepth 100000
structure MgS (w wr : World) (X : Nat) (ht bd : Int) (ra : Option Addr) (m rc : Nat) (R : List (List Int)) (rf : List Nat) (oa : Option Addr) (n oc : Nat) (l : List Ob) (of : List Nat) : Prop where
  X : Blk wr X [.int .i64 ht, .int .i64 bd, .slice ra m rc, .slice oa n oc]
  R : Own wr KSS [.slice ra m rc] (.sl (dR R)) rf
  O : Own wr (.sl KObject) [.slice oa n oc] (.sl (dO l)) of
  T : Turns w wr (fun x => x ∈ rf)
theorem MgS.on {w wr w' : World} {X : Nat} {ht bd : Int} {ra : Option Addr} {m rc : Nat} {R : List (List Int)} {rf : List Nat} {oa : Option Addr} {n oc : Nat} {l : List Ob} {of : List Nat} (h : MgS w wr X ht bd ra m rc R rf oa n oc l of) (hb : Below wr.heap.size wr w') : MgS w w' X ht bd ra m rc R rf oa n oc l of :=
  ⟨h.X.keep hb, h.R.under hb, h.O.under hb, h.T.call hb⟩
theorem MgS.turn {w wr w' : World} {X : Nat} {ht bd : Int} {ra : Option Addr} {m rc : Nat} {R R' : List (List Int)} {rf : List Nat} {oa : Option Addr} {n oc : Nat} {l : List Ob} {of : List Nat} (h : MgS w wr X ht bd ra m rc R rf oa n oc l of) (hx : X ∉ rf) (hd : ∀ x ∈ of, x ∉ rf) (ht2 : Turns wr w' (fun x => x ∈ rf)) (ho : Own w' KSS [.slice ra m rc] (.sl (dR R')) rf) : MgS w w' X ht bd ra m rc R' rf oa n oc l of :=
  ⟨h.X.turned ht2 hx, ho, h.O.turned ht2 hd, h.T.trans ht2⟩
theorem own_obl {w : World} {oa : Option Addr} {n oc : Nat} {l : List Ob} {of : List Nat} (hn : l.length = n) (hb : l.length + bulkL (dO l) ≤ 1048576) (h : Own w (.sl KObject) [.slice oa n oc] (.sl (dO l)) of) : ObL w oa l := by
  subst hn
  have := obl_of (es := dO l) (c := oc) (by rw [len_dO]; omega) (by rw [len_dO]; exact h)
  rwa [show obsOf (dO l) = l from un_objs l] at this
theorem path_at_turn {w : World} {oa : Option Addr} {n oc : Nat} {l : List Ob} {of : List Nat} {k : Nat} (hn : l.length = n) (hb : l.length + bulkL (dO l) ≤ 1048576) (h : Own w (.sl KObject) [.slice oa n oc] (.sl (dO l)) of) (hk : k < l.length) :
    ∃ g pa pc fq, oa = some ⟨g, 0, none⟩ ∧ g < w.heap.size ∧ (∀ j u, (sixo (l.getD k ob0) pa pc)[j]? = some u → w.cell? ⟨g, k * 6 + j, none⟩ = some u) ∧ OwnL w LObject (sixo (l.getD k ob0) pa pc) (l.getD k ob0).dt fq ∧ (l.getD k ob0).path.length ≤ 1048576 ∧ (∀ x ∈ fq, x ∈ of) := by
  subst hn
  obtain ⟨_, hr⟩ := h.row
  obtain ⟨g, rfl, _⟩ := hr (by omega)
  have hk' : k < (dO l).length := by rw [len_dO]; exact hk
  obtain ⟨hg, hsub, cs, ds, fq, ed, od, ld, hfq, hcell⟩ := h.elt hk'
  have e3 : (dO l)[k] = .st (l.getD k ob0).dt := by simp [dO, List.getD, List.getElem?_eq_getElem hk]
  rw [e3] at ed
  injection ed with ed
  subst ed
  have hbk := bulk_elt hk'
  rw [e3] at hbk
  have hbd : bulkL (l.getD k ob0).dt ≤ 1048576 := by simp only [Dt.bulk] at hbk; omega
  have od' : OwnL w LObject cs.toArray.toList (l.getD k ob0).dt fq := by simpa using od
  obtain ⟨pa, pc, hA, hp⟩ := Ins.obj_open od'
  have hcs : cs = sixo (l.getD k ob0) pa pc := by
    have := congrArg Array.toList hA
    simpa [sixo, sixv] using this
  subst hcs
  exact ⟨g, pa, pc, fq, rfl, hg, fun j u hu => hcell w (Below.refl _ _) j u hu, od, Ins.obj_len hbd, hfq⟩
theorem six_path {w : World} {pa : Option Addr} {pc : Nat} {o : Ob} {fq : List Nat} (h : OwnL w LObject (sixo o pa pc) o.dt fq) : Ins.PathAt w pa o.path := by
  obtain ⟨a, c, hA, hp⟩ := Ins.obj_open (A := (sixo o pa pc).toArray) (by simpa using h)
  have := congrArg Array.toList hA
  simp only [sixo, sixv, List.toList_toArray, List.cons.injEq, Value.slice.injEq] at this
  obtain ⟨⟨rfl, _⟩, _⟩ := this
  exact hp
theorem three_cells {V : World} {X : Nat} {v0 v1 v2 v3 : Value} (h : Blk V X [v0, v1, v2, v3]) : V.cell? ⟨X, 0, none⟩ = some v0 ∧ V.cell? ⟨X, 1, none⟩ = some v1 ∧ V.cell? ⟨X, 2, none⟩ = some v2 ∧ V.cell? ⟨X, 3, none⟩ = some v3 ∧ (∀ o, V.frozen? ⟨X, o, none⟩ = false) ∧ X < V.heap.size :=
  ⟨h.1 0 _ rfl, h.1 1 _ rfl, h.1 2 _ rfl, h.1 3 _ rfl, h.2.1, h.2.2⟩
set_option maxHeartbeats 4000000 in
theorem merge_impl (w : World) (X : Nat) (b : Bd) (ra : Option Addr) (rc : Nat) (rf : List Nat) (oa : Option Addr) (oc : Nat) (of : List Nat) (hb : bdB b = true) (hs : b.objs.length + bulkL (dO b.objs) ≤ 1048576)
    (hX : Blk w X [.int .i64 b.h, .int .i64 b.n, .slice ra b.base.length rc, .slice oa b.objs.length oc]) (hR : Own w KSS [.slice ra b.base.length rc] (.sl (dR b.base)) rf) (hn : rf.Nodup) (hx : X ∉ rf) (hO : Own w (.sl KObject) [.slice oa b.objs.length oc] (.sl (dO b.objs)) of) (hd : ∀ x ∈ of, x ∉ rf) :
    Calls Try.prog 70 #[.pointer (some ⟨X, 0, none⟩)] w fun e w' => e = .returned (.tuple #[]) ∧ Blk w' X [.int .i64 b.h, .int .i64 b.n, .slice ra b.base.length rc, .slice none 0 0] ∧ Own w' KSS [.slice ra b.base.length rc] (.sl (dR (mgR b))) rf ∧ Turns w w' (fun x => x = X ∨ x ∈ rf) := by
  obtain ⟨p1, p2, p3, p4, p5⟩ := bd_parts hb
  obtain ⟨b0, b1, b2, b3, b4, b5⟩ := bn_rows p1
  have HT : Hid (mgR b = b.objs.foldl (pnF (b.n * b.h)) b.base) := Lib.hid rfl
  have hl0 : b.objs.length ≤ 1048576 := by omega
  have e1 : IntKind.i64.wrap (b.h * b.n) = b.n * b.h := by rw [Int.mul_comm]; exact IntWalk.i64_in _ ⟨by omega, by omega⟩
  obtain ⟨n, hN⟩ : ∃ n, b.objs.length = n := ⟨_, rfl⟩
  obtain ⟨m, hM⟩ : ∃ m, b.base.length = m := ⟨_, rfl⟩
  have h32 := (rows32 p3).2
  have hF : Hid (0 ≤ b.n * b.h ∧ b.n * b.h ≤ 32) := Lib.hid ⟨b3, by omega⟩
  have hm : m ≤ 32 := by omega
  rw [hM, hN] at hX
  rw [hM] at hR ⊢
  rw [hN] at hO
  have S0 : MgS w w X b.h b.n ra m rc b.base rf oa n oc b.objs of := ⟨hX, hR, hO, Turns.refl _ _⟩
  have HS0 := Lib.hid S0
  have HN := Lib.hid (And.intro hN (And.intro hM (And.intro hs (And.intro hn (And.intro hx (And.intro hd h32))))))
  rw [hN] at hl0
  generalize mgR b = T at *
  generalize b.n * b.h = f at *
  generalize b.base = R0 at *
  generalize b.objs = l at *
  generalize b.h = ht at *
  generalize b.n = bd at *
  obtain ⟨k0, k1, k2, k3, _, hzX⟩ := three_cells hX
  clear S0 hb hs hX hR hn hx hO hd p1 p2 p3 p4 p5 h32 hN hM b0 b1 b2 b3 b4 b5
  go_enter Try.func70, Try.ntmps70
  go_wp2
  clear k0 k1 k2 k3
  go_loopw [9] (fun v wr => ∃ k : Nat, k ≤ n ∧ v = .int .i64 (k : Int) ∧ Hid (MgS w wr X ht bd ra m rc ((l.take k).foldl (pnF f) R0) rf oa n oc l of)) (fun v _ => n - (intOf v).toNat)
  case atStart => exact ⟨0, Nat.zero_le _, rfl, HS0⟩
  case round =>
    obtain ⟨k, hk, rfl, hL⟩ := hrel
    by_cases hlt : k < n
    · have hkl : k < l.length := by rw [HN.out.1]; exact hlt
      obtain ⟨g, pa, pc, fq, rfl, hg, h6, hoo, hpl, hfq⟩ := path_at_turn HN.out.1 HN.out.2.2.1 hL.out.O hkl
      have htk : (l.take (k + 1)).foldl (pnF f) R0 = pnF f ((l.take k).foldl (pnF f) R0) (l.getD k ob0) := by
        rw [List.take_succ_eq_append_getElem hkl, List.foldl_append]
        simp [List.getD, List.getElem?_eq_getElem hkl]
      obtain ⟨f1, f2⟩ := foldF f (l.take k) HN.out.2.1 HN.out.2.2.2.2.2.2
      obtain ⟨o, hx⟩ : ∃ o, l.getD k ob0 = o := ⟨_, rfl⟩
      rw [hx] at h6 hoo hpl htk
      obtain ⟨R, hR⟩ : ∃ R, (l.take k).foldl (pnF f) R0 = R := ⟨_, rfl⟩
      rw [hR] at f1 f2 htk hL
      have q0 : wr.cell? ⟨g, k * 6, none⟩ = some (.slice pa o.path.length pc) := h6 0 _ rfl
      have q1 : wr.cell? ⟨g, k * 6 + 1, none⟩ = some (.int .i64 o.gray) := h6 1 _ rfl
      have q2 : wr.cell? ⟨g, k * 6 + 2, none⟩ = some (.int .i64 o.x0) := h6 2 _ rfl
      have q3 : wr.cell? ⟨g, k * 6 + 3, none⟩ = some (.int .i64 o.y0) := h6 3 _ rfl
      have q4 : wr.cell? ⟨g, k * 6 + 4, none⟩ = some (.int .i64 o.x1) := h6 4 _ rfl
      have q5 : wr.cell? ⟨g, k * 6 + 5, none⟩ = some (.int .i64 o.y1) := h6 5 _ rfl
      have i0 : (0 : Int) ≤ (k : Int) := by omega
      have i1 : (k : Int) < (n : Int) := by omega
      have hb1 : Below wr.heap.size wr (wr.alloc (.cells #[.slice pa o.path.length pc, .int .i64 o.gray, .int .i64 o.x0, .int .i64 o.y0, .int .i64 o.x1, .int .i64 o.y1] 40)) := by go_grown
      have hV0 := hL.out.on hb1
      have hV6 : Blk (wr.alloc (.cells #[.slice pa o.path.length pc, .int .i64 o.gray, .int .i64 o.x0, .int .i64 o.y0, .int .i64 o.x1, .int .i64 o.y1] 40)) wr.heap.size (sixo o pa pc) := Blk.new wr _ _ rfl
      have hoo1 := hoo.under hb1
      have HX := Lib.hid (And.intro htk (And.intro f1 (And.intro f2 (And.intro hfq (And.intro hpl (And.intro hoo1 (And.intro hV0 hV6)))))))
      have hrfl := HS0.out.R.lt
      have hsz := hL.out.T.size
      have hvr : wr.heap.size ∉ rf := fun hm => by have := hrfl _ hm; omega
      have HVR := Lib.hid hvr
      clear hx hR hpl h6 htk f1 f2 hfq hoo hoo1 hV0 hV6 hb1 hrfl hsz hvr
      go_upto_region 3 with (fail)
      clear q0 q1 q2 q3 q4 q5
      refine gen_any9 (fun V => MgS w V X ht bd ra m rc R rf (some ⟨g, 0, none⟩) n oc l of ∧ Blk V wr.heap.size (sixo o pa pc) ∧ OwnL V LObject (sixo o pa pc) o.dt fq) ⟨HX.out.2.2.2.2.2.2.1, HX.out.2.2.2.2.2.2.2, HX.out.2.2.2.2.2.1⟩ ?_
      rintro V ⟨hV, hV6, hVo⟩
      obtain ⟨GV, hGV⟩ : ∃ x, wr.heap.size = x := ⟨_, rfl⟩
      rw [hGV] at hV6 HVR ⊢
      have HVS := Lib.hid (And.intro hV (And.intro hV6 hVo))
      clear hV hV6 hVo
      obtain ⟨x0, x1, x2, x3, _, xz⟩ := three_cells HVS.out.1.X
      obtain ⟨k0, k1, k2, k3, k4, k5, kz⟩ := sixc HVS.out.2.1
      have HK : Hid (∀ W, Turns V W (fun x => x ∈ rf) → (W.cell? ⟨X, 0, none⟩ = some (.int .i64 ht) ∧ W.cell? ⟨X, 1, none⟩ = some (.int .i64 bd) ∧ W.cell? ⟨X, 2, none⟩ = some (.slice ra m rc)) ∧ W.cell? ⟨GV, 0, none⟩ = some (.slice pa o.path.length pc) ∧ W.cell? ⟨GV, 1, none⟩ = some (.int .i64 o.gray) ∧ W.cell? ⟨GV, 2, none⟩ = some (.int .i64 o.x0) ∧ W.cell? ⟨GV, 3, none⟩ = some (.int .i64 o.y0) ∧ W.cell? ⟨GV, 4, none⟩ = some (.int .i64 o.x1) ∧ W.cell? ⟨GV, 5, none⟩ = some (.int .i64 o.y1) ∧ GV < W.heap.size ∧ X < W.heap.size) := Lib.hid fun W hW => by
        obtain ⟨y0, y1, y2, y3, _, yz⟩ := three_cells (HVS.out.1.X.turned hW HN.out.2.2.2.2.1)
        obtain ⟨z0, z1, z2, z3, z4, z5, zz⟩ := sixc (HVS.out.2.1.turned hW HVR.out)
        exact ⟨⟨y0, y1, y2⟩, z0, z1, z2, z3, z4, z5, zz, yz⟩
      have hPt := fun (W : World) (hW : Below V.heap.size V W) => paint_any W ra rc R rf f pa pc o.path o.gray o.x0 o.y0 o.x1 o.y1 HX.out.2.2.2.2.1 (by rw [HX.out.2.1]; exact hm) HX.out.2.2.1 hF.out (by rw [HX.out.2.1]; exact HVS.out.1.R.under hW) HN.out.2.2.2.1 (fun W2 hW2 => six_path ((HVS.out.2.2.under hW).turned hW2 (fun x hx => HN.out.2.2.2.2.2.1 x (HX.out.2.2.2.1 x hx))))
      rw [HX.out.2.1] at hPt
      have HPt := Lib.hid hPt
      clear hPt
      go_region_held3 (fun w' => (w'.cell? ⟨X, 0, none⟩ = some (.int .i64 ht) ∧ w'.cell? ⟨X, 1, none⟩ = some (.int .i64 bd) ∧ w'.cell? ⟨X, 2, none⟩ = some (.slice ra m rc)) ∧ w'.cell? ⟨GV, 0, none⟩ = some (.slice pa o.path.length pc) ∧ w'.cell? ⟨GV, 1, none⟩ = some (.int .i64 o.gray) ∧ w'.cell? ⟨GV, 2, none⟩ = some (.int .i64 o.x0) ∧ w'.cell? ⟨GV, 3, none⟩ = some (.int .i64 o.y0) ∧ w'.cell? ⟨GV, 4, none⟩ = some (.int .i64 o.x1) ∧ w'.cell? ⟨GV, 5, none⟩ = some (.int .i64 o.y1) ∧ GV < w'.heap.size ∧ X < w'.heap.size) (first | exact HS9.out | exact HK.out _ (Turns.of_below (by go_grown)))
        ((go_at_call 44; (with_reducible refine (HPt.out _ (by first | exact Below.refl _ _ | go_grown)).mono ?_); rintro e w3 ⟨rfl, ho3, ht3⟩; have hB : Turns V w3 (fun x => x ∈ rf) := (Turns.of_below (by go_grown) : Turns V _ (fun x => x ∈ rf)).trans ht3; have HS9 := Lib.hid (HK.out _ hB); have HV := Lib.hid (HVS.out.1.turn HN.out.2.2.2.2.1 HN.out.2.2.2.2.2.1 hB ho3); clear ho3 ht3 hB))
      rw [show pntR o.gray (rowsL o.path o.gray o.x0 o.y0 o.x1 o.y1 f) R = (l.take (k + 1)).foldl (pnF f) R0 from HX.out.1.symm] at HV
      go_wp2
      go_roundw
      case rel => exact ⟨k + 1, by omega, by go_num, HV⟩
      case measure => simp [intOf]; omega
    · obtain rfl : k = n := by omega
      have htk : l.take k = l := by rw [← HN.out.1, List.take_length]
      rw [htk, ← HT.out] at hL
      obtain ⟨x0, x1, x2, x3, xf, xz⟩ := three_cells hL.out.X
      go_wp2
      refine bodyPost_end (results_none rfl _ _ _) rfl ?_
      refine ⟨rfl, Blk.put (P := [.int .i64 ht, .int .i64 bd, .slice ra m rc]) (R := []) hL.out.X rfl (.slice none 0 0), own_setN hL.out.R HN.out.2.2.2.2.1 3 _, turns_set (hL.out.T.mono (fun x hx => .inr hx)) (.inl rfl) 3 _⟩
end Go.Proofs.Ytbdjnfnphilklaa.Own
