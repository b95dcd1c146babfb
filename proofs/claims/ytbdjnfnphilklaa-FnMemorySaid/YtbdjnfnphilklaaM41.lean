/-
  Texts of this seat, laid together: Ad13, Bk13
-/
import Derived.Test.YtbdjnfnphilklaaM39
namespace Go.Proofs.Ytbdjnfnphilklaa.Own
open Go.ChangeShapes Go.WideShapes Go.ChangeAt Go.RowKit
open Kit Slabs Ints Point
open Go.Proofs.Ytbdjnfnphilklaa.Ins (gen_any9)
set_option linter.unusedVariables false
set_option linter.unusedSimpArgs false
set_option linter.unnecessarySimpa false
set_option maxRecDepth 100000
structure AdS (w V : World) (S : Nat → Prop) (B X X1 : Nat) (b : Bd) (ra : Option Addr) (rc : Nat) (rf : List Nat) (oa : Option Addr) (oc : Nat) (F2 : List Nat) (pa : Option Addr) (pc : Nat) (o : Ob) (fo : List Nat) : Prop where
  BX : Blk V X [.int .i64 b.h, .int .i64 b.n, .slice ra b.base.length rc, .slice oa b.objs.length oc]
  BY : Blk V X1 (sixo o pa pc)
  R : Own V KSS [.slice ra b.base.length rc] (.sl (dR b.base)) rf
  O : ObsRow V B oa oc b.objs F2
  N : (rf ++ F2).Nodup
  nX : X ∉ rf ++ F2
  nY : X1 ∉ rf ++ F2
  E : OwnL V LObject (sixo o pa pc) o.dt fo
  T : Turns w V S
  sX : S X
  sR : ∀ x ∈ rf, S x
  sF : ∀ x ∈ F2, S x
  ne : X1 ≠ X
  bX : B ≤ X
  bY : B ≤ X1
  bR : ∀ x ∈ rf, B ≤ x
  bE : ∀ x ∈ fo, x < B
theorem AdS.on {w V V' : World} {S : Nat → Prop} {B X X1 : Nat} {b : Bd} {ra : Option Addr} {rc : Nat} {rf : List Nat} {oa : Option Addr} {oc : Nat} {F2 : List Nat} {pa : Option Addr} {pc : Nat} {o : Ob} {fo : List Nat} (h : AdS w V S B X X1 b ra rc rf oa oc F2 pa pc o fo) (hb : Below V.heap.size V V') : AdS w V' S B X X1 b ra rc rf oa oc F2 pa pc o fo := by
  have hz : B ≤ V.heap.size := by have := h.bX; have := h.BX.2.2; omega
  exact ⟨h.BX.keep hb, h.BY.keep hb, h.R.under hb, h.O.under hb, h.N, h.nX, h.nY, h.E.under hb, h.T.call hb, h.sX, h.sR, h.sF, h.ne, h.bX, h.bY, h.bR, h.bE⟩
def AdPost (w : World) (S : Nat → Prop) (B X : Nat) (ra : Option Addr) (rc : Nat) (rf : List Nat) (b : Bd) (w' : World) : Prop := ∃ (oa : Option Addr) (oc : Nat) (F : List Nat), Blk w' X [.int .i64 b.h, .int .i64 b.n, .slice ra b.base.length rc, .slice oa b.objs.length oc] ∧ Own w' KSS [.slice ra b.base.length rc] (.sl (dR b.base)) rf ∧ ObsRow w' B oa oc b.objs F ∧ (rf ++ F).Nodup ∧ X ∉ rf ++ F ∧ (∀ x ∈ F, S x ∨ w.heap.size ≤ x) ∧ Turns w w' S
theorem AdS.push {w V : World} {S : Nat → Prop} {B X X1 : Nat} {b : Bd} {ra : Option Addr} {rc : Nat} {rf : List Nat} {oa : Option Addr} {oc : Nat} {F2 : List Nat} {pa : Option Addr} {pc : Nat} {o : Ob} {fo : List Nat} (h : AdS w V S B X X1 b ra rc rf oa oc F2 pa pc o fo) :
    ∃ P, V.ownsRow B 40 6 (.slice oa b.objs.length oc) b.objs.length P ∧ ∀ (w6 w7 : World) (a' : Option Addr) (c' : Nat) (us : List Value) (F : List Nat), Below V.heap.size V w6 → OwnL w6 LObject us o.dt F → F.Nodup → (∀ x ∈ F, V.heap.size ≤ x) →
      w7.ownsRow B 40 6 (.slice a' (b.objs.length + 1) c') (b.objs.length + 1) (P ++ us) → w6.grownBy w7 (Value.ownBlock (.slice oa b.objs.length oc)) → (∀ x ∈ rowL (.slice a' (b.objs.length + 1) c'), x ∈ rowL (.slice oa b.objs.length oc) ∨ w6.heap.size ≤ x) →
      Blk w7 X [.int .i64 b.h, .int .i64 b.n, .slice ra b.base.length rc, .slice oa b.objs.length oc] ∧ AdPost w S B X ra rc rf ⟨b.h, b.n, b.base, b.objs ++ [o]⟩ (w7.setCell ⟨X, 3, none⟩ (.slice a' (b.objs.length + 1) c')) := by
  obtain ⟨P, r, hnext⟩ := h.O.next
  have hz : B ≤ V.heap.size := by have := h.bX; have := h.BX.2.2; omega
  refine ⟨P, r, fun w6 w7 a' c' us F b6 ho hn hg r7 gr sub => ?_⟩
  obtain ⟨F', hO', hF', hT⟩ := hnext w6 w7 a' c' us o F b6 ho hn hg hz r7 gr sub
  obtain ⟨n1, n2, nd⟩ := nodup_parts h.N
  have hXr : X ∉ rf := fun hm => h.nX (List.mem_append_left _ hm)
  have hX2 : X ∉ F2 := fun hm => h.nX (List.mem_append_right _ hm)
  have hXlt := h.BX.2.2
  have hXF : X ∉ F' := fun hm => by
    rcases hF' X hm with h1 | h1
    · exact hX2 h1
    · omega
  have hdis : ∀ x ∈ rf, x ∉ F' := fun x hx hm => by
    rcases hF' x hm with h1 | h1
    · exact nd x hx h1
    · have := h.R.lt x hx; omega
  have BX := h.BX.turned hT hX2
  have hRo := h.R.turned hT nd
  refine ⟨BX, a', c', F', ?_, ?_, ?_, app_nodup n1 hO'.nodup hdis, ?_, fun x hx => (hF' x hx).elim (fun e => .inl (h.sF x e)) (fun e => .inr (Nat.le_trans h.T.size e)), ?_⟩
  · have := Blk.put (P := [.int .i64 b.h, .int .i64 b.n, .slice ra b.base.length rc]) (R := []) BX rfl (.slice a' (b.objs.length + 1) c')
    simpa using this
  · exact own_setN hRo hXr 3 _
  · exact (hO'.turned (Turns.one (Turns.refl w7 (fun x => x = X)) 3 _) (fun x hx e => hXF (by have e' : x = X := e; rw [← e']; exact hx)))
  · intro hm
    rcases List.mem_append.1 hm with h1 | h1
    · exact hXr h1
    · exact hXF h1
  · exact turns_set (h.T.trans (hT.mono (fun x hx => h.sF x hx))) h.sX 3 _
theorem mgR_len (b : Bd) : (mgR b).length = b.base.length := by
  unfold mgR
  generalize b.base = R
  induction b.objs generalizing R with
  | nil => rfl
  | cons o l ih => rw [List.foldl_cons, ih, pnF_len]
theorem AdS.bda {w V : World} {S : Nat → Prop} {B X X1 : Nat} {b : Bd} {ra : Option Addr} {rc : Nat} {rf : List Nat} {oa : Option Addr} {oc : Nat} {F2 : List Nat} {pa : Option Addr} {pc : Nat} {o : Ob} {fo : List Nat} (h : AdS w V S B X X1 b ra rc rf oa oc F2 pa pc o fo) (hs : b.base.length + tot b.base + (b.objs.length + bulkL (dO b.objs)) ≤ 1048576) : BdA V b ra rc oa oc := by
  obtain ⟨f, ho, _⟩ := h.O.own
  exact ⟨hs, rr_of h.R, f, ho⟩
set_option maxHeartbeats 8000000 in
theorem add_impl (w : World) (B X : Nat) (b : Bd) (ra : Option Addr) (rc : Nat) (rf : List Nat) (oa : Option Addr) (oc : Nat) (F2 : List Nat) (pa : Option Addr) (pc : Nat) (o : Ob) (fo : List Nat) (hb : bdB b = true) (hs : b.base.length + tot b.base + (b.objs.length + bulkL (dO b.objs)) ≤ 1048576) (hbk : bulkL o.dt ≤ 1048576)
    (hX : Blk w X [.int .i64 b.h, .int .i64 b.n, .slice ra b.base.length rc, .slice oa b.objs.length oc]) (hR : Own w KSS [.slice ra b.base.length rc] (.sl (dR b.base)) rf) (hO : ObsRow w B oa oc b.objs F2) (hN : (rf ++ F2).Nodup) (hn : X ∉ rf ++ F2) (hE : OwnL w LObject (sixo o pa pc) o.dt fo) (bX : B ≤ X) (bR : ∀ x ∈ rf, B ≤ x) (bE : ∀ x ∈ fo, x < B) :
    Calls Try.prog 37 #[.pointer (some ⟨X, 0, none⟩), .agg #[.slice pa o.path.length pc, .int .i64 o.gray, .int .i64 o.x0, .int .i64 o.y0, .int .i64 o.x1, .int .i64 o.y1]] w fun e w' => e = .returned (.tuple #[]) ∧ AdPost w (fun x => x = X ∨ x ∈ rf ++ F2) B X ra rc rf (adI b o) w' := by
  have hpl : o.path.length ≤ 1048576 := by have := hbk; simp only [Ob.dt, bulkL, Dt.bulk, len_dP, bulk_dP] at this; omega
  have hb1 : Below w.heap.size w (w.alloc (.cells #[.slice pa o.path.length pc, .int .i64 o.gray, .int .i64 o.x0, .int .i64 o.y0, .int .i64 o.x1, .int .i64 o.y1] 40)) := by go_grown
  have hXw := hX.2.2
  have hlt := mem2 (p := fun x => x < w.heap.size) hR.lt hO.lt
  have S0 : AdS w (w.alloc (.cells #[.slice pa o.path.length pc, .int .i64 o.gray, .int .i64 o.x0, .int .i64 o.y0, .int .i64 o.x1, .int .i64 o.y1] 40)) (fun x => x = X ∨ x ∈ rf ++ F2) B X w.heap.size b ra rc rf oa oc F2 pa pc o fo :=
    ⟨hX.keep hb1, Blk.new w _ _ rfl, hR.under hb1, hO.under hb1, hN, hn, fun hm => by have := hlt _ hm; omega, hE.under hb1, Turns.of_below hb1, .inl rfl, fun x hx => .inr (List.mem_append_left _ hx), fun x hx => .inr (List.mem_append_right _ hx), by omega, bX, by omega, bR, bE⟩
  obtain ⟨S, hSS⟩ : ∃ S : Nat → Prop, S = (fun x => x = X ∨ x ∈ rf ++ F2) := ⟨_, rfl⟩
  rw [← hSS] at S0 ⊢
  clear hSS
  have HS := Lib.hid S0
  have hcl := cells_le b.objs
  obtain ⟨q, hq⟩ : ∃ q, decide ((60 : Int) < (cellsN b.objs : Int) + (2 + (o.path.length : Int))) = q := ⟨_, rfl⟩
  have e10 : IntKind.i64.wrap ((cellsN b.objs : Int) + (2 + (o.path.length : Int))) = (cellsN b.objs : Int) + (2 + (o.path.length : Int)) := IntWalk.i64_in _ ⟨by omega, by omega⟩
  have hol : b.objs.length ≤ 1048576 := by omega
  clear S0 hb1 hX hR hO hN hn hE bX bR bE hXw hlt hcl
  go_enter Try.func37, Try.ntmps37
  go_upto_region 1 with (fail)
  refine gen_any9 (fun V => AdS w V S B X w.heap.size b ra rc rf oa oc F2 pa pc o fo) HS.out ?_
  intro V hV
  obtain ⟨X1, hX1⟩ : ∃ x, w.heap.size = x := ⟨_, rfl⟩
  rw [hX1] at hV
  simp only [hX1]
  have HV := Lib.hid hV
  obtain ⟨x0, x1, x2, x3, _, xz⟩ := three_cells hV.BX
  obtain ⟨k0, k1, k2, k3, k4, k5, kz⟩ := sixc hV.BY
  have HK : Hid (∀ W, Below V.heap.size V W → (W.cell? ⟨X, 0, none⟩ = some (.int .i64 b.h) ∧ W.cell? ⟨X, 1, none⟩ = some (.int .i64 b.n) ∧ W.cell? ⟨X, 2, none⟩ = some (.slice ra b.base.length rc) ∧ W.cell? ⟨X, 3, none⟩ = some (.slice oa b.objs.length oc)) ∧ W.cell? ⟨X1, 0, none⟩ = some (.slice pa o.path.length pc) ∧ W.cell? ⟨X1, 1, none⟩ = some (.int .i64 o.gray) ∧ W.cell? ⟨X1, 2, none⟩ = some (.int .i64 o.x0) ∧ W.cell? ⟨X1, 3, none⟩ = some (.int .i64 o.y0) ∧ W.cell? ⟨X1, 4, none⟩ = some (.int .i64 o.x1) ∧ W.cell? ⟨X1, 5, none⟩ = some (.int .i64 o.y1) ∧ X1 < W.heap.size ∧ X < W.heap.size) := Lib.hid fun W hW => by
    obtain ⟨y0, y1, y2, y3, _, yz⟩ := three_cells (HV.out.BX.keep hW)
    obtain ⟨z0, z1, z2, z3, z4, z5, zz⟩ := sixc (HV.out.BY.keep hW)
    exact ⟨⟨y0, y1, y2, y3⟩, z0, z1, z2, z3, z4, z5, zz, yz⟩
  have HBC := Lib.hid (fun W (hW : Below V.heap.size V W) => bcells_impl W b ra rc oa oc ((HV.out.bda hs).on hW))
  clear hV HS hX1
  go_cut [11] (fun s11 wx => s11 = .bool q ∧ AdS w wx S B X X1 b ra rc rf oa oc F2 pa pc o fo)
  case first =>
    go_region_held3 (fun w' => (w'.cell? ⟨X, 0, none⟩ = some (.int .i64 b.h) ∧ w'.cell? ⟨X, 1, none⟩ = some (.int .i64 b.n) ∧ w'.cell? ⟨X, 2, none⟩ = some (.slice ra b.base.length rc) ∧ w'.cell? ⟨X, 3, none⟩ = some (.slice oa b.objs.length oc)) ∧ w'.cell? ⟨X1, 0, none⟩ = some (.slice pa o.path.length pc) ∧ w'.cell? ⟨X1, 1, none⟩ = some (.int .i64 o.gray) ∧ w'.cell? ⟨X1, 2, none⟩ = some (.int .i64 o.x0) ∧ w'.cell? ⟨X1, 3, none⟩ = some (.int .i64 o.y0) ∧ w'.cell? ⟨X1, 4, none⟩ = some (.int .i64 o.x1) ∧ w'.cell? ⟨X1, 5, none⟩ = some (.int .i64 o.y1) ∧ X1 < w'.heap.size ∧ X < w'.heap.size) (first | exact HK.out _ hB | exact HK.out _ (by go_grown))
      (first
        | (go_at_call 14; (with_reducible refine (HBC.out _ (by first | exact hB | exact Below.refl _ _ | go_grown)).mono ?_); rintro e w1 ⟨rfl, bb⟩; have hB := on_of (W := V) (by first | exact hB | go_grown) bb; clear bb)
        | (go_at_call 38; (with_reducible refine (cells_impl _ pa pc o.path.length _ _ _ _ _ hpl).mono ?_); rintro e w2 ⟨rfl, bb⟩; have hB := on_of (W := V) (by first | exact hB | go_grown) bb; clear bb))
    all_goals
      have HM := Lib.hid (HV.out.on hB)
      clear x0 x1 x2 x3 k0 k1 k2 k3 k4 k5 xz kz
      go_wp2_with fail
      go_meet
      exact ⟨by simp [e10, hq], HM.out⟩
  case rest =>
    obtain ⟨rfl, hV⟩ := hcut
    clear x0 x1 x2 x3 k0 k1 k2 k3 k4 k5 xz kz HK HBC HV
    have HV := Lib.hid hV
    clear hV
    cases q
    · have hfit : cellsN b.objs + (2 + o.path.length) ≤ 60 := by have := of_decide_eq_false hq; omega
      have HA := Lib.hid (show adI b o = ⟨b.h, b.n, b.base, b.objs ++ [o]⟩ from by simp [adI, hfit])
      clear hq hfit
      go_upto_region 3 with (fail)
      refine gen_any9 (fun V => AdS w V S B X X1 b ra rc rf oa oc F2 pa pc o fo) HV.out ?_
      intro V3 hV3
      obtain ⟨P, hP, hpush⟩ := hV3.push
      have HV3 := Lib.hid (And.intro hV3 (And.intro hP hpush))
      obtain ⟨x0, x1, x2, x3, xf, xz⟩ := three_cells hV3.BX
      obtain ⟨k0, k1, k2, k3, k4, k5, kz⟩ := sixc hV3.BY
      have hBV : B ≤ V3.heap.size := by have := hV3.bX; omega
      have HD := Lib.hid (show OwnL V3.drew LObject (#[.slice pa o.path.length pc, .int .i64 o.gray, .int .i64 o.x0, .int .i64 o.y0, .int .i64 o.x1, .int .i64 o.y1] : Array Value).toList o.dt fo from hV3.E.under (show Below V3.heap.size V3 V3.drew from by go_grown))
      clear hV3 hP hpush
      go_region_law (first
        | (go_simp; go_at_call 71; (with_reducible refine (clone_Object V3.drew hbk HD.out).mono ?_); rintro e w5 ⟨R, F, rfl, oR, nR, gF, bb⟩; obtain ⟨r0, s0, rfl⟩ := ob_six oR; have bb := on_of (W := V3) (by go_grown) bb; have gF' : ∀ x ∈ F, V3.heap.size ≤ x := gF; have z5 := bb.size; obtain ⟨y0, y1, y2, y3, yf, yz⟩ := three_cells (HV3.out.1.BX.keep bb); have r5 := row_on HV3.out.2.1 bb; have H5 := Lib.hid (And.intro oR (And.intro nR (And.intro gF' (And.intro bb r5)))); clear oR nR gF gF' bb r5)
        | (refine step_append_sl et_obs rfl _ _ rfl B oa b.objs.length oc P (by rfl) (H5.out.2.2.2.2.alloc _) (some ⟨w5.heap.size, 0, none⟩) 1 1 [.slice r0 o.path.length s0, .int .i64 o.gray, .int .i64 o.x0, .int .i64 o.y0, .int .i64 o.x1, .int .i64 o.y1] (by rfl) (by rfl) (Lies.new w5 _ _ rfl) (fun u hu => H5.out.1.one u hu) (by unfold maxLen; omega) (by omega) (by simp; omega) ?_; intro a' c' w7 r7 gr7 sub7; have b6 : Below w5.heap.size w5 (w5.alloc (.cells #[.slice r0 o.path.length s0, .int .i64 o.gray, .int .i64 o.x0, .int .i64 o.y0, .int .i64 o.x1, .int .i64 o.y1] 40)) := (by go_grown); have hs7 := HV3.out.2.2 _ w7 a' c' _ F (on_of H5.out.2.2.2.1 b6) (H5.out.1.under b6) H5.out.2.1 H5.out.2.2.1 r7 gr7 sub7; obtain ⟨z0, z1, z2, z3, zf, zz⟩ := three_cells hs7.1; have HV := Lib.hid hs7.2; clear hs7 r7 gr7 sub7 b6))
      all_goals
        go_wp2
        refine bodyPost_end (results_none rfl _ _ _) rfl ?_
        exact ⟨rfl, by rw [HA.out]; exact HV.out⟩
    · have hfit : ¬ (cellsN b.objs + (2 + o.path.length) ≤ 60) := by have := of_decide_eq_true hq; omega
      have HA := Lib.hid (show adI b o = ⟨b.h, b.n, mgR b, [o]⟩ from by simp [adI, hfit])
      obtain ⟨of, hOf, _, hsub⟩ := HV.out.O.own
      obtain ⟨n1, n2, nd⟩ := nodup_parts HV.out.N
      have hXr : X ∉ rf := fun hm => HV.out.nX (List.mem_append_left _ hm)
      have HMg := Lib.hid (merge_impl wc X b ra rc rf oa oc of hb (by omega) HV.out.BX HV.out.R n1 hXr hOf (fun x hx hm => nd x hm (hsub x hx)))
      clear hq hfit hOf hsub
      go_wp2_with fail
      ((with_reducible refine HMg.out.mono ?_); rintro e w4 ⟨rfl, mX, mR, mT⟩)
      obtain ⟨b1, hb1⟩ : ∃ b1 : Bd, b1 = ⟨b.h, b.n, mgR b, []⟩ := ⟨_, rfl⟩
      have hS : ∃ oa1 oc1 F1, AdS w w4 S B X X1 b1 ra rc rf oa1 oc1 F1 pa pc o fo := by
        refine ⟨none, 0, [], ?_⟩
        subst hb1
        have hm := mgR_len b
        have hz : B ≤ wc.heap.size := by have := HV.out.bX; have := HV.out.BX.2.2; omega
        exact ⟨by show Blk w4 X [.int .i64 b.h, .int .i64 b.n, .slice ra (mgR b).length rc, .slice none 0 0]; rw [hm]; exact mX,
          HV.out.BY.turned mT (fun e => e.elim HV.out.ne (fun h => HV.out.nY (List.mem_append_left _ h))), by show Own w4 KSS [.slice ra (mgR b).length rc] (.sl (dR (mgR b))) rf; rw [hm]; exact mR, ObsRow.nil _ _, by simpa using n1, by simpa using hXr, fun h => HV.out.nY (List.mem_append_left _ (by simpa using h)), HV.out.E.turned mT (fun x hx e => by
            have h1 := HV.out.bE x hx
            rcases e with e | e
            · have := HV.out.bX; omega
            · have := HV.out.bR x e; omega), HV.out.T.trans (mT.mono (fun x e => by
            rcases e with e | e
            · rw [e]; exact HV.out.sX
            · exact HV.out.sR x e)), HV.out.sX, HV.out.sR, (fun x hx => absurd hx List.not_mem_nil), HV.out.ne, HV.out.bX, HV.out.bY, HV.out.bR, HV.out.bE⟩
      have HA1 : Hid (adI b o = ⟨b1.h, b1.n, b1.base, b1.objs ++ [o]⟩) := Lib.hid (by rw [HA.out, hb1]; rfl)
      have hol : b1.objs.length ≤ 1048576 := by rw [hb1]; simp
      obtain ⟨oa1, oc1, F1, hS⟩ := hS
      have HV := Lib.hid hS
      clear hb1 hS mX mR mT HMg n1 n2 nd hXr HA
      go_upto_region 3 with (fail)
      refine gen_any9 (fun V => AdS w V S B X X1 b1 ra rc rf oa1 oc1 F1 pa pc o fo) HV.out ?_
      intro V3 hV3
      obtain ⟨P, hP, hpush⟩ := hV3.push
      have HV3 := Lib.hid (And.intro hV3 (And.intro hP hpush))
      obtain ⟨x0, x1, x2, x3, xf, xz⟩ := three_cells hV3.BX
      obtain ⟨k0, k1, k2, k3, k4, k5, kz⟩ := sixc hV3.BY
      have hBV : B ≤ V3.heap.size := by have := hV3.bX; omega
      have HD := Lib.hid (show OwnL V3.drew LObject (#[.slice pa o.path.length pc, .int .i64 o.gray, .int .i64 o.x0, .int .i64 o.y0, .int .i64 o.x1, .int .i64 o.y1] : Array Value).toList o.dt fo from hV3.E.under (show Below V3.heap.size V3 V3.drew from by go_grown))
      clear hV3 hP hpush
      go_region_law (first
        | (go_simp; go_at_call 71; (with_reducible refine (clone_Object V3.drew hbk HD.out).mono ?_); rintro e w5 ⟨R, F, rfl, oR, nR, gF, bb⟩; obtain ⟨r0, s0, rfl⟩ := ob_six oR; have bb := on_of (W := V3) (by go_grown) bb; have gF' : ∀ x ∈ F, V3.heap.size ≤ x := gF; have z5 := bb.size; obtain ⟨y0, y1, y2, y3, yf, yz⟩ := three_cells (HV3.out.1.BX.keep bb); have r5 := row_on HV3.out.2.1 bb; have H5 := Lib.hid (And.intro oR (And.intro nR (And.intro gF' (And.intro bb r5)))); clear oR nR gF gF' bb r5)
        | (refine step_append_sl et_obs rfl _ _ rfl B oa1 b1.objs.length oc1 P (by rfl) (H5.out.2.2.2.2.alloc _) (some ⟨w5.heap.size, 0, none⟩) 1 1 [.slice r0 o.path.length s0, .int .i64 o.gray, .int .i64 o.x0, .int .i64 o.y0, .int .i64 o.x1, .int .i64 o.y1] (by rfl) (by rfl) (Lies.new w5 _ _ rfl) (fun u hu => H5.out.1.one u hu) (by unfold maxLen; omega) (by omega) (by simp; omega) ?_; intro a' c' w7 r7 gr7 sub7; have b6 : Below w5.heap.size w5 (w5.alloc (.cells #[.slice r0 o.path.length s0, .int .i64 o.gray, .int .i64 o.x0, .int .i64 o.y0, .int .i64 o.x1, .int .i64 o.y1] 40)) := (by go_grown); have hs7 := HV3.out.2.2 _ w7 a' c' _ F (on_of H5.out.2.2.2.1 b6) (H5.out.1.under b6) H5.out.2.1 H5.out.2.2.1 r7 gr7 sub7; obtain ⟨z0, z1, z2, z3, zf, zz⟩ := three_cells hs7.1; have HV := Lib.hid hs7.2; clear hs7 r7 gr7 sub7 b6))
      all_goals
        go_wp2
        refine bodyPost_end (results_none rfl _ _ _) rfl ?_
        exact ⟨rfl, by rw [HA1.out]; exact HV.out⟩
end Go.Proofs.Ytbdjnfnphilklaa.Own
namespace Go.Proofs.Ytbdjnfnphilklaa.Own
open Go.ChangeShapes Go.WideShapes Go.ChangeAt Go.RowKit
open Kit Slabs Ints Point
set_option linter.unusedVariables false
set_option linter.unusedSimpArgs false
set_option linter.unnecessarySimpa false
set_option maxRecDepth 100000
theorem bd_load {W : World} {X : Nat} {v0 v1 v2 v3 : Value} (h : Blk W X [v0, v1, v2, v3]) : (hload 32 ⟨X, 0, none⟩).run Try.prog W = .ok (.agg #[v0, v1, v2, v3]) W := by
  have := hload_run (P := Try.prog) (t := 32) Try.isAgg32 Try.sizeOf32 (w := W) (b := X) (o := 0) (us := [v0, v1, v2, v3]) (Blk.part (P := []) (R := []) (by simpa using h) rfl) rfl
  simpa using this
theorem one_bd {h n : Int} {ra oa : Option Addr} {m rc k oc : Nat} : ∀ v ∈ [Value.int .i64 h, .int .i64 n, .slice ra m rc, .slice oa k oc], v.oneCell' = true := by
  intro v hv
  simp only [List.mem_cons, List.not_mem_nil, or_false] at hv
  rcases hv with rfl | rfl | rfl | rfl <;> rfl
theorem bd_store {W : World} {X : Nat} {z0 z1 z2 z3 : Value} (B : Blk W X [z0, z1, z2, z3]) (h n : Int) (ra : Option Addr) (m rc : Nat) (oa : Option Addr) (k oc : Nat) :
    ∃ E, (hstore 32 ⟨X, 0, none⟩ (.agg #[.int .i64 h, .int .i64 n, .slice ra m rc, .slice oa k oc])).run Try.prog W = .ok () E ∧ Blk E X [.int .i64 h, .int .i64 n, .slice ra m rc, .slice oa k oc] ∧ Turns W E (fun x => x = X) := by
  have st := hstore_run (P := Try.prog) (t := 32) Try.sizeOf32 (w := W) (b := X) (o := 0) (A := []) (us := [z0, z1, z2, z3]) (R := []) (vs := [.int .i64 h, .int .i64 n, .slice ra m rc, .slice oa k oc]) (by simpa using B) rfl rfl rfl one_bd
  have BS := Blk.sets (P := []) (us := [z0, z1, z2, z3]) (vs := [.int .i64 h, .int .i64 n, .slice ra m rc, .slice oa k oc]) (R := []) (w := W) (b := X) (o := 0) (by simpa using B) rfl rfl
  exact ⟨_, by simpa using st, by simpa using BS, turns_sets (S := fun x => x = X) X rfl _ 0 W⟩
theorem bd_new (w : World) (h n : Int) (ra : Option Addr) (m rc : Nat) (oa : Option Addr) (k oc : Nat) :
    ∃ E, (hstore 32 ⟨w.heap.size, 0, none⟩ (.agg #[.int .i64 h, .int .i64 n, .slice ra m rc, .slice oa k oc])).run Try.prog (w.alloc (.cells Z4 32)) = .ok () E ∧ Blk E w.heap.size [.int .i64 h, .int .i64 n, .slice ra m rc, .slice oa k oc] ∧ Below w.heap.size w E := by
  obtain ⟨E, st, BX, tt⟩ := bd_store (Blk.new w Z4 32 rfl) h n ra m rc oa k oc
  refine ⟨E, st, BX, ?_⟩
  have hb : Below w.heap.size w (w.alloc (.cells Z4 32)) := by go_grown
  exact hb.trans (tt.below (by simp) (fun x e => by have e' : x = w.heap.size := e; omega))
theorem results_hb {P : Program} {fn : Func} {p q : Tmp} {ty : TypeId} (h : fn.results = #[.cell p ty, .tmp q]) {tmps : Array Value} {w : World} {b o : Nat} (hp : tmps.getD p undef = .pointer (some ⟨b, o, none⟩)) {v u : Value} (hq : tmps.getD q undef = u) (hv : (hload ty ⟨b, o, none⟩).run P w = .ok v w) : (results fn tmps).run P w = .ok (.tuple #[v, u]) w := by
  rw [← hload_of] at hv
  have hp2 : tmps[p]?.getD undef = .pointer (some ⟨b, o, none⟩) := by simpa [Array.getD_eq_getD_getElem?] using hp
  have hq2 : tmps[q]?.getD undef = u := by simpa [Array.getD_eq_getD_getElem?] using hq
  simp [results, h, hp2, hq2, asAddr, hv, Result.andThen]
theorem bd_fin {w V : World} {X6 GR : Nat} {b : Bd} {ra : Option Addr} {rc : Nat} {rf : List Nat} {oa : Option Addr} {oc : Nat} {F : List Nat} (B6 : Blk V X6 [.int .i64 b.h, .int .i64 b.n, .slice ra b.base.length rc, .slice oa b.objs.length oc]) (BR : Blk V GR Z4.toList)
    (hR : Own V KSS [.slice ra b.base.length rc] (.sl (dR b.base)) rf) (hO : ObsRow V w.heap.size oa oc b.objs F) (hN : (rf ++ F).Nodup) (hge : ∀ x ∈ rf ++ F, w.heap.size ≤ x) (hG : GR ∉ rf ++ F) (hGR : w.heap.size ≤ GR) (hW : Below w.heap.size w V) :
    ∃ R E, (hload 32 ⟨X6, 0, none⟩).run Try.prog V = .ok (.agg R) V ∧ (hstore 32 ⟨GR, 0, none⟩ (.agg R)).run Try.prog V = .ok () E ∧ (hload 32 ⟨GR, 0, none⟩).run Try.prog E = .ok (.agg R) E ∧ BdRows E w.heap.size R.toList b (rf ++ F) ∧ Below w.heap.size w E := by
  have GV : BdRows V w.heap.size [.int .i64 b.h, .int .i64 b.n, .slice ra b.base.length rc, .slice oa b.objs.length oc] b (rf ++ F) := ⟨ra, rc, rf, oa, oc, F, rfl, hR, hO, rfl, hN, hge⟩
  obtain ⟨fV, oV, _, _⟩ := GV.own
  obtain ⟨R, E, s1, s2, s3, e4, tE, bE⟩ := hand_over (P := Try.prog) (T := 32) Try.isAgg32 Try.sizeOf32 B6 BR rfl oV rfl hW hGR hW.size
  have GE := GV.turned tE (fun x hx e => hG (by have e' : x = GR := e; rw [← e']; exact hx))
  rw [← e4] at GE
  exact ⟨R, E, s1, s2, s3, GE, bE⟩
def BdNew2 (b : Bd) (q : Bool) (w : World) (e : Ending) (w' : World) : Prop := ∃ (R : Array Value) (F : List Nat), e = .returned (.tuple #[.agg R, .bool q]) ∧ BdRows w' w.heap.size R.toList b F ∧ Below w.heap.size w w'
theorem bd_arr {w : World} {B : Nat} {R : Array Value} {b : Bd} {F : List Nat} (h : BdRows w B R.toList b F) : ∃ (ra : Option Addr) (rc : Nat) (rf : List Nat) (oa : Option Addr) (oc : Nat) (F2 : List Nat), R = #[.int .i64 b.h, .int .i64 b.n, .slice ra b.base.length rc, .slice oa b.objs.length oc] ∧ Own w KSS [.slice ra b.base.length rc] (.sl (dR b.base)) rf ∧ ObsRow w B oa oc b.objs F2 ∧ (rf ++ F2).Nodup ∧ (∀ x ∈ rf ++ F2, B ≤ x) := by
  obtain ⟨ra, rc, rf, oa, oc, F2, hRl, o2, o3, rfl, hn, hB⟩ := h
  exact ⟨ra, rc, rf, oa, oc, F2, Array.toList_inj.1 hRl, o2, o3, hn, hB⟩
structure MbS (w V : World) (X0 GR X6 : Nat) (b : Bd) (ra : Option Addr) (rc : Nat) (oa : Option Addr) (oc : Nat) (ra1 : Option Addr) (rc1 : Nat) (rf : List Nat) (oa1 : Option Addr) (oc1 : Nat) (F2 : List Nat) : Prop where
  B0 : Blk V X0 [.int .i64 b.h, .int .i64 b.n, .slice ra b.base.length rc, .slice oa b.objs.length oc]
  BR : Blk V GR Z4.toList
  B6 : Blk V X6 [.int .i64 b.h, .int .i64 b.n, .slice ra1 b.base.length rc1, .slice oa1 b.objs.length oc1]
  R : Own V KSS [.slice ra1 b.base.length rc1] (.sl (dR b.base)) rf
  O : ObsRow V w.heap.size oa1 oc1 b.objs F2
  N : (rf ++ F2).Nodup
  ge : ∀ x ∈ rf ++ F2, w.heap.size ≤ x
  n6 : X6 ∉ rf ++ F2
  nG : GR ∉ rf ++ F2
  ne : GR ≠ X6
  gG : w.heap.size ≤ GR
  g6 : w.heap.size ≤ X6
  A : BdA V b ra rc oa oc
  W : Below w.heap.size w V
theorem MbS.on {w V V' : World} {X0 GR X6 : Nat} {b : Bd} {ra : Option Addr} {rc : Nat} {oa : Option Addr} {oc : Nat} {ra1 : Option Addr} {rc1 : Nat} {rf : List Nat} {oa1 : Option Addr} {oc1 : Nat} {F2 : List Nat} (h : MbS w V X0 GR X6 b ra rc oa oc ra1 rc1 rf oa1 oc1 F2) (hb : Below V.heap.size V V') : MbS w V' X0 GR X6 b ra rc oa oc ra1 rc1 rf oa1 oc1 F2 :=
  ⟨h.B0.keep hb, h.BR.keep hb, h.B6.keep hb, h.R.under hb, h.O.under hb, h.N, h.ge, h.n6, h.nG, h.ne, h.gG, h.g6, h.A.on hb, on_of h.W hb⟩
theorem MbS.start {w W w1 E : World} {X0 GR : Nat} {b : Bd} {ra : Option Addr} {rc : Nat} {oa : Option Addr} {oc : Nat} {ra1 : Option Addr} {rc1 : Nat} {rf : List Nat} {oa1 : Option Addr} {oc1 : Nat} {F2 : List Nat}
    (B0 : Blk W X0 [.int .i64 b.h, .int .i64 b.n, .slice ra b.base.length rc, .slice oa b.objs.length oc]) (BR : Blk W GR Z4.toList) (hA : BdA W b ra rc oa oc) (hW : Below w.heap.size w W) (gG : w.heap.size ≤ GR)
    (b1 : Below W.heap.size W w1) (o2 : Own w1 KSS [.slice ra1 b.base.length rc1] (.sl (dR b.base)) rf) (o3 : ObsRow w1 W.heap.size oa1 oc1 b.objs F2) (hN : (rf ++ F2).Nodup) (hge : ∀ x ∈ rf ++ F2, W.heap.size ≤ x)
    (B6 : Blk E w1.heap.size [.int .i64 b.h, .int .i64 b.n, .slice ra1 b.base.length rc1, .slice oa1 b.objs.length oc1]) (bE : Below w1.heap.size w1 E) : MbS w E X0 GR w1.heap.size b ra rc oa oc ra1 rc1 rf oa1 oc1 F2 := by
  have hz := hW.size
  have hz1 := b1.size
  have hG := BR.2.2
  have hlt := mem2 (p := fun x => x < w1.heap.size) o2.lt o3.lt
  have bb := on_of b1 bE
  exact ⟨B0.keep bb, BR.keep bb, B6, o2.under bE, (o3.under bE).base hz, hN, fun x hx => Nat.le_trans hz (hge x hx), fun hm => by have := hlt _ hm; omega, fun hm => by have := hge _ hm; omega, by omega, gG, by omega, hA.on bb, on_of hW bb⟩
end Go.Proofs.Ytbdjnfnphilklaa.Own
