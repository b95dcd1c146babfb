/-
  Texts of this seat, laid together: ShI8, Lw8, MkO
-/
import Derived.WalkKit
import Derived.Deep.DeepCutAuto
import Derived.Deep.QuietTactic
import Derived.BigQuiet
import Derived.Deep.RegionHeld3
import Derived.Handy
import Derived.Test.YtejnfdpckipbeaaP30
import Derived.Test.YtejnfdpckipbeaaP06
import Derived.Test.YtejnfdpckipbeaaP04
import Derived.Test.YtejnfdpckipbeaaP25
import Derived.Test.YtejnfdpckipbeaaP03
import Derived.Test.YtejnfdpckipbeaaP16
namespace Go.Proofs.Ytejnfdpckipbeaa.Ins
open Go.ChangeShapes Go.WideShapes Go.ChangeAt Go.RowKit
open Kit Point Slabs
set_option linter.unusedVariables false
set_option linter.unusedSimpArgs false
set_option linter.unnecessarySimpa false
theorem all_sh (l : List Pt) (d : Pt) : l.all (shB d) = (ptsB l && ptsB (l.map (mv d))) := by
  rw [Bool.eq_iff_iff]
  simp only [Bool.and_eq_true, ptsB, List.all_eq_true, List.mem_map, shB, forall_exists_index, and_imp]
  constructor
  · intro h
    exact ⟨fun p hp => (h p hp).1, fun q p hp e => by subst e; exact (h p hp).2⟩
  · intro h p hp
    exact ⟨h.1 p hp, h.2 _ p hp rfl⟩
def ShI (w : World) (m : List Pt) (e : Ending) (w' : World) : Prop := ∃ v, e = .returned v ∧ w'.ownsRow w.heap.size 89 2 v m.length (cellsP m) ∧ Below w.heap.size w w'
theorem shi_none (w W : World) (h : Below w.heap.size w W) : ShI w [] (.returned (.slice none 0 0)) W :=
  ⟨_, rfl, ⟨by decide, .inl ⟨rfl, rfl⟩⟩, h⟩
set_option maxHeartbeats 2000000 in
theorem shift_impl (w : World) (a : Option Addr) (c : Nat) (l : List Pt) (dx dy : Int) (hn : l.length ≤ 1048576) (h : PathAt w a l) :
    Calls Try.prog 124 #[.slice a l.length c, .int .i64 dx, .int .i64 dy] w (ShI w (shV l (dx, dy))) := by
  obtain ⟨i0, hi0, hz0, hz1, hz2⟩ := info_parts info_pt8
  have H := Lib.hid (And.intro h hn)
  clear h hn
  have hall := all_sh l (dx, dy)
  rcases (show inB dx = false ∨ (inB dx = true ∧ inB dy = false) ∨ (inB dx = true ∧ inB dy = true ∧ ptsB l = false) ∨ (inB dx = true ∧ inB dy = true ∧ ptsB l = true) by cases inB dx <;> cases inB dy <;> cases ptsB l <;> simp) with h1 | ⟨h1, h2⟩ | ⟨h1, h2, h3⟩ | ⟨h1, h2, h3⟩
  · rw [shV_far (by simp [h1])]
    clear hall
    go_enter Try.func124, Try.ntmps124
    go_wp2_with (go_at_call 51; refine (coord_any _ _).mono ?_; rintro e w' ⟨rfl, rfl⟩)
    go_ret
    exact shi_none w w (Below.refl _ _)
  · rw [shV_far (by simp [h1, h2])]
    clear hall
    go_enter Try.func124, Try.ntmps124
    go_wp2_with (go_at_call 51; refine (coord_any _ _).mono ?_; rintro e w' ⟨rfl, rfl⟩)
    go_ret
    exact shi_none w w (Below.refl _ _)
  · rw [show shV l (dx, dy) = [] by simp [shV, hall, h3]]
    clear hall
    go_enter Try.func124, Try.ntmps124
    go_wp2_with (first
      | (go_at_call 51; refine (coord_any _ _).mono ?_; rintro e w' ⟨rfl, rfl⟩)
      | (go_at_call 102; refine (allpts_impl _ _ _ _ H.out.2 H.out.1).mono ?_; rintro e w1 ⟨rfl, hb⟩))
    go_ret
    exact shi_none w _ hb
  · have d1 := inB_true h1
    have d2 := inB_true h2
    have HV := Lib.hid (show shV l (dx, dy) = if ptsB (l.map (mv (dx, dy))) = true then l.map (mv (dx, dy)) else [] by simp [shV, hall, h1, h2, h3])
    have HO := Lib.hid h3
    clear hall
    go_enter Try.func124, Try.ntmps124
    go_wp2_with (first
      | (go_at_call 51; refine (coord_any _ _).mono ?_; rintro e w' ⟨rfl, rfl⟩)
      | (go_at_call 102; refine (allpts_impl _ _ _ _ H.out.2 H.out.1).mono ?_; rintro e w1 ⟨rfl, hb⟩))
    clear h1 h2 h3
    have HB1 := Lib.hid hb
    have hs1 := hb.size
    clear hb
    obtain ⟨n, hN⟩ : ∃ n, l.length = n := ⟨_, rfl⟩
    have HN := Lib.hid hN
    have hn := H.out.2
    rw [hN] at hn ⊢
    clear hN
    go_loopw [7, 25] (fun v7 v25 wr => ∃ k : Nat, k ≤ n ∧ v25 = .int .i64 (k : Int) ∧ wr.ownsRow w.heap.size 89 2 v7 k (cellsP ((l.take k).map (mv (dx, dy)))) ∧ Below w.heap.size w wr) (fun v7 v25 _ => n - (intOf v25).toNat)
    case atStart => exact ⟨0, Nat.zero_le _, rfl, ⟨by simp [cellsP], .inl ⟨rfl, rfl⟩⟩, HB1.out⟩
    case round =>
      obtain ⟨k, hk, rfl, hown, hB⟩ := hrel
      by_cases hlt : k < n
      · have hP := H.out.1.on hB
        rcases hP with he | ⟨g, rfl, hlg, hc⟩
        · have := HN.out; rw [he] at this; simp at this; omega
        · have hkl : k < l.length := by rw [HN.out]; exact hlt
          obtain ⟨q1, q2⟩ := hc k hkl
          have hget := getp l hkl
          have hp1 := ptsB_at HO.out hkl
          generalize pX l k = ax at q1 hget hp1
          generalize pY l k = ay at q2 hget hp1
          simp only [pokB, Bool.and_eq_true] at hp1
          have b1 := inB_true hp1.1
          have b2 := inB_true hp1.2
          have HG := Lib.hid hget
          have HQ := Lib.hid (And.intro hown hB)
          have hsz := hB.size
          have i0' : (0 : Int) ≤ (k : Int) := by omega
          have i1 : (k : Int) < (n : Int) := by omega
          clear hget hc hp1 hown hB
          go_wp2_with (at_builtin; refine wpList_append_own _ rfl _ _ 24 rfl w.heap.size 89 i0 (.agg #[.int .i64 0, .int .i64 0]) 2 16 Try.underlying24 hi0 hz0 hz1 hz2 rfl (by decide) _ _ _ rfl ((HQ.out.1.alloc (.cells #[.int .i64 ax, .int .i64 ay] 89)).alloc _) ⟨wr.heap.size + 1, 0, none⟩ 1 1 [.int .i64 (ax + dx), .int .i64 (ay + dy)] rfl rfl (World.news_of_block (cs := #[.int .i64 (ax + dx), .int .i64 (ay + dy)]) (t := 89) (fr := (0, 0)) (by have := heap_alloc_new (wr.alloc (.cells #[.int .i64 ax, .int .i64 ay] 89)) (.cells #[.int .i64 (ax + dx), .int .i64 (ay + dy)] 89); simpa using this)) ?c2 ?c3 ?c4 ?c5 ?_)
          case c2 => simp [Value.oneCell']
          case c3 => unfold maxLen; omega
          case c4 => omega
          case c5 => simp; omega
          intro v2 w3 hown2 hgrow hnil
          have hB3 : Below w.heap.size w w3 := ((HQ.out.2.alloc hsz (.cells #[.int .i64 ax, .int .i64 ay] 89)).alloc (by simp; omega) (.cells #[.int .i64 (ax + dx), .int .i64 (ay + dy)] 89)).grown hgrow (by simp; omega) (fun p hp => (((HQ.out.1.alloc (.cells #[.int .i64 ax, .int .i64 ay] 89)).alloc (.cells #[.int .i64 (ax + dx), .int .i64 (ay + dy)] 89)).lt p hp).1)
          have hown3 : w3.ownsRow w.heap.size 89 2 v2 (k + 1) (cellsP ((l.take (k + 1)).map (mv (dx, dy)))) := by
            rw [take_mv l _ hkl, HG.out, cellsP_snoc, List.map_take]; exact hown2
          have H3 := Lib.hid (And.intro hown3 hB3)
          clear hown2 hown3 hgrow hB3 hnil q1 q2
          go_wp2
          go_roundw
          case rel => exact ⟨k + 1, by omega, by go_num, H3.out.1, H3.out.2⟩
          case measure => simp [intOf]; omega
      · obtain rfl : k = n := by omega
        rw [List.take_of_length_le (by rw [HN.out]; omega)] at hown
        have hlen : (l.map (mv (dx, dy))).length = k := by rw [List.length_map, HN.out]
        have hown' : wr.ownsRow w.heap.size 89 2 u7 (l.map (mv (dx, dy))).length (cellsP (l.map (mv (dx, dy)))) := by rw [hlen]; exact hown
        obtain ⟨a7, c7, rfl, hP7⟩ := path_of_owns hown'
        have HQ := Lib.hid (And.intro hown' (And.intro hP7 (And.intro hB hlen)))
        clear hown hown' hP7 hB hlen
        generalize l.map (mv (dx, dy)) = m at *
        have hm : m.length ≤ 1048576 := by rw [HQ.out.2.2.2]; omega
        have hsz := HQ.out.2.2.1.size
        cases hpm : ptsB m
        · go_wp2_with fail
          (refine (allpts_impl _ _ _ _ hm HQ.out.2.1).mono ?_; rintro e w4 ⟨rfl, hb⟩)
          have HB4 := Lib.hid (HQ.out.2.2.1.trans (hb.mono hsz))
          rw [hpm]
          clear hb
          go_wp2
          go_ret
          rw [HV.out, hpm]
          exact shi_none w _ HB4.out
        · go_wp2_with fail
          (refine (allpts_impl _ _ _ _ hm HQ.out.2.1).mono ?_; rintro e w4 ⟨rfl, hb⟩)
          have HB4 := Lib.hid (And.intro (HQ.out.2.2.1.trans (hb.mono hsz)) (owns_below HQ.out.1 hb))
          rw [hpm]
          clear hb
          go_wp2
          go_ret
          rw [HV.out, hpm]
          exact ⟨_, rfl, HB4.out.2, HB4.out.1⟩
end Go.Proofs.Ytejnfdpckipbeaa.Ins
namespace Go.Proofs.Ytejnfdpckipbeaa.Ins
open Go.ChangeShapes Go.WideShapes Go.ChangeAt Go.RowKit
open Kit Point Slabs Recs
set_option linter.unusedVariables false
set_option linter.unusedSimpArgs false
set_option linter.unnecessarySimpa false
def plst (z : Nat → Nat → Value) (n : Nat) : List Pt := (List.range n).map fun i => (intOf (z i 0), intOf (z i 1))
theorem plst_len (z : Nat → Nat → Value) (n : Nat) : (plst z n).length = n := by simp [plst]
theorem plst_get (z : Nat → Nat → Value) {n i : Nat} (h : i < n) : (plst z n).getD i (0, 0) = (intOf (z i 0), intOf (z i 1)) := by
  simp [plst, List.getD, h]
theorem pX_plst (z : Nat → Nat → Value) {n i : Nat} (h : i < n) : pX (plst z n) i = intOf (z i 0) := by rw [pX, plst_get z h]
theorem pY_plst (z : Nat → Nat → Value) {n i : Nat} (h : i < n) : pY (plst z n) i = intOf (z i 1) := by rw [pY, plst_get z h]
theorem slab_path {w : World} {B n : Nat} {v : Value} {z : Nat → Nat → Value} (h : Slab w B v n 2 (fun i => [z i 0, z i 1])) (hs : Points.Shape (fun i => [z i 0, z i 1]) n) :
    ∃ a c, v = .slice a (plst z n).length c ∧ PathAt w a (plst z n) := by
  rw [plst_len]
  rcases h.writes with ⟨h0, a, c, hv⟩ | ⟨g, c, hv, _, W1⟩
  · subst h0; exact ⟨a, c, hv, .inl (by simp [plst])⟩
  · refine ⟨_, c, hv, .inr ⟨g, rfl, W1.here, fun i hi => ?_⟩⟩
    rw [plst_len] at hi
    obtain ⟨x0, x1, e⟩ := hs i hi
    have q := Points.cells_of W1.cell hi e
    have e' : [z i 0, z i 1] = [Value.int .i64 x0, .int .i64 x1] := e
    injection e' with e0 e1
    injection e1 with e1
    rw [pX_plst z hi, pY_plst z hi, e0, e1]
    exact q
theorem recs_keep8 {w W' : World} {a : Option Addr} {n c : Nat} {z : Nat → Nat → Value} (h : IsRecs Points.kl w a n c z) (hb : Below w.heap.size w W') : IsRecs Points.kl W' a n c z := by
  obtain ⟨h1, h2, h3⟩ := h
  refine ⟨h1, h2, ?_⟩
  rcases h3 with h3 | ⟨g, o, ha, hg, h4⟩
  · exact .inl h3
  · exact .inr ⟨g, o, ha, Nat.lt_of_lt_of_le hg hb.size, fun i hi j kd hk => ⟨(hb.cell (p := ⟨g, _, none⟩) hg).trans (h4 i hi j kd hk).1, (h4 i hi j kd hk).2⟩⟩
def pcF (l : List Pt) (i : Nat) : List Value := [.int .i64 (pX l i), .int .i64 (pY l i)]
theorem pcF_len (l : List Pt) (i : Nat) : (pcF l i).length = 2 := rfl
theorem pcF_shape (l : List Pt) (n : Nat) : Points.Shape (pcF l) n := fun i _ => ⟨_, _, rfl⟩
theorem pcF_cons (p : Pt) (l : List Pt) (i : Nat) : pcF (p :: l) (i + 1) = pcF l i := by simp [pcF, pX, pY]
theorem flat_pc : ∀ l : List Pt, flat (pcF l) l.length = cellsP l
  | [] => rfl
  | p :: l => by
    have e : flat (pcF (p :: l)) (l.length + 1) = pcF (p :: l) 0 ++ flat (fun i => pcF (p :: l) (i + 1)) l.length := by
      simp only [flat, List.range_succ_eq_map, List.flatMap_cons, List.flatMap_map]
    rw [List.length_cons, e, show (fun i => pcF (p :: l) (i + 1)) = pcF l from funext fun i => pcF_cons p l i, flat_pc l]
    simp [pcF, pX, pY, cellsP]
theorem slab_owns {w : World} {B : Nat} {v : Value} {m : List Pt} (h : w.ownsRow B 89 2 v m.length (cellsP m)) : Slab w B v m.length 2 (pcF m) :=
  Slab.of_owns (by rw [flat_pc]; exact h) (pcF_len m)
theorem shV_len (l : List Pt) (d : Pt) : (shV l d).length ≤ l.length := by
  unfold shV; split <;> simp
variable {w : World} {B n : Nat} {v : Value} {z : Nat → Nat → Value}
theorem inp_impl_v (h : Slab w B v n 2 (fun i => [z i 0, z i 1])) (hs : Points.Shape (fun i => [z i 0, z i 1]) n) (hn : n ≤ 1048576) (x y : Int) :
    Calls Try.prog 16 #[v, .int .i64 x, .int .i64 y] w fun e w' => e = .returned (.bool (inpB (plst z n) x y)) ∧ Below w.heap.size w w' := by
  obtain ⟨a, c, rfl, hp⟩ := slab_path h hs; exact inp_impl w a c _ x y (by rw [plst_len]; exact hn) hp
theorem shift_spec_v (h : Slab w B v n 2 (fun i => [z i 0, z i 1])) (hs : Points.Shape (fun i => [z i 0, z i 1]) n) (hn : n ≤ 1048576) (x y : Int) :
    Calls Try.prog 91 #[v, .int .i64 x, .int .i64 y] w fun e w' => ∃ u : Value, e = .returned u ∧ Slab w' w.heap.size u (shV (plst z n) (x, y)).length 2 (pcF (shV (plst z n) (x, y))) ∧ Below w.heap.size w w' := by
  obtain ⟨a, c, rfl, hp⟩ := slab_path h hs
  exact (shift_spec w a c _ x y (by rw [plst_len]; exact hn) hp).mono fun e w' ⟨u, he, ho, _, hb⟩ => ⟨u, he, slab_owns ho, hb⟩
theorem shift_impl_v (h : Slab w B v n 2 (fun i => [z i 0, z i 1])) (hs : Points.Shape (fun i => [z i 0, z i 1]) n) (hn : n ≤ 1048576) (x y : Int) :
    Calls Try.prog 124 #[v, .int .i64 x, .int .i64 y] w fun e w' => ∃ u : Value, e = .returned u ∧ Slab w' w.heap.size u (shV (plst z n) (x, y)).length 2 (pcF (shV (plst z n) (x, y))) ∧ Below w.heap.size w w' := by
  obtain ⟨a, c, rfl, hp⟩ := slab_path h hs
  exact (shift_impl w a c _ x y (by rw [plst_len]; exact hn) hp).mono fun e w' ⟨u, he, ho, hb⟩ => ⟨u, he, slab_owns ho, hb⟩
end Go.Proofs.Ytejnfdpckipbeaa.Ins
namespace Go.Proofs.Ytejnfdpckipbeaa.Own
open Go.ChangeShapes Go.WideShapes Go.ChangeAt Go.RowKit
open Kit Slabs Ints
set_option linter.unusedVariables false
set_option linter.unusedSimpArgs false
set_option linter.unnecessarySimpa false
set_option maxRecDepth 100000
set_option maxHeartbeats 4000000 in
theorem mark_Object (w : World) (N : Nat) {A : Array Value} {ds : List Dt} {fp : List Nat} (hb : bulkL ds ≤ 1048576) (h0 : 0 < N) (hN : N + cnt0L ds ≤ 1000000000) (h : OwnL w LObject A.toList ds fp) (hd : fp.Nodup) :
    Calls Try.prog 36 #[.agg A, .int .i64 (N : Int)] w fun e w' => e = .returned (.int .i64 ((N + cnt0L ds : Nat) : Int)) ∧ OwnL w' LObject A.toList (mk0L ds N) fp ∧ Turns w w' (fun b => b ∈ fp) := by
  obtain ⟨xa0, xc0, xs0, xx1_0, xx2_0, xx2_1, xx2_2, xx2_3, xF0, hA, rfl, rfl, ox0⟩ := inv_Object h
  obtain ⟨nd0, r0, x0⟩ := nodup_parts hd
  have hc : N + cnt0L (.sl xs0 :: (.int xx1_0 :: (.int xx2_0 :: (.int xx2_1 :: (.int xx2_2 :: (.int xx2_3 :: ([]))))))) = (N + cntL xs0) := by simp only [cnt0L_app, cnt0L, Dt.cnt0]; omega
  have hm : mk0L (.sl xs0 :: (.int xx1_0 :: (.int xx2_0 :: (.int xx2_1 :: (.int xx2_2 :: (.int xx2_3 :: ([]))))))) N = .sl (mkL xs0 N) :: (.int xx1_0 :: (.int xx2_0 :: (.int xx2_1 :: (.int xx2_2 :: (.int xx2_3 :: ([])))))) := by simp only [mk0L_app, mk0L, Dt.mk0, cnt0L_app, cnt0L, Dt.cnt0, Nat.add_zero, Nat.add_assoc]
  obtain ⟨M1, hM1⟩ : ∃ M, N + cntL xs0 = M := ⟨_, rfl⟩
  simp only [hM1] at hc hm
  rw [hc] at hN ⊢
  rw [hm]
  clear hc hm
  simp only [bulkL_app, bulkL, Dt.bulk] at hb
  have BA : Blk (w.alloc (.cells A 28)) w.heap.size A.toList := Blk.new w A 28 rfl
  have hT : Turns w (w.alloc (.cells A 28)) (fun b => b ∈ xF0 ++ ([])) := Turns.of_below (by go_grown)
  rw [hA] at BA ⊢
  have lt0 := ox0.lt
  have ne0 : ¬ (w.heap.size ∈ xF0) := fun hb => by have := lt0 _ hb; omega
  have p0 := ox0.under (w' := w.alloc (.cells A 28)) (by go_grown)
  have HO0 := Lib.hid (p0)
  have HA0 := Lib.hid BA
  have HT0 := Lib.hid hT
  have ca0 : A[0]? = some (.slice xa0 xs0.length xc0) := by rw [← Array.getElem?_toList, hA]; rfl
  clear ox0 hA BA hT h hd p0 lt0
  go_enter Try.func36, Try.ntmps36
  go_wp2_with fail
  ((with_reducible refine (mark_PointS _ N (by omega) (by omega) (by omega) (HO0.out) nd0).mono ?_); rintro e w1 ⟨rfl, o1, b1⟩)
  rw [hM1]
  have HO1 := Lib.hid (o1)
  have HA1 := Lib.hid (HA0.out.turned b1 ne0)
  have HT1 := Lib.hid (HT0.out.trans (b1.mono (fun _ hk => List.mem_append_left _ hk)))
  clear o1 b1 ca0
  go_wp2
  go_ret
  exact ⟨rfl, .cons (cs := [.slice xa0 xs0.length xc0]) (fp := xF0) (HO1.out) (.cons (cs := [.int .i64 xx1_0]) (fp := []) (.int xx1_0) (.cons (cs := [.int .i64 xx2_0]) (fp := []) (.int xx2_0) (.cons (cs := [.int .i64 xx2_1]) (fp := []) (.int xx2_1) (.cons (cs := [.int .i64 xx2_2]) (fp := []) (.int xx2_2) (.cons (cs := [.int .i64 xx2_3]) (fp := []) (.int xx2_3) (.nil)))))), HT1.out⟩
set_option maxHeartbeats 4000000 in
theorem held_Object (w : World) (N : Nat) {A : Array Value} {ds : List Dt} {cs0 : List Value} {fp fq : List Nat} {w0 : World} (hb : bulkL ds ≤ 1048576) (h0 : 0 < N) (hN : N + cnt0L ds ≤ 1000000000) (hs : OwnL w0 LObject cs0 ds fq) (h : OwnL w LObject A.toList (mk0L ds N) fp) :
    Calls Try.prog 41 #[.agg A, .int .i64 (N : Int)] w fun e w' => e = .returned (.int .i64 ((N + cnt0L ds : Nat) : Int)) ∧ Below w.heap.size w w' := by
  obtain ⟨xa0, xc0, xs0, xx1_0, xx2_0, xx2_1, xx2_2, xx2_3, xF0, _, rfl, _, ox0⟩ := inv_Object hs
  have hc : N + cnt0L (.sl xs0 :: (.int xx1_0 :: (.int xx2_0 :: (.int xx2_1 :: (.int xx2_2 :: (.int xx2_3 :: ([]))))))) = (N + cntL xs0) := by simp only [cnt0L_app, cnt0L, Dt.cnt0]; omega
  have hm : mk0L (.sl xs0 :: (.int xx1_0 :: (.int xx2_0 :: (.int xx2_1 :: (.int xx2_2 :: (.int xx2_3 :: ([]))))))) N = .sl (mkL xs0 N) :: (.int xx1_0 :: (.int xx2_0 :: (.int xx2_1 :: (.int xx2_2 :: (.int xx2_3 :: ([])))))) := by simp only [mk0L_app, mk0L, Dt.mk0, cnt0L_app, cnt0L, Dt.cnt0, Nat.add_zero, Nat.add_assoc]
  obtain ⟨M1, hM1⟩ : ∃ M, N + cntL xs0 = M := ⟨_, rfl⟩
  simp only [hM1] at hc hm
  rw [hc] at hN ⊢
  rw [hm] at h
  clear hc hm
  simp only [bulkL_app, bulkL, Dt.bulk] at hb
  obtain ⟨ya0, yc0, yF0, hA, rfl, oy0⟩ := inv_Object_ h
  simp only [mkL_length] at hA oy0
  have BA : Blk (w.alloc (.cells A 28)) w.heap.size A.toList := Blk.new w A 28 rfl
  have hW : Below w.heap.size w (w.alloc (.cells A 28)) := by go_grown
  rw [hA] at BA
  have HS := Lib.hid (ox0)
  have HO := Lib.hid (oy0)
  have HA0 := Lib.hid BA
  have HW0 := Lib.hid hW
  have ca0 : A[0]? = some (.slice ya0 xs0.length yc0) := by rw [← Array.getElem?_toList, hA]; rfl
  clear ox0 oy0 hA BA hW h hs
  go_enter Try.func41, Try.ntmps41
  go_wp2_with fail
  ((with_reducible refine (held_PointS _ N (by omega) (by omega) (by omega) (HS.out) ((HO.out).under HW0.out)).mono ?_); rintro e w1 ⟨rfl, b1⟩)
  rw [hM1]
  have HW1 := Lib.hid (on_of HW0.out b1)
  have HA1 := Lib.hid (HA0.out.keep b1)
  have g1 : ¬ (((M1 : Nat) : Int) < 0) := by omega
  clear b1 ca0
  go_wp2
  go_ret
  exact ⟨rfl, HW1.out⟩
end Go.Proofs.Ytejnfdpckipbeaa.Own
