/-
  Texts of this seat, laid together: Hp11
-/
import Derived.Deep.RegionHeld3
import Derived.Deep.DeepCutAuto
import Derived.Test.YtbdjnfnphilklaaM32
import Derived.Test.YtbdjnfnphilklaaM12
namespace Go.Proofs.Ytbdjnfnphilklaa.Own
open Go.ChangeShapes Go.WideShapes Go.ChangeAt Go.RowKit
open Kit Slabs Ints
set_option linter.unusedVariables false
set_option linter.unusedSimpArgs false
set_option linter.unnecessarySimpa false
set_option maxRecDepth 100000
theorem tot_left (R : List (List Int)) (k : Nat) (hk : k < R.length) : tot R = tot (R.take k) + ((R.getD k []).length + tot (R.drop (k + 1))) := by
  rw [tot_parts R (k + 1), tot_take hk, Nat.add_assoc]
set_option maxHeartbeats 4000000 in
theorem sz_SS (w : World) {a : Option Addr} {c : Nat} {R : List (List Int)} (h : RR w a R) (hm : R.length ≤ maxLen) (hr : ∀ r ∈ R, r.length ≤ maxLen) (l : Int) (l0 : 0 ≤ l) (l1 : l ≤ 1048576) :
    Calls Try.prog 53 #[.slice a R.length c, .int .i64 l] w fun e w' => e = .returned (.int .i64 (szv l (R.length + tot R))) ∧ Below w.heap.size w w' := by
  have HP := Lib.hid h
  obtain ⟨n, hN⟩ : ∃ n, R.length = n := ⟨_, rfl⟩
  have HN := Lib.hid (And.intro hN hr)
  rw [hN] at hm ⊢
  have hm2 : n ≤ 9223372036854775807 := by unfold maxLen at hm; omega
  clear hm h hN hr
  by_cases c0 : l - (n : Int) < 0
  · have hz : szv l n = -1 := by unfold szv; rw [if_pos c0]
    have HZ := Lib.hid (szv_neg (b := tot R) l0 (by rw [hz]; omega))
    clear hz
    go_enter Try.func53, Try.ntmps53
    go_wp2
    go_ret
    exact ⟨ret_int HZ.out.symm, Below.refl _ _⟩
  · have hz : szv l n = l - (n : Int) := by unfold szv; rw [if_neg c0]
    have HZ := Lib.hid hz
    have hn1 : n ≤ 1048576 := by omega
    clear hz
    go_enter Try.func53, Try.ntmps53
    go_wp2
    go_loopw [1, 5] (fun v1 v5 wr => ∃ (k : Nat) (y : Int), k ≤ n ∧ v5 = .int .i64 (k : Int) ∧ v1 = .int .i64 y ∧ 0 ≤ y ∧ y ≤ 1048576 ∧ Hid (szv l (n + tot (R.take k)) = y) ∧ Below w.heap.size w wr) (fun v1 v5 _ => n - (intOf v5).toNat)
    case atStart => exact ⟨0, _, Nat.zero_le _, rfl, rfl, by omega, by omega, Lib.hid (by rw [List.take_zero]; exact HZ.out), Below.refl _ _⟩
    case round =>
      obtain ⟨k, y, hk, rfl, rfl, y0, y1, hY, hB⟩ := hrel
      by_cases hlt : k < n
      · have hkR : k < R.length := by rw [HN.out.1]; exact hlt
        obtain ⟨g, o, rfl, hg, hc⟩ := (HP.out.on hB).some (by omega)
        obtain ⟨a', c', q, hl⟩ := hc k hkR
        have htl := tot_left R k hkR
        have htk := tot_take hkR
        have hxm : (R.getD k []).length ≤ maxLen := by
          rw [List.getD_eq_getElem?_getD, List.getElem?_eq_getElem hkR, Option.getD_some]; exact HN.out.2 _ (List.getElem_mem hkR)
        obtain ⟨m, hM⟩ : ∃ m, (R.getD k []).length = m := ⟨_, rfl⟩
        rw [hM] at q htl htk hxm
        have i0 : (0 : Int) ≤ (k : Int) := by omega
        have i1 : (k : Int) < (n : Int) := by omega
        have HT := Lib.hid (And.intro htl (And.intro htk hxm))
        have HB := Lib.hid hB
        clear hl hc htl htk hxm hM hB
        go_wp2_with fail
        ((with_reducible refine (szI_o _ a' m c' y HT.out.2.2 y0 y1).mono ?_); rintro e w1 ⟨rfl, rfl⟩)
        obtain ⟨z, hz⟩ : ∃ z, szv y m = z := ⟨_, rfl⟩
        rw [hz]
        have hs : szv l (n + tot (R.take k) + m) = z := by rw [← szv_add (by rw [hY.out]; exact y0), hY.out, hz]
        by_cases hz0 : z < 0
        · have HE := Lib.hid (show szv l (n + tot R) = -1 by
            rw [HT.out.1, show n + (tot (R.take k) + (m + tot (R.drop (k + 1)))) = (n + tot (R.take k) + m) + tot (R.drop (k + 1)) by omega]
            exact szv_neg l0 (by rw [hs]; exact hz0))
          clear hz hs
          go_wp2
          go_ret
          exact ⟨ret_int HE.out.symm, HB.out⟩
        · have hz1 : z ≤ 1048576 := by have := szv_le (a := m) y0; omega
          have HE := Lib.hid (show szv l (n + tot (R.take (k + 1))) = z by rw [HT.out.2.1, ← hs]; congr 1; omega)
          clear hz hs
          go_wp2
          go_roundw
          case rel => exact ⟨k + 1, z, by omega, by go_num, rfl, by omega, hz1, HE, HB.out⟩
          case measure => simp [intOf]; omega
      · obtain rfl : k = n := by omega
        have HB := Lib.hid hB
        have HE := Lib.hid (show szv l (k + tot R) = y by rw [← hY.out, ← HN.out.1, List.take_length])
        clear hB
        go_wp2
        go_ret
        exact ⟨ret_int HE.out.symm, HB.out⟩
theorem to_row (w : World) (a : Option Addr) (c : Nat) (r : List Int) (hn : r.length ≤ 1048576) (h : Lies w a (ivs r)) :
    Calls Try.prog 86 #[.slice a r.length c] w fun e w' => ∃ (a' : Option Addr) (c' : Nat) (f : List Nat), e = .returned (.slice a' r.length c') ∧ Own w' (.sl .int) [.slice a' r.length c'] (.sl (dI r)) f ∧ f.Nodup ∧ (∀ b ∈ f, w.heap.size ≤ b) ∧ Below w.heap.size w w' := by
  refine (toI_rd a r.length c r w hn (fun h0 => lies_at h h0)).mono fun e w' ⟨v, hv, hs, hb⟩ => ?_
  have ho := ints_own (es := dI r) hs (len_dI r) (fun i hi => by rw [at_dI r hi]; rfl)
  have hrow := hs.row
  obtain ⟨a', c', rfl, _⟩ := hs
  exact ⟨a', c', _, hv, ho, nodup_row _, fun b hbm => (hrow b (by simpa using hbm)).1, hb⟩
set_option maxHeartbeats 2000000 in
theorem to_SS (w : World) (a : Option Addr) (c : Nat) (R : List (List Int)) (hb : R.length + tot R ≤ 1048576) (h : RR w a R) :
    Calls Try.prog 57 #[.slice a R.length c] w (SsNew R w) := by
  have HP := Lib.hid h
  obtain ⟨n, hN⟩ : ∃ n, R.length = n := ⟨_, rfl⟩
  have HN := Lib.hid (And.intro hN hb)
  have hn : n ≤ 1048576 := by omega
  rw [hN]
  obtain ⟨Z0, hZ, hmk⟩ := mk_rows n hn
  have F0 := Lib.hid (Fill.start w hZ 27)
  clear hN h hb hZ
  go_enter Try.func57, Try.ntmps57
  go_wp2
  go_loopw [4] (fun v wr => ∃ k : Nat, k ≤ n ∧ v = .int .i64 (k : Int) ∧ Hid (Fill w wr w.heap.size n (R.take k))) (fun v _ => n - (intOf v).toNat)
  case atStart => exact ⟨0, Nat.zero_le _, rfl, F0⟩
  case round =>
    obtain ⟨k, hk, rfl, hF⟩ := hrel
    by_cases hlt : k < n
    · have hB := hF.out.below
      have hkR : k < R.length := by rw [HN.out.1]; exact hlt
      have hkl : (R.take k).length = k := by rw [List.length_take]; omega
      obtain ⟨⟨u, hu⟩, hfr, hg, _⟩ := hF.out.cell (by rw [hkl]; exact hlt)
      rw [hkl] at hu
      obtain ⟨ga, oa, rfl, hga, hc⟩ := (HP.out.on hB).some (by omega)
      obtain ⟨a', c', q, hl⟩ := hc k hkR
      have hx0 := tot_at hkR
      have htk : R.take (k + 1) = R.take k ++ [R.getD k []] := by
        rw [List.take_succ_eq_append_getElem hkR]; simp [List.getD, List.getElem?_eq_getElem hkR]
      obtain ⟨x, hx⟩ : ∃ x, R.getD k [] = x := ⟨_, rfl⟩
      rw [hx] at q hl hx0 htk
      have i0 : (0 : Int) ≤ (k : Int) := by omega
      have i1 : (k : Int) < (n : Int) := by omega
      obtain ⟨g, hG⟩ : ∃ g, w.heap.size = g := ⟨_, rfl⟩
      simp only [hG] at *
      have HX := Lib.hid (And.intro hl (And.intro (show x.length ≤ 1048576 by have := HN.out.2; omega) (And.intro htk (And.intro hkl (And.intro hu (And.intro hfr hg))))))
      clear hl hx htk hc hx0 hB hu hfr hg hkl
      go_wp2_with fail
      ((with_reducible refine (to_row _ a' c' x HX.out.2.1 HX.out.1).mono ?_); rintro e w1 ⟨a9, c9, f, rfl, ho, hnd, hge, bb⟩)
      have hu : w1.cell? ⟨g, k, none⟩ = some u := (bb.cell (p := ⟨g, k, none⟩) HX.out.2.2.2.2.2.2).trans HX.out.2.2.2.2.1
      have hfr : ∀ o, w1.frozen? ⟨g, o, none⟩ = false := fun o => (bb.frozen (p := ⟨g, o, none⟩) HX.out.2.2.2.2.2.2).trans (HX.out.2.2.2.2.2.1 o)
      have F1 := hF.out.put (by rw [HX.out.2.2.2.1]; exact hlt) bb ho hnd hge
      rw [HX.out.2.2.2.1, ← HX.out.2.2.1] at F1
      have HF := Lib.hid F1
      clear F1 ho hnd hge bb
      go_wp2
      go_roundw
      case rel => exact ⟨k + 1, by omega, by go_num, HF⟩
      case measure => simp [intOf]; omega
    · obtain rfl : k = n := by omega
      go_wp2
      go_ret
      obtain ⟨fp, h1, h2, h3, h4⟩ := hF.out.done (by rw [List.length_take, HN.out.1]; simp)
      rw [← HN.out.1, List.take_length] at h1
      exact ⟨_, _, fp, by rw [HN.out.1]; rfl, by rw [HN.out.1] at h1 ⊢; exact h1, h2, h3, h4⟩
theorem ss_elt {w : World} {g c n : Nat} {R : List (List Int)} {fp : List Nat} (h : Own w KSS [.slice (some ⟨g, 0, none⟩) n c] (.sl (dR R)) fp) {k : Nat} (hk : k < R.length) :
    g < w.heap.size ∧ ∃ a' c' f, w.cell? ⟨g, k, none⟩ = some (.slice a' (R.getD k []).length c') ∧ Own w (.sl .int) [.slice a' (R.getD k []).length c'] (.sl (dI (R.getD k []))) f := by
  obtain ⟨a, c9, hv, _, hG⟩ := own_ss h
  obtain ⟨g9, P, fq, ha, hf, hc, hB, hO⟩ := hG (by omega)
  simp only [Value.slice.injEq] at hv
  obtain ⟨rfl, _, rfl⟩ := hv
  simp only [Option.some.injEq, Addr.mk.injEq, and_true] at ha
  subst ha
  obtain ⟨v, d, f, h1, h2, h3, _⟩ := OwnL.nth rfl hO hk
  rw [dR_at R k hk, Option.some.injEq] at h2
  subst h2
  obtain ⟨a', c', rfl, _⟩ := own_ints h3
  exact ⟨hB.2.2, a', c', f, hB.1 k _ h1, h3⟩
set_option maxHeartbeats 4000000 in
theorem eq_SS (w : World) {a1 a2 : Option Addr} {c1 c2 : Nat} {R : List (List Int)} {f1 f2 : List Nat} (hb : R.length + tot R ≤ 1048576) (h1 : Own w KSS [.slice a1 R.length c1] (.sl (dR R)) f1) (h2 : Own w KSS [.slice a2 R.length c2] (.sl (dR R)) f2) :
    Calls Try.prog 47 #[.slice a1 R.length c1, .slice a2 R.length c2] w fun e w' => e = .returned (.bool true) ∧ Below w.heap.size w w' := by
  obtain ⟨n, hN⟩ : ∃ n, R.length = n := ⟨_, rfl⟩
  by_cases h0 : n = 0
  · subst h0
    rw [hN]
    clear h1 h2
    go_enter Try.func47, Try.ntmps47
    go_wp2
    go_loopw [5] (fun i wr => i = .int .i64 0 ∧ Below w.heap.size w wr) (fun _ _ => 0)
    case atStart => exact ⟨rfl, Below.refl _ _⟩
    case round =>
      obtain ⟨rfl, hbel⟩ := hrel
      go_wp2
      go_ret
      exact ⟨rfl, hbel⟩
  · obtain ⟨b1, d1, hv1, _, hG1⟩ := own_ss h1
    obtain ⟨b2, d2, hv2, _, hG2⟩ := own_ss h2
    obtain ⟨g1, P1, q1, rfl, _⟩ := hG1 (by omega)
    obtain ⟨g2, P2, q2, rfl, _⟩ := hG2 (by omega)
    simp only [Value.slice.injEq] at hv1 hv2
    obtain ⟨rfl, _, rfl⟩ := hv1
    obtain ⟨rfl, _, rfl⟩ := hv2
    rw [hN] at h1 h2 ⊢
    have H := Lib.hid (And.intro h1 h2)
    have hn2 : n ≤ 1048576 := by omega
    have HN := Lib.hid (And.intro hN hb)
    clear h1 h2 hG1 hG2 hN hb
    go_enter Try.func47, Try.ntmps47
    go_wp2
    go_loopw [5] (fun i wr => ∃ k : Nat, k ≤ n ∧ i = .int .i64 (k : Int) ∧ Below w.heap.size w wr) (fun i _ => n - (intOf i).toNat)
    case atStart => exact ⟨0, Nat.zero_le _, rfl, Below.refl _ _⟩
    case round =>
      obtain ⟨k, hk, rfl, hbel⟩ := hrel
      by_cases hlt : k < n
      · have hkR : k < R.length := by rw [HN.out.1]; exact hlt
        obtain ⟨l1, a1, c1, e1, s1, o1⟩ := ss_elt (H.out.1.under hbel) hkR
        obtain ⟨l2, a2, c2, e2, s2, o2⟩ := ss_elt (H.out.2.under hbel) hkR
        have hx0 := tot_at hkR
        obtain ⟨x, hx⟩ : ∃ x, R.getD k [] = x := ⟨_, rfl⟩
        rw [hx] at s1 s2 o1 o2 hx0
        have L1 := Lib.hid (fun (W : World) (hW : Below wr.heap.size wr W) => (hW.cell (p := ⟨g1, k, none⟩) l1).trans s1)
        have L2 := Lib.hid (fun (W : World) (hW : Below wr.heap.size wr W) => (hW.cell (p := ⟨g2, k, none⟩) l2).trans s2)
        have HE := Lib.hid (And.intro o1 (And.intro o2 (show (dI x).length ≤ 1048576 by rw [len_dI]; have := HN.out.2; omega)))
        have HB := Lib.hid hbel
        have i0 : (0 : Int) ≤ (k : Int) := by omega
        have i1 : (k : Int) < (n : Int) := by omega
        clear o1 o2 hx hx0 s1 s2 hbel
        go_wp2_with fail
        go_region_held3 (fun w' => w'.cell? ⟨g1, k, none⟩ = some (.slice a1 x.length c1) ∧ w'.cell? ⟨g2, k, none⟩ = some (.slice a2 x.length c2) ∧ Below wr.heap.size wr w') (first | exact ⟨L1.out _ hB, L2.out _ hB, hB⟩ | exact ⟨L1.out _ (by go_grown), L2.out _ (by go_grown), by go_grown⟩)
          ((go_at_call 76; (with_reducible refine (eqI_o _ HE.out.2.2 (HE.out.1.under (by first | exact hB | go_grown)) (HE.out.2.1.under (by first | exact hB | go_grown))).mono ?_); rintro e w' ⟨rfl, hb⟩; have hB := on_of (W := wr) (by first | exact hB | go_grown) hb))
        have HB2 := Lib.hid (on_of HB.out hB)
        go_wp2
        go_roundw
        case rel => exact ⟨k + 1, by omega, by go_num, HB2.out⟩
        case measure => simp [intOf]; omega
      · obtain rfl : k = n := by omega
        go_wp2
        go_ret
        exact ⟨rfl, hbel⟩
/-! ### Marks -/
theorem cnt_dI (r : List Int) : cntL (dI r) = r.length := by
  induction r with
  | nil => rfl
  | cons x r ih =>
    have : dI (x :: r) = .int x :: dI r := rfl
    rw [this]; simp only [cntL, Dt.cnt, ih, List.length_cons]; omega
theorem cnt_dR (R : List (List Int)) : cntL (dR R) = tot R := by
  induction R with
  | nil => rfl
  | cons r R ih =>
    have : dR (r :: R) = .sl (dI r) :: dR R := rfl
    rw [this]; simp only [cntL, Dt.cnt, ih, cnt_dI, tot, List.map_cons, List.sum_cons]
def mkTo (R : List (List Int)) (N k : Nat) : List Dt := mkL ((dR R).take k) N ++ (dR R).drop k
theorem mkTo_zero (R : List (List Int)) (N : Nat) : mkTo R N 0 = dR R := by simp [mkTo, mkL]
theorem mkTo_len (R : List (List Int)) (N k : Nat) : (mkTo R N k).length = R.length := by
  simp only [mkTo, List.length_append, mkL_length, List.length_take, List.length_drop, len_dR]; omega
theorem mkTo_all (R : List (List Int)) (N : Nat) : mkTo R N R.length = mkL (dR R) N := by
  simp only [mkTo]; rw [← len_dR R, List.take_length, List.drop_length, List.append_nil]
theorem mkTo_at {R : List (List Int)} {N k : Nat} (h : k < R.length) : (mkTo R N k)[k]? = some (.sl (dI (R.getD k []))) := by
  have hl : (mkL ((dR R).take k) N).length = k := by rw [mkL_length, List.length_take, len_dR]; omega
  simp only [mkTo]
  rw [List.getElem?_append_right (by omega), hl, Nat.sub_self, List.getElem?_drop, Nat.add_zero, dR_at R k h]
theorem take_dR (R : List (List Int)) (k : Nat) : (dR R).take k = dR (R.take k) := by simp [dR]
theorem mkTo_set {R : List (List Int)} {N k : Nat} (h : k < R.length) : (mkTo R N k).set k (.sl (mkL (dI (R.getD k [])) (N + tot (R.take k)))) = mkTo R N (k + 1) := by
  have hl : (mkL ((dR R).take k) N).length = k := by rw [mkL_length, List.length_take, len_dR]; omega
  have hkd : k < (dR R).length := by rw [len_dR]; exact h
  simp only [mkTo]
  rw [List.set_append_right _ _ (by omega), hl, Nat.sub_self, List.drop_eq_getElem_cons hkd, List.set_cons_zero, take_mk hkd, List.append_assoc]
  congr 1
  simp only [List.singleton_append, List.cons.injEq, and_true]
  have : (dR R)[k] = .sl (dI (R.getD k [])) := by
    have := dR_at R k h
    rw [List.getElem?_eq_getElem hkd, Option.some.injEq] at this; exact this
  rw [this, Dt.mk, take_dR, cnt_dR]
set_option maxHeartbeats 4000000 in
theorem mark_SS (w : World) (N : Nat) {a : Option Addr} {c : Nat} {R : List (List Int)} {fp : List Nat} (hb : R.length + tot R ≤ 1048576) (hN : N + tot R ≤ 1000000000) (h : Own w KSS [.slice a R.length c] (.sl (dR R)) fp) (hd : fp.Nodup) :
    Calls Try.prog 49 #[.slice a R.length c, .int .i64 (N : Int)] w fun e w' => e = .returned (.int .i64 ((N + tot R : Nat) : Int)) ∧ Own w' KSS [.slice a R.length c] (.sl (mkL (dR R) N)) fp ∧ Turns w w' (fun b => b ∈ fp) := by
  obtain ⟨n, hN2⟩ : ∃ n, R.length = n := ⟨_, rfl⟩
  by_cases h0 : n = 0
  · have hR : R = [] := List.eq_nil_of_length_eq_zero (by omega)
    subst hR
    have HO := Lib.hid h
    subst h0
    clear h hd hN2
    go_enter Try.func49, Try.ntmps49
    go_wp2
    go_loopw [1, 5] (fun k i wr => i = .int .i64 0 ∧ k = .int .i64 (N : Int) ∧ wr = w) (fun _ _ _ => 0)
    case atStart => exact ⟨rfl, rfl, rfl⟩
    case round =>
      obtain ⟨rfl, rfl, rfl⟩ := hrel
      go_wp2
      go_ret
      exact ⟨rfl, HO.out, Turns.refl _ _⟩
  · obtain ⟨b1, d1, hv1, _, hG1⟩ := own_ss h
    obtain ⟨g, P, fq, rfl, rfl, hc, hB, hO⟩ := hG1 (by omega)
    simp only [Value.slice.injEq] at hv1
    obtain ⟨rfl, _, rfl⟩ := hv1
    obtain ⟨hgq, hdq⟩ := List.nodup_cons.1 hd
    rw [hN2] at hc hO ⊢
    have HS := Lib.hid (And.intro hgq (And.intro hdq (And.intro hc (And.intro hB (And.intro hO hN2)))))
    have hn2 : n ≤ 1048576 := by omega
    have HB0 := Lib.hid hb
    clear h hd hG1 hgq hdq hc hB hO hN2 hb
    go_enter Try.func49, Try.ntmps49
    go_wp2
    go_loopw [1, 5] (fun v1 i wr => ∃ k : Nat, k ≤ n ∧ i = .int .i64 (k : Int) ∧ v1 = .int .i64 ((N + tot (R.take k) : Nat) : Int) ∧ Hid (OwnL wr (List.replicate n (.sl .int)) P (mkTo R N k) fq ∧ Turns w wr (fun b => b ∈ fq))) (fun _ i _ => n - (intOf i).toNat)
    case atStart => exact ⟨0, Nat.zero_le _, rfl, by simp [tot], Lib.hid ⟨by rw [mkTo_zero]; exact HS.out.2.2.2.2.1, Turns.refl _ _⟩⟩
    case round =>
      obtain ⟨k, hk, rfl, rfl, hI⟩ := hrel
      by_cases hlt : k < n
      · have hkR : k < R.length := by rw [HS.out.2.2.2.2.2]; exact hlt
        obtain ⟨v, d, f, hPk, hdk, hOk, hfk, hnext⟩ := OwnL.nth rfl hI.out.1 (k := k) hlt
        rw [mkTo_at hkR, Option.some.injEq] at hdk
        subst hdk
        have hx0 := tot_at hkR
        have htk := tot_take hkR
        have htl := tot_left R k hkR
        have hset := mkTo_set (N := N) hkR
        obtain ⟨x, hx⟩ : ∃ x, R.getD k [] = x := ⟨_, rfl⟩
        rw [hx] at hOk hx0 htk htl hset
        obtain ⟨a8, c8, rfl, _⟩ := own_ints hOk
        have q0 := (HS.out.2.2.2.1.turned hI.out.2 HS.out.1).1 k _ hPk
        obtain ⟨M, hM⟩ : ∃ M, N + tot (R.take k) = M := ⟨_, rfl⟩
        rw [hM] at hset
        have hM2 : M ≤ 1000000000 := by have := HB0.out; omega
        have HH := Lib.hid (And.intro hOk (And.intro hnext (And.intro hset (And.intro hfk (And.intro (show (dI x).length ≤ 1048576 by rw [len_dI]; have := HB0.out; omega) (show M + x.length = N + tot (R.take (k + 1)) by omega))))))
        have i0 : (0 : Int) ≤ (k : Int) := by omega
        have i1 : (k : Int) < (n : Int) := by omega
        clear hOk hnext hset hfk hPk hx hx0 htk htl
        rw [hM]
        clear hM
        go_wp2_with fail
        ((with_reducible refine (markI_o _ M HH.out.2.2.2.2.1 hM2 HH.out.1).mono ?_); rintro e w1 ⟨rfl, ho, ht⟩)
        have hO2 := HH.out.2.1 HS.out.2.1 w1 _ ht ho
        rw [HH.out.2.2.1] at hO2
        rw [cnt_dI, HH.out.2.2.2.2.2]
        have HI := Lib.hid (And.intro hO2 (hI.out.2.trans (ht.mono (fun b hb => HH.out.2.2.2.1 b hb))))
        clear hO2 ho ht
        go_wp2
        go_roundw
        case rel => exact ⟨k + 1, by omega, by go_num, rfl, HI⟩
        case measure => simp [intOf]; omega
      · obtain rfl : k = n := by omega
        have htot : R.take k = R := by rw [← HS.out.2.2.2.2.2, List.take_length]
        have hall : mkTo R N k = mkL (dR R) N := by rw [← HS.out.2.2.2.2.2]; exact mkTo_all R N
        rw [hall] at hI
        have hB2 := HS.out.2.2.2.1.turned hI.out.2 HS.out.1
        have HE := Lib.hid (And.intro (own_sl (n := k) (cap := c) hB2 hI.out.1 (fun q hq => (List.mem_replicate.1 hq).2) (by rw [mkL_length, len_dR, HS.out.2.2.2.2.2]) h0 HS.out.2.2.1) (And.intro (hI.out.2.mono (fun b hb => List.mem_cons_of_mem g hb)) htot))
        clear hB2 htot hall
        rw [HE.out.2.2]
        go_wp2
        go_ret
        exact ⟨rfl, HE.out.1, HE.out.2.1⟩
theorem own_some (w : World) (r : List Int) : ∃ (w0 : World) (v0 : Value) (f : List Nat), Own w0 (.sl .int) [v0] (.sl (dI r)) f := by
  by_cases h0 : r.length = 0
  · have : r = [] := List.eq_nil_of_length_eq_zero h0
    subst this
    exact ⟨w, .slice none 0 0, [], .nil _ _⟩
  · have hb := Blk.new w (ivs r).toArray 3 rfl
    exact ⟨_, _, _, ints_at (c := r.length) (by simpa using hb) h0 (Nat.le_refl _)⟩
theorem mk_dR {R : List (List Int)} {N k : Nat} (h : k < R.length) : (mkL (dR R) N)[k]? = some (.sl (mkL (dI (R.getD k [])) (N + tot (R.take k)))) := by
  have hkd : k < (dR R).length := by rw [len_dR]; exact h
  have h2 : (dR R)[k] = .sl (dI (R.getD k [])) := by
    have := dR_at R k h
    rw [List.getElem?_eq_getElem hkd, Option.some.injEq] at this; exact this
  rw [List.getElem?_eq_getElem (by rw [mkL_length]; exact hkd), mk_elt hkd, h2, Dt.mk, take_dR, cnt_dR]
set_option maxHeartbeats 4000000 in
theorem held_SS (w : World) (N : Nat) {a : Option Addr} {c : Nat} {R : List (List Int)} {fp : List Nat} (hb : R.length + tot R ≤ 1048576) (hN : N + tot R ≤ 1000000000) (h : Own w KSS [.slice a R.length c] (.sl (mkL (dR R) N)) fp) :
    Calls Try.prog 51 #[.slice a R.length c, .int .i64 (N : Int)] w fun e w' => e = .returned (.int .i64 ((N + tot R : Nat) : Int)) ∧ Below w.heap.size w w' := by
  obtain ⟨n, hN2⟩ : ∃ n, R.length = n := ⟨_, rfl⟩
  by_cases h0 : n = 0
  · have hR : R = [] := List.eq_nil_of_length_eq_zero (by omega)
    subst hR
    subst h0
    clear h hN2
    go_enter Try.func51, Try.ntmps51
    go_wp2
    go_loopw [1, 5] (fun k i wr => i = .int .i64 0 ∧ k = .int .i64 (N : Int) ∧ wr = w) (fun _ _ _ => 0)
    case atStart => exact ⟨rfl, rfl, rfl⟩
    case round =>
      obtain ⟨rfl, rfl, rfl⟩ := hrel
      go_wp2
      go_ret
      exact ⟨rfl, Below.refl _ _⟩
  · rcases h.sl_is with ⟨_, _, hv, hd, _⟩ | ⟨g, n', cap, es, P, fq, hv, hd, hf, hl, hn, hnc, hP, ho, hB⟩
    · simp only [Dt.sl.injEq] at hd
      have := mkL_length (dR R) N
      rw [hd, len_dR] at this
      simp at this; omega
    · simp only [Value.slice.injEq] at hv
      obtain ⟨rfl, rfl, rfl⟩ := hv
      simp only [Dt.sl.injEq] at hd
      subst hd
      rw [hN2] at ho ⊢
      have HS := Lib.hid (And.intro ho (And.intro hB hN2))
      have HB0 := Lib.hid hb
      have hn2 : n ≤ 1048576 := by omega
      clear h ho hB hl hN2 hb hnc hP hn
      go_enter Try.func51, Try.ntmps51
      go_wp2
      go_loopw [1, 5] (fun v1 i wr => ∃ k : Nat, k ≤ n ∧ i = .int .i64 (k : Int) ∧ v1 = .int .i64 ((N + tot (R.take k) : Nat) : Int) ∧ Below w.heap.size w wr) (fun _ i _ => n - (intOf i).toNat)
      case atStart => exact ⟨0, Nat.zero_le _, rfl, by simp [tot], Below.refl _ _⟩
      case round =>
        obtain ⟨k, hk, rfl, rfl, hbel⟩ := hrel
        by_cases hlt : k < n
        · have hkR : k < R.length := by rw [HS.out.2.2]; exact hlt
          obtain ⟨v, d, f, hPk, hdk, hOk, hfk, _⟩ := OwnL.nth rfl (HS.out.1.under hbel) (k := k) hlt
          rw [mk_dR hkR, Option.some.injEq] at hdk
          subst hdk
          have hx0 := tot_at hkR
          have htk := tot_take hkR
          have htl := tot_left R k hkR
          obtain ⟨x, hx⟩ : ∃ x, R.getD k [] = x := ⟨_, rfl⟩
          rw [hx] at hOk hx0 htk htl
          obtain ⟨M, hM⟩ : ∃ M, N + tot (R.take k) = M := ⟨_, rfl⟩
          rw [hM] at hOk
          have hM2 : M ≤ 1000000000 := by have := HB0.out; omega
          have hv : ∃ a8 m8 c8, v = .slice a8 m8 c8 := by
            rcases hOk.sl_is with ⟨_, _, rfl, _, _⟩ | ⟨_, _, _, _, _, _, rfl, _⟩ <;> exact ⟨_, _, _, rfl⟩
          obtain ⟨a8, m8, c8, rfl⟩ := hv
          have q0 := (HS.out.2.1.keep hbel).1 k _ hPk
          have HH := Lib.hid (And.intro hOk (And.intro (show (dI x).length ≤ 1048576 by rw [len_dI]; have := HB0.out; omega) (And.intro (show M + x.length = N + tot (R.take (k + 1)) by omega) hbel)))
          have i0 : (0 : Int) ≤ (k : Int) := by omega
          have i1 : (k : Int) < (n : Int) := by omega
          obtain ⟨w0, v0, f0, ho0⟩ := own_some w x
          have HO0 := Lib.hid ho0
          clear hOk hfk hPk hx hx0 htk htl ho0 hbel
          rw [hM]
          clear hM
          go_wp2_with fail
          ((with_reducible refine (heldI_o _ M HH.out.2.1 hM2 HO0.out HH.out.1).mono ?_); rintro e w1 ⟨rfl, bb⟩)
          rw [cnt_dI, HH.out.2.2.1]
          have HI := Lib.hid (on_of HH.out.2.2.2 bb)
          have hneg : ¬ (((N + tot (R.take (k + 1)) : Nat) : Int) < 0) := by omega
          clear bb
          go_wp2
          go_roundw
          case rel => exact ⟨k + 1, by omega, by go_num, rfl, HI.out⟩
          case measure => simp [intOf]; omega
        · obtain rfl : k = n := by omega
          have htot : R.take k = R := by rw [← HS.out.2.2, List.take_length]
          have HE := Lib.hid hbel
          rw [htot]
          clear htot hbel
          go_wp2
          go_ret
          exact ⟨rfl, HE.out⟩
end Go.Proofs.Ytbdjnfnphilklaa.Own
