/-
  Texts of this seat, laid together: Fm11, Pt11
-/
import Derived.Test.YtbdjnfnphilklaaM32
namespace Go.Proofs.Ytbdjnfnphilklaa.Own
open Go.ChangeShapes Go.WideShapes Go.ChangeAt Go.RowKit
open Kit Slabs Ints
open Go.Proofs.Ytbdjnfnphilklaa.Ins (gen_any9)
set_option linter.unusedVariables false
set_option linter.unusedSimpArgs false
set_option linter.unnecessarySimpa false
set_option maxRecDepth 100000
theorem et_ss : ElemT Try.prog 30 27 1 24 := by
  obtain ⟨i0, hi0, hz0, hz1, hz2⟩ := info_parts info_s11
  exact ⟨i0, _, Try.underlying30, hi0, hz0, hz1, hz2, rfl, by decide⟩
def Apd (w wr : World) (a : Option Addr) (n c : Nat) (R : List (List Int)) : Prop := R.length = n ∧ ∃ P fq, wr.ownsRow w.heap.size 27 1 (.slice a n c) n P ∧ OwnL wr (List.replicate n (.sl .int)) P (dR R) fq ∧ fq.Nodup ∧ (∀ b ∈ fq, w.heap.size ≤ b ∧ b ∉ rowL (.slice a n c)) ∧ Below w.heap.size w wr
theorem Apd.start (w : World) : Apd w (w.alloc (.cells #[] 27)) (some ⟨w.heap.size, 0, none⟩) 0 0 [] :=
  ⟨rfl, [], [], World.ownsRow_made w #[] (e := 27) (size := 1) 0 (Nat.le_refl _) (by decide) (by simp), .nil, List.nodup_nil, fun b hb => absurd hb List.not_mem_nil, (Below.refl _ _).alloc (Nat.le_refl _) _⟩
theorem Apd.below {w wr : World} {a : Option Addr} {n c : Nat} {R : List (List Int)} (h : Apd w wr a n c R) : Below w.heap.size w wr := by
  obtain ⟨_, _, _, _, _, _, _, h⟩ := h; exact h
theorem Apd.on {w wr w1 : World} {a : Option Addr} {n c : Nat} {R : List (List Int)} (h : Apd w wr a n c R) (hb : Below wr.heap.size wr w1) : Apd w w1 a n c R := by
  obtain ⟨h0, P, fq, h1, h2, h3, h4, h5⟩ := h
  exact ⟨h0, P, fq, row_on h1 hb, h2.under hb, h3, h4, on_of h5 hb⟩
theorem Apd.row {w wr : World} {a : Option Addr} {n c : Nat} {R : List (List Int)} (h : Apd w wr a n c R) : ∃ P, wr.ownsRow w.heap.size 27 1 (.slice a n c) n P ∧ ∀ (w1 w' : World) (a' : Option Addr) (c' : Nat) (u : Value) (r : List Int) (f : List Nat),
    Below wr.heap.size wr w1 → Own w1 (.sl .int) [u] (.sl (dI r)) f → f.Nodup → (∀ b ∈ f, wr.heap.size ≤ b) → w'.ownsRow w.heap.size 27 1 (.slice a' (n + 1) c') (n + 1) (P ++ [u]) → w1.grownBy w' (Value.ownBlock (.slice a n c)) → (∀ b ∈ rowL (.slice a' (n + 1) c'), b ∈ rowL (.slice a n c) ∨ w1.heap.size ≤ b) →
    Apd w w' a' (n + 1) c' (R ++ [r]) := by
  obtain ⟨h0, P, fq, h1, h2, h3, h4, h5⟩ := h
  refine ⟨P, h1, fun w1 w' a' c' u r f hb ho hn hf hown hg hnew => ⟨by simp [h0], P ++ [u], fq ++ f, hown, ?_, app_nodup h3 hn (fun x hx hy => by have := hf x hy; have := h2.lt x hx; omega), ?_, ?_⟩⟩
  · have e : dR (R ++ [r]) = dR R ++ [.sl (dI r)] := by simp [dR]
    rw [e, List.replicate_succ']
    have ht := Turns.of_grown hg
    have hlt := rowL_ge h1
    refine OwnL.snoc ((h2.under hb).turned ht (fun b hb e => (h4 b hb).2 (by simp [rowL, e]))) (ho.turned ht (fun b hb e => ?_))
    have := hlt b (by simp [rowL, e])
    have := hf b hb
    omega
  · intro b hb2
    have hlt := rowL_ge h1
    rcases List.mem_append.1 hb2 with h | h
    · refine ⟨(h4 b h).1, fun hm => ?_⟩
      rcases hnew b hm with h6 | h6
      · exact (h4 b h).2 h6
      · have := h2.lt b h; have := hb.size; omega
    · have hge := hf b h
      refine ⟨by have := h5.size; omega, fun hm => ?_⟩
      rcases hnew b hm with h6 | h6
      · have := hlt b h6; omega
      · have := ho.lt b h; omega
  · have hlt := rowL_ge h1
    refine (on_of h5 hb).trans ((Turns.of_grown hg).below ?_ (fun k hk => ?_))
    · have := (on_of h5 hb).size; omega
    · exact (hlt k (by simp [rowL, hk])).1
theorem Apd.done {w wr : World} {a : Option Addr} {n c : Nat} {R : List (List Int)} (h : Apd w wr a n c R) : SsNew R w (.returned (.slice a n c)) wr := by
  obtain ⟨h0, P, fq, h1, h2, h3, h4, h5⟩ := h
  subst h0
  refine ⟨a, c, _, rfl, row_own2 h1 h2, rowF_nodup h3 (fun b hb hm => (h4 b hm).2 hb), fun b hb => ?_, h5⟩
  rcases rowF_sub b hb with h | h
  · exact (rowL_ge h1 b h).1
  · exact (h4 b h).1
theorem cop_row {w w' : World} {e : Ending} {r : List Int} (h : Cop 3 1 r.length (ivs r) w e w') : ∃ a c f, e = .returned (.slice a r.length c) ∧ Own w' (.sl .int) [.slice a r.length c] (.sl (dI r)) f ∧ f.Nodup ∧ (∀ b ∈ f, w.heap.size ≤ b) ∧ Below w.heap.size w w' := by
  obtain ⟨a, c, he, ho, hb⟩ := h
  have hr : ∀ r : List Int, OwnL w' (List.replicate r.length .int) (ivs r) (dI r) [] := by
    intro r
    induction r with
    | nil => exact .nil
    | cons x r ih => exact OwnL.cons (cs := [.int .i64 x]) (fp := []) (.int x) ih
  refine ⟨a, c, _, he, row_own2 ho (hr r), rowF_nodup List.nodup_nil (fun b _ hm => absurd hm List.not_mem_nil), fun b hm => ?_, hb⟩
  rcases rowF_sub b hm with h | h
  · exact (rowL_ge ho b h).1
  · cases h
theorem white_done {vs : List Value} (hl : vs.length = 32) (h : ∀ i, i < 32 → vs[i]? = some (.int .i64 255)) : vs = ivs whiteR := by
  apply List.ext_getElem?
  intro j
  by_cases hj : j < 32
  · rw [h j hj, whiteR, reps, List.getElem?_replicate, if_pos hj]
  · rw [List.getElem?_eq_none (by omega), List.getElem?_eq_none (by rw [ivs_len, whiteR_len]; omega)]
set_option maxHeartbeats 2000000 in
theorem whites_spec (w : World) (n : Int) : Calls Try.prog 46 #[.int .i64 n] w (SsNew (if 0 ≤ n ∧ n ≤ 32 then List.replicate n.toNat whiteR else []) w) := by
  have A0 := Lib.hid (Apd.start w)
  by_cases h0 : n < 0
  · rw [if_neg (by omega)]
    go_enter Try.func46, Try.ntmps46
    go_wp2
    go_rounds 1
    go_ret
    exact A0.out.done
  by_cases h1 : 32 < n
  · rw [if_neg (by omega)]
    have hd : decide (n ≤ 32) = false := by simp; omega
    go_enter Try.func46, Try.ntmps46
    go_wp2
    go_rounds 1
    go_ret
    exact A0.out.done
  rw [if_pos (by omega)]
  obtain ⟨n, rfl⟩ : ∃ k : Nat, n = (k : Int) := ⟨n.toNat, by omega⟩
  rw [Int.toNat_natCast]
  have hn : n ≤ 32 := by omega
  have hd : decide ((n : Int) ≤ 32) = true := by simp; omega
  obtain ⟨Z0, hZ, hmk⟩ := mk_ints 32 (by omega)
  have hmk : ∀ W : World, (Instr.makeSlice 27 (.int .i64 32) (.int .i64 32)).run Try.prog W = .ok (.slice (some ⟨W.heap.size, 0, none⟩) 32 32) (W.alloc (.cells Z0.toArray 3)) := hmk
  clear h0 h1
  go_enter Try.func46, Try.ntmps46
  go_wp2
  go_loopw [3, 4] (fun v3 v4 wr => ∃ (k : Nat) (a3 : Option Addr) (c3 : Nat), k ≤ n ∧ v4 = .int .i64 (k : Int) ∧ v3 = .slice a3 k c3 ∧ Hid (Apd w wr a3 k c3 (List.replicate k whiteR))) (fun v3 v4 _ => n - (intOf v4).toNat)
  case atStart => exact ⟨0, _, _, Nat.zero_le _, rfl, rfl, A0⟩
  case round =>
    obtain ⟨k, a3, c3, hk, rfl, rfl, hA⟩ := hrel
    by_cases hlt : k < n
    · obtain ⟨wz, rfl⟩ : ∃ wz : World, wz = wr := ⟨_, rfl⟩
      have B0 := Lib.hid (show Blk (wz.alloc (.cells Z0.toArray 3)) wz.heap.size Z0 from by have := Blk.new wz Z0.toArray 3 rfl; simpa using this)
      have HZ := Lib.hid hZ
      go_wp2
      go_loopw [6] (fun v6 wr => ∃ (j : Nat) (vs : List Value), j ≤ 32 ∧ v6 = .int .i64 (j : Int) ∧ vs.length = 32 ∧ Blk wr wz.heap.size vs ∧ Hid (∀ i, i < j → vs[i]? = some (.int .i64 255)) ∧ Below wz.heap.size wz wr) (fun v6 _ => 32 - (intOf v6).toNat)
      case atStart => exact ⟨0, Z0, Nat.zero_le _, rfl, HZ.out, B0.out, Lib.hid (fun i hi => absurd hi (Nat.not_lt_zero i)), by go_grown⟩
      case round =>
        obtain ⟨j, vs, hj, rfl, hvl, hB, hv, hbel⟩ := hrel
        by_cases hlt2 : j < 32
        · have c0 := hB.1 j _ (List.getElem?_eq_getElem (show j < vs.length by omega))
          have f0 := hB.2.1
          obtain ⟨u, hu⟩ : ∃ u, vs[j]'(by omega) = u := ⟨_, rfl⟩
          rw [hu] at c0
          have hv2 : ∀ i, i < j + 1 → (vs.set j (.int .i64 255))[i]? = some (.int .i64 255) := fun i hi => by
            by_cases e : i = j
            · subst e; rw [List.getElem?_set_self (by omega)]
            · rw [List.getElem?_set_ne (by omega)]; exact hv.out i (by omega)
          have HB := Lib.hid (And.intro (Blk.setAt hB (show j < vs.length by omega) (.int .i64 255)) (And.intro hv2 (hbel.setCell (p := ⟨wz.heap.size, j, none⟩) (Nat.le_refl _) (.int .i64 255))))
          have j0 : (0 : Int) ≤ (j : Int) := by omega
          have j1 : (j : Int) < 32 := by omega
          clear hB hv hv2 hbel hu
          go_wp2
          go_roundw
          case rel => exact ⟨j + 1, _, by omega, by go_num, by rw [List.length_set]; exact hvl, HB.out.1, Lib.hid HB.out.2.1, HB.out.2.2⟩
          case measure => simp [intOf]; omega
        · obtain rfl : j = 32 := by omega
          have hvs := white_done hvl hv.out
          subst hvs
          have ho : Own wr (.sl .int) [.slice (some ⟨wz.heap.size, 0, none⟩) 32 32] (.sl (dI whiteR)) [wz.heap.size] := ints_at hB (by simp [whiteR]) (by simp [whiteR])
          have HO := Lib.hid (And.intro ho hbel)
          obtain ⟨P, hrow, hnext⟩ := hA.out.row
          have HR := Lib.hid (And.intro (row_on hrow (on_of hbel ((Below.refl _ _).alloc (Nat.le_refl _) (.cells #[.slice (some ⟨wz.heap.size, 0, none⟩) 32 32] 27)))) hnext)
          have hgs : w.heap.size ≤ wr.heap.size := by have := hA.out.below.size; have := hbel.size; omega
          clear hrow hnext ho hbel hB hv
          go_wp2_with (at_builtin; refine wpList_append_sl _ et_ss rfl _ _ rfl w.heap.size _ k _ P rfl HR.out.1 (some ⟨wr.heap.size, 0, none⟩) 1 1 [.slice (some ⟨wz.heap.size, 0, none⟩) 32 32] rfl rfl (Lies.new wr #[.slice (some ⟨wz.heap.size, 0, none⟩) 32 32] 27 rfl) (by simp [Value.oneCell']) ?c3 ?c4 ?c5 ?_)
          case c3 => unfold maxLen; omega
          case c4 => omega
          case c5 => simp; omega
          intro a2 c2 w2 hown hgrow hnew
          have HF := Lib.hid (HR.out.2 (wr.alloc (.cells #[.slice (some ⟨wz.heap.size, 0, none⟩) 32 32] 27)) w2 a2 c2 _ whiteR [wz.heap.size] (on_of HO.out.2 ((Below.refl _ _).alloc (Nat.le_refl _) _)) (HO.out.1.under ((Below.refl _ _).alloc (Nat.le_refl _) _)) (by simp) (by simp) hown hgrow (fun b hb => by simpa using hnew b hb))
          rw [← List.replicate_succ'] at HF
          clear hown hgrow hnew
          go_wp2
          go_roundw
          case rel => exact ⟨k + 1, a2, c2, by omega, by go_num, rfl, HF⟩
          case measure => simp [intOf]; omega
    · obtain rfl : k = n := by omega
      go_wp2
      go_ret
      exact hA.out.done
end Go.Proofs.Ytbdjnfnphilklaa.Own
namespace Go.Proofs.Ytbdjnfnphilklaa.Own
open Go.ChangeShapes Go.WideShapes Go.ChangeAt Go.RowKit
open Kit Slabs Ints
open Go.Proofs.Ytbdjnfnphilklaa.Ins (Pt inS inS_app inS_nil inS_cons gen_any9 orow obx mtV mtK SpIs)
set_option linter.unusedVariables false
set_option linter.unusedSimpArgs false
set_option linter.unnecessarySimpa false
set_option maxRecDepth 100000
theorem mtK_bd (l : List Pt) (a b : Int) : ∀ k, ∀ q ∈ mtK l a b k, a ≤ q.1 ∧ q.2 ≤ b
  | 0, q, h => by simp [mtK] at h
  | k + 1, q, h => by
    have e : mtK l a b (k + 1) = if mx (Ins.pX l k) a < mn (Ins.pY l k) b then mtK l a b k ++ [(mx (Ins.pX l k) a, mn (Ins.pY l k) b)] else mtK l a b k := rfl
    rw [e] at h
    split at h
    · rcases List.mem_append.1 h with h | h
      · exact mtK_bd l a b k q h
      · rw [List.mem_singleton.1 h]; unfold mx mn; dsimp only; omega
    · exact mtK_bd l a b k q h
theorem mtx_pg (b : Ins.Bx) : Ins.mtx b Ins.pgx = ⟨0, 0, 0, 0⟩ ∨ (0 ≤ (Ins.mtx b Ins.pgx).x0 ∧ (Ins.mtx b Ins.pgx).x1 ≤ 32) := by
  unfold Ins.mtx
  split
  · right; simp only [Ins.pgx, mx, mn]; omega
  · exact .inl rfl
theorem orow_bd (l : List Pt) (g x0 y0 x1 y1 y : Int) : ∀ q ∈ orow l g x0 y0 x1 y1 y, 0 ≤ q.1 ∧ q.2 ≤ 32 := by
  intro q hq
  unfold Ins.orow at hq
  split at hq
  · rename_i h
    have hb : 0 ≤ (obx l g x0 y0 x1 y1).x0 ∧ (obx l g x0 y0 x1 y1).x1 ≤ 32 := by
      have hv : obx l g x0 y0 x1 y1 = ⟨0, 0, 0, 0⟩ ∨ (0 ≤ (obx l g x0 y0 x1 y1).x0 ∧ (obx l g x0 y0 x1 y1).x1 ≤ 32) := by
        unfold Ins.obx
        split
        · exact mtx_pg _
        · exact .inl rfl
      rcases hv with e | h
      · rw [e] at h; simp only at h; omega
      · exact h
    unfold Ins.mtV at hq
    split at hq
    · have := mtK_bd _ _ _ _ q hq; omega
    · simp at hq
  · simp at hq
theorem orow_len11 (l : List Pt) (g x0 y0 x1 y1 y : Int) : (orow l g x0 y0 x1 y1 y).length ≤ l.length := by
  unfold Ins.orow; split
  · exact Nat.le_trans (Ins.mtV_len _ _ _) (by have := Ins.spsV_len l y; omega)
  · simp
theorem path_turned {w w' : World} {a : Option Addr} {l : List Pt} {S : Nat → Prop} (h : Ins.PathAt w a l) (ht : Turns w w' S) (hS : ∀ g, a = some ⟨g, 0, none⟩ → g < w.heap.size → ¬ S g) : Ins.PathAt w' a l := by
  rcases h with h | ⟨g, rfl, hg, hc⟩
  · exact .inl h
  · have hb := ht.block g hg (hS g rfl hg)
    exact .inr ⟨g, rfl, Nat.lt_of_lt_of_le hg ht.size, fun i hi => ⟨(World.cell?_of_block (w := w) hb).trans (hc i hi).1, (World.cell?_of_block (w := w) hb).trans (hc i hi).2⟩⟩
def pntK (g : Int) (L : Nat → List Pt) (R : List (List Int)) (k : Nat) : List (List Int) := R.mapIdx fun i r => if i < k then pnt g (L i) r else r
theorem pntK_len (g : Int) (L : Nat → List Pt) (R : List (List Int)) (k : Nat) : (pntK g L R k).length = R.length := by simp [pntK]
theorem pntK_zero (g : Int) (L : Nat → List Pt) (R : List (List Int)) : pntK g L R 0 = R := by
  apply List.ext_getElem
  · simp [pntK]
  · intro i h1 h2; simp [pntK]
theorem pntK_at (g : Int) (L : Nat → List Pt) {R : List (List Int)} {k : Nat} (h : k < R.length) : (pntK g L R k).getD k [] = R.getD k [] := by
  simp [pntK, List.getD, List.getElem?_eq_getElem h]
theorem pntK_set (g : Int) (L : Nat → List Pt) {R : List (List Int)} {k : Nat} (h : k < R.length) : (pntK g L R k).set k (pnt g (L k) (R.getD k [])) = pntK g L R (k + 1) := by
  apply List.ext_getElem
  · simp [pntK]
  · intro i h1 h2
    rw [List.getElem_set]
    simp only [pntK, List.getElem_mapIdx]
    by_cases e : k = i
    · subst e
      rw [if_pos rfl, if_pos (by omega)]
      simp [List.getD, List.getElem?_eq_getElem h]
    · rw [if_neg e]
      by_cases h3 : i < k
      · rw [if_pos h3, if_pos (by omega)]
      · rw [if_neg h3, if_neg (by omega)]
def pntR (g : Int) (L : Nat → List Pt) (R : List (List Int)) : List (List Int) := pntK g L R R.length
theorem pntR_len (g : Int) (L : Nat → List Pt) (R : List (List Int)) : (pntR g L R).length = R.length := pntK_len _ _ _ _
def rowsL (l : List Pt) (g x0 y0 x1 y1 first : Int) (k : Nat) : List Pt := orow l g x0 y0 x1 y1 (first + (k : Int))
def sixv (a : Option Addr) (n c : Nat) (g x0 y0 x1 y1 : Int) : List Value := [.slice a n c, .int .i64 g, .int .i64 x0, .int .i64 y0, .int .i64 x1, .int .i64 y1]
theorem sixc {W : World} {X : Nat} {a : Option Addr} {n c : Nat} {g x0 y0 x1 y1 : Int} (h : Blk W X (sixv a n c g x0 y0 x1 y1)) :
    W.cell? ⟨X, 0, none⟩ = some (.slice a n c) ∧ W.cell? ⟨X, 1, none⟩ = some (.int .i64 g) ∧ W.cell? ⟨X, 2, none⟩ = some (.int .i64 x0) ∧ W.cell? ⟨X, 3, none⟩ = some (.int .i64 y0) ∧ W.cell? ⟨X, 4, none⟩ = some (.int .i64 x1) ∧ W.cell? ⟨X, 5, none⟩ = some (.int .i64 y1) ∧ X < W.heap.size :=
  ⟨h.1 0 _ rfl, h.1 1 _ rfl, h.1 2 _ rfl, h.1 3 _ rfl, h.1 4 _ rfl, h.1 5 _ rfl, h.2.2⟩
structure PtS (w wr : World) (X g : Nat) (a : Option Addr) (n c : Nat) (gr x0 y0 x1 y1 : Int) (P : List Value) (fq : List Nat) (R : List (List Int)) : Prop where
  X : Blk wr X (sixv a n c gr x0 y0 x1 y1)
  G : Blk wr g P
  O : OwnL wr (List.replicate R.length (.sl .int)) P (dR R) fq
  T : Turns w wr (fun b => b ∈ fq)
set_option maxHeartbeats 4000000 in
theorem paint_impl (w : World) (ra : Nat) (rc : Nat) (R : List (List Int)) (fp : List Nat) (first : Int) (a : Option Addr) (c : Nat) (l : List Pt) (gr x0 y0 x1 y1 : Int)
    (hn : l.length ≤ 1048576) (hR : R.length ≤ 32) (h32 : ∀ r ∈ R, r.length = 32) (hf : 0 ≤ first ∧ first ≤ 32) (h0 : R.length ≠ 0)
    (ho : Own w KSS [.slice (some ⟨ra, 0, none⟩) R.length rc] (.sl (dR R)) fp) (hd : fp.Nodup) (hpa : ∀ W, Turns w W (fun b => b ∈ fp) → Ins.PathAt W a l) :
    Calls Try.prog 44 #[.slice (some ⟨ra, 0, none⟩) R.length rc, .int .i64 first, .agg #[.slice a l.length c, .int .i64 gr, .int .i64 x0, .int .i64 y0, .int .i64 x1, .int .i64 y1]] w fun e w' =>
      e = .returned (.tuple #[]) ∧ Own w' KSS [.slice (some ⟨ra, 0, none⟩) R.length rc] (.sl (dR (pntR gr (rowsL l gr x0 y0 x1 y1 first) R))) fp ∧ Turns w w' (fun b => b ∈ fp) := by
  obtain ⟨a9, c9, hv, _, hG⟩ := own_ss ho
  simp only [Value.slice.injEq] at hv
  obtain ⟨rfl, _, rfl⟩ := hv
  obtain ⟨g, P, fq, hg1, rfl, hRc, hB, hO⟩ := hG h0
  simp only [Option.some.injEq, Addr.mk.injEq, and_true] at hg1
  subst hg1
  obtain ⟨hgq, hdq⟩ := List.nodup_cons.1 hd
  have hX0 := Blk.new w #[.slice a l.length c, .int .i64 gr, .int .i64 x0, .int .i64 y0, .int .i64 x1, .int .i64 y1] 40 rfl
  have hb0 : Below w.heap.size w (w.alloc (.cells #[.slice a l.length c, .int .i64 gr, .int .i64 x0, .int .i64 y0, .int .i64 x1, .int .i64 y1] 40)) := by go_grown
  have hS0 : PtS w (w.alloc (.cells #[.slice a l.length c, .int .i64 gr, .int .i64 x0, .int .i64 y0, .int .i64 x1, .int .i64 y1] 40)) w.heap.size ra a l.length c gr x0 y0 x1 y1 P fq (pntK gr (rowsL l gr x0 y0 x1 y1 first) R 0) := by
    rw [pntK_zero]
    exact ⟨hX0, hB.alloc _, hO.under hb0, Turns.of_below hb0⟩
  have HS0 := Lib.hid hS0
  have HK := Lib.hid (And.intro hgq (And.intro hdq (And.intro hpa (And.intro h32 (And.intro hO.lt hRc)))))
  obtain ⟨n, hN⟩ : ∃ n, R.length = n := ⟨_, rfl⟩
  have HN := Lib.hid hN
  rw [hN] at h0 hR ⊢
  have h0' := Lib.hid h0
  clear hS0 hX0 hb0 hB hO hgq hdq hpa h32 ho hd hN hRc h0
  go_enter Try.func44, Try.ntmps44
  go_wp2
  go_loopw [13] (fun v13 wr => ∃ k : Nat, k ≤ n ∧ v13 = .int .i64 (k : Int) ∧ Hid (PtS w wr w.heap.size ra a l.length c gr x0 y0 x1 y1 P fq (pntK gr (rowsL l gr x0 y0 x1 y1 first) R k))) (fun v13 _ => n - (intOf v13).toNat)
  case atStart => exact ⟨0, Nat.zero_le _, rfl, HS0⟩
  case round =>
    obtain ⟨k, hk, rfl, hS⟩ := hrel
    by_cases hlt : k < n
    · have hkR : k < R.length := by rw [HN.out]; exact hlt
      obtain ⟨v, d, f, hPk, hdk, hOk, hfk, hnext⟩ := OwnL.nth rfl hS.out.O (k := k) (by rw [pntK_len]; exact hkR)
      rw [dR_at _ _ (by rw [pntK_len]; exact hkR), Option.some.injEq, pntK_at _ _ hkR] at hdk
      subst hdk
      obtain ⟨r, hr⟩ : ∃ r, R.getD k [] = r := ⟨_, rfl⟩
      have hr32 : r.length = 32 := by
        rw [← hr, List.getD_eq_getElem?_getD, List.getElem?_eq_getElem hkR, Option.getD_some]
        exact HK.out.2.2.2.1 _ (List.getElem_mem hkR)
      rw [hr] at hOk
      obtain ⟨a8, c8, rfl, _, hrow⟩ := own_ints hOk
      obtain ⟨b, rfl, rfl, hrc, hBr⟩ := hrow (by omega)
      rw [hr32] at hPk hrc
      have q0 := hS.out.G.1 k _ hPk
      obtain ⟨k0, k1, k2, k3, k4, k5, hzX⟩ := sixc hS.out.X
      have hbq : b ∈ fq := hfk b (by simp)
      have hgl := hS.out.G.2.2
      obtain ⟨X, hX⟩ : ∃ X, w.heap.size = X := ⟨_, rfl⟩
      have HH := Lib.hid (And.intro hr (And.intro hBr (And.intro hnext (And.intro hbq (And.intro hrc hkR)))))
      clear hr hBr hnext hOk hfk hPk hbq hrc hkR hrow
      have i0 : (0 : Int) ≤ (k : Int) := by omega
      have i1 : (k : Int) < (n : Int) := by omega
      simp only [hX] at *
      obtain ⟨wz, rfl⟩ : ∃ wz : World, wz = wr := ⟨_, rfl⟩
      have HPW := Lib.hid (HK.out.2.2.1 wz (hS.out.T.mono (fun x hx => List.mem_cons_of_mem _ hx)))
      have hbX := HK.out.2.2.2.2.1 b HH.out.2.2.2.1
      have hbz : b < wz.heap.size := HH.out.2.1.2.2
      go_wp2_with fail
      clear q0 k0 k1 k2 k3 k4 k5
      ((with_reducible refine (Ins.orow_impl _ a c l gr x0 y0 x1 y1 (first + (k : Int)) hn HPW.out).mono ?_); rintro e w1 ⟨v, rfl, hv, bb⟩)
      have hbd := orow_bd l gr x0 y0 x1 y1 (first + (k : Int))
      have hll := orow_len11 l gr x0 y0 x1 y1 (first + (k : Int))
      obtain ⟨L, hL⟩ : ∃ L, orow l gr x0 y0 x1 y1 (first + (k : Int)) = L := ⟨_, rfl⟩
      have hLr : rowsL l gr x0 y0 x1 y1 first k = L := hL
      rw [hL] at hv hbd hll
      have hge := rowL_ge hv
      obtain ⟨va, vc, rfl, hp⟩ := Ins.path_of_owns hv
      have hvb : ∀ gs, va = some ⟨gs, 0, none⟩ → gs < w1.heap.size → ¬ gs = b := fun gs e _ hb => by
        have := (hge gs (by rw [e]; simp [rowL, Value.ownBlock])).1; omega
      obtain ⟨n2, hN2⟩ : ∃ n2, L.length = n2 := ⟨_, rfl⟩
      have hn2 : n2 ≤ 1048576 := by omega
      have HC := Lib.hid (And.intro hp (And.intro hvb (And.intro hbd (And.intro hN2 (And.intro (hS.out.X.keep bb) (HH.out.2.1.keep bb))))))
      have HT1 := Lib.hid bb
      rw [hN2]
      clear hL hv hbd hll hge hp hvb hN2 bb
      go_wp2
      go_loopw [24] (fun v24 wr => ∃ j : Nat, j ≤ n2 ∧ v24 = .int .i64 (j : Int) ∧ Hid (Blk wr b (ivs (pnt gr (L.take j) r)) ∧ Turns w1 wr (fun x => x = b))) (fun v24 _ => n2 - (intOf v24).toNat)
      case atStart => exact ⟨0, Nat.zero_le _, rfl, Lib.hid ⟨by rw [List.take_zero, pnt_nil]; exact HC.out.2.2.2.2.2, Turns.refl _ _⟩⟩
      case round =>
        obtain ⟨j, hj, rfl, hI⟩ := hrel
        by_cases hlt2 : j < n2
        · have hjL : j < L.length := by rw [HC.out.2.2.2.1]; exact hlt2
          rcases path_turned HC.out.1 hI.out.2 HC.out.2.1 with he | ⟨gs, rfl, hgs, hcs⟩
          · rw [he] at hjL; simp at hjL
          obtain ⟨q1, q2⟩ := hcs j hjL
          have hgp := Ins.getp L hjL
          have hbd := HC.out.2.2.1 _ (List.getElem_mem hjL)
          rw [hgp] at hbd
          have htk : L.take (j + 1) = L.take j ++ [(Ins.pX L j, Ins.pY L j)] := by rw [List.take_succ_eq_append_getElem hjL, hgp]
          obtain ⟨f, hf9⟩ : ∃ f, Ins.pX L j = f := ⟨_, rfl⟩
          obtain ⟨t, ht9⟩ : ∃ t, Ins.pY L j = t := ⟨_, rfl⟩
          rw [hf9] at q1 hbd htk
          rw [ht9] at q2 hbd htk
          obtain ⟨fm, rfl⟩ : ∃ fm : Nat, f = (fm : Int) := ⟨f.toNat, by omega⟩
          have ht32 : t ≤ 32 := hbd.2
          have j0 : (0 : Int) ≤ (j : Int) := by omega
          have j1 : (j : Int) < (n2 : Int) := by omega
          obtain ⟨wy, rfl⟩ : ∃ wy : World, wy = wr := ⟨_, rfl⟩
          have hbl : b < wy.heap.size := hI.out.1.2.2
          have hB3 : Blk (wy.alloc (.cells #[.int .i64 (fm : Int), .int .i64 t] 96)) wy.heap.size [.int .i64 (fm : Int), .int .i64 t] := Blk.new wy #[.int .i64 (fm : Int), .int .i64 t] 96 rfl
          have HQ := Lib.hid (And.intro htk (And.intro hB3 (And.intro (hI.out.1.alloc (.cells #[.int .i64 (fm : Int), .int .i64 t] 96)) (Turns.alloc hI.out.2 (.cells #[.int .i64 (fm : Int), .int .i64 t] 96)))))
          clear hgp hbd htk hf9 ht9 hB3 hcs
          go_wp2
          go_loopw [10] (fun v10 wr => ∃ m : Nat, v10 = .int .i64 (m : Int) ∧ fm ≤ m ∧ ((m : Int) ≤ t ∨ m = fm) ∧ Hid (Blk wr b (ivs (pnt gr (L.take j ++ [((fm : Int), (m : Int))]) r)) ∧ Turns (wy.alloc (.cells #[.int .i64 (fm : Int), .int .i64 t] 96)) wr (fun x => x = b))) (fun v10 _ => 32 - (intOf v10).toNat)
          case atStart => exact ⟨fm, rfl, Nat.le_refl _, .inr rfl, Lib.hid ⟨by rw [pnt_none (Int.le_refl _)]; exact HQ.out.2.2.1, Turns.refl _ _⟩⟩
          case round =>
            obtain ⟨m, rfl, hfm, hmt, hJ⟩ := hrel
            have hJX := ((HC.out.2.2.2.2.1.turn (HQ.out.2.2.2.trans hJ.out.2) (by omega)))
            have k1 := (sixc hJX).2.1
            have hJS := (HQ.out.2.1.turn hJ.out.2 (by omega))
            have s1 : wr.cell? ⟨wy.heap.size, 1, none⟩ = some (.int .i64 t) := hJS.1 1 _ rfl
            by_cases hlt3 : (m : Int) < t
            · have hm32 : m < 32 := by omega
              have c0 := hJ.out.1.ivAt (i := m) (by rw [pnt_len, hr32]; exact hm32)
              have f0 := hJ.out.1.2.1
              have hB4 := Blk.setAt hJ.out.1 (i := m) (by rw [ivs_len, pnt_len, hr32]; exact hm32) (.int .i64 gr)
              rw [ivs_set, pnt_set rfl (by omega)] at hB4
              have HB4 := Lib.hid (And.intro hB4 (Turns.one hJ.out.2 m (.int .i64 gr)))
              have m0 : (0 : Int) ≤ (m : Int) := by omega
              have m1 : (m : Int) < 32 := by omega
              generalize (pnt gr (List.take j L ++ [((fm : Int), (m : Int))]) r).getD m 0 = cv at c0
              clear hB4 hJX hJS
              go_wp2
              go_roundw
              case rel => exact ⟨m + 1, by go_num, by omega, .inl (by omega), HB4⟩
              case measure => simp [intOf]; omega
            · have he : pnt gr (L.take j ++ [((fm : Int), (m : Int))]) r = pnt gr (L.take (j + 1)) r := by
                rw [HQ.out.1]
                rcases hmt with h | h
                · rw [show (m : Int) = t by omega]
                · subst h
                  rw [pnt_none (Int.le_refl _), pnt_none (by omega)]
              have HI := Lib.hid (And.intro (he ▸ hJ.out.1) (HQ.out.2.2.2.trans hJ.out.2))
              clear he hJX hJS
              go_wp2
              go_roundw
              case rel => exact ⟨j + 1, by omega, by go_num, HI⟩
              case measure => simp [intOf]; omega
        · obtain rfl : j = n2 := by omega
          have htake : L.take j = L := by rw [← HC.out.2.2.2.1, List.take_length]
          rw [htake] at hI
          have hT : Turns wz wr (fun x => x = b) := (Turns.of_below HT1.out).trans hI.out.2
          have hT2 : Turns wz wr (fun x => x ∈ [b]) := hT.mono (fun x hx => by simpa using hx)
          have hr2 : (pnt gr L r).length = 32 := by rw [pnt_len, hr32]
          have hOw : Own wr (.sl .int) [.slice (some ⟨b, 0, none⟩) r.length c8] (.sl (dI (pnt gr L r))) [b] := by
            have := ints_at (c := c8) hI.out.1 (by omega) (by rw [hr2]; exact HH.out.2.2.2.2.1)
            rw [hr2] at this; rw [hr32]; exact this
          have hO := HH.out.2.2.1 HK.out.2.1 wr _ hT2 hOw
          rw [pntK_len, dR_set, ← hLr, ← HH.out.1, pntK_set _ _ HH.out.2.2.2.2.2] at hO
          have hfin : PtS w wr X ra a l.length c gr x0 y0 x1 y1 P fq (pntK gr (rowsL l gr x0 y0 x1 y1 first) R (k + 1)) :=
            ⟨HC.out.2.2.2.2.1.turn hI.out.2 (by omega), hS.out.G.turn hT (fun e => HK.out.1 (by rw [e]; exact HH.out.2.2.2.1)), by rw [pntK_len]; exact hO, hS.out.T.trans (hT.mono (fun x hx => by rw [hx]; exact HH.out.2.2.2.1))⟩
          have HF := Lib.hid hfin
          clear htake hT hT2 hr2 hOw hO hfin
          go_wp2
          go_roundw
          case rel => exact ⟨k + 1, by omega, by go_num, HF⟩
          case measure => simp [intOf]; omega
    · obtain rfl : k = n := by omega
      go_wp2
      refine bodyPost_end (results_none rfl _ _ _) rfl ?_
      have e : pntR gr (rowsL l gr x0 y0 x1 y1 first) R = pntK gr (rowsL l gr x0 y0 x1 y1 first) R k := by rw [pntR, HN.out]
      have hO := hS.out.O
      rw [pntK_len] at hO
      refine ⟨rfl, ?_, hS.out.T.mono (fun x hx => List.mem_cons_of_mem _ hx)⟩
      rw [e]
      have := ss_own (c := rc) hS.out.G (R := pntK gr (rowsL l gr x0 y0 x1 y1 first) R k) (by rw [pntK_len]; exact hO) (by rw [pntK_len, HN.out]; exact h0'.out) (by rw [pntK_len]; exact HK.out.2.2.2.2.2)
      rw [pntK_len, HN.out] at this
      exact this
end Go.Proofs.Ytbdjnfnphilklaa.Own
