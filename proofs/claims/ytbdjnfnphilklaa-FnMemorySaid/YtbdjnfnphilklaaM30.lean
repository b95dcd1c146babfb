/-
  Texts of this seat, laid together: Cp11
-/
import Derived.Laws.CopyOwn
import Derived.Deep.RegionLaw
import Derived.LoopTactic
import Derived.Deep.QuietTactic
import Derived.BigQuiet
import Derived.Deep.RegionHeld3
import Derived.Deep.DeepCutAuto
import Derived.Test.YtbdjnfnphilklaaM29
import Derived.Test.YtbdjnfnphilklaaM20
namespace Go.Proofs.Ytbdjnfnphilklaa.Own
open Go.ChangeShapes Go.WideShapes Go.ChangeAt Go.RowKit
open Kit Slabs Ints
set_option linter.unusedVariables false
set_option linter.unusedSimpArgs false
set_option linter.unnecessarySimpa false
set_option maxRecDepth 100000
/-! ### copy at elements of k cells -/
theorem run_copy_k {P : Program} (w : World) (dT sT ty elem : TypeId) (k g o dLen dCap : Nat) (a : Addr) (sLen sCap m : Nat) (cur : List Value) (t : TypeId) (cs : List Value)
    (hu : P.underlying dT = some (.slice elem)) (hs : (P.info? elem).map (·.size) = some k)
    (hg : w.heap[g]? = some (.cells cur.toArray t (0, 0))) (hm : Nat.min sLen dLen = m) (hn : cs.length = m * k)
    (hsrc : ∀ j v, cs[j]? = some v → w.cell? (a.add j) = some v) (hfit : o + cs.length ≤ cur.length) (h1 : ∀ v ∈ cs, v.oneCell' = true) :
    (Builtin.copy_ #[dT, sT] ty #[.slice (some ⟨g, o, none⟩) dLen dCap, .slice (some a) sLen sCap]).run P w = .ok (goInt m) (w.setRow g (splice cur o cs).toArray) := by
  have hl := run_loadCells_list (P := P) w a cs hsrc
  have hst := run_storeCells_at P g o t cs 0 cur.toArray w hg (by simpa using hfit) h1
  cases hq : P.info? elem with
  | none => simp [hq] at hs
  | some i =>
    have hi : i.size = k := by simpa [hq] using hs
    rw [hn] at hl
    simp [Builtin.copy_, run_underlying hu, Builtin.lenOf, Builtin.firstCells, sizeOf, typeInfo, hq, hi, hm, hl, hst, splice, List.append_assoc]
theorem run_copy_zero {P : Program} (w : World) (dT sT ty elem : TypeId) (k dLen dCap sLen sCap : Nat) (dp sp : Option Addr)
    (hu : P.underlying dT = some (.slice elem)) (hs : (P.info? elem).map (·.size) = some k) (hm : Nat.min sLen dLen = 0) :
    (Builtin.copy_ #[dT, sT] ty #[.slice dp dLen dCap, .slice sp sLen sCap]).run P w = .ok (goInt 0) w := by
  cases hq : P.info? elem with
  | none => simp [hq] at hs
  | some i =>
    cases dp <;> cases sp <;> simp [Builtin.copy_, run_underlying hu, Builtin.lenOf, Builtin.firstCells, sizeOf, typeInfo, hq, hm, loadCells, loadCellsFrom, storeCells]
theorem copy_k_wp {P : Program} {w : World} {o : Oper} {a : Act} {K : Act → World → Prop} {Q : Exit → Act → World → Prop} (d s : Operand) (dT sT : TypeId)
    (ho : o.op = .call { callee := .builtin .copy, args := #[d, s], argTypes := #[dT, sT] }) (elem : TypeId) (k : Nat) (hu : P.underlying dT = some (.slice elem)) (hsz : (P.info? elem).map (·.size) = some k)
    (dp sp : Option Addr) (dLen dCap sLen sCap : Nat) (hd : a.eval d = .slice dp dLen dCap) (hs : a.eval s = .slice sp sLen sCap) (m : Nat) (hm : Nat.min sLen dLen = m)
    (g off : Nat) (cur : List Value) (t : TypeId) (hg : w.heap[g]? = some (.cells cur.toArray t (0, 0))) (cs : List Value) (hn : cs.length = m * k)
    (hpos : 0 < m → dp = some ⟨g, off, none⟩ ∧ ∃ ad, sp = some ad ∧ ∀ j v, cs[j]? = some v → w.cell? (ad.add j) = some v)
    (hfit : off + cs.length ≤ cur.length) (h1 : ∀ v ∈ cs, v.oneCell' = true) (B : Nat) (w0 : World) (hb : Below B w0 w) (hBg : B ≤ g)
    (h : ∀ w', Hid (w'.heap[g]? = some (.cells (splice cur off cs).toArray t (0, 0))) → Below B w0 w' → K (a.put o.dst (goInt m)) w') :
    Oper.wp P o a w K Q := by
  by_cases h0 : m = 0
  · subst h0
    obtain rfl : cs = [] := List.eq_nil_of_length_eq_zero (by rw [hn]; simp)
    have hrun := run_copy_zero (P := P) w dT sT o.type elem k dLen dCap sLen sCap dp sp hu hsz hm
    unfold Oper.wp
    simp [execOp, ho, resolve, invoke, builtin, hd, hs, hrun, Result.andThen]
    exact h w (Lib.hid (by simpa [splice] using hg)) hb
  · obtain ⟨rfl, ad, rfl, hsrc⟩ := hpos (by omega)
    have hrun := run_copy_k (P := P) w dT sT o.type elem k g off dLen dCap ad sLen sCap m cur t cs hu hsz hg hm hn hsrc hfit h1
    unfold Oper.wp
    simp [execOp, ho, resolve, invoke, builtin, hd, hs, hrun, Result.andThen]
    exact h _ (Lib.hid (setRow_heap w g _ _ t _ hg)) (below_setRow hb hBg _)
theorem copy_k_list {P : Program} {w : World} {ops : Array Oper} {rest : List Oper} {o : Oper} {a : Act} {Q : Exit → Act → World → Prop} (hgd : o.guard = none) (d s : Operand) (dT sT : TypeId)
    (ho : o.op = .call { callee := .builtin .copy, args := #[d, s], argTypes := #[dT, sT] }) (elem : TypeId) (k : Nat) (hu : P.underlying dT = some (.slice elem)) (hsz : (P.info? elem).map (·.size) = some k)
    (dp sp : Option Addr) (dLen dCap sLen sCap : Nat) (hd : a.eval d = .slice dp dLen dCap) (hs : a.eval s = .slice sp sLen sCap) (m : Nat) (hm : Nat.min sLen dLen = m)
    (g off : Nat) (cur : List Value) (t : TypeId) (hg : w.heap[g]? = some (.cells cur.toArray t (0, 0))) (cs : List Value) (hn : cs.length = m * k)
    (hpos : 0 < m → dp = some ⟨g, off, none⟩ ∧ ∃ ad, sp = some ad ∧ ∀ j v, cs[j]? = some v → w.cell? (ad.add j) = some v)
    (hfit : off + cs.length ≤ cur.length) (h1 : ∀ v ∈ cs, v.oneCell' = true) (B : Nat) (w0 : World) (hb : Below B w0 w) (hBg : B ≤ g)
    (h : ∀ w', Hid (w'.heap[g]? = some (.cells (splice cur off cs).toArray t (0, 0))) → Below B w0 w' → wpList P ops Q rest (a.put o.dst (goInt m)) w') :
    wpList P ops Q (o :: rest) a w := by
  refine wpList_plain hgd fun K hK => ?_
  exact copy_k_wp d s dT sT ho elem k hu hsz dp sp dLen dCap sLen sCap hd hs m hm g off cur t hg cs hn hpos hfit h1 B w0 hb hBg (fun w' h1 h2 => hK _ _ (h w' h1 h2))
theorem copy_k_step {P : Program} {ops : Array Oper} {w : World} {o : Oper} {a : Act} {K : Act → World → Prop} {Q : Exit → Act → World → Prop} {E : Prop} (hgd : o.guard = none) (d s : Operand) (dT sT : TypeId)
    (ho : o.op = .call { callee := .builtin .copy, args := #[d, s], argTypes := #[dT, sT] }) (elem : TypeId) (k : Nat) (hu : P.underlying dT = some (.slice elem)) (hsz : (P.info? elem).map (·.size) = some k)
    (dp sp : Option Addr) (dLen dCap sLen sCap : Nat) (hd : a.eval d = .slice dp dLen dCap) (hs : a.eval s = .slice sp sLen sCap) (m : Nat) (hm : Nat.min sLen dLen = m)
    (g off : Nat) (cur : List Value) (t : TypeId) (hg : w.heap[g]? = some (.cells cur.toArray t (0, 0))) (cs : List Value) (hn : cs.length = m * k)
    (hpos : 0 < m → dp = some ⟨g, off, none⟩ ∧ ∃ ad, sp = some ad ∧ ∀ j v, cs[j]? = some v → w.cell? (ad.add j) = some v)
    (hfit : off + cs.length ≤ cur.length) (h1 : ∀ v ∈ cs, v.oneCell' = true) (B : Nat) (w0 : World) (hb : Below B w0 w) (hBg : B ≤ g)
    (h : ∀ w', Hid (w'.heap[g]? = some (.cells (splice cur off cs).toArray t (0, 0))) → Below B w0 w' → K (a.put o.dst (goInt m)) w') :
    if Region.wanted o (yielded ops a.tmps) = true then Oper.wp P o a w K Q else E := by
  have hw : Region.wanted o (yielded ops a.tmps) = true := by simp [Region.wanted, hgd]
  rw [if_pos hw]
  exact copy_k_wp d s dT sT ho elem k hu hsz dp sp dLen dCap sLen sCap hd hs m hm g off cur t hg cs hn hpos hfit h1 B w0 hb hBg h
theorem info_i11 : (Try.prog.info? 3).map (fun i => (i.zero, i.size, i.bytes)) = some (some (.int .i64 0), 1, 8) := by kernel_rfl
theorem reps (v : Int) (n : Nat) : ivs (List.replicate n v) = List.replicate n (Value.int .i64 v) := by simp [ivs]
set_option maxHeartbeats 4000000 in
theorem repeat_white (w : World) (a : Option Addr) (c : Nat) (v : Int) (h : Lies w a (ivs [v])) :
    Calls Try.prog 93 #[.slice a 1 c, .int .i64 32] w fun e w' => ∃ g, e = .returned (.slice (some ⟨g, 0, none⟩) 32 32) ∧ w.heap.size ≤ g ∧ Blk w' g (ivs (List.replicate 32 v)) ∧ Below w.heap.size w w' := by
  obtain ⟨i0, hi0, hz0, hz1, hz2⟩ := info_parts info_i11
  have hmk : ∀ W : World, (Instr.makeSlice 27 (.int .i64 32) (.int .i64 32)).run Try.prog W = .ok (.slice (some ⟨W.heap.size, 0, none⟩) 32 32) (W.alloc (.cells (madeCells (Value.int .i64 0).cells (32 * i0.size)) 3)) := fun W =>
    run_make_rowN 27 3 i0 _ Try.underlying27 hi0 hz0 .i64 .i64 32 32 (Nat.le_refl _) (by rw [hz2]; omega) (by omega) W
  obtain ⟨Z0, hZ0⟩ : ∃ Z0 : List Value, madeCells (Value.int .i64 0).cells (32 * i0.size) = Z0.toArray := ⟨(madeCells (Value.int .i64 0).cells (32 * i0.size)).toList, by simp⟩
  have hZl : Z0.length = 32 := by have := size_madeCells (Value.int .i64 0).cells (32 * i0.size); rw [hZ0, hz1] at this; simpa using this
  rw [hZ0] at hmk
  have hi2 : (Try.prog.info? 3).map (·.size) = some 1 := by rw [hi0]; simp [hz1]
  clear hZ0 hz0 hz1 hz2 hi0
  obtain ⟨g0, o0, rfl, hg0, hc0⟩ := lies_at h (by simp)
  have hsrc : ∀ W : World, Below w.heap.size w W → ∀ j u, [Value.int .i64 v][j]? = some u → W.cell? ((⟨g0, o0, none⟩ : Addr).add j) = some u := by
    intro W hW j u hu
    have hj : j = 0 := by have := (List.getElem?_eq_some_iff.1 hu).1; simp at this; exact this
    subst hj
    simp only [List.getElem?_cons_zero, Option.some.injEq] at hu
    subst hu
    rw [add_off]
    exact (hW.cell (p := ⟨g0, o0 + 0, none⟩) hg0).trans (hc0 0 (by simp))
  have HC := Lib.hid hsrc
  clear h hc0 hsrc
  go_enter Try.func93, Try.ntmps93
  have hmul : ∀ W : World, Calls Try.prog 113 #[.int .u64 1, .int .u64 32] W fun e w' => e = .returned (.tuple #[.int .u64 0, .int .u64 32]) ∧ w' = W := fun W => Try.bits_Mul 1 32 (by omega) (by omega) W
  go_wp2_with (first
    | (go_at_call 113; (with_reducible refine (hmul _).mono ?_); rintro e w1 ⟨rfl, rfl⟩)
    | (refine copy_k_list rfl (.tmp 31) (.tmp 32) _ _ rfl 3 1 Try.underlying27 hi2 _ (some ⟨g0, o0, none⟩) 32 32 1 c rfl rfl 1 rfl _ 0 Z0 3 (heap_alloc_new _ _) [.int .i64 v] rfl (fun h => ⟨rfl, _, rfl, HC.out _ (by go_grown)⟩) (by rw [hZl]; simp) (by simp [Value.oneCell']) _ _ ((Below.refl _ _).alloc (Nat.le_refl _) _) (Nat.le_refl _) ?_; intro w2 HG hB2))
  have hG2 : w1.heap.size < w2.heap.size := (Array.getElem?_eq_some_iff.1 HG.out).1
  have hS0 : (splice Z0 0 [Value.int .i64 v]).length = 32 := by rw [length_splice _ _ _ (by rw [hZl]; simp), hZl]
  have hS1 : (splice Z0 0 [Value.int .i64 v])[0]? = some (.int .i64 v) := by simp [splice]
  have HS := Lib.hid (And.intro hS0 hS1)
  clear hS0 hS1 hmul hmk
  go_loopw [8] (fun v8 wr => ∃ (m : Nat) (cur : List Value), v8 = .int .i64 (m : Int) ∧ 0 < m ∧ m ≤ 32 ∧ wr.heap[w1.heap.size]? = some (.cells cur.toArray 3 (0, 0)) ∧ cur.length = 32 ∧ Hid (∀ j, j < m → cur[j]? = some (.int .i64 v)) ∧ Below w1.heap.size w1 wr) (fun v8 _ => 32 - (intOf v8).toNat)
  case atStart => exact ⟨1, _, rfl, by omega, by omega, HG.out, HS.out.1, Lib.hid (fun j hj => (by have e : j = 0 := (by omega); rw [e]; exact HS.out.2)), hB2⟩
  case round =>
    obtain ⟨m, cur, rfl, hm0, hm, hcur, hcl, hag, hbel⟩ := hrel
    by_cases hlt : m < 32
    · obtain ⟨cc, hc⟩ : ∃ cc, Nat.min m (32 - m) = cc := ⟨_, rfl⟩
      have hcm : cc ≤ m := by rw [← hc]; exact Nat.min_le_left _ _
      have hcN : cc ≤ 32 - m := by rw [← hc]; exact Nat.min_le_right _ _
      have hc0 : 0 < cc := by rw [← hc]; exact Nat.lt_min.2 ⟨hm0, by omega⟩
      obtain ⟨ds, hds⟩ : ∃ ds, cur.take cc = ds := ⟨_, rfl⟩
      have hdl : ds.length = cc * 1 := by rw [← hds, List.length_take]; omega
      have hdj : ∀ j u, ds[j]? = some u → j < cc ∧ u = .int .i64 v := by
        intro j u hu
        rw [← hds, List.getElem?_take] at hu
        split at hu
        · rename_i hj
          rw [hag.out j (by omega)] at hu
          exact ⟨hj, (Option.some.inj hu).symm⟩
        · cases hu
      have hd1 : ∀ u ∈ ds, u.oneCell' = true := by
        intro u hu
        obtain ⟨j, hj⟩ := List.mem_iff_getElem?.1 hu
        rw [(hdj j u hj).2]; rfl
      have hsrc : ∀ j u, ds[j]? = some u → wr.drew.cell? ((⟨w1.heap.size, 0, none⟩ : Addr).add j) = some u := by
        intro j u hu
        refine World.news_of_block (w := wr.drew) (cs := cur.toArray) (t := 3) (fr := (0, 0)) hcur j u ?_
        obtain ⟨h1, h2⟩ := hdj j u hu
        rw [h2]
        simpa using hag.out j (by omega)
      have hag2 : ∀ j, j < m + cc → (splice cur m ds)[j]? = some (.int .i64 v) := by
        intro j hj
        by_cases h1 : j < m
        · simp only [splice]
          rw [List.getElem?_append_left (by rw [List.length_take]; omega), List.getElem?_take, if_pos h1]
          exact hag.out j h1
        · simp only [splice]
          have e1 : (cur.take m).length = m := by rw [List.length_take]; omega
          rw [List.getElem?_append_right (by omega), e1, List.getElem?_append_left (by omega), ← hds, List.getElem?_take, if_pos (by omega)]
          exact hag.out _ (by omega)
      have hlen2 : (splice cur m ds).length = 32 := by rw [length_splice _ _ _ (by omega), hcl]
      have HR := Lib.hid (And.intro hag2 (And.intro hlen2 (And.intro hsrc hcur)))
      have hNm : ¬ (32 = m) := by omega
      have k0 : (0 : Int) ≤ (m : Int) := by omega
      have k1 : (m : Int) ≤ 32 := by omega
      have k2 : (m : Int) < 32 := by omega
      clear hag2 hlen2 hsrc hdj hds hcur hag
      have hwr : IntKind.i64.wrap ((m : Int) + (cc : Int)) = (m : Int) + (cc : Int) := by rw [IntKind.wrap_i64]; omega
      go_wp2
      go_region_law (refine copy_k_step rfl (.tmp 41) (.tmp 44) _ _ rfl 3 1 Try.underlying27 hi2 (some ⟨w1.heap.size, m, none⟩) (some ⟨w1.heap.size, 0, none⟩) (32 - m) (32 - m) m 32 (by simp [Act.eval, Act.put]) (by simp [Act.eval, Act.put]) cc hc w1.heap.size m cur 3 HR.out.2.2.2 ds hdl (fun _ => ⟨rfl, _, rfl, HR.out.2.2.1⟩) (by omega) hd1 w1.heap.size w1 hbel.drew (Nat.le_refl _) ?_; intro w3 HG3 hB3)
      all_goals
        simp [Act.put]
        go_wp2
        go_roundw
        case rel => exact ⟨m + cc, _, by go_num, by omega, by omega, HG3.out, HR.out.2.1, Lib.hid HR.out.1, hB3⟩
        case measure => simp [intOf]; omega
    · obtain rfl : m = 32 := by omega
      have hcz : cur = ivs (List.replicate 32 v) := by
        apply List.ext_getElem?
        intro j
        by_cases hj : j < 32
        · rw [hag.out j hj, reps, List.getElem?_replicate, if_pos hj]
        · rw [List.getElem?_eq_none (by omega), List.getElem?_eq_none (by rw [ivs_len]; simp; omega)]
      subst hcz
      have hblk : Blk wr w1.heap.size (ivs (List.replicate 32 v)) := ⟨fun o u hu => by rw [cell_of_row _ _ _ _ _ _ hcur]; simpa using hu, fun o => by simp [World.frozen?, hcur], (Array.getElem?_eq_some_iff.1 hcur).1⟩
      have HB := Lib.hid (And.intro hblk hbel)
      clear hblk hbel hcur hag
      go_wp2
      go_ret
      exact ⟨_, rfl, Nat.le_refl _, HB.out.1, HB.out.2⟩
def whiteR : List Int := List.replicate 32 255
theorem whiteR_len : whiteR.length = 32 := by simp [whiteR]
theorem white_impl (w : World) : Calls Try.prog 63 #[] w fun e w' => ∃ g, e = .returned (.slice (some ⟨g, 0, none⟩) 32 32) ∧ w.heap.size ≤ g ∧ Blk w' g (ivs whiteR) ∧ Below w.heap.size w w' := by
  have h0 : Lies (w.alloc (.cells #[.int .i64 255] 3)) (some ⟨w.heap.size, 0, none⟩) (ivs [255]) := Lies.new w #[.int .i64 255] 3 rfl
  have HR := Lib.hid (repeat_white _ _ 1 255 h0)
  clear h0
  go_enter Try.func63, Try.ntmps63
  go_wp2_with fail
  ((with_reducible refine HR.out.mono ?_); rintro e w1 ⟨g, rfl, hg, hb, bb⟩)
  have hg2 : w.heap.size ≤ g := by simp at hg; omega
  have HB := Lib.hid (And.intro hb (on_of (W := w) (by go_grown) bb))
  clear hb bb hg
  go_wp2
  go_ret
  exact ⟨g, rfl, hg2, HB.out.1, HB.out.2⟩
end Go.Proofs.Ytbdjnfnphilklaa.Own
