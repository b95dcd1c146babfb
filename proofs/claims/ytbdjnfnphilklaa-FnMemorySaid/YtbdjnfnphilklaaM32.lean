/-
  Texts of this seat, laid together: Fl11
-/
import Derived.Test.YtbdjnfnphilklaaM30
import Derived.Test.YtbdjnfnphilklaaM31
import Derived.Test.YtbdjnfnphilklaaM05
namespace Go.Proofs.Ytbdjnfnphilklaa.Own
open Go.ChangeShapes Go.WideShapes Go.ChangeAt Go.RowKit
open Kit Slabs Ints
open Go.Proofs.Ytbdjnfnphilklaa.Ins (gen_any9)
set_option linter.unusedVariables false
set_option linter.unusedSimpArgs false
set_option linter.unnecessarySimpa false
set_option maxRecDepth 100000
def Fill (w wr : World) (g n : Nat) (R : List (List Int)) : Prop := ∃ P1 Z f1, Blk wr g (P1 ++ Z) ∧ P1.length = R.length ∧ Z.length + R.length = n ∧ OwnL wr (List.replicate R.length (.sl .int)) P1 (dR R) f1 ∧ f1.Nodup ∧ (∀ b ∈ f1, w.heap.size ≤ b ∧ b ≠ g) ∧ w.heap.size ≤ g ∧ Below w.heap.size w wr
theorem Fill.start (w : World) {Z0 : List Value} {n : Nat} (hZ : Z0.length = n) (T : TypeId) : Fill w (w.alloc (.cells Z0.toArray T)) w.heap.size n [] :=
  ⟨[], Z0, [], by have := Blk.new w Z0.toArray T rfl; simpa using this, rfl, by simpa using hZ, .nil, List.nodup_nil, fun b hb => absurd hb List.not_mem_nil, Nat.le_refl _, (Below.refl _ _).alloc (Nat.le_refl _) _⟩
theorem Fill.below {w wr : World} {g n : Nat} {R : List (List Int)} (h : Fill w wr g n R) : Below w.heap.size w wr := by
  obtain ⟨_, _, _, _, _, _, _, _, _, _, h⟩ := h; exact h
theorem Fill.cell {w wr : World} {g n : Nat} {R : List (List Int)} (h : Fill w wr g n R) (hl : R.length < n) : (∃ u, wr.cell? ⟨g, R.length, none⟩ = some u) ∧ (∀ o, wr.frozen? ⟨g, o, none⟩ = false) ∧ g < wr.heap.size ∧ w.heap.size ≤ g := by
  obtain ⟨P1, Z, f1, hB, h1, h2, h3, h4, h5, h6, h7⟩ := h
  have hlt : R.length < (P1 ++ Z).length := by rw [List.length_append]; omega
  exact ⟨⟨_, hB.1 R.length _ (List.getElem?_eq_getElem hlt)⟩, hB.2.1, hB.2.2, h6⟩
theorem Fill.step {w wr w1 : World} {g n : Nat} {R : List (List Int)} {v : Value} {r : List Int} {f : List Nat} (h : Fill w wr g n R) (hl : R.length < n) (ht : Turns wr w1 (fun b => b = g))
    (hb : ∀ vs, Blk wr g vs → R.length < vs.length → Blk w1 g (vs.set R.length v)) (ho : Own w1 (.sl .int) [v] (.sl (dI r)) f) (hn : f.Nodup) (hf : ∀ b ∈ f, wr.heap.size ≤ b) : Fill w w1 g n (R ++ [r]) := by
  obtain ⟨P1, Z, f1, hB, h1, h2, h3, h4, h5, h6, h7⟩ := h
  have hg := hB.2.2
  have hlt : R.length < (P1 ++ Z).length := by rw [List.length_append]; omega
  have hB1 := hb _ hB hlt
  cases Z with
  | nil => simp at h2; omega
  | cons z Z =>
    rw [List.set_append_right R.length v (by omega), h1, Nat.sub_self, List.set_cons_zero, show P1 ++ v :: Z = (P1 ++ [v]) ++ Z by simp] at hB1
    refine ⟨P1 ++ [v], Z, f1 ++ f, hB1, by simp [h1], by simp at h2 ⊢; omega, ?_, app_nodup h4 hn (fun x hx hy => ?_), ?_, h6, ?_⟩
    · have e : dR (R ++ [r]) = dR R ++ [.sl (dI r)] := by simp [dR]
      rw [e, List.length_append, List.length_singleton, List.replicate_succ']
      exact (h3.turned ht (fun b hb he => (h5 b hb).2 he)).snoc ho
    · have := hf x hy; have := h3.lt x hx; omega
    · intro b hb
      rcases List.mem_append.1 hb with h | h
      · exact h5 b h
      · have := hf b h; have := h7.size; exact ⟨by omega, by omega⟩
    · exact h7.trans (ht.below h7.size (fun k hk => by subst hk; exact h6))
theorem Fill.put {w wr w1 : World} {g n : Nat} {R : List (List Int)} {v : Value} {r : List Int} {f : List Nat} (h : Fill w wr g n R) (hl : R.length < n) (hb : Below wr.heap.size wr w1) (ho : Own w1 (.sl .int) [v] (.sl (dI r)) f) (hn : f.Nodup) (hf : ∀ b ∈ f, wr.heap.size ≤ b) : Fill w (w1.setCell ⟨g, R.length, none⟩ v) g n (R ++ [r]) := by
  have hg := (h.cell hl).2.2.1
  exact h.step hl (turns_set (S := fun b => b = g) (Turns.of_below hb) rfl _ _) (fun vs hv hl => Blk.setAt (hv.keep hb) hl v) (own_setN ho (fun hm => by have := hf g hm; omega) _ _) hn hf
theorem Fill.done {w wr : World} {g n : Nat} {R : List (List Int)} (h : Fill w wr g n R) (hl : R.length = n) : ∃ fp, Own wr KSS [.slice (some ⟨g, 0, none⟩) n n] (.sl (dR R)) fp ∧ fp.Nodup ∧ (∀ b ∈ fp, w.heap.size ≤ b) ∧ Below w.heap.size w wr := by
  obtain ⟨P1, Z, f1, hB, h1, h2, h3, h4, h5, h6, h7⟩ := h
  obtain rfl : Z = [] := List.eq_nil_of_length_eq_zero (by omega)
  rw [List.append_nil] at hB
  subst hl
  by_cases h0 : R.length = 0
  · have : R = [] := List.eq_nil_of_length_eq_zero h0
    subst this
    exact ⟨[], .nil _ _, List.nodup_nil, fun b hb => absurd hb List.not_mem_nil, h7⟩
  · refine ⟨g :: f1, ss_own hB h3 h0 (Nat.le_refl _), List.nodup_cons.2 ⟨fun hm => (h5 g hm).2 rfl, h4⟩, fun b hb => ?_, h7⟩
    rcases List.mem_cons.1 hb with rfl | hb
    · exact h6
    · exact (h5 b hb).1
def SsNew (R : List (List Int)) (w : World) (e : Ending) (w' : World) : Prop := ∃ a c fp, e = .returned (.slice a R.length c) ∧ Own w' KSS [.slice a R.length c] (.sl (dR R)) fp ∧ fp.Nodup ∧ (∀ b ∈ fp, w.heap.size ≤ b) ∧ Below w.heap.size w w'
theorem ss_nil (w w' : World) (a : Option Addr) (c : Nat) (h : Below w.heap.size w w') : SsNew [] w (.returned (.slice a 0 c)) w' := ⟨a, c, [], rfl, .nil _ _, List.nodup_nil, fun b hb => absurd hb List.not_mem_nil, h⟩
theorem info_s11 : (Try.prog.info? 27).map (fun i => (i.zero, i.size, i.bytes)) = some (some (.slice none 0 0), 1, 24) := by kernel_rfl
theorem mk_rows (n : Nat) (hn : n ≤ 1048576) : ∃ Z0 : List Value, Z0.length = n ∧ ∀ W : World, (Instr.makeSlice 30 (.int .i64 (n : Int)) (.int .i64 (n : Int))).run Try.prog W = .ok (.slice (some ⟨W.heap.size, 0, none⟩) n n) (W.alloc (.cells Z0.toArray 27)) := by
  obtain ⟨i0, hi0, hz0, hz1, hz2⟩ := info_parts info_s11
  have hmk := fun W => run_make_rowN (P := Try.prog) 30 27 i0 _ Try.underlying30 hi0 hz0 .i64 .i64 n n (Nat.le_refl _) (by rw [hz2]; omega) (by omega) W
  refine ⟨(madeCells (Value.slice none 0 0).cells (n * i0.size)).toList, ?_, fun W => by rw [hmk W, Array.toArray_toList]⟩
  have := size_madeCells (Value.slice none 0 0).cells (n * i0.size)
  rw [hz1] at this ⊢; simpa using this
theorem mk_ints (n : Nat) (hn : n ≤ 1048576) : ∃ Z0 : List Value, Z0.length = n ∧ ∀ W : World, (Instr.makeSlice 27 (.int .i64 (n : Int)) (.int .i64 (n : Int))).run Try.prog W = .ok (.slice (some ⟨W.heap.size, 0, none⟩) n n) (W.alloc (.cells Z0.toArray 3)) := by
  obtain ⟨i0, hi0, hz0, hz1, hz2⟩ := info_parts info_i11
  have hmk := fun W => run_make_rowN (P := Try.prog) 27 3 i0 _ Try.underlying27 hi0 hz0 .i64 .i64 n n (Nat.le_refl _) (by rw [hz2]; omega) (by omega) W
  refine ⟨(madeCells (Value.int .i64 0).cells (n * i0.size)).toList, ?_, fun W => by rw [hmk W, Array.toArray_toList]⟩
  have := size_madeCells (Value.int .i64 0).cells (n * i0.size)
  rw [hz1] at this ⊢; simpa using this
set_option maxHeartbeats 1000000 in
theorem whites_impl (w : World) (n : Int) : Calls Try.prog 33 #[.int .i64 n] w (SsNew (if 0 ≤ n ∧ n ≤ 32 then List.replicate n.toNat whiteR else []) w) := by
  by_cases h0 : n < 0
  · rw [if_neg (by omega)]
    go_enter Try.func33, Try.ntmps33
    go_wp2
    go_ret
    exact ss_nil _ _ _ _ (Below.refl _ _)
  by_cases h1 : 32 < n
  · rw [if_neg (by omega)]
    go_enter Try.func33, Try.ntmps33
    go_wp2
    go_ret
    exact ss_nil _ _ _ _ (Below.refl _ _)
  rw [if_pos (by omega)]
  obtain ⟨k, rfl⟩ : ∃ k : Nat, n = (k : Int) := ⟨n.toNat, by omega⟩
  rw [Int.toNat_natCast]
  have hk : k ≤ 32 := by omega
  obtain ⟨Z0, hZ, hmk⟩ := mk_rows k (by omega)
  have F0 := Lib.hid (Fill.start w hZ 27)
  clear h0 h1 hZ
  go_enter Try.func33, Try.ntmps33
  go_wp2
  go_loopw [15] (fun v wr => ∃ j : Nat, j ≤ k ∧ v = .int .i64 (j : Int) ∧ Hid (Fill w wr w.heap.size k (List.replicate j whiteR))) (fun v _ => k - (intOf v).toNat)
  case atStart => exact ⟨0, Nat.zero_le _, rfl, F0⟩
  case round =>
    obtain ⟨j, hj, rfl, hF⟩ := hrel
    by_cases hlt : j < k
    · obtain ⟨⟨u, hu⟩, hfr, hg, _⟩ := hF.out.cell (by rw [List.length_replicate]; exact hlt)
      rw [List.length_replicate] at hu
      have i0 : (0 : Int) ≤ (j : Int) := by omega
      have i1 : (j : Int) < (k : Int) := by omega
      obtain ⟨g, hG⟩ : ∃ g, w.heap.size = g := ⟨_, rfl⟩
      simp only [hG] at *
      have HU := Lib.hid (And.intro hu (And.intro hfr hg))
      clear hu hfr hg
      go_wp2_with fail
      ((with_reducible refine (white_impl _).mono ?_); rintro e w1 ⟨b, rfl, hbg, hB, bb⟩)
      have hu : w1.cell? ⟨g, j, none⟩ = some u := (bb.cell (p := ⟨g, j, none⟩) HU.out.2.2).trans HU.out.1
      have hfr : ∀ o, w1.frozen? ⟨g, o, none⟩ = false := fun o => (bb.frozen (p := ⟨g, o, none⟩) HU.out.2.2).trans (HU.out.2.1 o)
      have F1 := hF.out.put (by rw [List.length_replicate]; exact hlt) bb (ints_at (c := 32) hB (by simp [whiteR]) (by simp [whiteR])) (by simp) (fun x hx => by rw [List.mem_singleton.1 hx]; exact hbg)
      rw [List.length_replicate, whiteR_len, ← List.replicate_succ'] at F1
      have HF := Lib.hid F1
      clear F1 hB bb hbg
      go_wp2
      go_roundw
      case rel => exact ⟨j + 1, by omega, by go_num, HF⟩
      case measure => simp [intOf]; omega
    · obtain rfl : j = k := by omega
      go_wp2
      go_ret
      obtain ⟨fp, h1, h2, h3, h4⟩ := hF.out.done (by rw [List.length_replicate])
      exact ⟨_, _, fp, by rw [List.length_replicate]; rfl, by rw [List.length_replicate]; exact h1, h2, h3, h4⟩
theorem copy_ints {W : World} {b : Nat} {Z : List Value} {a' : Option Addr} {c' m : Nat} {r : List Int} (hm : r.length = m) (hb : Blk W b Z) (hZ : Z.length = m) (hl : Lies W a' (ivs r)) (ty : TypeId) :
    (Builtin.copy_ #[27, 27] ty #[.slice (some ⟨b, 0, none⟩) m m, .slice a' m c']).run Try.prog W = .ok (goInt m) (W.setCells b 0 (ivs r)) := by
  have hi2 : (Try.prog.info? 3).map (·.size) = some 1 := by
    obtain ⟨i0, hi0, hz0, hz1, hz2⟩ := info_parts info_i11
    rw [hi0]; simp [hz1]
  by_cases h0 : m = 0
  · subst h0
    have : r = [] := List.eq_nil_of_length_eq_zero hm
    subst this
    exact run_copy_none W _ _ ty 3 _ _ _ _ _ _ Try.underlying27 hi2 rfl
  · obtain ⟨g, o, rfl, hg, hc⟩ := lies_at hl (by omega)
    have := run_copy_cells (P := Try.prog) W 27 27 ty 3 b 0 m m ⟨g, o, none⟩ m c' (ivs r) Try.underlying27 hi2 (by rw [ivs_len, hm]; simp) (fun j v hv => by
        have hj : j < r.length := by have := (List.getElem?_eq_some_iff.1 hv).1; rw [ivs_len] at this; exact this
        rw [ivs_at hj, Option.some.injEq] at hv
        subst hv
        rw [add_off]; exact hc j hj) (fun j hj => by
        rw [ivs_len] at hj
        rw [Nat.zero_add, hb.1 j _ (List.getElem?_eq_getElem (show j < Z.length by omega))]; rfl) (fun j _ => hb.2.1 _) (ivs_one r)
    rw [ivs_len, hm] at this
    exact this
structure CpS (wr W : World) (g k b m : Nat) (Z : List Value) : Prop where
  cell : W.cell? ⟨g, k, none⟩ = some (.slice (some ⟨b, 0, none⟩) m m)
  blk : Blk W b Z
  turn : Turns wr W (fun x => x = g)
  sets : ∀ vs, Blk wr g vs → k < vs.length → Blk W g (vs.set k (.slice (some ⟨b, 0, none⟩) m m))
theorem CpS.of {wr : World} {g k m : Nat} {Z : List Value} {T : TypeId} {u : Value} (hu : wr.cell? ⟨g, k, none⟩ = some u) (hg : g < wr.heap.size) : CpS wr ((wr.setCell ⟨g, k, none⟩ (.slice (some ⟨wr.heap.size, 0, none⟩) m m)).alloc (.cells Z.toArray T)) g k wr.heap.size m Z := by
  have hs : (wr.setCell ⟨g, k, none⟩ (.slice (some ⟨wr.heap.size, 0, none⟩) m m)).heap.size = wr.heap.size := by simp
  have hb : Below wr.heap.size (wr.setCell ⟨g, k, none⟩ (.slice (some ⟨wr.heap.size, 0, none⟩) m m)) ((wr.setCell ⟨g, k, none⟩ (.slice (some ⟨wr.heap.size, 0, none⟩) m m)).alloc (.cells Z.toArray T)) := (Below.refl _ _).alloc (by rw [hs]; exact Nat.le_refl _) _
  refine ⟨(hb.cell (p := ⟨g, k, none⟩) hg).trans (World.cell?_setCell_same _ _ _ hu), ?_, ?_, fun vs hv hl => (Blk.setAt hv hl _).keep (by rw [hs]; exact hb)⟩
  · have := Blk.new (wr.setCell ⟨g, k, none⟩ (.slice (some ⟨wr.heap.size, 0, none⟩) m m)) Z.toArray T hs
    simpa using this
  · exact (turns_set (S := fun b => b = g) (Turns.refl _ _) rfl _ _).trans (Turns.of_below (by rw [hs]; exact hb))
theorem turns_new {wr W : World} {S : Nat → Prop} {b : Nat} (h : Turns wr W S) (hb : wr.heap.size ≤ b) (o : Nat) (vs : List Value) : Turns wr (W.setCells b o vs) S := by
  have hs := turns_sets b (S := fun k => k = b) rfl vs o W
  exact ⟨hs.os.trans h.os, hs.tape.trans h.tape, hs.output.trans h.output, Nat.le_trans h.size hs.size, fun k hk hn => (hs.block k (Nat.lt_of_lt_of_le hk h.size) (fun e => by omega)).trans (h.block k hk hn)⟩
theorem row_laid {W : World} {b m : Nat} {Z : List Value} {x : List Int} (h : Blk W b Z) (hZ : Z.length = m) (hx : x.length = m) : Own (W.setCells b 0 (ivs x)) (.sl .int) [.slice (some ⟨b, 0, none⟩) m m] (.sl (dI x)) (if m = 0 then [] else [b]) := by
  by_cases h0 : m = 0
  · rw [if_pos h0]
    subst h0
    have : x = [] := List.eq_nil_of_length_eq_zero hx
    subst this
    exact .nil _ _
  · rw [if_neg h0]
    subst hx
    refine ints_at ?_ h0 (Nat.le_refl _)
    have := Blk.sets (P := []) (us := Z) (vs := ivs x) (R := []) (w := W) (b := b) (o := 0) (by simpa using h) rfl (by rw [ivs_len, hZ])
    simpa using this
theorem CpS.fill {w wr W : World} {g k b m n : Nat} {Z : List Value} {R : List (List Int)} {x : List Int} (h : CpS wr W g k b m Z) (hF : Fill w wr g n R) (hl : R.length = k) (hk : k < n) (hb : wr.heap.size ≤ b) (hZ : Z.length = m) (hx : x.length = m) : Fill w (W.setCells b 0 (ivs x)) g n (R ++ [x]) := by
  have hg := (hF.cell (by omega)).2.2.1
  refine hF.step (f := if m = 0 then [] else [b]) (v := .slice (some ⟨b, 0, none⟩) m m) (by omega) (turns_new h.turn hb 0 _) (fun vs hv hlt => ?_) (row_laid h.blk hZ hx) (by split <;> simp) (fun y hy => ?_)
  · rw [hl] at hlt ⊢
    exact Blk.others (by omega) _ _ (h.sets vs hv hlt)
  · split at hy
    · simp at hy
    · rw [List.mem_singleton.1 hy]; exact hb
set_option maxHeartbeats 2000000 in
theorem copyrows_impl (w : World) (a : Option Addr) (c : Nat) (R : List (List Int)) (hn : R.length ≤ 1048576) (ht : tot R ≤ 1048576) (h : RR w a R) :
    Calls Try.prog 64 #[.slice a R.length c] w (SsNew R w) := by
  have HP := Lib.hid h
  obtain ⟨n, hN⟩ : ∃ n, R.length = n := ⟨_, rfl⟩
  have HN := Lib.hid (And.intro hN ht)
  rw [hN] at hn ⊢
  obtain ⟨Z0, hZ, hmk⟩ := mk_rows n hn
  have F0 := Lib.hid (Fill.start w hZ 27)
  clear hN h ht hZ
  go_enter Try.func64, Try.ntmps64
  go_wp2
  go_loopw [11] (fun v wr => ∃ k : Nat, k ≤ n ∧ v = .int .i64 (k : Int) ∧ Hid (Fill w wr w.heap.size n (R.take k))) (fun v _ => n - (intOf v).toNat)
  case atStart => exact ⟨0, Nat.zero_le _, rfl, F0⟩
  case round =>
    obtain ⟨k, hk, rfl, hF⟩ := hrel
    by_cases hlt : k < n
    · have hB := hF.out.below
      have hkl : (R.take k).length = k := by rw [List.length_take]; have := HN.out.1; omega
      obtain ⟨⟨u, hu⟩, hfr, hg, _⟩ := hF.out.cell (by rw [hkl]; exact hlt)
      rw [hkl] at hu
      obtain ⟨ga, oa, rfl, hga, hc⟩ := HP.out.some (by rw [HN.out.1]; omega)
      obtain ⟨a', c', q, hl⟩ := hc k (by rw [HN.out.1]; exact hlt)
      have q := (hB.cell (p := ⟨ga, oa + k, none⟩) hga).trans q
      have hx0 := tot_at (R := R) (k := k) (by rw [HN.out.1]; exact hlt)
      have htk : R.take (k + 1) = R.take k ++ [R.getD k []] := by
        have hkR : k < R.length := by rw [HN.out.1]; exact hlt
        rw [List.take_succ_eq_append_getElem hkR]; simp [List.getD, List.getElem?_eq_getElem hkR]
      obtain ⟨x, hx⟩ : ∃ x, R.getD k [] = x := ⟨_, rfl⟩
      rw [hx] at q hl hx0 htk
      have hl : ∀ W, Below w.heap.size w W → Lies W a' (ivs x) := fun W h => hl.on h
      obtain ⟨m, hM⟩ : ∃ m, x.length = m := ⟨_, rfl⟩
      have hm : m ≤ 1048576 := by have := HN.out.2; omega
      obtain ⟨Z1, hZ1, hmk1⟩ := mk_ints m hm
      rw [hM] at q
      have i0 : (0 : Int) ≤ (k : Int) := by omega
      have i1 : (k : Int) < (n : Int) := by omega
      obtain ⟨g, hG⟩ : ∃ g, w.heap.size = g := ⟨_, rfl⟩
      simp only [hG] at *
      have S0 := CpS.of (m := m) (Z := Z1) (T := 3) hu hg
      have HS0 := Lib.hid S0
      have HX := Lib.hid (And.intro hl (And.intro hM (And.intro hZ1 (And.intro htk (And.intro hkl (And.intro hg hB))))))
      clear hl hx hM hZ1 htk hkl S0 hc hx0 hB
      go_upto_region 6 with fail
      refine gen_any9 (fun W => CpS wr W g k wr.heap.size m Z1) HS0.out ?_
      intro W hS
      have hBW : Below g w W := HX.out.2.2.2.2.2.2.trans (hS.turn.below (by have := HX.out.2.2.2.2.2.2.size; omega) (fun y hy => by omega))
      have hcp := copy_ints (c' := c') HX.out.2.1 hS.blk HX.out.2.2.1 (HX.out.1 _ hBW)
      have hcell := hS.cell
      have F1 := hS.fill (x := x) hF.out HX.out.2.2.2.2.1 hlt (Nat.le_refl _) HX.out.2.2.1 HX.out.2.1
      rw [← HX.out.2.2.2.1] at F1
      have HF := Lib.hid F1
      clear F1 hS HS0 hBW hu hfr
      go_wp2
      go_roundw
      case rel => exact ⟨k + 1, by omega, by go_num, HF⟩
      case measure => simp [intOf]; omega
    · obtain rfl : k = n := by omega
      go_wp2
      go_ret
      obtain ⟨fp, h1, h2, h3, h4⟩ := hF.out.done (by rw [List.length_take, HN.out.1]; simp)
      rw [← HN.out.1, List.take_length] at h1
      exact ⟨_, _, fp, by rw [HN.out.1]; rfl, by rw [HN.out.1] at h1 ⊢; exact h1, h2, h3, h4⟩
end Go.Proofs.Ytbdjnfnphilklaa.Own
