/-
  Texts of this seat, laid together: Ck9, SdI8
-/
import Derived.Laws.MakeOwn
import Derived.Laws.Entries
import Derived.Test.YtifmdgncgokikaaGreatV20
import Derived.Test.YtifmdgncgokikaaGreatV22
import Derived.Test.YtifmdgncgokikaaGreatV04
import Derived.Test.YtifmdgncgokikaaGreatV09
namespace Go.Proofs.YtifmdgncgokikaaGreat.Ins
open Go.ChangeShapes Go.WideShapes Go.ChangeAt Go.RowKit Go.Shelf
open Kit
set_option linter.unusedVariables false
set_option linter.unusedSimpArgs false
set_option linter.unnecessarySimpa false
attribute [local go_sem] Oper.semAt_some
attribute [local go_sem ↓] run_mn
def KeepT (V V' : World) : Prop := ∀ (k : Nat) (c : Array Value) (t : TypeId) (z : Nat × Nat), V.heap[k]? = some (.cells c t z) → t ≠ 63 → t ≠ 60 → V'.heap[k]? = some (.cells c t z)
theorem KeepT.trans {X Y Z : World} (h : KeepT X Y) (k : KeepT Y Z) : KeepT X Z := fun i c t z hi h1 h2 => k i c t z (h i c t z hi h1 h2) h1 h2
theorem KeepT.refl (X : World) : KeepT X X := fun _ _ _ _ h _ _ => h
theorem KeepT.putObj (V : World) (l : Nat) (r : Loop) (o : Obj) (h : V.heap[l]? = some (.loop r)) : KeepT V (V.putObj l o) := fun i c t z hi _ _ => by
  refine (World.putObj_heap_other fun e => ?_).trans hi
  subst e; rw [h] at hi; cases hi
theorem KeepT.below {V V' : World} (h : Below V.heap.size V V') : KeepT V V' := fun i c t z hi _ _ => (h.block i (Array.getElem?_eq_some_iff.1 hi).1).trans hi
theorem KeepT.boxed {V V' : World} (h : KeepT V V') {B : Nat} {t : TypeId} {v : Value} (hb : Boxed V B t v) (h1 : t ≠ 63) (h2 : t ≠ 60) : Boxed V' B t v := h B _ t _ hb h1 h2
theorem KeepT.row {V V' : World} (h : KeepT V V') {b n : Nat} {t : TypeId} {f : Nat → Value} (hr : V.rowIs b t n f) (h1 : t ≠ 63) (h2 : t ≠ 60) : V'.rowIs b t n f := by
  obtain ⟨c, hb, hn, hc⟩ := hr
  exact ⟨c, h b c t _ hb h1 h2, hn, hc⟩
theorem range_part {m k : Nat} (h : k < m) : List.range m = List.range k ++ k :: (List.range m).drop (k + 1) := by
  have h1 : (List.range m).take k = List.range k := by rw [List.take_range]; congr 1; omega
  have h2 : (List.range m).drop k = k :: (List.range m).drop (k + 1) := by
    rw [List.drop_eq_getElem_cons (by simpa using h)]; simp
  rw [← h2, ← h1, List.take_append_drop]
theorem ownFrom_drew {β : Type} {B : Nat} {J : β → World → Prop} (h : OwnFrom B J) {s : β} {V : World} (hs : J s V) : J s V.drew :=
  h s V V.drew none hs ⟨rfl, rfl, rfl, Nat.le_refl _, fun _ _ _ => rfl⟩ (fun r e => by cases e)
theorem ownFrom_on {β : Type} {B : Nat} {J : β → World → Prop} (h : OwnFrom B J) {s : β} {V V' : World} (hs : J s V) (hb : Below V.heap.size V V') : J s V' :=
  h s V V' none hs ⟨hb.os, hb.tape, hb.output, hb.size, fun k hk _ => hb.block k hk⟩ (fun r e => by cases e)
set_option maxRecDepth 100000 in
set_option maxHeartbeats 2000000 in
theorem chunk_gives (b0 b1 g c m : Nat) (w : World) (h0 : Boxed w b0 52 (.slice (some ⟨g, 0, none⟩) (2 * m) c)) (h1 : Boxed w b1 3 (.int .i64 2)) (hc : 2 * m ≤ c) (hm : c ≤ maxLen) :
    Gives Tryz.prog 87 #[.pointer (some ⟨b0, 0, none⟩), .pointer (some ⟨b1, 0, none⟩)] (fun k : Nat => #[.slice (some ⟨g, 2 * k, none⟩) 2 2]) KeepT (List.range m) w := by
  intro l n J W hW hJ hY hJ0
  have hm : c ≤ 9223372036854775807 := by unfold maxLen at hm; omega
  have H0 : Boxed W b0 52 (.slice (some ⟨g, 0, none⟩) (2 * m) c) := (hW.block _ h0.lt).trans h0
  have H1 : Boxed W b1 3 (.int .i64 2) := (hW.block _ h1.lt).trans h1
  refine callsIn_of_wp Tryz.func87 rfl trivial ?_ rfl
  simp only [Tryz.ntmps87, List.size_toArray, List.length_cons, List.length_nil, Nat.reduceAdd, Nat.reduceSub, Array.replicate_succ, Array.replicate_zero, List.push_toArray, List.append_toArray, List.nil_append, List.cons_append]
  gi_wp2
  gi_loopw [4] (fun p wr => ∃ k : Nat, k ≤ m ∧ p = .int .i64 (2 * (k : Int)) ∧ Boxed wr b0 52 (.slice (some ⟨g, 0, none⟩) (2 * m) c) ∧ Boxed wr b1 3 (.int .i64 2) ∧ J (List.range k) wr) (fun p wr => 2 * m - (intOf p).toNat)
  case atStart => exact ⟨0, Nat.zero_le _, rfl, H0, H1, hJ0⟩
  case round =>
    obtain ⟨k, hk, rfl, B0, B1, hJk⟩ := hrel
    have c0 := B0.cell
    have c1 := B1.cell
    by_cases hlt : k < m
    · have i0 : (0 : Int) ≤ 2 * (k : Int) := by omega
      have i1 : 2 * (k : Int) < 2 * (m : Int) := by omega
      have hck : ¬ (c = 2 * k) := by omega
      have hmn : mn 2 ((2 * m - 2 * k : Nat) : Int) = 2 := by unfold mn; omega
      have hw2 : wrap64 (2 * (k : Int) + 2) = 2 * (k : Int) + 2 := by unfold wrap64; omega
      have ht2 : (2 * (k : Int) + 2).toNat = 2 * k + 2 := by omega
      have j0 : (0 : Int) ≤ 2 * (k : Int) + 2 := by omega
      have j1 : 2 * (k : Int) + 2 ≤ (c : Int) := by omega
      have j2 : ¬ (2 * k + 2 = 2 * k) := by omega
      have j3 : max (2 * (k : Int) + 2) 0 = 2 * (k : Int) + 2 := by omega
      have j4 : 2 * (k : Int) ≤ 2 * (k : Int) + 2 := by omega
      obtain ⟨fn, tmps, assign, body, hy, hR⟩ := hY (n - 1) (List.range k) k _ wr.drew (range_part hlt) (ownFrom_drew hJ hJk)
      gi_wp2
      gi_region
      gi_wp2
      refine ⟨fun h => by simp [Fence.wide] at h, hR.mono ?_⟩
      rintro e W3 ⟨rfl, hJ3, hk3, _⟩
      have B03 : Boxed W3 b0 52 (.slice (some ⟨g, 0, none⟩) (2 * m) c) := hk3.boxed B0 (by decide) (by decide)
      have B13 : Boxed W3 b1 3 (.int .i64 2) := hk3.boxed B1 (by decide) (by decide)
      have c03 := B03.cell
      have c13 := B13.cell
      gi_wp2
      go_roundw
      case rel => exact ⟨k + 1, by omega, by go_num, B03, B13, by rw [List.range_succ]; exact hJ3⟩
      case measure => simp [intOf]; omega
    · obtain rfl : k = m := by omega
      gi_wp2
      go_end0
      exact ⟨⟨_, rfl⟩, hJk⟩
theorem chunk_none (b0 b1 g : Nat) (w : World) (h0 : Boxed w b0 52 (.slice none 0 0)) :
    Gives Tryz.prog 87 #[.pointer (some ⟨b0, 0, none⟩), .pointer (some ⟨b1, 0, none⟩)] (fun k : Nat => #[.slice (some ⟨g, 2 * k, none⟩) 2 2]) KeepT (List.range 0) w := by
  intro l n J W hW hJ hY hJ0
  have H0 : Boxed W b0 52 (.slice none 0 0) := (hW.block _ h0.lt).trans h0
  have c0 := H0.cell
  refine callsIn_of_wp Tryz.func87 rfl trivial ?_ rfl
  simp only [Tryz.ntmps87, List.size_toArray, List.length_cons, List.length_nil, Nat.reduceAdd, Nat.reduceSub, Array.replicate_succ, Array.replicate_zero, List.push_toArray, List.append_toArray, List.nil_append, List.cons_append]
  gi_wp2
  gi_loopw [4] (fun p wr => p = .int .i64 0 ∧ wr = W) (fun p wr => 0)
  case atStart => exact ⟨rfl, rfl⟩
  case round =>
    obtain ⟨rfl, rfl⟩ := hrel
    gi_wp2
    go_end0
    exact ⟨⟨_, rfl⟩, hJ0⟩
theorem chunk_call (a : Option Addr) (n c : Nat) (w : World) :
    Calls Tryz.prog 85 #[.slice a n c, .int .i64 2] w fun e w' => e = .returned (.func (.func 87) #[] #[.pointer (some ⟨w.heap.size, 0, none⟩), .pointer (some ⟨w.heap.size + 1, 0, none⟩)]) ∧ w' = (w.alloc (.cells #[.slice a n c] 52)).alloc (.cells #[.int .i64 2] 3) := by
  go_enter Tryz.func85, Tryz.ntmps85
  go_wp2
  go_ret
  exact ⟨rfl, rfl⟩
end Go.Proofs.YtifmdgncgokikaaGreat.Ins
namespace Go.Proofs.YtifmdgncgokikaaGreat.Ins
open Go.ChangeShapes Go.WideShapes Go.ChangeAt Go.RowKit
open Kit Point Slabs
set_option linter.unusedVariables false
set_option linter.unusedSimpArgs false
set_option linter.unnecessarySimpa false
def sdF (l : List Pt) (i : Nat) : List Value := [.int .i64 (pX l i), .int .i64 (pY l i), .int .i64 (pX l ((i + 1) % l.length)), .int .i64 (pY l ((i + 1) % l.length))]
def zrF (_ : Nat) : List Value := [.int .i64 0, .int .i64 0, .int .i64 0, .int .i64 0]
theorem sdF_len (l : List Pt) (i : Nat) : (sdF l i).length = 4 := rfl
theorem zrF_len (i : Nat) : (zrF i).length = 4 := rfl
theorem cells4_of {w : World} {g n : Nat} {F : Nat → List Value} (h : ∀ i, i < n → ∀ j u, (F i)[j]? = some u → w.cell? ⟨g, i * 4 + j, none⟩ = some u) {i : Nat} (hi : i < n) {x0 x1 x2 x3 : Value} (e : F i = [x0, x1, x2, x3]) :
    w.cell? ⟨g, i * 4, none⟩ = some x0 ∧ w.cell? ⟨g, i * 4 + 1, none⟩ = some x1 ∧ w.cell? ⟨g, i * 4 + 2, none⟩ = some x2 ∧ w.cell? ⟨g, i * 4 + 3, none⟩ = some x3 := by
  have h0 := h i hi
  rw [e] at h0
  exact ⟨by simpa using h0 0 _ rfl, by simpa using h0 1 _ rfl, by simpa using h0 2 _ rfl, by simpa using h0 3 _ rfl⟩
theorem zero4_at (n i j : Nat) (u : Value) (hi : i < n) (hu : (zrF i)[j]? = some u) : (madeCells #[.int .i64 0, .int .i64 0, .int .i64 0, .int .i64 0] (n * 4))[i * 4 + j]? = some u := by
  have hj : j < 4 := by have := (List.getElem?_eq_some_iff.1 hu).1; simpa [zrF] using this
  unfold madeCells
  rw [Array.getElem?_map, Array.getElem?_range, if_pos (by have := Nat.mul_le_mul_right 4 (show i + 1 ≤ n by omega); rw [Nat.succ_mul] at this; omega)]
  have h1 : (i * 4 + j) % 4 = j := by omega
  simp only [Option.map_some]
  have h2 : j = 0 ∨ j = 1 ∨ j = 2 ∨ j = 3 := by omega
  rcases h2 with rfl | rfl | rfl | rfl <;> (simp only [zrF, List.getElem?_cons_zero, List.getElem?_cons_succ, Option.some.injEq] at hu; subst hu; simp [h1] <;> (try simp at h1) <;> (try simp [h1]))
theorem info_sd8 : (Tryz.prog.info? 119).map (fun i => (i.zero, i.size, i.bytes)) = some (some (.agg #[.int .i64 0, .int .i64 0, .int .i64 0, .int .i64 0]), 4, 32) := by kernel_rfl
set_option maxHeartbeats 2000000 in
theorem sd_impl (w : World) (a : Option Addr) (c : Nat) (l : List Pt) (hn : l.length ≤ 1048576) (h : PathAt w a l) :
    Calls Tryz.prog 88 #[.slice a l.length c] w fun e w' => ∃ v, e = .returned v ∧ Slab w' w.heap.size v l.length 4 (sdF l) ∧ Below w.heap.size w w' := by
  obtain ⟨i0, hi0, hz0, hz1, hz2⟩ := info_parts info_sd8
  obtain ⟨n, hN⟩ : ∃ n, l.length = n := ⟨_, rfl⟩
  have hn' : n ≤ 1048576 := by omega
  have hmk := fun W : World => run_make_rowN (P := Tryz.prog) 116 119 i0 _ Tryz.underlying116 hi0 hz0 .i64 .i64 n n (Nat.le_refl _) (by rw [hz2]; omega) (by omega) W
  rw [hz1] at hmk
  clear hi0 hz0 hz1 hz2 hn'
  have HP := Lib.hid h
  have HN := Lib.hid hN
  rcases h with rfl | ⟨g, rfl, hg, _⟩
  · simp only [List.length_nil] at hN
    subst hN
    have hmk0 := hmk
    simp only [Nat.zero_mul, Int.natCast_zero, Int.ofNat_zero, show ((0 : Nat) : Int) = 0 from rfl] at hmk0
    clear hmk
    go_enter Tryz.func88, Tryz.ntmps88
    go_wp2
    go_rounds 1
    go_ret
    exact ⟨_, rfl, ⟨_, _, rfl, Nat.le_refl _, .inl rfl⟩, by go_grown⟩
  · rw [hN] at hn ⊢
    clear hN
    go_enter Tryz.func88, Tryz.ntmps88
    go_wp2
    go_loopw [11] (fun v11 wr => ∃ k : Nat, k ≤ n ∧ v11 = .int .i64 (k : Int) ∧ Writes wr w.heap.size n 4 (upto (sdF l) zrF k) ∧ Below w.heap.size w wr) (fun v11 _ => n - (intOf v11).toNat)
    case atStart =>
      refine ⟨0, Nat.zero_le _, rfl, ⟨by simp, fun o => by simp, fun i hi j u hu => ?_⟩, by go_grown⟩
      rw [upto_zero] at hu
      rw [World.cell?_alloc_new]; exact zero4_at n i j u hi hu
    case round =>
      obtain ⟨k, hk, rfl, U, hB⟩ := hrel
      by_cases hlt : k < n
      · have hP := HP.out.on hB
        rcases hP with he | ⟨g', hg', hlg, hc⟩
        · have := HN.out; rw [he] at this; simp at this; omega
        · injection hg' with hg'
          injection hg' with hg'
          subst hg'
          obtain ⟨m, hm⟩ : ∃ m, (k + 1) % n = m := ⟨_, rfl⟩
          have hmn : m < n := by rw [← hm]; exact Nat.mod_lt _ (by omega)
          obtain ⟨q1, q2⟩ := hc k (by rw [HN.out]; exact hlt)
          obtain ⟨q3, q4⟩ := hc m (by rw [HN.out]; exact hmn)
          have hs : sdF l k = [.int .i64 (pX l k), .int .i64 (pY l k), .int .i64 (pX l m), .int .i64 (pY l m)] := by unfold sdF; rw [HN.out, hm]
          generalize pX l k = ax at q1 hs
          generalize pY l k = ay at q2 hs
          generalize pX l m = bx at q3 hs
          generalize pY l m = b1 at q4 hs
          have HS := Lib.hid hs
          clear hs hc
          have i0 : (0 : Int) ≤ (k : Int) := by omega
          have i1 : (k : Int) < (n : Int) := by omega
          have i2 : (0 : Int) ≤ (m : Int) := by omega
          have i3 : (m : Int) < (n : Int) := by omega
          have hn0 : ¬ n = 0 := by omega
          have j1 : IntKind.i64.wrap ((k : Int) + 1) = (k : Int) + 1 := IntWalk.i64_in _ (by omega)
          have j2 : ((k : Int) + 1).tmod (n : Int) = (m : Int) := by
            rw [← hm, show ((k : Int) + 1) = ((k + 1 : Nat) : Int) by omega, Int.ofNat_tmod]
          have j3 : IntKind.i64.wrap (m : Int) = (m : Int) := IntWalk.i64_in _ (by omega)
          have hsz : w.heap.size ≤ wr.heap.size := hB.size
          have hug := U.here
          have fz := U.free
          obtain ⟨c0, c1, c2, c3⟩ := cells4_of U.cell hlt (show upto (sdF l) zrF k k = _ from upto_ge (by omega))
          have HU := Lib.hid (And.intro U hB)
          clear hm U hB
          go_upto_region 5 with (fail)
          go_region
          have U3 := HU.out.1.all hlt zrF_len (sdF_len l)
          rw [HS.out] at U3
          have U4 := setAll_below HU.out.2 w.heap.size (k * 4) (Nat.le_refl _) [.int .i64 ax, .int .i64 ay, .int .i64 bx, .int .i64 b1]
          have U5 := U3.on (((Below.refl _ _).alloc (Nat.le_refl _) (.cells #[.int .i64 ax, .int .i64 ay] 71)).drew)
          have U6 := (U4.alloc (by rw [setAll_size]; exact hsz) (.cells #[.int .i64 ax, .int .i64 ay] 71)).drew
          have HV := Lib.hid (And.intro U5 U6)
          clear U3 U4 U5 U6
          go_wp2
          go_roundw
          case rel => exact ⟨k + 1, by omega, by go_num, HV.out.1, HV.out.2⟩
          case measure => simp [intOf]; omega
      · obtain rfl : k = n := by omega
        go_wp2
        go_ret
        exact ⟨_, rfl, (U.slab (Nat.le_refl _) _ (Nat.le_refl _)).same fun i hi => upto_lt hi, hB⟩
end Go.Proofs.YtifmdgncgokikaaGreat.Ins
