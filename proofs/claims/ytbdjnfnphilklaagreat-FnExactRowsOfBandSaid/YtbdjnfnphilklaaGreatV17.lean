/-
  Texts of this seat, laid together: Pts, Tg9
-/
import Derived.LoopTactic
import Derived.OwnWalk
import Derived.Lib.LazyBuf
import Derived.Test.YtbdjnfnphilklaaGreatV04
import Derived.Test.YtbdjnfnphilklaaGreatV21
import Derived.Test.YtbdjnfnphilklaaGreatV20
namespace Go.Proofs.YtbdjnfnphilklaaGreat.Pts
open Go.ChangeShapes Go.WideShapes Go.ChangeAt Go.RowKit
open Kit Point
set_option linter.unusedVariables false
set_option linter.unusedSimpArgs false
set_option linter.unnecessarySimpa false
attribute [local go_sem ↓] run_mx run_mn
def PtsAt (w : World) (g n : Nat) (X Y : Nat → Int) : Prop := ∀ i, i < n → w.cell? ⟨g, i * 2, none⟩ = some (.int .i64 (X i)) ∧ w.cell? ⟨g, i * 2 + 1, none⟩ = some (.int .i64 (Y i))
def acc (f : Int → Int → Int) (X : Nat → Int) : Nat → Int
  | 0 => X 0
  | k + 1 => f (acc f X k) (X k)
def okB (X Y : Nat → Int) : Nat → Bool
  | 0 => true
  | k + 1 => okB X Y k && pokB (X k) (Y k)
theorem okB_bad {X Y : Nat → Int} {k n : Nat} (hk : k < n) (h : pokB (X k) (Y k) = false) : okB X Y n = false := by
  induction n with
  | zero => omega
  | succ m ih =>
    by_cases e : k = m
    · subst e; simp [okB, h]
    · simp [okB, ih (by omega)]
theorem okB_good {X Y : Nat → Int} {n : Nat} (h : ∀ i, i < n → pokB (X i) (Y i) = true) : okB X Y n = true := by
  induction n with
  | zero => rfl
  | succ m ih => simp [okB, ih (fun i hi => h i (by omega)), h m (by omega)]
def boxofV (X Y : Nat → Int) (n : Nat) : Value :=
  .agg #[.int .i64 (sel (decide (0 < n) && okB X Y n) (acc mn X n)), .int .i64 (sel (decide (0 < n) && okB X Y n) (acc mn Y n)), .int .i64 (sel (decide (0 < n) && okB X Y n) (acc mx X n)), .int .i64 (sel (decide (0 < n) && okB X Y n) (acc mx Y n))]
theorem boxof_zero (X Y : Nat → Int) : Ending.returned (.agg #[.int .i64 0, .int .i64 0, .int .i64 0, .int .i64 0]) = .returned (boxofV X Y 0) := by simp [boxofV, sel]
theorem boxof_bad {X Y : Nat → Int} {k n : Nat} (hk : k < n) (h : pokB (X k) (Y k) = false) : Ending.returned (.agg #[.int .i64 0, .int .i64 0, .int .i64 0, .int .i64 0]) = .returned (boxofV X Y n) := by simp [boxofV, sel, okB_bad hk h]
theorem boxof_good {X Y : Nat → Int} {n : Nat} (h0 : 0 < n) (h : ∀ i, i < n → pokB (X i) (Y i) = true) : Ending.returned (.agg #[.int .i64 (acc mn X n), .int .i64 (acc mn Y n), .int .i64 (acc mx X n), .int .i64 (acc mx Y n)]) = .returned (boxofV X Y n) := by simp [boxofV, sel, okB_good h, h0]
set_option maxHeartbeats 2000000 in
theorem boxof_impl (g n c : Nat) (X Y : Nat → Int) (w : World) (hn : n ≤ 1048576) (hg : g < w.heap.size) (hp : PtsAt w g n X Y) :
    Calls Tryz.prog 138 #[.slice (some ⟨g, 0, none⟩) n c] w fun e w' => e = .returned (boxofV X Y n) ∧ Below w.heap.size w w' := by
  by_cases h0 : n = 0
  · subst h0
    go_enter Tryz.func138, Tryz.ntmps138
    go_wp2
    go_returns
    exact ⟨boxof_zero X Y, by go_grown⟩
  · have hp0 := hp 0 (by omega)
    simp only [Nat.zero_mul, Nat.zero_add] at hp0
    obtain ⟨e0, e1⟩ := hp0
    have HP := Lib.hid hp
    clear hp
    have hn0 : (0 : Int) < (n : Int) := by omega
    have hn9 : ((n : Int) == 0) = false := by simp; omega
    go_enter Tryz.func138, Tryz.ntmps138
    go_wp2
    go_loopw [25] (fun v25 wr => ∃ k : Nat, k ≤ n ∧ v25 = .int .i64 (k : Int) ∧ (∀ i, i < k → pokB (X i) (Y i) = true) ∧ Four wr w.heap.size 0 0 0 0 ∧ Four wr (w.heap.size + 1 + 1) (acc mn X k) (acc mn Y k) (acc mx X k) (acc mx Y k) ∧ w.heap.size + 1 + 1 < wr.heap.size ∧ Below w.heap.size w wr) (fun v25 _ => n - (intOf v25).toNat)
    case atStart => exact ⟨0, Nat.zero_le _, rfl, fun i hi => by omega, ⟨by simp [go_sem], by simp [go_sem], by simp [go_sem], by simp [go_sem], fun o => by simp [go_sem]⟩, ⟨by simp [go_sem, acc], by simp [go_sem, acc], by simp [go_sem, acc], by simp [go_sem, acc], fun o => by simp [go_sem]⟩, by simp, by go_grown⟩
    case round =>
      obtain ⟨k, hk, rfl, hok, F0, F1, hsz, hbel⟩ := hrel
      have HO := Lib.hid hok
      clear hok
      have hs0 : w.heap.size < wr.heap.size := by omega
      by_cases hlt : k < n
      · have hpk := HP.out k hlt
        have q0 : wr.cell? ⟨g, k * 2, none⟩ = some (.int .i64 (X k)) := by rw [hbel.cell (p := ⟨g, k * 2, none⟩) hg]; exact hpk.1
        have q1 : wr.cell? ⟨g, k * 2 + 1, none⟩ = some (.int .i64 (Y k)) := by rw [hbel.cell (p := ⟨g, k * 2 + 1, none⟩) hg]; exact hpk.2
        clear hpk
        have i0 : (0 : Int) ≤ (k : Int) := by omega
        have i1 : (k : Int) < (n : Int) := by omega
        cases hpk : pokB (X k) (Y k)
        · go_wp2_with (go_at_call 126; (with_reducible refine (pok_impl _ _ _).mono ?_); rintro e w' ⟨rfl, hb⟩; have hB := on_of (W := w) (by go_grown) hb; obtain ⟨r0, r1, r2, r3, rf⟩ := Four.keep (Four.alloc F0 _) hb (by simp; omega); obtain ⟨b0, b1, b2, b3, bf⟩ := Four.keep (Four.alloc F1 _) hb (by simp; omega); have p0 := (bcell hb).1 wr.heap.size 0 (by simp); have p1 := (bcell hb).1 wr.heap.size 1 (by simp); simp only [World.cell?_alloc_new] at p0 p1; have hsw := hb.size; simp at hsw; clear hb)
          refine bodyPost_ret (by simp [results, Tryz.results138, go_sem, *]; try rfl) rfl ?_
          exact ⟨boxof_bad hlt hpk, by go_grown⟩
        · go_wp2_with (go_at_call 126; (with_reducible refine (pok_impl _ _ _).mono ?_); rintro e w' ⟨rfl, hb⟩; have hB := on_of (W := w) (by go_grown) hb; obtain ⟨r0, r1, r2, r3, rf⟩ := Four.keep (Four.alloc F0 _) hb (by simp; omega); obtain ⟨b0, b1, b2, b3, bf⟩ := Four.keep (Four.alloc F1 _) hb (by simp; omega); have p0 := (bcell hb).1 wr.heap.size 0 (by simp); have p1 := (bcell hb).1 wr.heap.size 1 (by simp); simp only [World.cell?_alloc_new] at p0 p1; have hsw := hb.size; simp at hsw; clear hb)
          have G0 : Four w' w.heap.size 0 0 0 0 := ⟨r0, r1, r2, r3, rf⟩
          have G1 : Four w' (w.heap.size + 1 + 1) (acc mn X k) (acc mn Y k) (acc mx X k) (acc mx Y k) := ⟨b0, b1, b2, b3, bf⟩
          go_roundw
          case rel =>
            refine ⟨k + 1, by omega, by go_num, fun i hi => ?_, Four.other (Four.other (Four.other (Four.other G0 (by omega) _ _) (by omega) _ _) (by omega) _ _) (by omega) _ _, Four.set G1 _ _ _ _, by simp; omega, by go_grown⟩
            by_cases e : i = k
            · subst e; exact hpk
            · exact HO.out i (by omega)
          case measure => simp [intOf]; omega
      · obtain rfl : k = n := by omega
        obtain ⟨r0, r1, r2, r3, rf⟩ := F0
        obtain ⟨b0, b1, b2, b3, bf⟩ := F1
        go_wp2
        refine bodyPost_ret (by simp [results, Tryz.results138, go_sem, *]; try rfl) rfl ?_
        exact ⟨boxof_good (by omega) HO.out, by go_grown⟩
set_option maxHeartbeats 2000000 in
theorem boxof_spec (g n c : Nat) (X Y : Nat → Int) (w : World) (hn : n ≤ 1048576) (hg : g < w.heap.size) (hp : PtsAt w g n X Y) :
    Calls Tryz.prog 117 #[.slice (some ⟨g, 0, none⟩) n c] w fun e w' => e = .returned (boxofV X Y n) ∧ Below w.heap.size w w' := by
  have HP := Lib.hid hp
  clear hp
  go_enter Tryz.func117, Tryz.ntmps117
  go_wp2
  go_loopw [4] (fun v4 wr => ∃ k : Nat, k ≤ n ∧ v4 = .int .i64 (k : Int) ∧ (∀ i, i < k → pokB (X i) (Y i) = true) ∧ Four wr w.heap.size 0 0 0 0 ∧ Four wr (w.heap.size + 1) (sel (decide (0 < k)) (acc mn X k)) (sel (decide (0 < k)) (acc mn Y k)) (sel (decide (0 < k)) (acc mx X k)) (sel (decide (0 < k)) (acc mx Y k)) ∧ w.heap.size + 1 < wr.heap.size ∧ Below w.heap.size w wr) (fun v4 _ => n - (intOf v4).toNat)
  case atStart => exact ⟨0, Nat.zero_le _, rfl, fun i hi => by omega, ⟨by simp [go_sem], by simp [go_sem], by simp [go_sem], by simp [go_sem], fun o => by simp [go_sem]⟩, ⟨by simp [go_sem, sel], by simp [go_sem, sel], by simp [go_sem, sel], by simp [go_sem, sel], fun o => by simp [go_sem]⟩, by simp, by go_grown⟩
  case round =>
    obtain ⟨k, hk, rfl, hok, F0, F1, hsz, hbel⟩ := hrel
    have HO := Lib.hid hok
    clear hok
    have hs0 : w.heap.size < wr.heap.size := by omega
    by_cases hlt : k < n
    · have hpk := HP.out k hlt
      have q0 : wr.cell? ⟨g, k * 2, none⟩ = some (.int .i64 (X k)) := by rw [hbel.cell (p := ⟨g, k * 2, none⟩) hg]; exact hpk.1
      have q1 : wr.cell? ⟨g, k * 2 + 1, none⟩ = some (.int .i64 (Y k)) := by rw [hbel.cell (p := ⟨g, k * 2 + 1, none⟩) hg]; exact hpk.2
      clear hpk
      have i0 : (0 : Int) ≤ (k : Int) := by omega
      have i1 : (k : Int) < (n : Int) := by omega
      have hok1 : pokB (X k) (Y k) = true → ∀ i, i < k + 1 → pokB (X i) (Y i) = true := fun h i hi => by
        by_cases e : i = k
        · subst e; exact h
        · exact HO.out i (by omega)
      have HO1 := Lib.hid hok1
      clear hok1
      cases hpk : pokB (X k) (Y k)
      · go_wp2_with (go_at_call 130; (with_reducible refine (pok_spec _ _ _).mono ?_); rintro e w' ⟨rfl, hb⟩; have hB := on_of (W := w) (by go_grown) hb; obtain ⟨r0, r1, r2, r3, rf⟩ := Four.keep (Four.alloc F0 _) hb (by simp; omega); obtain ⟨b0, b1, b2, b3, bf⟩ := Four.keep (Four.alloc F1 _) hb (by simp; omega); have p0 := (bcell hb).1 wr.heap.size 0 (by simp); have p1 := (bcell hb).1 wr.heap.size 1 (by simp); simp only [World.cell?_alloc_new] at p0 p1; have hsw := hb.size; simp at hsw; clear hb)
        refine bodyPost_ret (by simp [results, Tryz.results117, go_sem, *]; try rfl) rfl ?_
        exact ⟨boxof_bad hlt hpk, by go_grown⟩
      · by_cases hk0 : k = 0
        · subst hk0
          have hk9 : (((0 : Nat) : Int) == 0) = true := by simp
          go_wp2_with (go_at_call 130; (with_reducible refine (pok_spec _ _ _).mono ?_); rintro e w' ⟨rfl, hb⟩; have hB := on_of (W := w) (by go_grown) hb; obtain ⟨r0, r1, r2, r3, rf⟩ := Four.keep (Four.alloc F0 _) hb (by simp; omega); obtain ⟨b0, b1, b2, b3, bf⟩ := Four.keep (Four.alloc F1 _) hb (by simp; omega); have p0 := (bcell hb).1 wr.heap.size 0 (by simp); have p1 := (bcell hb).1 wr.heap.size 1 (by simp); simp only [World.cell?_alloc_new] at p0 p1; have hsw := hb.size; simp at hsw; clear hb)
          have G0 : Four w' w.heap.size 0 0 0 0 := ⟨r0, r1, r2, r3, rf⟩
          have G1 : Four w' (w.heap.size + 1) _ _ _ _ := ⟨b0, b1, b2, b3, bf⟩
          go_roundw
          case rel =>
            refine ⟨1, by omega, by go_num, HO1.out hpk, ?_, ?_, by simp; omega, by go_grown⟩
            · refine Four.other (Four.other (Four.other (Four.other ?_ (by omega) _ _) (by omega) _ _) (by omega) _ _) (by omega) _ _
              exact Four.other (Four.other (Four.other (Four.other G0 (by omega) _ _) (by omega) _ _) (by omega) _ _) (by omega) _ _
            · simp only [sel, show decide (0 < 1) = true by simp, if_true]
              exact Four.set (Four.set G1 _ _ _ _) _ _ _ _
          case measure => simp [intOf]; omega
        · have hk9 : ((k : Int) == 0) = false := by simp; omega
          simp only [sel, show decide (0 < k) = true by simp; omega, if_true] at F1
          go_wp2_with (go_at_call 130; (with_reducible refine (pok_spec _ _ _).mono ?_); rintro e w' ⟨rfl, hb⟩; have hB := on_of (W := w) (by go_grown) hb; obtain ⟨r0, r1, r2, r3, rf⟩ := Four.keep (Four.alloc F0 _) hb (by simp; omega); obtain ⟨b0, b1, b2, b3, bf⟩ := Four.keep (Four.alloc F1 _) hb (by simp; omega); have p0 := (bcell hb).1 wr.heap.size 0 (by simp); have p1 := (bcell hb).1 wr.heap.size 1 (by simp); simp only [World.cell?_alloc_new] at p0 p1; have hsw := hb.size; simp at hsw; clear hb)
          have G0 : Four w' w.heap.size 0 0 0 0 := ⟨r0, r1, r2, r3, rf⟩
          have G1 : Four w' (w.heap.size + 1) _ _ _ _ := ⟨b0, b1, b2, b3, bf⟩
          go_roundw
          case rel =>
            refine ⟨k + 1, by omega, by go_num, HO1.out hpk, Four.other (Four.other (Four.other (Four.other G0 (by omega) _ _) (by omega) _ _) (by omega) _ _) (by omega) _ _, ?_, by simp; omega, by go_grown⟩
            simp only [sel, show decide (0 < k + 1) = true by simp, if_true]
            exact Four.set G1 _ _ _ _
          case measure => simp [intOf]; omega
    · obtain rfl : k = n := by omega
      obtain ⟨r0, r1, r2, r3, rf⟩ := F0
      obtain ⟨b0, b1, b2, b3, bf⟩ := F1
      go_wp2
      refine bodyPost_ret (by simp [results, Tryz.results117, go_sem, *]; try rfl) rfl ?_
      refine ⟨?_, by go_grown⟩
      by_cases hk0 : k = 0
      · subst hk0; exact boxof_zero X Y
      · have := boxof_good (n := k) (X := X) (Y := Y) (by omega) HO.out
        simpa [sel, show 0 < k by omega] using this
end Go.Proofs.YtbdjnfnphilklaaGreat.Pts
namespace Go.Proofs.YtbdjnfnphilklaaGreat.Ins
open Go.ChangeShapes Go.WideShapes Go.ChangeAt Go.RowKit Go.Shelf
open Kit
set_option linter.unusedVariables false
set_option linter.unusedSimpArgs false
set_option linter.unnecessarySimpa false
def Cols (w : World) (B : Nat) (v : Value) (zs : List Int) : Prop :=
  (v = .slice none 0 0 ∧ zs = []) ∨ ∃ (g c : Nat) (f : Nat → Value), v = .slice (some ⟨g, 0, none⟩) zs.length c ∧ B ≤ g ∧ zs.length ≤ c ∧ c ≤ maxLen ∧ w.rowIs g 3 c f ∧ ∀ j, j < zs.length → f j = .int .i64 (zs.getD j 0)
theorem Cols.keep {w w' : World} {B : Nat} {v : Value} {zs : List Int} (h : Cols w B v zs) (hb : Below w.heap.size w w') : Cols w' B v zs := by
  rcases h with h | ⟨g, c, f, h1, h2, h3, h4, h5, h6⟩
  · exact .inl h
  · exact .inr ⟨g, c, f, h1, h2, h3, h4, h5.of_block (hb.block g h5.lt), h6⟩
theorem Cols.nil (w : World) (B : Nat) : Cols w B (.slice none 0 0) [] := .inl ⟨rfl, rfl⟩
theorem Cols.size {w : World} {B : Nat} {v : Value} {zs : List Int} (h : Cols w B v zs) : ∃ a c, v = .slice a zs.length c := by
  rcases h with ⟨h, rfl⟩ | ⟨g, c, f, h1, _⟩
  · exact ⟨_, _, h⟩
  · exact ⟨_, _, h1⟩
theorem setCells_below (g : Nat) {B : Nat} {a : World} (hb : B ≤ g) (vs : List Value) (o : Nat) (w : World) (h : Below B a w) : Below B a (w.setCells g o vs) := Go.below_setCells hb vs o w h
theorem getD_map_int (zs : List Int) (j : Nat) (h : j < zs.length) : (zs.map (Value.int .i64))[j]? = some (.int .i64 (zs.getD j 0)) := by
  rw [List.getElem?_map, List.getElem?_eq_getElem h]; simp [List.getD, h]
theorem ins_get (zs : List Int) (x : Int) {i : Nat} (hi : i ≤ zs.length) (j : Nat) (hj : j < zs.length + 1) :
    (zs.take i ++ x :: zs.drop i).getD j 0 = if j < i then zs.getD j 0 else if j = i then x else zs.getD (j - 1) 0 := by
  have hl : (zs.take i).length = i := by rw [List.length_take]; omega
  by_cases h1 : j < i
  · rw [if_pos h1]
    simp only [List.getD]
    rw [List.getElem?_append_left (by omega), List.getElem?_take, if_pos h1]
  · rw [if_neg h1]
    simp only [List.getD]
    rw [List.getElem?_append_right (by omega), hl]
    by_cases h2 : j = i
    · subst h2; simp
    · rw [if_neg h2]
      obtain ⟨m, rfl⟩ : ∃ m, j = i + (m + 1) := ⟨j - i - 1, by omega⟩
      rw [show i + (m + 1) - i = m + 1 by omega, List.getElem?_cons_succ, List.getElem?_drop]
      congr 2
theorem ins_len (zs : List Int) (x : Int) {i : Nat} (hi : i ≤ zs.length) : (zs.take i ++ x :: zs.drop i).length = zs.length + 1 := by
  rw [List.length_append, List.length_cons, List.length_take, List.length_drop]; omega
theorem zero_size (n : Nat) : (Builtin.zeroCells (Value.int .i64 0).cells n).size = n := by simp [Builtin.zeroCells, Value.cells]
theorem cols_new (w : World) {B G n : Nat} (ys : List Int) (A : Array Value) (hA : A.size = G) (hn : ys.length = n) (hG : n ≤ G) (hm : G ≤ maxLen) (hB : B ≤ w.heap.size) (h : ∀ j, j < ys.length → A[j]? = some (.int .i64 (ys.getD j 0))) :
    Cols (w.alloc (.cells A 3)) B (.slice (some ⟨w.heap.size, 0, none⟩) n G) ys := by
  refine .inr ⟨w.heap.size, G, fun j => (A[j]?).getD default, by rw [hn], hB, by omega, hm, ?_, fun j hj => by simp [h j hj]⟩
  have := World.rowIs_alloc w A 3 (fun j => (A[j]?).getD default) (fun i hi => by rw [Array.getElem?_eq_getElem hi]; rfl)
  rwa [hA] at this
set_option maxHeartbeats 1000000 in
theorem ins_impl (w : World) (B : Nat) (v : Value) (zs : List Int) (x : Int) (i vb : Nat) (hv : Cols w B v zs) (hB : B ≤ w.heap.size) (hn : zs.length ≤ 1048576) (hi : i ≤ zs.length)
    (hvb : w.rowIs vb 3 1 (fun _ => .int .i64 x)) (hne : ∀ a n c, v = .slice (some a) n c → vb ≠ a.block) :
    Calls Tryz.prog 151 #[v, .int .i64 (i : Int), .slice (some ⟨vb, 0, none⟩) 1 1] w fun e w' => ∃ u, e = .returned u ∧ Cols w' B u (zs.take i ++ x :: zs.drop i) ∧ Below B w w' := by
  have hvs : ∀ j u, [Value.int .i64 x][j]? = some u → w.cell? ⟨vb, 0 + j, none⟩ = some u := fun j u hj => by
    have hj0 : j = 0 := by have := (List.getElem?_eq_some_iff.1 hj).1; simpa using this
    subst hj0
    simp at hj
    rw [← hj]; exact hvb.cell (by omega)
  have h1v : ∀ u ∈ [Value.int .i64 x], u.oneCell' = true := by simp [Value.oneCell']
  have h1c : ∀ u ∈ zs.map (Value.int .i64), u.oneCell' = true := by
    intro u hu; obtain ⟨z, _, rfl⟩ := List.mem_map.1 hu; rfl
  have hcl : (zs.map (Value.int .i64)).length = zs.length := List.length_map ..
  rcases hv with ⟨rfl, rfl⟩ | ⟨g, c, f, rfl, hg, hc, hm, hr, hf⟩
  · obtain rfl : i = 0 := by simpa using hi
    refine (Any2.slices_Insert_int_end_grow Tryz.laysNm221 none 0 0 vb 0 1 1 [] [.int .i64 x] w (by omega) (by omega) (by omega) (by omega) rfl rfl (fun _ => rfl) (fun a ha => by cases ha) hvs h1v).mono ?_
    rintro e w' ⟨rfl, rfl⟩
    have hGn := grownCap_ge w (0 + 1) 0 (Tryz.laysNm221_ren.t 3)
    have hGm := grownCap_le_maxLen w (0 + 1) 0 (Tryz.laysNm221_ren.t 3) (by unfold maxLen; omega)
    refine ⟨_, rfl, cols_new w.drew (n := 0 + 1) [x] _ ?_ rfl hGn hGm hB ?_, ((Below.refl B w).drew).alloc hB _⟩
    · rw [Array.size_append, zero_size]; show 1 + _ = _; omega
    · intro j hj
      have hj0 : j = 0 := by simpa using hj
      subst hj0
      rw [Array.getElem?_append_left (by simp)]; simp
  · have hcs : ∀ j u, (zs.map (Value.int .i64))[j]? = some u → w.cell? ⟨g, 0 + j, none⟩ = some u := fun j u hj => by
      have hjl : j < zs.length := by have := (List.getElem?_eq_some_iff.1 hj).1; simpa using this
      rw [getD_map_int zs j hjl] at hj
      rw [Nat.zero_add, hr.cell (show j < c by omega), hf j hjl]; exact hj
    have hne' : vb ≠ g := hne _ _ _ rfl
    have hml : c ≤ 9223372036854775807 := by unfold maxLen at hm; omega
    have hgl := hr.lt
    by_cases hin : i = zs.length
    · subst hin
      have hl := ins_len zs x (Nat.le_refl _)
      by_cases hroom : zs.length + 1 ≤ c
      · refine (Any2.slices_Insert_int_end_room Tryz.laysNm221 g 0 zs.length c vb 0 1 1 [.int .i64 x] w (by omega) hroom hml rfl (fun j hj => ?_) (fun j hj => hr.frozen _) hvs h1v).mono ?_
        · rw [hr.cell (by omega)]; rfl
        rintro e w' ⟨rfl, rfl⟩
        refine ⟨_, rfl, .inr ⟨g, c, _, by rw [hl], hg, by rw [hl]; exact hroom, hm, Go.rowIs_setCells _ _ _ _ hr, fun j hj => ?_⟩, setCells_below g hg _ _ _ (Below.refl _ _)⟩
        rw [hl] at hj
        rw [ins_get zs x (Nat.le_refl _) j hj]
        by_cases h1 : j < zs.length
        · rw [if_pos h1, if_neg (by simp; omega), hf j h1]
        · have e : j = zs.length := by omega
          subst e; simp
      · refine (Any2.slices_Insert_int_end_grow Tryz.laysNm221 (some ⟨g, 0, none⟩) zs.length c vb 0 1 1 (zs.map (Value.int .i64)) [.int .i64 x] w (by omega) hc (by omega) (by omega) hcl rfl (fun h => by cases h) (fun a ha j u hj => by cases ha; rw [Addr.add_lit]; exact hcs j u hj) hvs h1v).mono ?_
        rintro e w' ⟨rfl, rfl⟩
        have hGn := grownCap_ge w (zs.length + 1) c (Tryz.laysNm221_ren.t 3)
        have hGm := grownCap_le_maxLen w (zs.length + 1) c (Tryz.laysNm221_ren.t 3) (by unfold maxLen; omega)
        refine ⟨_, rfl, cols_new w.drew (n := zs.length + 1) _ _ ?_ hl hGn hGm hB ?_, ((Below.refl B w).drew).alloc hB _⟩
        · rw [Array.size_append, zero_size]; simp; omega
        · intro j hj
          rw [hl] at hj
          rw [Array.getElem?_append_left (by simp; omega), ins_get zs x (Nat.le_refl _) j hj]
          by_cases h1 : j < zs.length
          · rw [if_pos h1, List.getElem?_toArray, List.getElem?_append_left (by simpa using h1), getD_map_int zs j h1]
          · have e : j = zs.length := by omega
            subst e; simp
    · have hil : i < zs.length := by omega
      have hl := ins_len zs x hi
      have hdl : ((zs.map (Value.int .i64)).drop i).length = zs.length - i := by rw [List.length_drop, hcl]
      have hdg : ∀ j, i + 1 ≤ j → j < zs.length + 1 → ((zs.map (Value.int .i64)).drop i)[j - (i + 1)]? = some (.int .i64 (zs.getD (j - 1) 0)) := fun j h1 h2 => by
        rw [List.getElem?_drop, show i + (j - (i + 1)) = j - 1 by omega, getD_map_int zs _ (by omega)]
      by_cases hroom : zs.length + 1 ≤ c
      · have hsa : w.shape? vb = some (3, 1) := by obtain ⟨A, hA, hs, _⟩ := hvb; simp [World.shape?, hA, hs]
        have hsb : w.shape? g = some (3, c) := by obtain ⟨A, hA, hs, _⟩ := hr; simp [World.shape?, hA, hs]
        refine (Any2.slices_Insert_int_shift Tryz.laysNm221 g 0 zs.length c i vb 0 1 1 (zs.map (Value.int .i64)) [.int .i64 x] w hil (by omega) hroom hml hne' hcl rfl hcs (fun j hj => ?_) (fun j hj => hr.frozen _) hvs h1c h1v _ _ _ _ hsa hsb (by omega) (hvb.frozen _) (hvb.frozen _)).mono ?_
        · rw [hr.cell (by omega)]; rfl
        rintro e w' ⟨rfl, rfl⟩
        refine ⟨_, rfl, .inr ⟨g, c, _, by rw [hl], hg, by rw [hl]; exact hroom, hm, Go.rowIs_setCells _ _ _ _ (Go.rowIs_setCells _ _ _ _ hr.drew), fun j hj => ?_⟩, setCells_below g hg _ _ _ (setCells_below g hg _ _ _ (Below.refl B w).drew)⟩
        rw [hl] at hj
        rw [ins_get zs x hi j hj]
        simp only [List.length_singleton, hdl, Nat.zero_add]
        by_cases h1 : j < i
        · rw [if_pos h1, if_neg (by omega), if_neg (by omega), hf j (by omega)]
        · by_cases h2 : j = i
          · subst h2; simp
          · rw [if_neg h1, if_neg h2, if_neg (by omega), if_pos (by omega), hdg j (by omega) hj]; rfl
      · refine (Any2.slices_Insert_int_grow Tryz.laysNm221 g 0 zs.length c i vb 0 1 1 (zs.map (Value.int .i64)) [.int .i64 x] w hil (by omega) hc (by omega) (by omega) hcl rfl hcs hvs h1c h1v).mono ?_
        rintro e w' ⟨rfl, rfl⟩
        have hGn := grownCap_ge w (zs.length + 1) c (Tryz.laysNm221_ren.t 3)
        have hGm := grownCap_le_maxLen w (zs.length + 1) c (Tryz.laysNm221_ren.t 3) (by unfold maxLen; omega)
        have htl : ((zs.map (Value.int .i64)).take i).length = i := by rw [List.length_take, hcl]; omega
        have hsz : (((zs.map (Value.int .i64)).take i).toArray ++ Builtin.zeroCells (Value.int .i64 0).cells (zs.length + 1 - i) ++ Builtin.zeroCells (Value.int .i64 0).cells (grownCap w (zs.length + 1) c (Tryz.laysNm221_ren.t 3) - (zs.length + 1))).size = grownCap w (zs.length + 1) c (Tryz.laysNm221_ren.t 3) := by
          rw [Array.size_append, Array.size_append, zero_size, zero_size, List.size_toArray, htl]; omega
        generalize hRow : ((zs.map (Value.int .i64)).take i).toArray ++ Builtin.zeroCells (Value.int .i64 0).cells (zs.length + 1 - i) ++ Builtin.zeroCells (Value.int .i64 0).cells (grownCap w (zs.length + 1) c (Tryz.laysNm221_ren.t 3) - (zs.length + 1)) = ROW at *
        generalize grownCap w (zs.length + 1) c (Tryz.laysNm221_ren.t 3) = G at *
        have hr0 := World.rowIs_alloc w ROW 3 (fun j => (ROW[j]?).getD default) (fun i hi => by rw [Array.getElem?_eq_getElem hi]; rfl)
        rw [hsz] at hr0
        have hb0 : Below B w (w.alloc (.cells ROW 3)) := (Below.refl B w).alloc hB _
        refine ⟨_, rfl, .inr ⟨w.heap.size, G, _, by rw [hl], hB, by rw [hl]; exact hGn, hGm, Go.rowIs_setCells _ _ _ _ (Go.rowIs_setCells _ _ _ _ hr0.drew).drew, fun j hj => ?_⟩, setCells_below _ hB _ _ _ (setCells_below _ hB _ _ _ hb0.drew).drew⟩
        rw [hl] at hj
        rw [ins_get zs x hi j hj]
        simp only [List.length_singleton, hdl]
        by_cases h1 : j < i
        · rw [if_pos h1, if_neg (by omega), if_neg (by omega), ← hRow, Array.getElem?_append_left (by rw [Array.size_append, List.size_toArray, htl]; omega), Array.getElem?_append_left (by rw [List.size_toArray, htl]; exact h1), List.getElem?_toArray, List.getElem?_take, if_pos h1, getD_map_int zs j (by omega)]; rfl
        · by_cases h2 : j = i
          · subst h2; simp [show ¬ (j + 1 ≤ j) by omega]
          · rw [if_neg h1, if_neg h2, if_pos (by omega), hdg j (by omega) hj]; rfl
end Go.Proofs.YtbdjnfnphilklaaGreat.Ins
