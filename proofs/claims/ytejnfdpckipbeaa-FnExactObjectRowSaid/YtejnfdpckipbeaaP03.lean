/-
  Texts of this seat, laid together: Pts, Sh8
-/
import Derived.LoopTactic
import Derived.OwnWalk
import Derived.Deep.AppendLies
import Derived.Test.YtejnfdpckipbeaaP02
import Derived.Test.YtejnfdpckipbeaaP13
import Derived.Test.YtejnfdpckipbeaaP08
namespace Go.Proofs.Ytejnfdpckipbeaa.Pts
open Go.ChangeShapes Go.WideShapes Go.ChangeAt Go.RowKit
open Kit Point
set_option linter.unusedVariables false
set_option linter.unusedSimpArgs false
set_option linter.unnecessarySimpa false
attribute [local go_sem ↓] run_mx run_mn
def PtsAt (w : World) (g n : Nat) (X Y : Nat → Int) : Prop := ∀ i, i < n → w.cell? ⟨g, i * 2, none⟩ = some (.int .i64 (X i)) ∧ w.cell? ⟨g, i * 2 + 1, none⟩ = some (.int .i64 (Y i))
def acc (f : Int → Int → Int) (X : Nat → Int) : Nat → Int
  | 0 => X 0
  | k + 1 => f (acc f X k) (X k)
def okB (X Y : Nat → Int) : Nat → Bool
  | 0 => true
  | k + 1 => okB X Y k && pokB (X k) (Y k)
theorem okB_bad {X Y : Nat → Int} {k n : Nat} (hk : k < n) (h : pokB (X k) (Y k) = false) : okB X Y n = false := by
  induction n with
  | zero => omega
  | succ m ih =>
    by_cases e : k = m
    · subst e; simp [okB, h]
    · simp [okB, ih (by omega)]
theorem okB_good {X Y : Nat → Int} {n : Nat} (h : ∀ i, i < n → pokB (X i) (Y i) = true) : okB X Y n = true := by
  induction n with
  | zero => rfl
  | succ m ih => simp [okB, ih (fun i hi => h i (by omega)), h m (by omega)]
def boxofV (X Y : Nat → Int) (n : Nat) : Value :=
  .agg #[.int .i64 (sel (decide (0 < n) && okB X Y n) (acc mn X n)), .int .i64 (sel (decide (0 < n) && okB X Y n) (acc mn Y n)), .int .i64 (sel (decide (0 < n) && okB X Y n) (acc mx X n)), .int .i64 (sel (decide (0 < n) && okB X Y n) (acc mx Y n))]
theorem boxof_zero (X Y : Nat → Int) : Ending.returned (.agg #[.int .i64 0, .int .i64 0, .int .i64 0, .int .i64 0]) = .returned (boxofV X Y 0) := by simp [boxofV, sel]
theorem boxof_bad {X Y : Nat → Int} {k n : Nat} (hk : k < n) (h : pokB (X k) (Y k) = false) : Ending.returned (.agg #[.int .i64 0, .int .i64 0, .int .i64 0, .int .i64 0]) = .returned (boxofV X Y n) := by simp [boxofV, sel, okB_bad hk h]
theorem boxof_good {X Y : Nat → Int} {n : Nat} (h0 : 0 < n) (h : ∀ i, i < n → pokB (X i) (Y i) = true) : Ending.returned (.agg #[.int .i64 (acc mn X n), .int .i64 (acc mn Y n), .int .i64 (acc mx X n), .int .i64 (acc mx Y n)]) = .returned (boxofV X Y n) := by simp [boxofV, sel, okB_good h, h0]
set_option maxHeartbeats 2000000 in
theorem boxof_impl (g n c : Nat) (X Y : Nat → Int) (w : World) (hn : n ≤ 1048576) (hg : g < w.heap.size) (hp : PtsAt w g n X Y) :
    Calls Try.prog 122 #[.slice (some ⟨g, 0, none⟩) n c] w fun e w' => e = .returned (boxofV X Y n) ∧ Below w.heap.size w w' := by
  by_cases h0 : n = 0
  · subst h0
    go_enter Try.func122, Try.ntmps122
    go_wp2
    go_returns
    exact ⟨boxof_zero X Y, by go_grown⟩
  · have hp0 := hp 0 (by omega)
    simp only [Nat.zero_mul, Nat.zero_add] at hp0
    obtain ⟨e0, e1⟩ := hp0
    have HP := Lib.hid hp
    clear hp
    have hn0 : (0 : Int) < (n : Int) := by omega
    have hn9 : ((n : Int) == 0) = false := by simp; omega
    go_enter Try.func122, Try.ntmps122
    go_wp2
    go_loopw [25] (fun v25 wr => ∃ k : Nat, k ≤ n ∧ v25 = .int .i64 (k : Int) ∧ (∀ i, i < k → pokB (X i) (Y i) = true) ∧ Four wr w.heap.size 0 0 0 0 ∧ Four wr (w.heap.size + 1 + 1) (acc mn X k) (acc mn Y k) (acc mx X k) (acc mx Y k) ∧ w.heap.size + 1 + 1 < wr.heap.size ∧ Below w.heap.size w wr) (fun v25 _ => n - (intOf v25).toNat)
    case atStart => exact ⟨0, Nat.zero_le _, rfl, fun i hi => by omega, ⟨by simp [go_sem], by simp [go_sem], by simp [go_sem], by simp [go_sem], fun o => by simp [go_sem]⟩, ⟨by simp [go_sem, acc], by simp [go_sem, acc], by simp [go_sem, acc], by simp [go_sem, acc], fun o => by simp [go_sem]⟩, by simp, by go_grown⟩
    case round =>
      obtain ⟨k, hk, rfl, hok, F0, F1, hsz, hbel⟩ := hrel
      have HO := Lib.hid hok
      clear hok
      have hs0 : w.heap.size < wr.heap.size := by omega
      by_cases hlt : k < n
      · have hpk := HP.out k hlt
        have q0 : wr.cell? ⟨g, k * 2, none⟩ = some (.int .i64 (X k)) := by rw [hbel.cell (p := ⟨g, k * 2, none⟩) hg]; exact hpk.1
        have q1 : wr.cell? ⟨g, k * 2 + 1, none⟩ = some (.int .i64 (Y k)) := by rw [hbel.cell (p := ⟨g, k * 2 + 1, none⟩) hg]; exact hpk.2
        clear hpk
        have i0 : (0 : Int) ≤ (k : Int) := by omega
        have i1 : (k : Int) < (n : Int) := by omega
        cases hpk : pokB (X k) (Y k)
        · go_wp2_with (go_at_call 103; (with_reducible refine (pok_impl _ _ _).mono ?_); rintro e w' ⟨rfl, hb⟩; have hB := on_of (W := w) (by go_grown) hb; obtain ⟨r0, r1, r2, r3, rf⟩ := Four.keep (Four.alloc F0 _) hb (by simp; omega); obtain ⟨b0, b1, b2, b3, bf⟩ := Four.keep (Four.alloc F1 _) hb (by simp; omega); have p0 := (bcell hb).1 wr.heap.size 0 (by simp); have p1 := (bcell hb).1 wr.heap.size 1 (by simp); simp only [World.cell?_alloc_new] at p0 p1; have hsw := hb.size; simp at hsw; clear hb)
          refine bodyPost_ret (by simp [results, Try.results122, go_sem, *]; try rfl) rfl ?_
          exact ⟨boxof_bad hlt hpk, by go_grown⟩
        · go_wp2_with (go_at_call 103; (with_reducible refine (pok_impl _ _ _).mono ?_); rintro e w' ⟨rfl, hb⟩; have hB := on_of (W := w) (by go_grown) hb; obtain ⟨r0, r1, r2, r3, rf⟩ := Four.keep (Four.alloc F0 _) hb (by simp; omega); obtain ⟨b0, b1, b2, b3, bf⟩ := Four.keep (Four.alloc F1 _) hb (by simp; omega); have p0 := (bcell hb).1 wr.heap.size 0 (by simp); have p1 := (bcell hb).1 wr.heap.size 1 (by simp); simp only [World.cell?_alloc_new] at p0 p1; have hsw := hb.size; simp at hsw; clear hb)
          have G0 : Four w' w.heap.size 0 0 0 0 := ⟨r0, r1, r2, r3, rf⟩
          have G1 : Four w' (w.heap.size + 1 + 1) (acc mn X k) (acc mn Y k) (acc mx X k) (acc mx Y k) := ⟨b0, b1, b2, b3, bf⟩
          go_roundw
          case rel =>
            refine ⟨k + 1, by omega, by go_num, fun i hi => ?_, Four.other (Four.other (Four.other (Four.other G0 (by omega) _ _) (by omega) _ _) (by omega) _ _) (by omega) _ _, Four.set G1 _ _ _ _, by simp; omega, by go_grown⟩
            by_cases e : i = k
            · subst e; exact hpk
            · exact HO.out i (by omega)
          case measure => simp [intOf]; omega
      · obtain rfl : k = n := by omega
        obtain ⟨r0, r1, r2, r3, rf⟩ := F0
        obtain ⟨b0, b1, b2, b3, bf⟩ := F1
        go_wp2
        refine bodyPost_ret (by simp [results, Try.results122, go_sem, *]; try rfl) rfl ?_
        exact ⟨boxof_good (by omega) HO.out, by go_grown⟩
set_option maxHeartbeats 2000000 in
theorem boxof_spec (g n c : Nat) (X Y : Nat → Int) (w : World) (hn : n ≤ 1048576) (hg : g < w.heap.size) (hp : PtsAt w g n X Y) :
    Calls Try.prog 82 #[.slice (some ⟨g, 0, none⟩) n c] w fun e w' => e = .returned (boxofV X Y n) ∧ Below w.heap.size w w' := by
  have HP := Lib.hid hp
  clear hp
  go_enter Try.func82, Try.ntmps82
  go_wp2
  go_loopw [4] (fun v4 wr => ∃ k : Nat, k ≤ n ∧ v4 = .int .i64 (k : Int) ∧ (∀ i, i < k → pokB (X i) (Y i) = true) ∧ Four wr w.heap.size 0 0 0 0 ∧ Four wr (w.heap.size + 1) (sel (decide (0 < k)) (acc mn X k)) (sel (decide (0 < k)) (acc mn Y k)) (sel (decide (0 < k)) (acc mx X k)) (sel (decide (0 < k)) (acc mx Y k)) ∧ w.heap.size + 1 < wr.heap.size ∧ Below w.heap.size w wr) (fun v4 _ => n - (intOf v4).toNat)
  case atStart => exact ⟨0, Nat.zero_le _, rfl, fun i hi => by omega, ⟨by simp [go_sem], by simp [go_sem], by simp [go_sem], by simp [go_sem], fun o => by simp [go_sem]⟩, ⟨by simp [go_sem, sel], by simp [go_sem, sel], by simp [go_sem, sel], by simp [go_sem, sel], fun o => by simp [go_sem]⟩, by simp, by go_grown⟩
  case round =>
    obtain ⟨k, hk, rfl, hok, F0, F1, hsz, hbel⟩ := hrel
    have HO := Lib.hid hok
    clear hok
    have hs0 : w.heap.size < wr.heap.size := by omega
    by_cases hlt : k < n
    · have hpk := HP.out k hlt
      have q0 : wr.cell? ⟨g, k * 2, none⟩ = some (.int .i64 (X k)) := by rw [hbel.cell (p := ⟨g, k * 2, none⟩) hg]; exact hpk.1
      have q1 : wr.cell? ⟨g, k * 2 + 1, none⟩ = some (.int .i64 (Y k)) := by rw [hbel.cell (p := ⟨g, k * 2 + 1, none⟩) hg]; exact hpk.2
      clear hpk
      have i0 : (0 : Int) ≤ (k : Int) := by omega
      have i1 : (k : Int) < (n : Int) := by omega
      have hok1 : pokB (X k) (Y k) = true → ∀ i, i < k + 1 → pokB (X i) (Y i) = true := fun h i hi => by
        by_cases e : i = k
        · subst e; exact h
        · exact HO.out i (by omega)
      have HO1 := Lib.hid hok1
      clear hok1
      cases hpk : pokB (X k) (Y k)
      · go_wp2_with (go_at_call 118; (with_reducible refine (pok_spec _ _ _).mono ?_); rintro e w' ⟨rfl, hb⟩; have hB := on_of (W := w) (by go_grown) hb; obtain ⟨r0, r1, r2, r3, rf⟩ := Four.keep (Four.alloc F0 _) hb (by simp; omega); obtain ⟨b0, b1, b2, b3, bf⟩ := Four.keep (Four.alloc F1 _) hb (by simp; omega); have p0 := (bcell hb).1 wr.heap.size 0 (by simp); have p1 := (bcell hb).1 wr.heap.size 1 (by simp); simp only [World.cell?_alloc_new] at p0 p1; have hsw := hb.size; simp at hsw; clear hb)
        refine bodyPost_ret (by simp [results, Try.results82, go_sem, *]; try rfl) rfl ?_
        exact ⟨boxof_bad hlt hpk, by go_grown⟩
      · by_cases hk0 : k = 0
        · subst hk0
          have hk9 : (((0 : Nat) : Int) == 0) = true := by simp
          go_wp2_with (go_at_call 118; (with_reducible refine (pok_spec _ _ _).mono ?_); rintro e w' ⟨rfl, hb⟩; have hB := on_of (W := w) (by go_grown) hb; obtain ⟨r0, r1, r2, r3, rf⟩ := Four.keep (Four.alloc F0 _) hb (by simp; omega); obtain ⟨b0, b1, b2, b3, bf⟩ := Four.keep (Four.alloc F1 _) hb (by simp; omega); have p0 := (bcell hb).1 wr.heap.size 0 (by simp); have p1 := (bcell hb).1 wr.heap.size 1 (by simp); simp only [World.cell?_alloc_new] at p0 p1; have hsw := hb.size; simp at hsw; clear hb)
          have G0 : Four w' w.heap.size 0 0 0 0 := ⟨r0, r1, r2, r3, rf⟩
          have G1 : Four w' (w.heap.size + 1) _ _ _ _ := ⟨b0, b1, b2, b3, bf⟩
          go_roundw
          case rel =>
            refine ⟨1, by omega, by go_num, HO1.out hpk, ?_, ?_, by simp; omega, by go_grown⟩
            · refine Four.other (Four.other (Four.other (Four.other ?_ (by omega) _ _) (by omega) _ _) (by omega) _ _) (by omega) _ _
              exact Four.other (Four.other (Four.other (Four.other G0 (by omega) _ _) (by omega) _ _) (by omega) _ _) (by omega) _ _
            · simp only [sel, show decide (0 < 1) = true by simp, if_true]
              exact Four.set (Four.set G1 _ _ _ _) _ _ _ _
          case measure => simp [intOf]; omega
        · have hk9 : ((k : Int) == 0) = false := by simp; omega
          simp only [sel, show decide (0 < k) = true by simp; omega, if_true] at F1
          go_wp2_with (go_at_call 118; (with_reducible refine (pok_spec _ _ _).mono ?_); rintro e w' ⟨rfl, hb⟩; have hB := on_of (W := w) (by go_grown) hb; obtain ⟨r0, r1, r2, r3, rf⟩ := Four.keep (Four.alloc F0 _) hb (by simp; omega); obtain ⟨b0, b1, b2, b3, bf⟩ := Four.keep (Four.alloc F1 _) hb (by simp; omega); have p0 := (bcell hb).1 wr.heap.size 0 (by simp); have p1 := (bcell hb).1 wr.heap.size 1 (by simp); simp only [World.cell?_alloc_new] at p0 p1; have hsw := hb.size; simp at hsw; clear hb)
          have G0 : Four w' w.heap.size 0 0 0 0 := ⟨r0, r1, r2, r3, rf⟩
          have G1 : Four w' (w.heap.size + 1) _ _ _ _ := ⟨b0, b1, b2, b3, bf⟩
          go_roundw
          case rel =>
            refine ⟨k + 1, by omega, by go_num, HO1.out hpk, Four.other (Four.other (Four.other (Four.other G0 (by omega) _ _) (by omega) _ _) (by omega) _ _) (by omega) _ _, ?_, by simp; omega, by go_grown⟩
            simp only [sel, show decide (0 < k + 1) = true by simp, if_true]
            exact Four.set G1 _ _ _ _
          case measure => simp [intOf]; omega
    · obtain rfl : k = n := by omega
      obtain ⟨r0, r1, r2, r3, rf⟩ := F0
      obtain ⟨b0, b1, b2, b3, bf⟩ := F1
      go_wp2
      refine bodyPost_ret (by simp [results, Try.results82, go_sem, *]; try rfl) rfl ?_
      refine ⟨?_, by go_grown⟩
      by_cases hk0 : k = 0
      · subst hk0; exact boxof_zero X Y
      · have := boxof_good (n := k) (X := X) (Y := Y) (by omega) HO.out
        simpa [sel, show 0 < k by omega] using this
end Go.Proofs.Ytejnfdpckipbeaa.Pts
namespace Go.Proofs.Ytejnfdpckipbeaa.Ins
open Go.ChangeShapes Go.WideShapes Go.ChangeAt Go.RowKit
open Kit Point Slabs
set_option linter.unusedVariables false
set_option linter.unusedSimpArgs false
set_option linter.unnecessarySimpa false
def shB (d p : Pt) : Bool := pokB p.1 p.2 && pokB (p.1 + d.1) (p.2 + d.2)
def shV (l : List Pt) (d : Pt) : List Pt := if inB d.1 && inB d.2 && l.all (shB d) then l.map (mv d) else []
def cellsP (l : List Pt) : List Value := l.flatMap fun p => [.int .i64 p.1, .int .i64 p.2]
theorem cellsP_snoc (l : List Pt) (p : Pt) : cellsP (l ++ [p]) = cellsP l ++ [.int .i64 p.1, .int .i64 p.2] := by simp [cellsP]
theorem shV_bad {l : List Pt} {d : Pt} {k : Nat} (hk : k < l.length) (h : shB d l[k] = false) : shV l d = [] := by
  have : l.all (shB d) = false := by rw [List.all_eq_false]; exact ⟨l[k], List.getElem_mem hk, by simp [h]⟩
  simp [shV, this]
theorem shV_good {l : List Pt} {d : Pt} (h1 : inB d.1 = true) (h2 : inB d.2 = true) (h : ∀ k (hk : k < l.length), shB d l[k] = true) : shV l d = l.map (mv d) := by
  have : l.all (shB d) = true := by
    rw [List.all_eq_true]; intro p hp
    obtain ⟨k, hk, rfl⟩ := List.getElem_of_mem hp
    exact h k hk
  simp [shV, this, h1, h2]
theorem shV_far {l : List Pt} {d : Pt} (h : (inB d.1 && inB d.2) = false) : shV l d = [] := by simp [shV, h]
theorem owns_below {w w' : World} {base : Nat} {e : TypeId} {size : Nat} {v : Value} {n : Nat} {xs : List Value} (h : w.ownsRow base e size v n xs) (hb : Below w.heap.size w w') : w'.ownsRow base e size v n xs :=
  h.kept (row := none) ⟨hb.os, hb.tape, hb.output, hb.size, fun k hk _ => hb.block k hk⟩ (by cases v.ownBlock <;> simp)
theorem take_mv (l : List Pt) (d : Pt) {k : Nat} (h : k < l.length) : (l.take (k + 1)).map (mv d) = (l.take k).map (mv d) ++ [mv d l[k]] := by
  rw [List.take_add_one, List.getElem?_eq_getElem h, List.map_append]; rfl
theorem info_pt8 : (Try.prog.info? 89).map (fun i => (i.zero, i.size, i.bytes)) = some (some (.agg #[.int .i64 0, .int .i64 0]), 2, 16) := by kernel_rfl
def ShIs (w : World) (m : List Pt) (e : Ending) (w' : World) : Prop := ∃ v, e = .returned v ∧ w'.ownsRow w.heap.size 89 2 v m.length (cellsP m) ∧ v ≠ .slice none 0 0 ∧ Below w.heap.size w w'
theorem sh_none (w W : World) (h : Below w.heap.size w W) : ShIs w [] (.returned (.slice (some ⟨W.heap.size, 0, none⟩) 0 0)) (W.alloc (.cells #[] 89)) := by
  refine ⟨_, rfl, ?_, by simp, h.alloc h.size _⟩
  exact World.ownsRow_made W #[] (e := 89) (size := 2) 0 h.size (by decide) (by simp)
set_option maxHeartbeats 2000000 in
theorem shift_spec (w : World) (a : Option Addr) (c : Nat) (l : List Pt) (dx dy : Int) (hn : l.length ≤ 1048576) (h : PathAt w a l) :
    Calls Try.prog 91 #[.slice a l.length c, .int .i64 dx, .int .i64 dy] w (ShIs w (shV l (dx, dy))) := by
  obtain ⟨i0, hi0, hz0, hz1, hz2⟩ := info_parts info_pt8
  have HP := Lib.hid h
  obtain ⟨n, hN⟩ : ∃ n, l.length = n := ⟨_, rfl⟩
  have H := Lib.hid (And.intro h (And.intro hn hN))
  rw [hN] at hn ⊢
  clear h hN
  have ho0 := World.ownsRow_made w #[] (e := 89) (size := 2) 0 (Nat.le_refl _) (by decide) (by simp)
  have HO0 := Lib.hid ho0
  clear ho0
  rcases (show inB dx = false ∨ (inB dx = true ∧ inB dy = false) ∨ (inB dx = true ∧ inB dy = true) by cases inB dx <;> cases inB dy <;> simp) with h1 | ⟨h1, h2⟩ | ⟨h1, h2⟩
  · rw [shV_far (by simp [h1])]
    go_enter Try.func91, Try.ntmps91
    go_wp2_with (go_at_call 89; refine (in2_any _ _).mono ?_; rintro e w' ⟨rfl, rfl⟩)
    go_ret
    exact sh_none w w (Below.refl _ _)
  · rw [shV_far (by simp [h1, h2])]
    go_enter Try.func91, Try.ntmps91
    go_wp2_with (go_at_call 89; refine (in2_any _ _).mono ?_; rintro e w' ⟨rfl, rfl⟩)
    go_ret
    exact sh_none w w (Below.refl _ _)
  · have HD := Lib.hid (And.intro h1 h2)
    go_enter Try.func91, Try.ntmps91
    go_wp2_with (go_at_call 89; refine (in2_any _ _).mono ?_; rintro e w' ⟨rfl, rfl⟩)
    have d1 := inB_true h1
    have d2 := inB_true h2
    clear h1 h2
    go_loopw [7, 8] (fun v7 v8 wr => ∃ k : Nat, k ≤ n ∧ v8 = .int .i64 (k : Int) ∧ wr.ownsRow w.heap.size 89 2 v7 k (cellsP ((l.take k).map (mv (dx, dy)))) ∧ v7 ≠ .slice none 0 0 ∧ Hid (∀ i (hi : i < l.length), i < k → shB (dx, dy) l[i] = true) ∧ Below w.heap.size w wr) (fun v7 v8 _ => n - (intOf v8).toNat)
    case atStart => exact ⟨0, Nat.zero_le _, rfl, HO0.out, by simp, Lib.hid (fun i _ hi => absurd hi (Nat.not_lt_zero i)), (Below.refl _ _).alloc (Nat.le_refl _) _⟩
    case round =>
      obtain ⟨k, hk, rfl, hown, hne, hall, hB⟩ := hrel
      by_cases hlt : k < n
      · have hP := HP.out.on hB
        rcases hP with he | ⟨g, rfl, hlg, hc⟩
        · have := H.out.2.2; rw [he] at this; simp at this; omega
        · have hkl : k < l.length := by rw [H.out.2.2]; exact hlt
          obtain ⟨q1, q2⟩ := hc k hkl
          have hget := getp l hkl
          generalize pX l k = ax at q1 hget
          generalize pY l k = ay at q2 hget
          have HG := Lib.hid hget
          have HQ := Lib.hid (And.intro hown hne)
          have HB := Lib.hid hB
          have i0' : (0 : Int) ≤ (k : Int) := by omega
          have i1 : (k : Int) < (n : Int) := by omega
          clear hget hc hown hne hB
          have z1 : Below w.heap.size w wr.drew := HB.out.trans ⟨rfl, rfl, rfl, Nat.le_refl _, fun _ _ => rfl⟩
          have hqo : wr.drew.ownsRow w.heap.size 89 2 u7 k (cellsP ((l.take k).map (mv (dx, dy)))) := HQ.out.1
          have hlg1 : g < wr.drew.heap.size := hlg
          have q1 : wr.drew.cell? ⟨g, k * 2, none⟩ = some (.int .i64 ax) := q1
          have q2 : wr.drew.cell? ⟨g, k * 2 + 1, none⟩ = some (.int .i64 ay) := q2
          have HZ := Lib.hid (And.intro z1 (And.intro hqo (And.intro HQ.out.2 hlg1)))
          clear z1 hqo
          cases hpk : pokB ax ay
          · have HK := Lib.hid hpk
            clear hpk
            go_upto_region 7 with (fail)
            go_region
            go_wp2_with fail
            ((with_reducible refine (pok_spec ax ay _).mono ?_); rintro e w1 ⟨rfl, bb⟩)
            have HB1 := Lib.hid (on_of (HZ.out.1.alloc HZ.out.1.size _) bb)
            rw [HK.out]
            clear bb
            go_wp2
            go_ret
            rw [shV_bad hkl (by rw [HG.out]; simp [shB, HK.out])]
            exact sh_none w w1 HB1.out
          · have HK := Lib.hid hpk
            simp only [pokB, Bool.and_eq_true] at hpk
            have b1 := inB_true hpk.1
            have b2 := inB_true hpk.2
            clear hpk
            go_upto_region 7 with (fail)
            go_region
            go_wp2_with fail
            ((with_reducible refine (pok_spec ax ay _).mono ?_); rintro e w1 ⟨rfl, bb⟩)
            have e0 := (bcell bb).1 wr.heap.size 0 (by simp)
            have e1 := (bcell bb).1 wr.heap.size 1 (by simp)
            have hp0 : w1.cell? ⟨wr.heap.size, 0, none⟩ = some (.int .i64 (ax + dx)) := by rw [e0]; simp [go_sem]
            have hp1 : w1.cell? ⟨wr.heap.size, 1, none⟩ = some (.int .i64 (ay + dy)) := by rw [e1]; simp [go_sem]
            have hs1 : wr.heap.size < w1.heap.size := by have := bb.size; simp at this; omega
            have hwr : Below wr.heap.size wr w1 := on_of (((Below.refl _ _).alloc (Nat.le_refl _) _).drew) bb
            have HW1 := Lib.hid (And.intro hwr (And.intro hp0 hp1))
            rw [HK.out]
            clear bb e0 e1 hwr
            generalize wr.heap.size = b at hp0 hp1 hs1 ⊢
            cases hpq : pokB (ax + dx) (ay + dy)
            · have HKq := Lib.hid hpq
              clear hpq
              go_wp2_with fail
              ((with_reducible refine (pok_spec (ax + dx) (ay + dy) _).mono ?_); rintro e w2 ⟨rfl, bb⟩)
              have HB2 := Lib.hid (on_of (HB.out.trans (HW1.out.1.mono HB.out.size)) bb)
              rw [HKq.out]
              clear bb
              go_wp2
              go_ret
              rw [shV_bad hkl (by rw [HG.out]; simp [shB, HK.out, HKq.out])]
              exact sh_none w w2 HB2.out
            · have HKq := Lib.hid hpq
              clear hpq
              go_wp2_with fail
              ((with_reducible refine (pok_spec (ax + dx) (ay + dy) _).mono ?_); rintro e w2 ⟨rfl, bb⟩)
              have g0 := (bcell bb).1 b 0 hs1
              have g1 := (bcell bb).1 b 1 hs1
              rw [hp0] at g0
              rw [hp1] at g1
              have hs2 : b < w2.heap.size := Nat.lt_of_lt_of_le hs1 bb.size
              have hW2 := on_of HW1.out.1 bb
              have hB2 := HB.out.trans (hW2.mono HB.out.size)
              have hown := owns_below HQ.out.1 hW2
              have HX := Lib.hid (And.intro hB2 hown)
              rw [HKq.out]
              clear bb hp0 hp1 hs1 hW2 hB2 hown
              have hnn : w.heap.size ≤ w2.heap.size := HX.out.1.size
              go_wp2_with (at_builtin; refine wpList_append_own _ rfl _ _ 24 rfl w.heap.size 89 i0 (.agg #[.int .i64 0, .int .i64 0]) 2 16 Try.underlying24 hi0 hz0 hz1 hz2 rfl (by decide) _ _ _ rfl (HX.out.2.alloc _) ⟨w2.heap.size, 0, none⟩ 1 1 [.int .i64 (ax + dx), .int .i64 (ay + dy)] rfl rfl (World.news_of_block (cs := #[.int .i64 (ax + dx), .int .i64 (ay + dy)]) (t := 89) (fr := (0, 0)) (heap_alloc_new w2 _)) ?c2 ?c3 ?c4 ?c5 ?_)
              case c2 => simp [Value.oneCell']
              case c3 => unfold maxLen; omega
              case c4 => omega
              case c5 => simp; omega
              intro v2 w3 hown2 hgrow hnil
              have hne2 : v2 ≠ .slice none 0 0 := hnil
              have hB3 : Below w.heap.size w w3 := (HX.out.1.alloc hnn _).grown hgrow (by simp; omega) (fun p hp => ((HX.out.2.alloc (.cells #[.int .i64 (ax + dx), .int .i64 (ay + dy)] 89)).lt p hp).1)
              have hown3 : w3.ownsRow w.heap.size 89 2 v2 (k + 1) (cellsP ((l.take (k + 1)).map (mv (dx, dy)))) := by
                rw [take_mv l _ hkl, HG.out, cellsP_snoc, List.map_take]; exact hown2
              have H3 := Lib.hid (And.intro hown3 (And.intro hne2 hB3))
              have hall2 : Hid (∀ i (hi : i < l.length), i < k + 1 → shB (dx, dy) l[i] = true) := Lib.hid (fun i hi hik => by
                by_cases e : i = k
                · subst e; rw [HG.out]; simp [shB, HK.out, HKq.out]
                · exact hall.out i hi (by omega))
              clear hown2 hown3 hgrow hB3 hnil hne2 g0 g1
              go_wp2
              go_roundw
              case rel => exact ⟨k + 1, by omega, by go_num, H3.out.1, H3.out.2.1, hall2, H3.out.2.2⟩
              case measure => simp [intOf]; omega
      · obtain rfl : k = n := by omega
        have HQ := Lib.hid (And.intro hown (And.intro hne hB))
        clear hown hne hB
        go_wp2
        go_ret
        rw [shV_good HD.out.1 HD.out.2 (fun i hi => hall.out i hi (by rw [← H.out.2.2]; exact hi))]
        refine ⟨_, rfl, ?_, HQ.out.2.1, HQ.out.2.2⟩
        have := HQ.out.1
        rw [List.take_of_length_le (by rw [H.out.2.2]; omega)] at this
        rw [List.length_map, H.out.2.2]; exact this
end Go.Proofs.Ytejnfdpckipbeaa.Ins
