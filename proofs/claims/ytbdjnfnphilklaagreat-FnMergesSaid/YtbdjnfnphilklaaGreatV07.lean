/-
  Texts of this seat, laid together: Row, StK9, Cr8, Ins8, Inp8, Sh8, Spans
-/
import Derived.Test.YtbdjnfnphilklaaGreatRows
import Derived.WalkKit
import Derived.ProofKit
import Derived.OpenShut
import Derived.Below
import Derived.StillTailTactics
import Derived.Deep.QuietTactic
import Derived.BigQuiet
import Derived.Deep.RegionHeld3
import Derived.IntWalk
import Derived.Deep.Cut
import Derived.Deep.AppendLies
import Derived.Laws.MakeOwn
import Derived.Laws.Entries
import Derived.Test.YtbdjnfnphilklaaGreatV01
import Derived.Test.YtbdjnfnphilklaaGreatV04
import Derived.Test.YtbdjnfnphilklaaGreatV03
import Derived.Test.YtbdjnfnphilklaaGreatV02
namespace Go.Proofs.YtbdjnfnphilklaaGreat.Draw
open Go.ChangeShapes Go.WideShapes Go.ChangeAt Go.RowKit
set_option linter.unusedVariables false
def IsRow (k : IntKind) (w : World) (a : Option Addr) (len cap : Nat) (zs : List Int) : Prop :=
  (a = none ∧ len = 0 ∧ cap = 0 ∧ zs = []) ∨
  ∃ x, a = some x ∧ len ≤ cap ∧ cap ≤ maxLen ∧ zs.length = cap ∧ (∀ i, i < zs.length → w.cell? (x.add i) = some (.int k (zs.getD i 0))) ∧ ∀ n ∈ zs, (Lit.int k n).wf = true
end Go.Proofs.YtbdjnfnphilklaaGreat.Draw
namespace Go.Proofs.YtbdjnfnphilklaaGreat.Ins
open Go.ChangeShapes Go.WideShapes Go.ChangeAt Go.RowKit
set_option linter.unusedVariables false
set_option linter.unusedSimpArgs false
set_option linter.unnecessarySimpa false
theorem region_reads {P : Program} {id : Nat} {Q : Exit → Act → World → Prop} {a : Act} {w : World} {l : List Oper} (F : World → Prop) (hm : P.follows .mixedOrders = true) (hB : Region.lexB .any l.toArray = true)
    (hF : F w.drew) (h : ∀ wd, F wd → wpStill P l.toArray wd (fun b => Q .normal b wd) l a) : (Code.region id l.toArray true).wp P Q a w :=
  wp_region_still_lit hm hB (h w.drew hF)
theorem gen_any9 {p : World → Prop} {w : World} (F : World → Prop) (hF : F w) (h : ∀ W, F W → p W) : p w := h w hF
theorem drew_on {w wr : World} (h : Below w.heap.size w wr) : Below w.heap.size w wr.drew := h.trans ⟨rfl, rfl, rfl, Nat.le_refl _, fun _ _ => rfl⟩
theorem drewN_on {w wr : World} (h : Below w.heap.size w wr) (q : Nat) : Below w.heap.size w (wr.drewN q) := h.trans ⟨rfl, rfl, rfl, Nat.le_refl _, fun _ _ => rfl⟩
end Go.Proofs.YtbdjnfnphilklaaGreat.Ins
namespace Go.Proofs.YtbdjnfnphilklaaGreat.Ins
open Go.ChangeShapes Go.WideShapes Go.ChangeAt Go.RowKit
open Kit Point
set_option linter.unusedVariables false
set_option linter.unusedSimpArgs false
set_option linter.unnecessarySimpa false
theorem mul_bd {a b A B : Int} (ha : -A ≤ a ∧ a ≤ A) (hb : -B ≤ b ∧ b ≤ B) : -(A * B) ≤ a * b ∧ a * b ≤ A * B := by
  have hA : 0 ≤ A := by omega
  have hB : 0 ≤ B := by omega
  have n1 : a.natAbs ≤ A.toNat := by omega
  have n2 : b.natAbs ≤ B.toNat := by omega
  have n3 := Nat.mul_le_mul n1 n2
  rw [← Int.natAbs_mul] at n3
  have n4 : ((A.toNat * B.toNat : Nat) : Int) = A * B := by rw [Int.natCast_mul, Int.toNat_of_nonneg hA, Int.toNat_of_nonneg hB]
  have n5 : (((a * b).natAbs : Nat) : Int) ≤ A * B := by rw [← n4]; exact_mod_cast n3
  omega
set_option maxHeartbeats 1000000 in
theorem cr_spec (ax ay bx b1 x y : Int) (w : World) (ha : pokB ax ay = true) (hb : pokB bx b1 = true) (hx : inB x = true) (hy : inB y = true) :
    Calls Tryz.prog 137 #[.agg #[.int .i64 ax, .int .i64 ay], .agg #[.int .i64 bx, .int .i64 b1], .int .i64 x, .int .i64 y] w fun e w' => e = .returned (.bool (crs (ax, ay) (bx, b1) x y)) ∧ Below w.heap.size w w' := by
  simp only [pokB, Bool.and_eq_true] at ha hb
  obtain ⟨a0, a1⟩ := ha
  obtain ⟨c0, c1⟩ := hb
  have a2 := inB_true a0; have a3 := inB_true a1; have c2 := inB_true c0; have c3 := inB_true c1; have x2 := inB_true hx; have y2 := inB_true hy
  clear a0 a1 c0 c1 hx hy
  obtain ⟨m0, m1⟩ := @mul_bd ((2 * x + 1 - 2 * ax) * 2) (b1 - ay) 1602 400 (by omega) (by omega)
  obtain ⟨m2, m3⟩ := @mul_bd ((2 * y + 1 - 2 * ay) * 2) (bx - ax) 1602 400 (by omega) (by omega)
  obtain ⟨m4, m5⟩ := @mul_bd ((2 * x + 1 - 2 * bx) * 2) (ay - b1) 1602 400 (by omega) (by omega)
  obtain ⟨m6, m7⟩ := @mul_bd ((2 * y + 1 - 2 * b1) * 2) (ax - bx) 1602 400 (by omega) (by omega)
  by_cases h : (decide (2 * y + 1 < 2 * ay) == decide (2 * y + 1 < 2 * b1)) = true
  · go_enter Tryz.func137, Tryz.ntmps137
    go_wp2
    go_ret
    exact ⟨ret_bool (by unfold crs; rw [if_pos h]), by go_grown⟩
  · have h' : (decide (2 * y + 1 < 2 * ay) == decide (2 * y + 1 < 2 * b1)) = false := by simpa using h
    by_cases hl : b1 < ay
    · go_enter Tryz.func137, Tryz.ntmps137
      go_wp2
      go_ret
      exact ⟨ret_bool (by unfold crs; rw [if_neg h, if_pos hl]), by go_grown⟩
    · have hl' : ay ≤ b1 := by omega
      go_enter Tryz.func137, Tryz.ntmps137
      go_wp2
      go_ret
      exact ⟨ret_bool (by unfold crs; rw [if_neg h, if_neg (by omega)]), by go_grown⟩
end Go.Proofs.YtbdjnfnphilklaaGreat.Ins
namespace Go.Proofs.YtbdjnfnphilklaaGreat.Ins
open Go.ChangeShapes Go.WideShapes Go.ChangeAt Go.RowKit
open Kit Point
set_option linter.unusedVariables false
set_option linter.unusedSimpArgs false
set_option linter.unnecessarySimpa false
def insK (l : List Pt) (x y : Int) (k : Nat) : Bool := odd (((sides l).take k).map fun s => crs s.1 s.2 x y)
theorem insK_zero (l : List Pt) (x y : Int) : insK l x y 0 = false := by simp [insK, odd]
theorem insK_all (l : List Pt) (x y : Int) : insK l x y l.length = insP l x y := by
  unfold insK insP; rw [List.take_of_length_le (by rw [sides_len]; omega)]
theorem getp (l : List Pt) {k : Nat} (h : k < l.length) : l[k] = (pX l k, pY l k) := by
  simp [pX, pY, List.getD, List.getElem?_eq_getElem h]
theorem insK_succ (l : List Pt) (x y : Int) {k : Nat} (h : k < l.length) :
    insK l x y (k + 1) = (insK l x y k != crs (pX l k, pY l k) (pX l ((k + 1) % l.length), pY l ((k + 1) % l.length)) x y) := by
  unfold insK
  rw [List.take_add_one, sides_get l k h, List.map_append, odd_app]
  rw [getp l h, getp l (Nat.mod_lt (k + 1) (by omega))]
  simp [odd]
theorem ptsB_at {l : List Pt} (h : ptsB l = true) {k : Nat} (hk : k < l.length) : pokB (pX l k) (pY l k) = true := by
  rw [ptsB, List.all_eq_true] at h
  have := h _ (List.getElem_mem hk)
  rwa [getp l hk] at this
set_option maxRecDepth 100000 in
set_option maxHeartbeats 1000000 in
theorem in_spec (w : World) (a : Option Addr) (c : Nat) (l : List Pt) (x y : Int) (hn : l.length ≤ 1048576) (h : PathAt w a l) (hok : ptsB l = true) (hx : inB x = true) (hy : inB y = true) :
    Calls Tryz.prog 129 #[.slice a l.length c, .int .i64 x, .int .i64 y] w fun e w' => e = .returned (.bool (insP l x y)) ∧ Below w.heap.size w w' := by
  have HP := Lib.hid h
  have HO := Lib.hid (And.intro hok (And.intro hx hy))
  clear hok hx hy
  rcases h with rfl | ⟨g, rfl, hg, _⟩
  · go_enter Tryz.func129, Tryz.ntmps129
    go_wp2
    go_rounds 1
    go_ret
    exact ⟨rfl, Below.refl _ _⟩
  · obtain ⟨n, hN⟩ : ∃ n, l.length = n := ⟨_, rfl⟩
    have HN := Lib.hid hN
    rw [hN] at hn ⊢
    clear hN
    go_enter Tryz.func129, Tryz.ntmps129
    go_wp2
    go_loopw [7, 8] (fun v7 v8 wr => ∃ k : Nat, k ≤ n ∧ v8 = .int .i64 (k : Int) ∧ v7 = .bool (insK l x y k) ∧ Below w.heap.size w wr) (fun v7 v8 _ => n - (intOf v8).toNat)
    case atStart => exact ⟨0, Nat.zero_le _, rfl, by rw [insK_zero], Below.refl _ _⟩
    case round =>
      obtain ⟨k, hk, rfl, rfl, hB⟩ := hrel
      by_cases hlt : k < n
      · have hP := HP.out.on hB
        rcases hP with he | ⟨g', hg', hlg, hc⟩
        · have := HN.out; rw [he] at this; simp at this; omega
        · injection hg' with hg'
          injection hg' with hg'
          subst hg'
          obtain ⟨m, hm⟩ : ∃ m, (k + 1) % n = m := ⟨_, rfl⟩
          have hmn : m < n := by rw [← hm]; exact Nat.mod_lt _ (by omega)
          obtain ⟨q1, q2⟩ := hc k (by rw [HN.out]; exact hlt)
          obtain ⟨q3, q4⟩ := hc m (by rw [HN.out]; exact hmn)
          have hp1 := ptsB_at HO.out.1 (k := k) (by rw [HN.out]; exact hlt)
          have hp2 := ptsB_at HO.out.1 (k := m) (by rw [HN.out]; exact hmn)
          have hs := insK_succ l x y (k := k) (by rw [HN.out]; exact hlt)
          rw [HN.out, hm] at hs
          generalize pX l k = ax at q1 hp1 hs
          generalize pY l k = ay at q2 hp1 hs
          generalize pX l m = bx at q3 hp2 hs
          generalize pY l m = b1 at q4 hp2 hs
          have HS := Lib.hid hs
          have HQ := Lib.hid (And.intro hp1 hp2)
          clear hs hp1 hp2 hc
          have i0 : (0 : Int) ≤ (k : Int) := by omega
          have i1 : (k : Int) < (n : Int) := by omega
          have i2 : (0 : Int) ≤ (m : Int) := by omega
          have i3 : (m : Int) < (n : Int) := by omega
          have hn0 : ¬ n = 0 := by omega
          have j1 : IntKind.i64.wrap ((k : Int) + 1) = (k : Int) + 1 := IntWalk.i64_in _ (by omega)
          have j2 : ((k : Int) + 1).tmod (n : Int) = (m : Int) := by
            rw [← hm, show ((k : Int) + 1) = ((k + 1 : Nat) : Int) by omega, Int.ofNat_tmod]
          have j3 : IntKind.i64.wrap (m : Int) = (m : Int) := IntWalk.i64_in _ (by omega)
          have HB := Lib.hid hB
          clear hB hm
          go_upto_region 5 with (fail)
          refine wp_region_still_tail 14 (by kernel_rfl) (by kernel_rfl) ?_
          change wpStill _ _ wr.drew (fun a' => wpList _ _ _ _ a' wr.drew) _ _
          have z1 : Below w.heap.size w wr.drew := HB.out.trans ⟨rfl, rfl, rfl, Nat.le_refl _, fun _ _ => rfl⟩
          have hlg : g < wr.drew.heap.size := hlg
          have q1 : wr.drew.cell? ⟨g, k * 2, none⟩ = some (.int .i64 ax) := q1
          have q2 : wr.drew.cell? ⟨g, k * 2 + 1, none⟩ = some (.int .i64 ay) := q2
          have q3 : wr.drew.cell? ⟨g, m * 2, none⟩ = some (.int .i64 bx) := q3
          have q4 : wr.drew.cell? ⟨g, m * 2 + 1, none⟩ = some (.int .i64 b1) := q4
          have HZ := Lib.hid z1
          clear z1
          generalize wr.drew = wd at *
          simp only [List.take_succ_cons, List.take_zero, List.drop_succ_cons, List.drop_zero]
          repeat still_step
          refine wpStill_nil ?_
          clear i0 i1 i2 i3 hn0 j1 j2 j3
          go_wp2_with fail
          ((with_reducible refine (cr_spec ax ay bx b1 x y _ HQ.out.1 HQ.out.2 HO.out.2.1 HO.out.2.2).mono ?_); rintro e w1 ⟨rfl, bb⟩)
          have hB1 := on_of HZ.out bb
          have HB1 := Lib.hid hB1
          clear hB1 bb q1 q2 q3 q4
          generalize crs (ax, ay) (bx, b1) x y = r at *
          cases r
          · have e := HS.out
            simp only [Bool.bne_false] at e
            rw [← e]
            have i1 : (k : Int) < (n : Int) := by omega
            clear e
            go_wp2
            go_roundw
            case rel => exact ⟨k + 1, by omega, by go_num, rfl, HB1.out⟩
            case measure => simp [intOf]; omega
          · have e : insK l x y (k + 1) = !(insK l x y k) := by rw [HS.out]; simp
            have HE := Lib.hid e
            clear e
            generalize insK l x y k = b at *
            have i1 : (k : Int) < (n : Int) := by omega
            go_wp2
            go_roundw
            case rel => exact ⟨k + 1, by omega, by go_num, by rw [HE.out], HB1.out⟩
            case measure => simp [intOf]; omega
      · obtain rfl : k = n := by omega
        have HB := Lib.hid hB
        clear hB
        go_wp2
        go_ret
        exact ⟨ret_bool (by rw [← HN.out, insK_all]), HB.out⟩
end Go.Proofs.YtbdjnfnphilklaaGreat.Ins
namespace Go.Proofs.YtbdjnfnphilklaaGreat.Ins
open Go.ChangeShapes Go.WideShapes Go.ChangeAt Go.RowKit
open Kit Point
set_option linter.unusedVariables false
set_option linter.unusedSimpArgs false
set_option linter.unnecessarySimpa false
def inpB (l : List Pt) (x y : Int) : Bool := pathB l && inB x && inB y && insP l x y
theorem three3 (a b c : Bool) : a = false ∨ (a = true ∧ b = false) ∨ (a = true ∧ b = true ∧ c = false) ∨ (a = true ∧ b = true ∧ c = true) := by
  cases a <;> cases b <;> cases c <;> simp
end Go.Proofs.YtbdjnfnphilklaaGreat.Ins
namespace Go.Proofs.YtbdjnfnphilklaaGreat.Ins
open Go.ChangeShapes Go.WideShapes Go.ChangeAt Go.RowKit
open Kit Point Slabs
set_option linter.unusedVariables false
set_option linter.unusedSimpArgs false
set_option linter.unnecessarySimpa false
def shB (d p : Pt) : Bool := pokB p.1 p.2 && pokB (p.1 + d.1) (p.2 + d.2)
def shV (l : List Pt) (d : Pt) : List Pt := if inB d.1 && inB d.2 && l.all (shB d) then l.map (mv d) else []
def cellsP (l : List Pt) : List Value := l.flatMap fun p => [.int .i64 p.1, .int .i64 p.2]
theorem cellsP_snoc (l : List Pt) (p : Pt) : cellsP (l ++ [p]) = cellsP l ++ [.int .i64 p.1, .int .i64 p.2] := by simp [cellsP]
theorem shV_bad {l : List Pt} {d : Pt} {k : Nat} (hk : k < l.length) (h : shB d l[k] = false) : shV l d = [] := by
  have : l.all (shB d) = false := by rw [List.all_eq_false]; exact ⟨l[k], List.getElem_mem hk, by simp [h]⟩
  simp [shV, this]
theorem shV_good {l : List Pt} {d : Pt} (h1 : inB d.1 = true) (h2 : inB d.2 = true) (h : ∀ k (hk : k < l.length), shB d l[k] = true) : shV l d = l.map (mv d) := by
  have : l.all (shB d) = true := by
    rw [List.all_eq_true]; intro p hp
    obtain ⟨k, hk, rfl⟩ := List.getElem_of_mem hp
    exact h k hk
  simp [shV, this, h1, h2]
theorem shV_far {l : List Pt} {d : Pt} (h : (inB d.1 && inB d.2) = false) : shV l d = [] := by simp [shV, h]
theorem owns_below {w w' : World} {base : Nat} {e : TypeId} {size : Nat} {v : Value} {n : Nat} {xs : List Value} (h : w.ownsRow base e size v n xs) (hb : Below w.heap.size w w') : w'.ownsRow base e size v n xs :=
  h.kept (row := none) ⟨hb.os, hb.tape, hb.output, hb.size, fun k hk _ => hb.block k hk⟩ (by cases v.ownBlock <;> simp)
theorem take_mv (l : List Pt) (d : Pt) {k : Nat} (h : k < l.length) : (l.take (k + 1)).map (mv d) = (l.take k).map (mv d) ++ [mv d l[k]] := by
  rw [List.take_add_one, List.getElem?_eq_getElem h, List.map_append]; rfl
theorem info_pt8 : (Tryz.prog.info? 110).map (fun i => (i.zero, i.size, i.bytes)) = some (some (.agg #[.int .i64 0, .int .i64 0]), 2, 16) := by kernel_rfl
def ShIs (w : World) (m : List Pt) (e : Ending) (w' : World) : Prop := ∃ v, e = .returned v ∧ w'.ownsRow w.heap.size 110 2 v m.length (cellsP m) ∧ v ≠ .slice none 0 0 ∧ Below w.heap.size w w'
theorem sh_none (w W : World) (h : Below w.heap.size w W) : ShIs w [] (.returned (.slice (some ⟨W.heap.size, 0, none⟩) 0 0)) (W.alloc (.cells #[] 110)) := by
  refine ⟨_, rfl, ?_, by simp, h.alloc h.size _⟩
  exact World.ownsRow_made W #[] (e := 110) (size := 2) 0 h.size (by decide) (by simp)
end Go.Proofs.YtbdjnfnphilklaaGreat.Ins
namespace Go.Proofs.YtbdjnfnphilklaaGreat.Spans
open Go.ChangeShapes Go.WideShapes Go.ChangeAt Go.RowKit
open Kit Slabs Recs Marking
set_option linter.unusedVariables false
set_option linter.unusedSimpArgs false
set_option linter.unnecessarySimpa false
def Shape (F : Nat → List Value) (n : Nat) : Prop := ∀ i, i < n → ∃ (x0 : Int) (x1 : Int), F i = [.int .i64 x0, .int .i64 x1]
theorem cells_of {w : World} {g n : Nat} {F : Nat → List Value} (h : ∀ i, i < n → ∀ j u, (F i)[j]? = some u → w.cell? ⟨g, i * 2 + j, none⟩ = some u) {i : Nat} (hi : i < n) {x0 : Int} {x1 : Int} (e : F i = [.int .i64 x0, .int .i64 x1]) : w.cell? ⟨g, i * 2, none⟩ = some (.int .i64 x0) ∧ w.cell? ⟨g, i * 2 + 1, none⟩ = some (.int .i64 x1) := by
  have h0 := h i hi
  rw [e] at h0
  exact ⟨by simpa using h0 0 _ rfl, by simpa using h0 1 _ rfl⟩
def kl : List FK := [.int .i64, .int .i64]
theorem rec_at {w : World} {a : Option Addr} {n cap : Nat} {z : Nat → Nat → Value} (h : IsRecs kl w a n cap z) {i : Nat} (hi : i < n) : ∃ (x0 : Int) (x1 : Int), z i 0 = .int .i64 x0 ∧ z i 1 = .int .i64 x1 := by
  obtain ⟨_, _, h | ⟨g, o, _, _, h⟩⟩ := h
  · omega
  · obtain ⟨x0, e0, _⟩ := (h i hi 0 _ rfl).2
    obtain ⟨x1, e1, _⟩ := (h i hi 1 _ rfl).2
    exact ⟨x0, x1, e0, e1⟩
theorem rec_shape {w : World} {a : Option Addr} {n cap : Nat} {z : Nat → Nat → Value} (h : IsRecs kl w a n cap z) : Shape (fun i => [z i 0, z i 1]) n := by
  intro i hi
  obtain ⟨x0, x1, e0, e1⟩ := rec_at h hi
  exact ⟨x0, x1, by simp only [e0, e1]⟩
theorem rec_cells {w : World} {g o n : Nat} {z : Nat → Nat → Value} (h : ∀ i, i < n → ∀ j kd, kl[j]? = some kd → w.cell? ⟨g, o + (i * kl.length + j), none⟩ = some (z i j) ∧ kd.fits (z i j)) {i : Nat} (hi : i < n) : w.cell? ⟨g, o + i * 2, none⟩ = some (z i 0) ∧ w.cell? ⟨g, o + i * 2 + 1, none⟩ = some (z i 1) :=
  ⟨(h i hi 0 _ rfl).1, (h i hi 1 _ rfl).1⟩
theorem zero_at (n i j : Nat) (u : Value) (hi : i < n) (hu : ([.int .i64 0, .int .i64 0] : List Value)[j]? = some u) : (madeCells #[.int .i64 0, .int .i64 0] (n * 2))[i * 2 + j]? = some u := by
  have hj : j < 2 := by have := (List.getElem?_eq_some_iff.1 hu).1; simpa using this
  unfold madeCells
  rw [Array.getElem?_map, Array.getElem?_range, if_pos (by have := Nat.mul_le_mul_right 2 (show i + 1 ≤ n by omega); rw [Nat.succ_mul] at this; omega)]
  have h1 : (i * 2 + j) % 2 = j := by omega
  simp only [Option.map_some]
  have h2 : j = 0 ∨ j = 1 := by omega
  rcases h2 with rfl | rfl <;> (simp only [List.getElem?_cons_zero, List.getElem?_cons_succ, Option.some.injEq] at hu; subst hu; simp [h1] <;> (try simp at h1) <;> (try simp [h1]))
def marked (N i : Nat) : List Value := [.int .i64 ((N + i * 2 : Nat) : Int), .int .i64 ((N + i * 2 + 1 : Nat) : Int)]
end Go.Proofs.YtbdjnfnphilklaaGreat.Spans
