/-
  Texts of this seat, laid together: Row, Turn, StK9, Ins8, Inp8
-/
import Derived.Test.YtejnfdpckipbeaaRows
import Derived.WalkKit
import Derived.ProofKit
import Derived.OpenShut
import Derived.Below
import Derived.Deep.RegionHeld3
import Derived.Deep.CutRange
import Derived.StillTailTactics
import Derived.Deep.QuietTactic
import Derived.BigQuiet
import Derived.IntWalk
import Derived.Deep.Cut
import Derived.Test.YtejnfdpckipbeaaP02
import Derived.Test.YtejnfdpckipbeaaP01
namespace Go.Proofs.Ytejnfdpckipbeaa.Draw
open Go.ChangeShapes Go.WideShapes Go.ChangeAt Go.RowKit
set_option linter.unusedVariables false
def IsRow (k : IntKind) (w : World) (a : Option Addr) (len cap : Nat) (zs : List Int) : Prop :=
  (a = none ∧ len = 0 ∧ cap = 0 ∧ zs = []) ∨
  ∃ x, a = some x ∧ len ≤ cap ∧ cap ≤ maxLen ∧ zs.length = cap ∧ (∀ i, i < zs.length → w.cell? (x.add i) = some (.int k (zs.getD i 0))) ∧ ∀ n ∈ zs, (Lit.int k n).wf = true
end Go.Proofs.Ytejnfdpckipbeaa.Draw
namespace Go.Proofs.Ytejnfdpckipbeaa.Turn
open Go.ChangeShapes Go.WideShapes Go.ChangeAt Go.RowKit
open Kit Point
set_option linter.unusedVariables false
set_option linter.unusedSimpArgs false
set_option linter.unnecessarySimpa false
def tokB (q s dx dy : Int) : Bool := decide (0 ≤ q ∧ q ≤ 3) && decide (1 ≤ s ∧ s ≤ 4) && inB dx && inB dy
theorem tok_true {q s dx dy : Int} (h : tokB q s dx dy = true) : (0 ≤ q ∧ q ≤ 3) ∧ (1 ≤ s ∧ s ≤ 4) ∧ (-200 ≤ dx ∧ dx ≤ 200) ∧ (-200 ≤ dy ∧ dy ≤ 200) := by
  simp only [tokB, inB, Bool.and_eq_true, decide_eq_true_eq] at h; omega
/-! ### The image -/
def rotX (q x y : Int) : Int := if q = 0 then x else if q = 1 then -y else if q = 2 then -x else y
def rotY (q x y : Int) : Int := if q = 0 then y else if q = 1 then x else if q = 2 then -y else -x
theorem rot_in {q x y : Int} (B : Int) (h : -B ≤ x ∧ x ≤ B) (k : -B ≤ y ∧ y ≤ B) : (-B ≤ rotX q x y ∧ rotX q x y ≤ B) ∧ (-B ≤ rotY q x y ∧ rotY q x y ≤ B) := by
  unfold rotX rotY
  by_cases h0 : q = 0
  · simp only [h0, if_true]; omega
  · by_cases h1 : q = 1
    · simp [h1]; omega
    · by_cases h2 : q = 2
      · simp [h2]; omega
      · simp [h0, h1, h2]; omega
theorem rot_next {k : Nat} (x y : Int) (h : (k : Int) < 3) : rotX ((k + 1 : Nat) : Int) x y = -rotY (k : Int) x y ∧ rotY ((k + 1 : Nat) : Int) x y = rotX (k : Int) x y := by
  have : k = 0 ∨ k = 1 ∨ k = 2 := by omega
  rcases this with rfl | rfl | rfl <;> simp [rotX, rotY]
theorem rot_zero (x y : Int) : rotX ((0 : Nat) : Int) x y = x ∧ rotY ((0 : Nat) : Int) x y = y := by simp [rotX, rotY]
theorem scale_big {x s : Int} (h : -20000 ≤ x ∧ x ≤ 20000) (hs : 1 ≤ s ∧ s ≤ 4) : -80000 ≤ x * s ∧ x * s ≤ 80000 := by
  have : s = 1 ∨ s = 2 ∨ s = 3 ∨ s = 4 := by omega
  rcases this with rfl | rfl | rfl | rfl <;> omega
theorem scale_in {x s : Int} (h : -200 ≤ x ∧ x ≤ 200) (hs : 1 ≤ s ∧ s ≤ 4) : -800 ≤ x * s ∧ x * s ≤ 800 := by
  have : s = 1 ∨ s = 2 ∨ s = 3 ∨ s = 4 := by omega
  rcases this with rfl | rfl | rfl | rfl <;> omega
def imX (q s dx x y : Int) : Int := rotX q (x * s) (y * s) + dx
def imY (q s dy x y : Int) : Int := rotY q (x * s) (y * s) + dy
theorem ident_impl (w : World) : Calls Try.prog 65 #[] w fun e w' => e = .returned (.agg #[.int .i64 0, .int .i64 1, .int .i64 0, .int .i64 0]) ∧ Below w.heap.size w w' := by
  go_enter Try.func65, Try.ntmps65
  go_wp2
  go_returns
  exact ⟨rfl, by go_grown⟩
theorem ident_spec (w : World) : Calls Try.prog 63 #[] w fun e w' => e = .returned (.agg #[.int .i64 0, .int .i64 1, .int .i64 0, .int .i64 0]) ∧ Below w.heap.size w w' := by
  go_enter Try.func63, Try.ntmps63
  go_wp2
  go_returns
  exact ⟨rfl, by go_grown⟩
end Go.Proofs.Ytejnfdpckipbeaa.Turn
namespace Go.Proofs.Ytejnfdpckipbeaa.Ins
open Go.ChangeShapes Go.WideShapes Go.ChangeAt Go.RowKit
set_option linter.unusedVariables false
set_option linter.unusedSimpArgs false
set_option linter.unnecessarySimpa false
theorem region_reads {P : Program} {id : Nat} {Q : Exit → Act → World → Prop} {a : Act} {w : World} {l : List Oper} (F : World → Prop) (hm : P.follows .mixedOrders = true) (hB : Region.lexB .any l.toArray = true)
    (hF : F w.drew) (h : ∀ wd, F wd → wpStill P l.toArray wd (fun b => Q .normal b wd) l a) : (Code.region id l.toArray true).wp P Q a w :=
  wp_region_still_lit hm hB (h w.drew hF)
theorem gen_any9 {p : World → Prop} {w : World} (F : World → Prop) (hF : F w) (h : ∀ W, F W → p W) : p w := h w hF
theorem drew_on {w wr : World} (h : Below w.heap.size w wr) : Below w.heap.size w wr.drew := h.trans ⟨rfl, rfl, rfl, Nat.le_refl _, fun _ _ => rfl⟩
theorem drewN_on {w wr : World} (h : Below w.heap.size w wr) (q : Nat) : Below w.heap.size w (wr.drewN q) := h.trans ⟨rfl, rfl, rfl, Nat.le_refl _, fun _ _ => rfl⟩
end Go.Proofs.Ytejnfdpckipbeaa.Ins
namespace Go.Proofs.Ytejnfdpckipbeaa.Ins
open Go.ChangeShapes Go.WideShapes Go.ChangeAt Go.RowKit
open Kit Point
set_option linter.unusedVariables false
set_option linter.unusedSimpArgs false
set_option linter.unnecessarySimpa false
def insK (l : List Pt) (x y : Int) (k : Nat) : Bool := odd (((sides l).take k).map fun s => crs s.1 s.2 x y)
theorem insK_zero (l : List Pt) (x y : Int) : insK l x y 0 = false := by simp [insK, odd]
theorem insK_all (l : List Pt) (x y : Int) : insK l x y l.length = insP l x y := by
  unfold insK insP; rw [List.take_of_length_le (by rw [sides_len]; omega)]
theorem getp (l : List Pt) {k : Nat} (h : k < l.length) : l[k] = (pX l k, pY l k) := by
  simp [pX, pY, List.getD, List.getElem?_eq_getElem h]
theorem insK_succ (l : List Pt) (x y : Int) {k : Nat} (h : k < l.length) :
    insK l x y (k + 1) = (insK l x y k != crs (pX l k, pY l k) (pX l ((k + 1) % l.length), pY l ((k + 1) % l.length)) x y) := by
  unfold insK
  rw [List.take_add_one, sides_get l k h, List.map_append, odd_app]
  rw [getp l h, getp l (Nat.mod_lt (k + 1) (by omega))]
  simp [odd]
theorem ptsB_at {l : List Pt} (h : ptsB l = true) {k : Nat} (hk : k < l.length) : pokB (pX l k) (pY l k) = true := by
  rw [ptsB, List.all_eq_true] at h
  have := h _ (List.getElem_mem hk)
  rwa [getp l hk] at this
set_option maxRecDepth 100000 in
set_option maxHeartbeats 1000000 in
theorem in_spec (w : World) (a : Option Addr) (c : Nat) (l : List Pt) (x y : Int) (hn : l.length ≤ 1048576) (h : PathAt w a l) (hok : ptsB l = true) (hx : inB x = true) (hy : inB y = true) :
    Calls Try.prog 120 #[.slice a l.length c, .int .i64 x, .int .i64 y] w fun e w' => e = .returned (.bool (insP l x y)) ∧ Below w.heap.size w w' := by
  have HP := Lib.hid h
  have HO := Lib.hid (And.intro hok (And.intro hx hy))
  clear hok hx hy
  rcases h with rfl | ⟨g, rfl, hg, _⟩
  · go_enter Try.func120, Try.ntmps120
    go_wp2
    go_rounds 1
    go_ret
    exact ⟨rfl, Below.refl _ _⟩
  · obtain ⟨n, hN⟩ : ∃ n, l.length = n := ⟨_, rfl⟩
    have HN := Lib.hid hN
    rw [hN] at hn ⊢
    clear hN
    go_enter Try.func120, Try.ntmps120
    go_wp2
    go_loopw [7, 8] (fun v7 v8 wr => ∃ k : Nat, k ≤ n ∧ v8 = .int .i64 (k : Int) ∧ v7 = .bool (insK l x y k) ∧ Below w.heap.size w wr) (fun v7 v8 _ => n - (intOf v8).toNat)
    case atStart => exact ⟨0, Nat.zero_le _, rfl, by rw [insK_zero], Below.refl _ _⟩
    case round =>
      obtain ⟨k, hk, rfl, rfl, hB⟩ := hrel
      by_cases hlt : k < n
      · have hP := HP.out.on hB
        rcases hP with he | ⟨g', hg', hlg, hc⟩
        · have := HN.out; rw [he] at this; simp at this; omega
        · injection hg' with hg'
          injection hg' with hg'
          subst hg'
          obtain ⟨m, hm⟩ : ∃ m, (k + 1) % n = m := ⟨_, rfl⟩
          have hmn : m < n := by rw [← hm]; exact Nat.mod_lt _ (by omega)
          obtain ⟨q1, q2⟩ := hc k (by rw [HN.out]; exact hlt)
          obtain ⟨q3, q4⟩ := hc m (by rw [HN.out]; exact hmn)
          have hp1 := ptsB_at HO.out.1 (k := k) (by rw [HN.out]; exact hlt)
          have hp2 := ptsB_at HO.out.1 (k := m) (by rw [HN.out]; exact hmn)
          have hs := insK_succ l x y (k := k) (by rw [HN.out]; exact hlt)
          rw [HN.out, hm] at hs
          generalize pX l k = ax at q1 hp1 hs
          generalize pY l k = ay at q2 hp1 hs
          generalize pX l m = bx at q3 hp2 hs
          generalize pY l m = b1 at q4 hp2 hs
          have HS := Lib.hid hs
          have HQ := Lib.hid (And.intro hp1 hp2)
          clear hs hp1 hp2 hc
          have i0 : (0 : Int) ≤ (k : Int) := by omega
          have i1 : (k : Int) < (n : Int) := by omega
          have i2 : (0 : Int) ≤ (m : Int) := by omega
          have i3 : (m : Int) < (n : Int) := by omega
          have hn0 : ¬ n = 0 := by omega
          have j1 : IntKind.i64.wrap ((k : Int) + 1) = (k : Int) + 1 := IntWalk.i64_in _ (by omega)
          have j2 : ((k : Int) + 1).tmod (n : Int) = (m : Int) := by
            rw [← hm, show ((k : Int) + 1) = ((k + 1 : Nat) : Int) by omega, Int.ofNat_tmod]
          have j3 : IntKind.i64.wrap (m : Int) = (m : Int) := IntWalk.i64_in _ (by omega)
          have HB := Lib.hid hB
          clear hB hm
          go_upto_region 5 with (fail)
          refine wp_region_still_tail 14 (by kernel_rfl) (by kernel_rfl) ?_
          change wpStill _ _ wr.drew (fun a' => wpList _ _ _ _ a' wr.drew) _ _
          have z1 : Below w.heap.size w wr.drew := HB.out.trans ⟨rfl, rfl, rfl, Nat.le_refl _, fun _ _ => rfl⟩
          have hlg : g < wr.drew.heap.size := hlg
          have q1 : wr.drew.cell? ⟨g, k * 2, none⟩ = some (.int .i64 ax) := q1
          have q2 : wr.drew.cell? ⟨g, k * 2 + 1, none⟩ = some (.int .i64 ay) := q2
          have q3 : wr.drew.cell? ⟨g, m * 2, none⟩ = some (.int .i64 bx) := q3
          have q4 : wr.drew.cell? ⟨g, m * 2 + 1, none⟩ = some (.int .i64 b1) := q4
          have HZ := Lib.hid z1
          clear z1
          generalize wr.drew = wd at *
          simp only [List.take_succ_cons, List.take_zero, List.drop_succ_cons, List.drop_zero]
          repeat still_step
          refine wpStill_nil ?_
          clear i0 i1 i2 i3 hn0 j1 j2 j3
          go_wp2_with fail
          ((with_reducible refine (cr_spec ax ay bx b1 x y _ HQ.out.1 HQ.out.2 HO.out.2.1 HO.out.2.2).mono ?_); rintro e w1 ⟨rfl, bb⟩)
          have hB1 := on_of HZ.out bb
          have HB1 := Lib.hid hB1
          clear hB1 bb q1 q2 q3 q4
          generalize crs (ax, ay) (bx, b1) x y = r at *
          cases r
          · have e := HS.out
            simp only [Bool.bne_false] at e
            rw [← e]
            have i1 : (k : Int) < (n : Int) := by omega
            clear e
            go_wp2
            go_roundw
            case rel => exact ⟨k + 1, by omega, by go_num, rfl, HB1.out⟩
            case measure => simp [intOf]; omega
          · have e : insK l x y (k + 1) = !(insK l x y k) := by rw [HS.out]; simp
            have HE := Lib.hid e
            clear e
            generalize insK l x y k = b at *
            have i1 : (k : Int) < (n : Int) := by omega
            go_wp2
            go_roundw
            case rel => exact ⟨k + 1, by omega, by go_num, by rw [HE.out], HB1.out⟩
            case measure => simp [intOf]; omega
      · obtain rfl : k = n := by omega
        have HB := Lib.hid hB
        clear hB
        go_wp2
        go_ret
        exact ⟨ret_bool (by rw [← HN.out, insK_all]), HB.out⟩
end Go.Proofs.Ytejnfdpckipbeaa.Ins
namespace Go.Proofs.Ytejnfdpckipbeaa.Ins
open Go.ChangeShapes Go.WideShapes Go.ChangeAt Go.RowKit
open Kit Point
set_option linter.unusedVariables false
set_option linter.unusedSimpArgs false
set_option linter.unnecessarySimpa false
def inpB (l : List Pt) (x y : Int) : Bool := pathB l && inB x && inB y && insP l x y
theorem three3 (a b c : Bool) : a = false ∨ (a = true ∧ b = false) ∨ (a = true ∧ b = true ∧ c = false) ∨ (a = true ∧ b = true ∧ c = true) := by
  cases a <;> cases b <;> cases c <;> simp
end Go.Proofs.Ytejnfdpckipbeaa.Ins
