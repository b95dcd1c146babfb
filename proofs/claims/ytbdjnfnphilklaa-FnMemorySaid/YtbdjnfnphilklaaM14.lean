/-
  Texts of this seat, laid together: Stack, Draw, DrawPlus
-/
import Derived.Test.YtbdjnfnphilklaaRows
import Derived.WalkKit
import Derived.ProofKit
import Derived.OpenShut
import Derived.Below
import Derived.LoopTactic
import Derived.Outline
import Derived.RegionTactic
import Derived.Deep.QuietTactic
import Derived.BigQuiet
import Derived.Handy
import Derived.Deep.RegionHeld
import Derived.Maps.AppendAt
import Derived.OwnWalk
import Derived.Deep.AppendLies
import Derived.Test.YtbdjnfnphilklaaM11
import Derived.Test.YtbdjnfnphilklaaM06
import Derived.Test.YtbdjnfnphilklaaM09
import Derived.Test.YtbdjnfnphilklaaM01
namespace Go.Proofs.Ytbdjnfnphilklaa.Stack
open Go.ChangeShapes Go.WideShapes Go.ChangeAt Go.RowKit
open Kit Slabs Ints
set_option linter.unusedVariables false
set_option linter.unusedSimpArgs false
set_option linter.unnecessarySimpa false
set_option maxRecDepth 100000
def Rd (w : World) (v : Value) (n : Nat) (X : Nat → Int) : Prop :=
  ∃ (a : Option Addr) (cap : Nat), v = .slice a n cap ∧ n ≤ cap ∧ (n = 0 ∨ ∃ g o, a = some ⟨g, o, none⟩ ∧ g < w.heap.size ∧ ∀ i, i < n → w.cell? ⟨g, o + i, none⟩ = some (.int .i64 (X i)))
theorem Rd.of_slab {w : World} {B n : Nat} {v : Value} {X : Nat → Int} (h : Slab w B v n 1 (ic X)) : Rd w v n X := by
  obtain ⟨a, cap, hv, hc, h⟩ := h
  refine ⟨a, cap, hv, hc, ?_⟩
  rcases h with h | ⟨g, ha, _, h2, _, h4⟩
  · exact .inl h
  · exact .inr ⟨g, 0, ha, h2, fun i hi => by have := h4 i hi 0 _ rfl; simpa using this⟩
theorem Rd.on {w w' : World} {v : Value} {n : Nat} {X : Nat → Int} (h : Rd w v n X) (hb : Below w.heap.size w w') : Rd w' v n X := by
  obtain ⟨a, cap, hv, hc, h⟩ := h
  refine ⟨a, cap, hv, hc, ?_⟩
  rcases h with h | ⟨g, o, ha, h2, h4⟩
  · exact .inl h
  · exact .inr ⟨g, o, ha, Nat.lt_of_lt_of_le h2 hb.size, fun i hi => (hb.cell (p := ⟨g, _, none⟩) h2).trans (h4 i hi)⟩
theorem Rd.part {w : World} {a : Option Addr} {cap n : Nat} {X : Nat → Int} (h : Rd w (.slice a n cap) n X) (i m : Nat) (him : i + m ≤ n) (hm : m ≠ 0) : ∃ g o, a = some ⟨g, o, none⟩ ∧ Rd w (.slice (some ⟨g, o + i, none⟩) m (cap - i)) m (fun j => X (i + j)) := by
  obtain ⟨a', cap', hv, hc, h⟩ := h
  injection hv with h1 h2 h3
  subst h1; subst h3
  rcases h with h | ⟨g, o, ha, h2, h4⟩
  · omega
  · exact ⟨g, o, ha, _, _, rfl, by omega, .inr ⟨g, o + i, rfl, h2, fun j hj => by have := h4 (i + j) (by omega); rw [Nat.add_assoc]; exact this⟩⟩
theorem flat_ic (X : Nat → Int) (n j : Nat) (h : j < n) : (flat (ic X) n)[j]? = some (.int .i64 (X j)) := by
  have := flat_get (ic_len X) (n := n) (i := j) (j := 0) h (by omega)
  simpa [ic] using this
theorem flat_ic_len (X : Nat → Int) (n : Nat) : (flat (ic X) n).length = n := by
  have := flat_length (ic_len X) n; simpa using this
theorem flat_one (X : Nat → Int) (n : Nat) : ∀ u ∈ flat (ic X) n, u.oneCell' = true := by
  intro u hu
  obtain ⟨j, hj, rfl⟩ := List.mem_iff_getElem.1 hu
  have hn : j < n := by rw [flat_ic_len] at hj; exact hj
  have h1 := flat_ic X n j hn
  rw [List.getElem?_eq_getElem hj] at h1
  rw [Option.some.inj h1]; simp [Value.oneCell']
def numsB (X : Nat → Int) (n : Nat) : Bool := (List.range n).all fun i => decide (-9999 ≤ X i ∧ X i ≤ 9999)
def stB (X : Nat → Int) (n : Nat) : Bool := decide (n ≤ 12) && numsB X n
theorem numsB_succ (X : Nat → Int) (n : Nat) : numsB X (n + 1) = (numsB X n && decide (-9999 ≤ X n ∧ X n ≤ 9999)) := by
  simp [numsB, List.range_succ]
theorem numsB_iff (X : Nat → Int) (n : Nat) : numsB X n = true ↔ ∀ i, i < n → -9999 ≤ X i ∧ X i ≤ 9999 := by
  simp [numsB, List.all_eq_true]
theorem numsB_no {X : Nat → Int} {n i : Nat} (hi : i < n) (h : ¬ (-9999 ≤ X i ∧ X i ≤ 9999)) : numsB X n = false := by
  rw [← Bool.not_eq_true, numsB_iff]; exact fun h2 => h (h2 i hi)
end Go.Proofs.Ytbdjnfnphilklaa.Stack
namespace Go.Proofs.Ytbdjnfnphilklaa.Draw
open Go.ChangeShapes Go.WideShapes Go.ChangeAt Go.RowKit
set_option linter.unusedVariables false
theorem and255 (x : Int) : 0 ≤ bits BinOp.and .i64 x 255 ∧ bits BinOp.and .i64 x 255 ≤ 255 := by
  unfold bits
  have h : (BitVec.ofInt IntKind.i64.bits x &&& BitVec.ofInt IntKind.i64.bits 255).toNat ≤ 255 := by
    rw [BitVec.toNat_and]
    exact Nat.le_trans Nat.and_le_right (by decide)
  simp only []
  rw [IntWalk.i64_in _ (by omega)]
  omega
theorem row_cells {k : IntKind} {w : World} {x : Addr} {cap : Nat} {zs : List Int} (hz : zs.length = cap) (hc : ∀ i, i < zs.length → w.cell? (x.add i) = some (.int k (zs.getD i 0))) (h0 : 0 < cap) :
    x.spot = none ∧ x.block < w.heap.size ∧ ∀ i, i < cap → w.cell? ⟨x.block, x.off + i, none⟩ = some (.int k (zs.getD i 0)) := by
  have h := hc 0 (by omega)
  obtain ⟨xb, xo, xs⟩ := x
  have hxs : xs = none := by simpa [Addr.add] using World.cell?_spot h
  subst hxs
  have hb : xb < w.heap.size := by simpa [Addr.add] using World.block_lt_of_cell? w _ h
  refine ⟨rfl, hb, fun i hi => ?_⟩
  have h1 := hc i (by omega)
  by_cases hi0 : i = 0
  · subst hi0; simpa [Addr.add] using h1
  · simpa [Addr.add, hi0] using h1
structure CurAt (w : World) (b : Nat) (a : Option Addr) (len cap : Nat) (i h : Int) : Prop where
  c0 : w.cell? ⟨b, 0, none⟩ = some (.slice a len cap)
  c1 : w.cell? ⟨b, 1, none⟩ = some (.int .i64 i)
  c2 : w.cell? ⟨b, 2, none⟩ = some (.int .i64 h)
  f1 : w.frozen? ⟨b, 1, none⟩ = false
  f2 : w.frozen? ⟨b, 2, none⟩ = false
structure Draws (W : World) (a : Option Addr) (len cap : Nat) (z : List Int) (b : Nat) (w : World) : Prop where
  row : IsRow .u8 W a len cap z
  far : W.heap.size ≤ b
  here : b < w.heap.size
  cur : ∃ i h : Int, 0 ≤ i ∧ i ≤ len ∧ CurAt w b a len cap i h
  below : Below W.heap.size W w
def Drawn (W : World) (a : Option Addr) (len cap : Nat) (z : List Int) (b : Nat) (w w' : World) : Prop :=
  Draws W a len cap z b w' ∧ w.grownBy w' (some b)
theorem row_len {W : World} {a : Option Addr} {len cap : Nat} {z : List Int} (h : IsRow .u8 W a len cap z) : len ≤ 9223372036854775807 := by
  rcases h with ⟨rfl, rfl, rfl, rfl⟩ | ⟨x, rfl, hl, hm, hz, hcell, hwz⟩
  · omega
  · unfold maxLen at hm; omega
theorem Draws.next {W w : World} {a : Option Addr} {len cap : Nat} {z : List Int} {b : Nat} (d : Draws W a len cap z b w) {i h : Int} (hi : 0 ≤ i) (hl : i ≤ len) {w' : World} (hc : CurAt w' b a len cap i h) (hb : Below W.heap.size W w') (hs : w.heap.size ≤ w'.heap.size) (hg : w.grownBy w' (some b)) : Drawn W a len cap z b w w' :=
  ⟨⟨d.row, d.far, Nat.lt_of_lt_of_le d.here hs, ⟨i, h, hi, hl, hc⟩, hb⟩, hg⟩
theorem Below.drewN {B : Nat} {a w : World} (h : Below B a w) (n : Nat) : Below B a (w.drewN n) := ⟨h.os, h.tape, h.output, h.size, h.block⟩
theorem grown_set {w w' : World} {b : Nat} (h : w.grownBy w' (some b)) (o : Nat) (v : Value) : w.grownBy (w'.setCell ⟨b, o, none⟩ v) (some b) :=
  ⟨h.os, h.tape, h.output, by simpa [World.setCell] using h.size, fun k hk hne => by rw [Below.heap_setCell _ _ _ _ (by intro e; exact hne (by rw [e]))]; exact h.block k hk hne⟩
theorem grown_drew {w w' : World} {row : Option Nat} (h : w.grownBy w' row) : w.grownBy w'.drew row := ⟨h.os, h.tape, h.output, h.size, h.block⟩
theorem grown_drewN {w w' : World} {row : Option Nat} (h : w.grownBy w' row) (n : Nat) : w.grownBy (w'.drewN n) row := ⟨h.os, h.tape, h.output, h.size, h.block⟩
set_option maxHeartbeats 1000000 in
theorem byte_any (W w : World) (b : Nat) (a : Option Addr) (len cap : Nat) (z : List Int) (d : Draws W a len cap z b w) :
    Calls Try.prog 61 #[.pointer (some ⟨b, 0, none⟩)] w fun e w' => ∃ x : Int, 0 ≤ x ∧ x ≤ 255 ∧ e = .returned (.int .i64 x) ∧ Drawn W a len cap z b w w' := by
  have hlen := row_len d.row
  obtain ⟨i, h, hi, hi2, c0, c1, c2, f1, f2⟩ := d.cur
  have hfar := d.far
  have hbel := d.below
  by_cases hlt : i < len
  · have hd : decide (i < (len : Int)) = true := by simpa using hlt
    rcases d.row with ⟨rfl, rfl, rfl, rfl⟩ | ⟨x, rfl, hl, hm, hz, hcell, hwz⟩
    · exfalso; omega
    · obtain ⟨xb, xo, xs⟩ := x
      obtain ⟨hxs, hxlt, hcs⟩ := row_cells hz hcell (by omega)
      simp only at hxs hxlt hcs
      subst hxs
      have hne : b ≠ xb := by omega
      have hcx : w.cell? ⟨xb, xo + i.toNat, none⟩ = some (.int .u8 (z.getD i.toNat 0)) := by
        rw [hbel.cell (p := ⟨xb, xo + i.toNat, none⟩) hxlt]; exact hcs _ (by omega)
      clear hcs hcell
      go_enter Try.func61, Try.ntmps61
      go_wp2
      go_quiet (fail)
      go_wp2
      go_quiet (fail)
      go_wp2
      go_quiet (fail)
      go_wp2
      go_ret
      refine ⟨_, (and255 _).1, (and255 _).2, rfl, d.next (i := i + 1) (by omega) (by omega) (h := wrap64 (wrap64 (h * 6364136223846793005) + 1442695040888963407)) ⟨?_, ?_, ?_, ?_, ?_⟩ ?_ ?_ ?_⟩
      · go_cell
      · go_cell
      · go_cell
      · simp [f1]
      · simp [f2]
      · exact ((hbel.setCell (by exact hfar) _).trans (Below.drewN (Below.refl _ _) _)).setCell (by exact hfar) _
      · simp
      · exact grown_set (grown_drewN (grown_set (World.grownBy.refl _ _) _ _) _) _ _
  · have hd : decide (i < (len : Int)) = false := by simpa using hlt
    go_enter Try.func61, Try.ntmps61
    go_wp2
    go_quiet (fail)
    go_wp2
    go_quiet (fail)
    go_wp2
    go_ret
    refine ⟨_, (and255 _).1, (and255 _).2, rfl, d.next hi hi2 (h := wrap64 (wrap64 (h * 6364136223846793005) + 1442695040888963407)) ⟨?_, ?_, ?_, ?_, ?_⟩ ?_ ?_ ?_⟩
    · go_cell
    · go_cell
    · go_cell
    · simp [f1]
    · simp [f2]
    · exact Below.drewN (Below.drewN (hbel.setCell (p := ⟨b, 2, none⟩) hfar _) _) _
    · simp
    · exact grown_drewN (grown_drewN (grown_set (World.grownBy.refl _ _) _ _) _) _
theorem Drawn.trans {W w w1 w2 : World} {a : Option Addr} {len cap : Nat} {z : List Int} {b : Nat} (h : Drawn W a len cap z b w w1) (k : Drawn W a len cap z b w1 w2) : Drawn W a len cap z b w w2 := ⟨k.1, h.2.trans k.2⟩
theorem Draws.same {W w : World} {a : Option Addr} {len cap : Nat} {z : List Int} {b : Nat} (d : Draws W a len cap z b w) : Drawn W a len cap z b w w := ⟨d, World.grownBy.refl _ _⟩
def Within (n r : Int) : Prop := 0 ≤ r ∧ (0 < n → r < n) ∧ (n ≤ 0 → r = 0)
theorem within_mod {n x : Int} (hn : 0 < n) : Within n (x % n) := ⟨Int.emod_nonneg _ (by omega), fun _ => Int.emod_lt_of_pos _ hn, fun h => by omega⟩
theorem byte_on (W w0 w : World) (b : Nat) (a : Option Addr) (len cap : Nat) (z : List Int) (d : Drawn W a len cap z b w0 w) :
    Calls Try.prog 61 #[.pointer (some ⟨b, 0, none⟩)] w fun e w' => ∃ x : Int, 0 ≤ x ∧ x ≤ 255 ∧ e = .returned (.int .i64 x) ∧ Drawn W a len cap z b w0 w' :=
  (byte_any W w b a len cap z d.1).mono fun _ _ ⟨x, h0, h1, he, d1⟩ => ⟨x, h0, h1, he, d.trans d1⟩
set_option maxHeartbeats 1000000 in
theorem below_on (W w0 w : World) (b : Nat) (a : Option Addr) (len cap : Nat) (z : List Int) (n : Int) (d : Drawn W a len cap z b w0 w) :
    Calls Try.prog 30 #[.pointer (some ⟨b, 0, none⟩), .int .i64 n] w fun e w' => ∃ r : Int, Within n r ∧ e = .returned (.int .i64 r) ∧ Drawn W a len cap z b w0 w' := by
  by_cases h0 : n ≤ 0
  · go_enter Try.func30, Try.ntmps30
    go_wp2
    go_ret
    exact ⟨0, ⟨by omega, fun _ => by omega, fun _ => rfl⟩, rfl, d⟩
  · by_cases h1 : n ≤ 256
    · go_enter Try.func30, Try.ntmps30
      go_wp2_with (go_at_call 61; refine (byte_on W _ _ b a len cap z (by assumption)).mono ?_; rintro e w' ⟨x, hx0, hx1, rfl, d1⟩)
      go_ret
      exact ⟨_, within_mod (by omega), rfl, by assumption⟩
    · go_enter Try.func30, Try.ntmps30
      go_wp2_with (go_at_call 61; refine (byte_on W _ _ b a len cap z (by assumption)).mono ?_; rintro e w' ⟨x, hx0, hx1, rfl, d1⟩)
      go_ret
      exact ⟨_, within_mod (by omega), rfl, by assumption⟩
theorem once_on (W w0 w : World) (b : Nat) (a : Option Addr) (len cap : Nat) (z : List Int) (n : Int) (d : Drawn W a len cap z b w0 w) :
    Calls Try.prog 90 #[.pointer (some ⟨b, 0, none⟩), .int .i64 n] w fun e w' => ∃ r : Bool, e = .returned (.bool r) ∧ Drawn W a len cap z b w0 w' := by
  go_enter Try.func90, Try.ntmps90
  go_wp2_with (go_at_call 30; refine (below_on W _ _ b a len cap z n (by assumption)).mono ?_; rintro e w' ⟨x, hx, rfl, d1⟩)
  go_ret
  exact ⟨_, rfl, by assumption⟩
theorem wf_mask (x : Int) : 0 ≤ bits BinOp.and .i64 x 1073741823 ∧ bits BinOp.and .i64 x 1073741823 ≤ 1073741823 := by
  unfold bits
  have h : (BitVec.ofInt IntKind.i64.bits x &&& BitVec.ofInt IntKind.i64.bits 1073741823).toNat ≤ 1073741823 := by
    rw [BitVec.toNat_and]
    exact Nat.le_trans Nat.and_le_right (by decide)
  simp only []
  rw [IntWalk.i64_in _ (by omega)]
  omega
set_option maxHeartbeats 1000000 in
theorem new_any (w : World) (a : Option Addr) (len cap : Nat) (z : List Int) (hr : IsRow .u8 w a len cap z) :
    Calls Try.prog 28 #[.slice a len cap] w fun e w' => e = .returned (.pointer (some ⟨w.heap.size, 0, none⟩)) ∧ Draws w a len cap z w.heap.size w' := by
  have hd : ∀ h : Int, Draws w a len cap z w.heap.size (w.alloc (.cells #[.slice a len cap, .int .i64 0, .int .i64 h] 81)) := by
    intro h
    refine ⟨hr, Nat.le_refl _, by simp, ⟨0, h, by omega, by omega, ⟨?_, ?_, ?_, ?_, ?_⟩⟩, (Below.refl _ _).alloc (Nat.le_refl _) _⟩
    all_goals simp [go_sem]
  have hrow := hr
  rcases hr with ⟨rfl, rfl, rfl, rfl⟩ | ⟨x, rfl, hl, hm, hz, hcell, hwz⟩
  · go_enter Try.func28, Try.ntmps28
    go_wp2
    go_loop [3, 4] (fun h i => i = .int .i64 0 ∧ ∃ q : Int, h = .int .i64 q) (fun _ _ => 0)
    case atStart => exact ⟨rfl, _, rfl⟩
    case round =>
      obtain ⟨rfl, q, rfl⟩ := hrel
      go_wp2
      go_ret
      exact ⟨rfl, hd _⟩
  · unfold maxLen at hm
    by_cases hcap : cap = 0
    · obtain rfl : len = 0 := by omega
      subst hcap
      go_enter Try.func28, Try.ntmps28
      go_wp2
      go_loop [3, 4] (fun h i => i = .int .i64 0 ∧ ∃ q : Int, h = .int .i64 q) (fun _ _ => 0)
      case atStart => exact ⟨rfl, _, rfl⟩
      case round =>
        obtain ⟨rfl, q, rfl⟩ := hrel
        go_wp2
        go_ret
        exact ⟨rfl, hd _⟩
    · obtain ⟨xb, xo, xs⟩ := x
      obtain ⟨hxs, hxlt, hcs⟩ := row_cells hz hcell (by omega)
      simp only at hxs hxlt hcs
      subst hxs
      clear hcell hwz
      have HD : Hid (∀ h : Int, Draws w (some ⟨xb, xo, none⟩) len cap z w.heap.size (w.alloc (.cells #[.slice (some ⟨xb, xo, none⟩) len cap, .int .i64 0, .int .i64 h] 81))) := hd
      have HC : Hid (∀ i, i < cap → w.cell? ⟨xb, xo + i, none⟩ = some (.int .u8 (z.getD i 0))) := hcs
      clear hd hcs
      go_enter Try.func28, Try.ntmps28
      go_wp2
      go_loop [3, 4] (fun h i => ∃ k : Nat, k ≤ len ∧ i = .int .i64 k ∧ ∃ q : Int, h = .int .i64 q) (fun _ i => len - (intOf i).toNat)
      case atStart => exact ⟨0, Nat.zero_le _, rfl, _, rfl⟩
      case round =>
        obtain ⟨k, hk, rfl, q, rfl⟩ := hrel
        by_cases hlt : k < len
        · by_cases h4 : (k : Int) < 4000
          · have hc := HC.out k (by omega)
            go_wp2
            go_round
            case rel => exact ⟨k + 1, by omega, by go_num, _, rfl⟩
            case measure => simp [intOf]; omega
          · go_wp2
            have := HD.out
            go_ret
            exact ⟨rfl, this _⟩
        · go_wp2
          have := HD.out
          go_ret
          exact ⟨rfl, this _⟩
theorem Drawn.alloc {W w0 w : World} {a : Option Addr} {len cap : Nat} {z : List Int} {b : Nat} (h : Drawn W a len cap z b w0 w) (o : Obj) : Drawn W a len cap z b w0 (w.alloc o) := by
  obtain ⟨d, g⟩ := h
  obtain ⟨i, q, hi, hl, c0, c1, c2, f1, f2⟩ := d.cur
  have hh := d.here
  refine Drawn.trans ⟨d, g⟩ ?_
  refine d.next hi hl (h := q) ⟨?_, ?_, ?_, ?_, ?_⟩ (d.below.alloc (Nat.le_trans d.far (Nat.le_of_lt hh)) _) (by simp) (World.grownBy_alloc _ _ _)
  · rw [World.cell?_of_block (w := w) (Below.heap_alloc _ _ _ hh)]; exact c0
  · rw [World.cell?_of_block (w := w) (Below.heap_alloc _ _ _ hh)]; exact c1
  · rw [World.cell?_of_block (w := w) (Below.heap_alloc _ _ _ hh)]; exact c2
  · rw [World.frozen?_of_block (w := w) (Below.heap_alloc _ _ _ hh)]; exact f1
  · rw [World.frozen?_of_block (w := w) (Below.heap_alloc _ _ _ hh)]; exact f2
theorem Drawn.ne {W w0 w : World} {a : Option Addr} {len cap : Nat} {z : List Int} {b : Nat} (h : Drawn W a len cap z b w0 w) : w.heap.size ≠ b := Nat.ne_of_gt h.1.here
theorem pickP_on (P : Int → Prop) (W w0 w : World) (b : Nat) (a : Option Addr) (len cap : Nat) (z : List Int) (g n c : Nat) (hg : g ≠ b) (hn : 0 < n) (hm : n ≤ 1000000) (hc : ∀ k, k < n → ∃ q : Int, P q ∧ w.cell? ⟨g, k, none⟩ = some (.int .i64 q)) (d : Drawn W a len cap z b w0 w) :
    Calls Try.prog 60 #[.pointer (some ⟨b, 0, none⟩), .slice (some ⟨g, 0, none⟩) n c] w fun e w' => ∃ q : Int, P q ∧ e = .returned (.int .i64 q) ∧ Drawn W a len cap z b w0 w' := by
  have HC : Hid (∀ k, k < n → ∃ q : Int, P q ∧ w.cell? ⟨g, k, none⟩ = some (.int .i64 q)) := hc
  clear hc
  have d0 := d.1.same
  have HD : Hid (Drawn W a len cap z b w0 w) := d
  clear d
  go_enter Try.func60, Try.ntmps60
  go_wp2_with (go_at_call 30; refine (below_on W w _ b a len cap z n (by assumption)).mono ?_; rintro e w' ⟨r, hr, rfl, d1⟩; obtain ⟨k, rfl⟩ := Int.eq_ofNat_of_zero_le hr.1; have hk : (k : Int) < n := hr.2.1 (by omega); obtain ⟨q, hq, hcq⟩ := HC.out k (by omega); have hcq' := d1.2.cell hcq (by intro e; exact hg (by simpa using e)))
  go_ret
  exact ⟨_, hq, rfl, HD.out.trans d1⟩
theorem pickInt_on (W w0 w : World) (b : Nat) (a : Option Addr) (len cap : Nat) (z : List Int) (g n c : Nat) (hg : g ≠ b) (hn : 0 < n) (hm : n ≤ 1000000) (hc : ∀ k, k < n → ∃ q : Int, (Lit.int .i64 q).wf = true ∧ w.cell? ⟨g, k, none⟩ = some (.int .i64 q)) (d : Drawn W a len cap z b w0 w) :
    Calls Try.prog 60 #[.pointer (some ⟨b, 0, none⟩), .slice (some ⟨g, 0, none⟩) n c] w fun e w' => ∃ q : Int, (Lit.int .i64 q).wf = true ∧ e = .returned (.int .i64 q) ∧ Drawn W a len cap z b w0 w' :=
  pickP_on _ W w0 w b a len cap z g n c hg hn hm hc d
theorem big_on (w : World) (a : Option Addr) (len cap : Nat) (hl : len ≤ 9223372036854775807) : Calls Try.prog 7 #[.slice a len cap] w fun e w' => e = .returned (.bool (decide (1048576 < (len : Int)))) ∧ w = w' := by
  go_enter Try.func7, Try.ntmps7
  go_wp2
  go_ret
  exact ⟨rfl, rfl⟩
end Go.Proofs.Ytbdjnfnphilklaa.Draw
namespace Go.Proofs.Ytbdjnfnphilklaa.Draw
open Go.ChangeShapes Go.WideShapes Go.ChangeAt Go.RowKit
open Kit
set_option linter.unusedVariables false
set_option linter.unusedSimpArgs false
set_option linter.unnecessarySimpa false
attribute [local go_sem ↓] run_mx run_mn
theorem Drawn.grown {W w0 w w' : World} {a : Option Addr} {len cap : Nat} {z : List Int} {b : Nat} {row : Option Nat} (h : Drawn W a len cap z b w0 w) (hg : w.grownBy w' row) (hr : ∀ k, row = some k → w0.heap.size ≤ k ∧ W.heap.size ≤ k ∧ k ≠ b) : Drawn W a len cap z b w0 w' := by
  obtain ⟨d, g⟩ := h
  obtain ⟨i, q, hi, hl, c0, c1, c2, f1, f2⟩ := d.cur
  have hb : w'.heap[b]? = w.heap[b]? := hg.block b d.here (fun e => (hr b e.symm).2.2 rfl)
  refine ⟨⟨d.row, d.far, Nat.lt_of_lt_of_le d.here hg.size, ⟨i, q, hi, hl, ?_, ?_, ?_, ?_, ?_⟩, d.below.grown hg (Nat.le_trans d.far (Nat.le_of_lt d.here)) (fun k hk => (hr k hk).2.1)⟩, ?_⟩
  · rw [World.cell?_of_block (w := w) hb]; exact c0
  · rw [World.cell?_of_block (w := w) hb]; exact c1
  · rw [World.cell?_of_block (w := w) hb]; exact c2
  · rw [World.frozen?_of_block (w := w) hb]; exact f1
  · rw [World.frozen?_of_block (w := w) hb]; exact f2
  · refine ⟨hg.os.trans g.os, hg.tape.trans g.tape, hg.output.trans g.output, Nat.le_trans g.size hg.size, fun k hk hne => ?_⟩
    rw [hg.block k (Nat.lt_of_lt_of_le hk g.size) (fun e => by have := (hr k e.symm).1; omega)]
    exact g.block k hk hne
theorem Drawn.setNew {W w0 w : World} {a : Option Addr} {len cap : Nat} {z : List Int} {b : Nat} (h : Drawn W a len cap z b w0 w) {R : Nat} (h0 : w0.heap.size ≤ R) (hW : W.heap.size ≤ R) (hb : R ≠ b) (o : Nat) (v : Value) : Drawn W a len cap z b w0 (w.setCell ⟨R, o, none⟩ v) :=
  h.grown (grown_set (World.grownBy.refl w (some R)) o v) (fun k hk => by injection hk with hk; subst hk; exact ⟨h0, hW, hb⟩)
theorem Drawn.keeps {W w0 w : World} {a : Option Addr} {len cap : Nat} {z : List Int} {b : Nat} (h : Drawn W a len cap z b w0 w) {R o : Nat} {v : Value} (hc : w0.cell? ⟨R, o, none⟩ = some v) (hb : R ≠ b) : w.cell? ⟨R, o, none⟩ = some v :=
  h.2.cell hc (by intro e; exact hb (by simpa using e))
theorem Drawn.thaws {W w0 w : World} {a : Option Addr} {len cap : Nat} {z : List Int} {b : Nat} (h : Drawn W a len cap z b w0 w) {R o : Nat} (hl : R < w0.heap.size) (hf : w0.frozen? ⟨R, o, none⟩ = false) (hb : R ≠ b) : w.frozen? ⟨R, o, none⟩ = false := by
  rw [h.2.frozen_far ⟨R, o, none⟩ hl (by intro e; exact hb (by simpa using e))]; exact hf
theorem Two.drawn {W w0 w : World} {a : Option Addr} {len cap : Nat} {z : List Int} {b R : Nat} {x y : Int} (h : Two w0 R x y) (d : Drawn W a len cap z b w0 w) (hb : R ≠ b) : Two w R x y :=
  ⟨d.keeps h.c0 hb, d.keeps h.c1 hb, fun o => d.thaws h.lt (h.fr o) hb⟩
theorem IsRow.keep {k : IntKind} {w w' : World} {a : Option Addr} {len cap : Nat} {z : List Int} (h : IsRow k w a len cap z) (hb : Below w.heap.size w w') : IsRow k w' a len cap z := by
  rcases h with h | ⟨x, ha, hl, hm, hz, hc, hw⟩
  · exact .inl h
  · refine .inr ⟨x, ha, hl, hm, hz, fun i hi => ?_, hw⟩
    have h1 := hc i hi
    exact (hb.cell (p := x.add i) (World.block_lt_of_cell? w _ h1)).trans h1
theorem Four.drawn {W w0 w : World} {a : Option Addr} {len cap : Nat} {z : List Int} {b R : Nat} {x y u v : Int} (h : Four w0 R x y u v) (d : Drawn W a len cap z b w0 w) (hb : R ≠ b) : Four w R x y u v :=
  ⟨d.keeps h.c0 hb, d.keeps h.c1 hb, d.keeps h.c2 hb, d.keeps h.c3 hb, fun o => d.thaws h.lt (h.fr o) hb⟩
end Go.Proofs.Ytbdjnfnphilklaa.Draw
