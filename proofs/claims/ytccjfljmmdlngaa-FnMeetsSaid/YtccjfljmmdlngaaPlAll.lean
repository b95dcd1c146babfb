/-
  DrawPlaces: all twelve numbers, each from 0 to 9999; condition: the bytes that came in can be read.
-/
import Derived.Test.YtccjfljmmdlngaaDrawPlus
import Derived.Test.YtccjfljmmdlngaaInts
namespace Go.Proofs.Ytccjfljmmdlngaa.PlAll
open Go.ChangeShapes Go.WideShapes Go.ChangeAt Go.RowKit
open Kit Draw Slabs Ints
set_option linter.unusedVariables false
set_option linter.unusedSimpArgs false
set_option linter.unnecessarySimpa false
set_option maxRecDepth 100000

def pt (X : Nat → Int) (n : Nat) (m : Int) (i : Nat) : Int := if i = n then m else X i
theorem pt_at (X : Nat → Int) (n : Nat) (m : Int) : pt X n m n = m := by simp [pt]
theorem pt_lt {X : Nat → Int} {n i : Nat} (m : Int) (h : i < n) : pt X n m i = X i := by simp [pt]; omega

theorem flat_ext {F G : Nat → List Value} {n : Nat} (h : ∀ i, i < n → F i = G i) : flat F n = flat G n := by
  induction n with
  | zero => rfl
  | succ n ih => rw [flat_succ, flat_succ, ih (fun i hi => h i (by omega)), h n (by omega)]

theorem flat_pt (X : Nat → Int) (n : Nat) (m : Int) : flat (ic X) n ++ [.int .i64 m] = flat (ic (pt X n m)) (n + 1) := by
  rw [flat_succ, flat_ext (F := ic (pt X n m)) (G := ic X) (fun i hi => by simp only [ic, pt_lt m hi])]
  simp only [ic, pt_at]

theorem info3 : (Try.prog.info? 3).map (fun i => (i.zero, i.size, i.bytes)) = some (some (.int .i64 0), 1, 8) := by kernel_rfl
set_option maxHeartbeats 1000000 in
theorem places_all (w : World) (a : Option Addr) (len cap : Nat) (z : List Int) (hr : IsRow .u8 w a len cap z) :
    Calls Try.prog 12 #[.slice a len cap] w fun e w' => ∃ (g c : Nat) (Q : Nat → Int), (∀ i, i < 12 → 0 ≤ Q i ∧ Q i < 10000) ∧ (∀ i, i < 12 → w'.cell? ⟨g, i, none⟩ = some (.int .i64 (Q i))) ∧ e = .returned (.slice (some ⟨g, 0, none⟩) 12 c) ∧ w.heap.size ≤ g ∧ g < w'.heap.size ∧ Below w.heap.size w w' := by
  obtain ⟨i0, hi0, hz0, hz1, hz2⟩ := info_parts info3
  have HR := Lib.hid hr
  clear hr
  go_enter Try.func12, Try.ntmps12
  go_wp2_with fail
  (refine (new_any w _ _ _ z HR.out).mono ?_; rintro e w1 ⟨rfl, dr⟩)
  have hd0 := dr.same
  have hs1 := dr.below.size
  have hs2 := dr.here
  go_wp2_with fail
  go_loopw [4, 5] (fun v i wr => ∃ (k : Nat) (X : Nat → Int), k ≤ 12 ∧ i = .int .i64 (k : Int) ∧ (∀ j, j < k → 0 ≤ X j ∧ X j < 10000) ∧ wr.ownsRow w1.heap.size 3 1 v k (flat (ic X) k) ∧ w1.heap.size ≤ wr.heap.size ∧ Drawn w a len cap z w.heap.size w1 wr) (fun _ i _ => 12 - (intOf i).toNat)
  case atStart => exact ⟨0, fun _ => 0, by omega, rfl, fun j hj => by omega, World.ownsRow_made w1 #[] 0 (Nat.le_refl _) (by decide) (by simp), by simp, hd0.alloc _⟩
  case round =>
    obtain ⟨k, X, hk, rfl, hX, hown, hws, hd⟩ := hrel
    have HX := Lib.hid hX
    clear hX
    by_cases hlt : k < 12
    · have hlt' : (k : Int) < 12 := by omega
      go_wp2_with (first
        | (go_at_call 37; refine (below_on w wr _ _ a len cap z 10000 hd.1.same).mono ?_; rintro e w2 ⟨x, hx, rfl, d1⟩; have hown1 := hown.kept d1.2 (.inr fun e => by have := (hown.lt _ e).1; omega); have hd1 := hd.trans d1; have hsz1 := d1.2.size; have hsz := hd.2.size)
        | (at_builtin; refine wpList_append_own _ rfl _ _ 26 rfl w1.heap.size 3 i0 (.int .i64 0) 1 8 Try.underlying26 hi0 hz0 hz1 hz2 rfl (by decide) _ _ _ rfl (hown1.alloc _) ⟨w2.heap.size, 0, none⟩ 1 1 [.int .i64 x] rfl rfl ?c1 ?c2 ?c3 ?c4 ?c5 ?_))
      case c1 => exact World.news_of_block (cs := #[.int .i64 x]) (t := 3) (fr := (0, 0)) (heap_alloc_new w2 _)
      case c2 => simp [Value.oneCell']
      case c3 => unfold maxLen; omega
      case c4 => omega
      case c5 => simp; omega
      intro v2 w3 hown2 hgrow _
      have hd2 := (hd1.alloc (.cells #[.int .i64 x] 3)).grown hgrow (fun q hq => by have := (hown1.lt q hq).1; omega)
      have hws2 : w1.heap.size ≤ w3.heap.size := by have := hgrow.size; simp at this; omega
      rw [flat_pt] at hown2
      have hx2 : ∀ j, j < k + 1 → 0 ≤ pt X k x j ∧ pt X k x j < 10000 := by
        intro j hj
        by_cases e : j < k
        · rw [pt_lt x e]; exact HX.out j e
        · obtain rfl : j = k := by omega
          rw [pt_at]; exact ⟨hx.1, hx.2.1 (by omega)⟩
      have HX2 := Lib.hid (And.intro hx2 (And.intro hown2 (And.intro hws2 hd2)))
      clear hown hown1 hown2 hd hd1 hgrow d1 hx2 hx hws2 hd2
      go_wp2
      go_roundw
      case rel => exact ⟨k + 1, _, by omega, by go_num, HX2.out.1, HX2.out.2.1, HX2.out.2.2.1, HX2.out.2.2.2⟩
      case measure => simp [intOf]; omega
    · obtain rfl : k = 12 := by omega
      rcases (Slab.of_owns hown (ic_len X)).writes with ⟨h0, _⟩ | ⟨g, c, hv, hg, W1⟩
      · omega
      subst hv
      have H := Lib.hid (And.intro W1 (And.intro hd.1.below HX.out))
      have hgl := W1.here
      clear W1 hd hown
      go_wp2
      go_ret
      exact ⟨g, c, X, H.out.2.2, fun i hi => ic_cell H.out.1 hi, rfl, by omega, hgl, H.out.2.1⟩

end Go.Proofs.Ytccjfljmmdlngaa.PlAll
