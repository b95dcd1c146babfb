/-
  Drawn stacks (l05Stack, DrawStack) and all twelve places of DrawPlaces; condition: the bytes that came in can be read.
-/
import Derived.Test.YtnpbhmeanfolnaaDrawPlus
import Derived.Test.YtnpbhmeanfolnaaPush
namespace Go.Proofs.Ytnpbhmeanfolnaa.StkDraw
open Go.ChangeShapes Go.WideShapes Go.ChangeAt Go.RowKit
open Kit Draw Slabs Ints Stack Push
set_option linter.unusedVariables false
set_option linter.unusedSimpArgs false
set_option linter.unnecessarySimpa false
set_option maxRecDepth 100000

theorem six_cells (w : World) (T : TypeId) (r : Int) (hr : 0 ≤ r ∧ r ≤ 199) : ∀ k, k < 6 → ∃ q : Int, (-9999 ≤ q ∧ q ≤ 9999) ∧ (w.alloc (.cells #[.int .i64 0, .int .i64 1, .int .i64 (-1), .int .i64 9999, .int .i64 (-9999), .int .i64 r] T)).cell? ⟨w.heap.size, k, none⟩ = some (.int .i64 q) := by
  intro k hk
  have h : k = 0 ∨ k = 1 ∨ k = 2 ∨ k = 3 ∨ k = 4 ∨ k = 5 := by omega
  rcases h with rfl | rfl | rfl | rfl | rfl | rfl
  · exact ⟨0, by omega, by simp [go_sem]⟩
  · exact ⟨1, by omega, by simp [go_sem]⟩
  · exact ⟨-1, by omega, by simp [go_sem]⟩
  · exact ⟨9999, by omega, by simp [go_sem]⟩
  · exact ⟨-9999, by omega, by simp [go_sem]⟩
  · exact ⟨r, by omega, by simp [go_sem]⟩

theorem in9 {r : Int} (h : Within 9 r) : 0 ≤ r ∧ r ≤ 8 := by obtain ⟨h0, h1, _⟩ := h; have := h1 (by omega); omega
theorem in200 {r : Int} (h : Within 200 r) : 0 ≤ r ∧ r ≤ 199 := by obtain ⟨h0, h1, _⟩ := h; have := h1 (by omega); omega

/-- The first n numbers are within the range. -/
def Nums (X : Nat → Int) (n : Nat) : Prop := ∀ i, i < n → -9999 ≤ X i ∧ X i ≤ 9999

theorem nums_pt {X : Nat → Int} {n : Nat} {q : Int} (h : Nums X n) (hq : -9999 ≤ q ∧ q ≤ 9999) : Nums (pt X n q) (n + 1) := by
  intro i hi
  by_cases e : i < n
  · rw [pt_lt q e]; exact h i e
  · obtain rfl : i = n := by omega
    rw [pt_at]; exact hq

theorem nums_ok {X : Nat → Int} {n : Nat} (h : Nums X n) (hn : n ≤ 12) : stB X n = true := by
  rw [stB, Bool.and_eq_true, numsB_iff, decide_eq_true_eq]
  exact ⟨hn, h⟩

set_option maxHeartbeats 2000000 in
theorem stack_on (W w0 w : World) (b : Nat) (a : Option Addr) (len cap : Nat) (z : List Int) (d : Drawn W a len cap z b w0 w) :
    Calls Try.prog 44 #[.pointer (some ⟨b, 0, none⟩)] w fun e w' => ∃ (v : Value) (n : Nat) (X : Nat → Int), n ≤ 8 ∧ Nums X n ∧ e = .returned v ∧ w'.ownsRow w.heap.size 3 1 v n (flat (ic X) n) ∧ Drawn W a len cap z b w0 w' := by
  obtain ⟨i0, hi0, hz0, hz1, hz2⟩ := info_parts info3
  have hb := d.1.here
  have hW := Nat.le_trans d.1.far (Nat.le_of_lt d.1.here)
  have hw0 := d.2.size
  have d0 := d.alloc (.cells #[] 3)
  have ho0 := World.ownsRow_made w #[] (e := 3) (size := 1) 0 (Nat.le_refl _) (by decide) (by simp)
  clear d
  go_enter Try.func44, Try.ntmps44
  go_wp2_with fail
  (refine (below_on W _ _ b a len cap z 9 d0.1.same).mono ?_; rintro e w1 ⟨r, hr, rfl, d1⟩)
  obtain ⟨m, rfl⟩ := Int.eq_ofNat_of_zero_le (in9 hr).1
  have hm := (in9 hr).2
  have hneb : w.heap.size ≠ b := Nat.ne_of_gt hb
  have ho1 : w1.ownsRow w.heap.size 3 1 (.slice (some ⟨w.heap.size, 0, none⟩) 0 0) 0 [] := ho0.kept d1.2 (.inr (by simpa [Value.ownBlock] using hneb))
  have hd1 := d0.trans d1
  have hs1 : w.heap.size ≤ w1.heap.size := by have := d1.2.size; simp at this; omega
  have H1 := Lib.hid (And.intro ho1 hd1)
  clear d0 d1 ho0 ho1 hd1 hr
  go_wp2_with fail
  go_loopw [3, 5] (fun v i wr => ∃ (k : Nat) (X : Nat → Int), k ≤ m ∧ i = .int .i64 (k : Int) ∧ Nums X k ∧ wr.ownsRow w.heap.size 3 1 v k (flat (ic X) k) ∧ w.heap.size ≤ wr.heap.size ∧ Drawn W a len cap z b w0 wr) (fun _ i _ => m - (intOf i).toNat)
  case atStart => exact ⟨0, fun _ => 0, Nat.zero_le _, rfl, fun i hi => by omega, H1.out.1, hs1, H1.out.2⟩
  case round =>
    obtain ⟨k, X, hk, rfl, hv, hown, hws, hd⟩ := hrel
    have HV := Lib.hid hv
    clear hv
    by_cases hlt : k < m
    · have hlt' : (k : Int) < (m : Int) := by omega
      go_wp2_with fail
      (refine (below_on W wr _ b a len cap z 200 hd.1.same).mono ?_; rintro e w2 ⟨r, hr, rfl, d2⟩)
      have hown2 := hown.kept d2.2 (.inr fun e => by have := (hown.lt _ e).1; omega)
      have hd2 := hd.trans d2
      have hs2 := d2.2.size
      have h200 := in200 hr
      clear d2 hown hd hr
      go_wp2_with fail
      (refine (pickP_on (fun q => -9999 ≤ q ∧ q ≤ 9999) W w2 _ b a len cap z _ 6 _ (Drawn.ne hd2) (by decide) (by decide) (six_cells _ _ _ h200) (hd2.1.same.alloc _)).mono ?_; rintro e w3 ⟨q, hq, rfl, d3⟩)
      have hown3 := hown2.kept d3.2 (.inr fun e => by have := (hown2.lt _ e).1; omega)
      have hd3 := hd2.trans d3
      have hs3 := d3.2.size
      have HQ := Lib.hid hq
      clear d3 hown2 hd2 hq
      go_wp2_with (at_builtin; refine wpList_append_own _ rfl _ _ 24 rfl w.heap.size 3 i0 (.int .i64 0) 1 8 Try.underlying24 hi0 hz0 hz1 hz2 rfl (by decide) _ _ _ rfl (hown3.alloc _) ⟨w3.heap.size, 0, none⟩ 1 1 [.int .i64 q] rfl rfl ?c1 ?c2 ?c3 ?c4 ?c5 ?_)
      case c1 => exact World.news_of_block (cs := #[.int .i64 q]) (t := 3) (fr := (0, 0)) (heap_alloc_new w3 _)
      case c2 => simp [Value.oneCell']
      case c3 => unfold maxLen; omega
      case c4 => omega
      case c5 => simp; omega
      intro v2 w4 hown4 hgrow _
      have hd4 := (hd3.alloc (.cells #[.int .i64 q] 3)).grown hgrow (fun p hp => by have := (hown3.lt p hp).1; omega)
      have hs4 : w.heap.size ≤ w4.heap.size := by have := hgrow.size; simp at this; omega
      rw [flat_pt] at hown4
      have H4 := Lib.hid (And.intro (nums_pt HV.out HQ.out) (And.intro hown4 (And.intro hs4 hd4)))
      clear hown3 hown4 hd3 hgrow hs4 hd4
      go_wp2
      go_roundw
      case rel => exact ⟨k + 1, _, by omega, by go_num, H4.out.1, H4.out.2.1, H4.out.2.2.1, H4.out.2.2.2⟩
      case measure => simp [intOf]; omega
    · obtain rfl : k = m := by omega
      have HX := Lib.hid (And.intro hown hd)
      clear hown hd
      go_wp2
      go_ret
      exact ⟨_, k, X, by omega, HV.out, rfl, HX.out.1, HX.out.2⟩

theorem drawstack_any (w : World) (a : Option Addr) (len cap : Nat) (z : List Int) (hr : IsRow .u8 w a len cap z) :
    Calls Try.prog 13 #[.slice a len cap] w fun e w' => ∃ (v : Value) (n : Nat) (X : Nat → Int), n ≤ 8 ∧ Nums X n ∧ e = .returned v ∧ Slab w' w.heap.size v n 1 (ic X) ∧ Below w.heap.size w w' := by
  have HR := Lib.hid hr
  clear hr
  go_enter Try.func13, Try.ntmps13
  go_wp2_with fail
  (refine (new_any w _ _ _ z HR.out).mono ?_; rintro e w1 ⟨rfl, dr⟩)
  have hs1 := dr.below.size
  go_wp2_with fail
  (refine (stack_on w _ _ _ a len cap z dr.same).mono ?_; rintro e w2 ⟨v, n, X, hn, hX, rfl, ho, d2⟩)
  have H2 := Lib.hid (And.intro ho d2)
  clear ho d2
  go_wp2
  go_ret
  exact ⟨v, n, X, hn, hX, rfl, (Slab.of_owns H2.out.1 (ic_len _)).weaken hs1, H2.out.2.1.below⟩

set_option maxHeartbeats 1000000 in
theorem places_all (w : World) (a : Option Addr) (len cap : Nat) (z : List Int) (hr : IsRow .u8 w a len cap z) :
    Calls Try.prog 14 #[.slice a len cap] w fun e w' => ∃ (g c : Nat) (Q : Nat → Int), (∀ i, i < 12 → 0 ≤ Q i ∧ Q i < 10000) ∧ (∀ i, i < 12 → w'.cell? ⟨g, i, none⟩ = some (.int .i64 (Q i))) ∧ e = .returned (.slice (some ⟨g, 0, none⟩) 12 c) ∧ w.heap.size ≤ g ∧ g < w'.heap.size ∧ Below w.heap.size w w' := by
  obtain ⟨i0, hi0, hz0, hz1, hz2⟩ := info_parts info3
  have HR := Lib.hid hr
  clear hr
  go_enter Try.func14, Try.ntmps14
  go_wp2_with fail
  (refine (new_any w _ _ _ z HR.out).mono ?_; rintro e w1 ⟨rfl, dr⟩)
  have hd0 := dr.same
  have hs1 := dr.below.size
  have hs2 := dr.here
  go_wp2_with fail
  go_loopw [4, 5] (fun v i wr => ∃ (k : Nat) (X : Nat → Int), k ≤ 12 ∧ i = .int .i64 (k : Int) ∧ (∀ j, j < k → 0 ≤ X j ∧ X j < 10000) ∧ wr.ownsRow w1.heap.size 3 1 v k (flat (ic X) k) ∧ w1.heap.size ≤ wr.heap.size ∧ Drawn w a len cap z w.heap.size w1 wr) (fun _ i _ => 12 - (intOf i).toNat)
  case atStart => exact ⟨0, fun _ => 0, by omega, rfl, fun j hj => by omega, World.ownsRow_made w1 #[] 0 (Nat.le_refl _) (by decide) (by simp), by simp, hd0.alloc _⟩
  case round =>
    obtain ⟨k, X, hk, rfl, hX, hown, hws, hd⟩ := hrel
    have HX := Lib.hid hX
    clear hX
    by_cases hlt : k < 12
    · have hlt' : (k : Int) < 12 := by omega
      go_wp2_with (first
        | (go_at_call 46; refine (below_on w wr _ _ a len cap z 10000 hd.1.same).mono ?_; rintro e w2 ⟨x, hx, rfl, d1⟩; have hown1 := hown.kept d1.2 (.inr fun e => by have := (hown.lt _ e).1; omega); have hd1 := hd.trans d1; have hsz1 := d1.2.size; have hsz := hd.2.size)
        | (at_builtin; refine wpList_append_own _ rfl _ _ 24 rfl w1.heap.size 3 i0 (.int .i64 0) 1 8 Try.underlying24 hi0 hz0 hz1 hz2 rfl (by decide) _ _ _ rfl (hown1.alloc _) ⟨w2.heap.size, 0, none⟩ 1 1 [.int .i64 x] rfl rfl ?c1 ?c2 ?c3 ?c4 ?c5 ?_))
      case c1 => exact World.news_of_block (cs := #[.int .i64 x]) (t := 3) (fr := (0, 0)) (heap_alloc_new w2 _)
      case c2 => simp [Value.oneCell']
      case c3 => unfold maxLen; omega
      case c4 => omega
      case c5 => simp; omega
      intro v2 w3 hown2 hgrow _
      have hd2 := (hd1.alloc (.cells #[.int .i64 x] 3)).grown hgrow (fun q hq => by have := (hown1.lt q hq).1; omega)
      have hws2 : w1.heap.size ≤ w3.heap.size := by have := hgrow.size; simp at this; omega
      rw [flat_pt] at hown2
      have hx2 : ∀ j, j < k + 1 → 0 ≤ pt X k x j ∧ pt X k x j < 10000 := by
        intro j hj
        by_cases e : j < k
        · rw [pt_lt x e]; exact HX.out j e
        · obtain rfl : j = k := by omega
          rw [pt_at]; exact ⟨hx.1, hx.2.1 (by omega)⟩
      have HX2 := Lib.hid (And.intro hx2 (And.intro hown2 (And.intro hws2 hd2)))
      clear hown hown1 hown2 hd hd1 hgrow d1 hx2 hx hws2 hd2
      go_wp2
      go_roundw
      case rel => exact ⟨k + 1, _, by omega, by go_num, HX2.out.1, HX2.out.2.1, HX2.out.2.2.1, HX2.out.2.2.2⟩
      case measure => simp [intOf]; omega
    · obtain rfl : k = 12 := by omega
      rcases (Slab.of_owns hown (ic_len X)).writes with ⟨h0, _⟩ | ⟨g, c, hv, hg, W1⟩
      · omega
      subst hv
      have H := Lib.hid (And.intro W1 (And.intro hd.1.below HX.out))
      have hgl := W1.here
      clear W1 hd hown
      go_wp2
      go_ret
      exact ⟨g, c, X, H.out.2.2, fun i hi => ic_cell H.out.1 hi, rfl, by omega, hgl, H.out.2.1⟩

end Go.Proofs.Ytnpbhmeanfolnaa.StkDraw
