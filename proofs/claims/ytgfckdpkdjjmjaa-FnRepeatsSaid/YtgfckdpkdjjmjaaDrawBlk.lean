/-
  Drawn blocks (l06Blocks, DrawBlocks): nested blocks of valid tokens; condition: the bytes that came in can be read.
-/
import Derived.Test.YtgfckdpkdjjmjaaTokDraw
import Derived.Test.YtgfckdpkdjjmjaaFlatC
import Derived.Deep.Onto
namespace Go.Proofs.Ytgfckdpkdjjmjaa.DrawBlk
open Go.ChangeShapes Go.WideShapes Go.ChangeAt Go.RowKit
open Kit Draw Scan Slabs Blk DrawTok
set_option linter.unusedVariables false
set_option linter.unusedSimpArgs false
set_option linter.unnecessarySimpa false
set_option maxRecDepth 100000

def repT : Tok := (⟨#[114, 101, 112, 101, 97, 116]⟩, 0)
def endT : Tok := (⟨#[101, 110, 100]⟩, 0)
theorem repT_is : isRep repT = true ∧ tkB repT.1 repT.2 = true := by
  have h : repT.1.toList = [114, 101, 112, 101, 97, 116] := by unfold repT; rw [ByteArray.toList_eq]
  refine ⟨by simp [isRep, h], ?_⟩
  simp only [tkB, h]
  decide +kernel
theorem endT_is : isEnd endT = true ∧ tkB endT.1 endT.2 = true := by
  have h : endT.1.toList = [101, 110, 100] := by unfold endT; rw [ByteArray.toList_eq]
  refine ⟨by simp [isEnd, h], ?_⟩
  simp only [tkB, h]
  decide +kernel

theorem empty_is : (⟨#[]⟩ : ByteArray).toList.isEmpty = true := by rw [ByteArray.toList_eq]; rfl

/-- One block behind a list of blocks. -/
theorem fl_block {a fa b fb : List Tok} {da d n : Nat} (h : Fl a fa da) (k : Fl b fb d) (hn : n ≤ 9) : Fl (a ++ ((⟨#[]⟩, (n : Int)) :: repT :: (b ++ [endT]))) (fa ++ rpt n fb) (max da (d + 1)) := by
  have F : Fl ((⟨#[]⟩, (n : Int)) :: repT :: (b ++ endT :: [])) (rpt n fb ++ []) (max (d + 1) 0) := .rep n empty_is rfl hn repT_is.1 endT_is.1 repT_is.2 endT_is.2 k .nil
  have := fl_append h F
  rw [List.append_nil, Nat.max_zero] at this
  exact this

theorem fl_snoc {a fa : List Tok} {da : Nat} (h : Fl a fa da) {t : Tok} (h1 : isRep t = false) (h2 : isEnd t = false) (h3 : tkB t.1 t.2 = true) : Fl (a ++ [t]) (fa ++ [t]) da := by
  have F : Fl [t] [t] 0 := .tok h1 h2 h3 (fun u q e => by cases e) .nil
  have := fl_append h F
  rwa [Nat.max_zero] at this

/-- The most tokens that are drawn. -/
def mostT : Nat → Nat
  | 0 => 4
  | D + 1 => 4 * (3 + mostT D)

theorem mostT_le {D : Nat} (h : D ≤ 3) : mostT D ≤ 508 := by
  have h4 : D = 0 ∨ D = 1 ∨ D = 2 ∨ D = 3 := by omega
  rcases h4 with rfl | rfl | rfl | rfl <;> decide

theorem in5 {r : Int} (h : Within 5 r) : 0 ≤ r ∧ r ≤ 4 := by obtain ⟨h0, h1, _⟩ := h; have := h1 (by omega); omega
theorem in4 {r : Int} (h : Within 4 r) : 0 ≤ r ∧ r ≤ 3 := by obtain ⟨h0, h1, _⟩ := h; have := h1 (by omega); omega

set_option maxHeartbeats 8000000 in
theorem blocks_on : ∀ (D : Nat), D ≤ 3 → ∀ (W w0 w : World) (b : Nat) (a : Option Addr) (len cap : Nat) (z : List Int), Drawn W a len cap z b w0 w →
    Calls Try.prog 23 #[.pointer (some ⟨b, 0, none⟩), .int .i64 (D : Int)] w fun e w' => ∃ (v : Value) (L f : List Tok) (d : Nat), Fl L f d ∧ d ≤ D ∧ L.length ≤ mostT D ∧ e = .returned v ∧ w'.ownsRow w.heap.size 31 2 v L.length (cellsL L) ∧ v ≠ .slice none 0 0 ∧ Drawn W a len cap z b w0 w' := by
  intro D
  induction D with
  | zero =>
    intro _ W w0 w b a len cap z d
    obtain ⟨i0, hi0, hz0, hz1, hz2⟩ := info_parts info_tk
    have hb := d.1.here
    have hW := Nat.le_trans d.1.far (Nat.le_of_lt d.1.here)
    have hw0 := d.2.size
    have d0 := d.alloc (.cells #[] 31)
    have ho0 := World.ownsRow_made w #[] (e := 31) (size := 2) 0 (Nat.le_refl _) (by decide) (by simp)
    clear d
    go_enter Try.func23, Try.ntmps23
    go_wp2_with fail
    (refine (below_on W _ _ b a len cap z 5 d0.1.same).mono ?_; rintro e w1 ⟨r, hr, rfl, d1⟩)
    obtain ⟨m, rfl⟩ := Int.eq_ofNat_of_zero_le (in5 hr).1
    have hm := (in5 hr).2
    have hneb : w.heap.size ≠ b := Nat.ne_of_gt hb
    have ho1 : w1.ownsRow w.heap.size 31 2 (.slice (some ⟨w.heap.size, 0, none⟩) 0 0) 0 [] := ho0.kept d1.2 (.inr (by simpa [Value.ownBlock] using hneb))
    have hd1 := d0.trans d1
    have hs1 : w.heap.size ≤ w1.heap.size := by have := d1.2.size; simp at this; omega
    have H1 := Lib.hid (And.intro ho1 hd1)
    clear d0 d1 ho0 ho1 hd1 hr
    go_wp2_with fail
    go_loopw [5, 7] (fun v i wr => ∃ (k : Nat) (L : List Tok), k ≤ m ∧ L.length = k ∧ i = .int .i64 (k : Int) ∧ Fl L L 0 ∧ wr.ownsRow w.heap.size 31 2 v L.length (cellsL L) ∧ v ≠ .slice none 0 0 ∧ w.heap.size ≤ wr.heap.size ∧ Drawn W a len cap z b w0 wr) (fun _ i _ => m - (intOf i).toNat)
    case atStart => exact ⟨0, [], Nat.zero_le _, rfl, rfl, .nil, H1.out.1, by simp, hs1, H1.out.2⟩
    case round =>
      obtain ⟨k, L, hk, hLk, rfl, hF, hown, hne, hws, hd⟩ := hrel
      have HV := Lib.hid (And.intro hF (And.intro hLk hne))
      have hL4 : L.length ≤ 4 := by omega
      clear hF hne hLk
      by_cases hlt : k < m
      · have hlt' : (k : Int) < (m : Int) := by omega
        go_wp2_with fail
        (refine (token2_on W wr _ b a len cap z hd.1.same).mono ?_; rintro e w3 ⟨s, q, htk, hnb, rfl, d3⟩)
        have hown3 := hown.kept d3.2 (.inr fun e => by have := (hown.lt _ e).1; omega)
        have hd3 := hd.trans d3
        have hs3 := d3.2.size
        have hfl := fl_snoc HV.out.1 (t := (s, q)) hnb.1 hnb.2 htk
        have HF := Lib.hid hfl
        clear d3 hown hd htk hnb hfl
        go_wp2_with (at_builtin; refine wpList_append_own _ rfl _ _ 24 rfl w.heap.size 31 i0 (.agg #[.string ⟨#[]⟩, .int .i64 0]) 2 24 Try.underlying24 hi0 hz0 hz1 hz2 rfl (by decide) _ _ _ rfl ((hown3.alloc _).alloc _) ⟨w3.heap.size + 1, 0, none⟩ 1 1 [.string s, .int .i64 q] rfl rfl (World.news_of_block (cs := #[.string s, .int .i64 q]) (t := 31) (fr := (0, 0)) (by have := heap_alloc_new (w3.alloc (.cells #[.string s, .int .i64 q] 31)) (.cells #[.string s, .int .i64 q] 31); simpa using this)) ?c2 ?c3 ?c4 ?c5 ?_)
        case c2 => simp [Value.oneCell']
        case c3 => unfold maxLen; omega
        case c4 => omega
        case c5 => simp; omega
        intro v2 w4 hown4 hgrow hnil
        have hd4 := ((hd3.alloc (.cells #[.string s, .int .i64 q] 31)).alloc (.cells #[.string s, .int .i64 q] 31)).grown hgrow (fun p hp => by have := (hown3.lt p hp).1; omega)
        have hs4 : w.heap.size ≤ w4.heap.size := by have := hgrow.size; simp at this; omega
        have hown5 : w4.ownsRow w.heap.size 31 2 v2 (L ++ [(s, q)]).length (cellsL (L ++ [(s, q)])) := by rw [cellsL_append, List.length_append]; exact hown4
        have H4 := Lib.hid (And.intro hown5 (And.intro hnil (And.intro hs4 hd4)))
        clear hown3 hown4 hown5 hd3 hgrow hs4 hd4 hnil
        go_wp2
        go_roundw
        case rel => exact ⟨k + 1, L ++ [(s, q)], by omega, by rw [List.length_append, HV.out.2.1]; rfl, by go_num, HF.out, H4.out.1, H4.out.2.1, H4.out.2.2.1, H4.out.2.2.2⟩
        case measure => simp [intOf]; omega
      · obtain rfl : k = m := by omega
        have HX := Lib.hid (And.intro hown hd)
        clear hown hd
        go_wp2
        go_ret
        exact ⟨_, L, L, 0, HV.out.1, Nat.le_refl _, hL4, rfl, HX.out.1, HV.out.2.2, HX.out.2⟩
  | succ D ih =>
    intro hD3 W w0 w b a len cap z d
    have hM := mostT_le (show D ≤ 3 by omega)
    have hD0 : (0 : Int) < ((D + 1 : Nat) : Int) := by omega
    have HI := Lib.hid (ih (by omega))
    clear ih
    obtain ⟨i0, hi0, hz0, hz1, hz2⟩ := info_parts info_tk
    have hb := d.1.here
    have hW := Nat.le_trans d.1.far (Nat.le_of_lt d.1.here)
    have hw0 := d.2.size
    have d0 := d.alloc (.cells #[] 31)
    have ho0 := World.ownsRow_made w #[] (e := 31) (size := 2) 0 (Nat.le_refl _) (by decide) (by simp)
    clear d
    go_enter Try.func23, Try.ntmps23
    go_wp2_with fail
    (refine (below_on W _ _ b a len cap z 5 d0.1.same).mono ?_; rintro e w1 ⟨r, hr, rfl, d1⟩)
    obtain ⟨m, rfl⟩ := Int.eq_ofNat_of_zero_le (in5 hr).1
    have hm := (in5 hr).2
    have hneb : w.heap.size ≠ b := Nat.ne_of_gt hb
    have ho1 : w1.ownsRow w.heap.size 31 2 (.slice (some ⟨w.heap.size, 0, none⟩) 0 0) 0 [] := ho0.kept d1.2 (.inr (by simpa [Value.ownBlock] using hneb))
    have hd1 := d0.trans d1
    have hs1 : w.heap.size ≤ w1.heap.size := by have := d1.2.size; simp at this; omega
    have H1 := Lib.hid (And.intro ho1 hd1)
    clear d0 d1 ho0 ho1 hd1 hr
    obtain ⟨M, hMe⟩ : ∃ M, mostT D = M := ⟨_, rfl⟩
    have hme : mostT (D + 1) = 4 * (3 + M) := by rw [← hMe]; rfl
    have HME := Lib.hid (And.intro hMe hme)
    rw [hMe] at hM
    clear hMe hme
    go_wp2_with fail
    go_loopw [5, 7] (fun v i wr => ∃ (k : Nat) (L f : List Tok) (dd : Nat), k ≤ m ∧ L.length ≤ k * (3 + M) ∧ i = .int .i64 (k : Int) ∧ Fl L f dd ∧ dd ≤ D + 1 ∧ wr.ownsRow w.heap.size 31 2 v L.length (cellsL L) ∧ v ≠ .slice none 0 0 ∧ w.heap.size ≤ wr.heap.size ∧ Drawn W a len cap z b w0 wr) (fun _ i _ => m - (intOf i).toNat)
    case atStart => exact ⟨0, [], [], 0, Nat.zero_le _, Nat.zero_le _, rfl, .nil, Nat.zero_le _, H1.out.1, by simp, hs1, H1.out.2⟩
    case round =>
      obtain ⟨k, L, f, dd, hk, hLk, rfl, hF, hdd, hown, hne, hws, hd⟩ := hrel
      have hk4 : k * (3 + M) ≤ 4 * (3 + M) := Nat.mul_le_mul_right _ (by omega)
      have hk1 : (k + 1) * (3 + M) = k * (3 + M) + (3 + M) := Nat.succ_mul _ _
      have HK1 := Lib.hid hk1
      have HV := Lib.hid (And.intro hF (And.intro hdd hne))
      have hL4 : L.length ≤ 4 * (3 + M) := by omega
      clear hF hne hk1
      by_cases hlt : k < m
      · have hlt' : (k : Int) < (m : Int) := by omega
        go_wp2_with fail
        (refine (once_on W wr _ b a len cap z 4 hd.1.same).mono ?_; rintro e w2 ⟨bb, rfl, d2⟩)
        have hown2 := hown.kept d2.2 (.inr fun e => by have := (hown.lt _ e).1; omega)
        have hd2 := hd.trans d2
        have hs2 := d2.2.size
        clear d2 hown hd
        cases bb
        · go_wp2_with fail
          (refine (token2_on W w2 _ b a len cap z hd2.1.same).mono ?_; rintro e w3 ⟨s, q, htk, hnb, rfl, d3⟩)
          have hown3 := hown2.kept d3.2 (.inr fun e => by have := (hown2.lt _ e).1; omega)
          have hd3 := hd2.trans d3
          have hs3 := d3.2.size
          have hfl := fl_snoc HV.out.1 (t := (s, q)) hnb.1 hnb.2 htk
          have HF := Lib.hid hfl
          clear d3 hown2 hd2 htk hnb hfl
          go_wp2_with (at_builtin; refine wpList_append_own _ rfl _ _ 24 rfl w.heap.size 31 i0 (.agg #[.string ⟨#[]⟩, .int .i64 0]) 2 24 Try.underlying24 hi0 hz0 hz1 hz2 rfl (by decide) _ _ _ rfl ((hown3.alloc _).alloc _) ⟨w3.heap.size + 1, 0, none⟩ 1 1 [.string s, .int .i64 q] rfl rfl (World.news_of_block (cs := #[.string s, .int .i64 q]) (t := 31) (fr := (0, 0)) (by have := heap_alloc_new (w3.alloc (.cells #[.string s, .int .i64 q] 31)) (.cells #[.string s, .int .i64 q] 31); simpa using this)) ?c2 ?c3 ?c4 ?c5 ?_)
          case c2 => simp [Value.oneCell']
          case c3 => unfold maxLen; omega
          case c4 => omega
          case c5 => simp; omega
          intro v2 w4 hown4 hgrow hnil
          have hd4 := ((hd3.alloc (.cells #[.string s, .int .i64 q] 31)).alloc (.cells #[.string s, .int .i64 q] 31)).grown hgrow (fun p hp => by have := (hown3.lt p hp).1; omega)
          have hs4 : w.heap.size ≤ w4.heap.size := by have := hgrow.size; simp at this; omega
          have hown5 : w4.ownsRow w.heap.size 31 2 v2 (L ++ [(s, q)]).length (cellsL (L ++ [(s, q)])) := by rw [cellsL_append, List.length_append]; exact hown4
          have H4 := Lib.hid (And.intro hown5 (And.intro hnil (And.intro hs4 hd4)))
          clear hown3 hown4 hown5 hd3 hgrow hs4 hd4 hnil
          go_wp2
          go_roundw
          case rel => exact ⟨k + 1, L ++ [(s, q)], f ++ [(s, q)], dd, by omega, by rw [List.length_append, HK1.out]; simp; omega, by go_num, HF.out, HV.out.2.1, H4.out.1, H4.out.2.1, H4.out.2.2.1, H4.out.2.2.2⟩
          case measure => simp [intOf]; omega
        · go_wp2_with fail
          (refine (below_on W _ _ b a len cap z 4 hd2.1.same).mono ?_; rintro e w3 ⟨r, hr, rfl, d3⟩)
          obtain ⟨c, rfl⟩ := Int.eq_ofNat_of_zero_le (in4 hr).1
          have hc := (in4 hr).2
          have hown3 := hown2.kept d3.2 (.inr fun e => by have := (hown2.lt _ e).1; omega)
          have hd3 := hd2.trans d3
          have hs3 := d3.2.size
          clear d3 hown2 hd2 hr
          go_wp2_with (at_builtin; refine wpList_append_own _ rfl _ _ 24 rfl w.heap.size 31 i0 (.agg #[.string ⟨#[]⟩, .int .i64 0]) 2 24 Try.underlying24 hi0 hz0 hz1 hz2 rfl (by decide) _ _ _ rfl (hown3.alloc _) ⟨w3.heap.size, 0, none⟩ 2 2 [.string ⟨#[]⟩, .int .i64 (c : Int), .string ⟨#[114, 101, 112, 101, 97, 116]⟩, .int .i64 0] rfl rfl (World.news_of_block (cs := #[.string ⟨#[]⟩, .int .i64 (c : Int), .string ⟨#[114, 101, 112, 101, 97, 116]⟩, .int .i64 0]) (t := 31) (fr := (0, 0)) (heap_alloc_new w3 _)) ?c2 ?c3 ?c4 ?c5 ?_)
          case c2 => simp [Value.oneCell']
          case c3 => unfold maxLen; omega
          case c4 => omega
          case c5 => simp; omega
          intro v4 w4 hown4 hgrow4 hnil4
          have hd4 := (hd3.alloc (.cells #[.string ⟨#[]⟩, .int .i64 (c : Int), .string ⟨#[114, 101, 112, 101, 97, 116]⟩, .int .i64 0] 31)).grown hgrow4 (fun p hp => by have := (hown3.lt p hp).1; omega)
          have hs4 : w.heap.size ≤ w4.heap.size := by have := hgrow4.size; simp at this; omega
          have hown4' : w4.ownsRow w.heap.size 31 2 v4 (L ++ [(⟨#[]⟩, (c : Int)), repT]).length (cellsL (L ++ [(⟨#[]⟩, (c : Int)), repT])) := by rw [cellsL_append, List.length_append]; exact hown4
          clear hown3 hd3 hgrow4 hown4
          go_wp2_with fail
          (refine (HI.out W w4 w4 b a len cap z hd4.1.same).mono ?_; rintro e w5 ⟨vb, Lb, fb, db, Fb, hdb, hLb, rfl, hob, hbne, d5⟩)
          have hown5 := hown4'.kept d5.2 (.inr fun e => by have := (hown4'.lt _ e).1; omega)
          have hd5 := hd4.trans d5
          have hs5 := d5.2.size
          rw [HME.out.1] at hLb
          have hnewF := fl_block HV.out.1 Fb (n := c) (by omega)
          have HF := Lib.hid (And.intro hnewF (show max dd (db + 1) ≤ D + 1 by omega))
          clear d5 hown4' hd4 Fb hnewF
          have hlen5 : (L ++ [(⟨#[]⟩, (c : Int)), repT]).length = L.length + 2 := by simp
          rcases hob.2 with ⟨h1, _⟩ | ⟨gp, cp, cur, h1, _⟩
          · exact absurd h1 hbne
          subst h1
          have hpc := hob.cells (g := gp) rfl
          have HP := Lib.hid hpc
          have HL5 := Lib.hid hlen5
          have hb5 : (L ++ [(⟨#[]⟩, (c : Int)), repT]).length + Lb.length ≤ 100000 := by omega
          clear hpc hob hlen5
          go_wp2_with (at_builtin; refine wpList_append_own _ rfl _ _ 24 rfl w.heap.size 31 i0 (.agg #[.string ⟨#[]⟩, .int .i64 0]) 2 24 Try.underlying24 hi0 hz0 hz1 hz2 rfl (by decide) _ _ _ rfl hown5 ⟨gp, 0, none⟩ Lb.length cp (cellsL Lb) rfl (cellsL_len Lb) HP.out (cellsL_one Lb) ?d3 ?d4 ?d5 ?_)
          case d3 => unfold maxLen; omega
          case d4 => omega
          case d5 => omega
          intro v6 w6 hown6 hgrow6 hnil6
          have hd6 := hd5.grown hgrow6 (fun p hp => by have := (hown5.lt p hp).1; omega)
          have hs6 : w.heap.size ≤ w6.heap.size := by have := hgrow6.size; omega
          have hown6' : w6.ownsRow w.heap.size 31 2 v6 (L ++ (⟨#[]⟩, (c : Int)) :: repT :: Lb).length (cellsL (L ++ (⟨#[]⟩, (c : Int)) :: repT :: Lb)) := by
            have e1 : L ++ (⟨#[]⟩, (c : Int)) :: repT :: Lb = (L ++ [(⟨#[]⟩, (c : Int)), repT]) ++ Lb := by simp
            rw [e1, cellsL_append, List.length_append]
            simp only [List.length_append] at hown6 ⊢
            exact hown6
          have hlen6 : (L ++ (⟨#[]⟩, (c : Int)) :: repT :: Lb).length = L.length + 2 + Lb.length := by simp; omega
          have hb6 : (L ++ (⟨#[]⟩, (c : Int)) :: repT :: Lb).length ≤ 100000 := by omega
          clear hown5 hd5 hgrow6 hown6 hlen6
          go_wp2_with (at_builtin; refine wpList_append_own _ rfl _ _ 24 rfl w.heap.size 31 i0 (.agg #[.string ⟨#[]⟩, .int .i64 0]) 2 24 Try.underlying24 hi0 hz0 hz1 hz2 rfl (by decide) _ _ _ rfl (hown6'.alloc _) ⟨w6.heap.size, 0, none⟩ 1 1 [.string ⟨#[101, 110, 100]⟩, .int .i64 0] rfl rfl (World.news_of_block (cs := #[.string ⟨#[101, 110, 100]⟩, .int .i64 0]) (t := 31) (fr := (0, 0)) (heap_alloc_new w6 _)) ?c2 ?c3 ?c4 ?c5 ?_)
          case c2 => simp [Value.oneCell']
          case c3 => unfold maxLen; omega
          case c4 => omega
          case c5 => simp; omega
          intro v7 w7 hown7 hgrow7 hnil7
          have hd7 := (hd6.alloc (.cells #[.string ⟨#[101, 110, 100]⟩, .int .i64 0] 31)).grown hgrow7 (fun p hp => by have := (hown6'.lt p hp).1; omega)
          have hs7 : w.heap.size ≤ w7.heap.size := by have := hgrow7.size; simp at this; omega
          have hown7' : w7.ownsRow w.heap.size 31 2 v7 (L ++ (⟨#[]⟩, (c : Int)) :: repT :: (Lb ++ [endT])).length (cellsL (L ++ (⟨#[]⟩, (c : Int)) :: repT :: (Lb ++ [endT]))) := by
            have e1 : L ++ (⟨#[]⟩, (c : Int)) :: repT :: (Lb ++ [endT]) = (L ++ (⟨#[]⟩, (c : Int)) :: repT :: Lb) ++ [endT] := by simp
            rw [e1, cellsL_append, List.length_append]
            simp only [List.length_append] at hown7 ⊢
            exact hown7
          have hlen7 : (L ++ (⟨#[]⟩, (c : Int)) :: repT :: (Lb ++ [endT])).length ≤ (k + 1) * (3 + M) := by rw [HK1.out]; simp; omega
          have H7 := Lib.hid (And.intro hown7' (And.intro hnil7 (And.intro hs7 (And.intro hd7 hlen7))))
          clear hown6' hd6 hown7 hgrow7 hnil7 hs7 hd7 hown7' hlen7
          go_wp2
          go_roundw
          case rel => exact ⟨k + 1, _, _, _, by omega, H7.out.2.2.2.2, by go_num, HF.out.1, HF.out.2, H7.out.1, H7.out.2.1, H7.out.2.2.1, H7.out.2.2.2.1⟩
          case measure => simp [intOf]; omega
      · obtain rfl : k = m := by omega
        have HX := Lib.hid (And.intro hown hd)
        clear hown hd
        go_wp2
        go_ret
        exact ⟨_, L, f, dd, HV.out.1, HV.out.2.1, by rw [HME.out.2]; exact hL4, rfl, HX.out.1, HV.out.2.2, HX.out.2⟩

theorem drawblocks_any (w : World) (a : Option Addr) (len cap : Nat) (z : List Int) (hr : IsRow .u8 w a len cap z) :
    Calls Try.prog 9 #[.slice a len cap] w fun e w' => ∃ (v : Value) (L f : List Tok) (d : Nat), Fl L f d ∧ d ≤ 2 ∧ L.length ≤ 124 ∧ e = .returned v ∧ w'.ownsRow w.heap.size 31 2 v L.length (cellsL L) ∧ v ≠ .slice none 0 0 ∧ Below w.heap.size w w' := by
  have HR := Lib.hid hr
  clear hr
  go_enter Try.func9, Try.ntmps9
  go_wp2_with fail
  (refine (new_any w _ _ _ z HR.out).mono ?_; rintro e w1 ⟨rfl, dr⟩)
  have hs1 := dr.below.size
  go_wp2_with fail
  (refine (blocks_on 2 (by omega) w _ _ _ a len cap z dr.same).mono ?_; rintro e w2 ⟨v, L, f, d, F, hd2, hL, rfl, ho, hne, d2⟩)
  have H2 := Lib.hid (And.intro ho (And.intro d2 (And.intro F hne)))
  clear ho d2 F hne
  go_wp2
  go_ret
  exact ⟨v, L, f, d, H2.out.2.2.1, hd2, hL, rfl, World.ownsRow.mono H2.out.1 hs1, H2.out.2.2.2, H2.out.2.1.1.below⟩

end Go.Proofs.Ytgfckdpkdjjmjaa.DrawBlk
