/-
  Drawn tokens (l04Token, DrawTokens): valid ones; condition: the bytes that came in can be read.
-/
import Derived.Test.YtkkflpjpijnalaaDoorDrawPlus
import Derived.Test.YtkkflpjpijnalaaDoorFmt
import Derived.Deep.AppendLies
namespace Go.Proofs.YtkkflpjpijnalaaDoor.DrawTok
open Go.ChangeShapes Go.WideShapes Go.ChangeAt Go.RowKit
open Kit Draw Scan Fmt Slabs
open Split (byt byt_in byt_end)
set_option linter.unusedVariables false
set_option linter.unusedSimpArgs false
set_option linter.unnecessarySimpa false
set_option maxRecDepth 100000

theorem name_ne {x : ByteArray} (h : nameB x = true) : x.toList.isEmpty = false := by
  have h1 := ((nameB_iff x).1 h).1
  cases h2 : x.toList.isEmpty
  · rfl
  · rw [List.isEmpty_iff] at h2
    rw [ByteArray.toList_eq] at h2
    have h4 : x.size = 0 := by rw [show x.size = x.data.toList.length by simp, h2]; rfl
    omega

theorem tk_num {q : Int} (h : -999 ≤ q ∧ q ≤ 999) : tkB ⟨#[]⟩ q = true := by
  have : (⟨#[]⟩ : ByteArray).toList.isEmpty = true := by rw [ByteArray.toList_eq]; rfl
  simp [tkB, this]; omega

theorem tk_name {x : ByteArray} (h : nameB x = true) : tkB x 0 = true := by
  simp [tkB, name_ne h, h]

theorem pickS_on (P : ByteArray → Prop) (W w0 w : World) (b : Nat) (a : Option Addr) (len cap : Nat) (z : List Int) (g n c : Nat) (hg : g ≠ b) (hn : 0 < n) (hm : n ≤ 1000000) (hc : ∀ k, k < n → ∃ q : ByteArray, P q ∧ w.cell? ⟨g, k, none⟩ = some (.string q)) (d : Drawn W a len cap z b w0 w) :
    Calls Tryd.prog 37 #[.pointer (some ⟨b, 0, none⟩), .slice (some ⟨g, 0, none⟩) n c] w fun e w' => ∃ q : ByteArray, P q ∧ e = .returned (.string q) ∧ Drawn W a len cap z b w0 w' := by
  have HC : Hid (∀ k, k < n → ∃ q : ByteArray, P q ∧ w.cell? ⟨g, k, none⟩ = some (.string q)) := hc
  clear hc
  have d0 := d.1.same
  have HD : Hid (Drawn W a len cap z b w0 w) := d
  clear d
  go_enter Tryd.func37, Tryd.ntmps37
  go_wp2_with (go_at_call 20; refine (below_on W w _ b a len cap z n (by assumption)).mono ?_; rintro e w' ⟨r, hr, rfl, d1⟩; obtain ⟨k, rfl⟩ := Int.eq_ofNat_of_zero_le hr.1; have hk : (k : Int) < n := hr.2.1 (by omega); obtain ⟨q, hq, hcq⟩ := HC.out k (by omega); have hcq' := d1.2.cell hcq (by intro e; exact hg (by simpa using e)))
  go_ret
  exact ⟨_, hq, rfl, HD.out.trans d1⟩

def nameCells : Array Value := #[.string ⟨#[109, 111, 118, 101, 116, 111]⟩, .string ⟨#[108, 105, 110, 101, 116, 111]⟩, .string ⟨#[102, 105, 108, 108]⟩, .string ⟨#[103, 114, 97, 121]⟩, .string ⟨#[114, 101, 99, 116]⟩, .string ⟨#[115, 97, 118, 101]⟩, .string ⟨#[114, 101, 115, 116, 111, 114, 101]⟩, .string ⟨#[115, 104, 105, 102, 116]⟩, .string ⟨#[116, 117, 114, 110]⟩, .string ⟨#[115, 99, 97, 108, 101]⟩, .string ⟨#[99, 108, 105, 112]⟩, .string ⟨#[97, 100, 100]⟩, .string ⟨#[115, 117, 98]⟩, .string ⟨#[100, 117, 112]⟩, .string ⟨#[112, 111, 112]⟩, .string ⟨#[101, 120, 99, 104]⟩, .string ⟨#[110, 101, 119]⟩]

theorem names_are : ∀ k, k < 17 → ∃ q : ByteArray, nameB q = true ∧ nameCells[k]? = some (.string q) := by
  intro k hk
  have h : k = 0 ∨ k = 1 ∨ k = 2 ∨ k = 3 ∨ k = 4 ∨ k = 5 ∨ k = 6 ∨ k = 7 ∨ k = 8 ∨ k = 9 ∨ k = 10 ∨ k = 11 ∨ k = 12 ∨ k = 13 ∨ k = 14 ∨ k = 15 ∨ k = 16 := by omega
  rcases h with rfl | rfl | rfl | rfl | rfl | rfl | rfl | rfl | rfl | rfl | rfl | rfl | rfl | rfl | rfl | rfl | rfl
  all_goals exact ⟨_, by decide +kernel, rfl⟩

theorem names_any (w : World) : Calls Tryd.prog 38 #[] w fun e w' => e = .returned (.slice (some ⟨w.heap.size, 0, none⟩) 17 17) ∧ w' = w.alloc (.cells nameCells 9) := by
  go_enter Tryd.func38, Tryd.ntmps38
  go_wp2
  go_ret
  exact ⟨rfl, rfl⟩

theorem five_cells (w : World) (T : TypeId) (r s : Int) (hr : 0 ≤ r ∧ r ≤ 32) (hs : 0 ≤ s ∧ s ≤ 32) : ∀ k, k < 5 → ∃ q : Int, (-999 ≤ q ∧ q ≤ 999) ∧ (w.alloc (.cells #[.int .i64 0, .int .i64 8, .int .i64 r, .int .i64 s, .int .i64 (-4)] T)).cell? ⟨w.heap.size, k, none⟩ = some (.int .i64 q) := by
  intro k hk
  have h : k = 0 ∨ k = 1 ∨ k = 2 ∨ k = 3 ∨ k = 4 := by omega
  rcases h with rfl | rfl | rfl | rfl | rfl
  · exact ⟨0, by omega, by simp [go_sem]⟩
  · exact ⟨8, by omega, by simp [go_sem]⟩
  · exact ⟨r, by omega, by simp [go_sem]⟩
  · exact ⟨s, by omega, by simp [go_sem]⟩
  · exact ⟨-4, by omega, by simp [go_sem]⟩

theorem in33 {r : Int} (h : Within 33 r) : 0 ≤ r ∧ r ≤ 32 := by obtain ⟨h0, h1, _⟩ := h; have := h1 (by omega); omega

set_option maxHeartbeats 2000000 in
theorem token_on (W w0 w : World) (b : Nat) (a : Option Addr) (len cap : Nat) (z : List Int) (d : Drawn W a len cap z b w0 w) :
    Calls Tryd.prog 21 #[.pointer (some ⟨b, 0, none⟩)] w fun e w' => ∃ (s : ByteArray) (n : Int), tkB s n = true ∧ e = .returned (.agg #[.string s, .int .i64 n]) ∧ Drawn W a len cap z b w0 w' := by
  have hne := d.ne
  have D := (d.alloc (.cells #[.string ⟨#[]⟩, .int .i64 0] 31)).1.same
  have hW := Nat.le_trans d.1.far (Nat.le_of_lt d.1.here)
  have hw0 := d.2.size
  have HD := Lib.hid d
  clear d
  have k0 : (w.alloc (.cells #[.string ⟨#[]⟩, .int .i64 0] 31)).cell? ⟨w.heap.size, 0, none⟩ = some (.string ⟨#[]⟩) := by simp [go_sem]
  have k1 : (w.alloc (.cells #[.string ⟨#[]⟩, .int .i64 0] 31)).cell? ⟨w.heap.size, 1, none⟩ = some (.int .i64 0) := by simp [go_sem]
  have HK := Lib.hid (And.intro k0 k1)
  clear k0 k1
  go_enter Tryd.func21, Tryd.ntmps21
  go_wp2_with fail
  (refine (once_on W _ _ b a len cap z 2 D).mono ?_; rintro e w1 ⟨bb, rfl, d1⟩)
  cases bb
  · go_wp2_with fail
    (refine (names_any _).mono ?_; rintro e w2 ⟨rfl, rfl⟩)
    have d2 := d1.alloc (.cells nameCells 9)
    go_wp2_with fail
    (refine (pickS_on (fun q => nameB q = true) W _ _ b a len cap z _ 17 17 d1.ne (by decide) (by decide) (fun k hk => by obtain ⟨q, hq, hc⟩ := names_are k hk; exact ⟨q, hq, by rw [World.cell?_alloc_new]; exact hc⟩) d2).mono ?_; rintro e w3 ⟨x, hx, rfl, d3⟩)
    have c0 := d3.keeps HK.out.1 hne
    have c1 := d3.keeps HK.out.2 hne
    have fr : ∀ o, w3.frozen? ⟨w.heap.size, o, none⟩ = false := fun o => d3.thaws (by simp) (by simp [go_sem]) hne
    have d7 := (HD.out.alloc (.cells #[.string ⟨#[]⟩, .int .i64 0] 31)).trans d3
    go_wp2_with fail
    refine bodyPost_ret (by simp [results, Tryd.results21, go_sem, *]; try rfl) rfl ?_
    exact ⟨x, 0, tk_name hx, rfl, (d7.setNew hw0 hW hne _ _).setNew hw0 hW hne _ _⟩
  · go_wp2_with fail
    (refine (below_on W _ _ b a len cap z 33 d1).mono ?_; rintro e w2 ⟨r2, hr2, rfl, d2⟩)
    go_wp2_with fail
    (refine (below_on W _ _ b a len cap z 33 d2).mono ?_; rintro e w3 ⟨r3, hr3, rfl, d3⟩)
    go_wp2_with fail
    (refine (pickP_on (fun q => -999 ≤ q ∧ q ≤ 999) W _ _ b a len cap z _ 5 _ (Drawn.ne d3) (by decide) (by decide) (five_cells _ _ _ _ (in33 hr2) (in33 hr3)) (d3.alloc _)).mono ?_; rintro e w4 ⟨x, hx, rfl, d4⟩)
    have c0 := d4.keeps HK.out.1 hne
    have c1 := d4.keeps HK.out.2 hne
    have fr : ∀ o, w4.frozen? ⟨w.heap.size, o, none⟩ = false := fun o => d4.thaws (by simp) (by simp [go_sem]) hne
    have d7 := (HD.out.alloc (.cells #[.string ⟨#[]⟩, .int .i64 0] 31)).trans d4
    go_wp2_with fail
    refine bodyPost_ret (by simp [results, Tryd.results21, go_sem, *]; try rfl) rfl ?_
    exact ⟨⟨#[]⟩, x, tk_num hx, rfl, (d7.setNew hw0 hW hne _ _).setNew hw0 hW hne _ _⟩

/-- The first n elements are valid tokens. -/
def Valid (S : Nat → ByteArray) (N : Nat → Int) (n : Nat) : Prop := ∀ i, i < n → tkB (S i) (N i) = true

/-- One more element. -/
def put {α : Type} (S : Nat → α) (k : Nat) (x : α) (i : Nat) : α := if i = k then x else S i

theorem put_at {α : Type} (S : Nat → α) (k : Nat) (x : α) : put S k x k = x := by simp [put]
theorem put_lt {α : Type} (S : Nat → α) {k i : Nat} (x : α) (h : i < k) : put S k x i = S i := by simp [put]; omega

theorem flat_same {F G : Nat → List Value} {n : Nat} (h : ∀ i, i < n → F i = G i) : flat F n = flat G n := by
  induction n with
  | zero => rfl
  | succ n ih => rw [flat_succ, flat_succ, ih (fun i hi => h i (by omega)), h n (by omega)]

theorem flat_put (S : Nat → ByteArray) (N : Nat → Int) (k : Nat) (x : ByteArray) (m : Int) : flat (tc (put S k x) (put N k m)) (k + 1) = flat (tc S N) k ++ [.string x, .int .i64 m] := by
  rw [flat_succ, flat_same (G := tc S N) (fun i hi => by simp only [tc, put_lt S x hi, put_lt N m hi])]
  simp only [tc, put_at]

theorem in20 {r : Int} (h : Within 20 r) : 0 ≤ r ∧ r ≤ 19 := by obtain ⟨h0, h1, _⟩ := h; have := h1 (by omega); omega

theorem info_tok : (Tryd.prog.info? 31).map (fun i => (i.zero, i.size, i.bytes)) = some (some (.agg #[.string ⟨#[]⟩, .int .i64 0]), 2, 24) := by kernel_rfl

set_option maxHeartbeats 2000000 in
theorem tokens_any (w : World) (a : Option Addr) (len cap : Nat) (z : List Int) (hr : IsRow .u8 w a len cap z) :
    Calls Tryd.prog 7 #[.slice a len cap] w fun e w' => ∃ (v : Value) (n : Nat) (S : Nat → ByteArray) (N : Nat → Int), n ≤ 19 ∧ Valid S N n ∧ e = .returned v ∧ Slab w' w.heap.size v n 2 (tc S N) ∧ Below w.heap.size w w' := by
  obtain ⟨i0, hi0, hz0, hz1, hz2⟩ := info_parts info_tok
  have HR := Lib.hid hr
  clear hr
  go_enter Tryd.func7, Tryd.ntmps7
  go_wp2_with fail
  (refine (new_any w _ _ _ z HR.out).mono ?_; rintro e w1 ⟨rfl, dr⟩)
  have hd0 := dr.same
  have hs1 := dr.below.size
  have hs2 := dr.here
  have hd1 := hd0.alloc (.cells #[] 31)
  have ho1 := World.ownsRow_made w1 #[] (e := 31) (size := 2) 0 (Nat.le_refl _) (by decide) (by simp)
  go_wp2_with fail
  (refine (below_on w _ _ _ a len cap z 20 hd1.1.same).mono ?_; rintro e w2 ⟨r, hr, rfl, d2⟩)
  obtain ⟨m, rfl⟩ := Int.eq_ofNat_of_zero_le (in20 hr).1
  have hm := (in20 hr).2
  have hne1 : w1.heap.size ≠ w.heap.size := by omega
  have ho2 : w2.ownsRow w1.heap.size 31 2 (.slice (some ⟨w1.heap.size, 0, none⟩) 0 0) 0 [] := ho1.kept d2.2 (.inr (by simpa [Value.ownBlock] using hne1))
  have hd2 := hd1.trans d2
  have hs3 : w1.heap.size ≤ w2.heap.size := by have := d2.2.size; simp at this; omega
  clear hd0 hd1 ho1 d2 hr dr
  have H2 := Lib.hid (And.intro ho2 hd2)
  clear ho2 hd2
  go_wp2_with fail
  go_loopw [4, 6, 7] (fun v i _ wr => ∃ (k : Nat) (S : Nat → ByteArray) (N : Nat → Int), k ≤ m ∧ i = .int .i64 (k : Int) ∧ Valid S N k ∧ wr.ownsRow w1.heap.size 31 2 v k (flat (tc S N) k) ∧ w1.heap.size ≤ wr.heap.size ∧ Drawn w a len cap z w.heap.size w1 wr) (fun _ i _ _ => m - (intOf i).toNat)
  case atStart => exact ⟨0, fun _ => ⟨#[]⟩, fun _ => 0, Nat.zero_le _, rfl, fun i hi => by omega, H2.out.1, hs3, H2.out.2⟩
  case round =>
    obtain ⟨k, S, N, hk, rfl, hv, hown, hws, hd⟩ := hrel
    have HV := Lib.hid hv
    clear hv
    by_cases hlt : k < m
    · have hlt' : (k : Int) < (m : Int) := by omega
      go_wp2_with (first
        | (go_at_call 21; refine (token_on w wr _ _ a len cap z hd.1.same).mono ?_; rintro e w3 ⟨x, q, hx, rfl, d3⟩; have hown3 := hown.kept d3.2 (.inr fun e => by have := (hown.lt _ e).1; omega); have hd3 := hd.trans d3; have hsz3 := d3.2.size; have hsz := hd.2.size)
        | (at_builtin; refine wpList_append_own _ rfl _ _ 24 rfl w1.heap.size 31 i0 (.agg #[.string ⟨#[]⟩, .int .i64 0]) 2 24 Tryd.underlying24 hi0 hz0 hz1 hz2 rfl (by decide) _ _ _ rfl ((hown3.alloc _).alloc _) ⟨w3.heap.size + 1, 0, none⟩ 1 1 [.string x, .int .i64 q] rfl rfl ?c1 ?c2 ?c3 ?c4 ?c5 ?_))
      case c1 => exact World.news_of_block (cs := #[.string x, .int .i64 q]) (t := 31) (fr := (0, 0)) (by have := heap_alloc_new (w3.alloc (.cells #[.string x, .int .i64 q] 31)) (.cells #[.string x, .int .i64 q] 31); simpa using this)
      case c2 => simp [Value.oneCell']
      case c3 => unfold maxLen; omega
      case c4 => omega
      case c5 => simp; omega
      intro v2 w4 hown4 hgrow _
      have hd4 := ((hd3.alloc (.cells #[.string x, .int .i64 q] 31)).alloc (.cells #[.string x, .int .i64 q] 31)).grown hgrow (fun q hq => by have := (hown3.lt q hq).1; omega)
      have hws4 : w1.heap.size ≤ w4.heap.size := by have := hgrow.size; simp at this; omega
      have hrel4 : w4.ownsRow w1.heap.size 31 2 v2 (k + 1) (flat (tc (put S k x) (put N k q)) (k + 1)) := by rw [flat_put]; exact hown4
      have hv4 : Valid (put S k x) (put N k q) (k + 1) := by
        intro i hi
        by_cases e : i < k
        · rw [put_lt S x e, put_lt N q e]; exact HV.out i e
        · obtain rfl : i = k := by omega
          rw [put_at, put_at]; exact hx
      have H4 := Lib.hid (And.intro hv4 (And.intro hrel4 (And.intro hws4 hd4)))
      clear hown hown3 hown4 hd hd3 hgrow d3 hrel4 hws4 hd4 hv4 hx
      go_wp2
      go_roundw
      case rel => exact ⟨k + 1, _, _, by omega, by go_num, H4.out.1, H4.out.2.1, H4.out.2.2.1, H4.out.2.2.2⟩
      case measure => simp [intOf]; omega
    · obtain rfl : k = m := by omega
      have HX := Lib.hid (And.intro hown hd.1.below)
      clear hown hd
      go_wp2
      go_ret
      exact ⟨_, k, S, N, by omega, HV.out, rfl, (Slab.of_owns HX.out.1 (tc_len _ _)).weaken (by omega), HX.out.2⟩

end Go.Proofs.YtkkflpjpijnalaaDoor.DrawTok
