/-
  A drawn token (l04Token): a valid one.
-/
import Derived.Test.YtgfckdpkdjjmjaaDrawPlus
import Derived.Test.YtgfckdpkdjjmjaaName
import Derived.Deep.AppendLies
namespace Go.Proofs.Ytgfckdpkdjjmjaa.DrawTok
open Go.ChangeShapes Go.WideShapes Go.ChangeAt Go.RowKit
open Kit Draw Scan
open Split (byt byt_in byt_end)
set_option linter.unusedVariables false
set_option linter.unusedSimpArgs false
set_option linter.unnecessarySimpa false
set_option maxRecDepth 100000

theorem name_ne {x : ByteArray} (h : nameB x = true) : x.toList.isEmpty = false := by
  have h1 := ((nameB_iff x).1 h).1
  cases h2 : x.toList.isEmpty
  · rfl
  · rw [List.isEmpty_iff] at h2
    rw [ByteArray.toList_eq] at h2
    have h4 : x.size = 0 := by rw [show x.size = x.data.toList.length by simp, h2]; rfl
    omega

theorem tk_num {q : Int} (h : -999 ≤ q ∧ q ≤ 999) : tkB ⟨#[]⟩ q = true := by
  have : (⟨#[]⟩ : ByteArray).toList.isEmpty = true := by rw [ByteArray.toList_eq]; rfl
  simp [tkB, this]; omega

theorem tk_name {x : ByteArray} (h : nameB x = true) : tkB x 0 = true := by
  simp [tkB, name_ne h, h]

theorem pickS_on (P : ByteArray → Prop) (W w0 w : World) (b : Nat) (a : Option Addr) (len cap : Nat) (z : List Int) (g n c : Nat) (hg : g ≠ b) (hn : 0 < n) (hm : n ≤ 1000000) (hc : ∀ k, k < n → ∃ q : ByteArray, P q ∧ w.cell? ⟨g, k, none⟩ = some (.string q)) (d : Drawn W a len cap z b w0 w) :
    Calls Try.prog 47 #[.pointer (some ⟨b, 0, none⟩), .slice (some ⟨g, 0, none⟩) n c] w fun e w' => ∃ q : ByteArray, P q ∧ e = .returned (.string q) ∧ Drawn W a len cap z b w0 w' := by
  have HC : Hid (∀ k, k < n → ∃ q : ByteArray, P q ∧ w.cell? ⟨g, k, none⟩ = some (.string q)) := hc
  clear hc
  have d0 := d.1.same
  have HD : Hid (Drawn W a len cap z b w0 w) := d
  clear d
  go_enter Try.func47, Try.ntmps47
  go_wp2_with (go_at_call 37; refine (below_on W w _ b a len cap z n (by assumption)).mono ?_; rintro e w' ⟨r, hr, rfl, d1⟩; obtain ⟨k, rfl⟩ := Int.eq_ofNat_of_zero_le hr.1; have hk : (k : Int) < n := hr.2.1 (by omega); obtain ⟨q, hq, hcq⟩ := HC.out k (by omega); have hcq' := d1.2.cell hcq (by intro e; exact hg (by simpa using e)))
  go_ret
  exact ⟨_, hq, rfl, HD.out.trans d1⟩

def nameCells : Array Value := #[.string ⟨#[109, 111, 118, 101, 116, 111]⟩, .string ⟨#[108, 105, 110, 101, 116, 111]⟩, .string ⟨#[102, 105, 108, 108]⟩, .string ⟨#[103, 114, 97, 121]⟩, .string ⟨#[114, 101, 99, 116]⟩, .string ⟨#[115, 97, 118, 101]⟩, .string ⟨#[114, 101, 115, 116, 111, 114, 101]⟩, .string ⟨#[115, 104, 105, 102, 116]⟩, .string ⟨#[116, 117, 114, 110]⟩, .string ⟨#[115, 99, 97, 108, 101]⟩, .string ⟨#[99, 108, 105, 112]⟩, .string ⟨#[97, 100, 100]⟩, .string ⟨#[115, 117, 98]⟩, .string ⟨#[100, 117, 112]⟩, .string ⟨#[112, 111, 112]⟩, .string ⟨#[101, 120, 99, 104]⟩, .string ⟨#[110, 101, 119]⟩]

/-- Neither a repeat nor an end. -/
def NotBlk (q : ByteArray) : Prop := (q.toList == [114, 101, 112, 101, 97, 116]) = false ∧ (q.toList == [101, 110, 100]) = false

theorem names_are : ∀ k, k < 17 → ∃ q : ByteArray, (nameB q = true ∧ NotBlk q) ∧ nameCells[k]? = some (.string q) := by
  intro k hk
  have h : k = 0 ∨ k = 1 ∨ k = 2 ∨ k = 3 ∨ k = 4 ∨ k = 5 ∨ k = 6 ∨ k = 7 ∨ k = 8 ∨ k = 9 ∨ k = 10 ∨ k = 11 ∨ k = 12 ∨ k = 13 ∨ k = 14 ∨ k = 15 ∨ k = 16 := by omega
  rcases h with rfl | rfl | rfl | rfl | rfl | rfl | rfl | rfl | rfl | rfl | rfl | rfl | rfl | rfl | rfl | rfl | rfl
  all_goals exact ⟨_, ⟨by decide +kernel, by constructor <;> (rw [ByteArray.toList_eq]; decide)⟩, rfl⟩

theorem names_any (w : World) : Calls Try.prog 48 #[] w fun e w' => e = .returned (.slice (some ⟨w.heap.size, 0, none⟩) 17 17) ∧ w' = w.alloc (.cells nameCells 9) := by
  go_enter Try.func48, Try.ntmps48
  go_wp2
  go_ret
  exact ⟨rfl, rfl⟩

theorem five_cells (w : World) (T : TypeId) (r s : Int) (hr : 0 ≤ r ∧ r ≤ 32) (hs : 0 ≤ s ∧ s ≤ 32) : ∀ k, k < 5 → ∃ q : Int, (-999 ≤ q ∧ q ≤ 999) ∧ (w.alloc (.cells #[.int .i64 0, .int .i64 8, .int .i64 r, .int .i64 s, .int .i64 (-4)] T)).cell? ⟨w.heap.size, k, none⟩ = some (.int .i64 q) := by
  intro k hk
  have h : k = 0 ∨ k = 1 ∨ k = 2 ∨ k = 3 ∨ k = 4 := by omega
  rcases h with rfl | rfl | rfl | rfl | rfl
  · exact ⟨0, by omega, by simp [go_sem]⟩
  · exact ⟨8, by omega, by simp [go_sem]⟩
  · exact ⟨r, by omega, by simp [go_sem]⟩
  · exact ⟨s, by omega, by simp [go_sem]⟩
  · exact ⟨-4, by omega, by simp [go_sem]⟩

theorem in33 {r : Int} (h : Within 33 r) : 0 ≤ r ∧ r ≤ 32 := by obtain ⟨h0, h1, _⟩ := h; have := h1 (by omega); omega

set_option maxHeartbeats 2000000 in
theorem token2_on (W w0 w : World) (b : Nat) (a : Option Addr) (len cap : Nat) (z : List Int) (d : Drawn W a len cap z b w0 w) :
    Calls Try.prog 39 #[.pointer (some ⟨b, 0, none⟩)] w fun e w' => ∃ (s : ByteArray) (n : Int), tkB s n = true ∧ NotBlk s ∧ e = .returned (.agg #[.string s, .int .i64 n]) ∧ Drawn W a len cap z b w0 w' := by
  have hne := d.ne
  have D := (d.alloc (.cells #[.string ⟨#[]⟩, .int .i64 0] 31)).1.same
  have hW := Nat.le_trans d.1.far (Nat.le_of_lt d.1.here)
  have hw0 := d.2.size
  have HD := Lib.hid d
  clear d
  have k0 : (w.alloc (.cells #[.string ⟨#[]⟩, .int .i64 0] 31)).cell? ⟨w.heap.size, 0, none⟩ = some (.string ⟨#[]⟩) := by simp [go_sem]
  have k1 : (w.alloc (.cells #[.string ⟨#[]⟩, .int .i64 0] 31)).cell? ⟨w.heap.size, 1, none⟩ = some (.int .i64 0) := by simp [go_sem]
  have HK := Lib.hid (And.intro k0 k1)
  clear k0 k1
  go_enter Try.func39, Try.ntmps39
  go_wp2_with fail
  (refine (once_on W _ _ b a len cap z 2 D).mono ?_; rintro e w1 ⟨bb, rfl, d1⟩)
  cases bb
  · go_wp2_with fail
    (refine (names_any _).mono ?_; rintro e w2 ⟨rfl, rfl⟩)
    have d2 := d1.alloc (.cells nameCells 9)
    go_wp2_with fail
    (refine (pickS_on (fun q => nameB q = true ∧ NotBlk q) W _ _ b a len cap z _ 17 17 d1.ne (by decide) (by decide) (fun k hk => by obtain ⟨q, hq, hc⟩ := names_are k hk; exact ⟨q, hq, by rw [World.cell?_alloc_new]; exact hc⟩) d2).mono ?_; rintro e w3 ⟨x, hx, rfl, d3⟩)
    have c0 := d3.keeps HK.out.1 hne
    have c1 := d3.keeps HK.out.2 hne
    have fr : ∀ o, w3.frozen? ⟨w.heap.size, o, none⟩ = false := fun o => d3.thaws (by simp) (by simp [go_sem]) hne
    have d7 := (HD.out.alloc (.cells #[.string ⟨#[]⟩, .int .i64 0] 31)).trans d3
    go_wp2_with fail
    refine bodyPost_ret (by simp [results, Try.results39, go_sem, *]; try rfl) rfl ?_
    exact ⟨x, 0, tk_name hx.1, hx.2, rfl, (d7.setNew hw0 hW hne _ _).setNew hw0 hW hne _ _⟩
  · go_wp2_with fail
    (refine (below_on W _ _ b a len cap z 33 d1).mono ?_; rintro e w2 ⟨r2, hr2, rfl, d2⟩)
    go_wp2_with fail
    (refine (below_on W _ _ b a len cap z 33 d2).mono ?_; rintro e w3 ⟨r3, hr3, rfl, d3⟩)
    go_wp2_with fail
    (refine (pickP_on (fun q => -999 ≤ q ∧ q ≤ 999) W _ _ b a len cap z _ 5 _ (Drawn.ne d3) (by decide) (by decide) (five_cells _ _ _ _ (in33 hr2) (in33 hr3)) (d3.alloc _)).mono ?_; rintro e w4 ⟨x, hx, rfl, d4⟩)
    have c0 := d4.keeps HK.out.1 hne
    have c1 := d4.keeps HK.out.2 hne
    have fr : ∀ o, w4.frozen? ⟨w.heap.size, o, none⟩ = false := fun o => d4.thaws (by simp) (by simp [go_sem]) hne
    have d7 := (HD.out.alloc (.cells #[.string ⟨#[]⟩, .int .i64 0] 31)).trans d4
    go_wp2_with fail
    refine bodyPost_ret (by simp [results, Try.results39, go_sem, *]; try rfl) rfl ?_
    exact ⟨⟨#[]⟩, x, tk_num hx, by constructor <;> (rw [ByteArray.toList_eq]; decide), rfl, (d7.setNew hw0 hW hne _ _).setNew hw0 hW hne _ _⟩

theorem token_on (W w0 w : World) (b : Nat) (a : Option Addr) (len cap : Nat) (z : List Int) (d : Drawn W a len cap z b w0 w) :
    Calls Try.prog 39 #[.pointer (some ⟨b, 0, none⟩)] w fun e w' => ∃ (s : ByteArray) (n : Int), tkB s n = true ∧ e = .returned (.agg #[.string s, .int .i64 n]) ∧ Drawn W a len cap z b w0 w' :=
  (token2_on W w0 w b a len cap z d).mono fun e w' ⟨s, n, h, _, he, hd⟩ => ⟨s, n, h, he, hd⟩

end Go.Proofs.Ytgfckdpkdjjmjaa.DrawTok
