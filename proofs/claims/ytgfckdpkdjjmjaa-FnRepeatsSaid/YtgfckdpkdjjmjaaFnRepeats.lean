/-
  Flattened blocks have no repetitions, and their length is known before. No condition.
  The frame of the proof was written by a tool of this repo after the guide's shells; the walk is this text's own.
-/
import Derived.Test.YtgfckdpkdjjmjaaRows
import Derived.WalkKit
import Derived.ProofKit
import Derived.OpenShut
import Derived.ShutString
import Derived.ChangeOld
import Derived.ChangeArms
import Derived.Below
import Derived.Handy
import Derived.Lib.SmallJoins
import Derived.Test.YtgfckdpkdjjmjaaKit
import Derived.Test.YtgfckdpkdjjmjaaSlab
import Derived.Test.YtgfckdpkdjjmjaaDraw
import Derived.Test.YtgfckdpkdjjmjaaDrawPlus
import Derived.Test.YtgfckdpkdjjmjaaRecs
import Derived.Test.YtgfckdpkdjjmjaaTokens
import Derived.Test.YtgfckdpkdjjmjaaName
import Derived.Test.YtgfckdpkdjjmjaaDepth
import Derived.Test.YtgfckdpkdjjmjaaFlatC
import Derived.Test.YtgfckdpkdjjmjaaTokArg
import Derived.Test.YtgfckdpkdjjmjaaRep
import Derived.Test.YtgfckdpkdjjmjaaDrawBlk
import Derived.Test.YtgfckdpkdjjmjaaFbImpl
import Derived.Lib.Hide
import Derived.Laws.OwnMore
import Derived.Laws.BitsLemmas
namespace Go.Proofs.Ytgfckdpkdjjmjaa.fnRepeats
open Go.ChangeShapes Go.WideShapes Go.ChangeAt Go.RowKit
open Go.ChangeMaps (open_string shut_string)
open Kit
open Slabs
open Draw
open Scan
open Blk
open DrawBlk
open Impl
set_option linter.unusedVariables false
set_option linter.unusedSimpArgs false

theorem own : ownKnob Try.prog.godebug = none := by kernel_rfl
theorem laidOut : laidOutB Try.prog = true := by kernel_rfl

theorem rdt_owns {w : World} {B : Nat} {v : Value} {L : List Tok} (h : w.ownsRow B 31 2 v L.length (cellsL L)) : Rdt w v L := by
  rw [tkF_cells] at h
  have hs := Slab.of_owns h (tkF_len L)
  have h1 := Rdt.of_slab (S := fun i => (L.getD i (⟨#[]⟩, 0)).1) (N := fun i => (L.getD i (⟨#[]⟩, 0)).2) hs
  have e : toL (fun i => (L.getD i (⟨#[]⟩, 0)).1) (fun i => (L.getD i (⟨#[]⟩, 0)).2) L.length = L := by
    apply List.ext_getElem
    · simp [toL]
    · intro i h1 h2
      simp [toL, List.getD, List.getElem?_eq_getElem h2]
  rwa [e] at h1

theorem fl_valid {l f : List Tok} {d : Nat} (h : Fl l f d) : ∀ t ∈ l, tkB t.1 t.2 = true := by
  induction h with
  | nil => intro t ht; cases ht
  | @tok t r f d _ _ htk _ _ ih =>
    intro u hu
    rcases List.mem_cons.1 hu with h1 | h1
    · rw [h1]; exact htk
    · exact ih u h1
  | @rep c p e b f r g d k n h1 h2 h3 _ _ h6 h7 _ _ ih1 ih2 =>
    intro u hu
    simp only [List.mem_cons, List.mem_append] at hu
    rcases hu with h8 | h8 | h8 | h8 | h8
    · rw [h8]; exact (cnt_tok h1 h2 h3).1
    · rw [h8]; exact h6
    · exact ih1 u h8
    · rw [h8]; exact h7
    · exact ih2 u h8

theorem tk_size {s : ByteArray} {n : Int} (h : tkB s n = true) : s.size ≤ 281474976710656 := by
  unfold tkB at h
  by_cases he : s.toList.isEmpty = true
  · rw [List.isEmpty_iff, ByteArray.toList_eq] at he
    have : s.size = s.data.toList.length := by simp
    rw [this, he]; decide
  · rw [if_neg he, Bool.and_eq_true, nameB_iff] at h
    have := h.1.2.1; omega

theorem fl_sizes {l f : List Tok} {d : Nat} (h : Fl l f d) : ∀ t ∈ l, t.1.size ≤ 281474976710656 := fun t ht => tk_size (fl_valid h t ht)

/-- The list with two repetitions around it. -/
def twice (L : List Tok) : List Tok := (⟨#[]⟩, 2) :: repT :: (L ++ [endT])
theorem twice_fl {L f : List Tok} {d : Nat} (h : Fl L f d) : Fl (twice L) (rpt 2 f) (d + 1) := by
  have := fl_block Fl.nil h (n := 2) (by omega)
  rw [Nat.zero_max] at this
  exact this
theorem twice_len (L : List Tok) : (twice L).length = L.length + 3 := by simp [twice]
theorem rpt_two (f : List Tok) : (rpt 2 f).length = 2 * f.length := by simp [rpt]; omega

set_option maxRecDepth 100000 in
set_option maxHeartbeats 8000000 in
theorem walk (w : World) (a0 : Option Addr) (l0 p0c : Nat) (z0 : List Int) (wa0 : IsRow .u8 w a0 l0 p0c z0) :
    Calls Try.prog 3 #[.slice a0 l0 p0c] w fun e w' => e = .returned (.bool true) ∧ Below w.heap.size w w' := by
  have hl := row_len wa0
  have HR := Lib.hid wa0
  clear wa0
  by_cases hbig : (1048576 : Int) < (l0 : Int)
  · go_enter Try.func3, Try.ntmps3
    go_wp2_with (go_at_call 8; refine (big_on _ _ _ _ hl).mono ?_; rintro e w' ⟨rfl, rfl⟩)
    go_ret
    exact ⟨rfl, Below.refl _ _⟩
  · have hbig0 : decide ((1048576 : Int) < (l0 : Int)) = false := by simpa using hbig
    go_enter Try.func3, Try.ntmps3
    go_wp2_with fail
    (refine (big_on _ _ _ _ hl).mono ?_; rintro e w' ⟨rfl, rfl⟩)
    go_wp2_with fail
    (refine (drawblocks_any _ _ _ _ _ HR.out).mono ?_; rintro e w1 ⟨v, L, f, d, F, hd2, hL, rfl, ho, hne, c1⟩)
    rcases ho.2 with ⟨h1, _⟩ | ⟨gv, cv, cur, h1, _⟩
    · exact absurd h1 hne
    subst h1
    have HO := Lib.hid (And.intro ho F)
    by_cases h60 : (60 : Int) < (L.length : Int)
    · clear ho hne F
      go_wp2
      go_ret
      exact ⟨rfl, c1⟩
    · have hl60 : L.length ≤ 60 := by omega
      have hbd := bd_of_fl F hl60 (by omega)
      have h0 : 0 ≤ bdV L := by rw [hbd]; omega
      have hfb := fl_bound F hl60 (by omega)
      have hn : L.length ≤ 1048576 := by omega
      have hS := fl_sizes F
      have hR : ∀ W, Below w1.heap.size w1 W → Rdt W (.slice (some ⟨gv, 0, none⟩) L.length cv) L := fun W hb => (rdt_owns HO.out.1).on hb
      have I1 : ∀ W, Below w1.heap.size w1 W → Calls Try.prog 10 #[.slice (some ⟨gv, 0, none⟩) L.length cv] W fun e w' => e = .returned (.int .i64 (f.length : Int)) ∧ Below W.heap.size W w' := fun W hb => len_impl W _ L hn hS (hR W hb) _ (.inl ⟨h0, f, d, F, by omega, hl60, rfl⟩)
      have I3 : ∀ W, Below w1.heap.size w1 W → Calls Try.prog 12 #[.slice (some ⟨gv, 0, none⟩) L.length cv] W fun e w' => e = .returned (.bool true) ∧ Below W.heap.size W w' := fun W hb => by
        have := ok_impl W _ L hn hS (hR W hb)
        rwa [show decide (0 ≤ bdV L) = true by simpa using h0] at this
      have I4 : ∀ W, Below w1.heap.size w1 W → Calls Try.prog 13 #[.slice (some ⟨gv, 0, none⟩) L.length cv] W fun e w' => e = .returned (.int .i64 (d : Int)) ∧ Below W.heap.size W w' := fun W hb => by
        have := depth_impl W _ L hn hS (hR W hb)
        rwa [hbd] at this
      have d0 : ¬ ((d : Int) < 0) := by omega
      have f0 : ¬ ((f.length : Int) < 0) := by omega
      by_cases h200 : f.length ≤ 200
      · have I2 : ∀ W, Below w1.heap.size w1 W → Calls Try.prog 11 #[.slice (some ⟨gv, 0, none⟩) L.length cv] W (FbLeft f true W) := fun W hb => fb_impl W _ L hn hS (hR W hb) f true (.inl ⟨h0, f, d, F, by omega, hl60, by simpa using h200, by rw [if_pos h200]⟩)
        have hle : (f.length : Int) ≤ 200 := by omega
        have HI := Lib.hid (And.intro I1 (And.intro I2 (And.intro I3 I4)))
        clear I1 I2 I3 I4 hR hS hbd h0 ho hne F
        go_wp2_with fail
        ((with_reducible refine (HI.out.1 w1 (Below.refl _ _)).mono ?_); rintro e w2 ⟨rfl, c2⟩)
        go_wp2_with fail
        ((with_reducible refine (HI.out.2.1 w2 c2).mono ?_); rintro e w3 ⟨u, rfl, hu, c3⟩)
        have k3 := on_of c2 c3
        go_wp2_with fail
        ((with_reducible refine (HI.out.2.2.1 w3 k3).mono ?_); rintro e w4 ⟨rfl, c4⟩)
        have k4 := on_of k3 c4
        go_wp2_with fail
        ((with_reducible refine (HI.out.2.2.2 w4 k4).mono ?_); rintro e w5 ⟨rfl, c5⟩)
        have k5 := on_of k4 c5
        have hu5 := (rdt_owns hu).on (on_of c4 c5)
        obtain ⟨au, cu, rfl, hcu, hcell⟩ := hu5
        have HU := Lib.hid hcell
        clear c2 c3 c4 c5 k3 k4 hu hcell
        obtain ⟨i0, hi0, hz0, hz1, hz2⟩ := info_parts info_tk
        go_wp2_with fail
        go_loopw [7] (fun v7 wr => ∃ k : Nat, k ≤ f.length ∧ v7 = .int .i64 (k : Int) ∧ wr = w5) (fun v7 _ => f.length - (intOf v7).toNat)
        case atStart => exact ⟨0, Nat.zero_le _, rfl, rfl⟩
        case round =>
          obtain ⟨k, hk, rfl, rfl⟩ := hrel
          by_cases hlt : k < f.length
          · have j0 : (0 : Int) ≤ (k : Int) := by omega
            have j1 : (k : Int) < (f.length : Int) := by omega
            obtain ⟨t, ht⟩ : ∃ t, f[k] = t := ⟨_, rfl⟩
            obtain ⟨s, q⟩ := t
            have hget : f[k]? = some (s, q) := by rw [List.getElem?_eq_getElem hlt, ht]
            have hpl := fl_plain HO.out.2 (s, q) (List.mem_of_getElem? hget)
            have er : (s.toList == [114, 101, 112, 101, 97, 116]) = false := hpl.1
            have ee : (s.toList == [101, 110, 100]) = false := hpl.2
            rcases HU.out with h1 | ⟨gu, ou, rfl, hgu, hcs⟩
            · rw [h1] at hlt; simp at hlt
            have q0 := (hcs k s q hget).1
            clear ht hget hpl hcs
            go_wp2
            go_roundw
            case rel => exact ⟨k + 1, by omega, by go_num, by first | rfl | trivial⟩
            case measure => simp [intOf]; omega
          · obtain rfl : k = f.length := by omega
            have jn : ¬ ((f.length : Int) < (f.length : Int)) := by omega
            obtain ⟨al, hal⟩ : ∃ o, o = Obj.cells #[.string ⟨#[]⟩, .int .i64 2, .string ⟨#[114, 101, 112, 101, 97, 116]⟩, .int .i64 0] 31 := ⟨_, rfl⟩
            have hlit : (wr.alloc (.cells #[.string ⟨#[]⟩, .int .i64 2, .string ⟨#[114, 101, 112, 101, 97, 116]⟩, .int .i64 0] 31)).ownsRow wr.heap.size 31 2 (.slice (some ⟨wr.heap.size, 0, none⟩) 2 2) 2 (cellsL [(⟨#[]⟩, 2), repT]) := World.ownsRow_lit (base := wr.heap.size) (e := 31) (size := 2) wr #[.string ⟨#[]⟩, .int .i64 2, .string ⟨#[114, 101, 112, 101, 97, 116]⟩, .int .i64 0] 2 (Nat.le_refl _) (by decide) (by simp)
            have hala : Below wr.heap.size wr (wr.alloc (.cells #[.string ⟨#[]⟩, .int .i64 2, .string ⟨#[114, 101, 112, 101, 97, 116]⟩, .int .i64 0] 31)) := (Below.refl _ _).alloc (Nat.le_refl _) _
            have hsrc := (owns_below (owns_below HO.out.1 k5) hala).cells (g := gv) rfl
            have HS := Lib.hid (And.intro hlit hsrc)
            clear hal al hlit hsrc
            go_wp2_with (at_builtin; refine wpList_append_own _ rfl _ _ 24 rfl wr.heap.size 31 i0 (.agg #[.string ⟨#[]⟩, .int .i64 0]) 2 24 Try.underlying24 hi0 hz0 hz1 hz2 rfl (by decide) _ _ _ rfl HS.out.1 ⟨gv, 0, none⟩ L.length cv (cellsL L) rfl (cellsL_len L) HS.out.2 (cellsL_one L) ?d3 ?d4 (by simp) ?_)
            case d3 => unfold maxLen; omega
            case d4 => omega
            intro v6 w6 own6 hgrow6 _
            have hB6 : Below wr.heap.size wr w6 := hala.grown hgrow6 (by simp) (fun p hp => (HS.out.1.lt p hp).1)
            have hs6 : wr.heap.size ≤ w6.heap.size := hB6.size
            clear hgrow6 hala
            go_wp2_with (at_builtin; refine wpList_append_own _ rfl _ _ 24 rfl wr.heap.size 31 i0 (.agg #[.string ⟨#[]⟩, .int .i64 0]) 2 24 Try.underlying24 hi0 hz0 hz1 hz2 rfl (by decide) _ _ _ rfl (own6.alloc _) ⟨w6.heap.size, 0, none⟩ 1 1 [.string ⟨#[101, 110, 100]⟩, .int .i64 0] rfl rfl (World.news_of_block (cs := #[.string ⟨#[101, 110, 100]⟩, .int .i64 0]) (t := 31) (fr := (0, 0)) (heap_alloc_new w6 _)) ?c2 ?c3 ?c4 ?c5 ?_)
            case c2 => simp [Value.oneCell']
            case c3 => unfold maxLen; omega
            case c4 => omega
            case c5 => simp; omega
            intro v7 w7 own7 hgrow7 _
            have hB7 : Below wr.heap.size wr w7 := (hB6.alloc hs6 _).grown hgrow7 (by simp; omega) (fun p hp => ((own6.alloc (.cells #[.string ⟨#[101, 110, 100]⟩, .int .i64 0] 31)).lt p hp).1)
            have own8 : w7.ownsRow wr.heap.size 31 2 v7 (twice L).length (cellsL (twice L)) := by
              have e1 : twice L = ([(⟨#[]⟩, 2), repT] ++ L) ++ [endT] := by simp [twice]
              have e2 : (twice L).length = 2 + L.length + 1 := by rw [twice_len]; omega
              rw [e2, e1, cellsL_append, cellsL_append]
              exact own7
            have k7 := on_of k5 hB7
            have HW := Lib.hid (And.intro own8 k7)
            clear own6 own7 own8 hgrow7 hB6 hB7 k7
            have F2 := twice_fl HO.out.2
            have hn2 : (twice L).length ≤ 1048576 := by rw [twice_len]; omega
            have hS2 := fl_sizes F2
            have hw2 : IntKind.i64.wrap (2 * (f.length : Int)) = 2 * (f.length : Int) := by rw [IntKind.wrap_i64]; omega
            by_cases hlong : (60 : Int) < (L.length : Int) + 3
            · have hbd2 : bdV (twice L) < 0 := by rw [bd_long (by rw [twice_len]; omega)]; omega
              have I9 := fb_impl w7 v7 (twice L) hn2 hS2 (rdt_owns HW.out.1) [] false (.inr ⟨hbd2, rfl, rfl⟩)
              have HI9 := Lib.hid I9
              clear I9 hbd2 hS2 F2
              go_wp2_with fail
              ((with_reducible refine HI9.out.mono ?_); rintro e w9 ⟨u9, rfl, hu9, c9⟩)
              obtain ⟨a9, cp9, rfl, _⟩ := rdt_owns hu9
              clear hu9
              go_wp2_with fail
              go_ret
              exact ⟨by simp <;> omega, c1.trans ((on_of HW.out.2 c9).mono c1.size)⟩
            · have hbd2 : 0 ≤ bdV (twice L) := by rw [bd_of_fl F2 (by rw [twice_len]; omega) (by omega)]; omega
              have hl2 : (twice L).length ≤ 60 := by rw [twice_len]; omega
              by_cases h2 : (rpt 2 f).length ≤ 200
              · have I9 := fb_impl w7 v7 (twice L) hn2 hS2 (rdt_owns HW.out.1) (rpt 2 f) true (.inl ⟨hbd2, _, _, F2, by omega, hl2, by simpa using h2, by rw [if_pos h2]⟩)
                have HI9 := Lib.hid I9
                have hle2 : 2 * (f.length : Int) ≤ 200 := by rw [rpt_two] at h2; omega
                have hlr := rpt_two f
                have hlr2 : ((rpt 2 f).length : Int) = 2 * (f.length : Int) := by rw [hlr]; omega
                clear I9 hbd2 hS2 F2 h2 hlr
                go_wp2_with fail
                ((with_reducible refine HI9.out.mono ?_); rintro e w9 ⟨u9, rfl, hu9, c9⟩)
                obtain ⟨a9, cp9, rfl, _⟩ := rdt_owns hu9
                clear hu9
                go_wp2_with fail
                go_ret
                exact ⟨by simp <;> omega, c1.trans ((on_of HW.out.2 c9).mono c1.size)⟩
              · have I9 := fb_impl w7 v7 (twice L) hn2 hS2 (rdt_owns HW.out.1) [] false (.inl ⟨hbd2, _, _, F2, by omega, hl2, by simp; omega, by rw [if_neg h2]⟩)
                have HI9 := Lib.hid I9
                have hle2 : ¬ (2 * (f.length : Int) ≤ 200) := by rw [rpt_two] at h2; omega
                clear I9 hbd2 hS2 F2 h2
                go_wp2_with fail
                ((with_reducible refine HI9.out.mono ?_); rintro e w9 ⟨u9, rfl, hu9, c9⟩)
                obtain ⟨a9, cp9, rfl, _⟩ := rdt_owns hu9
                clear hu9
                go_wp2_with fail
                go_ret
                exact ⟨by simp <;> omega, c1.trans ((on_of HW.out.2 c9).mono c1.size)⟩
      · have I2 : ∀ W, Below w1.heap.size w1 W → Calls Try.prog 11 #[.slice (some ⟨gv, 0, none⟩) L.length cv] W (FbLeft [] false W) := fun W hb => fb_impl W _ L hn hS (hR W hb) [] false (.inl ⟨h0, f, d, F, by omega, hl60, by simp; omega, by rw [if_neg h200]⟩)
        have hle : ¬ ((f.length : Int) ≤ 200) := by omega
        have HI := Lib.hid (And.intro I1 (And.intro I2 (And.intro I3 I4)))
        clear I1 I2 I3 I4 hR hS hbd h0 ho hne F
        go_wp2_with fail
        ((with_reducible refine (HI.out.1 w1 (Below.refl _ _)).mono ?_); rintro e w2 ⟨rfl, c2⟩)
        go_wp2_with fail
        ((with_reducible refine (HI.out.2.1 w2 c2).mono ?_); rintro e w3 ⟨u, rfl, hu, c3⟩)
        have k3 := on_of c2 c3
        go_wp2_with fail
        ((with_reducible refine (HI.out.2.2.1 w3 k3).mono ?_); rintro e w4 ⟨rfl, c4⟩)
        have k4 := on_of k3 c4
        go_wp2_with fail
        ((with_reducible refine (HI.out.2.2.2 w4 k4).mono ?_); rintro e w5 ⟨rfl, c5⟩)
        have k5 := on_of k4 c5
        obtain ⟨au, cu, rfl, _⟩ := rdt_owns hu
        clear hu c3 c4 c5 k3 k4
        go_wp2_with fail
        go_ret
        exact ⟨by simp, c1.trans (k5.mono c1.size)⟩

/-! ### THE ROW's STEP -/
set_option maxRecDepth 100000 in
theorem lifted (os : Os) (started : os.Started) (H : Type) (enc : TypeId × Value → H) :
    ReturnsInHanded {} Try.checked os 3 .any (Rows.fnRepeatsSpec.pre6 enc Try.prog Try.f3 Rows.fnRepeatsRow.domain false) (Rows.fnRepeatsSpec.post enc Try.prog Try.f3 false true false false) := by
  refine returnsInHanded_of_change (C := Try.checked) own started (by kernel_rfl) Try.func3
    (ChangeSpec.witness6 (enc := enc) (C := Try.checked) false ⟨#[], #[.slice none 0 0], []⟩ 8 (by kernel_rfl) (by kernel_rfl) (by kernel_rfl) (by kernel_rfl)) ?_
  intro W base args ds gs before hval0 hW hcnd _
  have hval : ∀ (j : Nat) t v, Try.f3.params[j]? = some t → args[j]? = some v → Value.okWide Try.prog W .any base t v := hval0
  have hW' := hW
  obtain ⟨p, q, hA0, hV, rfl, hfz, hnd⟩ := hW
  have hA : DataW.TrodAll enc Try.prog W 0 (fun _ => true) true Try.f3.params.toList args.toList ds p := hA0
  rw [Try.params3] at hA hval
  obtain ⟨v0, vs0, d0, ds0, p0, q0, hargs, rfl, rfl, h0, r0⟩ := trodAll_cons hA
  obtain ⟨rfl, rfl, rfl⟩ := trodAll_nil r0
  obtain rfl : args = #[v0] := by cases args; simp_all
  obtain ⟨rfl, rfl⟩ := trodVars_none hV
  have k0 := h0
  have lt0 : ∀ x ∈ p0, x.block < W.heap.size := by obtain ⟨m, hm⟩ := k0; exact DataW.trod_lt m _ _ _ hm
  obtain ⟨a0, l0, p0c, rfl⟩ := okWide_slice Try.underlying22 (hval 0 22 v0 rfl rfl)
  obtain ⟨z0, wa0⟩ : ∃ zs, IsRow .u8 W a0 l0 p0c zs := by
    obtain ⟨fuel, hf⟩ := h0
    rcases open_ints Try.underlying22 Try.underlying5 (by kernel_rfl) hf with ⟨hcs, _⟩ | ⟨x, l, c, zs, hcs, _, hl, hm, hz, _, hcell, hwz⟩
    · simp [Value.cells] at hcs
      obtain ⟨rfl, rfl, rfl⟩ := hcs
      exact ⟨[], .inl ⟨rfl, rfl, rfl, rfl⟩⟩
    · simp [Value.cells] at hcs
      obtain ⟨rfl, rfl, rfl⟩ := hcs
      exact ⟨zs, .inr ⟨_, rfl, hl, hm, by simpa using hz, hcell, hwz⟩⟩
  clear hA0 hval0
  refine (walk W a0 l0 p0c z0 wa0).mono fun e W' ⟨he, bel⟩ => ?_
  subst he
  exact ⟨_, rfl, _, _, _, [], _, [], hW', trodAll_mk1 (shut_bool Try.underlying4 _), (trodAll_cons_mk (Below.trod laidOut (by kernel_rfl) (of_decide_eq_true (by kernel_rfl)) k0 bel lt0) trodAll_mk0), rfl, bel.frame _, fun h => by cases h⟩

theorem over : Rows.fnRepeatsRow.holds Try.pinned (OpenSpec.ofChange Rows.fnRepeatsSpec) :=
  OpenClaim.holds_of_wide 3 Try.f3 rfl rfl rfl rfl rfl rfl rfl ⟨rfl, rfl, rfl, rfl, rfl⟩ rfl rfl rfl rfl rfl (by kernel_rfl) Try.func3 (by kernel_rfl)
    (of_decide_eq_true (by kernel_rfl)) (by unfold Func.isWrapper; first | (rw [if_pos (by decide +kernel)]; kernel_rfl) | (rw [if_neg (by decide +kernel)]; exact ⟨rfl, rfl⟩))
    (fun os started H enc _ => lifted os started H enc)

/-- ████ THE STATEMENT ████ -/
theorem proved : Rows.FnRepeatsSaid := over
#print axioms proved
end Go.Proofs.Ytgfckdpkdjjmjaa.fnRepeats
