/-
  At every argument FormatTokens answers as its model does. Conditions: those of the card (the tables of strconv and its errors are as their initialisers lay them).
  The frame of the proof was written by a tool of this repo after the guide's shells; the walk is this text's own.
-/
import Derived.Test.YtkkflpjpijnalaaDoorCards
import Derived.Test.YtkkflpjpijnalaaDoorTie
import Derived.WalkKit
import Derived.ProofKit
import Derived.OpenShut
import Derived.ShutString
import Derived.ChangeOld
import Derived.ChangeArms
import Derived.Below
import Derived.Handy
import Derived.Lib.SmallJoins
import Derived.Deep.DeepHandedRow
import Derived.Lib.LaidTab
import Derived.Stop.LaidErr
import Derived.Test.YtkkflpjpijnalaaDoorKit
import Derived.Test.YtkkflpjpijnalaaDoorSlab
import Derived.Test.YtkkflpjpijnalaaDoorRecs
import Derived.Test.YtkkflpjpijnalaaDoorTokens
import Derived.Test.YtkkflpjpijnalaaDoorNum
import Derived.Test.YtkkflpjpijnalaaDoorParse
import Derived.Test.YtkkflpjpijnalaaDoorScan
import Derived.Test.YtkkflpjpijnalaaDoorFmt
import Derived.Test.YtkkflpjpijnalaaDoorScanSpec
import Derived.Test.YtkkflpjpijnalaaDoorFmtImpl
import Derived.Lib.Hide
namespace Go.Proofs.YtkkflpjpijnalaaDoor.fnExactFormatTokens
open Go.ChangeShapes Go.WideShapes Go.ChangeAt Go.RowKit
open Go.ChangeMaps (open_string shut_string)
open Kit
open Slabs
open Recs
open Scan
open Fmt
open ScanSpec
open Impl
set_option linter.unusedVariables false
set_option linter.unusedSimpArgs false

theorem own : ownKnob Tryd.prog.godebug = none := by kernel_rfl
theorem laidOut : laidOutB Tryd.prog = true := by kernel_rfl

theorem gTab : Tryd.prog.globalNamed "internal/strconv.uint64pow10" = some 2 := by kernel_rfl
theorem gTabType : (Tryd.prog.globals[2]?).map (·.type) = some 99 := by kernel_rfl
theorem cellsT : Tryd.prog.cellsOf 99 = 20 := by kernel_rfl
theorem cellsE : Tryd.prog.cellsOf 87 = 1 := by kernel_rfl

/-- What the row's list gives: strconv's table holds its numbers. -/
theorem table {W : World} (h : laidMetH Tryd.prog Rows.fnExactFormatTokensRow.laid W) : Num.Tab W :=
  Lib.tabIs_of_head (rest := []) gTab gTabType Tryd.underlying99 Tryd.underlying87 cellsE cellsT (laidMet.tail (laidMet.tail h))

def strOf : Value → ByteArray
  | .string s => s
  | _ => ⟨#[]⟩

theorem total_ge (z : Nat → Nat → Value) : ∀ n i, i < n → Tokens.strSize (z i 0) ≤ Tokens.total z n
  | n + 1, i, h => by
    simp only [Tokens.total]
    by_cases e : i < n
    · have := total_ge z n i e; omega
    · obtain rfl : i = n := by omega
      omega

/-- What came in, as strings and numbers. -/
theorem recs_tc {w : World} {a : Option Addr} {n cap : Nat} {z : Nat → Nat → Value} (h : IsRecs [.string, .int .i64] w a n cap z) :
    (∀ i, i < n → [z i 0, z i 1] = tc (fun i => strOf (z i 0)) (fun i => intOf (z i 1)) i) ∧ (∀ i, i < n → -9223372036854775808 ≤ intOf (z i 1) ∧ intOf (z i 1) ≤ 9223372036854775807) ∧ ∀ i, i < n → (strOf (z i 0)).size = Tokens.strSize (z i 0) := by
  have key : ∀ i, i < n → ∃ (s : ByteArray) (m : Int), z i 0 = .string s ∧ z i 1 = .int .i64 m ∧ (Lit.int .i64 m).wf = true := by
    intro i hi
    obtain ⟨_, _, h | ⟨g, o, _, _, h⟩⟩ := h
    · omega
    · obtain ⟨s, e0, _⟩ := (h i hi 0 _ rfl).2
      obtain ⟨m, e1, hm⟩ := (h i hi 1 _ rfl).2
      exact ⟨s, m, e0, e1, hm⟩
  refine ⟨fun i hi => ?_, fun i hi => ?_, fun i hi => ?_⟩
  · obtain ⟨s, m, e0, e1, _⟩ := key i hi
    simp only [tc, e0, e1, strOf, intOf]
  · obtain ⟨s, m, e0, e1, hm⟩ := key i hi
    rw [e1]; exact wf_range hm
  · obtain ⟨s, m, e0, e1, _⟩ := key i hi
    rw [e0]; rfl

set_option maxHeartbeats 2000000 in
theorem walk (w : World) (a0 : Option Addr) (l0 p0c : Nat) (z0 : Nat → Nat → Value) (wa0 : IsRecs [.string, .int .i64] w a0 l0 p0c z0) (hT : Num.Tab w) :
    Calls Tryd.prog 4 #[.slice a0 l0 p0c] w fun e w' => e = .returned (.bool true) ∧ Below w.heap.size w w' := by
  have hnm : l0 ≤ maxLen := Nat.le_trans wa0.1 wa0.2.1
  obtain ⟨hF, hN, hZ⟩ := recs_tc wa0
  have HR : Hid (IsRecs Tokens.kl w a0 l0 p0c z0) := Lib.hid wa0
  have HT := Lib.hid hT
  have HF := Lib.hid (And.intro hF (And.intro hN hZ))
  clear wa0 hT hF hN hZ
  go_enter Tryd.func4, Tryd.ntmps4
  go_wp2_with fail
  ((with_reducible refine (Tokens.szS_any _ _ _ _ 1048576 _ (by decide) (by decide) HR.out).mono ?_); rintro e w1 ⟨⟨r, rfl, hr1, hr2⟩, c1⟩)
  by_cases hr0 : r < 0
  · go_wp2_with fail
    go_ret
    exact ⟨rfl, c1⟩
  · have hsz := hr2 (by omega)
    have hn : l0 ≤ 1048576 := by omega
    have hS : ∀ i, i < l0 → (strOf (z0 i 0)).size ≤ 281474976710656 := fun i hi => by
      have := total_ge z0 l0 i hi
      rw [HF.out.2.2 i hi]; omega
    have HS := Lib.hid hS
    have hb := c1
    have keep : ∀ {W' : World}, Below w.heap.size w W' → IsRecs Tokens.kl W' a0 l0 p0c z0 := fun {W'} hb => by
      obtain ⟨h1, h2, h3⟩ := HR.out
      refine ⟨h1, h2, ?_⟩
      rcases h3 with h3 | ⟨g, o, ha, hg, h4⟩
      · exact .inl h3
      · exact .inr ⟨g, o, ha, Nat.lt_of_lt_of_le hg hb.size, fun i hi j kd hk => ⟨(hb.cell (p := ⟨g, _, none⟩) hg).trans (h4 i hi j kd hk).1, (h4 i hi j kd hk).2⟩⟩
    have HK : Hid (∀ W' : World, Below w.heap.size w W' → IsRecs Tokens.kl W' a0 l0 p0c z0) := Lib.hid (fun W' => @keep W')
    clear hS keep hr2
    cases hfm : fmB (fun i => strOf (z0 i 0)) (fun i => intOf (z0 i 1)) l0
    all_goals
      obtain ⟨T, hTx⟩ : ∃ T, fmT (fun i => strOf (z0 i 0)) (fun i => intOf (z0 i 1)) l0 = T := ⟨_, rfl⟩
      have hspec : ∀ (W : World) (B : Nat) (v : Value), Slab W B v l0 2 (fun i => [z0 i 0, z0 i 1]) → Calls Tryd.prog 13 #[v] W fun e w' => e = .returned (.tuple #[.string T, .bool (fmB (fun i => strOf (z0 i 0)) (fun i => intOf (z0 i 1)) l0)]) ∧ Below W.heap.size W w' := fun W B v hs => by
        rw [← hTx]; exact fmt_spec W B v l0 _ _ (hs.same HF.out.1) hn HF.out.2.1 HS.out
      have himpl : ∀ (W : World) (B : Nat) (v : Value), Slab W B v l0 2 (fun i => [z0 i 0, z0 i 1]) → Num.Tab W → Calls Tryd.prog 8 #[v] W fun e w' => e = .returned (.tuple #[.string T, .bool (fmB (fun i => strOf (z0 i 0)) (fun i => intOf (z0 i 1)) l0)]) ∧ Below W.heap.size W w' := fun W B v hs ht => by
        rw [← hTx]; exact fmt_impl W B v l0 _ _ (hs.same HF.out.1) hn HF.out.2.1 HS.out ht
      rw [hfm] at hspec himpl
      have HX := Lib.hid (And.intro hspec himpl)
      clear hspec himpl hTx hfm
      go_wp2_with fail
      ((with_reducible refine (Tokens.toS_any _ _ _ _ _ hn (HK.out _ hb)).mono ?_); rintro e w2 ⟨v2, rfl, s2, c2⟩)
      have k2 := on_of hb c2
      go_wp2_with fail
      ((with_reducible refine (HX.out.1 _ _ _ s2).mono ?_); rintro e w3 ⟨rfl, c3⟩)
      have k3 := on_of k2 c3
      go_wp2_with fail
      ((with_reducible refine (Tokens.toS_any _ _ _ _ _ hn (HK.out _ k3)).mono ?_); rintro e w4 ⟨v4, rfl, s4, c4⟩)
      have k4 := on_of k3 c4
      go_wp2_with fail
      ((with_reducible refine (HX.out.2 _ _ _ s4 (Num.tab_below HT.out k4)).mono ?_); rintro e w5 ⟨rfl, c5⟩)
      have k5 := on_of k4 c5
      have s5 := s4.below c5
      go_wp2_with fail
      ((with_reducible refine (Tokens.toS_any _ _ _ _ _ hn (HK.out _ k5)).mono ?_); rintro e w6 ⟨v6, rfl, s6, c6⟩)
      have k6 := on_of k5 c6
      have s5' := s5.below c6
      go_wp2_with fail
      ((with_reducible refine (Tokens.eqS_same _ _ _ _ _ l0 _ hn s5' s6 (Tokens.rec_shape HR.out)).mono ?_); rintro e w7 ⟨rfl, c7⟩)
      have k7 := on_of k6 c7
      go_wp2_with fail
      go_ret
      exact ⟨by simp, k7⟩

set_option maxRecDepth 100000 in
theorem contract (H : Type) (enc : TypeId × Value → H) (W : World) (base : Nat) (args : Array Value) (ds gs : List (DataW H)) (before : List MemPlace)
    (hval : ∀ (j : Nat) t v, Tryd.f4.params[j]? = some t → args[j]? = some v → Value.okWide Tryd.prog W .any base t v)
    (hW : DataW.Whole enc Tryd.prog Tryd.f4.params.toList Rows.fnExactFormatTokensSpec.vars false W args.toList ds gs before) (hL : laidMetH Tryd.prog Rows.fnExactFormatTokensRow.laid W) :
    Calls Tryd.prog 4 args W fun e W' => ∃ v, e = .returned v ∧ Rows.fnExactFormatTokensSpec.post enc Tryd.prog Tryd.f4 false true false false W args v W' := by
  have hW' := hW
  obtain ⟨p, q, hA0, hV, rfl, hfz, hnd⟩ := hW
  have hA : DataW.TrodAll enc Tryd.prog W 0 (fun _ => true) true Tryd.f4.params.toList args.toList ds p := hA0
  rw [Tryd.params4] at hA hval
  obtain ⟨v0, vs0, d0, ds0, p0, q0, hargs, rfl, rfl, h0, r0⟩ := trodAll_cons hA
  obtain ⟨rfl, rfl, rfl⟩ := trodAll_nil r0
  obtain rfl : args = #[v0] := by cases args; simp_all
  obtain ⟨rfl, rfl⟩ := trodVars_none hV
  have k0 := h0
  have lt0 : ∀ x ∈ p0, x.block < W.heap.size := by obtain ⟨m, hm⟩ := k0; exact DataW.trod_lt m _ _ _ hm
  obtain ⟨a0, l0, p0c, rfl⟩ := okWide_slice Tryd.underlying34 (hval 0 34 v0 rfl rfl)
  obtain ⟨z0, wa0⟩ : ∃ z, IsRecs [.string, .int .i64] W a0 l0 p0c z :=
    recs_of (kl := [.string, .int .i64]) Tryd.underlying34 Tryd.underlying51 (by kernel_rfl) (by kernel_rfl) (by decide) (by kernel_rfl) h0
  clear hA0
  refine (walk W a0 l0 p0c z0 wa0 (table hL)).mono fun e W' ⟨he, bel⟩ => ?_
  subst he
  exact ⟨_, rfl, _, _, _, [], _, [], hW', trodAll_mk1 (shut_bool Tryd.underlying4 _), (trodAll_cons_mk (Below.trod laidOut (by kernel_rfl) (of_decide_eq_true (by kernel_rfl)) k0 bel lt0) trodAll_mk0), rfl, bel.frame _, fun h => by cases h⟩

/-- A block of cells that holds these values. -/
def put (cs : Array Value) : Obj → Obj
  | .cells _ t frozen => .cells cs t frozen
  | o => o
def tab0 : Array Value := #[.int .u8 0, .int .u8 1, .int .u8 28, .int .u8 2, .int .u8 29, .int .u8 14, .int .u8 24, .int .u8 3, .int .u8 30, .int .u8 22, .int .u8 20, .int .u8 15, .int .u8 25, .int .u8 17, .int .u8 4, .int .u8 8, .int .u8 31, .int .u8 27, .int .u8 13, .int .u8 23, .int .u8 21, .int .u8 19, .int .u8 16, .int .u8 7, .int .u8 26, .int .u8 12, .int .u8 18, .int .u8 6, .int .u8 11, .int .u8 5, .int .u8 10, .int .u8 9]
def tab1 : Array Value := #[.int .u8 0, .int .u8 1, .int .u8 56, .int .u8 2, .int .u8 57, .int .u8 49, .int .u8 28, .int .u8 3, .int .u8 61, .int .u8 58, .int .u8 42, .int .u8 50, .int .u8 38, .int .u8 29, .int .u8 17, .int .u8 4, .int .u8 62, .int .u8 47, .int .u8 59, .int .u8 36, .int .u8 45, .int .u8 43, .int .u8 51, .int .u8 22, .int .u8 53, .int .u8 39, .int .u8 33, .int .u8 30, .int .u8 24, .int .u8 18, .int .u8 12, .int .u8 5, .int .u8 63, .int .u8 55, .int .u8 48, .int .u8 27, .int .u8 60, .int .u8 41, .int .u8 37, .int .u8 16, .int .u8 46, .int .u8 35, .int .u8 44, .int .u8 21, .int .u8 52, .int .u8 32, .int .u8 23, .int .u8 11, .int .u8 54, .int .u8 26, .int .u8 40, .int .u8 15, .int .u8 34, .int .u8 20, .int .u8 31, .int .u8 10, .int .u8 25, .int .u8 14, .int .u8 19, .int .u8 9, .int .u8 13, .int .u8 8, .int .u8 7, .int .u8 6]
def tab2 : Array Value := #[.int .u64 1, .int .u64 10, .int .u64 100, .int .u64 1000, .int .u64 10000, .int .u64 100000, .int .u64 1000000, .int .u64 10000000, .int .u64 100000000, .int .u64 1000000000, .int .u64 10000000000, .int .u64 100000000000, .int .u64 1000000000000, .int .u64 10000000000000, .int .u64 100000000000000, .int .u64 1000000000000000, .int .u64 10000000000000000, .int .u64 100000000000000000, .int .u64 1000000000000000000, .int .u64 10000000000000000000]
/-- A world for the witness: the settled one, the listed variables holding what their initialisers lay. -/
noncomputable def tables (os : Os) : Array Obj := ((((World.holding Tryd.prog os ⟨#[], #[], []⟩).heap.modify 3 (put tab0)).modify 4 (put tab1)).modify 2 (put tab2))
noncomputable def laidWorld (os : Os) : World := { World.holding Tryd.prog os ⟨#[], #[], []⟩ with heap := tables os }
theorem laid_met (os : Os) : laidMet Tryd.prog Rows.fnExactFormatTokensRow.laid ((laidWorld os).forCall (fun _ _ => 0) ⟨#[], #[.slice none 0 0], []⟩).memory :=
  laidMet_of_run' 8 (by kernel_rfl) (by kernel_rfl)
theorem reads (os : Os) {H : Type} (enc : TypeId × Value → H) : ∃ places, DataW.whole enc Tryd.prog ((laidWorld os).forCall (fun _ _ => 0) ⟨#[], #[.slice none 0 0], []⟩).memory Tryd.f4.params.toList Rows.fnExactFormatTokensSpec.vars false (#[.slice none 0 0] : Array Value).toList 8 = some ([.nil], [], places) :=
  ⟨[], by kernel_rfl⟩

set_option maxRecDepth 100000 in
theorem lifted (os : Os) (started : os.Started) (H : Type) (enc : TypeId × Value → H) (F : Stop.Interp) :
    ReturnsInHanded {} Tryd.checked os 4 .any ((OpenSpec.ofChange Rows.fnExactFormatTokensSpec).preRow enc Tryd.prog Tryd.f4 Rows.fnExactFormatTokensRow.domain false Rows.fnExactFormatTokensRow.laid) (((OpenSpec.ofChange Rows.fnExactFormatTokensSpec).at F).post enc Tryd.prog Tryd.f4 false true false false) := by
  obtain ⟨places, hx⟩ := reads os enc
  refine returnsInHanded_of_row (C := Tryd.checked) (s := OpenSpec.ofChange Rows.fnExactFormatTokensSpec) own started (by kernel_rfl) Tryd.func4
    (witness_row_at (enc := enc) (C := Tryd.checked) false (laidWorld os) #[.slice none 0 0] rfl (by kernel_rfl) (by kernel_rfl) (by kernel_rfl)
      (OpenSpec.preRow_of_cond 8 hx (by kernel_rfl) (fun k hk => by cases hk) (by kernel_rfl) (laid_met os))) ?_
  intro W base args ds gs before hval hW _ _ _ hL _ _
  exact contract H enc W base args ds gs before hval hW hL

theorem said : Rows.FnExactFormatTokensSaid :=
  OpenClaim.holds_of_cond 4 Tryd.f4 rfl rfl rfl rfl rfl rfl rfl ⟨rfl, rfl, rfl, rfl, rfl⟩ rfl rfl rfl rfl rfl (by kernel_rfl) Tryd.func4 (by kernel_rfl)
    (of_decide_eq_true (by kernel_rfl)) (by unfold Func.isWrapper; first | (rw [if_pos (by decide +kernel)]; kernel_rfl) | (rw [if_neg (by decide +kernel)]; exact ⟨rfl, rfl⟩))
    (fun os started H enc _ F => by rw [OpenClaim.pre_eq_preRow]; exact lifted os started H enc F)

/-- No parameter wants a stand-in; the program's own looks are as the card says. -/
theorem plain (f : FuncId) (fn : Func) (hf : Tryd.pinned.checked.prog.funcNamed "loop.example/g00987/laws.FnExactFormatTokens" = some f) (hfn : Tryd.pinned.checked.prog.funcs[f]? = some fn) :
    true = Tryd.pinned.checked.prog.looks [] ∧ ∀ (j : Nat) t, fn.params[j]? = some t → Tryd.pinned.checked.prog.wantsStandIn t = false := by
  obtain rfl : f = 4 := Option.some.inj ((show Tryd.prog.funcNamed "loop.example/g00987/laws.FnExactFormatTokens" = some 4 by kernel_rfl).symm.trans hf) |>.symm
  obtain rfl : fn = Tryd.f4 := (Option.some.inj (Tryd.func4.symm.trans hfn)).symm
  refine ⟨by kernel_rfl, fun j t ht => ?_⟩
  rw [Tryd.params4] at ht
  have hm : t ∈ ([34] : List TypeId) := by simpa using Array.mem_of_getElem? ht
  have hall : ([34] : List TypeId).all (fun t => !Tryd.prog.wantsStandIn t) = true := by kernel_rfl
  have h2 := List.all_eq_true.1 hall t hm
  have h3 : Tryd.prog.wantsStandIn t = false := by simpa using h2
  exact h3

/-- ████ THE STATEMENT ████ -/
theorem card : Rows.FnExactFormatTokensCardSaid :=
  Claim7.holds_tied_plain_at .later [] _ _ _ _ said (fun _ h => by cases h) (by kernel_rfl) (fun _ h => by cases h) fnExactFormatTokens_row_tie rfl ⟨rfl, rfl⟩ (by kernel_rfl) rfl plain (by kernel_rfl)
#print axioms card
end Go.Proofs.YtkkflpjpijnalaaDoor.fnExactFormatTokens
