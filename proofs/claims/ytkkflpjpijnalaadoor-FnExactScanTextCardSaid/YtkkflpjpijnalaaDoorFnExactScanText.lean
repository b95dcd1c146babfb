/-
  At every argument ScanText answers as its model does, and its answer owns its memory. Conditions: those of the card (the tables of strconv and its errors are as their initialisers lay them).
  The frame of the proof was written by a tool of this repo after the guide's shells; the walk is this text's own.
-/
import Derived.Test.YtkkflpjpijnalaaDoorCards
import Derived.Test.YtkkflpjpijnalaaDoorTie
import Derived.WalkKit
import Derived.ProofKit
import Derived.OpenShut
import Derived.ShutString
import Derived.ChangeOld
import Derived.ChangeArms
import Derived.Below
import Derived.Handy
import Derived.Lib.SmallJoins
import Derived.Deep.DeepHandedRow
import Derived.Lib.LaidTab
import Derived.Stop.LaidErr
import Derived.Deep.DeepWitnessRowRef
import Derived.Test.YtkkflpjpijnalaaDoorKit
import Derived.Test.YtkkflpjpijnalaaDoorSlab
import Derived.Test.YtkkflpjpijnalaaDoorTokens
import Derived.Test.YtkkflpjpijnalaaDoorNum
import Derived.Test.YtkkflpjpijnalaaDoorParse
import Derived.Test.YtkkflpjpijnalaaDoorScan
import Derived.Test.YtkkflpjpijnalaaDoorFmt
import Derived.Test.YtkkflpjpijnalaaDoorScanSpec
import Derived.Test.YtkkflpjpijnalaaDoorScanImpl
import Derived.Lib.Hide
namespace Go.Proofs.YtkkflpjpijnalaaDoor.fnExactScanText
open Go.ChangeShapes Go.WideShapes Go.ChangeAt Go.RowKit
open Go.ChangeMaps (open_string shut_string)
open Kit
open Slabs
open Scan
open Fmt
open ScanSpec
open Impl
set_option linter.unusedVariables false
set_option linter.unusedSimpArgs false

theorem own : ownKnob Tryd.prog.godebug = none := by kernel_rfl
theorem laidOut : laidOutB Tryd.prog = true := by kernel_rfl

theorem gTab : Tryd.prog.globalNamed "internal/strconv.uint64pow10" = some 2 := by kernel_rfl
theorem gTabType : (Tryd.prog.globals[2]?).map (·.type) = some 99 := by kernel_rfl
theorem cellsT : Tryd.prog.cellsOf 99 = 20 := by kernel_rfl
theorem cellsE : Tryd.prog.cellsOf 87 = 1 := by kernel_rfl

/-- What the row's list gives: strconv's table holds its numbers. -/
theorem table {W : World} (h : laidMetH Tryd.prog Rows.fnExactScanTextRow.laid W) : Num.Tab W :=
  Lib.tabIs_of_head (rest := [("strconv.ErrRange", Rows.laid_strconv_ErrRange), ("strconv.ErrSyntax", Rows.laid_strconv_ErrSyntax)]) gTab gTabType Tryd.underlying99 Tryd.underlying87 cellsE cellsT (laidMet.tail (laidMet.tail h))
/-- .. and the two errors are not nil. -/
theorem errs {W : World} (h : laidMetH Tryd.prog Rows.fnExactScanTextRow.laid W) : Num.Errs W := Num.errs_of (laidMet.tail (laidMet.tail (laidMet.tail h)))

theorem sc_len {s : ByteArray} {b0 : Bool} {l : List ByteArray} (h : Split.Ans s b0 l) : scL b0 l ≤ 24 := by
  have := (ans_len h).1
  unfold scL; split <;> omega
theorem sc_shape (l : List ByteArray) (n : Nat) : Tokens.Shape (tc (scS l) (scN l)) n := fun i _ => ⟨_, _, rfl⟩

set_option maxHeartbeats 2000000 in
theorem walk (w : World) (a0 : ByteArray) (wa0 : a0.size ≤ maxLen) (hT : Num.Tab w) (hE : Num.Errs w) :
    Calls Tryd.prog 5 #[.string a0] w fun e w' => e = .returned (.bool true) ∧ Below w.heap.size w w' := by
  have hm := wa0
  unfold maxLen at hm
  by_cases h1 : (1048576 : Int) < a0.size
  · go_enter Tryd.func5, Tryd.ntmps5
    go_wp2
    go_ret
    exact ⟨rfl, Below.refl _ _⟩
  · have hs : a0.size ≤ 1048576 := by omega
    obtain ⟨b0, l, ha⟩ : ∃ b l, Split.Ans a0 b l := by
      by_cases h : Split.Ok a0
      · exact ⟨_, _, .inl ⟨h, rfl, rfl⟩⟩
      · exact ⟨_, _, .inr ⟨h, rfl, rfl⟩⟩
    have hlen := sc_len ha
    have hsh := sc_shape l (scL b0 l)
    have HA := Lib.hid ha
    have HX := Lib.hid (And.intro hT hE)
    clear ha hT hE
    obtain ⟨b, hb⟩ : ∃ b, (b0 && scB l) = b := ⟨_, rfl⟩
    obtain ⟨n, hn⟩ : ∃ n, scL b0 l = n := ⟨_, rfl⟩
    rw [hn] at hlen hsh
    have hspec : ∀ w, Calls Tryd.prog 16 #[.string a0] w fun e w' => ∃ v : Value, e = .returned (.tuple #[v, .bool b]) ∧ Slab w' w.heap.size v n 2 (tc (scS l) (scN l)) ∧ Below w.heap.size w w' := fun w => by
      rw [← hb, ← hn]; exact scan_spec a0 hs b0 l HA.out w
    have himpl : ∀ w, Num.Tab w → Num.Errs w → Calls Tryd.prog 9 #[.string a0] w fun e w' => ∃ v : Value, e = .returned (.tuple #[v, .bool b]) ∧ Slab w' w.heap.size v n 2 (tc (scS l) (scN l)) ∧ Below w.heap.size w w' := fun w h1 h2 => by
      rw [← hb, ← hn]; exact scan_impl a0 hs b0 l HA.out w h1 h2
    have HS := Lib.hid (And.intro hspec himpl)
    have HH := Lib.hid hsh
    clear hspec himpl hsh hb hn
    cases b
    all_goals
      go_enter Tryd.func5, Tryd.ntmps5
      go_wp2_with fail
      ((with_reducible refine (HS.out.1 _).mono ?_); rintro e w1 ⟨v0, rfl, ho0, c1⟩)
      go_wp2_with fail
      ((with_reducible refine (HS.out.2 _ (Num.tab_below HX.out.1 c1) (Num.errs_below HX.out.2 c1)).mono ?_); rintro e w2 ⟨v1, rfl, ho1, c2⟩)
      have k2 := c2
      go_wp2_with fail
      ((with_reducible refine (Tokens.eqS_same _ _ _ _ _ n _ (by omega) ho1 (ho0.below c2) HH.out).mono ?_); rintro e w3 ⟨rfl, c3⟩)
      have k3 := k2.trans (c3.mono k2.size)
      have ho3 := ho1.below c3
      clear ho1 c3 k2
      go_wp2_with fail
      ((refine (Tokens.markS_any _ _ 1 n _ _ (by omega) (by omega) (by omega) k3.size ho3 HH.out (tc_len _ _)).mono ?_); rintro e w4 ⟨rfl, ho4, c4, _⟩)
      have k4 := k3.trans c4
      clear ho3 c4 k3
      go_wp2_with fail
      ((refine (Tokens.heldS_any _ _ 1 n _ (by omega) (by omega) (by omega) ho4).mono ?_); rintro e w5 ⟨rfl, c5⟩)
      have k5 := k4.trans (c5.mono k4.size)
      have ho5 := ho4.below c5
      clear ho4 c5 k4
      go_wp2_with fail
      ((with_reducible refine (HS.out.2 _ (Num.tab_below (Num.tab_below HX.out.1 c1) k5) (Num.errs_below (Num.errs_below HX.out.2 c1) k5)).mono ?_); rintro e w6 ⟨v2, rfl, ho6, c6⟩)
      have k6 := k5.trans (c6.mono k5.size)
      have hoA := ho5.below c6
      clear ho5 c6 k5
      go_wp2_with fail
      ((with_reducible refine (Tokens.eqS_same _ _ _ _ _ n _ (by omega) ho6 (ho0.below k6) HH.out).mono ?_); rintro e w7 ⟨rfl, c7⟩)
      have k7 := k6.trans (c7.mono k6.size)
      have hoB := hoA.below c7
      clear hoA ho6 c7 k6
      go_wp2_with fail
      ((refine (Tokens.heldS_any _ _ 1 n _ (by omega) (by omega) (by omega) hoB).mono ?_); rintro e w8 ⟨rfl, c8⟩)
      have k8 := k7.trans (c8.mono k7.size)
      clear hoB c8 k7
      go_wp2_with fail
      go_ret
      exact ⟨rfl, c1.trans (k8.mono c1.size)⟩

set_option maxRecDepth 100000 in
theorem contract (H : Type) (enc : TypeId × Value → H) (W : World) (base : Nat) (args : Array Value) (ds gs : List (DataW H)) (before : List MemPlace)
    (hval : ∀ (j : Nat) t v, Tryd.f5.params[j]? = some t → args[j]? = some v → Value.okWide Tryd.prog W .any base t v)
    (hW : DataW.Whole enc Tryd.prog Tryd.f5.params.toList Rows.fnExactScanTextSpec.vars false W args.toList ds gs before) (hL : laidMetH Tryd.prog Rows.fnExactScanTextRow.laid W) :
    Calls Tryd.prog 5 args W fun e W' => ∃ v, e = .returned v ∧ Rows.fnExactScanTextSpec.post enc Tryd.prog Tryd.f5 false true false false W args v W' := by
  have hW' := hW
  obtain ⟨p, q, hA0, hV, rfl, hfz, hnd⟩ := hW
  have hA : DataW.TrodAll enc Tryd.prog W 0 (fun _ => true) true Tryd.f5.params.toList args.toList ds p := hA0
  rw [Tryd.params5] at hA hval
  obtain ⟨v0, vs0, d0, ds0, p0, q0, hargs, rfl, rfl, h0, r0⟩ := trodAll_cons hA
  obtain ⟨rfl, rfl, rfl⟩ := trodAll_nil r0
  obtain rfl : args = #[v0] := by cases args; simp_all
  obtain ⟨rfl, rfl⟩ := trodVars_none hV
  have k0 := h0
  have lt0 : ∀ x ∈ p0, x.block < W.heap.size := by obtain ⟨m, hm⟩ := k0; exact DataW.trod_lt m _ _ _ hm
  obtain ⟨a0, rfl, rfl, rfl, wa0⟩ := open_string Tryd.underlying9 (hval 0 9 v0 rfl rfl) h0
  clear hA0
  refine (walk W a0 wa0 (table hL) (errs hL)).mono fun e W' ⟨he, bel⟩ => ?_
  subst he
  exact ⟨_, rfl, _, _, _, [], _, [], hW', trodAll_mk1 (shut_bool Tryd.underlying4 _), (trodAll_cons_mk (Below.trod laidOut (by kernel_rfl) (of_decide_eq_true (by kernel_rfl)) k0 bel lt0) trodAll_mk0), rfl, bel.frame _, fun h => by cases h⟩

/-- A block of cells that holds these values. -/
def put (cs : Array Value) : Obj → Obj
  | .cells _ t frozen => .cells cs t frozen
  | o => o
def tab0 : Array Value := #[.int .u8 0, .int .u8 1, .int .u8 28, .int .u8 2, .int .u8 29, .int .u8 14, .int .u8 24, .int .u8 3, .int .u8 30, .int .u8 22, .int .u8 20, .int .u8 15, .int .u8 25, .int .u8 17, .int .u8 4, .int .u8 8, .int .u8 31, .int .u8 27, .int .u8 13, .int .u8 23, .int .u8 21, .int .u8 19, .int .u8 16, .int .u8 7, .int .u8 26, .int .u8 12, .int .u8 18, .int .u8 6, .int .u8 11, .int .u8 5, .int .u8 10, .int .u8 9]
def tab1 : Array Value := #[.int .u8 0, .int .u8 1, .int .u8 56, .int .u8 2, .int .u8 57, .int .u8 49, .int .u8 28, .int .u8 3, .int .u8 61, .int .u8 58, .int .u8 42, .int .u8 50, .int .u8 38, .int .u8 29, .int .u8 17, .int .u8 4, .int .u8 62, .int .u8 47, .int .u8 59, .int .u8 36, .int .u8 45, .int .u8 43, .int .u8 51, .int .u8 22, .int .u8 53, .int .u8 39, .int .u8 33, .int .u8 30, .int .u8 24, .int .u8 18, .int .u8 12, .int .u8 5, .int .u8 63, .int .u8 55, .int .u8 48, .int .u8 27, .int .u8 60, .int .u8 41, .int .u8 37, .int .u8 16, .int .u8 46, .int .u8 35, .int .u8 44, .int .u8 21, .int .u8 52, .int .u8 32, .int .u8 23, .int .u8 11, .int .u8 54, .int .u8 26, .int .u8 40, .int .u8 15, .int .u8 34, .int .u8 20, .int .u8 31, .int .u8 10, .int .u8 25, .int .u8 14, .int .u8 19, .int .u8 9, .int .u8 13, .int .u8 8, .int .u8 7, .int .u8 6]
def tab2 : Array Value := #[.int .u64 1, .int .u64 10, .int .u64 100, .int .u64 1000, .int .u64 10000, .int .u64 100000, .int .u64 1000000, .int .u64 10000000, .int .u64 100000000, .int .u64 1000000000, .int .u64 10000000000, .int .u64 100000000000, .int .u64 1000000000000, .int .u64 10000000000000, .int .u64 100000000000000, .int .u64 1000000000000000, .int .u64 10000000000000000, .int .u64 100000000000000000, .int .u64 1000000000000000000, .int .u64 10000000000000000000]
/-- A world for the witness: the settled one, the listed variables holding what their initialisers lay. -/
noncomputable def tables (os : Os) : Array Obj := ((((World.holding Tryd.prog os ⟨#[], #[], []⟩).heap.modify 3 (put tab0)).modify 4 (put tab1)).modify 2 (put tab2))
noncomputable def errors (os : Os) : Array Obj := ((tables os).modify 0 (put #[.iface 105 (.pointer (some ⟨(tables os).size, 0, none⟩))])).modify 1 (put #[.iface 105 (.pointer (some ⟨(tables os).size + 1, 0, none⟩))])
noncomputable def laidWorld (os : Os) : World := ({ World.holding Tryd.prog os ⟨#[], #[], []⟩ with heap := errors os }.alloc (.cells #[.string ⟨#[105, 110, 118, 97, 108, 105, 100, 32, 115, 121, 110, 116, 97, 120]⟩] 107)).alloc (.cells #[.string ⟨#[118, 97, 108, 117, 101, 32, 111, 117, 116, 32, 111, 102, 32, 114, 97, 110, 103, 101]⟩] 107)
theorem laid_met (os : Os) : laidMet Tryd.prog Rows.fnExactScanTextRow.laid ((laidWorld os).forCall (fun _ _ => 0) ⟨#[], #[.string ByteArray.empty], []⟩).memory :=
  laidMet_of_run' 8 (by kernel_rfl) (by kernel_rfl)
theorem reads (os : Os) {H : Type} (enc : TypeId × Value → H) : ∃ places, DataW.whole enc Tryd.prog ((laidWorld os).forCall (fun _ _ => 0) ⟨#[], #[.string ByteArray.empty], []⟩).memory Tryd.f5.params.toList Rows.fnExactScanTextSpec.vars false (#[.string ByteArray.empty] : Array Value).toList 8 = some ([.lit (.string [])], [], places) :=
  ⟨[], by kernel_rfl⟩

set_option maxRecDepth 100000 in
theorem lifted (os : Os) (started : os.Started) (H : Type) (enc : TypeId × Value → H) (F : Stop.Interp) :
    ReturnsInHanded {} Tryd.checked os 5 .any ((OpenSpec.ofChange Rows.fnExactScanTextSpec).preRow enc Tryd.prog Tryd.f5 Rows.fnExactScanTextRow.domain false Rows.fnExactScanTextRow.laid) (((OpenSpec.ofChange Rows.fnExactScanTextSpec).at F).post enc Tryd.prog Tryd.f5 false true false false) := by
  obtain ⟨places, hx⟩ := reads os enc
  refine returnsInHanded_of_row (C := Tryd.checked) (s := OpenSpec.ofChange Rows.fnExactScanTextSpec) own started (by kernel_rfl) Tryd.func5
    (witness_row_atRef (enc := enc) (C := Tryd.checked) false (laidWorld os) #[.string ByteArray.empty] rfl (by kernel_rfl) (by kernel_rfl) (by kernel_rfl)
      (OpenSpec.preRow_of_cond 8 hx (by kernel_rfl) (fun k hk => by cases hk) (by kernel_rfl) (laid_met os))) ?_
  intro W base args ds gs before hval hW _ _ _ hL _ _
  exact contract H enc W base args ds gs before hval hW hL

theorem said : Rows.FnExactScanTextSaid :=
  OpenClaim.holds_of_cond 5 Tryd.f5 rfl rfl rfl rfl rfl rfl rfl ⟨rfl, rfl, rfl, rfl, rfl⟩ rfl rfl rfl rfl rfl (by kernel_rfl) Tryd.func5 (by kernel_rfl)
    (of_decide_eq_true (by kernel_rfl)) (by unfold Func.isWrapper; first | (rw [if_pos (by decide +kernel)]; kernel_rfl) | (rw [if_neg (by decide +kernel)]; exact ⟨rfl, rfl⟩))
    (fun os started H enc _ F => by rw [OpenClaim.pre_eq_preRow]; exact lifted os started H enc F)

/-- No parameter wants a stand-in; the program's own looks are as the card says. -/
theorem plain (f : FuncId) (fn : Func) (hf : Tryd.pinned.checked.prog.funcNamed "loop.example/g00987/laws.FnExactScanText" = some f) (hfn : Tryd.pinned.checked.prog.funcs[f]? = some fn) :
    true = Tryd.pinned.checked.prog.looks [] ∧ ∀ (j : Nat) t, fn.params[j]? = some t → Tryd.pinned.checked.prog.wantsStandIn t = false := by
  obtain rfl : f = 5 := Option.some.inj ((show Tryd.prog.funcNamed "loop.example/g00987/laws.FnExactScanText" = some 5 by kernel_rfl).symm.trans hf) |>.symm
  obtain rfl : fn = Tryd.f5 := (Option.some.inj (Tryd.func5.symm.trans hfn)).symm
  refine ⟨by kernel_rfl, fun j t ht => ?_⟩
  rw [Tryd.params5] at ht
  have hm : t ∈ ([9] : List TypeId) := by simpa using Array.mem_of_getElem? ht
  have hall : ([9] : List TypeId).all (fun t => !Tryd.prog.wantsStandIn t) = true := by kernel_rfl
  have h2 := List.all_eq_true.1 hall t hm
  have h3 : Tryd.prog.wantsStandIn t = false := by simpa using h2
  exact h3

/-- ████ THE STATEMENT ████ -/
theorem card : Rows.FnExactScanTextCardSaid :=
  Claim7.holds_tied_plain_at .later [] _ _ _ _ said (fun _ h => by cases h) (by kernel_rfl) (fun _ h => by cases h) fnExactScanText_row_tie rfl ⟨rfl, rfl⟩ (by kernel_rfl) rfl plain (by kernel_rfl)
#print axioms card
end Go.Proofs.YtkkflpjpijnalaaDoor.fnExactScanText
