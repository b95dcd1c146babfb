/-
  For every slice of bytes FnHexText returns true (a string can be decoded from its hexadecimal encoding, and longer strings are rejected) and the bytes read as before.
  The frame after the guide's how-to-prove-an-upto-statement (UptoLaidToy); conditions: those of the card: the variables of strconv and math/bits that it lists, tied to the program's text.
-/
import Derived.Test.YthemadiofegjmaaDoorCards
import Derived.Test.YthemadiofegjmaaDoorTie
import Derived.WalkKit
import Derived.ProofKit
import Derived.OpenShut
import Derived.ShutString
import Derived.ChangeOld
import Derived.Below
import Derived.Handy
import Derived.Deep.DeepHandedRow
import Derived.Lib.LaidTab
import Derived.Stop.LaidErr
import Derived.Test.YthemadiofegjmaaDoorNum
import Derived.Test.YthemadiofegjmaaDoorText
import Derived.Test.YthemadiofegjmaaDoorHexImpl
namespace Go.Proofs.YthemadiofegjmaaDoor.fnHexText
open Go.ChangeShapes Go.WideShapes Go.ChangeAt Go.RowKit
open Go.ChangeMaps (open_string shut_string)
set_option linter.unusedVariables false

theorem own : ownKnob Tryd.prog.godebug = none := by kernel_rfl
theorem laidOut : laidOutB Tryd.prog = true := by kernel_rfl
theorem gTab : Tryd.prog.globalNamed "internal/strconv.uint64pow10" = some 3 := by kernel_rfl
theorem gTabType : (Tryd.prog.globals[3]?).map (·.type) = some 80 := by kernel_rfl
theorem cellsT : Tryd.prog.cellsOf 80 = 20 := by kernel_rfl
theorem cellsE : Tryd.prog.cellsOf 67 = 1 := by kernel_rfl

/-- What the row's list gives: strconv's table holds its numbers. -/
theorem table {W : World} (h : laidMetH Tryd.prog Rows.fnHexTextRow.laid W) : Num.Tab W :=
  Lib.tabIs_of_head (rest := []) gTab gTabType Tryd.underlying80 Tryd.underlying67 cellsE cellsT (laidMet.tail (laidMet.tail h))

theorem fig_back : ∀ n : Fin 16, Hex.val ((UInt8.ofNat (Hex.fig (n.val : Int)).toNat).toNat : Int) = (n.val : Int) := by decide +kernel
theorem fig_val (n : Int) (h0 : 0 ≤ n) (h1 : n < 16) : Hex.val ((UInt8.ofNat (Hex.fig n).toNat).toNat : Int) = n := by
  obtain ⟨k, rfl⟩ := Int.eq_ofNat_of_zero_le h0
  exact fig_back ⟨k, by omega⟩

theorem figs_even : ∀ (l : List UInt8) (j : Nat), (Hex.figs l)[2 * j]? = (l[j]?).map fun c => Hex.fig ((c.toNat : Int) / 16)
  | [], j => by simp [Hex.figs]
  | c :: r, 0 => by simp [Hex.figs]
  | c :: r, j + 1 => by
    rw [show 2 * (j + 1) = 2 * j + 1 + 1 by omega]
    simpa [Hex.figs] using figs_even r j
theorem figs_odd : ∀ (l : List UInt8) (j : Nat), (Hex.figs l)[2 * j + 1]? = (l[j]?).map fun c => Hex.fig ((c.toNat : Int) % 16)
  | [], j => by simp [Hex.figs]
  | c :: r, 0 => by simp [Hex.figs]
  | c :: r, j + 1 => by
    rw [show 2 * (j + 1) + 1 = 2 * j + 1 + 1 + 1 by omega]
    simpa [Hex.figs] using figs_odd r j

theorem at_list (s : ByteArray) (j : Nat) (c : UInt8) (h : s.data.toList[j]? = some c) : Hex.at' s j = Hex.val (c.toNat : Int) := by
  have hj : j < s.size := by
    rcases Nat.lt_or_ge j s.size with h' | h'
    · exact h'
    · rw [List.getElem?_eq_none (by simpa using h')] at h; cases h
  unfold Hex.at'
  rw [dif_pos hj]
  rw [List.getElem?_eq_getElem (by simpa using hj)] at h
  have : s[j] = c := Option.some.inj h
  rw [this]

/-- The hexadecimal text of s. -/
def hexOf (s : ByteArray) : ByteArray := strOfNums (Hex.figs s.data.toList)
theorem hex_size (s : ByteArray) : (hexOf s).size = 2 * s.size := by unfold hexOf; rw [strOfNums_size, Hex.figs_length]; simp

theorem hex_at (s : ByteArray) (j : Nat) (h : j < s.size) : Hex.at' (hexOf s) (2 * j) = (s[j].toNat : Int) / 16 ∧ Hex.at' (hexOf s) (2 * j + 1) = (s[j].toNat : Int) % 16 := by
  have hl : s.data.toList[j]? = some s[j] := by rw [List.getElem?_eq_getElem (by simpa using h)]; rfl
  have hb := s[j].toNat_lt
  constructor
  · rw [at_list (hexOf s) (2 * j) _ (by unfold hexOf; rw [strOfNums_data, List.getElem?_map, figs_even, hl]; rfl)]
    exact fig_val _ (by omega) (by omega)
  · rw [at_list (hexOf s) (2 * j + 1) _ (by unfold hexOf; rw [strOfNums_data, List.getElem?_map, figs_odd, hl]; rfl)]
    exact fig_val _ (by omega) (by omega)

theorem hex_good (s : ByteArray) : Hex.good (hexOf s) s.size := by
  intro j hj
  obtain ⟨h0, h1⟩ := hex_at s j hj
  rw [h0, h1]
  omega

theorem hex_pairs (s : ByteArray) : strOfNums (Hex.pairs (hexOf s) s.size) = s := by
  apply ByteArray.ext
  apply Array.toList_inj.1
  rw [strOfNums_data]
  apply List.ext_getElem
  · simp [Hex.pairs]
  · intro j h1 h2
    have hj : j < s.size := by simpa using h2
    obtain ⟨e0, e1⟩ := hex_at s j hj
    have hb := s[j].toNat_lt
    simp only [Hex.pairs, List.getElem_map, List.getElem_range, e0, e1]
    have : (16 * ((s[j].toNat : Int) / 16) + (s[j].toNat : Int) % 16).toNat = s[j].toNat := by omega
    rw [this]
    simp
    rfl

theorem long_on (n : Int) (h0 : 0 ≤ n) (h1 : n ≤ 1000000) (x : Int) (w : World) :
    Calls Tryd.prog 23 #[.int .i64 n, .int .u8 x] w fun e w' => ∃ s : ByteArray, (s.size : Int) = n ∧ e = .returned (.string s) ∧ Below w.heap.size w w' := by
  obtain ⟨k, rfl⟩ := Int.eq_ofNat_of_zero_le h0
  exact (Draw.long_any k x w (by omega)).mono fun e w' ⟨s, hs, he, hb⟩ => ⟨s, by rw [hs], he, hb⟩

theorem draw (a0 : Option Addr) (len0 cap0 : Nat) (z0 : List Int) (w : World) (w0 : Draw.IsRow .u8 w a0 len0 cap0 z0) :
    Calls Tryd.prog 9 #[.slice a0 len0 cap0] w fun e w' => ∃ s : ByteArray, s.size ≤ 20001 ∧ e = .returned (.string s) ∧ Below w.heap.size w w' := by
  go_enter Tryd.func9, Tryd.ntmps9
  go_wp2_with (first
    | (go_at_call 21; refine (Draw.new_any w _ _ _ z0 w0).mono ?_; rintro e w' ⟨rfl, d1⟩; have d2 := d1.same; clear d1)
    | (go_at_call 22; refine (Draw.once_on w _ _ _ a0 len0 cap0 z0 _ (by assumption)).mono ?_; rintro e w' ⟨r, rfl, d1⟩)
    | (go_at_call 23; refine (long_on _ (by omega) (by omega) _ _).mono ?_; rintro e w' ⟨s, hs, rfl, b1⟩)
    | (go_at_call 25; refine (Draw.text_any w _ _ _ a0 len0 cap0 z0 _ (by assumption)).mono ?_; rintro e w' ⟨s, hs, rfl, d1⟩)
    | (go_at_call 24; refine (Draw.below_on w _ _ _ a0 len0 cap0 z0 _ (by assumption)).mono ?_; rintro e w' ⟨q, ⟨hq0, hq1, hq2⟩, rfl, d1⟩; have hq3 := hq1 (by omega)))
  all_goals go_ret
  · have hd := (‹Draw.Drawn w a0 len0 cap0 z0 _ _ _›).1.below
    exact ⟨s, by omega, rfl, hd.trans (b1.mono hd.size)⟩
  · exact ⟨s, by omega, rfl, (‹Draw.Drawn w a0 len0 cap0 z0 _ _ _›).1.below⟩

theorem decode_hex (s : ByteArray) (hs : s.size ≤ 20000) (w : World) :
    Calls Tryd.prog 12 #[.string (strOfNums (Hex.figs s.data.toList))] w fun e w' => e = .returned (.tuple #[.string s, .bool true]) ∧ Below w.heap.size w w' := by
  refine (Hex.impl_good (hexOf s) w s.size (by rw [hex_size]; omega) (hex_size s) (hex_good s)).mono fun e w' ⟨he, hb⟩ => ⟨?_, hb⟩
  rw [he, hex_pairs]

theorem ten (w : World) (ht : Num.Tab w) : Calls Tryd.prog 11 #[.int .i64 10] w fun e w' => e = .returned (.string ⟨#[49, 48]⟩) ∧ Below w.heap.size w w' := by
  refine (Num.impl_format 10 w (by omega) (by omega) ht).mono fun e w' ⟨he, hb⟩ => ⟨?_, hb⟩
  rw [he]
  have : Num.txt 10 = ⟨#[49, 48]⟩ := by
    unfold Num.txt
    rw [show (10 : Int) = ((10 : Nat) : Int) from rfl, Lib.itoa_nonneg, Lib.decDigits_two (by omega) (by omega)]
    rfl
  rw [this]

theorem walk (a0 : Option Addr) (len0 cap0 : Nat) (z0 : List Int) (w : World) (w0 : Draw.IsRow .u8 w a0 len0 cap0 z0) (hT : Num.Tab w) :
    Calls Tryd.prog 3 #[.slice a0 len0 cap0] w fun e w' => e = .returned (.bool true) ∧ Below w.heap.size w w' := by
  have hl := Draw.row_len w0
  have HT := Lib.hid hT
  clear hT
  by_cases hbig : (1048576 : Int) < len0
  · go_enter Tryd.func3, Tryd.ntmps3
    go_wp2_with (go_at_call 8; refine (Draw.big_on _ _ _ _ hl).mono ?_; rintro e w' ⟨rfl, rfl⟩)
    go_ret
    exact ⟨rfl, Below.refl _ _⟩
  · go_enter Tryd.func3, Tryd.ntmps3
    go_wp2_with (first
      | (go_at_call 8; refine (Draw.big_on _ _ _ _ hl).mono ?_; rintro e w' ⟨rfl, rfl⟩)
      | (go_at_call 9; refine (draw _ _ _ _ _ w0).mono ?_; rintro e w1 ⟨s, hs, rfl, b1⟩; by_cases c1 : s.size ≤ 20000))
    · have hsz : (((strOfNums (Hex.figs s.data.toList)).size : Int) == 2 * (s.size : Int)) = true := by
        have := hex_size s
        unfold hexOf at this
        simp [this]
      go_wp2_with (first
        | (go_at_call 10; refine (Hex.impl_encode _ _ c1).mono ?_; rintro e w2 ⟨rfl, b2⟩; have b3 := b1.trans (b2.mono b1.size); clear b2)
        | (go_at_call 12; refine (decode_hex s c1 _).mono ?_; rintro e w4 ⟨rfl, b4⟩))
      go_ret
      exact ⟨rfl, b3.trans (b4.mono b3.size)⟩
    · have c2 : 20000 < s.size := by omega
      have hm : s.size ≤ maxLen := by unfold maxLen; omega
      go_wp2_with (first
        | (go_at_call 10; refine (Hex.impl_encode_long _ _ c2 hm).mono ?_; rintro e w2 ⟨rfl, b2⟩; have b3 := b1.trans (b2.mono b1.size); clear b2)
        | (go_at_call 11; refine (ten _ (Num.tab_below HT.out b3)).mono ?_; rintro e w4 ⟨rfl, b4⟩))
      go_ret
      exact ⟨rfl, b3.trans (b4.mono b3.size)⟩

theorem contract (H : Type) (enc : TypeId × Value → H) (W : World) (base : Nat) (args : Array Value) (ds gs : List (DataW H)) (before : List MemPlace)
    (hval : ∀ (j : Nat) t v, Tryd.f3.params[j]? = some t → args[j]? = some v → Value.okWide Tryd.prog W .any base t v)
    (hW : DataW.Whole enc Tryd.prog Tryd.f3.params.toList Rows.fnHexTextSpec.vars false W args.toList ds gs before) (hL : laidMetH Tryd.prog Rows.fnHexTextRow.laid W) :
    Calls Tryd.prog 3 args W fun e W' => ∃ v, e = .returned v ∧ Rows.fnHexTextSpec.post enc Tryd.prog Tryd.f3 false true false false W args v W' := by
  have hW' := hW
  obtain ⟨p, q, hA0, hV, rfl, hfz, hnd⟩ := hW
  have hA : DataW.TrodAll enc Tryd.prog W 0 (fun _ => true) true Tryd.f3.params.toList args.toList ds p := hA0
  rw [Tryd.params3] at hA hval
  obtain ⟨v0, vs0, d0, ds0, p0, q0, hargs, rfl, rfl, h0, r0⟩ := trodAll_cons hA
  obtain ⟨rfl, rfl, rfl⟩ := trodAll_nil r0
  obtain rfl : args = #[v0] := by cases args; simp_all
  obtain ⟨rfl, rfl⟩ := trodVars_none hV
  obtain ⟨a0, len0, cap0, rfl⟩ := okWide_slice Tryd.underlying22 (hval 0 22 v0 rfl rfl)
  have k0 := h0
  have lt0 : ∀ x ∈ p0, x.block < W.heap.size := by obtain ⟨m, hm⟩ := k0; exact DataW.trod_lt m _ _ _ hm
  obtain ⟨z0, w0⟩ : ∃ zs, Draw.IsRow .u8 W a0 len0 cap0 zs := by
    obtain ⟨fuel, hf⟩ := h0
    rcases open_ints Tryd.underlying22 Tryd.underlying5 (by kernel_rfl) hf with ⟨hcs, _⟩ | ⟨x, l, c, zs, hcs, _, hl, hm, hz, _, hcell, hwz⟩
    · simp [Value.cells] at hcs
      obtain ⟨rfl, rfl, rfl⟩ := hcs
      exact ⟨[], .inl ⟨rfl, rfl, rfl, rfl⟩⟩
    · simp [Value.cells] at hcs
      obtain ⟨rfl, rfl, rfl⟩ := hcs
      exact ⟨zs, .inr ⟨_, rfl, hl, hm, by simpa using hz, hcell, hwz⟩⟩
  clear hA0
  refine (walk a0 len0 cap0 z0 W w0 (table hL)).mono fun e W' ⟨he, bel⟩ => ?_
  subst he
  exact ⟨_, rfl, _, _, _, [], _, [], hW', trodAll_mk1 (shut_bool Tryd.underlying4 _), (trodAll_cons_mk (Below.trod laidOut (by kernel_rfl) (of_decide_eq_true (by kernel_rfl)) k0 bel lt0) trodAll_mk0), rfl, bel.frame _, fun h => by cases h⟩

/-- A block of cells that holds these values. -/
def put (cs : Array Value) : Obj → Obj
  | .cells _ t frozen => .cells cs t frozen
  | o => o
def pow10 : Array Value := #[.int .u64 1, .int .u64 10, .int .u64 100, .int .u64 1000, .int .u64 10000, .int .u64 100000, .int .u64 1000000, .int .u64 10000000, .int .u64 100000000, .int .u64 1000000000, .int .u64 10000000000, .int .u64 100000000000, .int .u64 1000000000000, .int .u64 10000000000000, .int .u64 100000000000000, .int .u64 1000000000000000, .int .u64 10000000000000000, .int .u64 100000000000000000, .int .u64 1000000000000000000, .int .u64 10000000000000000000]
def tab32 : Array Value := #[.int .u8 0, .int .u8 1, .int .u8 28, .int .u8 2, .int .u8 29, .int .u8 14, .int .u8 24, .int .u8 3, .int .u8 30, .int .u8 22, .int .u8 20, .int .u8 15, .int .u8 25, .int .u8 17, .int .u8 4, .int .u8 8, .int .u8 31, .int .u8 27, .int .u8 13, .int .u8 23, .int .u8 21, .int .u8 19, .int .u8 16, .int .u8 7, .int .u8 26, .int .u8 12, .int .u8 18, .int .u8 6, .int .u8 11, .int .u8 5, .int .u8 10, .int .u8 9]
def tab64 : Array Value := #[.int .u8 0, .int .u8 1, .int .u8 56, .int .u8 2, .int .u8 57, .int .u8 49, .int .u8 28, .int .u8 3, .int .u8 61, .int .u8 58, .int .u8 42, .int .u8 50, .int .u8 38, .int .u8 29, .int .u8 17, .int .u8 4, .int .u8 62, .int .u8 47, .int .u8 59, .int .u8 36, .int .u8 45, .int .u8 43, .int .u8 51, .int .u8 22, .int .u8 53, .int .u8 39, .int .u8 33, .int .u8 30, .int .u8 24, .int .u8 18, .int .u8 12, .int .u8 5, .int .u8 63, .int .u8 55, .int .u8 48, .int .u8 27, .int .u8 60, .int .u8 41, .int .u8 37, .int .u8 16, .int .u8 46, .int .u8 35, .int .u8 44, .int .u8 21, .int .u8 52, .int .u8 32, .int .u8 23, .int .u8 11, .int .u8 54, .int .u8 26, .int .u8 40, .int .u8 15, .int .u8 34, .int .u8 20, .int .u8 31, .int .u8 10, .int .u8 25, .int .u8 14, .int .u8 19, .int .u8 9, .int .u8 13, .int .u8 8, .int .u8 7, .int .u8 6]
/-- A world for the witness: the settled one, the listed variables holding what their initialisers lay. -/
noncomputable def tables (os : Os) : Array Obj := (((World.holding Tryd.prog os ⟨#[], #[], []⟩).heap.modify 3 (put pow10)).modify 4 (put tab32)).modify 5 (put tab64)
noncomputable def laidWorld (os : Os) : World := { World.holding Tryd.prog os ⟨#[], #[], []⟩ with heap := tables os }
theorem laid_met (os : Os) : laidMet Tryd.prog Rows.fnHexTextRow.laid ((laidWorld os).forCall (fun _ _ => 0) ⟨#[], #[.slice none 0 0], []⟩).memory :=
  laidMet_of_run' 8 (by kernel_rfl) (by kernel_rfl)
theorem reads (os : Os) {H : Type} (enc : TypeId × Value → H) : ∃ places, DataW.whole enc Tryd.prog ((laidWorld os).forCall (fun _ _ => 0) ⟨#[], #[.slice none 0 0], []⟩).memory Tryd.f3.params.toList Rows.fnHexTextSpec.vars false (#[.slice none 0 0] : Array Value).toList 8 = some ([.nil], [], places) :=
  ⟨[], by kernel_rfl⟩

set_option maxRecDepth 100000 in
theorem lifted (os : Os) (started : os.Started) (H : Type) (enc : TypeId × Value → H) (F : Stop.Interp) :
    ReturnsInHanded {} Tryd.checked os 3 .any ((OpenSpec.ofChange Rows.fnHexTextSpec).preRow enc Tryd.prog Tryd.f3 Rows.fnHexTextRow.domain false Rows.fnHexTextRow.laid) (((OpenSpec.ofChange Rows.fnHexTextSpec).at F).post enc Tryd.prog Tryd.f3 false true false false) := by
  obtain ⟨places, hx⟩ := reads os enc
  refine returnsInHanded_of_row (C := Tryd.checked) (s := OpenSpec.ofChange Rows.fnHexTextSpec) own started (by kernel_rfl) Tryd.func3
    (witness_row_at (enc := enc) (C := Tryd.checked) false (laidWorld os) #[.slice none 0 0] rfl (by kernel_rfl) (by kernel_rfl) (by kernel_rfl)
      (OpenSpec.preRow_of_cond 8 hx (by kernel_rfl) (fun k hk => by cases hk) (by kernel_rfl) (laid_met os))) ?_
  intro W base args ds gs before hval hW _ _ _ hL _ _
  exact contract H enc W base args ds gs before hval hW hL

theorem said : Rows.FnHexTextSaid :=
  OpenClaim.holds_of_cond 3 Tryd.f3 rfl rfl rfl rfl rfl rfl rfl ⟨rfl, rfl, rfl, rfl, rfl⟩ rfl rfl rfl rfl rfl (by kernel_rfl) Tryd.func3 (by kernel_rfl)
    (of_decide_eq_true (by kernel_rfl)) (by unfold Func.isWrapper; first | (rw [if_pos (by decide +kernel)]; kernel_rfl) | (rw [if_neg (by decide +kernel)]; exact ⟨rfl, rfl⟩))
    (fun os started H enc _ F => by rw [OpenClaim.pre_eq_preRow]; exact lifted os started H enc F)

/-- No parameter wants a stand-in; the program's own looks are as the card says. -/
theorem plain (f : FuncId) (fn : Func) (hf : Tryd.pinned.checked.prog.funcNamed "loop.example/g00987/laws.FnHexText" = some f) (hfn : Tryd.pinned.checked.prog.funcs[f]? = some fn) :
    true = Tryd.pinned.checked.prog.looks [] ∧ ∀ (j : Nat) t, fn.params[j]? = some t → Tryd.pinned.checked.prog.wantsStandIn t = false := by
  obtain rfl : f = 3 := Option.some.inj ((show Tryd.prog.funcNamed "loop.example/g00987/laws.FnHexText" = some 3 by kernel_rfl).symm.trans hf) |>.symm
  obtain rfl : fn = Tryd.f3 := (Option.some.inj (Tryd.func3.symm.trans hfn)).symm
  refine ⟨by kernel_rfl, fun j t ht => ?_⟩
  rw [Tryd.params3] at ht
  obtain rfl : t = 22 := by simpa using Array.mem_of_getElem? ht
  exact (show Tryd.prog.wantsStandIn 22 = false by kernel_rfl)

theorem card : Rows.FnHexTextCardSaid :=
  Claim7.holds_tied_plain_at .later [] _ _ _ _ said (fun _ h => by cases h) (by kernel_rfl) (fun _ h => by cases h) fnHexText_row_tie rfl ⟨rfl, rfl⟩ (by kernel_rfl) rfl plain (by kernel_rfl)
#print axioms card
end Go.Proofs.YthemadiofegjmaaDoor.fnHexText
