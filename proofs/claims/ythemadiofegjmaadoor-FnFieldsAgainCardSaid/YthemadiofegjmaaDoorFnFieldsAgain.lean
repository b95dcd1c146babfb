/-
  For every slice of bytes FnFieldsAgain returns true (the fields of a line, joined by single spaces, have the same fields) and the bytes read as before.
  The frame after the guide's how-to-prove-an-upto-statement (UptoLaidToy); conditions: those of the card: the variables of strconv and math/bits that it lists, tied to the program's text.
-/
import Derived.Test.YthemadiofegjmaaDoorCards
import Derived.Test.YthemadiofegjmaaDoorTie
import Derived.WalkKit
import Derived.ProofKit
import Derived.OpenShut
import Derived.ShutString
import Derived.ChangeOld
import Derived.Below
import Derived.Handy
import Derived.Deep.DeepHandedRow
import Derived.Lib.LaidTab
import Derived.Stop.LaidErr
import Derived.Test.YthemadiofegjmaaDoorLine
namespace Go.Proofs.YthemadiofegjmaaDoor.fnFieldsAgain
open Go.ChangeShapes Go.WideShapes Go.ChangeAt Go.RowKit
open Go.ChangeMaps (open_string shut_string)
open Split
set_option linter.unusedVariables false

theorem own : ownKnob Tryd.prog.godebug = none := by kernel_rfl
theorem laidOut : laidOutB Tryd.prog = true := by kernel_rfl
theorem gTab : Tryd.prog.globalNamed "internal/strconv.uint64pow10" = some 3 := by kernel_rfl
theorem gTabType : (Tryd.prog.globals[3]?).map (·.type) = some 80 := by kernel_rfl
theorem cellsT : Tryd.prog.cellsOf 80 = 20 := by kernel_rfl
theorem cellsE : Tryd.prog.cellsOf 67 = 1 := by kernel_rfl

/-- What the row's list gives: strconv's table holds its numbers. -/
theorem table {W : World} (h : laidMetH Tryd.prog Rows.fnFieldsAgainRow.laid W) : Num.Tab W :=
  Lib.tabIs_of_head (rest := []) gTab gTabType Tryd.underlying80 Tryd.underlying67 cellsE cellsT (laidMet.tail (laidMet.tail h))

theorem three (w : World) (ht : Num.Tab w) : Calls Tryd.prog 11 #[.int .i64 (-3)] w fun e w' => e = .returned (.string ⟨#[45, 51]⟩) ∧ Below w.heap.size w w' := by
  refine (Num.impl_format (-3) w (by omega) (by omega) ht).mono fun e w' ⟨he, hb⟩ => ⟨?_, hb⟩
  rw [he]
  have : Num.txt (-3) = ⟨#[45, 51]⟩ := by
    unfold Num.txt
    rw [show (-3 : Int) = -((3 : Nat) : Int) from rfl, Lib.itoa_neg 3 (by omega), Lib.decDigits_one (by omega)]
    rfl
  rw [this]

theorem join_next {x f : ByteArray} {l : List ByteArray} {k : Nat} (hk : k < l.length) (hx : x.data.toList = joined (l.take k)) (hf : f = l[k]) :
    (x ++ f ++ { data := #[32] }).data.toList = joined (l.take (k + 1)) := by
  rw [List.take_succ_eq_append_getElem hk, joined_append, ← hx, hf]
  simp [joined]

/-- The walk behind the two first splits, where the line has fields. -/
theorem ans_true {s : ByteArray} {l : List ByteArray} (h : Ans s true l) : Ok s ∧ l = fin s := by
  rcases h with ⟨h, _, h2⟩ | ⟨_, h, _⟩
  · exact ⟨h, h2⟩
  · cases h
theorem ans_false {s : ByteArray} {l : List ByteArray} (h : Ans s false l) : l = [] := by
  rcases h with ⟨_, h, _⟩ | ⟨_, _, h⟩
  · cases h
  · exact h

set_option maxRecDepth 100000 in
set_option maxHeartbeats 2000000 in
theorem walk (a0 : Option Addr) (len0 cap0 : Nat) (z0 : List Int) (w : World) (w0 : Draw.IsRow .u8 w a0 len0 cap0 z0) (hT : Num.Tab w) :
    Calls Tryd.prog 5 #[.slice a0 len0 cap0] w fun e w' => e = .returned (.bool true) ∧ Below w.heap.size w w' := by
  have hl := Draw.row_len w0
  have HT := Lib.hid hT
  clear hT
  by_cases hbig : (1048576 : Int) < len0
  · go_enter Tryd.func5, Tryd.ntmps5
    go_wp2_with (go_at_call 8; refine (Draw.big_on _ _ _ _ hl).mono ?_; rintro e w' ⟨rfl, rfl⟩)
    go_ret
    exact ⟨rfl, Below.refl _ _⟩
  · go_enter Tryd.func5, Tryd.ntmps5
    go_wp2_with (first
      | (go_at_call 8; refine (Draw.big_on _ _ _ _ hl).mono ?_; rintro e w' ⟨rfl, rfl⟩)
      | (go_at_call 15; refine (Draw.line_any _ _ _ _ _ w0).mono ?_; rintro e w1 ⟨s, hs, rfl, b1⟩; obtain ⟨b, l, ha⟩ := Draw.ans_one s; have HA := Lib.hid ha; clear ha; cases b))
    · obtain rfl := ans_false HA.out
      go_wp2_with (go_at_call 16; ((with_reducible refine (Draw.impl_is s _ [] HA.out (by omega) _).mono ?_); rintro e w2 ⟨v1, rfl, ho1, c2⟩; obtain ⟨p1, k1, rfl⟩ := Owns.form ho1))
      go_wp2_with (first
        | (go_at_call 17; ((with_reducible refine (Draw.spec_is s _ [] HA.out (by omega) _).mono ?_); rintro e w3 ⟨v0, rfl, ho0, c3⟩; have b3 := b1.trans ((c2.trans (c3.mono c2.size)).mono b1.size)))
        | (go_at_call 11; ((with_reducible refine (three _ (Num.tab_below HT.out b3)).mono ?_); rintro e w4 ⟨rfl, b4⟩)))
      go_ret
      exact ⟨rfl, b3.trans (b4.mono b3.size)⟩
    · obtain ⟨hok, hfin⟩ := ans_true HA.out
      have hlen := Draw.ans_len HA.out
      have hsz : ∀ (k : Nat) (h : k < l.length), l[k].size ≤ 600 := by
        intro k h
        have := hok.1
        have := fin_short l[k] (by rw [← hfin]; exact List.getElem_mem h)
        omega
      have HSZ := Lib.hid hsz
      have HOK := Lib.hid hok
      have HF := Lib.hid hfin
      clear hsz hok hfin
      go_wp2_with (go_at_call 16; ((with_reducible refine (Draw.impl_is s _ l HA.out (by omega) _).mono ?_); rintro e w2 ⟨v1, rfl, ho1, c2⟩; obtain ⟨p1, k1, rfl⟩ := Owns.form ho1))
      go_wp2_with (go_at_call 17; ((with_reducible refine (Draw.spec_is s _ l HA.out (by omega) _).mono ?_); rintro e w3 ⟨v0, rfl, ho0, c3⟩; have b3 := b1.trans ((c2.trans (c3.mono c2.size)).mono b1.size); have ho3 := ho1.below c3; clear ho1 ho0))
      have HO := Lib.hid ho3
      clear ho3
      go_loop [8, 9] (fun t i => ∃ (k : Nat) (x : ByteArray), k ≤ l.length ∧ i = .int .i64 (k : Int) ∧ t = .string x ∧ x.data.toList = joined (l.take k) ∧ x.size ≤ 601 * k) (fun _ i => l.length - (intOf i).toNat)
      case atStart => exact ⟨0, ⟨#[]⟩, Nat.zero_le _, rfl, rfl, by simp [joined], by decide⟩
      case round =>
        obtain ⟨k, x, hk, rfl, rfl, hx, hxs⟩ := hrel
        have HX := Lib.hid hx
        clear hx
        by_cases hlt : k < l.length
        · obtain ⟨g, hp⟩ : ∃ g, p1 = some ⟨g, 0, none⟩ := by
            rcases own_form HO.out with ⟨_, h0⟩ | ⟨g, c, h⟩
            · omega
            · injection h with h _ _
              exact ⟨g, h⟩
          subst hp
          have e1 := Draw.own_cell HO.out hlt
          have hz := HSZ.out k hlt
          have hq1 : ¬ (9223372036854775807 < x.size + l[k].size) := by omega
          go_wp2
          refine ⟨⟨k + 1, x ++ l[k] ++ { data := #[32] }, by omega, by go_num, rfl, join_next hlt HX.out rfl, ?_⟩, by simp [intOf]; omega⟩
          rw [ByteArray.size_append, ByteArray.size_append]
          show x.size + l[k].size + 1 ≤ _
          omega
        · obtain rfl : k = l.length := by omega
          have hxl : x.data.toList = joined l := by have := HX.out; rw [List.take_length] at this; exact this
          have HXL := Lib.hid hxl
          clear hxl
          by_cases h6 : x.size ≤ 600
          · have ha2 : Ans x true l := by
              have h := again HOK.out (t := x) (by rw [HXL.out, HF.out]) h6
              rw [← HF.out] at h
              exact h
            have HA2 := Lib.hid ha2
            have h6' : ¬ (600 : Int) < (x.size : Int) := by omega
            clear ha2
            go_wp2_with (first
              | (go_at_call 16; ((with_reducible refine (Draw.impl_is x _ l HA2.out (by omega) _).mono ?_); rintro e w4 ⟨v2, rfl, ho4, c4⟩; have ho5 := HO.out.below c4))
              | (go_at_call 18; ((with_reducible refine (Draw.same_any _ _ _ _ _ l (by omega) ho5 ho4).mono ?_); rintro e w5 ⟨rfl, c5⟩)))
            go_ret
            exact ⟨rfl, b3.trans ((c4.trans (c5.mono c4.size)).mono b3.size)⟩
          · have ha2 : Ans x false [] := ans_long (by omega)
            have HA2 := Lib.hid ha2
            have h6' : (600 : Int) < (x.size : Int) := by omega
            clear ha2
            go_wp2_with (go_at_call 16; ((with_reducible refine (Draw.impl_is x _ [] HA2.out (by omega) _).mono ?_); rintro e w4 ⟨v2, rfl, ho4, c4⟩))
            go_ret
            exact ⟨rfl, b3.trans (c4.mono b3.size)⟩

theorem contract (H : Type) (enc : TypeId × Value → H) (W : World) (base : Nat) (args : Array Value) (ds gs : List (DataW H)) (before : List MemPlace)
    (hval : ∀ (j : Nat) t v, Tryd.f5.params[j]? = some t → args[j]? = some v → Value.okWide Tryd.prog W .any base t v)
    (hW : DataW.Whole enc Tryd.prog Tryd.f5.params.toList Rows.fnFieldsAgainSpec.vars false W args.toList ds gs before) (hL : laidMetH Tryd.prog Rows.fnFieldsAgainRow.laid W) :
    Calls Tryd.prog 5 args W fun e W' => ∃ v, e = .returned v ∧ Rows.fnFieldsAgainSpec.post enc Tryd.prog Tryd.f5 false true false false W args v W' := by
  have hW' := hW
  obtain ⟨p, q, hA0, hV, rfl, hfz, hnd⟩ := hW
  have hA : DataW.TrodAll enc Tryd.prog W 0 (fun _ => true) true Tryd.f5.params.toList args.toList ds p := hA0
  rw [Tryd.params5] at hA hval
  obtain ⟨v0, vs0, d0, ds0, p0, q0, hargs, rfl, rfl, h0, r0⟩ := trodAll_cons hA
  obtain ⟨rfl, rfl, rfl⟩ := trodAll_nil r0
  obtain rfl : args = #[v0] := by cases args; simp_all
  obtain ⟨rfl, rfl⟩ := trodVars_none hV
  obtain ⟨a0, len0, cap0, rfl⟩ := okWide_slice Tryd.underlying22 (hval 0 22 v0 rfl rfl)
  have k0 := h0
  have lt0 : ∀ x ∈ p0, x.block < W.heap.size := by obtain ⟨m, hm⟩ := k0; exact DataW.trod_lt m _ _ _ hm
  obtain ⟨z0, w0⟩ : ∃ zs, Draw.IsRow .u8 W a0 len0 cap0 zs := by
    obtain ⟨fuel, hf⟩ := h0
    rcases open_ints Tryd.underlying22 Tryd.underlying5 (by kernel_rfl) hf with ⟨hcs, _⟩ | ⟨x, l, c, zs, hcs, _, hl, hm, hz, _, hcell, hwz⟩
    · simp [Value.cells] at hcs
      obtain ⟨rfl, rfl, rfl⟩ := hcs
      exact ⟨[], .inl ⟨rfl, rfl, rfl, rfl⟩⟩
    · simp [Value.cells] at hcs
      obtain ⟨rfl, rfl, rfl⟩ := hcs
      exact ⟨zs, .inr ⟨_, rfl, hl, hm, by simpa using hz, hcell, hwz⟩⟩
  clear hA0
  refine (walk a0 len0 cap0 z0 W w0 (table hL)).mono fun e W' ⟨he, bel⟩ => ?_
  subst he
  exact ⟨_, rfl, _, _, _, [], _, [], hW', trodAll_mk1 (shut_bool Tryd.underlying4 _), (trodAll_cons_mk (Below.trod laidOut (by kernel_rfl) (of_decide_eq_true (by kernel_rfl)) k0 bel lt0) trodAll_mk0), rfl, bel.frame _, fun h => by cases h⟩

/-- A block of cells that holds these values. -/
def put (cs : Array Value) : Obj → Obj
  | .cells _ t frozen => .cells cs t frozen
  | o => o
def pow10 : Array Value := #[.int .u64 1, .int .u64 10, .int .u64 100, .int .u64 1000, .int .u64 10000, .int .u64 100000, .int .u64 1000000, .int .u64 10000000, .int .u64 100000000, .int .u64 1000000000, .int .u64 10000000000, .int .u64 100000000000, .int .u64 1000000000000, .int .u64 10000000000000, .int .u64 100000000000000, .int .u64 1000000000000000, .int .u64 10000000000000000, .int .u64 100000000000000000, .int .u64 1000000000000000000, .int .u64 10000000000000000000]
def tab32 : Array Value := #[.int .u8 0, .int .u8 1, .int .u8 28, .int .u8 2, .int .u8 29, .int .u8 14, .int .u8 24, .int .u8 3, .int .u8 30, .int .u8 22, .int .u8 20, .int .u8 15, .int .u8 25, .int .u8 17, .int .u8 4, .int .u8 8, .int .u8 31, .int .u8 27, .int .u8 13, .int .u8 23, .int .u8 21, .int .u8 19, .int .u8 16, .int .u8 7, .int .u8 26, .int .u8 12, .int .u8 18, .int .u8 6, .int .u8 11, .int .u8 5, .int .u8 10, .int .u8 9]
def tab64 : Array Value := #[.int .u8 0, .int .u8 1, .int .u8 56, .int .u8 2, .int .u8 57, .int .u8 49, .int .u8 28, .int .u8 3, .int .u8 61, .int .u8 58, .int .u8 42, .int .u8 50, .int .u8 38, .int .u8 29, .int .u8 17, .int .u8 4, .int .u8 62, .int .u8 47, .int .u8 59, .int .u8 36, .int .u8 45, .int .u8 43, .int .u8 51, .int .u8 22, .int .u8 53, .int .u8 39, .int .u8 33, .int .u8 30, .int .u8 24, .int .u8 18, .int .u8 12, .int .u8 5, .int .u8 63, .int .u8 55, .int .u8 48, .int .u8 27, .int .u8 60, .int .u8 41, .int .u8 37, .int .u8 16, .int .u8 46, .int .u8 35, .int .u8 44, .int .u8 21, .int .u8 52, .int .u8 32, .int .u8 23, .int .u8 11, .int .u8 54, .int .u8 26, .int .u8 40, .int .u8 15, .int .u8 34, .int .u8 20, .int .u8 31, .int .u8 10, .int .u8 25, .int .u8 14, .int .u8 19, .int .u8 9, .int .u8 13, .int .u8 8, .int .u8 7, .int .u8 6]
/-- A world for the witness: the settled one, the listed variables holding what their initialisers lay. -/
noncomputable def tables (os : Os) : Array Obj := (((World.holding Tryd.prog os ⟨#[], #[], []⟩).heap.modify 3 (put pow10)).modify 4 (put tab32)).modify 5 (put tab64)
noncomputable def laidWorld (os : Os) : World := { World.holding Tryd.prog os ⟨#[], #[], []⟩ with heap := tables os }
theorem laid_met (os : Os) : laidMet Tryd.prog Rows.fnFieldsAgainRow.laid ((laidWorld os).forCall (fun _ _ => 0) ⟨#[], #[.slice none 0 0], []⟩).memory :=
  laidMet_of_run' 8 (by kernel_rfl) (by kernel_rfl)
theorem reads (os : Os) {H : Type} (enc : TypeId × Value → H) : ∃ places, DataW.whole enc Tryd.prog ((laidWorld os).forCall (fun _ _ => 0) ⟨#[], #[.slice none 0 0], []⟩).memory Tryd.f5.params.toList Rows.fnFieldsAgainSpec.vars false (#[.slice none 0 0] : Array Value).toList 8 = some ([.nil], [], places) :=
  ⟨[], by kernel_rfl⟩

set_option maxRecDepth 100000 in
theorem lifted (os : Os) (started : os.Started) (H : Type) (enc : TypeId × Value → H) (F : Stop.Interp) :
    ReturnsInHanded {} Tryd.checked os 5 .any ((OpenSpec.ofChange Rows.fnFieldsAgainSpec).preRow enc Tryd.prog Tryd.f5 Rows.fnFieldsAgainRow.domain false Rows.fnFieldsAgainRow.laid) (((OpenSpec.ofChange Rows.fnFieldsAgainSpec).at F).post enc Tryd.prog Tryd.f5 false true false false) := by
  obtain ⟨places, hx⟩ := reads os enc
  refine returnsInHanded_of_row (C := Tryd.checked) (s := OpenSpec.ofChange Rows.fnFieldsAgainSpec) own started (by kernel_rfl) Tryd.func5
    (witness_row_at (enc := enc) (C := Tryd.checked) false (laidWorld os) #[.slice none 0 0] rfl (by kernel_rfl) (by kernel_rfl) (by kernel_rfl)
      (OpenSpec.preRow_of_cond 8 hx (by kernel_rfl) (fun k hk => by cases hk) (by kernel_rfl) (laid_met os))) ?_
  intro W base args ds gs before hval hW _ _ _ hL _ _
  exact contract H enc W base args ds gs before hval hW hL

theorem said : Rows.FnFieldsAgainSaid :=
  OpenClaim.holds_of_cond 5 Tryd.f5 rfl rfl rfl rfl rfl rfl rfl ⟨rfl, rfl, rfl, rfl, rfl⟩ rfl rfl rfl rfl rfl (by kernel_rfl) Tryd.func5 (by kernel_rfl)
    (of_decide_eq_true (by kernel_rfl)) (by unfold Func.isWrapper; first | (rw [if_pos (by decide +kernel)]; kernel_rfl) | (rw [if_neg (by decide +kernel)]; exact ⟨rfl, rfl⟩))
    (fun os started H enc _ F => by rw [OpenClaim.pre_eq_preRow]; exact lifted os started H enc F)

/-- No parameter wants a stand-in; the program's own looks are as the card says. -/
theorem plain (f : FuncId) (fn : Func) (hf : Tryd.pinned.checked.prog.funcNamed "loop.example/g00987/laws.FnFieldsAgain" = some f) (hfn : Tryd.pinned.checked.prog.funcs[f]? = some fn) :
    true = Tryd.pinned.checked.prog.looks [] ∧ ∀ (j : Nat) t, fn.params[j]? = some t → Tryd.pinned.checked.prog.wantsStandIn t = false := by
  obtain rfl : f = 5 := Option.some.inj ((show Tryd.prog.funcNamed "loop.example/g00987/laws.FnFieldsAgain" = some 5 by kernel_rfl).symm.trans hf) |>.symm
  obtain rfl : fn = Tryd.f5 := (Option.some.inj (Tryd.func5.symm.trans hfn)).symm
  refine ⟨by kernel_rfl, fun j t ht => ?_⟩
  rw [Tryd.params5] at ht
  obtain rfl : t = 22 := by simpa using Array.mem_of_getElem? ht
  exact (show Tryd.prog.wantsStandIn 22 = false by kernel_rfl)

theorem card : Rows.FnFieldsAgainCardSaid :=
  Claim7.holds_tied_plain_at .later [] _ _ _ _ said (fun _ h => by cases h) (by kernel_rfl) (fun _ h => by cases h) fnFieldsAgain_row_tie rfl ⟨rfl, rfl⟩ (by kernel_rfl) rfl plain (by kernel_rfl)
#print axioms card
end Go.Proofs.YthemadiofegjmaaDoor.fnFieldsAgain
