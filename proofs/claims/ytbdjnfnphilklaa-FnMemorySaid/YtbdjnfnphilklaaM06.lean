/-
  Texts of this seat, laid together: Recs, Point, Pth8
-/
import Derived.Test.YtbdjnfnphilklaaRows
import Derived.WalkKit
import Derived.ProofKit
import Derived.OpenShut
import Derived.ChangeArms
import Derived.Deep.Slices
import Derived.Deep.Fields
import Derived.ChangeSame
import Derived.LoopTactic
import Derived.OwnWalk
import Derived.Handy
import Derived.Lib.Hide
import Derived.Test.YtbdjnfnphilklaaM01
namespace Go.Proofs.Ytbdjnfnphilklaa.Recs
open Go.ChangeShapes Go.WideShapes Go.ChangeAt Go.RowKit
open Go.Deep
set_option linter.unusedVariables false
set_option linter.unusedSimpArgs false
set_option linter.unnecessarySimpa false
section
variable {H : Type} {enc : TypeId × Value → H} {P : Program} {w : World} {base : Nat} {spare : Nat → Bool} {held : Bool}
theorem open_recs {t e : TypeId} {fs : Array Field} {fuel : Nat} {cs : List Value} {x : DataW H × List MemPlace} (ht : P.underlying t = some (.slice e)) (he : P.underlying e = some (.struct fs))
    (hone : oneCellFields P fs = true) (hC : P.cellsOf e = fs.size) (h : DataW.trod enc P w base spare held fuel t cs = some x) :
    cs = [.slice none 0 0] ∨
    ∃ (a : Addr) (len cap : Nat), cs = [.slice (some a) len cap] ∧ len ≤ cap ∧ cap ≤ maxLen ∧
      ∀ i, i < len → ∀ (j : Nat) (f : Field), fs[j]? = some f → ∃ (v : Value) (y : DataW H × List MemPlace) (n : Nat), w.cell? (a.add (i * fs.size + j)) = some v ∧ DataW.trod enc P w base spare held n f.type [v] = some y := by
  rcases open_slice ht h with ⟨h0, _⟩ | ⟨a, len, cap, m, n, D, Pl, hcs, hb, hl, hm, hmm, hx, hi⟩
  · exact .inl h0
  · refine .inr ⟨a, len, cap, hcs, hl, hm, fun i him => ?_⟩
    obtain ⟨cs', hc, ht'⟩ := hi i (by rw [hmm]; split <;> omega)
    rw [hC] at hc
    obtain ⟨ys, n', hn', hy, hlen, hyl, hf⟩ := DataW.trod_struct he ht'
    obtain ⟨_, hcl, hat⟩ := World.cells?_some hc
    intro j f hj
    obtain ⟨ho, hk⟩ := hone_of hone j f hj
    have hjl : j < fs.size := (Array.getElem?_eq_some_iff.1 hj).1
    have hcell := hat j hjl
    have hv : cs'[j]? = some (cs'[j]'(by omega)) := List.getElem?_eq_getElem (by omega)
    have h1 := hf j f hj
    rw [ho, hk] at h1
    have hone' : (cs'.drop j).take 1 = [cs'[j]'(by omega)] := by
      rw [List.drop_eq_getElem_cons (by omega)]
      rfl
    rw [hone'] at h1
    have hys : ys[j]? = some (ys[j]'(by omega)) := List.getElem?_eq_getElem (by omega)
    refine ⟨_, _, n', ?_, h1.trans hys⟩
    rw [← Go.Deep.add_add, hcell, hv]
end
inductive FK where
  | int (k : IntKind)
  | bool
  | string
def FK.desc : FK → TypeDesc
  | .int k => .int k
  | .bool => .bool
  | .string => .string
def FK.fits : FK → Value → Prop
  | .int k, v => ∃ n : Int, v = .int k n ∧ (Lit.int k n).wf = true
  | .bool, v => ∃ b : Bool, v = .bool b
  | .string, v => ∃ s : ByteArray, v = .string s ∧ s.size ≤ maxLen
def IsRecs (kl : List FK) (w : World) (a : Option Addr) (len cap : Nat) (z : Nat → Nat → Value) : Prop :=
  len ≤ cap ∧ cap ≤ maxLen ∧ (len = 0 ∨ ∃ g o, a = some ⟨g, o, none⟩ ∧ g < w.heap.size ∧ ∀ i, i < len → ∀ j kd, kl[j]? = some kd → w.cell? ⟨g, o + (i * kl.length + j), none⟩ = some (z i j) ∧ kd.fits (z i j))
theorem recs_of {H : Type} {enc : TypeId × Value → H} {P : Program} {w : World} {base : Nat} {spare : Nat → Bool} {held : Bool} {kl : List FK} {t e : TypeId} {fs : Array Field} {a : Option Addr} {len cap : Nat} {d : DataW H} {p : List MemPlace}
    (ht : P.underlying t = some (.slice e)) (he : P.underlying e = some (.struct fs)) (hone : oneCellFields P fs = true) (hC : P.cellsOf e = fs.size) (hpos : 0 < kl.length) (hk : fs.toList.map (fun f => P.underlying f.type) = kl.map fun k => some k.desc)
    (h : DataW.Trod enc P w base spare held t (.slice a len cap) d p) : ∃ z, IsRecs kl w a len cap z := by
  obtain ⟨fuel, hf⟩ := h
  have hlen : fs.size = kl.length := by have := congrArg List.length hk; simpa using this
  rcases open_recs ht he hone hC hf with hcs | ⟨x, l, c, hcs, hl, hm, hcell⟩
  · simp [Value.cells] at hcs
    obtain ⟨rfl, rfl, rfl⟩ := hcs
    exact ⟨fun _ _ => undef, Nat.le_refl _, Nat.zero_le _, .inl rfl⟩
  · simp [Value.cells] at hcs
    obtain ⟨rfl, rfl, rfl⟩ := hcs
    by_cases h0 : len = 0
    · exact ⟨fun _ _ => undef, hl, hm, .inl h0⟩
    obtain ⟨xb, xo, xs⟩ := x
    have hget : ∀ (j : Nat) (kd : FK), kl[j]? = some kd → ∃ f : Field, fs[j]? = some f ∧ P.underlying f.type = some kd.desc := by
      intro j kd hj
      have hjl : j < kl.length := (List.getElem?_eq_some_iff.1 hj).1
      have h1 := congrArg (fun l => l[j]?) hk
      simp only [List.getElem?_map, hj, Option.map_some, Array.getElem?_toList] at h1
      cases hfj : fs[j]? with
      | none => rw [hfj] at h1; simp at h1
      | some f => rw [hfj] at h1; simp at h1; exact ⟨f, rfl, h1⟩
    have hfirst : ∃ kd, kl[0]? = some kd := ⟨kl[0]'(by omega), List.getElem?_eq_getElem (by omega)⟩
    obtain ⟨kd0, hkd0⟩ := hfirst
    obtain ⟨f0, hf0, _⟩ := hget 0 kd0 hkd0
    obtain ⟨v0, y0, n0, hv0, _⟩ := hcell 0 (by omega) 0 f0 hf0
    have hxs : xs = none := by simpa [Addr.add] using World.cell?_spot hv0
    subst hxs
    have hb : xb < w.heap.size := by simpa [Addr.add] using World.block_lt_of_cell? w _ hv0
    refine ⟨fun i j => (w.cell? ⟨xb, xo + (i * kl.length + j), none⟩).getD undef, hl, hm, .inr ⟨xb, xo, rfl, hb, fun i hi j kd hj => ?_⟩⟩
    obtain ⟨f, hfj, hu⟩ := hget j kd hj
    obtain ⟨v, y, n, hv, ht'⟩ := hcell i hi j f hfj
    rw [hlen] at hv
    have hv' : w.cell? ⟨xb, xo + (i * kl.length + j), none⟩ = some v := by
      by_cases hz : i * kl.length + j = 0
      · rw [hz] at hv ⊢; simpa [Addr.add] using hv
      · have h2 := hv
        simp only [Addr.add, if_neg hz] at h2
        exact h2
    simp only [hv', Option.getD_some]
    refine ⟨trivial, ?_⟩
    cases kd with
    | int k => obtain ⟨n, e, _, hw⟩ := DataW.trod_int hu ht'; exact ⟨n, by simpa using e, hw⟩
    | bool => obtain ⟨b, e, _⟩ := DataW.trod_bool hu ht'; exact ⟨b, by simpa using e⟩
    | string => obtain ⟨s, e, _, hs⟩ := DataW.trod_string hu ht'; exact ⟨s, by simpa using e, hs⟩
end Go.Proofs.Ytbdjnfnphilklaa.Recs
namespace Go.Proofs.Ytbdjnfnphilklaa.Point
open Go.ChangeShapes Go.WideShapes Go.ChangeAt Go.RowKit
open Kit
set_option linter.unusedVariables false
set_option linter.unusedSimpArgs false
set_option linter.unnecessarySimpa false
attribute [local go_sem ↓] run_mx run_mn
def inB (n : Int) : Bool := decide (-200 ≤ n ∧ n ≤ 200)
def pokB (x y : Int) : Bool := inB x && inB y
def bokB (x0 y0 x1 y1 : Int) : Bool := inB x0 && inB y0 && inB x1 && inB y1 && decide (x0 ≤ x1) && decide (y0 ≤ y1)
theorem inB_true {n : Int} (h : inB n = true) : -200 ≤ n ∧ n ≤ 200 := by simpa [inB] using h
theorem coord_any (n : Int) (w : World) : Calls Try.prog 127 #[.int .i64 n] w fun e w' => e = .returned (.bool (inB n)) ∧ w = w' := by
  by_cases h1 : -200 ≤ n <;> by_cases h2 : n ≤ 200
  all_goals
    go_enter Try.func127, Try.ntmps127
    go_wp2
    go_ret
    exact ⟨ret_bool (by simp [inB, h1, h2]), rfl⟩
theorem in_any (x a b : Int) (w : World) : Calls Try.prog 75 #[.int .i64 x, .int .i64 a, .int .i64 b] w fun e w' => e = .returned (.bool (decide (a ≤ x ∧ x ≤ b))) ∧ w = w' := by
  by_cases h1 : a ≤ x <;> by_cases h2 : x ≤ b
  all_goals
    go_enter Try.func75, Try.ntmps75
    go_wp2
    go_ret
    exact ⟨ret_bool (by simp [h1, h2]), rfl⟩
theorem in2_any (n : Int) (w : World) : Calls Try.prog 123 #[.int .i64 n] w fun e w' => e = .returned (.bool (inB n)) ∧ w = w' := by
  go_enter Try.func123, Try.ntmps123
  go_wp2_with (go_at_call 75; refine (in_any _ _ _ _).mono ?_; rintro e w' ⟨rfl, rfl⟩)
  go_ret
  exact ⟨ret_bool (by simp [inB]), rfl⟩
theorem pok_impl (x y : Int) (w : World) : Calls Try.prog 115 #[.agg #[.int .i64 x, .int .i64 y]] w fun e w' => e = .returned (.bool (pokB x y)) ∧ Below w.heap.size w w' := by
  by_cases h1 : inB x = true
  all_goals
    try simp only [Bool.not_eq_true] at h1
    go_enter Try.func115, Try.ntmps115
    go_wp2_with (go_at_call 127; refine (coord_any _ _).mono ?_; rintro e w' ⟨rfl, rfl⟩)
    go_ret
    exact ⟨ret_bool (by simp [pokB, h1]), by go_grown⟩
theorem pok_spec (x y : Int) (w : World) : Calls Try.prog 122 #[.agg #[.int .i64 x, .int .i64 y]] w fun e w' => e = .returned (.bool (pokB x y)) ∧ Below w.heap.size w w' := by
  by_cases h1 : inB x = true
  all_goals
    try simp only [Bool.not_eq_true] at h1
    go_enter Try.func122, Try.ntmps122
    go_wp2_with (go_at_call 123; refine (in2_any _ _).mono ?_; rintro e w' ⟨rfl, rfl⟩)
    go_ret
    exact ⟨ret_bool (by simp [pokB, h1]), by go_grown⟩
theorem bok_spec (x0 y0 x1 y1 : Int) (w : World) : Calls Try.prog 109 #[.agg #[.int .i64 x0, .int .i64 y0, .int .i64 x1, .int .i64 y1]] w fun e w' => e = .returned (.bool (bokB x0 y0 x1 y1)) ∧ Below w.heap.size w w' := by
  rcases four (inB x0) (inB y0) (inB x1) (inB y1) with h1 | ⟨h1, h2⟩ | ⟨h1, h2, h3⟩ | ⟨h1, h2, h3, h4⟩ | ⟨h1, h2, h3, h4⟩
  all_goals
    go_enter Try.func109, Try.ntmps109
    go_wp2_with (go_at_call 123; refine (in2_any _ _).mono ?_; rintro e w' ⟨rfl, rfl⟩)
    all_goals
      go_ret
      exact ⟨ret_bool (by simp [bokB, *]; try omega), by go_grown⟩
theorem bok_two (x0 y0 x1 y1 : Int) : bokB x0 y0 x1 y1 = (pokB x0 y0 && pokB x1 y1 && (decide (x0 ≤ x1) && decide (y0 ≤ y1))) := by
  simp [bokB, pokB, Bool.and_assoc]
theorem bok_impl (x0 y0 x1 y1 : Int) (w : World) : Calls Try.prog 97 #[.agg #[.int .i64 x0, .int .i64 y0, .int .i64 x1, .int .i64 y1]] w fun e w' => e = .returned (.bool (bokB x0 y0 x1 y1)) ∧ Below w.heap.size w w' := by
  cases h1 : pokB x0 y0 <;> cases h2 : pokB x1 y1
  all_goals
    go_enter Try.func97, Try.ntmps97
    go_wp2_with (go_at_call 115; refine (pok_impl _ _ _).mono ?_; rintro e w' ⟨rfl, hb⟩; have hB := on_of (W := w) (by go_grown) hb; obtain ⟨hc, hf⟩ := bcell hb; have hz : w.heap.size < w'.heap.size := (by have := hb.size; (try simp at this); omega); clear hb)
    all_goals
      go_ret
      exact ⟨ret_bool (by rw [bok_two]; simp [h1, h2]; try omega), by go_grown⟩
theorem bok_true {x0 y0 x1 y1 : Int} (h : bokB x0 y0 x1 y1 = true) : -200 ≤ x0 ∧ -200 ≤ y0 ∧ x1 ≤ 200 ∧ y1 ≤ 200 ∧ x0 ≤ x1 ∧ y0 ≤ y1 := by
  simp [bokB, inB] at h; omega
theorem bok_iff (x0 y0 x1 y1 : Int) : bokB x0 y0 x1 y1 = true ↔ -200 ≤ x0 ∧ -200 ≤ y0 ∧ x1 ≤ 200 ∧ y1 ≤ 200 ∧ x0 ≤ x1 ∧ y0 ≤ y1 := by
  simp [bokB, inB]; omega
end Go.Proofs.Ytbdjnfnphilklaa.Point
namespace Go.Proofs.Ytbdjnfnphilklaa.Ins
open Go.ChangeShapes Go.WideShapes Go.ChangeAt Go.RowKit
open Kit Point
set_option linter.unusedVariables false
set_option linter.unusedSimpArgs false
set_option linter.unnecessarySimpa false
def pX (l : List (Int × Int)) (i : Nat) : Int := (l.getD i (0, 0)).1
def pY (l : List (Int × Int)) (i : Nat) : Int := (l.getD i (0, 0)).2
def ptsB (l : List (Int × Int)) : Bool := l.all fun p => pokB p.1 p.2
def pathB (l : List (Int × Int)) : Bool := decide (l.length ≤ 8) && ptsB l
def PathAt (w : World) (a : Option Addr) (l : List (Int × Int)) : Prop := l = [] ∨ ∃ g, a = some ⟨g, 0, none⟩ ∧ g < w.heap.size ∧ ∀ i, i < l.length → w.cell? ⟨g, i * 2, none⟩ = some (.int .i64 (pX l i)) ∧ w.cell? ⟨g, i * 2 + 1, none⟩ = some (.int .i64 (pY l i))
theorem PathAt.on {w w' : World} {a : Option Addr} {l : List (Int × Int)} (h : PathAt w a l) (hb : Below w.heap.size w w') : PathAt w' a l := by
  rcases h with h | ⟨g, ha, hg, h⟩
  · exact .inl h
  · exact .inr ⟨g, ha, Nat.lt_of_lt_of_le hg hb.size, fun i hi => ⟨(hb.cell (p := ⟨g, _, none⟩) hg).trans (h i hi).1, (hb.cell (p := ⟨g, _, none⟩) hg).trans (h i hi).2⟩⟩
theorem ptsB_bad {l : List (Int × Int)} {k : Nat} (hk : k < l.length) (h : pokB (pX l k) (pY l k) = false) : ptsB l = false := by
  rw [ptsB, List.all_eq_false]
  refine ⟨l[k], List.getElem_mem hk, ?_⟩
  have e : l.getD k (0, 0) = l[k] := by simp [List.getD, List.getElem?_eq_getElem hk]
  simp only [pX, pY, e] at h
  simp [h]
theorem ptsB_good {l : List (Int × Int)} (h : ∀ k, k < l.length → pokB (pX l k) (pY l k) = true) : ptsB l = true := by
  rw [ptsB, List.all_eq_true]
  intro p hp
  obtain ⟨k, hk, rfl⟩ := List.getElem_of_mem hp
  have e : l.getD k (0, 0) = l[k] := by simp [List.getD, List.getElem?_eq_getElem hk]
  have := h k hk
  simpa only [pX, pY, e] using this
set_option maxHeartbeats 1000000 in
theorem pts_spec (w : World) (a : Option Addr) (c : Nat) (l : List (Int × Int)) (hn : l.length ≤ 1048576) (h : PathAt w a l) :
    Calls Try.prog 108 #[.slice a l.length c] w fun e w' => e = .returned (.bool (pathB l)) ∧ Below w.heap.size w w' := by
  have HP := Lib.hid h
  rcases h with rfl | ⟨g, rfl, hg, _⟩
  · go_enter Try.func108, Try.ntmps108
    go_wp2
    go_rounds 1
    go_ret
    exact ⟨rfl, Below.refl _ _⟩
  · obtain ⟨n, hN⟩ : ∃ n, l.length = n := ⟨_, rfl⟩
    have HN := Lib.hid hN
    rw [hN] at hn ⊢
    clear hN
    go_enter Try.func108, Try.ntmps108
    go_wp2
    go_loopw [3] (fun v3 wr => ∃ k : Nat, k ≤ n ∧ v3 = .int .i64 (k : Int) ∧ Hid (∀ i, i < k → pokB (pX l i) (pY l i) = true) ∧ Below w.heap.size w wr) (fun v3 _ => n - (intOf v3).toNat)
    case atStart => exact ⟨0, Nat.zero_le _, rfl, Lib.hid (fun i hi => absurd hi (Nat.not_lt_zero i)), Below.refl _ _⟩
    case round =>
      obtain ⟨k, hk, rfl, hb, hB⟩ := hrel
      by_cases hlt : k < n
      · have hP := HP.out.on hB
        rcases hP with he | ⟨g', hg', hlg, hc⟩
        · have := HN.out; rw [he] at this; simp at this; omega
        · injection hg' with hg'
          injection hg' with hg'
          subst hg'
          have q := hc k (by rw [HN.out]; exact hlt)
          obtain ⟨q1, q2⟩ := q
          obtain ⟨x, hx⟩ : ∃ x, pX l k = x := ⟨_, rfl⟩
          obtain ⟨y, hy⟩ : ∃ y, pY l k = y := ⟨_, rfl⟩
          rw [hx] at q1; rw [hy] at q2
          have i0 : (0 : Int) ≤ (k : Int) := by omega
          have i1 : (k : Int) < (n : Int) := by omega
          have HX := Lib.hid (And.intro hx hy)
          clear hx hy hc
          have HB := Lib.hid hB
          clear hB
          go_wp2_with fail
          ((with_reducible refine (pok_spec x y _).mono ?_); rintro e w1 ⟨rfl, bb⟩)
          have hB1 := on_of HB.out bb
          have HB1 := Lib.hid hB1
          clear hB1 bb
          cases hp : pokB x y
          · have hno : pathB l = false := by rw [pathB, ptsB_bad (by rw [HN.out]; exact hlt) (by rw [HX.out.1, HX.out.2]; exact hp)]; simp
            have HS := Lib.hid hno
            clear hno hp
            go_wp2
            go_ret
            exact ⟨ret_bool HS.out.symm, HB1.out⟩
          · have hyes : ∀ i, i < k + 1 → pokB (pX l i) (pY l i) = true := fun i hi => by
              by_cases e : i = k
              · subst e; rw [HX.out.1, HX.out.2]; exact hp
              · exact hb.out i (by omega)
            have HS := Lib.hid hyes
            clear hyes hp
            go_wp2
            go_roundw
            case rel => exact ⟨k + 1, by omega, by go_num, HS, HB1.out⟩
            case measure => simp [intOf]; omega
      · obtain rfl : k = n := by omega
        have HB := Lib.hid hB
        clear hB
        go_wp2
        go_ret
        refine ⟨ret_bool ?_, HB.out⟩
        rw [pathB, ptsB_good (fun i hi => hb.out i (by rw [← HN.out]; exact hi)), HN.out, Bool.and_true]
        first | rfl | (apply decide_eq_decide.2; omega)
end Go.Proofs.Ytbdjnfnphilklaa.Ins
