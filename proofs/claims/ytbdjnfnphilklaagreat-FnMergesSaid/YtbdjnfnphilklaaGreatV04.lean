/-
  Texts of this seat, laid together: Recs, Point, In8
-/
import Derived.Test.YtbdjnfnphilklaaGreatRows
import Derived.WalkKit
import Derived.ProofKit
import Derived.OpenShut
import Derived.ChangeArms
import Derived.Deep.Slices
import Derived.Deep.Fields
import Derived.ChangeSame
import Derived.Test.YtbdjnfnphilklaaGreatV01
namespace Go.Proofs.YtbdjnfnphilklaaGreat.Recs
open Go.ChangeShapes Go.WideShapes Go.ChangeAt Go.RowKit
open Go.Deep
set_option linter.unusedVariables false
set_option linter.unusedSimpArgs false
set_option linter.unnecessarySimpa false
section
variable {H : Type} {enc : TypeId × Value → H} {P : Program} {w : World} {base : Nat} {spare : Nat → Bool} {held : Bool}
theorem open_recs {t e : TypeId} {fs : Array Field} {fuel : Nat} {cs : List Value} {x : DataW H × List MemPlace} (ht : P.underlying t = some (.slice e)) (he : P.underlying e = some (.struct fs))
    (hone : oneCellFields P fs = true) (hC : P.cellsOf e = fs.size) (h : DataW.trod enc P w base spare held fuel t cs = some x) :
    cs = [.slice none 0 0] ∨
    ∃ (a : Addr) (len cap : Nat), cs = [.slice (some a) len cap] ∧ len ≤ cap ∧ cap ≤ maxLen ∧
      ∀ i, i < len → ∀ (j : Nat) (f : Field), fs[j]? = some f → ∃ (v : Value) (y : DataW H × List MemPlace) (n : Nat), w.cell? (a.add (i * fs.size + j)) = some v ∧ DataW.trod enc P w base spare held n f.type [v] = some y := by
  rcases open_slice ht h with ⟨h0, _⟩ | ⟨a, len, cap, m, n, D, Pl, hcs, hb, hl, hm, hmm, hx, hi⟩
  · exact .inl h0
  · refine .inr ⟨a, len, cap, hcs, hl, hm, fun i him => ?_⟩
    obtain ⟨cs', hc, ht'⟩ := hi i (by rw [hmm]; split <;> omega)
    rw [hC] at hc
    obtain ⟨ys, n', hn', hy, hlen, hyl, hf⟩ := DataW.trod_struct he ht'
    obtain ⟨_, hcl, hat⟩ := World.cells?_some hc
    intro j f hj
    obtain ⟨ho, hk⟩ := hone_of hone j f hj
    have hjl : j < fs.size := (Array.getElem?_eq_some_iff.1 hj).1
    have hcell := hat j hjl
    have hv : cs'[j]? = some (cs'[j]'(by omega)) := List.getElem?_eq_getElem (by omega)
    have h1 := hf j f hj
    rw [ho, hk] at h1
    have hone' : (cs'.drop j).take 1 = [cs'[j]'(by omega)] := by
      rw [List.drop_eq_getElem_cons (by omega)]
      rfl
    rw [hone'] at h1
    have hys : ys[j]? = some (ys[j]'(by omega)) := List.getElem?_eq_getElem (by omega)
    refine ⟨_, _, n', ?_, h1.trans hys⟩
    rw [← Go.Deep.add_add, hcell, hv]
end
inductive FK where
  | int (k : IntKind)
  | bool
  | string
def FK.desc : FK → TypeDesc
  | .int k => .int k
  | .bool => .bool
  | .string => .string
def FK.fits : FK → Value → Prop
  | .int k, v => ∃ n : Int, v = .int k n ∧ (Lit.int k n).wf = true
  | .bool, v => ∃ b : Bool, v = .bool b
  | .string, v => ∃ s : ByteArray, v = .string s ∧ s.size ≤ maxLen
def IsRecs (kl : List FK) (w : World) (a : Option Addr) (len cap : Nat) (z : Nat → Nat → Value) : Prop :=
  len ≤ cap ∧ cap ≤ maxLen ∧ (len = 0 ∨ ∃ g o, a = some ⟨g, o, none⟩ ∧ g < w.heap.size ∧ ∀ i, i < len → ∀ j kd, kl[j]? = some kd → w.cell? ⟨g, o + (i * kl.length + j), none⟩ = some (z i j) ∧ kd.fits (z i j))
theorem recs_of {H : Type} {enc : TypeId × Value → H} {P : Program} {w : World} {base : Nat} {spare : Nat → Bool} {held : Bool} {kl : List FK} {t e : TypeId} {fs : Array Field} {a : Option Addr} {len cap : Nat} {d : DataW H} {p : List MemPlace}
    (ht : P.underlying t = some (.slice e)) (he : P.underlying e = some (.struct fs)) (hone : oneCellFields P fs = true) (hC : P.cellsOf e = fs.size) (hpos : 0 < kl.length) (hk : fs.toList.map (fun f => P.underlying f.type) = kl.map fun k => some k.desc)
    (h : DataW.Trod enc P w base spare held t (.slice a len cap) d p) : ∃ z, IsRecs kl w a len cap z := by
  obtain ⟨fuel, hf⟩ := h
  have hlen : fs.size = kl.length := by have := congrArg List.length hk; simpa using this
  rcases open_recs ht he hone hC hf with hcs | ⟨x, l, c, hcs, hl, hm, hcell⟩
  · simp [Value.cells] at hcs
    obtain ⟨rfl, rfl, rfl⟩ := hcs
    exact ⟨fun _ _ => undef, Nat.le_refl _, Nat.zero_le _, .inl rfl⟩
  · simp [Value.cells] at hcs
    obtain ⟨rfl, rfl, rfl⟩ := hcs
    by_cases h0 : len = 0
    · exact ⟨fun _ _ => undef, hl, hm, .inl h0⟩
    obtain ⟨xb, xo, xs⟩ := x
    have hget : ∀ (j : Nat) (kd : FK), kl[j]? = some kd → ∃ f : Field, fs[j]? = some f ∧ P.underlying f.type = some kd.desc := by
      intro j kd hj
      have hjl : j < kl.length := (List.getElem?_eq_some_iff.1 hj).1
      have h1 := congrArg (fun l => l[j]?) hk
      simp only [List.getElem?_map, hj, Option.map_some, Array.getElem?_toList] at h1
      cases hfj : fs[j]? with
      | none => rw [hfj] at h1; simp at h1
      | some f => rw [hfj] at h1; simp at h1; exact ⟨f, rfl, h1⟩
    have hfirst : ∃ kd, kl[0]? = some kd := ⟨kl[0]'(by omega), List.getElem?_eq_getElem (by omega)⟩
    obtain ⟨kd0, hkd0⟩ := hfirst
    obtain ⟨f0, hf0, _⟩ := hget 0 kd0 hkd0
    obtain ⟨v0, y0, n0, hv0, _⟩ := hcell 0 (by omega) 0 f0 hf0
    have hxs : xs = none := by simpa [Addr.add] using World.cell?_spot hv0
    subst hxs
    have hb : xb < w.heap.size := by simpa [Addr.add] using World.block_lt_of_cell? w _ hv0
    refine ⟨fun i j => (w.cell? ⟨xb, xo + (i * kl.length + j), none⟩).getD undef, hl, hm, .inr ⟨xb, xo, rfl, hb, fun i hi j kd hj => ?_⟩⟩
    obtain ⟨f, hfj, hu⟩ := hget j kd hj
    obtain ⟨v, y, n, hv, ht'⟩ := hcell i hi j f hfj
    rw [hlen] at hv
    have hv' : w.cell? ⟨xb, xo + (i * kl.length + j), none⟩ = some v := by
      by_cases hz : i * kl.length + j = 0
      · rw [hz] at hv ⊢; simpa [Addr.add] using hv
      · have h2 := hv
        simp only [Addr.add, if_neg hz] at h2
        exact h2
    simp only [hv', Option.getD_some]
    refine ⟨trivial, ?_⟩
    cases kd with
    | int k => obtain ⟨n, e, _, hw⟩ := DataW.trod_int hu ht'; exact ⟨n, by simpa using e, hw⟩
    | bool => obtain ⟨b, e, _⟩ := DataW.trod_bool hu ht'; exact ⟨b, by simpa using e⟩
    | string => obtain ⟨s, e, _, hs⟩ := DataW.trod_string hu ht'; exact ⟨s, by simpa using e, hs⟩
end Go.Proofs.YtbdjnfnphilklaaGreat.Recs
namespace Go.Proofs.YtbdjnfnphilklaaGreat.Point
open Go.ChangeShapes Go.WideShapes Go.ChangeAt Go.RowKit
open Kit
set_option linter.unusedVariables false
set_option linter.unusedSimpArgs false
set_option linter.unnecessarySimpa false
attribute [local go_sem ↓] run_mx run_mn
def inB (n : Int) : Bool := decide (-200 ≤ n ∧ n ≤ 200)
def pokB (x y : Int) : Bool := inB x && inB y
def bokB (x0 y0 x1 y1 : Int) : Bool := inB x0 && inB y0 && inB x1 && inB y1 && decide (x0 ≤ x1) && decide (y0 ≤ y1)
theorem inB_true {n : Int} (h : inB n = true) : -200 ≤ n ∧ n ≤ 200 := by simpa [inB] using h
theorem coord_any (n : Int) (w : World) : Calls Tryz.prog 136 #[.int .i64 n] w fun e w' => e = .returned (.bool (inB n)) ∧ w = w' := by
  by_cases h1 : -200 ≤ n <;> by_cases h2 : n ≤ 200
  all_goals
    go_enter Tryz.func136, Tryz.ntmps136
    go_wp2
    go_ret
    exact ⟨ret_bool (by simp [inB, h1, h2]), rfl⟩
theorem in_any (x a b : Int) (w : World) : Calls Tryz.prog 82 #[.int .i64 x, .int .i64 a, .int .i64 b] w fun e w' => e = .returned (.bool (decide (a ≤ x ∧ x ≤ b))) ∧ w = w' := by
  by_cases h1 : a ≤ x <;> by_cases h2 : x ≤ b
  all_goals
    go_enter Tryz.func82, Tryz.ntmps82
    go_wp2
    go_ret
    exact ⟨ret_bool (by simp [h1, h2]), rfl⟩
theorem in2_any (n : Int) (w : World) : Calls Tryz.prog 128 #[.int .i64 n] w fun e w' => e = .returned (.bool (inB n)) ∧ w = w' := by
  go_enter Tryz.func128, Tryz.ntmps128
  go_wp2_with (go_at_call 82; refine (in_any _ _ _ _).mono ?_; rintro e w' ⟨rfl, rfl⟩)
  go_ret
  exact ⟨ret_bool (by simp [inB]), rfl⟩
theorem pok_impl (x y : Int) (w : World) : Calls Tryz.prog 126 #[.agg #[.int .i64 x, .int .i64 y]] w fun e w' => e = .returned (.bool (pokB x y)) ∧ Below w.heap.size w w' := by
  by_cases h1 : inB x = true
  all_goals
    try simp only [Bool.not_eq_true] at h1
    go_enter Tryz.func126, Tryz.ntmps126
    go_wp2_with (go_at_call 136; refine (coord_any _ _).mono ?_; rintro e w' ⟨rfl, rfl⟩)
    go_ret
    exact ⟨ret_bool (by simp [pokB, h1]), by go_grown⟩
theorem pok_spec (x y : Int) (w : World) : Calls Tryz.prog 130 #[.agg #[.int .i64 x, .int .i64 y]] w fun e w' => e = .returned (.bool (pokB x y)) ∧ Below w.heap.size w w' := by
  by_cases h1 : inB x = true
  all_goals
    try simp only [Bool.not_eq_true] at h1
    go_enter Tryz.func130, Tryz.ntmps130
    go_wp2_with (go_at_call 128; refine (in2_any _ _).mono ?_; rintro e w' ⟨rfl, rfl⟩)
    go_ret
    exact ⟨ret_bool (by simp [pokB, h1]), by go_grown⟩
theorem bok_spec (x0 y0 x1 y1 : Int) (w : World) : Calls Tryz.prog 115 #[.agg #[.int .i64 x0, .int .i64 y0, .int .i64 x1, .int .i64 y1]] w fun e w' => e = .returned (.bool (bokB x0 y0 x1 y1)) ∧ Below w.heap.size w w' := by
  rcases four (inB x0) (inB y0) (inB x1) (inB y1) with h1 | ⟨h1, h2⟩ | ⟨h1, h2, h3⟩ | ⟨h1, h2, h3, h4⟩ | ⟨h1, h2, h3, h4⟩
  all_goals
    go_enter Tryz.func115, Tryz.ntmps115
    go_wp2_with (go_at_call 128; refine (in2_any _ _).mono ?_; rintro e w' ⟨rfl, rfl⟩)
    all_goals
      go_ret
      exact ⟨ret_bool (by simp [bokB, *]; try omega), by go_grown⟩
theorem bok_two (x0 y0 x1 y1 : Int) : bokB x0 y0 x1 y1 = (pokB x0 y0 && pokB x1 y1 && (decide (x0 ≤ x1) && decide (y0 ≤ y1))) := by
  simp [bokB, pokB, Bool.and_assoc]
theorem bok_impl (x0 y0 x1 y1 : Int) (w : World) : Calls Tryz.prog 109 #[.agg #[.int .i64 x0, .int .i64 y0, .int .i64 x1, .int .i64 y1]] w fun e w' => e = .returned (.bool (bokB x0 y0 x1 y1)) ∧ Below w.heap.size w w' := by
  cases h1 : pokB x0 y0 <;> cases h2 : pokB x1 y1
  all_goals
    go_enter Tryz.func109, Tryz.ntmps109
    go_wp2_with (go_at_call 126; refine (pok_impl _ _ _).mono ?_; rintro e w' ⟨rfl, hb⟩; have hB := on_of (W := w) (by go_grown) hb; obtain ⟨hc, hf⟩ := bcell hb; have hz : w.heap.size < w'.heap.size := (by have := hb.size; (try simp at this); omega); clear hb)
    all_goals
      go_ret
      exact ⟨ret_bool (by rw [bok_two]; simp [h1, h2]; try omega), by go_grown⟩
theorem bok_true {x0 y0 x1 y1 : Int} (h : bokB x0 y0 x1 y1 = true) : -200 ≤ x0 ∧ -200 ≤ y0 ∧ x1 ≤ 200 ∧ y1 ≤ 200 ∧ x0 ≤ x1 ∧ y0 ≤ y1 := by
  simp [bokB, inB] at h; omega
theorem bok_iff (x0 y0 x1 y1 : Int) : bokB x0 y0 x1 y1 = true ↔ -200 ≤ x0 ∧ -200 ≤ y0 ∧ x1 ≤ 200 ∧ y1 ≤ 200 ∧ x0 ≤ x1 ∧ y0 ≤ y1 := by
  simp [bokB, inB]; omega
end Go.Proofs.YtbdjnfnphilklaaGreat.Point
namespace Go.Proofs.YtbdjnfnphilklaaGreat.Ins
set_option linter.unusedVariables false
set_option linter.unusedSimpArgs false
set_option linter.unnecessarySimpa false
abbrev Pt := Int × Int
def crs (a b : Pt) (x y : Int) : Bool :=
  if decide (2 * y + 1 < 2 * a.2) == decide (2 * y + 1 < 2 * b.2) then false
  else if b.2 < a.2 then decide ((2 * x + 1 - 2 * b.1) * 2 * (a.2 - b.2) < (2 * y + 1 - 2 * b.2) * 2 * (a.1 - b.1))
  else decide ((2 * x + 1 - 2 * a.1) * 2 * (b.2 - a.2) < (2 * y + 1 - 2 * a.2) * 2 * (b.1 - a.1))
theorem crs_comm (a b : Pt) (x y : Int) : crs b a x y = crs a b x y := by
  unfold crs
  by_cases h : (decide (2 * y + 1 < 2 * a.2) == decide (2 * y + 1 < 2 * b.2)) = true
  · have h' : (decide (2 * y + 1 < 2 * b.2) == decide (2 * y + 1 < 2 * a.2)) = true := by simp only [beq_iff_eq] at *; exact h.symm
    rw [if_pos h, if_pos h']
  · have h' : ¬ (decide (2 * y + 1 < 2 * b.2) == decide (2 * y + 1 < 2 * a.2)) = true := by simp only [beq_iff_eq] at *; exact fun e => h e.symm
    rw [if_neg h, if_neg h']
    have hne : a.2 ≠ b.2 := fun e => h (by rw [e]; simp)
    by_cases hl : b.2 < a.2
    · rw [if_pos hl, if_neg (by omega)]
    · rw [if_neg hl, if_pos (by omega)]
def mv (d : Pt) (p : Pt) : Pt := (p.1 + d.1, p.2 + d.2)
theorem crs_mv (d a b : Pt) (x y : Int) : crs (mv d a) (mv d b) (x + d.1) (y + d.2) = crs a b x y := by
  unfold crs mv
  have e1 : decide (2 * (y + d.2) + 1 < 2 * (a.2 + d.2)) = decide (2 * y + 1 < 2 * a.2) := by congr 1; apply propext; omega
  have e2 : decide (2 * (y + d.2) + 1 < 2 * (b.2 + d.2)) = decide (2 * y + 1 < 2 * b.2) := by congr 1; apply propext; omega
  have e3 : (b.2 + d.2 < a.2 + d.2) = (b.2 < a.2) := by apply propext; omega
  simp only [e1, e2, e3]
  rw [show 2 * (x + d.1) + 1 - 2 * (b.1 + d.1) = 2 * x + 1 - 2 * b.1 by omega, show 2 * (x + d.1) + 1 - 2 * (a.1 + d.1) = 2 * x + 1 - 2 * a.1 by omega,
    show a.2 + d.2 - (b.2 + d.2) = a.2 - b.2 by omega, show b.2 + d.2 - (a.2 + d.2) = b.2 - a.2 by omega,
    show 2 * (y + d.2) + 1 - 2 * (b.2 + d.2) = 2 * y + 1 - 2 * b.2 by omega, show 2 * (y + d.2) + 1 - 2 * (a.2 + d.2) = 2 * y + 1 - 2 * a.2 by omega,
    show a.1 + d.1 - (b.1 + d.1) = a.1 - b.1 by omega, show b.1 + d.1 - (a.1 + d.1) = b.1 - a.1 by omega]
def crA (a b : Pt) : Int := a.1 * b.2 - b.1 * a.2
theorem crA_comm (a b : Pt) : crA b a = -crA a b := by unfold crA; omega
theorem crA_mv (d a b : Pt) : crA (mv d a) (mv d b) = crA a b + (d.1 * b.2 - d.2 * b.1) - (d.1 * a.2 - d.2 * a.1) := by
  unfold crA mv
  simp only [Int.add_mul, Int.mul_add]
  have e1 := Int.mul_comm a.1 d.2
  have e2 := Int.mul_comm b.1 d.2
  have e3 := Int.mul_comm d.1 d.2
  omega
def cp : List Pt → List (Pt × Pt)
  | [] => []
  | [_] => []
  | a :: b :: r => (a, b) :: cp (b :: r)
def sides : List Pt → List (Pt × Pt)
  | [] => []
  | h :: t => cp ((h :: t) ++ [h])
theorem cp_snoc : ∀ (l : List Pt) (a b : Pt), cp (l ++ [a, b]) = cp (l ++ [a]) ++ [(a, b)]
  | [], a, b => rfl
  | [x], a, b => rfl
  | x :: y :: r, a, b => by
    have := cp_snoc (y :: r) a b
    simp only [List.cons_append, cp] at this ⊢
    rw [this]
theorem cp_app : ∀ (l : List Pt) (a : Pt) (r : List Pt), cp (l ++ a :: r) = cp (l ++ [a]) ++ cp (a :: r)
  | [], a, r => rfl
  | [x], a, r => rfl
  | x :: y :: l, a, r => by
    have := cp_app (y :: l) a r
    simp only [List.cons_append, cp] at this ⊢
    rw [this]
theorem cp_rev : ∀ l : List Pt, cp l.reverse = ((cp l).map fun s => (s.2, s.1)).reverse
  | [] => rfl
  | [x] => rfl
  | x :: y :: r => by
    have h := cp_rev (y :: r)
    rw [List.reverse_cons] at h
    rw [List.reverse_cons, List.reverse_cons, List.append_assoc, List.singleton_append, cp_snoc, h]
    simp [cp]
theorem sides_turn (h : Pt) (t : List Pt) : (sides (t ++ [h])).Perm (sides (h :: t)) := by
  cases t with
  | nil => exact List.Perm.refl _
  | cons a r =>
    have e1 : sides ((a :: r) ++ [h]) = cp (a :: (r ++ [h])) ++ [(h, a)] := by
      show cp ((a :: (r ++ [h])) ++ [a]) = _
      have := cp_snoc (a :: r) h a
      simpa using this
    have e2 : sides (h :: a :: r) = (h, a) :: cp (a :: (r ++ [h])) := rfl
    rw [e1, e2]
    exact List.perm_append_comm.trans (by simp)
theorem sides_rev (l : List Pt) : (sides l.reverse).Perm ((sides l).map fun s => (s.2, s.1)) := by
  cases l with
  | nil => exact List.Perm.refl _
  | cons h t =>
    rw [List.reverse_cons]
    refine (sides_turn h t.reverse).trans ?_
    have e : sides (h :: t.reverse) = cp ((h :: t) ++ [h]).reverse := by
      show cp (h :: t.reverse ++ [h]) = _
      simp
    rw [e, cp_rev]
    exact List.reverse_perm _
theorem cp_mv (d : Pt) : ∀ l : List Pt, cp (l.map (mv d)) = (cp l).map fun s => (mv d s.1, mv d s.2)
  | [] => rfl
  | [x] => rfl
  | x :: y :: r => by
    have := cp_mv d (y :: r)
    simp only [List.map_cons, cp] at this ⊢
    rw [this]
theorem sides_mv (d : Pt) (l : List Pt) : sides (l.map (mv d)) = (sides l).map fun s => (mv d s.1, mv d s.2) := by
  cases l with
  | nil => rfl
  | cons h t =>
    have := cp_mv d ((h :: t) ++ [h])
    simpa [sides] using this
def odd : List Bool → Bool
  | [] => false
  | b :: r => b != odd r
theorem odd_app : ∀ a b : List Bool, odd (a ++ b) = (odd a != odd b)
  | [], b => by simp [odd]
  | x :: r, b => by simp only [List.cons_append, odd, odd_app r b]; cases x <;> cases odd r <;> cases odd b <;> rfl
theorem odd_snoc (l : List Bool) (b : Bool) : odd (l ++ [b]) = (odd l != b) := by rw [odd_app]; simp [odd]
theorem odd_perm {a b : List Bool} (h : a.Perm b) : odd a = odd b := by
  induction h with
  | nil => rfl
  | cons x _ ih => simp only [odd, ih]
  | swap x y l => simp only [odd]; cases x <;> cases y <;> cases odd l <;> rfl
  | trans _ _ i j => exact i.trans j
def insP (l : List Pt) (x y : Int) : Bool := odd ((sides l).map fun s => crs s.1 s.2 x y)
theorem insP_rev (l : List Pt) (x y : Int) : insP l.reverse x y = insP l x y := by
  unfold insP
  rw [odd_perm ((sides_rev l).map _), List.map_map]
  congr 1
  exact List.map_congr_left fun s _ => crs_comm s.1 s.2 x y
theorem insP_mv (d : Pt) (l : List Pt) (x y : Int) : insP (l.map (mv d)) (x + d.1) (y + d.2) = insP l x y := by
  unfold insP
  rw [sides_mv, List.map_map]
  congr 1
  exact List.map_congr_left fun s _ => crs_mv d s.1 s.2 x y
def arP (l : List Pt) : Int := ((sides l).map fun s => crA s.1 s.2).sum
theorem sum_perm {a b : List Int} (h : a.Perm b) : a.sum = b.sum := by
  induction h with
  | nil => rfl
  | cons x _ ih => simp only [List.sum_cons, ih]
  | swap x y l => simp only [List.sum_cons]; omega
  | trans _ _ i j => exact i.trans j
theorem sum_neg : ∀ l : List Int, (l.map fun x => -x).sum = -l.sum
  | [] => rfl
  | x :: r => by have := sum_neg r; simp only [List.map_cons, List.sum_cons, this]; omega
theorem arP_rev (l : List Pt) : arP l.reverse = -arP l := by
  unfold arP
  rw [sum_perm ((sides_rev l).map _), List.map_map, ← sum_neg, List.map_map]
  congr 1
  exact List.map_congr_left fun s _ => crA_comm s.1 s.2
theorem cp_tele (f : Pt → Int) : ∀ (l : List Pt) (a b : Pt), ((cp (a :: (l ++ [b]))).map fun s => f s.2 - f s.1).sum = f b - f a
  | [], a, b => by simp [cp]
  | x :: r, a, b => by
    have := cp_tele f r x b
    simp only [List.cons_append, cp, List.map_cons, List.sum_cons, this]
    omega
theorem sides_tele (f : Pt → Int) (l : List Pt) : ((sides l).map fun s => f s.2 - f s.1).sum = 0 := by
  cases l with
  | nil => rfl
  | cons h t =>
    have := cp_tele f t h h
    show ((cp (h :: (t ++ [h]))).map _).sum = 0
    rw [this]; omega
theorem sum_add {α : Type} (f g : α → Int) : ∀ l : List α, (l.map fun x => f x + g x).sum = (l.map f).sum + (l.map g).sum
  | [] => rfl
  | x :: r => by have := sum_add f g r; simp only [List.map_cons, List.sum_cons, this]; omega
theorem arP_mv (d : Pt) (l : List Pt) : arP (l.map (mv d)) = arP l := by
  unfold arP
  rw [sides_mv, List.map_map]
  have e : (sides l).map ((fun s : Pt × Pt => crA s.1 s.2) ∘ fun s => (mv d s.1, mv d s.2)) = (sides l).map (fun s => crA s.1 s.2 + ((d.1 * s.2.2 - d.2 * s.2.1) - (d.1 * s.1.2 - d.2 * s.1.1))) := by
    refine List.map_congr_left fun s _ => ?_
    show crA (mv d s.1) (mv d s.2) = _
    rw [crA_mv]; omega
  rw [e, sum_add (fun s : Pt × Pt => crA s.1 s.2) (fun s => (d.1 * s.2.2 - d.2 * s.2.1) - (d.1 * s.1.2 - d.2 * s.1.1)), sides_tele (fun p => d.1 * p.2 - d.2 * p.1) l]
  omega
theorem cp_len : ∀ (a : Pt) (l : List Pt), (cp (a :: l)).length = l.length
  | a, [] => rfl
  | a, b :: r => by rw [cp, List.length_cons, cp_len b r, List.length_cons]
theorem cp_get : ∀ (l : List Pt) (k : Nat) (h : k + 1 < l.length), (cp l)[k]? = some (l[k], l[k + 1])
  | a :: b :: r, 0, h => rfl
  | a :: b :: r, k + 1, h => by
    have := cp_get (b :: r) k (by simpa using h)
    simpa [cp] using this
theorem sides_len (l : List Pt) : (sides l).length = l.length := by
  cases l with
  | nil => rfl
  | cons h t => show (cp (h :: (t ++ [h]))).length = _; rw [cp_len]; simp
theorem sides_get (l : List Pt) (k : Nat) (h : k < l.length) : (sides l)[k]? = some (l[k], l[(k + 1) % l.length]'(Nat.mod_lt _ (by omega))) := by
  cases l with
  | nil => simp at h
  | cons a t =>
    have hl : (a :: t).length = t.length + 1 := rfl
    have h1 := cp_get ((a :: t) ++ [a]) k (by simp; omega)
    show (cp ((a :: t) ++ [a]))[k]? = _
    rw [h1]
    have e1 : ((a :: t) ++ [a])[k]'(by simp; omega) = (a :: t)[k] := List.getElem_append_left h
    by_cases hk : k + 1 < (a :: t).length
    · have e2 : ((a :: t) ++ [a])[k + 1]'(by simp; omega) = (a :: t)[k + 1] := List.getElem_append_left hk
      rw [e1, e2]
      congr 2
      exact (getElem_congr_idx (Nat.mod_eq_of_lt hk)).symm
    · have hk2 : k + 1 = (a :: t).length := by omega
      have e2 : ((a :: t) ++ [a])[k + 1]'(by simp; omega) = a := by
        rw [List.getElem_append_right (by omega)]; simp [hk2]
      rw [e1, e2]
      congr 2
      have : (k + 1) % (a :: t).length = 0 := by rw [hk2]; exact Nat.mod_self _
      have e3 : ∀ i (hi : i < (a :: t).length), i = 0 → (a :: t)[i] = a := by intro i hi h; subst h; rfl
      exact (e3 _ _ this).symm
end Go.Proofs.YtbdjnfnphilklaaGreat.Ins
