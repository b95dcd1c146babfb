/-
  The program's readToken: what the call returns, and that nothing that was there has turned; condition: at most 1048576 bytes.
-/
import Derived.Test.YtkkflpjpijnalaaDoorScanSpec
import Derived.Test.YtkkflpjpijnalaaDoorFmtImpl
import Derived.Test.YtkkflpjpijnalaaDoorShelf
namespace Go.Proofs.YtkkflpjpijnalaaDoor.Impl
open Go.ChangeShapes Go.WideShapes Go.ChangeAt Go.RowKit
open Kit Slabs Scan Num Nums Fmt ScanSpec
open Split (byt byt_in byt_end Ans)
set_option linter.unusedVariables false
set_option linter.unusedSimpArgs false
set_option linter.unnecessarySimpa false
set_option maxRecDepth 100000

/-- What readToken says of a field: the token, or the zero token. -/
def rdS (x : ByteArray) : ByteArray := ((tokOf x).getD (⟨#[]⟩, 0)).1
def rdN (x : ByteArray) : Int := ((tokOf x).getD (⟨#[]⟩, 0)).2

/-- The field behind a leading minus. -/
def cut (x : ByteArray) : ByteArray := ⟨(Lib.trimPrefix x.data.toList [45]).toArray⟩
def neg (x : ByteArray) : Bool := Lib.hasPrefix x.data.toList [45]

theorem cut_txt {m : Int} : cut (txt m) = txt (m.natAbs : Int) ∧ neg (txt m) = decide (m < 0) := by
  rcases Int.lt_or_le m 0 with hm | hm
  · obtain ⟨u, rfl⟩ : ∃ u : Nat, m = -(u : Int) := ⟨m.natAbs, by omega⟩
    have h1 := txt_minus (u := u) (by omega)
    have hp : Lib.hasPrefix (txt (-(u : Int))).data.toList [45] = true := by rw [h1]; simp [Lib.hasPrefix]
    refine ⟨?_, by rw [neg, hp]; simp; omega⟩
    apply list_ext
    have : (-(u : Int)).natAbs = u := by omega
    rw [this, txt_list]
    simp only [cut, Lib.trimPrefix, hp, if_true]
    rw [h1]; simp
  · obtain ⟨u, rfl⟩ : ∃ u : Nat, m = u := ⟨m.toNat, by omega⟩
    have h1 := txt_list u
    have hp : Lib.hasPrefix (txt (u : Int)).data.toList [45] = false := by
      rw [← Bool.not_eq_true]
      intro h
      have h4 : 0 < (Lib.decDigits u).length := by rw [Lib.decDigits_length]; exact Lib.nDigits_pos u
      cases hd : Lib.decDigits u with
      | nil => rw [hd] at h4; simp at h4
      | cons c r =>
        have h7 := digits_range u c (by rw [hd]; simp)
        rw [h1, hd] at h
        simp [Lib.hasPrefix] at h
        subst h
        have h45 : (45 : UInt8).toNat = 45 := rfl
        omega
    refine ⟨?_, by rw [neg, hp]; simp⟩
    apply list_ext
    simp [cut, Lib.trimPrefix, hp]

/-- The number that is read out of the digits and the sign. -/
def rdM (x : ByteArray) (n : Nat) : Int := if neg x = true then -(n : Int) else (n : Int)

theorem read_is {x : ByteArray} {n : Nat} {m : Int} (h : cut x = txt (n : Int)) (hx : x = txt m) : m = rdM x n := by
  subst hx
  obtain ⟨h1, h2⟩ := cut_txt (m := m)
  have h3 := txt_inj (h1.symm.trans h)
  unfold rdM
  rw [h2]
  simp only [decide_eq_true_eq]
  split <;> omega

theorem e0 : (⟨#[]⟩ : ByteArray).toList.isEmpty = true := by rw [NameImpl.empty_size]; rfl

theorem tok_num {x : ByteArray} {n : Nat} (h : cut x = txt (n : Int)) (h1 : tkB ⟨#[]⟩ (rdM x n) = true) (h2 : txt (rdM x n) = x) : tokOf x = some (⟨#[]⟩, rdM x n) := by
  have hr : -999 ≤ rdM x n ∧ rdM x n ≤ 999 := by
    simp only [tkB] at h1
    rw [if_pos e0] at h1
    exact of_decide_eq_true h1
  have := numOf_some hr.1 hr.2 h2.symm
  simp [tokOf, this]

theorem tok_none {x : ByteArray} (hn : nameB x = false) (h : ∀ m : Int, -999 ≤ m → m ≤ 999 → x ≠ txt m) : tokOf x = none := by
  simp [tokOf, numOf_none h, hn]

theorem tok_far {x : ByteArray} {n : Nat} (hn : nameB x = false) (h : cut x = txt (n : Int)) (h1 : tkB ⟨#[]⟩ (rdM x n) = false) : tokOf x = none := by
  refine tok_none hn fun m h0 h9 hx => ?_
  have := read_is h hx
  simp only [tkB] at h1
  rw [if_pos e0] at h1
  have := of_decide_eq_false h1
  omega

theorem tok_other {x : ByteArray} {n : Nat} (hn : nameB x = false) (h : cut x = txt (n : Int)) (h2 : txt (rdM x n) ≠ x) : tokOf x = none :=
  tok_none hn fun m _ _ hx => h2 (by rw [← read_is h hx]; exact hx.symm)

theorem tok_nonum {x : ByteArray} (hn : nameB x = false) (h : NoNum (cut x)) : tokOf x = none := by
  refine tok_none hn fun m h0 h9 hx => ?_
  subst hx
  exact h m.natAbs (by omega) (cut_txt (m := m)).1

theorem tok_name {x : ByteArray} (h : nameB x = true) : tokOf x = some (x, 0) := by
  have : numOf x = none := by
    refine numOf_none fun m h0 h9 hx => ?_
    obtain ⟨g1, g2, g3⟩ := (nameB_iff x).1 h
    have hb := g3 0 (by omega)
    rcases Int.lt_or_le m 0 with hm | hm
    · have := ((minus_only hx).1 hm).2; omega
    · obtain ⟨u, rfl⟩ : ∃ u : Nat, m = u := ⟨m.toNat, by omega⟩
      have h3 := txt_list u
      rw [← hx] at h3
      have h4 : 0 < (Lib.decDigits u).length := by rw [Lib.decDigits_length]; exact Lib.nDigits_pos u
      have h5 : x.data.toList[0]? = some ((Lib.decDigits u)[0]'h4) := by rw [h3]; exact List.getElem?_eq_getElem h4
      have h6 := (Split.byt_list h5).2
      have h7 := digits_range u _ (List.getElem_mem (l := Lib.decDigits u) (n := 0) h4)
      omega
  simp [tokOf, this, h]

theorem cut_size (x : ByteArray) : (cut x).size ≤ x.size := by
  have h : x.data.toList.length = x.size := by simp
  have h2 : (cut x).size = (Lib.trimPrefix x.data.toList [45]).length := by simp only [cut, ByteArray.size, List.size_toArray]
  rw [h2, Lib.trimPrefix]
  split
  · rw [List.length_drop]; omega
  · omega

theorem rd_some {x s : ByteArray} {m : Int} (h : tokOf x = some (s, m)) : Ending.returned (.tuple #[.agg #[.string s, .int .i64 m], .bool true]) = .returned (.tuple #[.agg #[.string (rdS x), .int .i64 (rdN x)], .bool (tokOf x).isSome]) := by
  simp [rdS, rdN, h]
theorem rd_none {x : ByteArray} (h : tokOf x = none) : Ending.returned (.tuple #[.agg #[.string ⟨#[]⟩, .int .i64 0], .bool false]) = .returned (.tuple #[.agg #[.string (rdS x), .int .i64 (rdN x)], .bool (tokOf x).isSome]) := by
  simp [rdS, rdN, h]

theorem cut_call (x : ByteArray) (w : World) : Calls Tryd.prog 41 #[.string x, .string ⟨#[45]⟩] w fun e w' => e = .returned (.tuple #[.string (cut x), .bool (neg x)]) ∧ w' = w := Tryd.strings_CutPrefix x ⟨#[45]⟩ w

theorem parse_impl_any (s : ByteArray) (hm : s.size ≤ 1048576) : (∃ n : Nat, n ≤ 1000000000 ∧ s = txt (n : Int) ∧ ∀ w : World, Tab w → Calls Tryd.prog 42 #[.string s] w fun e w' => e = .returned (.tuple #[.int .i64 (n : Int), .bool true]) ∧ Below w.heap.size w w') ∨
    (NoNum s ∧ ∀ w : World, Tab w → Errs w → Calls Tryd.prog 42 #[.string s] w fun e w' => e = .returned (.tuple #[.int .i64 0, .bool false]) ∧ Below w.heap.size w w') := by
  by_cases h : ∃ n : Nat, n ≤ 1000000000 ∧ s = txt (n : Int)
  · obtain ⟨n, hn, hs⟩ := h
    exact .inl ⟨n, hn, hs, impl_parse_yes n hn s hs⟩
  · have hno : NoNum s := fun n hn hs => h ⟨n, hn, hs⟩
    exact .inr ⟨hno, impl_parse_no s hm hno⟩

theorem text0_impl (n : Int) (w : World) (h0 : -9223372036854775808 ≤ n) (h1 : n ≤ 9223372036854775807) (hT : Tab w) : Calls Tryd.prog 22 #[.agg #[.string ⟨#[]⟩, .int .i64 n]] w fun e w' => e = .returned (.string (txt n)) ∧ Below w.heap.size w w' := by
  have h := text_impl ⟨#[]⟩ n w h0 h1 hT
  have e : tkT ⟨#[]⟩ n = txt n := by unfold tkT; rw [if_pos e0]
  rw [e] at h
  exact h

theorem e0_size : (⟨#[]⟩ : ByteArray).size ≤ 281474976710656 := by decide

set_option maxHeartbeats 2000000 in
theorem read_impl (x : ByteArray) (hx : x.size ≤ 1048576) (w : World) (hT : Tab w) (hE : Errs w) : Calls Tryd.prog 24 #[.string x] w fun e w' =>
    e = .returned (.tuple #[.agg #[.string (rdS x), .int .i64 (rdN x)], .bool (tokOf x).isSome]) ∧ Below w.heap.size w w' := by
  have HX := Lib.hid (And.intro hT hE)
  have hxn : x.size ≤ 281474976710656 := by omega
  have hcs : (cut x).size ≤ 1048576 := Nat.le_trans (cut_size x) hx
  clear hT hE
  cases hnm : nameB x
  · rcases parse_impl_any (cut x) hcs with ⟨n, hn, hs, hC⟩ | ⟨hno, hC⟩
    · have HC := Lib.hid hC
      have HS := Lib.hid hs
      clear hC hs hcs
      cases hng : neg x
      · have hm : rdM x n = (n : Int) := by simp [rdM, hng]
        have HM := Lib.hid hm
        clear hm
        cases htk : tkB ⟨#[]⟩ (n : Int)
        · have hno := tok_far hnm HS.out (by rw [HM.out]; exact htk)
          have HN := Lib.hid hno
          clear hno
          go_enter Tryd.func24, Tryd.ntmps24
          go_wp2_with fail
          ((with_reducible refine (name_impl _ _ hxn).mono ?_); rintro e w1 ⟨rfl, hb⟩)
          have hB := on_of (W := w) (by go_grown) hb
          have z0 : w1.cell? ⟨w.heap.size, 0, none⟩ = some (.string ⟨#[]⟩) := (hb.cell (p := ⟨w.heap.size, 0, none⟩) (by simp)).trans (by simp [go_sem])
          have z1 : w1.cell? ⟨w.heap.size, 1, none⟩ = some (.int .i64 0) := (hb.cell (p := ⟨w.heap.size, 1, none⟩) (by simp)).trans (by simp [go_sem])
          have fz : ∀ o, w1.frozen? ⟨w.heap.size, o, none⟩ = false := fun o => ((bcell hb).2 _ o (by simp)).trans (by simp [go_sem])
          have hl1 : w.heap.size < w1.heap.size := by have := hb.size; simp only [World.size_alloc] at this; omega
          clear hb
          go_wp2_with fail
          ((with_reducible refine (cut_call x w1).mono ?_); rintro e w1 ⟨rfl, rfl⟩)
          go_wp2_with fail
          ((with_reducible refine (HC.out _ (tab_below HX.out.1 hB)).mono ?_); rintro e w2 ⟨rfl, hb2⟩)
          have hB2 := on_of hB hb2
          have y0 := (hb2.cell (p := ⟨w.heap.size, 0, none⟩) hl1).trans z0
          have y1 := (hb2.cell (p := ⟨w.heap.size, 1, none⟩) hl1).trans z1
          have fy : ∀ o, w2.frozen? ⟨w.heap.size, o, none⟩ = false := fun o => ((bcell hb2).2 _ o hl1).trans (fz o)
          have hl2 : w.heap.size < w2.heap.size := by have := hb2.size; omega
          clear z0 z1 fz hl1 hB hb2
          have al2 : Below w2.heap.size w2 (w2.alloc (.cells #[.string ⟨#[]⟩, .int .i64 (n : Int)] 31)) := (Below.refl _ _).alloc (Nat.le_refl _) _
          go_wp2_with fail
          ((with_reducible refine (tok_impl _ _ _ e0_size).mono ?_); rintro e w3 ⟨rfl, hb3⟩)
          have x0 := (hb3.cell (p := ⟨w.heap.size, 0, none⟩) (by simp; omega)).trans ((al2.cell (p := ⟨w.heap.size, 0, none⟩) hl2).trans y0)
          have x1 := (hb3.cell (p := ⟨w.heap.size, 1, none⟩) (by simp; omega)).trans ((al2.cell (p := ⟨w.heap.size, 1, none⟩) hl2).trans y1)
          have fx : ∀ o, w3.frozen? ⟨w.heap.size, o, none⟩ = false := fun o => ((bcell hb3).2 _ o (by simp; omega)).trans (((bcell al2).2 _ o hl2).trans (fy o))
          have t0 : w3.cell? ⟨w2.heap.size, 0, none⟩ = some (.string ⟨#[]⟩) := (hb3.cell (p := ⟨w2.heap.size, 0, none⟩) (by simp)).trans (by simp [go_sem])
          have t1 : w3.cell? ⟨w2.heap.size, 1, none⟩ = some (.int .i64 (n : Int)) := (hb3.cell (p := ⟨w2.heap.size, 1, none⟩) (by simp)).trans (by simp [go_sem])
          have hl3 : w.heap.size < w3.heap.size ∧ w2.heap.size < w3.heap.size := by have := hb3.size; simp only [World.size_alloc] at this; omega
          have hB3 := on_of (hB2.alloc hB2.size _) hb3
          clear y0 y1 fy hb3 al2
          go_wp2
          refine bodyPost_ret (by simp [results, Tryd.results24, go_sem, *]; try rfl) rfl ?_
          exact ⟨rd_none HN.out, by go_grown⟩
        · by_cases htx : txt (n : Int) = x
          · have hyes := tok_num HS.out (by rw [HM.out]; exact htk) (by rw [HM.out]; exact htx)
            rw [HM.out] at hyes
            have HN := Lib.hid hyes
            have hcmp := same_text _ _ htx
            clear hyes htx
            go_enter Tryd.func24, Tryd.ntmps24
            go_wp2_with fail
            ((with_reducible refine (name_impl _ _ hxn).mono ?_); rintro e w1 ⟨rfl, hb⟩)
            have hB := on_of (W := w) (by go_grown) hb
            have z0 : w1.cell? ⟨w.heap.size, 0, none⟩ = some (.string ⟨#[]⟩) := (hb.cell (p := ⟨w.heap.size, 0, none⟩) (by simp)).trans (by simp [go_sem])
            have z1 : w1.cell? ⟨w.heap.size, 1, none⟩ = some (.int .i64 0) := (hb.cell (p := ⟨w.heap.size, 1, none⟩) (by simp)).trans (by simp [go_sem])
            have fz : ∀ o, w1.frozen? ⟨w.heap.size, o, none⟩ = false := fun o => ((bcell hb).2 _ o (by simp)).trans (by simp [go_sem])
            have hl1 : w.heap.size < w1.heap.size := by have := hb.size; simp only [World.size_alloc] at this; omega
            clear hb
            go_wp2_with fail
            ((with_reducible refine (cut_call x w1).mono ?_); rintro e w1 ⟨rfl, rfl⟩)
            go_wp2_with fail
            ((with_reducible refine (HC.out _ (tab_below HX.out.1 hB)).mono ?_); rintro e w2 ⟨rfl, hb2⟩)
            have hB2 := on_of hB hb2
            have y0 := (hb2.cell (p := ⟨w.heap.size, 0, none⟩) hl1).trans z0
            have y1 := (hb2.cell (p := ⟨w.heap.size, 1, none⟩) hl1).trans z1
            have fy : ∀ o, w2.frozen? ⟨w.heap.size, o, none⟩ = false := fun o => ((bcell hb2).2 _ o hl1).trans (fz o)
            have hl2 : w.heap.size < w2.heap.size := by have := hb2.size; omega
            clear z0 z1 fz hl1 hB hb2
            have al2 : Below w2.heap.size w2 (w2.alloc (.cells #[.string ⟨#[]⟩, .int .i64 (n : Int)] 31)) := (Below.refl _ _).alloc (Nat.le_refl _) _
            go_wp2_with fail
            ((with_reducible refine (tok_impl _ _ _ e0_size).mono ?_); rintro e w3 ⟨rfl, hb3⟩)
            have x0 := (hb3.cell (p := ⟨w.heap.size, 0, none⟩) (by simp; omega)).trans ((al2.cell (p := ⟨w.heap.size, 0, none⟩) hl2).trans y0)
            have x1 := (hb3.cell (p := ⟨w.heap.size, 1, none⟩) (by simp; omega)).trans ((al2.cell (p := ⟨w.heap.size, 1, none⟩) hl2).trans y1)
            have fx : ∀ o, w3.frozen? ⟨w.heap.size, o, none⟩ = false := fun o => ((bcell hb3).2 _ o (by simp; omega)).trans (((bcell al2).2 _ o hl2).trans (fy o))
            have t0 : w3.cell? ⟨w2.heap.size, 0, none⟩ = some (.string ⟨#[]⟩) := (hb3.cell (p := ⟨w2.heap.size, 0, none⟩) (by simp)).trans (by simp [go_sem])
            have t1 : w3.cell? ⟨w2.heap.size, 1, none⟩ = some (.int .i64 (n : Int)) := (hb3.cell (p := ⟨w2.heap.size, 1, none⟩) (by simp)).trans (by simp [go_sem])
            have hl3 : w.heap.size < w3.heap.size ∧ w2.heap.size < w3.heap.size := by have := hb3.size; simp only [World.size_alloc] at this; omega
            have hB3 := on_of (hB2.alloc hB2.size _) hb3
            clear y0 y1 fy hb3 al2
            go_wp2_with fail
            ((with_reducible refine (text0_impl _ _ (by omega) (by omega) (tab_below HX.out.1 hB3)).mono ?_); rintro e w4 ⟨rfl, hb4⟩)
            have v0 := (hb4.cell (p := ⟨w.heap.size, 0, none⟩) hl3.1).trans x0
            have v1 := (hb4.cell (p := ⟨w.heap.size, 1, none⟩) hl3.1).trans x1
            have fv : ∀ o, w4.frozen? ⟨w.heap.size, o, none⟩ = false := fun o => ((bcell hb4).2 _ o hl3.1).trans (fx o)
            have s0 := (hb4.cell (p := ⟨w2.heap.size, 0, none⟩) hl3.2).trans t0
            have s1 := (hb4.cell (p := ⟨w2.heap.size, 1, none⟩) hl3.2).trans t1
            have hB4 := on_of hB3 hb4
            have hl4 : w.heap.size < w4.heap.size := by have := hb4.size; omega
            clear x0 x1 fx t0 t1 hb4 hB3
            go_wp2
            refine bodyPost_ret (by simp [results, Tryd.results24, go_sem, *]; try rfl) rfl ?_
            exact ⟨rd_some HN.out, by go_grown⟩
          · have hno := tok_other hnm HS.out (by rw [HM.out]; exact htx)
            have HN := Lib.hid hno
            have hcmp := other_text _ _ htx
            clear hno htx
            go_enter Tryd.func24, Tryd.ntmps24
            go_wp2_with fail
            ((with_reducible refine (name_impl _ _ hxn).mono ?_); rintro e w1 ⟨rfl, hb⟩)
            have hB := on_of (W := w) (by go_grown) hb
            have z0 : w1.cell? ⟨w.heap.size, 0, none⟩ = some (.string ⟨#[]⟩) := (hb.cell (p := ⟨w.heap.size, 0, none⟩) (by simp)).trans (by simp [go_sem])
            have z1 : w1.cell? ⟨w.heap.size, 1, none⟩ = some (.int .i64 0) := (hb.cell (p := ⟨w.heap.size, 1, none⟩) (by simp)).trans (by simp [go_sem])
            have fz : ∀ o, w1.frozen? ⟨w.heap.size, o, none⟩ = false := fun o => ((bcell hb).2 _ o (by simp)).trans (by simp [go_sem])
            have hl1 : w.heap.size < w1.heap.size := by have := hb.size; simp only [World.size_alloc] at this; omega
            clear hb
            go_wp2_with fail
            ((with_reducible refine (cut_call x w1).mono ?_); rintro e w1 ⟨rfl, rfl⟩)
            go_wp2_with fail
            ((with_reducible refine (HC.out _ (tab_below HX.out.1 hB)).mono ?_); rintro e w2 ⟨rfl, hb2⟩)
            have hB2 := on_of hB hb2
            have y0 := (hb2.cell (p := ⟨w.heap.size, 0, none⟩) hl1).trans z0
            have y1 := (hb2.cell (p := ⟨w.heap.size, 1, none⟩) hl1).trans z1
            have fy : ∀ o, w2.frozen? ⟨w.heap.size, o, none⟩ = false := fun o => ((bcell hb2).2 _ o hl1).trans (fz o)
            have hl2 : w.heap.size < w2.heap.size := by have := hb2.size; omega
            clear z0 z1 fz hl1 hB hb2
            have al2 : Below w2.heap.size w2 (w2.alloc (.cells #[.string ⟨#[]⟩, .int .i64 (n : Int)] 31)) := (Below.refl _ _).alloc (Nat.le_refl _) _
            go_wp2_with fail
            ((with_reducible refine (tok_impl _ _ _ e0_size).mono ?_); rintro e w3 ⟨rfl, hb3⟩)
            have x0 := (hb3.cell (p := ⟨w.heap.size, 0, none⟩) (by simp; omega)).trans ((al2.cell (p := ⟨w.heap.size, 0, none⟩) hl2).trans y0)
            have x1 := (hb3.cell (p := ⟨w.heap.size, 1, none⟩) (by simp; omega)).trans ((al2.cell (p := ⟨w.heap.size, 1, none⟩) hl2).trans y1)
            have fx : ∀ o, w3.frozen? ⟨w.heap.size, o, none⟩ = false := fun o => ((bcell hb3).2 _ o (by simp; omega)).trans (((bcell al2).2 _ o hl2).trans (fy o))
            have t0 : w3.cell? ⟨w2.heap.size, 0, none⟩ = some (.string ⟨#[]⟩) := (hb3.cell (p := ⟨w2.heap.size, 0, none⟩) (by simp)).trans (by simp [go_sem])
            have t1 : w3.cell? ⟨w2.heap.size, 1, none⟩ = some (.int .i64 (n : Int)) := (hb3.cell (p := ⟨w2.heap.size, 1, none⟩) (by simp)).trans (by simp [go_sem])
            have hl3 : w.heap.size < w3.heap.size ∧ w2.heap.size < w3.heap.size := by have := hb3.size; simp only [World.size_alloc] at this; omega
            have hB3 := on_of (hB2.alloc hB2.size _) hb3
            clear y0 y1 fy hb3 al2
            go_wp2_with fail
            ((with_reducible refine (text0_impl _ _ (by omega) (by omega) (tab_below HX.out.1 hB3)).mono ?_); rintro e w4 ⟨rfl, hb4⟩)
            have v0 := (hb4.cell (p := ⟨w.heap.size, 0, none⟩) hl3.1).trans x0
            have v1 := (hb4.cell (p := ⟨w.heap.size, 1, none⟩) hl3.1).trans x1
            have fv : ∀ o, w4.frozen? ⟨w.heap.size, o, none⟩ = false := fun o => ((bcell hb4).2 _ o hl3.1).trans (fx o)
            have s0 := (hb4.cell (p := ⟨w2.heap.size, 0, none⟩) hl3.2).trans t0
            have s1 := (hb4.cell (p := ⟨w2.heap.size, 1, none⟩) hl3.2).trans t1
            have hB4 := on_of hB3 hb4
            have hl4 : w.heap.size < w4.heap.size := by have := hb4.size; omega
            clear x0 x1 fx t0 t1 hb4 hB3
            go_wp2
            refine bodyPost_ret (by simp [results, Tryd.results24, go_sem, *]; try rfl) rfl ?_
            exact ⟨rd_none HN.out, by go_grown⟩
      · have hm : rdM x n = -(n : Int) := by simp [rdM, hng]
        have hwr : IntKind.i64.wrap (-(n : Int)) = -(n : Int) := by rw [IntKind.wrap_i64]; omega
        have HM := Lib.hid hm
        clear hm
        cases htk : tkB ⟨#[]⟩ (-(n : Int))
        · have hno := tok_far hnm HS.out (by rw [HM.out]; exact htk)
          have HN := Lib.hid hno
          clear hno
          go_enter Tryd.func24, Tryd.ntmps24
          go_wp2_with fail
          ((with_reducible refine (name_impl _ _ hxn).mono ?_); rintro e w1 ⟨rfl, hb⟩)
          have hB := on_of (W := w) (by go_grown) hb
          have z0 : w1.cell? ⟨w.heap.size, 0, none⟩ = some (.string ⟨#[]⟩) := (hb.cell (p := ⟨w.heap.size, 0, none⟩) (by simp)).trans (by simp [go_sem])
          have z1 : w1.cell? ⟨w.heap.size, 1, none⟩ = some (.int .i64 0) := (hb.cell (p := ⟨w.heap.size, 1, none⟩) (by simp)).trans (by simp [go_sem])
          have fz : ∀ o, w1.frozen? ⟨w.heap.size, o, none⟩ = false := fun o => ((bcell hb).2 _ o (by simp)).trans (by simp [go_sem])
          have hl1 : w.heap.size < w1.heap.size := by have := hb.size; simp only [World.size_alloc] at this; omega
          clear hb
          go_wp2_with fail
          ((with_reducible refine (cut_call x w1).mono ?_); rintro e w1 ⟨rfl, rfl⟩)
          go_wp2_with fail
          ((with_reducible refine (HC.out _ (tab_below HX.out.1 hB)).mono ?_); rintro e w2 ⟨rfl, hb2⟩)
          have hB2 := on_of hB hb2
          have y0 := (hb2.cell (p := ⟨w.heap.size, 0, none⟩) hl1).trans z0
          have y1 := (hb2.cell (p := ⟨w.heap.size, 1, none⟩) hl1).trans z1
          have fy : ∀ o, w2.frozen? ⟨w.heap.size, o, none⟩ = false := fun o => ((bcell hb2).2 _ o hl1).trans (fz o)
          have hl2 : w.heap.size < w2.heap.size := by have := hb2.size; omega
          clear z0 z1 fz hl1 hB hb2
          have al2 : Below w2.heap.size w2 (w2.alloc (.cells #[.string ⟨#[]⟩, .int .i64 (-(n : Int))] 31)) := (Below.refl _ _).alloc (Nat.le_refl _) _
          go_wp2_with fail
          ((with_reducible refine (tok_impl _ _ _ e0_size).mono ?_); rintro e w3 ⟨rfl, hb3⟩)
          have x0 := (hb3.cell (p := ⟨w.heap.size, 0, none⟩) (by simp; omega)).trans ((al2.cell (p := ⟨w.heap.size, 0, none⟩) hl2).trans y0)
          have x1 := (hb3.cell (p := ⟨w.heap.size, 1, none⟩) (by simp; omega)).trans ((al2.cell (p := ⟨w.heap.size, 1, none⟩) hl2).trans y1)
          have fx : ∀ o, w3.frozen? ⟨w.heap.size, o, none⟩ = false := fun o => ((bcell hb3).2 _ o (by simp; omega)).trans (((bcell al2).2 _ o hl2).trans (fy o))
          have t0 : w3.cell? ⟨w2.heap.size, 0, none⟩ = some (.string ⟨#[]⟩) := (hb3.cell (p := ⟨w2.heap.size, 0, none⟩) (by simp)).trans (by simp [go_sem])
          have t1 : w3.cell? ⟨w2.heap.size, 1, none⟩ = some (.int .i64 (-(n : Int))) := (hb3.cell (p := ⟨w2.heap.size, 1, none⟩) (by simp)).trans (by simp [go_sem])
          have hl3 : w.heap.size < w3.heap.size ∧ w2.heap.size < w3.heap.size := by have := hb3.size; simp only [World.size_alloc] at this; omega
          have hB3 := on_of (hB2.alloc hB2.size _) hb3
          clear y0 y1 fy hb3 al2
          go_wp2
          refine bodyPost_ret (by simp [results, Tryd.results24, go_sem, *]; try rfl) rfl ?_
          exact ⟨rd_none HN.out, by go_grown⟩
        · by_cases htx : txt (-(n : Int)) = x
          · have hyes := tok_num HS.out (by rw [HM.out]; exact htk) (by rw [HM.out]; exact htx)
            rw [HM.out] at hyes
            have HN := Lib.hid hyes
            have hcmp := same_text _ _ htx
            clear hyes htx
            go_enter Tryd.func24, Tryd.ntmps24
            go_wp2_with fail
            ((with_reducible refine (name_impl _ _ hxn).mono ?_); rintro e w1 ⟨rfl, hb⟩)
            have hB := on_of (W := w) (by go_grown) hb
            have z0 : w1.cell? ⟨w.heap.size, 0, none⟩ = some (.string ⟨#[]⟩) := (hb.cell (p := ⟨w.heap.size, 0, none⟩) (by simp)).trans (by simp [go_sem])
            have z1 : w1.cell? ⟨w.heap.size, 1, none⟩ = some (.int .i64 0) := (hb.cell (p := ⟨w.heap.size, 1, none⟩) (by simp)).trans (by simp [go_sem])
            have fz : ∀ o, w1.frozen? ⟨w.heap.size, o, none⟩ = false := fun o => ((bcell hb).2 _ o (by simp)).trans (by simp [go_sem])
            have hl1 : w.heap.size < w1.heap.size := by have := hb.size; simp only [World.size_alloc] at this; omega
            clear hb
            go_wp2_with fail
            ((with_reducible refine (cut_call x w1).mono ?_); rintro e w1 ⟨rfl, rfl⟩)
            go_wp2_with fail
            ((with_reducible refine (HC.out _ (tab_below HX.out.1 hB)).mono ?_); rintro e w2 ⟨rfl, hb2⟩)
            have hB2 := on_of hB hb2
            have y0 := (hb2.cell (p := ⟨w.heap.size, 0, none⟩) hl1).trans z0
            have y1 := (hb2.cell (p := ⟨w.heap.size, 1, none⟩) hl1).trans z1
            have fy : ∀ o, w2.frozen? ⟨w.heap.size, o, none⟩ = false := fun o => ((bcell hb2).2 _ o hl1).trans (fz o)
            have hl2 : w.heap.size < w2.heap.size := by have := hb2.size; omega
            clear z0 z1 fz hl1 hB hb2
            have al2 : Below w2.heap.size w2 (w2.alloc (.cells #[.string ⟨#[]⟩, .int .i64 (-(n : Int))] 31)) := (Below.refl _ _).alloc (Nat.le_refl _) _
            go_wp2_with fail
            ((with_reducible refine (tok_impl _ _ _ e0_size).mono ?_); rintro e w3 ⟨rfl, hb3⟩)
            have x0 := (hb3.cell (p := ⟨w.heap.size, 0, none⟩) (by simp; omega)).trans ((al2.cell (p := ⟨w.heap.size, 0, none⟩) hl2).trans y0)
            have x1 := (hb3.cell (p := ⟨w.heap.size, 1, none⟩) (by simp; omega)).trans ((al2.cell (p := ⟨w.heap.size, 1, none⟩) hl2).trans y1)
            have fx : ∀ o, w3.frozen? ⟨w.heap.size, o, none⟩ = false := fun o => ((bcell hb3).2 _ o (by simp; omega)).trans (((bcell al2).2 _ o hl2).trans (fy o))
            have t0 : w3.cell? ⟨w2.heap.size, 0, none⟩ = some (.string ⟨#[]⟩) := (hb3.cell (p := ⟨w2.heap.size, 0, none⟩) (by simp)).trans (by simp [go_sem])
            have t1 : w3.cell? ⟨w2.heap.size, 1, none⟩ = some (.int .i64 (-(n : Int))) := (hb3.cell (p := ⟨w2.heap.size, 1, none⟩) (by simp)).trans (by simp [go_sem])
            have hl3 : w.heap.size < w3.heap.size ∧ w2.heap.size < w3.heap.size := by have := hb3.size; simp only [World.size_alloc] at this; omega
            have hB3 := on_of (hB2.alloc hB2.size _) hb3
            clear y0 y1 fy hb3 al2
            go_wp2_with fail
            ((with_reducible refine (text0_impl _ _ (by omega) (by omega) (tab_below HX.out.1 hB3)).mono ?_); rintro e w4 ⟨rfl, hb4⟩)
            have v0 := (hb4.cell (p := ⟨w.heap.size, 0, none⟩) hl3.1).trans x0
            have v1 := (hb4.cell (p := ⟨w.heap.size, 1, none⟩) hl3.1).trans x1
            have fv : ∀ o, w4.frozen? ⟨w.heap.size, o, none⟩ = false := fun o => ((bcell hb4).2 _ o hl3.1).trans (fx o)
            have s0 := (hb4.cell (p := ⟨w2.heap.size, 0, none⟩) hl3.2).trans t0
            have s1 := (hb4.cell (p := ⟨w2.heap.size, 1, none⟩) hl3.2).trans t1
            have hB4 := on_of hB3 hb4
            have hl4 : w.heap.size < w4.heap.size := by have := hb4.size; omega
            clear x0 x1 fx t0 t1 hb4 hB3
            go_wp2
            refine bodyPost_ret (by simp [results, Tryd.results24, go_sem, *]; try rfl) rfl ?_
            exact ⟨rd_some HN.out, by go_grown⟩
          · have hno := tok_other hnm HS.out (by rw [HM.out]; exact htx)
            have HN := Lib.hid hno
            have hcmp := other_text _ _ htx
            clear hno htx
            go_enter Tryd.func24, Tryd.ntmps24
            go_wp2_with fail
            ((with_reducible refine (name_impl _ _ hxn).mono ?_); rintro e w1 ⟨rfl, hb⟩)
            have hB := on_of (W := w) (by go_grown) hb
            have z0 : w1.cell? ⟨w.heap.size, 0, none⟩ = some (.string ⟨#[]⟩) := (hb.cell (p := ⟨w.heap.size, 0, none⟩) (by simp)).trans (by simp [go_sem])
            have z1 : w1.cell? ⟨w.heap.size, 1, none⟩ = some (.int .i64 0) := (hb.cell (p := ⟨w.heap.size, 1, none⟩) (by simp)).trans (by simp [go_sem])
            have fz : ∀ o, w1.frozen? ⟨w.heap.size, o, none⟩ = false := fun o => ((bcell hb).2 _ o (by simp)).trans (by simp [go_sem])
            have hl1 : w.heap.size < w1.heap.size := by have := hb.size; simp only [World.size_alloc] at this; omega
            clear hb
            go_wp2_with fail
            ((with_reducible refine (cut_call x w1).mono ?_); rintro e w1 ⟨rfl, rfl⟩)
            go_wp2_with fail
            ((with_reducible refine (HC.out _ (tab_below HX.out.1 hB)).mono ?_); rintro e w2 ⟨rfl, hb2⟩)
            have hB2 := on_of hB hb2
            have y0 := (hb2.cell (p := ⟨w.heap.size, 0, none⟩) hl1).trans z0
            have y1 := (hb2.cell (p := ⟨w.heap.size, 1, none⟩) hl1).trans z1
            have fy : ∀ o, w2.frozen? ⟨w.heap.size, o, none⟩ = false := fun o => ((bcell hb2).2 _ o hl1).trans (fz o)
            have hl2 : w.heap.size < w2.heap.size := by have := hb2.size; omega
            clear z0 z1 fz hl1 hB hb2
            have al2 : Below w2.heap.size w2 (w2.alloc (.cells #[.string ⟨#[]⟩, .int .i64 (-(n : Int))] 31)) := (Below.refl _ _).alloc (Nat.le_refl _) _
            go_wp2_with fail
            ((with_reducible refine (tok_impl _ _ _ e0_size).mono ?_); rintro e w3 ⟨rfl, hb3⟩)
            have x0 := (hb3.cell (p := ⟨w.heap.size, 0, none⟩) (by simp; omega)).trans ((al2.cell (p := ⟨w.heap.size, 0, none⟩) hl2).trans y0)
            have x1 := (hb3.cell (p := ⟨w.heap.size, 1, none⟩) (by simp; omega)).trans ((al2.cell (p := ⟨w.heap.size, 1, none⟩) hl2).trans y1)
            have fx : ∀ o, w3.frozen? ⟨w.heap.size, o, none⟩ = false := fun o => ((bcell hb3).2 _ o (by simp; omega)).trans (((bcell al2).2 _ o hl2).trans (fy o))
            have t0 : w3.cell? ⟨w2.heap.size, 0, none⟩ = some (.string ⟨#[]⟩) := (hb3.cell (p := ⟨w2.heap.size, 0, none⟩) (by simp)).trans (by simp [go_sem])
            have t1 : w3.cell? ⟨w2.heap.size, 1, none⟩ = some (.int .i64 (-(n : Int))) := (hb3.cell (p := ⟨w2.heap.size, 1, none⟩) (by simp)).trans (by simp [go_sem])
            have hl3 : w.heap.size < w3.heap.size ∧ w2.heap.size < w3.heap.size := by have := hb3.size; simp only [World.size_alloc] at this; omega
            have hB3 := on_of (hB2.alloc hB2.size _) hb3
            clear y0 y1 fy hb3 al2
            go_wp2_with fail
            ((with_reducible refine (text0_impl _ _ (by omega) (by omega) (tab_below HX.out.1 hB3)).mono ?_); rintro e w4 ⟨rfl, hb4⟩)
            have v0 := (hb4.cell (p := ⟨w.heap.size, 0, none⟩) hl3.1).trans x0
            have v1 := (hb4.cell (p := ⟨w.heap.size, 1, none⟩) hl3.1).trans x1
            have fv : ∀ o, w4.frozen? ⟨w.heap.size, o, none⟩ = false := fun o => ((bcell hb4).2 _ o hl3.1).trans (fx o)
            have s0 := (hb4.cell (p := ⟨w2.heap.size, 0, none⟩) hl3.2).trans t0
            have s1 := (hb4.cell (p := ⟨w2.heap.size, 1, none⟩) hl3.2).trans t1
            have hB4 := on_of hB3 hb4
            have hl4 : w.heap.size < w4.heap.size := by have := hb4.size; omega
            clear x0 x1 fx t0 t1 hb4 hB3
            go_wp2
            refine bodyPost_ret (by simp [results, Tryd.results24, go_sem, *]; try rfl) rfl ?_
            exact ⟨rd_none HN.out, by go_grown⟩
    · have HC := Lib.hid hC
      have HN := Lib.hid (tok_nonum hnm hno)
      have hw0 : IntKind.i64.wrap 0 = 0 := rfl
      clear hC hno hcs
      cases hng : neg x
      all_goals
        go_enter Tryd.func24, Tryd.ntmps24
        go_wp2_with fail
        ((with_reducible refine (name_impl _ _ hxn).mono ?_); rintro e w1 ⟨rfl, hb⟩)
        have hB := on_of (W := w) (by go_grown) hb
        have z0 : w1.cell? ⟨w.heap.size, 0, none⟩ = some (.string ⟨#[]⟩) := (hb.cell (p := ⟨w.heap.size, 0, none⟩) (by simp)).trans (by simp [go_sem])
        have z1 : w1.cell? ⟨w.heap.size, 1, none⟩ = some (.int .i64 0) := (hb.cell (p := ⟨w.heap.size, 1, none⟩) (by simp)).trans (by simp [go_sem])
        have fz : ∀ o, w1.frozen? ⟨w.heap.size, o, none⟩ = false := fun o => ((bcell hb).2 _ o (by simp)).trans (by simp [go_sem])
        have hl1 : w.heap.size < w1.heap.size := by have := hb.size; simp only [World.size_alloc] at this; omega
        clear hb
        go_wp2_with fail
        ((with_reducible refine (cut_call x w1).mono ?_); rintro e w1 ⟨rfl, rfl⟩)
        go_wp2_with fail
        ((with_reducible refine (HC.out _ (tab_below HX.out.1 hB) (errs_below HX.out.2 hB)).mono ?_); rintro e w2 ⟨rfl, hb2⟩)
        have hB2 := on_of hB hb2
        have y0 := (hb2.cell (p := ⟨w.heap.size, 0, none⟩) hl1).trans z0
        have y1 := (hb2.cell (p := ⟨w.heap.size, 1, none⟩) hl1).trans z1
        have fy : ∀ o, w2.frozen? ⟨w.heap.size, o, none⟩ = false := fun o => ((bcell hb2).2 _ o hl1).trans (fz o)
        have hl2 : w.heap.size < w2.heap.size := by have := hb2.size; omega
        clear z0 z1 fz hl1 hB hb2
        go_wp2
        refine bodyPost_ret (by simp [results, Tryd.results24, go_sem, *]; try rfl) rfl ?_
        exact ⟨rd_none HN.out, by go_grown⟩
  · have ht := tok_name hnm
    have HT := Lib.hid ht
    clear ht hcs
    go_enter Tryd.func24, Tryd.ntmps24
    go_wp2_with fail
    ((with_reducible refine (name_impl _ _ hxn).mono ?_); rintro e w1 ⟨rfl, hb⟩)
    have hB := on_of (W := w) (by go_grown) hb
    have z0 : w1.cell? ⟨w.heap.size, 0, none⟩ = some (.string ⟨#[]⟩) := (hb.cell (p := ⟨w.heap.size, 0, none⟩) (by simp)).trans (by simp [go_sem])
    have z1 : w1.cell? ⟨w.heap.size, 1, none⟩ = some (.int .i64 0) := (hb.cell (p := ⟨w.heap.size, 1, none⟩) (by simp)).trans (by simp [go_sem])
    have fz : ∀ o, w1.frozen? ⟨w.heap.size, o, none⟩ = false := fun o => ((bcell hb).2 _ o (by simp)).trans (by simp [go_sem])
    have hl1 : w.heap.size < w1.heap.size := by have := hb.size; simp only [World.size_alloc] at this; omega
    clear hb
    go_wp2
    refine bodyPost_ret (by simp [results, Tryd.results24, go_sem, *]; try rfl) rfl ?_
    exact ⟨rd_some HT.out, by go_grown⟩

end Go.Proofs.YtkkflpjpijnalaaDoor.Impl
