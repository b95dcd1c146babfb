/-
  The model's and the program's SplitFields: what each call returns, and that nothing that was there has turned; condition: the line is no longer than a string can be.
-/
import Derived.Test.YtkkflpjpijnalaaDoorRows
import Derived.Test.YtkkflpjpijnalaaDoorByt
import Derived.Test.YtkkflpjpijnalaaDoorShelf
import Derived.WalkKit
import Derived.ProofKit
import Derived.OpenShut
import Derived.Below
import Derived.LoopTactic
import Derived.Outline
import Derived.RegionTactic
import Derived.Deep.QuietTactic
import Derived.BigQuiet
import Derived.Handy
import Derived.OwnWalk
import Derived.Lib.Hide
import Derived.Maps.AppendAt
import Derived.Deep.AppendLies
namespace Go.Proofs.YtkkflpjpijnalaaDoor.Split
open Go.ChangeShapes Go.WideShapes Go.ChangeAt Go.RowKit
set_option linter.unusedVariables false
set_option maxRecDepth 100000

theorem info9 : (Tryd.prog.info? 9).map (fun i => (i.zero, i.size, i.bytes)) = some (some (.string ⟨#[]⟩), 1, 16) := by kernel_rfl


/-- A field that begins at p.1 ends before k. -/
def add (s : ByteArray) (p : Nat × List ByteArray) (k : Nat) : List ByteArray := if p.1 < k then p.2 ++ [s.extract p.1 k] else p.2
/-- Where the next field begins, and the fields so far, before byte k. -/
def st (s : ByteArray) : Nat → Nat × List ByteArray
  | 0 => (0, [])
  | k + 1 => if byt s k = 32 then (k + 1, add s (st s k) k) else st s k
theorem st_space {s : ByteArray} {k : Nat} (h : byt s k = 32) : st s (k + 1) = (k + 1, add s (st s k) k) := by simp only [st]; rw [if_pos h]
theorem st_other {s : ByteArray} {k : Nat} (h : byt s k ≠ 32) : st s (k + 1) = st s k := by simp only [st]; rw [if_neg h]
theorem st_bd (s : ByteArray) : ∀ k, (st s k).1 ≤ k ∧ (st s k).2.length ≤ k
  | 0 => ⟨Nat.le_refl _, Nat.le_refl _⟩
  | k + 1 => by
    obtain ⟨h1, h2⟩ := st_bd s k
    by_cases h : byt s k = 32
    · rw [st_space h]
      refine ⟨Nat.le_refl _, ?_⟩
      simp only [add]
      split
      · simp; omega
      · omega
    · rw [st_other h]; omega
/-- The fields. -/
def fin (s : ByteArray) : List ByteArray := add s (st s s.size) s.size
theorem fin_st (s : ByteArray) : st s (s.size + 1) = (s.size + 1, fin s) := st_space (byt_end s)

def valid (s : ByteArray) (k : Nat) : Prop := ∀ j, j < k → j < s.size → 32 ≤ byt s j ∧ byt s j ≤ 126
theorem valid_succ {s : ByteArray} {k : Nat} (h : valid s k) (h1 : k < s.size → 32 ≤ byt s k ∧ byt s k ≤ 126) : valid s (k + 1) := by
  intro j hj hs
  rcases Nat.lt_or_ge j k with h' | h'
  · exact h j h' hs
  · obtain rfl : j = k := by omega
    exact h1 hs
/-- The line has fields. -/
def Ok (s : ByteArray) : Prop := s.size ≤ 600 ∧ valid s s.size ∧ (fin s).length ≤ 24
/-- What SplitFields answers. -/
def Ans (s : ByteArray) (b : Bool) (l : List ByteArray) : Prop := (Ok s ∧ b = true ∧ l = fin s) ∨ (¬ Ok s ∧ b = false ∧ l = [])
theorem ans_bad {s : ByteArray} {k : Nat} (hk : k < s.size) (h : byt s k < 32 ∨ 126 < byt s k) : Ans s false [] :=
  .inr ⟨fun hok => by have := hok.2.1 k hk hk; omega, rfl, rfl⟩
theorem ans_long {s : ByteArray} (h : 600 < s.size) : Ans s false [] := .inr ⟨fun hok => by have := hok.1; omega, rfl, rfl⟩
theorem ans_many {s : ByteArray} (h : 24 < (fin s).length) : Ans s false [] := .inr ⟨fun hok => by have := hok.2.2; omega, rfl, rfl⟩
theorem ans_ok {s : ByteArray} (h0 : s.size ≤ 600) (h1 : valid s s.size) (h2 : (fin s).length ≤ 24) : Ans s true (fin s) := .inl ⟨⟨h0, h1, h2⟩, rfl, rfl⟩

/-- The call owns a slice of these texts. -/
def Owns (w : World) (base : Nat) (v : Value) (l : List ByteArray) : Prop := w.ownsRow base 9 1 v l.length (l.map Value.string)

/-- What SplitFields leaves. -/
def Left (s : ByteArray) (w : World) (e : Ending) (w' : World) : Prop := ∃ (v : Value) (b : Bool) (l : List ByteArray), e = .returned (.tuple #[v, .bool b]) ∧ Ans s b l ∧ Owns w' w.heap.size v l ∧ Below w.heap.size w w'

theorem Owns.below {w w' : World} {base : Nat} {v : Value} {l : List ByteArray} (h : Owns w base v l) (hb : Below w.heap.size w w') : Owns w' base v l :=
  World.ownsRow.kept h (row := none) ⟨hb.os, hb.tape, hb.output, hb.size, fun k hk _ => hb.block k hk⟩ (by
    cases hv : v.ownBlock with
    | none => exact .inl rfl
    | some g => exact .inr (by simp))

set_option maxHeartbeats 1000000 in
theorem clone_any (f : ByteArray) (w : World) (hf : f.size ≤ 281474976710656) :
    Calls Tryd.prog 47 #[.string f] w fun e w' => e = .returned (.string f) ∧ Below w.heap.size w w' := by
  go_enter Tryd.func47, Tryd.ntmps47
  go_wp2_with (go_at_call 52; refine (Tryd.stringslite_Clone f _ hf).mono ?_; rintro e w' ⟨rfl, b1⟩)
  go_ret
  exact ⟨rfl, b1⟩

set_option maxHeartbeats 1000000 in
theorem app_skip (v : Value) (f : ByteArray) (hf : f.toList = []) (w : World) :
    Calls Tryd.prog 40 #[v, .string f] w fun e w' => e = .returned v ∧ w = w' := by
  have h2 : (!f.toList.isEmpty) = false := by rw [hf]; rfl
  go_enter Tryd.func40, Tryd.ntmps40
  go_wp2
  go_ret
  exact ⟨rfl, rfl⟩

set_option maxHeartbeats 1000000 in
theorem app_put (B : Nat) (v : Value) (l : List ByteArray) (f : ByteArray) (hf : ¬ f.toList = []) (hs : f.size ≤ 281474976710656) (w : World) (hB : B ≤ w.heap.size) (hl : l.length ≤ 100000) (hown : Owns w B v l) :
    Calls Tryd.prog 40 #[v, .string f] w fun e w' => ∃ v', e = .returned v' ∧ Owns w' B v' (l ++ [f]) ∧ Below B w w' := by
  obtain ⟨i0, hi0, hz0, hz1, hz2⟩ := info_parts info9
  have h2 : f.toList.isEmpty = false := by cases h : f.toList with | nil => exact absurd h hf | cons c r => rfl
  have HO := Lib.hid hown
  clear hown
  go_enter Tryd.func40, Tryd.ntmps40
  go_wp2_with (first
    | (go_at_call 47; refine (clone_any f _ hs).mono ?_; rintro e w1 ⟨rfl, b1⟩; have hown := HO.out.below b1)
    | (at_builtin; refine wpList_append_own _ rfl _ _ 45 rfl B 9 i0 (.string ⟨#[]⟩) 1 16 Tryd.underlying45 hi0 hz0 hz1 hz2 rfl (by decide) _ _ _ rfl (World.ownsRow.alloc hown _) ⟨w1.heap.size, 0, none⟩ 1 1 [.string f] rfl rfl ?c1 ?c2 ?c3 ?c4 ?c5 ?_))
  case c1 => exact World.news_of_block (cs := #[.string f]) (t := 9) (fr := (0, 0)) (heap_alloc_new w1 _)
  case c2 => simp [Value.oneCell']
  case c3 => unfold maxLen; omega
  case c4 => omega
  case c5 => have := b1.size; simp; omega
  intro v2 w2 hown2 hgrow _
  have hrel : Owns w2 B v2 (l ++ [f]) := by
    unfold Owns
    rw [List.map_append, List.length_append]
    exact hown2
  have hbel : Below B w w2 := ((b1.mono hB).alloc (Nat.le_trans hB b1.size) _).grown hgrow (by have := b1.size; simp; omega) (fun q hq => (World.ownsRow.lt hown q hq).1)
  clear hown hown2 hgrow
  go_wp2
  go_ret
  exact ⟨_, rfl, hrel, hbel⟩

theorem own_form {w : World} {base : Nat} {v : Value} {l : List ByteArray} (h : Owns w base v l) : (v = .slice none 0 0 ∧ l.length = 0) ∨ ∃ g cap, v = .slice (some ⟨g, 0, none⟩) l.length cap := by
  rcases h.2 with h | ⟨g, cap, cur, h, _⟩
  · exact .inl h
  · exact .inr ⟨g, cap, h⟩
theorem Owns.form {w : World} {base : Nat} {v : Value} {l : List ByteArray} (h : Owns w base v l) : ∃ p c, v = .slice p l.length c := by
  rcases own_form h with ⟨rfl, h0⟩ | ⟨g, cap, rfl⟩
  · exact ⟨none, 0, by rw [h0]⟩
  · exact ⟨_, _, rfl⟩

set_option maxHeartbeats 4000000 in
theorem spec_split (s : ByteArray) (w : World) (hm : s.size ≤ 1048576) :
    Calls Tryd.prog 30 #[.string s] w (Left s w) := by
  obtain ⟨i0, hi0, hz0, hz1, hz2⟩ := info_parts info9
  by_cases hsz : (600 : Int) < s.size
  · go_enter Tryd.func30, Tryd.ntmps30
    go_wp2
    go_ret2
    exact ⟨_, _, _, rfl, ans_long (by omega), World.ownsRow_made w #[] 0 (Nat.le_refl _) (by decide) (by simp), (Below.refl _ _).alloc (Nat.le_refl _) _⟩
  · go_enter Tryd.func30, Tryd.ntmps30
    go_wp2
    go_loopw [4, 5, 6] (fun v p i wr => ∃ (k b : Nat) (o : List ByteArray), k ≤ s.size + 1 ∧ i = .int .i64 (k : Int) ∧ p = .int .i64 (b : Int) ∧ st s k = (b, o) ∧ valid s k ∧ Owns wr w.heap.size v o ∧ Below w.heap.size w wr) (fun _ _ i _ => s.size + 1 - (intOf i).toNat)
    case atStart => exact ⟨0, 0, [], by omega, rfl, rfl, rfl, fun j hj => by omega, World.ownsRow_made w #[] 0 (Nat.le_refl _) (by decide) (by simp), (Below.refl _ _).alloc (Nat.le_refl _) _⟩
    case round =>
      obtain ⟨k, b, o, hk, rfl, rfl, hst, hv, hown, hbel⟩ := hrel
      obtain ⟨hb1, hb2⟩ := st_bd s k
      rw [hst] at hb1 hb2
      simp only at hb1 hb2
      have HST := Lib.hid hst
      have HV := Lib.hid hv
      clear hst hv
      by_cases hlt : k < s.size
      · have hbk := byt_in s k hlt
        have HB := Lib.hid hbk
        clear hbk
        by_cases e0 : (s[k].toNat : Int) < 32
        · go_wp2
          go_ret2
          exact ⟨_, _, _, rfl, ans_bad hlt (by rw [byt_in s k hlt]; omega), World.ownsRow_made wr #[] 0 hbel.size (by decide) (by simp), hbel.alloc hbel.size _⟩
        · by_cases e1 : (126 : Int) < (s[k].toNat : Int)
          · go_wp2
            go_ret2
            exact ⟨_, _, _, rfl, ans_bad hlt (by rw [byt_in s k hlt]; omega), World.ownsRow_made wr #[] 0 hbel.size (by decide) (by simp), hbel.alloc hbel.size _⟩
          · by_cases e2 : (s[k].toNat : Int) = 32
            · have he2 : ((s[k].toNat : Int) != 32) = false := by simp [e2]
              have hspc : byt s k = 32 := by rw [HB.out]; exact e2
              have HS := Lib.hid hspc
              clear hspc e2
              by_cases e3 : b < k
              · have hne : (b : Int) < (k : Int) := by omega
                go_wp2_with (at_builtin; refine wpList_append_own _ rfl _ _ 45 rfl w.heap.size 9 i0 (.string ⟨#[]⟩) 1 16 Tryd.underlying45 hi0 hz0 hz1 hz2 rfl (by decide) _ _ _ rfl (World.ownsRow.alloc hown _) ⟨wr.heap.size, 0, none⟩ 1 1 [.string (s.extract b k)] rfl rfl (World.news_of_block (cs := #[.string (s.extract b k)]) (t := 9) (fr := (0, 0)) (heap_alloc_new wr _)) (by simp [Value.oneCell']) (by unfold maxLen; omega) (by omega) (by have := hbel.size; simp; omega) ?_)
                intro v2 w2 hown2 hgrow _
                have hrel : Owns w2 w.heap.size v2 (o ++ [s.extract b k]) := by
                  unfold Owns
                  rw [List.map_append, List.length_append]
                  exact hown2
                have hbel2 : Below w.heap.size w w2 := (hbel.alloc hbel.size _).grown hgrow (by have := hbel.size; simp; omega) (fun q hq => (World.ownsRow.lt hown q hq).1)
                clear hown hown2 hgrow hbel
                go_wp2
                refine ⟨⟨k + 1, k + 1, o ++ [s.extract b k], by omega, by go_num, by go_num, ?_, valid_succ HV.out (fun h => ?_), hrel, hbel2⟩, by simp [intOf]; omega⟩
                · rw [st_space HS.out, HST.out]; simp only [add]; rw [if_pos e3]
                · rw [HS.out]; omega
              · have hne : ¬ (b : Int) < (k : Int) := by omega
                go_wp2
                refine ⟨⟨k + 1, k + 1, o, by omega, by go_num, by go_num, ?_, valid_succ HV.out (fun h => ?_), hown, hbel⟩, by simp [intOf]; omega⟩
                · rw [st_space HS.out, HST.out]; simp only [add]; rw [if_neg e3]
                · rw [HS.out]; omega
            · have he2 : ((s[k].toNat : Int) != 32) = true := by simpa using e2
              have hspc : byt s k ≠ 32 := by rw [HB.out]; exact e2
              have HS := Lib.hid hspc
              clear hspc
              go_wp2
              refine ⟨⟨k + 1, b, o, by omega, by go_num, rfl, ?_, valid_succ HV.out (fun h => ?_), hown, hbel⟩, by simp [intOf]; omega⟩
              · rw [st_other HS.out, HST.out]
              · rw [HB.out]; omega
      · by_cases hend : k = s.size
        · have hspc : byt s k = 32 := by rw [hend]; exact byt_end s
          have HS := Lib.hid hspc
          clear hspc
          have hle : (k : Int) ≤ (s.size : Int) := by omega
          have hnl : ¬ (k : Int) < (s.size : Int) := by omega
          have hks : k ≤ s.size := by omega
          clear hend
          by_cases e3 : b < k
          · have hne : (b : Int) < (k : Int) := by omega
            go_wp2_with (at_builtin; refine wpList_append_own _ rfl _ _ 45 rfl w.heap.size 9 i0 (.string ⟨#[]⟩) 1 16 Tryd.underlying45 hi0 hz0 hz1 hz2 rfl (by decide) _ _ _ rfl (World.ownsRow.alloc hown _) ⟨wr.heap.size, 0, none⟩ 1 1 [.string (s.extract b k)] rfl rfl (World.news_of_block (cs := #[.string (s.extract b k)]) (t := 9) (fr := (0, 0)) (heap_alloc_new wr _)) (by simp [Value.oneCell']) (by unfold maxLen; omega) (by omega) (by have := hbel.size; simp; omega) ?_)
            intro v2 w2 hown2 hgrow _
            have hrel : Owns w2 w.heap.size v2 (o ++ [s.extract b k]) := by
              unfold Owns
              rw [List.map_append, List.length_append]
              exact hown2
            have hbel2 : Below w.heap.size w w2 := (hbel.alloc hbel.size _).grown hgrow (by have := hbel.size; simp; omega) (fun q hq => (World.ownsRow.lt hown q hq).1)
            clear hown hown2 hgrow hbel
            go_wp2
            refine ⟨⟨k + 1, k + 1, o ++ [s.extract b k], by omega, by go_num, by go_num, ?_, valid_succ HV.out (fun h => ?_), hrel, hbel2⟩, by simp [intOf]; omega⟩
            · rw [st_space HS.out, HST.out]; simp only [add]; rw [if_pos e3]
            · omega
          · have hne : ¬ (b : Int) < (k : Int) := by omega
            go_wp2
            refine ⟨⟨k + 1, k + 1, o, by omega, by go_num, by go_num, ?_, valid_succ HV.out (fun h => ?_), hown, hbel⟩, by simp [intOf]; omega⟩
            · rw [st_space HS.out, HST.out]; simp only [add]; rw [if_neg e3]
            · omega
        · have hke : k = s.size + 1 := by omega
          have hof : o = fin s := by
            have h1 := HST.out
            rw [hke, fin_st s] at h1
            exact (congrArg Prod.snd h1).symm
          have hvs : valid s s.size := fun j hj hs => HV.out j (by omega) hs
          have HVS := Lib.hid hvs
          have hgt : ¬ (k : Int) ≤ (s.size : Int) := by omega
          subst hof
          clear hvs hke hend HST HV
          obtain ⟨p, c, rfl⟩ := Owns.form hown
          by_cases hmany : (24 : Int) < ((fin s).length : Int)
          · go_wp2
            go_ret2
            exact ⟨_, _, _, rfl, ans_many (by omega), World.ownsRow_made wr #[] 0 hbel.size (by decide) (by simp), hbel.alloc hbel.size _⟩
          · go_wp2
            go_ret2
            exact ⟨_, _, _, rfl, ans_ok (by omega) HVS.out (by omega), hown, hbel⟩

theorem extract_none (s : ByteArray) (b : Nat) : (s.extract b b).toList = [] := by
  rw [ByteArray.toList_eq]
  apply List.length_eq_zero_iff.1
  simp
theorem extract_some (s : ByteArray) (b k : Nat) (h : b < k) (hk : k ≤ s.size) : ¬ (s.extract b k).toList = [] := by
  intro e
  rw [ByteArray.toList_eq] at e
  have := congrArg List.length e
  simp at this
  omega

theorem app_on (B : Nat) (v : Value) (s : ByteArray) (b k : Nat) (o : List ByteArray) (hb : b ≤ k) (hk : k ≤ s.size) (hs : s.size ≤ 1048576) (w : World) (hB : B ≤ w.heap.size) (hl : o.length ≤ 100000) (hown : Owns w B v o) :
    Calls Tryd.prog 40 #[v, .string (s.extract b k)] w fun e w' => ∃ v', e = .returned v' ∧ Owns w' B v' (add s (b, o) k) ∧ Below B w w' := by
  by_cases h : b < k
  · have ha : add s (b, o) k = o ++ [s.extract b k] := if_pos h
    rw [ha]
    exact app_put B v o _ (extract_some s b k h hk) (by simp; omega) w hB hl hown
  · obtain rfl : b = k := by omega
    have ha : add s (b, o) b = o := if_neg h
    rw [ha]
    exact (app_skip v _ (extract_none s b) w).mono fun e w' ⟨he, hw⟩ => ⟨v, he, hw ▸ hown, hw ▸ Below.refl _ _⟩

set_option maxHeartbeats 4000000 in
theorem impl_split (s : ByteArray) (w : World) (hm : s.size ≤ 1048576) :
    Calls Tryd.prog 23 #[.string s] w (Left s w) := by
  by_cases hsz : (600 : Int) < s.size
  · go_enter Tryd.func23, Tryd.ntmps23
    go_wp2
    go_step3
    go_wp2
    rw [Exit.noGoto_ret]
    go_ret2
    exact ⟨_, _, _, rfl, ans_long (by omega), World.ownsRow_nil _ _ _ _, Below.refl _ _⟩
  · go_enter Tryd.func23, Tryd.ntmps23
    go_wp2
    go_step3
    go_wp2
    go_step3
    go_wp2
    go_loopw [4, 5, 6] (fun v p i wr => ∃ (k b : Nat) (o : List ByteArray), k ≤ s.size ∧ i = .int .i64 (k : Int) ∧ p = .int .i64 (b : Int) ∧ st s k = (b, o) ∧ valid s k ∧ Owns wr w.heap.size v o ∧ Below w.heap.size w wr) (fun _ _ i _ => s.size - (intOf i).toNat)
    case atStart => exact ⟨0, 0, [], by omega, rfl, rfl, rfl, fun j hj => by omega, World.ownsRow_nil _ _ _ _, Below.refl _ _⟩
    case round =>
      obtain ⟨k, b, o, hk, rfl, rfl, hst, hv, hown, hbel⟩ := hrel
      obtain ⟨hb1, hb2⟩ := st_bd s k
      rw [hst] at hb1 hb2
      simp only at hb1 hb2
      have HST := Lib.hid hst
      have HV := Lib.hid hv
      clear hst hv
      by_cases hlt : k < s.size
      · have hbk := byt_in s k hlt
        have HB := Lib.hid hbk
        clear hbk
        by_cases e0 : (s[k].toNat : Int) < 32
        · go_wp2
          try rw [Exit.noGoto_ret]
          go_ret2
          exact ⟨_, _, _, rfl, ans_bad hlt (by rw [HB.out]; omega), World.ownsRow_nil _ _ _ _, hbel⟩
        · by_cases e1 : (126 : Int) < (s[k].toNat : Int)
          · go_wp2
            try rw [Exit.noGoto_ret]
            go_ret2
            exact ⟨_, _, _, rfl, ans_bad hlt (by rw [HB.out]; omega), World.ownsRow_nil _ _ _ _, hbel⟩
          · by_cases e2 : (s[k].toNat : Int) = 32
            · have he2 : ((s[k].toNat : Int) == 32) = true := by simp [e2]
              have hspc : byt s k = 32 := by rw [HB.out]; exact e2
              have HS := Lib.hid hspc
              clear hspc e2
              go_wp2_with (go_at_call 40; refine (app_on w.heap.size _ s b k o hb1 hk hm wr hbel.size (by omega) hown).mono ?_; rintro e w1 ⟨v1, rfl, hown1, hb3⟩; have hbel1 := hbel.trans hb3; clear hown hbel hb3)
              refine ⟨⟨k + 1, k + 1, add s (b, o) k, by omega, by go_num, by go_num, ?_, valid_succ HV.out (fun h => ?_), hown1, hbel1⟩, by simp [intOf]; omega⟩
              · rw [st_space HS.out, HST.out]
              · rw [HS.out]; omega
            · have he2 : ((s[k].toNat : Int) == 32) = false := by simpa using e2
              have hspc : byt s k ≠ 32 := by rw [HB.out]; exact e2
              have HS := Lib.hid hspc
              clear hspc
              go_wp2
              refine ⟨⟨k + 1, b, o, by omega, by go_num, rfl, ?_, valid_succ HV.out (fun h => ?_), hown, hbel⟩, by simp [intOf]; omega⟩
              · rw [st_other HS.out, HST.out]
              · rw [HB.out]; omega
      · obtain rfl : k = s.size := by omega
        have hfin : add s (b, o) s.size = fin s := by unfold fin; rw [HST.out]
        have HF := Lib.hid hfin
        clear hfin
        go_wp2_with (go_at_call 40; refine (app_on w.heap.size _ s b s.size o hb1 (Nat.le_refl _) hm wr hbel.size (by omega) hown).mono ?_; rintro e w1 ⟨v1, rfl, hown1, hb3⟩; have hbel1 := hbel.trans hb3; rw [HF.out] at hown1; clear hown hbel hb3; obtain ⟨p, c, rfl⟩ := Owns.form hown1; by_cases hmany : (24 : Int) < ((fin s).length : Int))
        · go_wp2
          try rw [Exit.noGoto_ret]
          go_ret2
          exact ⟨_, _, _, rfl, ans_many (by omega), World.ownsRow_nil _ _ _ _, hbel1⟩
        · go_wp2
          try rw [Exit.noGoto_ret]
          go_ret2
          exact ⟨_, _, _, rfl, ans_ok (by omega) HV.out (by omega), hown1, hbel1⟩

end Go.Proofs.YtkkflpjpijnalaaDoor.Split
