/-
  Plain lists: the fields of a line, joined by single spaces with one behind each, have the same fields; condition: the line has fields.
-/
import Derived.Test.YtkkflpjpijnalaaDoorSplit
namespace Go.Proofs.YtkkflpjpijnalaaDoor.Split
set_option linter.unusedVariables false

/-- A text that can be a field. -/
def Field (f : ByteArray) : Prop := 0 < f.size ∧ ∀ c ∈ f.data.toList, c.toNat ≠ 32 ∧ 32 ≤ c.toNat ∧ c.toNat ≤ 126

theorem byt_list {s : ByteArray} {k : Nat} {c : UInt8} (h : s.data.toList[k]? = some c) : k < s.size ∧ byt s k = (c.toNat : Int) := by
  have hk : k < s.size := by
    rcases Nat.lt_or_ge k s.size with h' | h'
    · exact h'
    · rw [List.getElem?_eq_none (by simpa using h')] at h; cases h
  refine ⟨hk, ?_⟩
  rw [byt_in s k hk]
  rw [List.getElem?_eq_getElem (by simpa using hk)] at h
  have : s[k] = c := Option.some.inj h
  rw [this]

theorem extract_list (s : ByteArray) (b k : Nat) : (s.extract b k).data.toList = (s.data.toList.drop b).take (k - b) := by
  simp [List.extract_eq_take_drop]

/-- What is open is no space, and what is closed are fields. -/
theorem st_fields (s : ByteArray) (hv : valid s s.size) : ∀ k, k ≤ s.size → (∀ j, (st s k).1 ≤ j → j < k → byt s j ≠ 32) ∧ ∀ f ∈ (st s k).2, Field f
  | 0, _ => ⟨fun j _ h => absurd h (Nat.not_lt_zero _), fun f h => by simp [st] at h⟩
  | k + 1, hk => by
    obtain ⟨h1, h2⟩ := st_fields s hv k (by omega)
    by_cases h : byt s k = 32
    · rw [st_space h]
      refine ⟨fun j h3 h4 => by simp only at h3; omega, ?_⟩
      intro f hf
      simp only [add] at hf
      split at hf
      · rename_i hlt
        rcases List.mem_append.1 hf with hf | hf
        · exact h2 f hf
        · obtain rfl : f = s.extract (st s k).1 k := by simpa using hf
          refine ⟨by simp; omega, ?_⟩
          intro c hc
          rw [extract_list] at hc
          obtain ⟨i, hi, he⟩ := List.mem_iff_getElem?.1 hc |>.imp fun i h => (⟨trivial, h⟩ : True ∧ _)
          have hik : i < k - (st s k).1 := by
            rcases Nat.lt_or_ge i (k - (st s k).1) with h' | h'
            · exact h'
            · rw [List.getElem?_eq_none (by rw [List.length_take]; omega)] at he; cases he
          rw [List.getElem?_take_of_lt hik, List.getElem?_drop] at he
          obtain ⟨hj, hb⟩ := byt_list he
          have n1 := h1 ((st s k).1 + i) (by omega) (by omega)
          have n2 := hv ((st s k).1 + i) (by omega) hj
          rw [hb] at n1 n2
          omega
      · exact h2 f hf
    · rw [st_other h]
      refine ⟨fun j h3 h4 => ?_, h2⟩
      rcases Nat.lt_or_ge j k with h' | h'
      · exact h1 j h3 h'
      · obtain rfl : j = k := by omega
        exact h

theorem fin_fields {s : ByteArray} (hv : valid s s.size) : ∀ f ∈ fin s, Field f := by
  obtain ⟨h1, h2⟩ := st_fields s hv s.size (Nat.le_refl _)
  intro f hf
  unfold fin at hf
  simp only [add] at hf
  split at hf
  · rcases List.mem_append.1 hf with hf | hf
    · exact h2 f hf
    · obtain rfl : f = s.extract (st s s.size).1 s.size := by simpa using hf
      refine ⟨by simp; omega, ?_⟩
      intro c hc
      rw [extract_list] at hc
      obtain ⟨i, hi, he⟩ := List.mem_iff_getElem?.1 hc |>.imp fun i h => (⟨trivial, h⟩ : True ∧ _)
      have hik : i < s.size - (st s s.size).1 := by
        rcases Nat.lt_or_ge i (s.size - (st s s.size).1) with h' | h'
        · exact h'
        · rw [List.getElem?_eq_none (by rw [List.length_take]; omega)] at he; cases he
      rw [List.getElem?_take_of_lt hik, List.getElem?_drop] at he
      obtain ⟨hj, hb⟩ := byt_list he
      have n1 := h1 ((st s s.size).1 + i) (by omega) (by omega)
      have n2 := hv ((st s s.size).1 + i) (by omega) hj
      rw [hb] at n1 n2
      omega
  · exact h2 f hf

theorem fin_short {s : ByteArray} : ∀ f ∈ fin s, f.size ≤ s.size := by
  have key : ∀ k, ∀ f ∈ (st s k).2, f.size ≤ s.size := by
    intro k
    induction k with
    | zero => intro f h; simp [st] at h
    | succ k ih =>
      intro f hf
      by_cases h : byt s k = 32
      · rw [st_space h] at hf
        simp only [add] at hf
        split at hf
        · rcases List.mem_append.1 hf with hf | hf
          · exact ih f hf
          · obtain rfl : f = _ := by simpa using hf
            simp; omega
        · exact ih f hf
      · rw [st_other h] at hf; exact ih f hf
  intro f hf
  unfold fin at hf
  simp only [add] at hf
  split at hf
  · rcases List.mem_append.1 hf with hf | hf
    · exact key _ f hf
    · obtain rfl : f = _ := by simpa using hf
      simp
  · exact key _ f hf

/-- The texts, a space behind each. -/
def joined : List ByteArray → List UInt8
  | [] => []
  | f :: r => f.data.toList ++ 32 :: joined r
theorem joined_append (a b : List ByteArray) : joined (a ++ b) = joined a ++ joined b := by
  induction a with
  | nil => rfl
  | cons f r ih => simp [joined, ih]

/-- Where the i-th text begins. -/
theorem st_joined (l : List ByteArray) (hf : ∀ f ∈ l, Field f) (s : ByteArray) (hs : s.data.toList = joined l) :
    ∀ i, i ≤ l.length → st s (joined (l.take i)).length = ((joined (l.take i)).length, l.take i)
  | 0, _ => by simp [joined, st]
  | i + 1, hi => by
    have ih := st_joined l hf s hs i (by omega)
    have hil : i < l.length := by omega
    have htake : l.take (i + 1) = l.take i ++ [l[i]] := by rw [List.take_succ_eq_append_getElem hil]
    have hF := hf l[i] (List.getElem_mem hil)
    have hsplit : s.data.toList = joined (l.take i) ++ (l[i].data.toList ++ 32 :: joined (l.drop (i + 1))) := by
      rw [hs]
      conv => lhs; rw [← List.take_append_drop i l, joined_append, List.drop_eq_getElem_cons hil]
      rfl
    have hlen : l[i].data.toList.length = l[i].size := by simp
    have mid : ∀ t, t ≤ l[i].size → st s ((joined (l.take i)).length + t) = ((joined (l.take i)).length, l.take i) := by
      intro t
      induction t with
      | zero => intro _; exact ih
      | succ t iht =>
        intro ht
        have hget : s.data.toList[(joined (l.take i)).length + t]? = some (l[i].data.toList[t]'(by omega)) := by
          rw [hsplit, List.getElem?_append_right (by omega), Nat.add_sub_cancel_left, List.getElem?_append_left (by omega), List.getElem?_eq_getElem]
        obtain ⟨_, hb⟩ := byt_list hget
        have hne : byt s ((joined (l.take i)).length + t) ≠ 32 := by
          rw [hb]
          have := (hF.2 _ (List.getElem_mem (by omega : t < l[i].data.toList.length))).1
          omega
        rw [← Nat.add_assoc, st_other hne]
        exact iht (by omega)
    have hend : s.data.toList[(joined (l.take i)).length + l[i].size]? = some 32 := by
      rw [hsplit, List.getElem?_append_right (by omega), Nat.add_sub_cancel_left, List.getElem?_append_right (by omega), hlen, Nat.sub_self]
      rfl
    obtain ⟨_, hb⟩ := byt_list hend
    have hsp : byt s ((joined (l.take i)).length + l[i].size) = 32 := by rw [hb]; rfl
    have hjl : (joined (l.take (i + 1))).length = (joined (l.take i)).length + l[i].size + 1 := by
      rw [htake, joined_append, List.length_append]
      simp [joined]
      omega
    rw [hjl, st_space hsp, mid _ (Nat.le_refl _)]
    simp only [add]
    rw [if_pos (by have := hF.1; omega), htake]
    congr 3
    apply ByteArray.ext
    apply Array.toList_inj.1
    rw [extract_list, hsplit, List.drop_left, Nat.add_sub_cancel_left, ← hlen, List.take_left]

theorem again {s : ByteArray} (h : Ok s) {t : ByteArray} (ht : t.data.toList = joined (fin s)) (h6 : t.size ≤ 600) : Ans t true (fin s) := by
  have hF := fin_fields h.2.1
  have hst := st_joined (fin s) hF t ht (fin s).length (Nat.le_refl _)
  rw [List.take_length] at hst
  have hsz : (joined (fin s)).length = t.size := by rw [← ht]; simp
  rw [hsz] at hst
  have hfin : fin t = fin s := by
    unfold fin
    rw [hst]
    simp only [add]
    rw [if_neg (Nat.lt_irrefl _)]
    rfl
  have hval : valid t t.size := by
    intro j _ hj
    have hm : ∀ (l : List ByteArray), (∀ f ∈ l, Field f) → ∀ c ∈ joined l, 32 ≤ c.toNat ∧ c.toNat ≤ 126 := by
      intro l
      induction l with
      | nil => intro _ c hc; simp [joined] at hc
      | cons f r ih =>
        intro hl c hc
        simp only [joined, List.mem_append, List.mem_cons] at hc
        rcases hc with hc | rfl | hc
        · exact ((hl f (by simp)).2 c hc).2
        · decide
        · exact ih (fun g hg => hl g (by simp [hg])) c hc
    have hjt : t.data.toList[j]? = some t[j] := by rw [List.getElem?_eq_getElem (by simpa using hj)]; rfl
    have := hm _ hF t[j] (by rw [← ht]; exact List.mem_of_getElem? hjt)
    rw [byt_in t j hj]
    omega
  exact .inl ⟨⟨h6, hval, by rw [hfin]; exact h.2.2⟩, rfl, hfin.symm⟩

end Go.Proofs.YtkkflpjpijnalaaDoor.Split
