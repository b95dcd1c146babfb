/-
  Plain lists: the fields of a text that begins with spaces and has a space behind each field; the texts of valid tokens are fields, and are read back.
-/
import Derived.Test.YtkkflpjpijnalaaDoorScanSpec
import Derived.Test.YtkkflpjpijnalaaDoorAgain
namespace Go.Proofs.YtkkflpjpijnalaaDoor.Split
set_option linter.unusedVariables false

theorem st_pre (p : Nat) (s : ByteArray) {r : List UInt8} (h : s.data.toList = List.replicate p 32 ++ r) : ∀ i, i ≤ p → st s i = (i, [])
  | 0, _ => by simp [st]
  | i + 1, hi => by
    have ih := st_pre p s h i (by omega)
    have hget : s.data.toList[i]? = some 32 := by
      rw [h, List.getElem?_append_left (by simp; omega), List.getElem?_replicate, if_pos (by omega)]
    obtain ⟨_, hb⟩ := byt_list hget
    rw [st_space (by rw [hb]; rfl), ih]
    simp [add]

/-- Where the i-th text begins. -/
theorem st_joined2 (p : Nat) (l : List ByteArray) (hf : ∀ f ∈ l, Field f) (s : ByteArray) (hs : s.data.toList = List.replicate p 32 ++ joined l) :
    ∀ i, i ≤ l.length → st s (List.replicate p (32 : UInt8) ++ joined (l.take i)).length = ((List.replicate p (32 : UInt8) ++ joined (l.take i)).length, l.take i)
  | 0, _ => by
    have h := st_pre p s (by rw [hs]) p (Nat.le_refl _)
    simpa [joined] using h
  | i + 1, hi => by
    have ih := st_joined2 p l hf s hs i (by omega)
    have hil : i < l.length := by omega
    have htake : l.take (i + 1) = l.take i ++ [l[i]] := by rw [List.take_succ_eq_append_getElem hil]
    have hF := hf l[i] (List.getElem_mem hil)
    have hsplit : s.data.toList = (List.replicate p (32 : UInt8) ++ joined (l.take i)) ++ (l[i].data.toList ++ 32 :: joined (l.drop (i + 1))) := by
      rw [hs]
      conv => lhs; rw [← List.take_append_drop i l, joined_append, List.drop_eq_getElem_cons hil]
      rw [List.append_assoc]
      rfl
    have hlen : l[i].data.toList.length = l[i].size := by simp
    have mid : ∀ t, t ≤ l[i].size → st s ((List.replicate p (32 : UInt8) ++ joined (l.take i)).length + t) = ((List.replicate p (32 : UInt8) ++ joined (l.take i)).length, l.take i) := by
      intro t
      induction t with
      | zero => intro _; exact ih
      | succ t iht =>
        intro ht
        have hget : s.data.toList[(List.replicate p (32 : UInt8) ++ joined (l.take i)).length + t]? = some (l[i].data.toList[t]'(by omega)) := by
          rw [hsplit, List.getElem?_append_right (by omega), Nat.add_sub_cancel_left, List.getElem?_append_left (by omega), List.getElem?_eq_getElem]
        obtain ⟨_, hb⟩ := byt_list hget
        have hne : byt s ((List.replicate p (32 : UInt8) ++ joined (l.take i)).length + t) ≠ 32 := by
          rw [hb]
          have := (hF.2 _ (List.getElem_mem (by omega : t < l[i].data.toList.length))).1
          omega
        rw [← Nat.add_assoc, st_other hne]
        exact iht (by omega)
    have hend : s.data.toList[(List.replicate p (32 : UInt8) ++ joined (l.take i)).length + l[i].size]? = some 32 := by
      rw [hsplit, List.getElem?_append_right (by omega), Nat.add_sub_cancel_left, List.getElem?_append_right (by omega), hlen, Nat.sub_self]
      rfl
    obtain ⟨_, hb⟩ := byt_list hend
    have hsp : byt s ((List.replicate p (32 : UInt8) ++ joined (l.take i)).length + l[i].size) = 32 := by rw [hb]; rfl
    have hjl : (List.replicate p (32 : UInt8) ++ joined (l.take (i + 1))).length = (List.replicate p (32 : UInt8) ++ joined (l.take i)).length + l[i].size + 1 := by
      rw [htake, joined_append, List.length_append, List.length_append, List.length_append]
      simp [joined]
      omega
    rw [hjl, st_space hsp, mid _ (Nat.le_refl _)]
    simp only [add]
    rw [if_pos (by have := hF.1; omega), htake]
    congr 3
    apply ByteArray.ext
    apply Array.toList_inj.1
    rw [extract_list, hsplit, List.drop_left, Nat.add_sub_cancel_left, ← hlen, List.take_left]


theorem fields_of (p : Nat) (l : List ByteArray) (hF : ∀ f ∈ l, Field f) (t : ByteArray) (ht : t.data.toList = List.replicate p 32 ++ joined l) (h6 : t.size ≤ 600) (h24 : l.length ≤ 24) : Ans t true l := by
  have hst := st_joined2 p l hF t ht l.length (Nat.le_refl _)
  rw [List.take_length] at hst
  have hsz : (List.replicate p (32 : UInt8) ++ joined l).length = t.size := by rw [← ht]; simp
  rw [hsz] at hst
  have hfin : fin t = l := by
    unfold fin
    rw [hst]
    simp only [add]
    rw [if_neg (Nat.lt_irrefl _)]
  have hval : valid t t.size := by
    intro j _ hj
    have hm : ∀ (l : List ByteArray), (∀ f ∈ l, Field f) → ∀ c ∈ joined l, 32 ≤ c.toNat ∧ c.toNat ≤ 126 := by
      intro l
      induction l with
      | nil => intro _ c hc; simp [joined] at hc
      | cons f r ih =>
        intro hl c hc
        simp only [joined, List.mem_append, List.mem_cons] at hc
        rcases hc with hc | rfl | hc
        · exact ((hl f (by simp)).2 c hc).2
        · decide
        · exact ih (fun g hg => hl g (by simp [hg])) c hc
    have hjt : t.data.toList[j]? = some t[j] := by rw [List.getElem?_eq_getElem (by simpa using hj)]; rfl
    have hmem : t[j] ∈ List.replicate p (32 : UInt8) ++ joined l := by rw [← ht]; exact List.mem_of_getElem? hjt
    have := List.mem_append.1 hmem
    rw [byt_in t j hj]
    rcases this with h | h
    · have := List.eq_of_mem_replicate h
      rw [this]; decide
    · have := hm _ hF t[j] h; omega
  exact .inl ⟨⟨h6, hval, by rw [hfin]; exact h24⟩, rfl, hfin.symm⟩

end Go.Proofs.YtkkflpjpijnalaaDoor.Split
namespace Go.Proofs.YtkkflpjpijnalaaDoor.Back
open Go.ChangeShapes Go.WideShapes Go.ChangeAt Go.RowKit
open Kit Slabs Scan Num Nums Fmt ScanSpec
open Split (byt byt_in byt_end byt_list joined joined_append Ans)
set_option linter.unusedVariables false

/-- The texts of the first n tokens. -/
def words (S : Nat → ByteArray) (N : Nat → Int) (n : Nat) : List ByteArray := (List.range n).map fun i => tkT (S i) (N i)

theorem words_length (S : Nat → ByteArray) (N : Nat → Int) (n : Nat) : (words S N n).length = n := by simp [words]
theorem words_succ (S : Nat → ByteArray) (N : Nat → Int) (n : Nat) : words S N (n + 1) = words S N n ++ [tkT (S n) (N n)] := by simp [words, List.range_succ]
theorem words_at (S : Nat → ByteArray) (N : Nat → Int) {n i : Nat} (h : i < (words S N n).length) : (words S N n)[i] = tkT (S i) (N i) := by simp [words]

theorem join_list (S : Nat → ByteArray) (N : Nat → Int) (n : Nat) (h : n ≠ 0) : (joinT S N n).data.toList ++ [32] = joined (words S N n) := by
  induction n with
  | zero => exact absurd rfl h
  | succ n ih =>
    rw [words_succ, joined_append]
    by_cases h0 : n = 0
    · subst h0
      rw [joinT_one]; simp [words, joined]
    · rw [joinT_more h0, ← ih h0]
      simp [joined]

theorem nm_letter {x : ByteArray} (h : nameB x = true) : ∀ c ∈ x.data.toList, 97 ≤ c.toNat ∧ c.toNat ≤ 122 := by
  intro c hc
  obtain ⟨i, hi⟩ := List.getElem?_of_mem hc
  obtain ⟨hk, hb⟩ := byt_list hi
  have := ((nameB_iff x).1 h).2.2 i hk
  omega

theorem txt_bytes (m : Int) : ∀ c ∈ (txt m).data.toList, c.toNat = 45 ∨ (48 ≤ c.toNat ∧ c.toNat ≤ 57) := by
  intro c hc
  rcases Int.lt_or_le m 0 with hm | hm
  · obtain ⟨u, rfl⟩ : ∃ u : Nat, m = -(u : Int) := ⟨m.natAbs, by omega⟩
    rw [txt_minus (by omega), List.mem_cons] at hc
    rcases hc with rfl | hc
    · exact .inl rfl
    · exact .inr (digits_range u c hc)
  · obtain ⟨u, rfl⟩ : ∃ u : Nat, m = u := ⟨m.toNat, by omega⟩
    rw [txt_list] at hc
    exact .inr (digits_range u c hc)

theorem txt_pos (m : Int) : 0 < (txt m).data.toList.length := by
  rcases Int.lt_or_le m 0 with hm | hm
  · obtain ⟨u, rfl⟩ : ∃ u : Nat, m = -(u : Int) := ⟨m.natAbs, by omega⟩
    rw [txt_minus (by omega)]; simp
  · obtain ⟨u, rfl⟩ : ∃ u : Nat, m = u := ⟨m.toNat, by omega⟩
    rw [txt_list, Lib.decDigits_length]; exact Lib.nDigits_pos u

theorem empty_of {s : ByteArray} (h : s.toList.isEmpty = true) : s = ⟨#[]⟩ := by
  rw [List.isEmpty_iff, ByteArray.toList_eq] at h
  apply ByteArray.ext; apply Array.ext'; rw [h]

/-- A valid token's text is a field. -/
theorem tk_field {s : ByteArray} {m : Int} (h : tkB s m = true) : Split.Field (tkT s m) := by
  unfold tkB at h; unfold tkT
  by_cases he : s.toList.isEmpty = true
  · rw [if_pos he]
    refine ⟨by have := txt_pos m; simpa using this, fun c hc => ?_⟩
    have := txt_bytes m c hc; omega
  · rw [if_neg he] at h ⊢
    simp only [Bool.and_eq_true] at h
    refine ⟨by have := ((nameB_iff s).1 h.1).1; omega, fun c hc => ?_⟩
    have := nm_letter h.1 c hc; omega

/-- A valid token is read back from its text. -/
theorem tok_back {s : ByteArray} {m : Int} (h : tkB s m = true) : tokOf (tkT s m) = some (s, m) := by
  unfold tkB at h; unfold tkT
  by_cases he : s.toList.isEmpty = true
  · rw [if_pos he] at h ⊢
    simp only [decide_eq_true_eq] at h
    have := numOf_some h.1 h.2 (rfl : txt m = txt m)
    rw [empty_of he]
    simp only [tokOf, this]
  · rw [if_neg he] at h ⊢
    simp only [Bool.and_eq_true, decide_eq_true_eq] at h
    have hn : numOf s = none := numOf_none fun k _ _ hk => by
      subst hk
      have hp := txt_pos k
      have h1 := nm_letter h.1 _ (List.getElem_mem (n := 0) hp)
      have h2 := txt_bytes k _ (List.getElem_mem (n := 0) hp)
      omega
    simp only [tokOf, hn, h.1, if_true, h.2]

theorem sc_words {S : Nat → ByteArray} {N : Nat → Int} {n : Nat} (hv : ∀ i, i < n → tkB (S i) (N i) = true) : scB (words S N n) = true ∧ scL true (words S N n) = n ∧ ∀ i, i < n → tc (scS (words S N n)) (scN (words S N n)) i = tc S N i := by
  have hB : scB (words S N n) = true := by
    simp only [scB, List.all_eq_true]
    intro x hx
    simp only [words, List.mem_map, List.mem_range] at hx
    obtain ⟨i, hi, rfl⟩ := hx
    rw [tok_back (hv i hi)]; rfl
  refine ⟨hB, by simp [scL, hB, words_length], fun i hi => ?_⟩
  have hlen : i < (words S N n).length := by rw [words_length]; exact hi
  exact sc_at hlen (by rw [words_at]; exact tok_back (hv i hi))

theorem join_fields {S : Nat → ByteArray} {N : Nat → Int} {n : Nat} (hv : ∀ i, i < n → tkB (S i) (N i) = true) (hn : n ≤ 24) (hsz : (joinT S N n).size ≤ 500) (t : ByteArray) (ht : t = (⟨#[32, 32]⟩ ++ joinT S N n) ++ ⟨#[32]⟩) : Ans t true (words S N n) := by
  have hF : ∀ f ∈ words S N n, Split.Field f := by
    intro x hx
    simp only [words, List.mem_map, List.mem_range] at hx
    obtain ⟨i, hi, rfl⟩ := hx
    exact tk_field (hv i hi)
  have h6 : t.size ≤ 600 := by
    rw [ht]; simp only [ByteArray.size_append]
    have h1 : (⟨#[32, 32]⟩ : ByteArray).size = 2 := rfl
    have h2 : (⟨#[32]⟩ : ByteArray).size = 1 := rfl
    omega
  by_cases h0 : n = 0
  · subst h0
    refine Split.fields_of 3 _ hF t ?_ h6 (by simp [words])
    subst ht
    simp [words, joined, joinT, List.replicate]
  · refine Split.fields_of 2 _ hF t ?_ h6 (by rw [words_length]; exact hn)
    rw [← join_list S N n h0, ht]
    simp [List.replicate]

end Go.Proofs.YtkkflpjpijnalaaDoor.Back
