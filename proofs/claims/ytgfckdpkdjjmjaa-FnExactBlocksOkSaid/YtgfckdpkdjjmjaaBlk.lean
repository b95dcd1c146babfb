/-
  Chapter 6's blocks on lists of tokens, no program in it: which lists are nested blocks, how deep, and what they flatten to.
-/
import Derived.Test.YtgfckdpkdjjmjaaName
namespace Go.Proofs.Ytgfckdpkdjjmjaa.Blk
open Go.ChangeShapes Go.WideShapes Go.ChangeAt Go.RowKit
open Scan
set_option linter.unusedVariables false
set_option linter.unusedSimpArgs false
set_option linter.unnecessarySimpa false

abbrev Tok := ByteArray × Int
def isRep (t : Tok) : Bool := t.1.toList == [114, 101, 112, 101, 97, 116]
def isEnd (t : Tok) : Bool := t.1.toList == [101, 110, 100]
/-- Is the token before a repeat a number from 0 to 9? -/
def cntB : Option Tok → Bool
  | none => false
  | some t => t.1.toList.isEmpty && decide (0 ≤ t.2 ∧ t.2 ≤ 9)

/-- The blocks that are open (d), the most so far (m), and the tokens still to come. -/
def run : Option Tok → Nat → Nat → List Tok → Option Nat
  | _, d, m, [] => if d = 0 then some m else none
  | p, d, m, t :: r =>
    if tkB t.1 t.2 = true then
      if isRep t = true then (if cntB p = true then run (some t) (d + 1) (max m (d + 1)) r else none)
      else if isEnd t = true then (if d = 0 then none else run (some t) (d - 1) m r)
      else run (some t) d m r
    else none

def bdV (l : List Tok) : Int := if l.length ≤ 60 then (match run none 0 0 l with | some m => if m ≤ 3 then (m : Int) else -1 | none => -1) else -1

/-- n times f. -/
def rpt (n : Nat) (f : List Tok) : List Tok := (List.replicate n f).flatten

/-- A list of nested blocks, what it flattens to, and its depth. -/
inductive Fl : List Tok → List Tok → Nat → Prop
  | nil : Fl [] [] 0
  | tok {t : Tok} {r f : List Tok} {d : Nat} : isRep t = false → isEnd t = false → tkB t.1 t.2 = true → (∀ u q, r = u :: q → isRep u = false) → Fl r f d → Fl (t :: r) (t :: f) d
  | rep {c p e : Tok} {b f r g : List Tok} {d k : Nat} (n : Nat) : c.1.toList.isEmpty = true → c.2 = (n : Int) → n ≤ 9 → isRep p = true → isEnd e = true → tkB p.1 p.2 = true → tkB e.1 e.2 = true → Fl b f d → Fl r g k → Fl (c :: p :: (b ++ e :: r)) (rpt n f ++ g) (max (d + 1) k)

theorem rep_name {t : Tok} (h : isRep t = true) : t.1.toList.isEmpty = false ∧ isEnd t = false := by
  unfold isRep at h
  have h1 : t.1.toList = [114, 101, 112, 101, 97, 116] := by simpa using h
  unfold isEnd
  rw [h1]; exact ⟨rfl, by decide⟩
theorem end_name {t : Tok} (h : isEnd t = true) : t.1.toList.isEmpty = false ∧ isRep t = false := by
  unfold isEnd at h
  have h1 : t.1.toList = [101, 110, 100] := by simpa using h
  unfold isRep
  rw [h1]; exact ⟨rfl, by decide⟩
theorem num_name {t : Tok} (h : t.1.toList.isEmpty = true) : isRep t = false ∧ isEnd t = false := by
  rw [List.isEmpty_iff] at h
  unfold isRep isEnd
  rw [h]; exact ⟨by decide, by decide⟩
theorem cnt_no {t : Tok} (h : t.1.toList.isEmpty = false) : cntB (some t) = false := by simp [cntB, h]

theorem fl_first {u : Tok} {q f : List Tok} {d : Nat} (h : Fl (u :: q) f d) : isRep u = false := by
  cases h with
  | tok h1 _ _ _ _ => exact h1
  | rep n h1 _ _ _ _ _ _ _ _ => exact (num_name h1).1

theorem parse : ∀ (N : Nat) (l : List Tok), l.length ≤ N → ∀ (p : Option Tok) (d m M : Nat), d ≤ m → (∀ u q, l = u :: q → isRep u = true → cntB p = false) → run p d m l = some M →
    ∃ b f k, Fl b f k ∧ ((d = 0 ∧ l = b ∧ M = max m k) ∨ (∃ e r, 0 < d ∧ isEnd e = true ∧ tkB e.1 e.2 = true ∧ l = b ++ e :: r ∧ run (some e) (d - 1) (max m (d + k)) r = some M)) := by
  intro N
  induction N with
  | zero =>
    intro l hl p d m M hdm _ h
    have : l = [] := List.length_eq_zero_iff.1 (by omega)
    subst this
    simp only [run] at h
    split at h
    · rename_i h0
      cases h
      exact ⟨[], [], 0, .nil, .inl ⟨h0, rfl, by simp⟩⟩
    · cases h
  | succ N ih =>
    intro l hl p d m M hdm hp h
    cases l with
    | nil =>
      simp only [run] at h
      split at h
      · rename_i h0
        cases h
        exact ⟨[], [], 0, .nil, .inl ⟨h0, rfl, by simp⟩⟩
      · cases h
    | cons t r =>
      simp only [List.length_cons] at hl
      simp only [run] at h
      split at h
      · rename_i htk
        split at h
        · rename_i hrep
          rw [hp t r rfl hrep] at h
          simp at h
        · rename_i hrep
          have hrep' : isRep t = false := by simpa using hrep
          split at h
          · rename_i hend
            split at h
            · cases h
            · rename_i hd
              refine ⟨[], [], 0, .nil, .inr ⟨t, r, by omega, hend, htk, rfl, ?_⟩⟩
              rw [show max m (d + 0) = m by omega]; exact h
          · rename_i hend
            have hend' : isEnd t = false := by simpa using hend
            cases r with
            | nil =>
              simp only [run] at h
              split at h
              · rename_i h0
                cases h
                exact ⟨[t], [t], 0, .tok hrep' hend' htk (fun u q e => by cases e) .nil, .inl ⟨h0, rfl, by simp⟩⟩
              · cases h
            | cons u q =>
              simp only [List.length_cons] at hl
              by_cases hu : isRep u = true
              · simp only [run] at h
                split at h
                · split at h
                  · rename_i hutk hcnt
                    have hun := rep_name hu
                    obtain ⟨b1, f1, k1, F1, h1⟩ := ih q (by omega) (some u) (d + 1) (max m (d + 1)) M (by omega) (fun _ _ _ _ => cnt_no hun.1) h
                    rcases h1 with ⟨h0, _⟩ | ⟨e1, r1, _, he1, het, hq, hr1⟩
                    · omega
                    · have hen := end_name he1
                      simp only [cntB, Bool.and_eq_true, decide_eq_true_eq] at hcnt
                      obtain ⟨hc0, hc1, hc2⟩ := hcnt
                      have hlen : r1.length ≤ N := by
                        have := congrArg List.length hq
                        simp at this; omega
                      obtain ⟨b2, f2, k2, F2, h2⟩ := ih r1 hlen (some e1) d (max (max m (d + 1)) (d + 1 + k1)) M (by omega) (fun _ _ _ _ => cnt_no hen.1) hr1
                      have hn : t.2 = ((t.2.toNat : Nat) : Int) := by omega
                      have F : Fl (t :: u :: (b1 ++ e1 :: b2)) (rpt t.2.toNat f1 ++ f2) (max (k1 + 1) k2) := .rep t.2.toNat hc0 hn (by omega) hu he1 hutk het F1 F2
                      refine ⟨_, _, _, F, ?_⟩
                      rcases h2 with ⟨h0, e2, e3⟩ | ⟨e2, r2, hd, he2, het2, e3, e4⟩
                      · exact .inl ⟨h0, by rw [hq, e2], by omega⟩
                      · refine .inr ⟨e2, r2, hd, he2, het2, by rw [hq, e3]; simp, ?_⟩
                        rw [show max m (d + max (k1 + 1) k2) = max (max (max m (d + 1)) (d + 1 + k1)) (d + k2) by omega]
                        exact e4
                  · cases h
                · cases h
              · have hu' : isRep u = false := by simpa using hu
                obtain ⟨b, f, k, F, h1⟩ := ih (u :: q) (by simp; omega) (some t) d m M hdm (fun u' q' e he => by injection e with e1 e2; rw [← e1, hu'] at he; cases he) h
                rcases h1 with ⟨h0, e1, e2⟩ | ⟨e1, r1, hd, he1, het, e2, e3⟩
                · exact ⟨t :: b, t :: f, k, .tok hrep' hend' htk (fun u' q' e => by rw [← e1] at e; injection e with e3 e4; rw [← e3]; exact hu') F, .inl ⟨h0, by rw [e1], e2⟩⟩
                · refine ⟨t :: b, t :: f, k, .tok hrep' hend' htk (fun u' q' e => ?_) F, .inr ⟨e1, r1, hd, he1, het, by rw [e2]; rfl, e3⟩⟩
                  rw [e] at e2
                  injection e2 with e4 e5
                  rw [← e4]; exact hu'
      · cases h

theorem bd_fl {l : List Tok} (h : 0 ≤ bdV l) : ∃ f d, Fl l f d ∧ bdV l = (d : Int) ∧ l.length ≤ 60 ∧ d ≤ 3 := by
  unfold bdV at h ⊢
  split
  · rename_i hl
    rw [if_pos hl] at h
    cases hr : run none 0 0 l with
    | none => rw [hr] at h; simp at h
    | some m =>
      rw [hr] at h
      obtain ⟨b, f, k, F, h1⟩ := parse l.length l (Nat.le_refl _) none 0 0 m (by omega) (fun _ _ _ _ => rfl) hr
      rcases h1 with ⟨_, rfl, e⟩ | ⟨_, _, h0, _⟩
      · have hk : m = k := by omega
        subst hk
        refine ⟨f, m, F, ?_⟩
        by_cases h3 : m ≤ 3
        · simp [h3, hl]
        · simp [h3] at h
      · omega
  · rename_i hl
    rw [if_neg hl] at h
    omega

/-- The balance of repeats and ends. -/
def dp : List Tok → Int
  | [] => 0
  | t :: r => (if isRep t = true then 1 else if isEnd t = true then -1 else 0) + dp r

theorem dp_append (a b : List Tok) : dp (a ++ b) = dp a + dp b := by
  induction a with
  | nil => simp [dp]
  | cons t r ih => simp only [List.cons_append, dp, ih]; omega

theorem fl_dp {b f : List Tok} {d : Nat} (h : Fl b f d) : dp b = 0 ∧ ∀ i, 0 ≤ dp (b.take i) := by
  induction h with
  | nil => exact ⟨rfl, fun i => by simp [dp]⟩
  | @tok t r f d h1 h2 _ _ _ ih =>
    refine ⟨by simp [dp, h1, h2, ih.1], fun i => ?_⟩
    cases i with
    | zero => simp [dp]
    | succ i => have := ih.2 i; simp only [List.take_succ_cons, dp, h1, h2]; simp; exact this
  | @rep c p e b f r g d k n h1 h2 h3 h4 h5 _ _ F1 F2 ih1 ih2 =>
    obtain ⟨hc1, hc2⟩ := num_name h1
    obtain ⟨_, hp⟩ := rep_name h4
    obtain ⟨_, he⟩ := end_name h5
    refine ⟨by simp only [dp, dp_append, hc1, hc2, h4, he, h5, ih1.1, ih2.1]; simp, fun i => ?_⟩
    cases i with
    | zero => simp [dp]
    | succ i =>
      cases i with
      | zero => simp [dp, hc1, hc2]
      | succ i =>
        simp only [List.take_succ_cons, dp, hc1, hc2, h4, if_true]
        simp only [Bool.false_eq_true, if_false]
        rw [List.take_append, dp_append]
        have hb := ih1.2 i
        by_cases hi : i ≤ b.length
        · rw [show i - b.length = 0 by omega, List.take_zero]
          simp only [dp]; omega
        · have e1 : b.take i = b := List.take_of_length_le (by omega)
          rw [e1, ih1.1]
          obtain ⟨j, hj⟩ : ∃ j, i - b.length = j + 1 := ⟨i - b.length - 1, by omega⟩
          rw [hj, List.take_succ_cons]
          have := ih2.2 j
          simp only [dp, he, h5, Bool.false_eq_true, if_false, if_true]; omega

theorem fl_append {a fa : List Tok} {da : Nat} (h : Fl a fa da) {b fb : List Tok} {db : Nat} (k : Fl b fb db) : Fl (a ++ b) (fa ++ fb) (max da db) := by
  induction h with
  | nil => simpa using k
  | @tok t r f d hr he htk hnx _ ih =>
    refine .tok hr he htk (fun u q e => ?_) ih
    cases r with
    | nil =>
      have e' : b = u :: q := e
      rw [e'] at k
      exact fl_first k
    | cons v r =>
      have e' : v :: (r ++ b) = u :: q := e
      injection e' with e1 _
      rw [← e1]; exact hnx v r rfl
  | @rep c p e b' f r g d k' n h1 h2 h3 h4 h5 h6 h7 F1 F2 ih1 ih2 =>
    have e1 : (c :: p :: (b' ++ e :: r)) ++ b = c :: p :: (b' ++ e :: (r ++ b)) := by simp
    have e2 : (rpt n f ++ g) ++ fb = rpt n f ++ (g ++ fb) := List.append_assoc _ _ _
    have e3 : max (max (d + 1) k') db = max (d + 1) (max k' db) := by omega
    have := Fl.rep n h1 h2 h3 h4 h5 h6 h7 F1 ih2
    rw [← e1, ← e2, ← e3] at this
    exact this

theorem run_prev {p q : Option Tok} {d m : Nat} {l : List Tok} (h : ∀ u r, l = u :: r → isRep u = false) : run p d m l = run q d m l := by
  cases l with
  | nil => rfl
  | cons u r => simp [run, h u r rfl]

theorem cnt_tok {c : Tok} {n : Nat} (h1 : c.1.toList.isEmpty = true) (h2 : c.2 = (n : Int)) (h3 : n ≤ 9) : tkB c.1 c.2 = true ∧ cntB (some c) = true := by
  constructor
  · simp only [tkB, h1, if_true, decide_eq_true_eq]; omega
  · simp only [cntB, h1, Bool.true_and, decide_eq_true_eq]; omega

theorem fl_run {l f : List Tok} {d : Nat} (h : Fl l f d) : ∀ (p q : Option Tok) (D m : Nat) (tail : List Tok), D ≤ m → (∀ u r, tail = u :: r → isRep u = false) → run p D m (l ++ tail) = run q D (max m (D + d)) tail := by
  induction h with
  | nil =>
    intro p q D m tail hm ht
    rw [List.nil_append, show max m (D + 0) = m by omega]
    exact run_prev ht
  | @tok t r f d hr he htk hnx _ ih =>
    intro p q D m tail hm ht
    rw [List.cons_append, run, if_pos htk, hr, he]
    simp only [Bool.false_eq_true, if_false]
    exact ih _ q D m tail hm ht
  | @rep c p' e b f r g d k n h1 h2 h3 h4 h5 h6 h7 F1 F2 ih1 ih2 =>
    intro p q D m tail hm ht
    obtain ⟨hc1, hc2⟩ := num_name h1
    obtain ⟨hct, hcb⟩ := cnt_tok h1 h2 h3
    obtain ⟨hen, her⟩ := end_name h5
    have e1 : (c :: p' :: (b ++ e :: r)) ++ tail = c :: p' :: (b ++ (e :: (r ++ tail))) := by simp
    rw [e1, run, if_pos hct, hc1, hc2]
    simp only [Bool.false_eq_true, if_false]
    rw [run, if_pos h6, if_pos h4, if_pos hcb]
    rw [ih1 (some p') (some p') (D + 1) (max m (D + 1)) (e :: (r ++ tail)) (by omega) (fun u q' e2 => by injection e2 with e3 _; rw [← e3]; exact her)]
    rw [run, if_pos h7, her, h5]
    simp only [Bool.false_eq_true, if_false, if_true, Nat.add_one_ne_zero]
    rw [show D + 1 - 1 = D by omega]
    rw [ih2 (some e) q D _ tail (by omega) ht]
    congr 1
    omega

theorem bd_of_fl {l f : List Tok} {d : Nat} (h : Fl l f d) (hl : l.length ≤ 60) (hd : d ≤ 3) : bdV l = (d : Int) := by
  have h1 := fl_run h none none 0 0 [] (by omega) (fun u r e => by cases e)
  rw [List.append_nil, show max 0 (0 + d) = d by omega] at h1
  have h2 : run none 0 0 l = some d := by rw [h1]; rfl
  simp [bdV, hl, h2, hd]

theorem fl_plain {l f : List Tok} {d : Nat} (h : Fl l f d) : ∀ t ∈ f, isRep t = false ∧ isEnd t = false := by
  induction h with
  | nil => intro t ht; cases ht
  | @tok t r f d hr he _ _ _ ih =>
    intro u hu
    rcases List.mem_cons.1 hu with rfl | hu
    · exact ⟨hr, he⟩
    · exact ih u hu
  | @rep c p e b f r g d k n _ _ _ _ _ _ _ _ _ ih1 ih2 =>
    intro u hu
    rcases List.mem_append.1 hu with h8 | h8
    · simp only [rpt, List.mem_flatten, List.mem_replicate] at h8
      obtain ⟨x, ⟨_, hx⟩, h9⟩ := h8
      exact ih1 u (hx ▸ h9)
    · exact ih2 u h8

end Go.Proofs.Ytgfckdpkdjjmjaa.Blk
