/-
  Texts of this seat, laid together: Blk, Depth
-/
import Derived.Test.YtjmfgbbngocodaaGreatV04
import Derived.Test.YtjmfgbbngocodaaGreatV03
import Derived.Test.YtjmfgbbngocodaaGreatV01
namespace Go.Proofs.YtjmfgbbngocodaaGreat.Blk
open Go.ChangeShapes Go.WideShapes Go.ChangeAt Go.RowKit
open Scan
set_option linter.unusedVariables false
set_option linter.unusedSimpArgs false
set_option linter.unnecessarySimpa false
abbrev Tok := ByteArray × Int
def isRep (t : Tok) : Bool := t.1.toList == [114, 101, 112, 101, 97, 116]
def isEnd (t : Tok) : Bool := t.1.toList == [101, 110, 100]
def cntB : Option Tok → Bool
  | none => false
  | some t => t.1.toList.isEmpty && decide (0 ≤ t.2 ∧ t.2 ≤ 9)
def run : Option Tok → Nat → Nat → List Tok → Option Nat
  | _, d, m, [] => if d = 0 then some m else none
  | p, d, m, t :: r =>
    if tkB t.1 t.2 = true then
      if isRep t = true then (if cntB p = true then run (some t) (d + 1) (max m (d + 1)) r else none)
      else if isEnd t = true then (if d = 0 then none else run (some t) (d - 1) m r)
      else run (some t) d m r
    else none
def bdV (l : List Tok) : Int := if l.length ≤ 60 then (match run none 0 0 l with | some m => if m ≤ 3 then (m : Int) else -1 | none => -1) else -1
def rpt (n : Nat) (f : List Tok) : List Tok := (List.replicate n f).flatten
inductive Fl : List Tok → List Tok → Nat → Prop
  | nil : Fl [] [] 0
  | tok {t : Tok} {r f : List Tok} {d : Nat} : isRep t = false → isEnd t = false → tkB t.1 t.2 = true → (∀ u q, r = u :: q → isRep u = false) → Fl r f d → Fl (t :: r) (t :: f) d
  | rep {c p e : Tok} {b f r g : List Tok} {d k : Nat} (n : Nat) : c.1.toList.isEmpty = true → c.2 = (n : Int) → n ≤ 9 → isRep p = true → isEnd e = true → tkB p.1 p.2 = true → tkB e.1 e.2 = true → Fl b f d → Fl r g k → Fl (c :: p :: (b ++ e :: r)) (rpt n f ++ g) (max (d + 1) k)
theorem rep_name {t : Tok} (h : isRep t = true) : t.1.toList.isEmpty = false ∧ isEnd t = false := by
  unfold isRep at h
  have h1 : t.1.toList = [114, 101, 112, 101, 97, 116] := by simpa using h
  unfold isEnd
  rw [h1]; exact ⟨rfl, by decide⟩
theorem end_name {t : Tok} (h : isEnd t = true) : t.1.toList.isEmpty = false ∧ isRep t = false := by
  unfold isEnd at h
  have h1 : t.1.toList = [101, 110, 100] := by simpa using h
  unfold isRep
  rw [h1]; exact ⟨rfl, by decide⟩
theorem num_name {t : Tok} (h : t.1.toList.isEmpty = true) : isRep t = false ∧ isEnd t = false := by
  rw [List.isEmpty_iff] at h
  unfold isRep isEnd
  rw [h]; exact ⟨by decide, by decide⟩
theorem cnt_no {t : Tok} (h : t.1.toList.isEmpty = false) : cntB (some t) = false := by simp [cntB, h]
theorem parse : ∀ (N : Nat) (l : List Tok), l.length ≤ N → ∀ (p : Option Tok) (d m M : Nat), d ≤ m → (∀ u q, l = u :: q → isRep u = true → cntB p = false) → run p d m l = some M →
    ∃ b f k, Fl b f k ∧ ((d = 0 ∧ l = b ∧ M = max m k) ∨ (∃ e r, 0 < d ∧ isEnd e = true ∧ tkB e.1 e.2 = true ∧ l = b ++ e :: r ∧ run (some e) (d - 1) (max m (d + k)) r = some M)) := by
  intro N
  induction N with
  | zero =>
    intro l hl p d m M hdm _ h
    have : l = [] := List.length_eq_zero_iff.1 (by omega)
    subst this
    simp only [run] at h
    split at h
    · rename_i h0
      cases h
      exact ⟨[], [], 0, .nil, .inl ⟨h0, rfl, by simp⟩⟩
    · cases h
  | succ N ih =>
    intro l hl p d m M hdm hp h
    cases l with
    | nil =>
      simp only [run] at h
      split at h
      · rename_i h0
        cases h
        exact ⟨[], [], 0, .nil, .inl ⟨h0, rfl, by simp⟩⟩
      · cases h
    | cons t r =>
      simp only [List.length_cons] at hl
      simp only [run] at h
      split at h
      · rename_i htk
        split at h
        · rename_i hrep
          rw [hp t r rfl hrep] at h
          simp at h
        · rename_i hrep
          have hrep' : isRep t = false := by simpa using hrep
          split at h
          · rename_i hend
            split at h
            · cases h
            · rename_i hd
              refine ⟨[], [], 0, .nil, .inr ⟨t, r, by omega, hend, htk, rfl, ?_⟩⟩
              rw [show max m (d + 0) = m by omega]; exact h
          · rename_i hend
            have hend' : isEnd t = false := by simpa using hend
            cases r with
            | nil =>
              simp only [run] at h
              split at h
              · rename_i h0
                cases h
                exact ⟨[t], [t], 0, .tok hrep' hend' htk (fun u q e => by cases e) .nil, .inl ⟨h0, rfl, by simp⟩⟩
              · cases h
            | cons u q =>
              simp only [List.length_cons] at hl
              by_cases hu : isRep u = true
              · simp only [run] at h
                split at h
                · split at h
                  · rename_i hutk hcnt
                    have hun := rep_name hu
                    obtain ⟨b1, f1, k1, F1, h1⟩ := ih q (by omega) (some u) (d + 1) (max m (d + 1)) M (by omega) (fun _ _ _ _ => cnt_no hun.1) h
                    rcases h1 with ⟨h0, _⟩ | ⟨e1, r1, _, he1, het, hq, hr1⟩
                    · omega
                    · have hen := end_name he1
                      simp only [cntB, Bool.and_eq_true, decide_eq_true_eq] at hcnt
                      obtain ⟨hc0, hc1, hc2⟩ := hcnt
                      have hlen : r1.length ≤ N := by
                        have := congrArg List.length hq
                        simp at this; omega
                      obtain ⟨b2, f2, k2, F2, h2⟩ := ih r1 hlen (some e1) d (max (max m (d + 1)) (d + 1 + k1)) M (by omega) (fun _ _ _ _ => cnt_no hen.1) hr1
                      have hn : t.2 = ((t.2.toNat : Nat) : Int) := by omega
                      have F : Fl (t :: u :: (b1 ++ e1 :: b2)) (rpt t.2.toNat f1 ++ f2) (max (k1 + 1) k2) := .rep t.2.toNat hc0 hn (by omega) hu he1 hutk het F1 F2
                      refine ⟨_, _, _, F, ?_⟩
                      rcases h2 with ⟨h0, e2, e3⟩ | ⟨e2, r2, hd, he2, het2, e3, e4⟩
                      · exact .inl ⟨h0, by rw [hq, e2], by omega⟩
                      · refine .inr ⟨e2, r2, hd, he2, het2, by rw [hq, e3]; simp, ?_⟩
                        rw [show max m (d + max (k1 + 1) k2) = max (max (max m (d + 1)) (d + 1 + k1)) (d + k2) by omega]
                        exact e4
                  · cases h
                · cases h
              · have hu' : isRep u = false := by simpa using hu
                obtain ⟨b, f, k, F, h1⟩ := ih (u :: q) (by simp; omega) (some t) d m M hdm (fun u' q' e he => by injection e with e1 e2; rw [← e1, hu'] at he; cases he) h
                rcases h1 with ⟨h0, e1, e2⟩ | ⟨e1, r1, hd, he1, het, e2, e3⟩
                · exact ⟨t :: b, t :: f, k, .tok hrep' hend' htk (fun u' q' e => by rw [← e1] at e; injection e with e3 e4; rw [← e3]; exact hu') F, .inl ⟨h0, by rw [e1], e2⟩⟩
                · refine ⟨t :: b, t :: f, k, .tok hrep' hend' htk (fun u' q' e => ?_) F, .inr ⟨e1, r1, hd, he1, het, by rw [e2]; rfl, e3⟩⟩
                  rw [e] at e2
                  injection e2 with e4 e5
                  rw [← e4]; exact hu'
      · cases h
theorem bd_fl {l : List Tok} (h : 0 ≤ bdV l) : ∃ f d, Fl l f d ∧ bdV l = (d : Int) ∧ l.length ≤ 60 ∧ d ≤ 3 := by
  unfold bdV at h ⊢
  split
  · rename_i hl
    rw [if_pos hl] at h
    cases hr : run none 0 0 l with
    | none => rw [hr] at h; simp at h
    | some m =>
      rw [hr] at h
      obtain ⟨b, f, k, F, h1⟩ := parse l.length l (Nat.le_refl _) none 0 0 m (by omega) (fun _ _ _ _ => rfl) hr
      rcases h1 with ⟨_, rfl, e⟩ | ⟨_, _, h0, _⟩
      · have hk : m = k := by omega
        subst hk
        refine ⟨f, m, F, ?_⟩
        by_cases h3 : m ≤ 3
        · simp [h3, hl]
        · simp [h3] at h
      · omega
  · rename_i hl
    rw [if_neg hl] at h
    omega
def dp : List Tok → Int
  | [] => 0
  | t :: r => (if isRep t = true then 1 else if isEnd t = true then -1 else 0) + dp r
theorem dp_append (a b : List Tok) : dp (a ++ b) = dp a + dp b := by
  induction a with
  | nil => simp [dp]
  | cons t r ih => simp only [List.cons_append, dp, ih]; omega
theorem fl_dp {b f : List Tok} {d : Nat} (h : Fl b f d) : dp b = 0 ∧ ∀ i, 0 ≤ dp (b.take i) := by
  induction h with
  | nil => exact ⟨rfl, fun i => by simp [dp]⟩
  | @tok t r f d h1 h2 _ _ _ ih =>
    refine ⟨by simp [dp, h1, h2, ih.1], fun i => ?_⟩
    cases i with
    | zero => simp [dp]
    | succ i => have := ih.2 i; simp only [List.take_succ_cons, dp, h1, h2]; simp; exact this
  | @rep c p e b f r g d k n h1 h2 h3 h4 h5 _ _ F1 F2 ih1 ih2 =>
    obtain ⟨hc1, hc2⟩ := num_name h1
    obtain ⟨_, hp⟩ := rep_name h4
    obtain ⟨_, he⟩ := end_name h5
    refine ⟨by simp only [dp, dp_append, hc1, hc2, h4, he, h5, ih1.1, ih2.1]; simp, fun i => ?_⟩
    cases i with
    | zero => simp [dp]
    | succ i =>
      cases i with
      | zero => simp [dp, hc1, hc2]
      | succ i =>
        simp only [List.take_succ_cons, dp, hc1, hc2, h4, if_true]
        simp only [Bool.false_eq_true, if_false]
        rw [List.take_append, dp_append]
        have hb := ih1.2 i
        by_cases hi : i ≤ b.length
        · rw [show i - b.length = 0 by omega, List.take_zero]
          simp only [dp]; omega
        · have e1 : b.take i = b := List.take_of_length_le (by omega)
          rw [e1, ih1.1]
          obtain ⟨j, hj⟩ : ∃ j, i - b.length = j + 1 := ⟨i - b.length - 1, by omega⟩
          rw [hj, List.take_succ_cons]
          have := ih2.2 j
          simp only [dp, he, h5, Bool.false_eq_true, if_false, if_true]; omega
end Go.Proofs.YtjmfgbbngocodaaGreat.Blk

namespace Go.Proofs.YtjmfgbbngocodaaGreat.Blk
open Go.ChangeShapes Go.WideShapes Go.ChangeAt Go.RowKit
open Kit Scan Slabs
set_option linter.unusedVariables false
set_option linter.unusedSimpArgs false
set_option linter.unnecessarySimpa false
set_option maxRecDepth 100000
attribute [local go_sem ↓] run_mx run_mn
def Rdt (w : World) (v : Value) (L : List Tok) : Prop :=
  ∃ (a : Option Addr) (cap : Nat), v = .slice a L.length cap ∧ L.length ≤ cap ∧ (L = [] ∨ ∃ g o, a = some ⟨g, o, none⟩ ∧ g < w.heap.size ∧
    ∀ i s m, L[i]? = some (s, m) → w.cell? ⟨g, o + i * 2, none⟩ = some (.string s) ∧ w.cell? ⟨g, o + i * 2 + 1, none⟩ = some (.int .i64 m))
theorem Rdt.on {w w' : World} {v : Value} {L : List Tok} (h : Rdt w v L) (hb : Below w.heap.size w w') : Rdt w' v L := by
  obtain ⟨a, cap, hv, hc, h⟩ := h
  refine ⟨a, cap, hv, hc, ?_⟩
  rcases h with h | ⟨g, o, ha, h2, h4⟩
  · exact .inl h
  · exact .inr ⟨g, o, ha, Nat.lt_of_lt_of_le h2 hb.size, fun i s m hi => ⟨(hb.cell (p := ⟨g, _, none⟩) h2).trans (h4 i s m hi).1, (hb.cell (p := ⟨g, _, none⟩) h2).trans (h4 i s m hi).2⟩⟩
def toL (S : Nat → ByteArray) (N : Nat → Int) (n : Nat) : List Tok := (List.range n).map fun i => (S i, N i)
theorem toL_len (S : Nat → ByteArray) (N : Nat → Int) (n : Nat) : (toL S N n).length = n := by simp [toL]
theorem Rdt.of_slab {w : World} {B n : Nat} {v : Value} {S : Nat → ByteArray} {N : Nat → Int} (h : Slab w B v n 2 (fun i => [.string (S i), .int .i64 (N i)])) : Rdt w v (toL S N n) := by
  obtain ⟨a, cap, hv, hc, h⟩ := h
  refine ⟨a, cap, by rw [toL_len]; exact hv, by rw [toL_len]; exact hc, ?_⟩
  rcases h with h | ⟨g, ha, _, h2, _, h4⟩
  · subst h; exact .inl rfl
  · refine .inr ⟨g, 0, ha, h2, fun i s m hi => ?_⟩
    have hin : i < n := by have := (List.getElem?_eq_some_iff.1 hi).1; rwa [toL_len] at this
    have e : (toL S N n)[i]? = some (S i, N i) := by simp [toL, hin]
    rw [e] at hi
    injection hi with hi
    injection hi with e1 e2
    subst e1; subst e2
    have c0 := h4 i hin 0 _ rfl
    have c1 := h4 i hin 1 _ rfl
    exact ⟨by simpa using c0, by simpa using c1⟩
def prv (L : List Tok) (k : Nat) : Option Tok := if k = 0 then none else L[k - 1]?
theorem drop_at {L : List Tok} {k : Nat} (h : k < L.length) : L.drop k = L[k] :: L.drop (k + 1) := (List.drop_eq_getElem_cons h)
theorem prv_succ {L : List Tok} {k : Nat} (h : k < L.length) : prv L (k + 1) = some L[k] := by simp [prv, List.getElem?_eq_getElem h]
theorem bd_none {L : List Tok} (h : run none 0 0 L = none) : bdV L = -1 := by
  unfold bdV; rw [h]; split <;> rfl
theorem bd_long {L : List Tok} (h : ¬ L.length ≤ 60) : bdV L = -1 := by unfold bdV; rw [if_neg h]
theorem bd_some {L : List Tok} {m : Nat} (hl : L.length ≤ 60) (h : run none 0 0 L = some m) : bdV L = if m ≤ 3 then (m : Int) else -1 := by
  unfold bdV; rw [if_pos hl, h]
theorem run_bad {p : Option Tok} {d m : Nat} {t : Tok} {r : List Tok} (h : tkB t.1 t.2 = false) : run p d m (t :: r) = none := by simp [run, h]
theorem run_rep {p : Option Tok} {d m : Nat} {t : Tok} {r : List Tok} (h : tkB t.1 t.2 = true) (hr : isRep t = true) (hc : cntB p = true) : run p d m (t :: r) = run (some t) (d + 1) (max m (d + 1)) r := by simp [run, h, hr, hc]
theorem run_rep_no {p : Option Tok} {d m : Nat} {t : Tok} {r : List Tok} (h : tkB t.1 t.2 = true) (hr : isRep t = true) (hc : cntB p = false) : run p d m (t :: r) = none := by simp [run, h, hr, hc]
theorem run_end {p : Option Tok} {d m : Nat} {t : Tok} {r : List Tok} (h : tkB t.1 t.2 = true) (hr : isRep t = false) (he : isEnd t = true) : run p (d + 1) m (t :: r) = run (some t) d m r := by simp [run, h, hr, he]
theorem run_end_no {p : Option Tok} {m : Nat} {t : Tok} {r : List Tok} (h : tkB t.1 t.2 = true) (hr : isRep t = false) (he : isEnd t = true) : run p 0 m (t :: r) = none := by simp [run, h, hr, he]
theorem run_tok {p : Option Tok} {d m : Nat} {t : Tok} {r : List Tok} (h : tkB t.1 t.2 = true) (hr : isRep t = false) (he : isEnd t = false) : run p d m (t :: r) = run (some t) d m r := by simp [run, h, hr, he]
set_option maxHeartbeats 4000000 in
theorem depth_spec (w : World) (v : Value) (L : List Tok) (hn : L.length ≤ 1048576) (hS : ∀ t ∈ L, t.1.size ≤ 281474976710656) (h : Rdt w v L) :
    Calls Tryz.prog 157 #[v] w fun e w' => e = .returned (.int .i64 (bdV L)) ∧ Below w.heap.size w w' := by
  obtain ⟨a, cap, rfl, hc, h⟩ := h
  rcases h with rfl | ⟨g, o, rfl, hg, hcs⟩
  · go_enter Tryz.func157, Tryz.ntmps157
    go_wp2
    go_loopw [3, 4, 5] (fun v3 v4 v5 wr => v3 = .int .i64 0 ∧ v4 = .int .i64 0 ∧ v5 = .int .i64 0 ∧ wr = w) (fun _ _ _ _ => 0)
    case atStart => exact ⟨rfl, rfl, rfl, rfl⟩
    case round =>
      obtain ⟨rfl, rfl, rfl, rfl⟩ := hrel
      go_wp2
      go_ret
      exact ⟨rfl, Below.refl _ _⟩
  · have HC := Lib.hid (And.intro hcs hS)
    clear hcs hS
    go_enter Tryz.func157, Tryz.ntmps157
    go_wp2
    go_loopw [3, 4, 5] (fun v3 v4 v5 wr => ∃ k d m : Nat, k ≤ L.length ∧ v5 = .int .i64 (k : Int) ∧ v3 = .int .i64 (d : Int) ∧ v4 = .int .i64 (m : Int) ∧ d ≤ k ∧ m ≤ k ∧ (0 < k → L.length ≤ 60) ∧ run (prv L k) d m (L.drop k) = run none 0 0 L ∧ Below w.heap.size w wr) (fun _ _ v5 _ => L.length - (intOf v5).toNat)
    case atStart => exact ⟨0, 0, 0, Nat.zero_le _, rfl, rfl, rfl, Nat.le_refl _, Nat.le_refl _, fun h => by omega, rfl, Below.refl _ _⟩
    case round =>
      obtain ⟨k, d, m, hk, rfl, rfl, rfl, hd, hm, h60, hrun, hbel⟩ := hrel
      have HR := Lib.hid hrun
      clear hrun
      by_cases hlt : k < L.length
      · have i0 : (0 : Int) ≤ (k : Int) := by omega
        have i1 : (k : Int) < (L.length : Int) := by omega
        obtain ⟨t, ht⟩ : ∃ t, L[k] = t := ⟨_, rfl⟩
        obtain ⟨s, q⟩ := t
        have hget : L[k]? = some (s, q) := by rw [List.getElem?_eq_getElem hlt, ht]
        have c0 : wr.cell? ⟨g, o + k * 2, none⟩ = some (.string s) := (hbel.cell (p := ⟨g, _, none⟩) hg).trans (HC.out.1 k s q hget).1
        have c1 : wr.cell? ⟨g, o + k * 2 + 1, none⟩ = some (.int .i64 q) := (hbel.cell (p := ⟨g, _, none⟩) hg).trans (HC.out.1 k s q hget).2
        have hSk : s.size ≤ 281474976710656 := HC.out.2 (s, q) (List.mem_of_getElem? hget)
        have hdr : L.drop k = (s, q) :: L.drop (k + 1) := by rw [drop_at hlt, ht]
        have hpv : prv L (k + 1) = some (s, q) := by rw [prv_succ hlt, ht]
        have HG := Lib.hid (And.intro hdr hpv)
        have hgl := Nat.lt_of_lt_of_le hg hbel.size
        clear hdr hpv ht hget
        cases htk : tkB s q
        · have hbd : bdV L = -1 := bd_none (by rw [← HR.out, HG.out.1]; exact run_bad htk)
          have HB := Lib.hid hbd
          clear hbd
          go_wp2_with (go_at_call 24; (with_reducible refine (tok_spec _ _ _ hSk).mono ?_); rintro e w' ⟨rfl, hb⟩; have hB := on_of hbel hb; clear hb)
          go_ret
          exact ⟨by rw [HB.out]; rfl, hB⟩
        · by_cases hbig : (60 : Int) < (L.length : Int)
          · have hbd : bdV L = -1 := bd_long (by omega)
            have HB := Lib.hid hbd
            clear hbd
            go_wp2_with (go_at_call 24; (with_reducible refine (tok_spec _ _ _ hSk).mono ?_); rintro e w' ⟨rfl, hb⟩; have hB := on_of hbel hb; clear hb)
            go_ret
            exact ⟨by rw [HB.out]; rfl, hB⟩
          · have hl60 : L.length ≤ 60 := by omega
            cases hr : isRep (s, q)
            · have er : (s.toList == [114, 101, 112, 101, 97, 116]) = false := hr
              cases he : isEnd (s, q)
              · have ee : (s.toList == [101, 110, 100]) = false := he
                have hnext : run (prv L (k + 1)) d m (L.drop (k + 1)) = run none 0 0 L := by rw [← HR.out, HG.out.1, HG.out.2]; exact (run_tok htk hr he).symm
                have HN := Lib.hid hnext
                clear hnext hr he
                go_wp2_with (go_at_call 24; (with_reducible refine (tok_spec _ _ _ hSk).mono ?_); rintro e w' ⟨rfl, hb⟩; have hB := on_of hbel hb; have c0' := ((bcell hb).1 _ (o + k * 2) hgl).trans c0; clear hb)
                go_roundw
                case rel => exact ⟨k + 1, d, m, by omega, by go_num, rfl, rfl, by omega, by omega, fun _ => hl60, HN.out, hB⟩
                case measure => simp [intOf]; omega
              · have ee : (s.toList == [101, 110, 100]) = true := he
                cases d with
                | zero =>
                  have hbd : bdV L = -1 := bd_none (by rw [← HR.out, HG.out.1]; exact run_end_no htk hr he)
                  have HB := Lib.hid hbd
                  clear hbd hr he
                  go_wp2_with (go_at_call 24; (with_reducible refine (tok_spec _ _ _ hSk).mono ?_); rintro e w' ⟨rfl, hb⟩; have hB := on_of hbel hb; have c0' := ((bcell hb).1 _ (o + k * 2) hgl).trans c0; clear hb)
                  go_ret
                  exact ⟨by rw [HB.out]; rfl, hB⟩
                | succ d =>
                  have hnext : run (prv L (k + 1)) d m (L.drop (k + 1)) = run none 0 0 L := by rw [← HR.out, HG.out.1, HG.out.2]; exact (run_end htk hr he).symm
                  have HN := Lib.hid hnext
                  have hd0 : ¬ (((d + 1 : Nat) : Int) - 1 < 0) := by omega
                  clear hnext hr he
                  go_wp2_with (go_at_call 24; (with_reducible refine (tok_spec _ _ _ hSk).mono ?_); rintro e w' ⟨rfl, hb⟩; have hB := on_of hbel hb; have c0' := ((bcell hb).1 _ (o + k * 2) hgl).trans c0; clear hb)
                  go_roundw
                  case rel => exact ⟨k + 1, d, m, by omega, by go_num, by go_num, rfl, by omega, by omega, fun _ => hl60, HN.out, hB⟩
                  case measure => simp [intOf]; omega
            · have er : (s.toList == [114, 101, 112, 101, 97, 116]) = true := hr
              have ee : (s.toList == [101, 110, 100]) = false := (rep_name hr).2
              cases k with
              | zero =>
                have hbd : bdV L = -1 := bd_none (by rw [← HR.out, HG.out.1]; exact run_rep_no htk hr rfl)
                have HB := Lib.hid hbd
                clear hbd hr
                simp only [Nat.zero_mul, Nat.add_zero] at c0 c1
                go_wp2_with (go_at_call 24; (with_reducible refine (tok_spec _ _ _ hSk).mono ?_); rintro e w' ⟨rfl, hb⟩; have hB := on_of hbel hb; have c0' := ((bcell hb).1 _ o hgl).trans c0; clear hb)
                go_ret
                exact ⟨by rw [HB.out]; rfl, hB⟩
              | succ j =>
                have hj : j < L.length := by omega
                obtain ⟨u, hu⟩ : ∃ u, L[j] = u := ⟨_, rfl⟩
                obtain ⟨s2, q2⟩ := u
                have hget2 : L[j]? = some (s2, q2) := by rw [List.getElem?_eq_getElem hj, hu]
                have p0 : wr.cell? ⟨g, o + j * 2, none⟩ = some (.string s2) := (hbel.cell (p := ⟨g, _, none⟩) hg).trans (HC.out.1 j s2 q2 hget2).1
                have p1 : wr.cell? ⟨g, o + j * 2 + 1, none⟩ = some (.int .i64 q2) := (hbel.cell (p := ⟨g, _, none⟩) hg).trans (HC.out.1 j s2 q2 hget2).2
                have hpj : prv L (j + 1) = some (s2, q2) := by rw [prv_succ hj, hu]
                have HP := Lib.hid hpj
                have j0 : (0 : Int) ≤ (j : Int) := by omega
                have j1 : (j : Int) < (L.length : Int) := by omega
                clear hu hget2 hpj
                cases hs2 : s2.toList.isEmpty
                · have hbd : bdV L = -1 := bd_none (by rw [← HR.out, HG.out.1, HP.out]; exact run_rep_no htk hr (cnt_no hs2))
                  have HB := Lib.hid hbd
                  clear hbd hr
                  go_wp2_with (go_at_call 24; (with_reducible refine (tok_spec _ _ _ hSk).mono ?_); rintro e w' ⟨rfl, hb⟩; have hB := on_of hbel hb; have c0' := ((bcell hb).1 _ (o + (j + 1) * 2) hgl).trans c0; have p0' := ((bcell hb).1 _ (o + j * 2) hgl).trans p0; have p1' := ((bcell hb).1 _ (o + j * 2 + 1) hgl).trans p1; clear hb)
                  go_ret
                  exact ⟨by rw [HB.out]; rfl, hB⟩
                · cases hin : decide (0 ≤ q2 ∧ q2 ≤ 9)
                  · have hbd : bdV L = -1 := bd_none (by rw [← HR.out, HG.out.1, HP.out]; exact run_rep_no htk hr (by simp only [cntB, hs2, hin]; rfl))
                    have HB := Lib.hid hbd
                    clear hbd hr
                    go_wp2_with (first | (go_at_call 24; (with_reducible refine (tok_spec _ _ _ hSk).mono ?_); rintro e w' ⟨rfl, hb⟩; have hB := on_of hbel hb; have c0' := ((bcell hb).1 _ (o + (j + 1) * 2) hgl).trans c0; have p0' := ((bcell hb).1 _ (o + j * 2) hgl).trans p0; have p1' := ((bcell hb).1 _ (o + j * 2 + 1) hgl).trans p1; clear hb) | (go_at_call 60; refine (Point.in_any _ _ _ _).mono ?_; rintro e w2 ⟨rfl, rfl⟩; rw [hin]))
                    go_ret
                    exact ⟨by rw [HB.out]; rfl, hB⟩
                  · have hnext : run (prv L (j + 1 + 1)) (d + 1) (max m (d + 1)) (L.drop (j + 1 + 1)) = run none 0 0 L := by rw [← HR.out, HG.out.1, HG.out.2, HP.out]; exact (run_rep htk hr (by simp only [cntB, hs2, hin]; rfl)).symm
                    have HN := Lib.hid hnext
                    have hmx : mx (m : Int) ((d : Int) + 1) = ((max m (d + 1) : Nat) : Int) := by unfold mx; omega
                    clear hnext hr
                    go_wp2_with (first | (go_at_call 24; (with_reducible refine (tok_spec _ _ _ hSk).mono ?_); rintro e w' ⟨rfl, hb⟩; have hB := on_of hbel hb; have c0' := ((bcell hb).1 _ (o + (j + 1) * 2) hgl).trans c0; have p0' := ((bcell hb).1 _ (o + j * 2) hgl).trans p0; have p1' := ((bcell hb).1 _ (o + j * 2 + 1) hgl).trans p1; clear hb) | (go_at_call 60; refine (Point.in_any _ _ _ _).mono ?_; rintro e w2 ⟨rfl, rfl⟩; rw [hin]))
                    go_roundw
                    case rel => exact ⟨j + 1 + 1, d + 1, max m (d + 1), by omega, by go_num, by go_num, by first | rw [hmx] | rfl, by omega, by omega, fun _ => hl60, HN.out, hB⟩
                    case measure => simp [intOf]; omega
      · obtain rfl : k = L.length := by omega
        have hl60 : L.length ≤ 60 := by
          rcases Nat.eq_zero_or_pos L.length with h0 | h0
          · omega
          · exact h60 h0
        have hend : run none 0 0 L = if d = 0 then some m else none := by rw [← HR.out, List.drop_length]; simp only [run]
        cases d with
        | zero =>
          have hbd := bd_some hl60 (m := m) (by rw [hend]; rfl)
          have HB := Lib.hid hbd
          clear hbd hend
          by_cases h3 : (3 : Int) < (m : Int)
          · go_wp2
            go_ret
            exact ⟨by rw [HB.out, if_neg (by omega)]; rfl, hbel⟩
          · go_wp2
            go_ret
            exact ⟨by rw [HB.out, if_pos (by omega)]; rfl, hbel⟩
        | succ d =>
          have hbd := bd_none (L := L) (by rw [hend]; rfl)
          have HB := Lib.hid hbd
          have hd0 : ¬ (((d + 1 : Nat) : Int) = 0) := by omega
          clear hbd hend
          go_wp2
          go_ret
          exact ⟨by rw [HB.out]; rfl, hbel⟩
end Go.Proofs.YtjmfgbbngocodaaGreat.Blk

