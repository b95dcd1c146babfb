/-
  The program's FlatLength: what the call returns; condition: at most 1048576 tokens.
-/
import Derived.Test.YtgfckdpkdjjmjaaDepImpl
import Derived.Test.YtgfckdpkdjjmjaaRep
import Derived.Deep.AppendLies
import Derived.Deep.RegionLaw
import Derived.OwnWalk
import Derived.Laws.OwnMore
import Derived.Laws.BitsLemmas
namespace Go.Proofs.Ytgfckdpkdjjmjaa.Impl
open Go.ChangeShapes Go.WideShapes Go.ChangeAt Go.RowKit
open Kit Scan Slabs Blk NameImpl
set_option linter.unusedVariables false
set_option linter.unusedSimpArgs false
set_option linter.unnecessarySimpa false
set_option maxRecDepth 100000

theorem info_int3 : (Try.prog.info? 3).map (fun i => (i.zero, i.size, i.bytes)) = some (some (.int .i64 0), 1, 8) := by kernel_rfl

/-- The number of the token before. -/
def pn : Option Tok → Int
  | none => 0
  | some t => t.2

/-- What is still to be added: the stack of how often a token counts (the innermost first), the token before, the tokens to come. -/
def rem : List Int → Option Tok → List Tok → Int
  | _, _, [] => 0
  | [], _, _ :: _ => 0
  | x :: R, p, t :: r => if isEnd t = true then rem R (some t) r else if isRep t = true then -x + rem (x * pn p :: x :: R) (some t) r else x + rem (x :: R) (some t) r

theorem rem_prev {p q : Option Tok} {T : List Int} {l : List Tok} (h : ∀ u r, l = u :: r → isRep u = false) : rem T p l = rem T q l := by
  cases l with
  | nil => cases T <;> rfl
  | cons u r => cases T <;> simp [rem, h u r rfl]

theorem rpt_len (n : Nat) (f : List Tok) : (rpt n f).length = n * f.length := by simp [rpt]

theorem fl_rem {l f : List Tok} {d : Nat} (h : Fl l f d) : ∀ (p q : Option Tok) (x : Int) (R : List Int) (tail : List Tok), (∀ u r, tail = u :: r → isRep u = false) → rem (x :: R) p (l ++ tail) = x * (f.length : Int) + rem (x :: R) q tail := by
  induction h with
  | nil =>
    intro p q x R tail ht
    rw [List.nil_append, List.length_nil, rem_prev (p := p) (q := q) ht]
    simp
  | @tok t r f d hr he htk hnx _ ih =>
    intro p q x R tail ht
    rw [List.cons_append, rem, if_neg (by simp [he]), if_neg (by simp [hr]), ih (some t) q x R tail ht, List.length_cons]
    have : x * ((f.length + 1 : Nat) : Int) = x * (f.length : Int) + x := by rw [Int.natCast_add, Int.mul_add]; simp
    omega
  | @rep c p' e b f r g d k n h1 h2 h3 h4 h5 h6 h7 F1 F2 ih1 ih2 =>
    intro p q x R tail ht
    obtain ⟨hc1, hc2⟩ := num_name h1
    obtain ⟨hen, her⟩ := end_name h5
    have hpe := (rep_name h4).2
    have e1 : (c :: p' :: (b ++ e :: r)) ++ tail = c :: p' :: (b ++ (e :: (r ++ tail))) := by simp
    rw [e1, rem, if_neg (by simp [hc2]), if_neg (by simp [hc1]), rem, if_neg (by simp [hpe]), if_pos h4]
    rw [ih1 (some p') (some p') (x * pn (some c)) (x :: R) (e :: (r ++ tail)) (fun u q' e2 => by injection e2 with e3 _; rw [← e3]; exact her)]
    rw [rem, if_pos h5, ih2 (some e) q x R tail ht, List.length_append, rpt_len]
    have e2 : x * pn (some c) * (f.length : Int) = x * ((n * f.length : Nat) : Int) := by
      simp only [pn, h2]; rw [Int.natCast_mul, Int.mul_assoc]
    rw [e2, Int.natCast_add, Int.mul_add]
    omega

theorem rem_all {l f : List Tok} {d : Nat} (h : Fl l f d) : rem [1] none l = (f.length : Int) := by
  have := fl_rem h none none 1 [] [] (fun u r e => by cases e)
  rw [List.append_nil] at this
  rw [this]
  simp [rem]

/-- The stack's numbers are small. -/
def Bd : List Int → Prop
  | [] => True
  | x :: R => 0 ≤ x ∧ x ≤ 9 ^ R.length ∧ Bd R

theorem bd_top {x : Int} {R : List Int} (h : Bd (x :: R)) (hd : R.length ≤ 3) : 0 ≤ x ∧ x ≤ 729 := by
  refine ⟨h.1, Int.le_trans h.2.1 ?_⟩
  have h2 : (9 : Int) ^ R.length ≤ 9 ^ 3 := by
    have h3 : (9 : Nat) ^ R.length ≤ 9 ^ 3 := Nat.pow_le_pow_right (by omega) hd
    exact_mod_cast h3
  omega

theorem bd_push {x n : Int} {R : List Int} (h : Bd (x :: R)) (h0 : 0 ≤ n) (h9 : n ≤ 9) : Bd (x * n :: x :: R) := by
  refine ⟨Int.mul_nonneg h.1 h0, ?_, h⟩
  rw [List.length_cons, Int.pow_succ]
  calc x * n ≤ 9 ^ R.length * n := Int.mul_le_mul_of_nonneg_right h.2.1 h0
    _ ≤ 9 ^ R.length * 9 := Int.mul_le_mul_of_nonneg_left h9 (Int.pow_nonneg (by omega))

/-- The stack's cells. -/
def stc (x : Int) (R : List Int) : List Value := R.reverse.map (Value.int .i64) ++ [.int .i64 x]
theorem stc_len (x : Int) (R : List Int) : (stc x R).length = R.length + 1 := by simp [stc]
theorem stc_top (x : Int) (R : List Int) : (stc x R)[R.length]? = some (.int .i64 x) := by
  simp [stc, List.getElem?_append]
theorem stc_push (x y : Int) (R : List Int) : stc y (x :: R) = stc x R ++ [.int .i64 y] := by simp [stc]
theorem stc_pop (x y : Int) (R : List Int) : (stc y (x :: R)).take (R.length + 1) = stc x R := by
  rw [stc_push, List.take_append_of_le_length (by rw [stc_len]; exact Nat.le_refl _), List.take_of_length_le (by rw [stc_len]; exact Nat.le_refl _)]

theorem owns_cut {w : World} {B : Nat} {T : TypeId} {c n cap k : Nat} {g : Nat} {xs : List Value} (h : w.ownsRow B T c (.slice (some ⟨g, 0, none⟩) n cap) n xs) (hk : k ≤ n) : w.ownsRow B T c (.slice (some ⟨g, 0, none⟩) k cap) k (xs.take (k * c)) := by
  have hkc : k * c ≤ n * c := Nat.mul_le_mul_right _ hk
  refine ⟨by rw [List.length_take, h.1]; omega, ?_⟩
  rcases h.2 with ⟨h', _⟩ | ⟨g', cap', cur, h', hb, hg, h1, h2, h3, h4⟩
  · simp at h'
  · simp only [Value.slice.injEq, Option.some.injEq, Addr.mk.injEq, and_true, true_and] at h'
    obtain ⟨rfl, rfl⟩ := h'
    refine .inr ⟨g, cap, cur, rfl, hb, hg, by omega, h2, h3, ?_⟩
    rw [← h4, List.take_take, Nat.min_eq_left hkc]

theorem run_inv {p : Option Tok} {d m M : Nat} {t : Tok} {r : List Tok} (h : run p d m (t :: r) = some M) :
    (isRep t = true ∧ cntB p = true ∧ run (some t) (d + 1) (max m (d + 1)) r = some M) ∨ (isRep t = false ∧ isEnd t = true ∧ ∃ d', d = d' + 1 ∧ run (some t) d' m r = some M) ∨ (isRep t = false ∧ isEnd t = false ∧ run (some t) d m r = some M) := by
  simp only [run] at h
  split at h
  · split at h
    · rename_i hr
      split at h
      · rename_i hc
        exact .inl ⟨hr, hc, h⟩
      · cases h
    · rename_i hr
      split at h
      · rename_i he
        split at h
        · cases h
        · rename_i hd
          exact .inr (.inl ⟨by simpa using hr, he, d - 1, by omega, h⟩)
      · rename_i he
        exact .inr (.inr ⟨by simpa using hr, by simpa using he, h⟩)
  · cases h

theorem bd_ok {L : List Tok} (h : 0 ≤ bdV L) : ∃ M, run none 0 0 L = some M ∧ M ≤ 3 ∧ L.length ≤ 60 := by
  unfold bdV at h
  split at h
  · rename_i hl
    cases hr : run none 0 0 L with
    | none => rw [hr] at h; simp at h
    | some M =>
      rw [hr] at h
      refine ⟨M, rfl, ?_, hl⟩
      by_cases h3 : M ≤ 3
      · exact h3
      · simp [h3] at h
  · omega

set_option maxHeartbeats 8000000 in
theorem len_impl (w : World) (v : Value) (L : List Tok) (hn : L.length ≤ 1048576) (hS : ∀ t ∈ L, t.1.size ≤ 281474976710656) (h : Rdt w v L) (x : Int) (hx : FlenIs L x) :
    Calls Try.prog 10 #[v] w fun e w' => e = .returned (.int .i64 x) ∧ Below w.heap.size w w' := by
  have HD := Lib.hid (ok_impl w v L hn hS h)
  rcases hx with ⟨h0, f, dd, F, hdd, h60, rfl⟩ | ⟨h0, rfl⟩
  · have hdec : decide (0 ≤ bdV L) = true := by simpa using h0
    obtain ⟨i0, hi0, hz0, hz1, hz2⟩ := info_parts info_int3
    have hall := rem_all F
    obtain ⟨M, hM, hM3, _⟩ := bd_ok h0
    obtain ⟨a, cap, rfl, hc, h⟩ := h
    rcases h with rfl | ⟨g, o, rfl, hg, hcs⟩
    · have hf : f = [] := by cases F; rfl
      subst hf
      simp only [List.length_nil] at HD
      clear F hall hM
      go_enter Try.func10, Try.ntmps10
      go_wp2_with (go_at_call 12; (with_reducible refine HD.out.mono ?_); rintro e w1 ⟨rfl, hb⟩; rw [hdec])
      go_rounds 1
      go_ret
      exact ⟨rfl, hb.alloc hb.size _⟩
    · have HC := Lib.hid hcs
      have HA := Lib.hid (And.intro hall hM)
      generalize (f.length : Int) = tot at *
      clear hcs hall hM hS F
      go_enter Try.func10, Try.ntmps10
      go_wp2_with (go_at_call 12; (with_reducible refine HD.out.mono ?_); rintro e w1 ⟨rfl, hb⟩; rw [hdec])
      have ho1 := World.ownsRow_lit (base := w.heap.size) (e := 3) (size := 1) w1 #[.int .i64 1] 1 hb.size (by decide) (by simp)
      have hB1 := hb.alloc hb.size (.cells #[.int .i64 1] 3)
      go_loopw [3, 4, 14] (fun v3 v4 v14 wr => ∃ (k m : Nat) (x acc : Int) (R : List Int), k ≤ L.length ∧ v14 = .int .i64 (k : Int) ∧ v3 = .int .i64 acc ∧ -729 * (k : Int) ≤ acc ∧ acc ≤ 729 * (k : Int) ∧ wr.ownsRow w.heap.size 3 1 v4 (R.length + 1) (stc x R) ∧ Bd (x :: R) ∧ run (prv L k) R.length m (L.drop k) = some M ∧ R.length ≤ m ∧ acc + rem (x :: R) (prv L k) (L.drop k) = tot ∧ Below w.heap.size w wr) (fun _ _ v14 _ => L.length - (intOf v14).toNat)
      case atStart => exact ⟨0, 0, 1, 0, [], Nat.zero_le _, rfl, rfl, by omega, by omega, ho1, ⟨by omega, by simp, trivial⟩, HA.out.2, Nat.le_refl _, by rw [List.drop_zero]; have := HA.out.1; show (0 : Int) + rem [1] none L = tot; omega, hB1⟩
      case round =>
        obtain ⟨k, m, x, acc, R, hk, rfl, rfl, ha1, ha2, hown, hBd, hrun, hdm, hrem, hbel⟩ := hrel
        have h3 : R.length ≤ 3 := Nat.le_trans hdm (Nat.le_trans (run_ge _ _ _ _ _ hrun) hM3)
        obtain ⟨hx0, hx9⟩ := bd_top hBd h3
        by_cases hlt : k < L.length
        · have k0 : (0 : Int) ≤ (k : Int) := by omega
          have k1 : (k : Int) < (L.length : Int) := by omega
          obtain ⟨t, ht⟩ : ∃ t, L[k] = t := ⟨_, rfl⟩
          obtain ⟨s, q⟩ := t
          have hget : L[k]? = some (s, q) := by rw [List.getElem?_eq_getElem hlt, ht]
          have c0 : wr.cell? ⟨g, o + k * 2, none⟩ = some (.string s) := (hbel.cell (p := ⟨g, _, none⟩) hg).trans (HC.out k s q hget).1
          have c1 : wr.cell? ⟨g, o + k * 2 + 1, none⟩ = some (.int .i64 q) := (hbel.cell (p := ⟨g, _, none⟩) hg).trans (HC.out k s q hget).2
          have hdr : L.drop k = (s, q) :: L.drop (k + 1) := by rw [drop_at hlt, ht]
          have hpv : prv L (k + 1) = some (s, q) := by rw [prv_succ hlt, ht]
          rw [hdr] at hrun hrem
          have hgl := Nat.lt_of_lt_of_le hg hbel.size
          have hws := hbel.size
          obtain ⟨G, cp, rfl, hGw, hGl⟩ := hown.form (by omega)
          have cT : wr.cell? ⟨G, R.length, none⟩ = some (.int .i64 x) := (hown.cellAt R.length (by omega)).trans (stc_top x R)
          have ho2 := hown.alloc (.cells #[.string s, .int .i64 q] 31)
          have hB2 := hbel.alloc hbel.size (.cells #[.string s, .int .i64 q] 31)
          rcases run_inv hrun with ⟨hr, hcn, hrun2⟩ | ⟨hr, he, d', hd', hrun2⟩ | ⟨hr, he, hrun2⟩
          · have er : (s.toList == [114, 101, 112, 101, 97, 116]) = true := hr
            have ee : (s.toList == [101, 110, 100]) = false := (rep_name hr).2
            cases k with
            | zero => simp [prv, cntB] at hcn
            | succ j =>
              have hj : j < L.length := by omega
              obtain ⟨u, hu⟩ : ∃ u, L[j] = u := ⟨_, rfl⟩
              obtain ⟨s2, q2⟩ := u
              have hget2 : L[j]? = some (s2, q2) := by rw [List.getElem?_eq_getElem hj, hu]
              have p1 : wr.cell? ⟨g, o + j * 2 + 1, none⟩ = some (.int .i64 q2) := (hbel.cell (p := ⟨g, _, none⟩) hg).trans (HC.out j s2 q2 hget2).2
              have hpj : prv L (j + 1) = some (s2, q2) := by rw [prv_succ hj, hu]
              have j0 : (0 : Int) ≤ (j : Int) := by omega
              have j1 : (j : Int) < (L.length : Int) := by omega
              rw [hpj] at hcn hrem
              simp only [cntB, Bool.and_eq_true, decide_eq_true_eq] at hcn
              obtain ⟨_, hq0, hq9⟩ := hcn
              have hp : (x * q2).natAbs ≤ 729 * 9 := by rw [Int.natAbs_mul]; exact Nat.mul_le_mul (by omega) (by omega)
              have hwr : IntKind.i64.wrap (x * q2) = x * q2 := by rw [IntKind.wrap_i64]; omega
              have r1 : -9223372036854775808 ≤ x * q2 := by omega
              have r2 : x * q2 ≤ 9223372036854775807 := by omega
              have hM4 := run_ge _ _ _ _ _ hrun2
              have hrem2 : (acc - x) + rem (x * q2 :: x :: R) (some (s, q)) (L.drop (j + 1 + 1)) = tot := by rw [← hrem, rem, if_neg (by simp [(rep_name hr).2]), if_pos hr]; simp only [pn]; omega
              have hBd2 := bd_push hBd hq0 hq9
              have ho3 := ((ho2.alloc (.cells #[.int .i64 (x * q2)] 3)).drew)
              have HX := Lib.hid (And.intro hBd2 (And.intro hrun2 (And.intro hrem2 (And.intro hpv hB2))))
              have HO := Lib.hid ho3
              clear hBd hBd2 hrun2 hrem2 hpv hB2 ho2 ho3 hown hrun hrem hr hget ht hdr hp hu hget2 hpj
              have hnews := World.news_of_block (w := ((wr.alloc (.cells #[.string s, .int .i64 q] 31)).alloc (.cells #[.int .i64 (x * q2)] 3)).drew) (cs := #[.int .i64 (x * q2)]) (t := 3) (fr := (0, 0)) (heap_alloc_new (wr.alloc (.cells #[.string s, .int .i64 q] 31)) _)
              simp only [World.size_alloc] at hnews
              have HN := Lib.hid hnews
              have jw : IntKind.i64.wrap (j : Int) = (j : Int) := by rw [IntKind.wrap_i64]; omega
              have rl0 : (0 : Int) ≤ (R.length : Int) := by omega
              have rl1 : (R.length : Int) < (R.length : Int) + 1 := by omega
              clear hnews
              go_wp2
              go_region_law (refine step_append_lies _ (by rfl) _ _ _ (by rfl) w.heap.size 3 i0 _ 1 8 Try.underlying41 hi0 hz0 hz1 hz2 rfl (by omega) _ (R.length + 1) _ (by rfl) HO.out ⟨wr.heap.size + 1, 0, none⟩ 1 1 [.int .i64 (x * q2)] (by rfl) (by rfl) HN.out (by simp [Value.oneCell']) (by omega) (by unfold maxLen; omega) (by omega) (by simp; omega) (wr.heap.size + 1 + 1) (by simp) ?_; intro gg cap2 w2 hown1 hgrow hat hgl2)
              all_goals
                have hB3 := (((HX.out.2.2.2.2.alloc (by simp; omega) (.cells #[.int .i64 (x * q2)] 3))).drew).grown hgrow (by simp; omega) (fun q hq => (HO.out.lt q hq).1)
                have H3 := Lib.hid (And.intro hown1 hB3)
                clear hown1 hgrow hat hgl2 hB3
                go_wp2
                go_roundw
                case rel => exact ⟨j + 1 + 1, max m (R.length + 1), x * q2, acc - x, x :: R, by omega, by go_num, rfl, by omega, by omega, by rw [stc_push]; exact H3.out.1, HX.out.1, by rw [HX.out.2.2.2.1]; exact HX.out.2.1, by simp; omega, by rw [HX.out.2.2.2.1]; exact HX.out.2.2.1, H3.out.2⟩
                case measure => simp [intOf]; omega
          · have er : (s.toList == [114, 101, 112, 101, 97, 116]) = false := hr
            have ee : (s.toList == [101, 110, 100]) = true := he
            cases R with
            | nil => simp at hd'
            | cons y R =>
              obtain rfl : R.length = d' := by simpa using hd'
              have hcut := owns_cut ho2 (k := R.length + 1) (by simp)
              rw [Nat.mul_one, stc_pop] at hcut
              have hcp : ((R.length + 1 : Nat) : Int) ≤ (cp : Int) := by
                rcases hown.2 with ⟨h', _⟩ | ⟨g', cap', cur, h', _, _, h5, _⟩
                · simp at h'
                · simp only [Value.slice.injEq, Option.some.injEq, Addr.mk.injEq, and_true, true_and] at h'
                  obtain ⟨rfl, rfl⟩ := h'
                  simp at h5; omega
              have hrem2 : acc + rem (y :: R) (some (s, q)) (L.drop (k + 1)) = tot := by rw [← hrem, rem, if_pos he]
              have HX := Lib.hid (And.intro hcut (And.intro hBd.2.2 (And.intro hrun2 (And.intro hrem2 (And.intro hpv hB2)))))
              simp only [List.length_cons] at cT hdm h3 ⊢
              clear hcut hBd hrun2 hrem2 hpv hB2 ho2 hown hrun hrem hr he hget ht hdr hd'
              go_wp2
              go_roundw
              case rel => exact ⟨k + 1, m, y, acc, R, by omega, by go_num, rfl, by omega, by omega, HX.out.1, HX.out.2.1, by rw [HX.out.2.2.2.2.1]; exact HX.out.2.2.1, by omega, by rw [HX.out.2.2.2.2.1]; exact HX.out.2.2.2.1, HX.out.2.2.2.2.2⟩
              case measure => simp [intOf]; omega
          · have er : (s.toList == [114, 101, 112, 101, 97, 116]) = false := hr
            have ee : (s.toList == [101, 110, 100]) = false := he
            have hrem2 : (acc + x) + rem (x :: R) (some (s, q)) (L.drop (k + 1)) = tot := by rw [← hrem, rem, if_neg (by simp [he]), if_neg (by simp [hr])]; omega
            have HX := Lib.hid (And.intro ho2 (And.intro hBd (And.intro hrun2 (And.intro hrem2 (And.intro hpv hB2)))))
            clear hBd hrun2 hrem2 hpv hB2 ho2 hown hrun hrem hr he hget ht hdr
            go_wp2
            go_roundw
            case rel => exact ⟨k + 1, m, x, acc + x, R, by omega, by go_num, by go_num, by omega, by omega, HX.out.1, HX.out.2.1, by rw [HX.out.2.2.2.2.1]; exact HX.out.2.2.1, by omega, by rw [HX.out.2.2.2.2.1]; exact HX.out.2.2.2.1, HX.out.2.2.2.2.2⟩
            case measure => simp [intOf]; omega
        · obtain rfl : k = L.length := by omega
          rw [List.drop_length] at hrem
          have he : acc = tot := by simp only [rem] at hrem; omega
          clear hrun hrem hown hBd
          subst he
          go_wp2
          go_ret
          exact ⟨rfl, hbel⟩
  · have hdec : decide (0 ≤ bdV L) = false := by simpa using h0
    clear h hS
    go_enter Try.func10, Try.ntmps10
    go_wp2_with fail
    ((with_reducible refine HD.out.mono ?_); rintro e w1 ⟨rfl, hb⟩)
    rw [hdec]
    go_wp2
    go_ret
    exact ⟨rfl, hb⟩

end Go.Proofs.Ytgfckdpkdjjmjaa.Impl
