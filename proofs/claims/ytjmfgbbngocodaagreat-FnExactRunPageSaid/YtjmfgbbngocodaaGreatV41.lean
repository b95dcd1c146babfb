/-
  Texts of this seat, laid together: LenImpl, RpImpl
-/
import Derived.Deep.AppendLies
import Derived.Deep.RegionLaw
import Derived.OwnWalk
import Derived.Laws.OwnMore
import Derived.Laws.BitsLemmas
import Derived.Laws.CopyOwn
import Derived.LoopTactic
import Derived.Deep.QuietTactic
import Derived.BigQuiet
import Derived.Deep.RegionHeld3
import Derived.Deep.DeepCutAuto
import Derived.Deep.RegionHeld
import Derived.Test.YtjmfgbbngocodaaGreatV12
import Derived.Test.YtjmfgbbngocodaaGreatV40
import Derived.Test.YtjmfgbbngocodaaGreatV01
namespace Go.Proofs.YtjmfgbbngocodaaGreat.Impl
open Go.ChangeShapes Go.WideShapes Go.ChangeAt Go.RowKit
open Kit Scan Slabs Blk NameImpl
set_option linter.unusedVariables false
set_option linter.unusedSimpArgs false
set_option linter.unnecessarySimpa false
set_option maxRecDepth 100000
theorem info_int3 : (Tryz.prog.info? 3).map (fun i => (i.zero, i.size, i.bytes)) = some (some (.int .i64 0), 1, 8) := by kernel_rfl
def pn : Option Tok → Int
  | none => 0
  | some t => t.2
def rem : List Int → Option Tok → List Tok → Int
  | _, _, [] => 0
  | [], _, _ :: _ => 0
  | x :: R, p, t :: r => if isEnd t = true then rem R (some t) r else if isRep t = true then -x + rem (x * pn p :: x :: R) (some t) r else x + rem (x :: R) (some t) r
theorem rem_prev {p q : Option Tok} {T : List Int} {l : List Tok} (h : ∀ u r, l = u :: r → isRep u = false) : rem T p l = rem T q l := by
  cases l with
  | nil => cases T <;> rfl
  | cons u r => cases T <;> simp [rem, h u r rfl]
theorem rpt_len (n : Nat) (f : List Tok) : (rpt n f).length = n * f.length := by simp [rpt]
theorem fl_rem {l f : List Tok} {d : Nat} (h : Fl l f d) : ∀ (p q : Option Tok) (x : Int) (R : List Int) (tail : List Tok), (∀ u r, tail = u :: r → isRep u = false) → rem (x :: R) p (l ++ tail) = x * (f.length : Int) + rem (x :: R) q tail := by
  induction h with
  | nil =>
    intro p q x R tail ht
    rw [List.nil_append, List.length_nil, rem_prev (p := p) (q := q) ht]
    simp
  | @tok t r f d hr he htk hnx _ ih =>
    intro p q x R tail ht
    rw [List.cons_append, rem, if_neg (by simp [he]), if_neg (by simp [hr]), ih (some t) q x R tail ht, List.length_cons]
    have : x * ((f.length + 1 : Nat) : Int) = x * (f.length : Int) + x := by rw [Int.natCast_add, Int.mul_add]; simp
    omega
  | @rep c p' e b f r g d k n h1 h2 h3 h4 h5 h6 h7 F1 F2 ih1 ih2 =>
    intro p q x R tail ht
    obtain ⟨hc1, hc2⟩ := num_name h1
    obtain ⟨hen, her⟩ := end_name h5
    have hpe := (rep_name h4).2
    have e1 : (c :: p' :: (b ++ e :: r)) ++ tail = c :: p' :: (b ++ (e :: (r ++ tail))) := by simp
    rw [e1, rem, if_neg (by simp [hc2]), if_neg (by simp [hc1]), rem, if_neg (by simp [hpe]), if_pos h4]
    rw [ih1 (some p') (some p') (x * pn (some c)) (x :: R) (e :: (r ++ tail)) (fun u q' e2 => by injection e2 with e3 _; rw [← e3]; exact her)]
    rw [rem, if_pos h5, ih2 (some e) q x R tail ht, List.length_append, rpt_len]
    have e2 : x * pn (some c) * (f.length : Int) = x * ((n * f.length : Nat) : Int) := by
      simp only [pn, h2]; rw [Int.natCast_mul, Int.mul_assoc]
    rw [e2, Int.natCast_add, Int.mul_add]
    omega
theorem rem_all {l f : List Tok} {d : Nat} (h : Fl l f d) : rem [1] none l = (f.length : Int) := by
  have := fl_rem h none none 1 [] [] (fun u r e => by cases e)
  rw [List.append_nil] at this
  rw [this]
  simp [rem]
def Bd : List Int → Prop
  | [] => True
  | x :: R => 0 ≤ x ∧ x ≤ 9 ^ R.length ∧ Bd R
theorem bd_top {x : Int} {R : List Int} (h : Bd (x :: R)) (hd : R.length ≤ 3) : 0 ≤ x ∧ x ≤ 729 := by
  refine ⟨h.1, Int.le_trans h.2.1 ?_⟩
  have h2 : (9 : Int) ^ R.length ≤ 9 ^ 3 := by
    have h3 : (9 : Nat) ^ R.length ≤ 9 ^ 3 := Nat.pow_le_pow_right (by omega) hd
    exact_mod_cast h3
  omega
theorem bd_push {x n : Int} {R : List Int} (h : Bd (x :: R)) (h0 : 0 ≤ n) (h9 : n ≤ 9) : Bd (x * n :: x :: R) := by
  refine ⟨Int.mul_nonneg h.1 h0, ?_, h⟩
  rw [List.length_cons, Int.pow_succ]
  calc x * n ≤ 9 ^ R.length * n := Int.mul_le_mul_of_nonneg_right h.2.1 h0
    _ ≤ 9 ^ R.length * 9 := Int.mul_le_mul_of_nonneg_left h9 (Int.pow_nonneg (by omega))
def stc (x : Int) (R : List Int) : List Value := R.reverse.map (Value.int .i64) ++ [.int .i64 x]
theorem stc_len (x : Int) (R : List Int) : (stc x R).length = R.length + 1 := by simp [stc]
theorem stc_top (x : Int) (R : List Int) : (stc x R)[R.length]? = some (.int .i64 x) := by
  simp [stc, List.getElem?_append]
theorem stc_push (x y : Int) (R : List Int) : stc y (x :: R) = stc x R ++ [.int .i64 y] := by simp [stc]
theorem stc_pop (x y : Int) (R : List Int) : (stc y (x :: R)).take (R.length + 1) = stc x R := by
  rw [stc_push, List.take_append_of_le_length (by rw [stc_len]; exact Nat.le_refl _), List.take_of_length_le (by rw [stc_len]; exact Nat.le_refl _)]
theorem owns_cut {w : World} {B : Nat} {T : TypeId} {c n cap k : Nat} {g : Nat} {xs : List Value} (h : w.ownsRow B T c (.slice (some ⟨g, 0, none⟩) n cap) n xs) (hk : k ≤ n) : w.ownsRow B T c (.slice (some ⟨g, 0, none⟩) k cap) k (xs.take (k * c)) := by
  have hkc : k * c ≤ n * c := Nat.mul_le_mul_right _ hk
  refine ⟨by rw [List.length_take, h.1]; omega, ?_⟩
  rcases h.2 with ⟨h', _⟩ | ⟨g', cap', cur, h', hb, hg, h1, h2, h3, h4⟩
  · simp at h'
  · simp only [Value.slice.injEq, Option.some.injEq, Addr.mk.injEq, and_true, true_and] at h'
    obtain ⟨rfl, rfl⟩ := h'
    refine .inr ⟨g, cap, cur, rfl, hb, hg, by omega, h2, h3, ?_⟩
    rw [← h4, List.take_take, Nat.min_eq_left hkc]
theorem run_inv {p : Option Tok} {d m M : Nat} {t : Tok} {r : List Tok} (h : run p d m (t :: r) = some M) :
    (isRep t = true ∧ cntB p = true ∧ run (some t) (d + 1) (max m (d + 1)) r = some M) ∨ (isRep t = false ∧ isEnd t = true ∧ ∃ d', d = d' + 1 ∧ run (some t) d' m r = some M) ∨ (isRep t = false ∧ isEnd t = false ∧ run (some t) d m r = some M) := by
  simp only [run] at h
  split at h
  · split at h
    · rename_i hr
      split at h
      · rename_i hc
        exact .inl ⟨hr, hc, h⟩
      · cases h
    · rename_i hr
      split at h
      · rename_i he
        split at h
        · cases h
        · rename_i hd
          exact .inr (.inl ⟨by simpa using hr, he, d - 1, by omega, h⟩)
      · rename_i he
        exact .inr (.inr ⟨by simpa using hr, by simpa using he, h⟩)
  · cases h
theorem bd_ok {L : List Tok} (h : 0 ≤ bdV L) : ∃ M, run none 0 0 L = some M ∧ M ≤ 3 ∧ L.length ≤ 60 := by
  unfold bdV at h
  split at h
  · rename_i hl
    cases hr : run none 0 0 L with
    | none => rw [hr] at h; simp at h
    | some M =>
      rw [hr] at h
      refine ⟨M, rfl, ?_, hl⟩
      by_cases h3 : M ≤ 3
      · exact h3
      · simp [h3] at h
  · omega
set_option maxHeartbeats 8000000 in
theorem len_impl (w : World) (v : Value) (L : List Tok) (hn : L.length ≤ 1048576) (hS : ∀ t ∈ L, t.1.size ≤ 281474976710656) (h : Rdt w v L) (x : Int) (hx : FlenIs L x) :
    Calls Tryz.prog 101 #[v] w fun e w' => e = .returned (.int .i64 x) ∧ Below w.heap.size w w' := by
  have HD := Lib.hid (ok_impl w v L hn hS h)
  rcases hx with ⟨h0, f, dd, F, hdd, h60, rfl⟩ | ⟨h0, rfl⟩
  · have hdec : decide (0 ≤ bdV L) = true := by simpa using h0
    obtain ⟨i0, hi0, hz0, hz1, hz2⟩ := info_parts info_int3
    have hall := rem_all F
    obtain ⟨M, hM, hM3, _⟩ := bd_ok h0
    obtain ⟨a, cap, rfl, hc, h⟩ := h
    rcases h with rfl | ⟨g, o, rfl, hg, hcs⟩
    · have hf : f = [] := by cases F; rfl
      subst hf
      simp only [List.length_nil] at HD
      clear F hall hM
      go_enter Tryz.func101, Tryz.ntmps101
      go_wp2_with (go_at_call 138; (with_reducible refine HD.out.mono ?_); rintro e w1 ⟨rfl, hb⟩; rw [hdec])
      go_rounds 1
      go_ret
      exact ⟨rfl, hb.alloc hb.size _⟩
    · have HC := Lib.hid hcs
      have HA := Lib.hid (And.intro hall hM)
      generalize (f.length : Int) = tot at *
      clear hcs hall hM hS F
      go_enter Tryz.func101, Tryz.ntmps101
      go_wp2_with (go_at_call 138; (with_reducible refine HD.out.mono ?_); rintro e w1 ⟨rfl, hb⟩; rw [hdec])
      have ho1 := World.ownsRow_lit (base := w.heap.size) (e := 3) (size := 1) w1 #[.int .i64 1] 1 hb.size (by decide) (by simp)
      have hB1 := hb.alloc hb.size (.cells #[.int .i64 1] 3)
      go_loopw [3, 4, 14] (fun v3 v4 v14 wr => ∃ (k m : Nat) (x acc : Int) (R : List Int), k ≤ L.length ∧ v14 = .int .i64 (k : Int) ∧ v3 = .int .i64 acc ∧ -729 * (k : Int) ≤ acc ∧ acc ≤ 729 * (k : Int) ∧ wr.ownsRow w.heap.size 3 1 v4 (R.length + 1) (stc x R) ∧ Bd (x :: R) ∧ run (prv L k) R.length m (L.drop k) = some M ∧ R.length ≤ m ∧ acc + rem (x :: R) (prv L k) (L.drop k) = tot ∧ Below w.heap.size w wr) (fun _ _ v14 _ => L.length - (intOf v14).toNat)
      case atStart => exact ⟨0, 0, 1, 0, [], Nat.zero_le _, rfl, rfl, by omega, by omega, ho1, ⟨by omega, by simp, trivial⟩, HA.out.2, Nat.le_refl _, by rw [List.drop_zero]; have := HA.out.1; show (0 : Int) + rem [1] none L = tot; omega, hB1⟩
      case round =>
        obtain ⟨k, m, x, acc, R, hk, rfl, rfl, ha1, ha2, hown, hBd, hrun, hdm, hrem, hbel⟩ := hrel
        have h3 : R.length ≤ 3 := Nat.le_trans hdm (Nat.le_trans (run_ge _ _ _ _ _ hrun) hM3)
        obtain ⟨hx0, hx9⟩ := bd_top hBd h3
        by_cases hlt : k < L.length
        · have k0 : (0 : Int) ≤ (k : Int) := by omega
          have k1 : (k : Int) < (L.length : Int) := by omega
          obtain ⟨t, ht⟩ : ∃ t, L[k] = t := ⟨_, rfl⟩
          obtain ⟨s, q⟩ := t
          have hget : L[k]? = some (s, q) := by rw [List.getElem?_eq_getElem hlt, ht]
          have c0 : wr.cell? ⟨g, o + k * 2, none⟩ = some (.string s) := (hbel.cell (p := ⟨g, _, none⟩) hg).trans (HC.out k s q hget).1
          have c1 : wr.cell? ⟨g, o + k * 2 + 1, none⟩ = some (.int .i64 q) := (hbel.cell (p := ⟨g, _, none⟩) hg).trans (HC.out k s q hget).2
          have hdr : L.drop k = (s, q) :: L.drop (k + 1) := by rw [drop_at hlt, ht]
          have hpv : prv L (k + 1) = some (s, q) := by rw [prv_succ hlt, ht]
          rw [hdr] at hrun hrem
          have hgl := Nat.lt_of_lt_of_le hg hbel.size
          have hws := hbel.size
          obtain ⟨G, cp, rfl, hGw, hGl⟩ := hown.form (by omega)
          have cT : wr.cell? ⟨G, R.length, none⟩ = some (.int .i64 x) := (hown.cellAt R.length (by omega)).trans (stc_top x R)
          have ho2 := hown.alloc (.cells #[.string s, .int .i64 q] 50)
          have hB2 := hbel.alloc hbel.size (.cells #[.string s, .int .i64 q] 50)
          rcases run_inv hrun with ⟨hr, hcn, hrun2⟩ | ⟨hr, he, d', hd', hrun2⟩ | ⟨hr, he, hrun2⟩
          · have er : (s.toList == [114, 101, 112, 101, 97, 116]) = true := hr
            have ee : (s.toList == [101, 110, 100]) = false := (rep_name hr).2
            cases k with
            | zero => simp [prv, cntB] at hcn
            | succ j =>
              have hj : j < L.length := by omega
              obtain ⟨u, hu⟩ : ∃ u, L[j] = u := ⟨_, rfl⟩
              obtain ⟨s2, q2⟩ := u
              have hget2 : L[j]? = some (s2, q2) := by rw [List.getElem?_eq_getElem hj, hu]
              have p1 : wr.cell? ⟨g, o + j * 2 + 1, none⟩ = some (.int .i64 q2) := (hbel.cell (p := ⟨g, _, none⟩) hg).trans (HC.out j s2 q2 hget2).2
              have hpj : prv L (j + 1) = some (s2, q2) := by rw [prv_succ hj, hu]
              have j0 : (0 : Int) ≤ (j : Int) := by omega
              have j1 : (j : Int) < (L.length : Int) := by omega
              rw [hpj] at hcn hrem
              simp only [cntB, Bool.and_eq_true, decide_eq_true_eq] at hcn
              obtain ⟨_, hq0, hq9⟩ := hcn
              have hp : (x * q2).natAbs ≤ 729 * 9 := by rw [Int.natAbs_mul]; exact Nat.mul_le_mul (by omega) (by omega)
              have hwr : IntKind.i64.wrap (x * q2) = x * q2 := by rw [IntKind.wrap_i64]; omega
              have r1 : -9223372036854775808 ≤ x * q2 := by omega
              have r2 : x * q2 ≤ 9223372036854775807 := by omega
              have hM4 := run_ge _ _ _ _ _ hrun2
              have hrem2 : (acc - x) + rem (x * q2 :: x :: R) (some (s, q)) (L.drop (j + 1 + 1)) = tot := by rw [← hrem, rem, if_neg (by simp [(rep_name hr).2]), if_pos hr]; simp only [pn]; omega
              have hBd2 := bd_push hBd hq0 hq9
              have ho3 := ((ho2.alloc (.cells #[.int .i64 (x * q2)] 3)).drew)
              have HX := Lib.hid (And.intro hBd2 (And.intro hrun2 (And.intro hrem2 (And.intro hpv hB2))))
              have HO := Lib.hid ho3
              clear hBd hBd2 hrun2 hrem2 hpv hB2 ho2 ho3 hown hrun hrem hr hget ht hdr hp hu hget2 hpj
              have hnews := World.news_of_block (w := ((wr.alloc (.cells #[.string s, .int .i64 q] 50)).alloc (.cells #[.int .i64 (x * q2)] 3)).drew) (cs := #[.int .i64 (x * q2)]) (t := 3) (fr := (0, 0)) (heap_alloc_new (wr.alloc (.cells #[.string s, .int .i64 q] 50)) _)
              simp only [World.size_alloc] at hnews
              have HN := Lib.hid hnews
              have jw : IntKind.i64.wrap (j : Int) = (j : Int) := by rw [IntKind.wrap_i64]; omega
              have rl0 : (0 : Int) ≤ (R.length : Int) := by omega
              have rl1 : (R.length : Int) < (R.length : Int) + 1 := by omega
              clear hnews
              go_wp2
              go_region_law (refine step_append_lies _ (by rfl) _ _ _ (by rfl) w.heap.size 3 i0 _ 1 8 Tryz.underlying22 hi0 hz0 hz1 hz2 rfl (by omega) _ (R.length + 1) _ (by rfl) HO.out ⟨wr.heap.size + 1, 0, none⟩ 1 1 [.int .i64 (x * q2)] (by rfl) (by rfl) HN.out (by simp [Value.oneCell']) (by omega) (by unfold maxLen; omega) (by omega) (by simp; omega) (wr.heap.size + 1 + 1) (by simp) ?_; intro gg cap2 w2 hown1 hgrow hat hgl2)
              all_goals
                have hB3 := (((HX.out.2.2.2.2.alloc (by simp; omega) (.cells #[.int .i64 (x * q2)] 3))).drew).grown hgrow (by simp; omega) (fun q hq => (HO.out.lt q hq).1)
                have H3 := Lib.hid (And.intro hown1 hB3)
                clear hown1 hgrow hat hgl2 hB3
                go_wp2
                go_roundw
                case rel => exact ⟨j + 1 + 1, max m (R.length + 1), x * q2, acc - x, x :: R, by omega, by go_num, rfl, by omega, by omega, by rw [stc_push]; exact H3.out.1, HX.out.1, by rw [HX.out.2.2.2.1]; exact HX.out.2.1, by simp; omega, by rw [HX.out.2.2.2.1]; exact HX.out.2.2.1, H3.out.2⟩
                case measure => simp [intOf]; omega
          · have er : (s.toList == [114, 101, 112, 101, 97, 116]) = false := hr
            have ee : (s.toList == [101, 110, 100]) = true := he
            cases R with
            | nil => simp at hd'
            | cons y R =>
              obtain rfl : R.length = d' := by simpa using hd'
              have hcut := owns_cut ho2 (k := R.length + 1) (by simp)
              rw [Nat.mul_one, stc_pop] at hcut
              have hcp : ((R.length + 1 : Nat) : Int) ≤ (cp : Int) := by
                rcases hown.2 with ⟨h', _⟩ | ⟨g', cap', cur, h', _, _, h5, _⟩
                · simp at h'
                · simp only [Value.slice.injEq, Option.some.injEq, Addr.mk.injEq, and_true, true_and] at h'
                  obtain ⟨rfl, rfl⟩ := h'
                  simp at h5; omega
              have hrem2 : acc + rem (y :: R) (some (s, q)) (L.drop (k + 1)) = tot := by rw [← hrem, rem, if_pos he]
              have HX := Lib.hid (And.intro hcut (And.intro hBd.2.2 (And.intro hrun2 (And.intro hrem2 (And.intro hpv hB2)))))
              simp only [List.length_cons] at cT hdm h3 ⊢
              clear hcut hBd hrun2 hrem2 hpv hB2 ho2 hown hrun hrem hr he hget ht hdr hd'
              go_wp2
              go_roundw
              case rel => exact ⟨k + 1, m, y, acc, R, by omega, by go_num, rfl, by omega, by omega, HX.out.1, HX.out.2.1, by rw [HX.out.2.2.2.2.1]; exact HX.out.2.2.1, by omega, by rw [HX.out.2.2.2.2.1]; exact HX.out.2.2.2.1, HX.out.2.2.2.2.2⟩
              case measure => simp [intOf]; omega
          · have er : (s.toList == [114, 101, 112, 101, 97, 116]) = false := hr
            have ee : (s.toList == [101, 110, 100]) = false := he
            have hrem2 : (acc + x) + rem (x :: R) (some (s, q)) (L.drop (k + 1)) = tot := by rw [← hrem, rem, if_neg (by simp [he]), if_neg (by simp [hr])]; omega
            have HX := Lib.hid (And.intro ho2 (And.intro hBd (And.intro hrun2 (And.intro hrem2 (And.intro hpv hB2)))))
            clear hBd hrun2 hrem2 hpv hB2 ho2 hown hrun hrem hr he hget ht hdr
            go_wp2
            go_roundw
            case rel => exact ⟨k + 1, m, x, acc + x, R, by omega, by go_num, by go_num, by omega, by omega, HX.out.1, HX.out.2.1, by rw [HX.out.2.2.2.2.1]; exact HX.out.2.2.1, by omega, by rw [HX.out.2.2.2.2.1]; exact HX.out.2.2.2.1, HX.out.2.2.2.2.2⟩
            case measure => simp [intOf]; omega
        · obtain rfl : k = L.length := by omega
          rw [List.drop_length] at hrem
          have he : acc = tot := by simp only [rem] at hrem; omega
          clear hrun hrem hown hBd
          subst he
          go_wp2
          go_ret
          exact ⟨rfl, hbel⟩
  · have hdec : decide (0 ≤ bdV L) = false := by simpa using h0
    clear h hS
    go_enter Tryz.func101, Tryz.ntmps101
    go_wp2_with fail
    ((with_reducible refine HD.out.mono ?_); rintro e w1 ⟨rfl, hb⟩)
    rw [hdec]
    go_wp2
    go_ret
    exact ⟨rfl, hb⟩
end Go.Proofs.YtjmfgbbngocodaaGreat.Impl

namespace Go.Proofs.YtjmfgbbngocodaaGreat.Impl
open Go.ChangeShapes Go.WideShapes Go.ChangeAt Go.RowKit
open Kit Scan Slabs Blk NameImpl
set_option linter.unusedVariables false
set_option linter.unusedSimpArgs false
set_option linter.unnecessarySimpa false
set_option maxRecDepth 100000
/-! ### copy at elements of k cells -/
theorem run_copy_k {P : Program} (w : World) (dT sT ty elem : TypeId) (k g o dLen dCap : Nat) (a : Addr) (sLen sCap m : Nat) (cur : List Value) (t : TypeId) (cs : List Value)
    (hu : P.underlying dT = some (.slice elem)) (hs : (P.info? elem).map (·.size) = some k)
    (hg : w.heap[g]? = some (.cells cur.toArray t (0, 0))) (hm : Nat.min sLen dLen = m) (hn : cs.length = m * k)
    (hsrc : ∀ j v, cs[j]? = some v → w.cell? (a.add j) = some v) (hfit : o + cs.length ≤ cur.length) (h1 : ∀ v ∈ cs, v.oneCell' = true) :
    (Builtin.copy_ #[dT, sT] ty #[.slice (some ⟨g, o, none⟩) dLen dCap, .slice (some a) sLen sCap]).run P w = .ok (goInt m) (w.setRow g (splice cur o cs).toArray) := by
  have hl := run_loadCells_list (P := P) w a cs hsrc
  have hst := run_storeCells_at P g o t cs 0 cur.toArray w hg (by simpa using hfit) h1
  cases hq : P.info? elem with
  | none => simp [hq] at hs
  | some i =>
    have hi : i.size = k := by simpa [hq] using hs
    rw [hn] at hl
    simp [Builtin.copy_, run_underlying hu, Builtin.lenOf, Builtin.firstCells, sizeOf, typeInfo, hq, hi, hm, hl, hst, splice, List.append_assoc]
theorem run_copy_zero {P : Program} (w : World) (dT sT ty elem : TypeId) (k dLen dCap sLen sCap : Nat) (dp sp : Option Addr)
    (hu : P.underlying dT = some (.slice elem)) (hs : (P.info? elem).map (·.size) = some k) (hm : Nat.min sLen dLen = 0) :
    (Builtin.copy_ #[dT, sT] ty #[.slice dp dLen dCap, .slice sp sLen sCap]).run P w = .ok (goInt 0) w := by
  cases hq : P.info? elem with
  | none => simp [hq] at hs
  | some i =>
    cases dp <;> cases sp <;> simp [Builtin.copy_, run_underlying hu, Builtin.lenOf, Builtin.firstCells, sizeOf, typeInfo, hq, hm, loadCells, loadCellsFrom, storeCells]
theorem copy_k_wp {P : Program} {w : World} {o : Oper} {a : Act} {K : Act → World → Prop} {Q : Exit → Act → World → Prop} (d s : Operand) (dT sT : TypeId)
    (ho : o.op = .call { callee := .builtin .copy, args := #[d, s], argTypes := #[dT, sT] }) (elem : TypeId) (k : Nat) (hu : P.underlying dT = some (.slice elem)) (hsz : (P.info? elem).map (·.size) = some k)
    (dp sp : Option Addr) (dLen dCap sLen sCap : Nat) (hd : a.eval d = .slice dp dLen dCap) (hs : a.eval s = .slice sp sLen sCap) (m : Nat) (hm : Nat.min sLen dLen = m)
    (g off : Nat) (cur : List Value) (t : TypeId) (hg : w.heap[g]? = some (.cells cur.toArray t (0, 0))) (cs : List Value) (hn : cs.length = m * k)
    (hpos : 0 < m → dp = some ⟨g, off, none⟩ ∧ ∃ ad, sp = some ad ∧ ∀ j v, cs[j]? = some v → w.cell? (ad.add j) = some v)
    (hfit : off + cs.length ≤ cur.length) (h1 : ∀ v ∈ cs, v.oneCell' = true) (B : Nat) (w0 : World) (hb : Below B w0 w) (hBg : B ≤ g)
    (h : ∀ w', Hid (w'.heap[g]? = some (.cells (splice cur off cs).toArray t (0, 0))) → Below B w0 w' → K (a.put o.dst (goInt m)) w') :
    Oper.wp P o a w K Q := by
  by_cases h0 : m = 0
  · subst h0
    obtain rfl : cs = [] := List.eq_nil_of_length_eq_zero (by rw [hn]; simp)
    have hrun := run_copy_zero (P := P) w dT sT o.type elem k dLen dCap sLen sCap dp sp hu hsz hm
    unfold Oper.wp
    simp [execOp, ho, resolve, invoke, builtin, hd, hs, hrun, Result.andThen]
    exact h w (Lib.hid (by simpa [splice] using hg)) hb
  · obtain ⟨rfl, ad, rfl, hsrc⟩ := hpos (by omega)
    have hrun := run_copy_k (P := P) w dT sT o.type elem k g off dLen dCap ad sLen sCap m cur t cs hu hsz hg hm hn hsrc hfit h1
    unfold Oper.wp
    simp [execOp, ho, resolve, invoke, builtin, hd, hs, hrun, Result.andThen]
    exact h _ (Lib.hid (setRow_heap w g _ _ t _ hg)) (below_setRow hb hBg _)
theorem copy_k_list {P : Program} {w : World} {ops : Array Oper} {rest : List Oper} {o : Oper} {a : Act} {Q : Exit → Act → World → Prop} (hgd : o.guard = none) (d s : Operand) (dT sT : TypeId)
    (ho : o.op = .call { callee := .builtin .copy, args := #[d, s], argTypes := #[dT, sT] }) (elem : TypeId) (k : Nat) (hu : P.underlying dT = some (.slice elem)) (hsz : (P.info? elem).map (·.size) = some k)
    (dp sp : Option Addr) (dLen dCap sLen sCap : Nat) (hd : a.eval d = .slice dp dLen dCap) (hs : a.eval s = .slice sp sLen sCap) (m : Nat) (hm : Nat.min sLen dLen = m)
    (g off : Nat) (cur : List Value) (t : TypeId) (hg : w.heap[g]? = some (.cells cur.toArray t (0, 0))) (cs : List Value) (hn : cs.length = m * k)
    (hpos : 0 < m → dp = some ⟨g, off, none⟩ ∧ ∃ ad, sp = some ad ∧ ∀ j v, cs[j]? = some v → w.cell? (ad.add j) = some v)
    (hfit : off + cs.length ≤ cur.length) (h1 : ∀ v ∈ cs, v.oneCell' = true) (B : Nat) (w0 : World) (hb : Below B w0 w) (hBg : B ≤ g)
    (h : ∀ w', Hid (w'.heap[g]? = some (.cells (splice cur off cs).toArray t (0, 0))) → Below B w0 w' → wpList P ops Q rest (a.put o.dst (goInt m)) w') :
    wpList P ops Q (o :: rest) a w := by
  refine wpList_plain hgd fun K hK => ?_
  exact copy_k_wp d s dT sT ho elem k hu hsz dp sp dLen dCap sLen sCap hd hs m hm g off cur t hg cs hn hpos hfit h1 B w0 hb hBg (fun w' h1 h2 => hK _ _ (h w' h1 h2))
theorem copy_k_step {P : Program} {ops : Array Oper} {w : World} {o : Oper} {a : Act} {K : Act → World → Prop} {Q : Exit → Act → World → Prop} {E : Prop} (hgd : o.guard = none) (d s : Operand) (dT sT : TypeId)
    (ho : o.op = .call { callee := .builtin .copy, args := #[d, s], argTypes := #[dT, sT] }) (elem : TypeId) (k : Nat) (hu : P.underlying dT = some (.slice elem)) (hsz : (P.info? elem).map (·.size) = some k)
    (dp sp : Option Addr) (dLen dCap sLen sCap : Nat) (hd : a.eval d = .slice dp dLen dCap) (hs : a.eval s = .slice sp sLen sCap) (m : Nat) (hm : Nat.min sLen dLen = m)
    (g off : Nat) (cur : List Value) (t : TypeId) (hg : w.heap[g]? = some (.cells cur.toArray t (0, 0))) (cs : List Value) (hn : cs.length = m * k)
    (hpos : 0 < m → dp = some ⟨g, off, none⟩ ∧ ∃ ad, sp = some ad ∧ ∀ j v, cs[j]? = some v → w.cell? (ad.add j) = some v)
    (hfit : off + cs.length ≤ cur.length) (h1 : ∀ v ∈ cs, v.oneCell' = true) (B : Nat) (w0 : World) (hb : Below B w0 w) (hBg : B ≤ g)
    (h : ∀ w', Hid (w'.heap[g]? = some (.cells (splice cur off cs).toArray t (0, 0))) → Below B w0 w' → K (a.put o.dst (goInt m)) w') :
    if Region.wanted o (yielded ops a.tmps) = true then Oper.wp P o a w K Q else E := by
  have hw : Region.wanted o (yielded ops a.tmps) = true := by simp [Region.wanted, hgd]
  rw [if_pos hw]
  exact copy_k_wp d s dT sT ho elem k hu hsz dp sp dLen dCap sLen sCap hd hs m hm g off cur t hg cs hn hpos hfit h1 B w0 hb hBg h
/-! ### Cells repeated -/
theorem rep_at {α : Type} (l : List α) (hl : 0 < l.length) : ∀ (n j : Nat), j < n * l.length → (List.replicate n l).flatten[j]? = l[j % l.length]? := by
  intro n
  induction n with
  | zero => intro j h; simp at h
  | succ n ih =>
    intro j h
    rw [List.replicate_succ, List.flatten_cons]
    by_cases hj : j < l.length
    · rw [List.getElem?_append_left hj, Nat.mod_eq_of_lt hj]
    · rw [List.getElem?_append_right (by omega), ih (j - l.length) (by rw [Nat.succ_mul] at h; omega), ← Nat.mod_eq_sub_mod (by omega)]
theorem cells_rpt (n : Nat) (f : List Tok) : cellsL (rpt n f) = (List.replicate n (cellsL f)).flatten := by
  induction n with
  | zero => rfl
  | succ n ih =>
    rw [List.replicate_succ, List.flatten_cons, ← ih, ← cellsL_append]
    simp [rpt, List.replicate_succ]
theorem rep_shift {f : List Tok} {n q j : Nat} (h1 : f.length * q * 2 ≤ j) (h2 : j < n * f.length * 2) : (cellsL (rpt n f))[j]? = (cellsL (rpt n f))[j - f.length * q * 2]? := by
  have hp : (cellsL f).length = f.length * 2 := cellsL_len f
  have hn : n * f.length * 2 = n * (cellsL f).length := by rw [hp, Nat.mul_assoc]
  have hpos : 0 < (cellsL f).length := by
    rcases Nat.eq_zero_or_pos (cellsL f).length with h | h
    · rw [hn, h] at h2; omega
    · exact h
  rw [cells_rpt, rep_at _ hpos n j (by omega), rep_at _ hpos n _ (by omega)]
  have e : f.length * q * 2 = (cellsL f).length * q := by rw [hp, Nat.mul_right_comm]
  rw [e, Nat.sub_mul_mod (by rw [← e]; exact h1)]
theorem rep_first {f : List Tok} {n j : Nat} (hn : 0 < n) (h : j < f.length * 2) : (cellsL (rpt n f))[j]? = (cellsL f)[j]? := by
  obtain ⟨m, rfl⟩ : ∃ m, n = m + 1 := ⟨n - 1, by omega⟩
  rw [cells_rpt, List.replicate_succ, List.flatten_cons, List.getElem?_append_left (by rw [cellsL_len]; exact h)]
theorem rep_len (n : Nat) (f : List Tok) : (cellsL (rpt n f)).length = n * f.length * 2 := by rw [cellsL_len, rpt_len]
theorem sclone_impl (s : ByteArray) (w : World) (hs : s.size ≤ 281474976710656) : Calls Tryz.prog 140 #[.string s] w fun e w' => e = .returned (.string s) ∧ Below w.heap.size w w' := by
  go_enter Tryz.func140, Tryz.ntmps140
  go_wp2_with (go_at_call 161; (with_reducible refine (Tryz.stringslite_Clone _ _ hs).mono ?_); rintro e w1 ⟨rfl, hb⟩)
  go_ret
  exact ⟨rfl, hb⟩
set_option maxHeartbeats 1000000 in
theorem clone_impl (s : ByteArray) (n : Int) (w : World) (hs : s.size ≤ 281474976710656) : Calls Tryz.prog 104 #[.agg #[.string s, .int .i64 n]] w fun e w' => e = .returned (.agg #[.string s, .int .i64 n]) ∧ Below w.heap.size w w' := by
  go_enter Tryz.func104, Tryz.ntmps104
  go_wp2
  go_region_with (first | (go_at_call 140; (with_reducible refine (sclone_impl _ _ hs).mono ?_); rintro e w' ⟨rfl, hb⟩; have hB := on_of (W := w) (by go_grown) hb; have p0 := (bcell hb).1 w.heap.size 0 (by simp; omega); have p1 := (bcell hb).1 w.heap.size 1 (by simp; omega); have r0 := (bcell hb).1 (w.heap.size + 1) 0 (by simp); have r1 := (bcell hb).1 (w.heap.size + 1) 1 (by simp); have f0 := (bcell hb).2 (w.heap.size + 1) 0 (by simp); have f1 := (bcell hb).2 (w.heap.size + 1) 1 (by simp); simp [go_sem] at p0 p1 r0 r1 f0 f1; have hsz := hb.size; simp at hsz; clear hb))
  all_goals
    go_wp2
    refine bodyPost_ret (by simp [results, Tryz.results104, go_sem, *]; try rfl) rfl ?_
    exact ⟨rfl, by go_grown⟩
set_option maxHeartbeats 4000000 in
theorem repeat_impl (w : World) (B : Nat) (v : Value) (f : List Tok) (n : Nat) (hn : n ≤ 9) (hf : f.length ≤ 43740) (h : w.ownsRow B 50 2 v f.length (cellsL f)) :
    Calls Tryz.prog 103 #[v, .int .i64 (n : Int)] w fun e w' => ∃ g cap, e = .returned (.slice (some ⟨g, 0, none⟩) (n * f.length) cap) ∧ w'.ownsRow w.heap.size 50 2 (.slice (some ⟨g, 0, none⟩) (n * f.length) cap) (n * f.length) (cellsL (rpt n f)) ∧ Below w.heap.size w w' := by
  obtain ⟨i0, hi0, hz0, hz1, hz2⟩ := info_parts info_tk
  have hN : n * f.length ≤ 9 * 43740 := Nat.mul_le_mul hn hf
  obtain ⟨N, hNe⟩ : ∃ N, n * f.length = N := ⟨_, rfl⟩
  rw [hNe] at hN ⊢
  have hdiv : f.length * n / 18446744073709551616 = 0 := by rw [Nat.mul_comm, hNe]; omega
  have hmod : f.length * n % 18446744073709551616 = N := by rw [Nat.mul_comm, hNe]; omega
  have hu1 : IntKind.u64.wrap (f.length : Int) = (f.length : Int) := by simp [IntKind.wrap, IntKind.signed, IntKind.bits]; omega
  have hu2 : IntKind.u64.wrap (n : Int) = (n : Int) := by simp [IntKind.wrap, IntKind.signed, IntKind.bits]; omega
  have hu3 : IntKind.i64.wrap (N : Int) = (N : Int) := by rw [IntKind.wrap_i64]; omega
  have hmk : ∀ W : World, (Instr.makeSlice 59 (.int .i64 (N : Int)) (.int .i64 (N : Int))).run Tryz.prog W = .ok (.slice (some ⟨W.heap.size, 0, none⟩) N N) (W.alloc (.cells (madeCells (Value.agg #[.string ⟨#[]⟩, .int .i64 0]).cells (N * i0.size)) 50)) := fun W =>
    run_make_rowN 59 50 i0 _ Tryz.underlying59 hi0 hz0 .i64 .i64 N N (Nat.le_refl _) (by rw [hz2]; omega) (by omega) W
  obtain ⟨Z0, hZ0⟩ : ∃ Z0 : List Value, madeCells (Value.agg #[.string ⟨#[]⟩, .int .i64 0]).cells (N * i0.size) = Z0.toArray := ⟨(madeCells (Value.agg #[.string ⟨#[]⟩, .int .i64 0]).cells (N * i0.size)).toList, by simp⟩
  have hZl : Z0.length = N * 2 := by have := size_madeCells (Value.agg #[.string ⟨#[]⟩, .int .i64 0]).cells (N * i0.size); rw [hZ0, hz1] at this; simpa using this
  rw [hZ0] at hmk
  have HO := Lib.hid h
  clear h hZ0
  obtain ⟨cp, sp, rfl⟩ : ∃ cp sp, v = .slice sp f.length cp := by
    rcases HO.out.2 with ⟨h1, h2⟩ | ⟨g, cap, cur, h1, _⟩
    · exact ⟨0, none, by rw [h1, h2]⟩
    · exact ⟨cap, _, h1⟩
  have hdn : decide ((n : Int) < 0) = false := by simp
  have hdN : decide ((9223372036854775807 : Int) < (N : Int)) = false := by simp; omega
  have hi2 : (Tryz.prog.info? 50).map (·.size) = some 2 := by rw [hi0]; simp [hz1]
  obtain ⟨m0, hm0⟩ : ∃ m0, Nat.min f.length N = m0 := ⟨_, rfl⟩
  have hm1 : (n = 0 ∧ N = 0 ∧ m0 = 0) ∨ (0 < n ∧ m0 = f.length ∧ f.length ≤ N) := by
    rcases Nat.eq_zero_or_pos n with h | h
    · subst h
      have : N = 0 := by simpa using hNe.symm
      subst this
      exact .inl ⟨rfl, rfl, hm0.symm.trans (Nat.min_zero _)⟩
    · have h2 : f.length ≤ N := by rw [← hNe]; exact Nat.le_mul_of_pos_left _ h
      exact .inr ⟨h, hm0.symm.trans (Nat.min_eq_left h2), h2⟩
  have hm0N : m0 ≤ N := by rcases hm1 with ⟨_, h1, h2⟩ | ⟨_, h1, h2⟩ <;> omega
  have hm0f : m0 ≤ f.length := by rcases hm1 with ⟨_, h1, h2⟩ | ⟨_, h1, h2⟩ <;> omega
  have hm0q : ∃ q, m0 = f.length * q := by
    rcases hm1 with ⟨_, h1, h2⟩ | ⟨_, h1, h2⟩
    · exact ⟨0, by simpa using h2⟩
    · exact ⟨1, by simpa using h1⟩
  have hm0p : 0 < N → 0 < m0 := by
    intro h
    rcases hm1 with ⟨_, h1, h2⟩ | ⟨_, h1, h2⟩
    · omega
    · rcases Nat.eq_zero_or_pos f.length with h3 | h3
      · rw [h3] at hNe; omega
      · omega
  obtain ⟨cs, hcs⟩ : ∃ cs, (cellsL f).take (m0 * 2) = cs := ⟨_, rfl⟩
  have hcl : cs.length = m0 * 2 := by rw [← hcs, List.length_take, cellsL_len]; omega
  have hc1 : ∀ u ∈ cs, u.oneCell' = true := fun u hu => cellsL_one f u (by rw [← hcs] at hu; exact List.mem_of_mem_take hu)
  have hpos : ∀ W : World, W.ownsRow B 50 2 (.slice sp f.length cp) f.length (cellsL f) → 0 < m0 → ∃ ad, sp = some ad ∧ ∀ j u, cs[j]? = some u → W.cell? (ad.add j) = some u := by
    intro W hW hm
    rcases hW.2 with ⟨h1, h2⟩ | ⟨g, cap, cur, h1, _⟩
    · omega
    · injection h1 with h1
      refine ⟨_, h1, fun j u hu => ?_⟩
      subst h1
      have hj : j < m0 * 2 := by have := (List.getElem?_eq_some_iff.1 hu).1; omega
      rw [← hcs, List.getElem?_take, if_pos hj] at hu
      exact hW.cells (g := g) rfl j u hu
  have hstart : ∀ j, j < m0 * 2 → (splice Z0 0 cs)[j]? = (cellsL (rpt n f))[j]? := by
    intro j hj
    rcases hm1 with ⟨_, h1, h2⟩ | ⟨h0, h1, h2⟩
    · omega
    · rw [rep_first h0 (by omega)]
      simp only [splice, List.take_zero, List.nil_append]
      rw [List.getElem?_append_left (by omega), ← hcs, List.getElem?_take, if_pos hj]
  have hstl : (splice Z0 0 cs).length = N * 2 := by rw [length_splice _ _ _ (by omega), hZl]
  have HS := Lib.hid (And.intro hstart (And.intro hstl (And.intro hm0q hm1)))
  have HP := Lib.hid hpos
  have hNZ : (cellsL (rpt n f)).length = N * 2 := by rw [rep_len, hNe]
  have hsh : ∀ q j, f.length * q * 2 ≤ j → j < N * 2 → (cellsL (rpt n f))[j]? = (cellsL (rpt n f))[j - f.length * q * 2]? := fun q j h1 h2 => rep_shift h1 (by rw [hNe]; exact h2)
  have hz1c : ∀ u ∈ cellsL (rpt n f), u.oneCell' = true := cellsL_one _
  obtain ⟨Z, hZ⟩ : ∃ Z, cellsL (rpt n f) = Z := ⟨_, rfl⟩
  rw [hZ] at hNZ hsh hz1c ⊢
  have HZ := Lib.hid (And.intro hZ (And.intro hsh hz1c))
  clear hstart hpos hm1 hm0q hcs hsh hZ hz1c hNe hstl
  go_enter Tryz.func103, Tryz.ntmps103
  go_wp2_with (first
    | (go_at_call 139; (with_reducible refine (Tryz.bits_Mul f.length n (by omega) (by omega) _).mono ?_); rintro e w1 ⟨rfl, rfl⟩; rw [hdiv, hmod])
    | (refine copy_k_list rfl (.tmp 31) (.tmp 32) _ _ rfl 50 2 Tryz.underlying59 hi2 _ sp N N f.length cp rfl rfl m0 hm0 _ 0 Z0 50 (heap_alloc_new _ _) cs hcl (fun h => ⟨rfl, HP.out _ (HO.out.alloc _) h⟩) (by omega) hc1 _ _ ((Below.refl _ _).alloc (Nat.le_refl _) _) (Nat.le_refl _) ?_; intro w2 HG hB2))
  have hG2 : w1.heap.size < w2.heap.size := (Array.getElem?_eq_some_iff.1 HG.out).1
  go_loopw [8] (fun v8 wr => ∃ (m : Nat) (cur : List Value), v8 = .int .i64 (m : Int) ∧ m ≤ N ∧ ((∃ q, m = f.length * q) ∨ m = N) ∧ (0 < N → 0 < m) ∧ wr.heap[w1.heap.size]? = some (.cells cur.toArray 50 (0, 0)) ∧ cur.length = N * 2 ∧ (∀ j, j < m * 2 → cur[j]? = Z[j]?) ∧ Below w1.heap.size w1 wr) (fun v8 _ => N - (intOf v8).toNat)
  case atStart => exact ⟨m0, _, rfl, hm0N, .inl HS.out.2.2.1, hm0p, HG.out, HS.out.2.1, fun j hj => by rw [← HZ.out.1]; exact HS.out.1 j hj, hB2⟩
  case round =>
    obtain ⟨m, cur, rfl, hmN, hq, hp0, hcur, hcl2, hag, hbel⟩ := hrel
    have HA := Lib.hid (And.intro hag (And.intro hcur (And.intro hq hp0)))
    clear hag hcur hq hp0
    by_cases hlt : m < N
    · have hNm : ¬ (N = m) := by omega
      have k0 : (0 : Int) ≤ (m : Int) := by omega
      have k1 : (m : Int) ≤ (N : Int) := by omega
      have k2 : (m : Int) < (N : Int) := by omega
      obtain ⟨c, hc⟩ : ∃ c, Nat.min m (N - m) = c := ⟨_, rfl⟩
      have hcm : c ≤ m := by rw [← hc]; exact Nat.min_le_left _ _
      have hcN : c ≤ N - m := by rw [← hc]; exact Nat.min_le_right _ _
      have hcc : c = m ∨ c = N - m := by rw [← hc]; exact (Nat.le_total m (N - m)).imp Nat.min_eq_left Nat.min_eq_right
      obtain ⟨ds, hds⟩ : ∃ ds, cur.take (c * 2) = ds := ⟨_, rfl⟩
      have hdl : ds.length = c * 2 := by rw [← hds, List.length_take]; omega
      have hd1 : ∀ u ∈ ds, u.oneCell' = true := by
        intro u hu
        rw [← hds] at hu
        obtain ⟨j, hj⟩ := List.mem_iff_getElem?.1 hu
        rw [List.getElem?_take] at hj
        split at hj
        · rename_i hjc
          rw [HA.out.1 j (by omega)] at hj
          exact HZ.out.2.2 u (List.mem_of_getElem? hj)
        · cases hj
      have hsrc : ∀ j u, ds[j]? = some u → wr.drew.cell? ((⟨w1.heap.size, 0, none⟩ : Addr).add j) = some u := by
        intro j u hu
        refine World.news_of_block (w := wr.drew) (cs := cur.toArray) (t := 50) (fr := (0, 0)) HA.out.2.1 j u ?_
        rw [← hds, List.getElem?_take] at hu
        split at hu
        · simpa using hu
        · cases hu
      have hag2 : ∀ j, j < (m + c) * 2 → (splice cur (m * 2) ds)[j]? = Z[j]? := by
        intro j hj
        by_cases h1 : j < m * 2
        · simp only [splice]
          rw [List.getElem?_append_left (by rw [List.length_take]; omega), List.getElem?_take, if_pos h1]
          exact HA.out.1 j h1
        · simp only [splice]
          have e1 : (cur.take (m * 2)).length = m * 2 := by rw [List.length_take]; omega
          rw [List.getElem?_append_right (by omega), e1, List.getElem?_append_left (by omega), ← hds, List.getElem?_take, if_pos (by omega), HA.out.1 _ (by omega)]
          rcases HA.out.2.2.1 with ⟨q, hq⟩ | hq
          · rw [HZ.out.2.1 q j (by rw [← hq]; omega) (by omega), ← hq]
          · omega
      have hlen2 : (splice cur (m * 2) ds).length = N * 2 := by rw [length_splice _ _ _ (by omega), hcl2]
      have hq2 : (∃ q, m + c = f.length * q) ∨ m + c = N := by
        rcases hcc with h | h
        · rcases HA.out.2.2.1 with ⟨q, hq⟩ | hq
          · exact .inl ⟨q + q, by rw [h, Nat.mul_add, ← hq]⟩
          · omega
        · exact .inr (by omega)
      have hcm2 : c = 0 → False := by
        intro h
        rcases hcc with h2 | h2
        · have := HA.out.2.2.2 (by omega); omega
        · omega
      have HR := Lib.hid (And.intro hag2 (And.intro hlen2 (And.intro hq2 hsrc)))
      clear hag2 hlen2 hq2 hsrc hds hcc
      have hwr : IntKind.i64.wrap ((m : Int) + (c : Int)) = (m : Int) + (c : Int) := by rw [IntKind.wrap_i64]; omega
      have hc0 : 0 < c := by rcases Nat.eq_zero_or_pos c with h | h; exact (hcm2 h).elim; exact h
      clear hcm2
      go_wp2
      go_region_law (refine copy_k_step rfl (.tmp 41) (.tmp 44) _ _ rfl 50 2 Tryz.underlying59 hi2 (some ⟨w1.heap.size, m * 2, none⟩) (some ⟨w1.heap.size, 0, none⟩) (N - m) (N - m) m N (by simp [Act.eval, Act.put]) (by simp [Act.eval, Act.put]) c hc w1.heap.size (m * 2) cur 50 HA.out.2.1 ds hdl (fun _ => ⟨rfl, _, rfl, HR.out.2.2.2⟩) (by omega) hd1 w1.heap.size w1 hbel.drew (Nat.le_refl _) ?_; intro w3 HG3 hB3)
      all_goals
        simp [Act.put]
        go_wp2
        go_roundw
        case rel => exact ⟨m + c, _, by go_num, by omega, HR.out.2.2.1, fun _ => by omega, HG3.out, HR.out.2.1, HR.out.1, hB3⟩
        case measure => simp [intOf]; omega
    · obtain rfl : m = N := by omega
      have hcz : cur = Z := by
        apply List.ext_getElem?
        intro j
        by_cases hj : j < m * 2
        · exact HA.out.1 j hj
        · rw [List.getElem?_eq_none (by omega), List.getElem?_eq_none (by omega)]
      have HB := Lib.hid (And.intro hbel HA.out.2.1)
      go_wp2
      go_ret
      exact ⟨_, _, rfl, ⟨hNZ, .inr ⟨w1.heap.size, m, cur.toArray, rfl, Nat.le_refl _, HB.out.2, Nat.le_refl _, by unfold maxLen; omega, by simp; omega, by rw [← hNZ, hcz]; simp⟩⟩, HB.out.1⟩
end Go.Proofs.YtjmfgbbngocodaaGreat.Impl

