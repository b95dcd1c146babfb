/-
  Texts of this seat, laid together: Dw11
-/
import Derived.Test.YtifmdgncgokikaaP34
import Derived.Test.YtifmdgncgokikaaP41
import Derived.Test.YtifmdgncgokikaaP33
namespace Go.Proofs.Ytifmdgncgokikaa.Own
open Go.ChangeShapes Go.WideShapes Go.ChangeAt Go.RowKit
open Kit Slabs Ints
open Draw (Drawn Draws IsRow Within below_on once_on pickP_on new_any)
set_option linter.unusedVariables false
set_option linter.unusedSimpArgs false
set_option linter.unnecessarySimpa false
set_option maxRecDepth 100000
def Ap0 (n0 : Nat) (wr : World) (a : Option Addr) (n c : Nat) (R : List (List Int)) : Prop := R.length = n ∧ ∃ P fq, wr.ownsRow n0 32 1 (.slice a n c) n P ∧ OwnL wr (List.replicate n (.sl .int)) P (dR R) fq ∧ fq.Nodup ∧ (∀ b ∈ fq, n0 ≤ b ∧ b ∉ rowL (.slice a n c))
theorem Ap0.start (w : World) : Ap0 w.heap.size (w.alloc (.cells #[] 32)) (some ⟨w.heap.size, 0, none⟩) 0 0 [] :=
  ⟨rfl, [], [], World.ownsRow_made w #[] (e := 32) (size := 1) 0 (Nat.le_refl _) (by decide) (by simp), .nil, List.nodup_nil, fun b hb => absurd hb List.not_mem_nil⟩
theorem Ap0.turned {n0 : Nat} {wr w1 : World} {a : Option Addr} {n c : Nat} {R : List (List Int)} {S : Nat → Prop} (h : Ap0 n0 wr a n c R) (ht : Turns wr w1 S) (hS : ∀ k, S k → k < n0) : Ap0 n0 w1 a n c R := by
  obtain ⟨h0, P, fq, h1, h2, h3, h4⟩ := h
  exact ⟨h0, P, fq, row_turned h1 ht (fun b hb hs => by have := (rowL_ge h1 b hb).1; have := hS b hs; omega), h2.turned ht (fun b hb hs => by have := (h4 b hb).1; have := hS b hs; omega), h3, h4⟩
theorem Ap0.next {n0 : Nat} {wr : World} {a : Option Addr} {n c : Nat} {R : List (List Int)} (h : Ap0 n0 wr a n c R) (hn0 : n0 ≤ wr.heap.size) {w1 : World} {S : Nat → Prop} (ht : Turns wr w1 S) (hS : ∀ k, S k → k < n0) : ∃ P, w1.ownsRow n0 32 1 (.slice a n c) n P ∧ ∀ (w' : World) (a' : Option Addr) (c' : Nat) (u : Value) (r : List Int) (f : List Nat) (w2 : World),
    Below w1.heap.size w1 w2 → Own w2 (.sl .int) [u] (.sl (dI r)) f → f.Nodup → (∀ b ∈ f, wr.heap.size ≤ b) → w'.ownsRow n0 32 1 (.slice a' (n + 1) c') (n + 1) (P ++ [u]) → w2.grownBy w' (Value.ownBlock (.slice a n c)) → (∀ b ∈ rowL (.slice a' (n + 1) c'), b ∈ rowL (.slice a n c) ∨ w2.heap.size ≤ b) →
    Ap0 n0 w' a' (n + 1) c' (R ++ [r]) := by
  have h9 := h
  obtain ⟨h0, P0, fq0, h10, h20, h30, h40⟩ := h9
  obtain ⟨h0, P, fq, h1, h2, h3, h4⟩ := h.turned ht hS
  refine ⟨P0, row_turned h10 ht (fun b hb hs => by have := (rowL_ge h10 b hb).1; have := hS b hs; omega), fun w' a' c' u r f w2 hb ho hn hf hown hg hnew => ⟨by simp [h0], P0 ++ [u], fq0 ++ f, hown, ?_, app_nodup h30 hn (fun x hx hy => by have := hf x hy; have := h20.lt x hx; omega), ?_⟩⟩
  · have e : dR (R ++ [r]) = dR R ++ [.sl (dI r)] := by simp [dR]
    rw [e, List.replicate_succ']
    have ht2 := Turns.of_grown hg
    have hlt := rowL_ge h10
    refine OwnL.snoc (((h20.turned ht (fun b hb hs => by have := (h40 b hb).1; have := hS b hs; omega)).under hb).turned ht2 (fun b hb e => (h40 b hb).2 (by simp [rowL, e]))) (ho.turned ht2 (fun b hb e => ?_))
    have := hlt b (by simp [rowL, e])
    have := hf b hb
    omega
  · intro b hb2
    have hlt := rowL_ge h10
    rcases List.mem_append.1 hb2 with h | h
    · refine ⟨(h40 b h).1, fun hm => ?_⟩
      rcases hnew b hm with h6 | h6
      · exact (h40 b h).2 h6
      · have := h20.lt b h; have := hb.size; have := ht.size; omega
    · have hge := hf b h
      refine ⟨by omega, fun hm => ?_⟩
      rcases hnew b hm with h6 | h6
      · have := hlt b h6; omega
      · have := ho.lt b h; omega
theorem Ap0.done {n0 : Nat} {wr : World} {a : Option Addr} {n c : Nat} {R : List (List Int)} (h : Ap0 n0 wr a n c R) : ∃ fp, Own wr KSS [.slice a R.length c] (.sl (dR R)) fp ∧ fp.Nodup ∧ ∀ b ∈ fp, n0 ≤ b := by
  obtain ⟨h0, P, fq, h1, h2, h3, h4⟩ := h
  subst h0
  refine ⟨_, row_own2 h1 h2, rowF_nodup h3 (fun b hb hm => (h4 b hm).2 hb), fun b hb => ?_⟩
  rcases rowF_sub b hb with h | h
  · exact (rowL_ge h1 b h).1
  · exact (h4 b h).1
theorem ints_own2 {w : World} {B : Nat} {a : Option Addr} {c : Nat} {r : List Int} (h : w.ownsRow B 3 1 (.slice a r.length c) r.length (ivs r)) : ∃ f, Own w (.sl .int) [.slice a r.length c] (.sl (dI r)) f ∧ f.Nodup ∧ ∀ b ∈ f, B ≤ b := by
  have hr : ∀ r : List Int, OwnL w (List.replicate r.length .int) (ivs r) (dI r) [] := by
    intro r
    induction r with
    | nil => exact .nil
    | cons x r ih => exact OwnL.cons (cs := [.int .i64 x]) (fp := []) (.int x) ih
  refine ⟨_, row_own2 h (hr r), rowF_nodup List.nodup_nil (fun b _ hm => absurd hm List.not_mem_nil), fun b hm => ?_⟩
  rcases rowF_sub b hm with h2 | h2
  · exact (rowL_ge h b h2).1
  · cases h2
theorem win5 {n r : Int} (h : Within n r) (hn : 0 < n) : 0 ≤ r ∧ r < n := ⟨h.1, h.2.1 hn⟩
theorem turns_drawn {W : World} {a : Option Addr} {len cap : Nat} {z : List Int} {b : Nat} {w w' : World} (d : Drawn W a len cap z b w w') : Turns w w' (fun k => k = b) :=
  (Turns.of_grown d.2).mono (fun k hk => by injection hk with hk; exact hk.symm)
set_option maxHeartbeats 8000000 in
theorem rows_on (W w0 w : World) (b : Nat) (a : Option Addr) (len cap : Nat) (z : List Int) (most : Nat) (hm : most ≤ 100) (d : Drawn W a len cap z b w0 w) :
    Calls Try.prog 37 #[.pointer (some ⟨b, 0, none⟩), .int .i64 (most : Int)] w fun e w' => ∃ (va : Option Addr) (vc : Nat) (R : List (List Int)) (fp : List Nat), e = .returned (.slice va R.length vc) ∧ R.length ≤ most ∧ R.all rowB = true ∧ Own w' KSS [.slice va R.length vc] (.sl (dR R)) fp ∧ fp.Nodup ∧ (∀ b ∈ fp, w.heap.size ≤ b) ∧ Drawn W a len cap z b w0 w' := by
  have D0 := d.1.same.alloc (.cells #[] 32)
  have hbl := d.1.here
  have hA0 := Ap0.start w
  have HD := Lib.hid (And.intro d hA0)
  have hw7 : IntKind.i64.wrap ((most : Int) + 1) = (most : Int) + 1 := by rw [IntKind.wrap_i64]; omega
  clear d hA0
  have HD0 := Lib.hid D0
  clear D0
  go_enter Try.func37, Try.ntmps37
  go_wp2_with fail
  (refine (below_on W _ _ b a len cap z ((most : Int) + 1) HD0.out.1.same).mono ?_; rintro e w1 ⟨n, hn, rfl, d1⟩)
  have hn2 := win5 hn (by omega)
  obtain ⟨n, rfl⟩ : ∃ m : Nat, n = (m : Int) := ⟨n.toNat, by omega⟩
  have hnm : n ≤ most := by omega
  have HA := Lib.hid (And.intro (HD.out.2.turned (turns_drawn d1) (fun k hk => by omega)) (HD0.out.trans d1))
  have hs1 : w.heap.size ≤ w1.heap.size := by have := HA.out.2.2.size; omega
  clear d1 hn hn2 hw7
  go_wp2
  go_loopw [5, 7] (fun v5 v7 wr => ∃ (k : Nat) (a5 : Option Addr) (c5 : Nat) (R : List (List Int)), k ≤ n ∧ v7 = .int .i64 (k : Int) ∧ v5 = .slice a5 k c5 ∧ w.heap.size ≤ wr.heap.size ∧ Hid (Ap0 w.heap.size wr a5 k c5 R ∧ R.all rowB = true ∧ Drawn W a len cap z b w wr)) (fun v5 v7 _ => n - (intOf v7).toNat)
  case atStart => exact ⟨0, _, _, [], Nat.zero_le _, rfl, rfl, hs1, Lib.hid ⟨HA.out.1, rfl, HA.out.2⟩⟩
  case round =>
    obtain ⟨k, a5, c5, R, hk, rfl, rfl, hws, hI⟩ := hrel
    by_cases hlt : k < n
    · obtain ⟨wz, rfl⟩ : ∃ wz : World, wz = wr := ⟨_, rfl⟩
      have hWz : W.heap.size ≤ wz.heap.size := Nat.le_trans hI.out.2.2.1.far (Nat.le_of_lt hI.out.2.2.1.here)
      have HZ0 := Lib.hid (hI.out.2.2.1.same.alloc (.cells #[] 3))
      have hbz := hI.out.2.2.1.here
      have ho0 := World.ownsRow_made wz #[] (e := 3) (size := 1) 0 (Nat.le_refl _) (by decide) (by simp)
      have HO0 := Lib.hid ho0
      clear ho0
      go_wp2_with fail
      (refine (below_on W _ _ b a len cap z 256 HZ0.out.1.same).mono ?_; rintro e w2 ⟨v, hv, rfl, d2⟩)
      have hv2 := win5 hv (by decide)
      have hown2 := HO0.out.kept d2.2 (.inr fun e => by simp [Value.ownBlock] at e; omega)
      have H2 := Lib.hid (And.intro hown2 (HZ0.out.trans d2))
      have hs2 : wz.heap.size ≤ w2.heap.size := by have := H2.out.2.2.size; omega
      clear hown2 d2 hv
      go_wp2
      go_loopw [8, 9] (fun v8 v9 wr => ∃ (m : Nat) (a8 : Option Addr) (c8 : Nat) (v : Int) (r : List Int), m ≤ 32 ∧ v8 = .slice a8 m c8 ∧ v9 = .int .i64 v ∧ (0 ≤ v ∧ v < 256) ∧ wz.heap.size ≤ wr.heap.size ∧ Hid (r.length = m ∧ r.all grayB = true ∧ wr.ownsRow wz.heap.size 3 1 (.slice a8 m c8) m (ivs r) ∧ Drawn W a len cap z b wz wr)) (fun v8 v9 _ => 32 - (match v8 with | .slice _ m _ => m | _ => 0))
      case atStart => exact ⟨0, _, _, v, [], by omega, rfl, rfl, hv2, hs2, Lib.hid ⟨rfl, rfl, H2.out.1, H2.out.2⟩⟩
      case round =>
        obtain ⟨m, a8, c8, v, r, hm32, rfl, rfl, hvr, hws2, hJ⟩ := hrel
        by_cases hlt2 : m < 32
        · have hm1 : (m : Int) < 32 := by omega
          go_wp2_with fail
          (refine (once_on W _ _ b a len cap z 5 hJ.out.2.2.2.1.same).mono ?_; rintro e w3 ⟨q, rfl, d3⟩)
          have hown3 := hJ.out.2.2.1.kept d3.2 (.inr fun e => by have := (hJ.out.2.2.1.lt _ e).1; omega)
          have hd3 := hJ.out.2.2.2.trans d3
          have hs3 : wz.heap.size ≤ w3.heap.size := by have := hd3.2.size; omega
          have H3 := Lib.hid (And.intro hown3 hd3)
          clear hown3 hd3 d3
          cases q
          · have HO4 := Lib.hid (H3.out.1.alloc (.cells #[.int .i64 v] 3))
            go_wp2_with (at_builtin; refine wpList_append_sl _ et_int rfl _ _ rfl wz.heap.size _ m _ (ivs r) rfl HO4.out (some ⟨w3.heap.size, 0, none⟩) 1 1 [.int .i64 v] rfl rfl (Lies.new w3 #[.int .i64 v] 3 rfl) (by simp [Value.oneCell']) ?c3 ?c4 ?c5 ?_)
            case c3 => unfold maxLen; omega
            case c4 => omega
            case c5 => simp; omega
            intro a9 c9 w9 hown9 hgrow _
            have hd9 := (H3.out.2.alloc (.cells #[.int .i64 v] 3)).grown hgrow (fun q hq => by have := (H3.out.1.lt q hq).1; omega)
            have hs9 : wz.heap.size ≤ w9.heap.size := by have := hd9.2.size; omega
            have hall : (r ++ [v]).all grayB = true := by
              rw [List.all_append, hJ.out.2.1, Bool.true_and]
              simp [grayB]; omega
            have hiv : ivs (r ++ [v]) = ivs r ++ [.int .i64 v] := by simp [ivs]
            have H9 := Lib.hid (And.intro (show (r ++ [v]).length = m + 1 by rw [List.length_append, hJ.out.1]; rfl) (And.intro hall (And.intro (hiv ▸ hown9) hd9)))
            clear hown9 hgrow hd9 hall hiv
            go_wp2
            go_roundw
            case rel => exact ⟨m + 1, a9, c9, v, r ++ [v], by omega, rfl, rfl, hvr, hs9, H9⟩
            case measure => simp; omega
          · go_wp2_with fail
            (refine (below_on W _ _ b a len cap z 256 H3.out.2.1.same).mono ?_; rintro e w4 ⟨r4, hr4, rfl, d4⟩)
            have hr5 := win5 hr4 (by decide)
            have hown4 := H3.out.1.kept d4.2 (.inr fun e => by have := (H3.out.1.lt _ e).1; omega)
            have hd4 := H3.out.2.trans d4
            have H4 := Lib.hid (And.intro hown4 hd4)
            clear hown4 hd4 d4 hr4
            go_wp2_with fail
            (refine (pickP_on (fun q => 0 ≤ q ∧ q ≤ 255) W _ _ b a len cap z _ 4 _ (Drawn.ne H4.out.2) (by decide) (by decide) (Ins.four_gray _ _ _ (by omega)) (H4.out.2.1.same.alloc _)).mono ?_; rintro e w5 ⟨g5, hg5, rfl, d5⟩)
            have hown5 := (H4.out.1).kept d5.2 (.inr fun e => by have := (H4.out.1.lt _ e).1; omega)
            have hd5 := H4.out.2.trans d5
            have hs5 : wz.heap.size ≤ w5.heap.size := by have := hd5.2.size; omega
            have hg6 : 0 ≤ g5 ∧ g5 < 256 := by omega
            have H5 := Lib.hid (And.intro hown5 hd5)
            clear hown5 hd5 d5 hg5
            have HO4 := Lib.hid (H5.out.1.alloc (.cells #[.int .i64 g5] 3))
            go_wp2_with (at_builtin; refine wpList_append_sl _ et_int rfl _ _ rfl wz.heap.size _ m _ (ivs r) rfl HO4.out (some ⟨w5.heap.size, 0, none⟩) 1 1 [.int .i64 g5] rfl rfl (Lies.new w5 #[.int .i64 g5] 3 rfl) (by simp [Value.oneCell']) ?c3 ?c4 ?c5 ?_)
            case c3 => unfold maxLen; omega
            case c4 => omega
            case c5 => simp; omega
            intro a9 c9 w9 hown9 hgrow _
            have hd9 := (H5.out.2.alloc (.cells #[.int .i64 g5] 3)).grown hgrow (fun q hq => by have := (H5.out.1.lt q hq).1; omega)
            have hs9 : wz.heap.size ≤ w9.heap.size := by have := hd9.2.size; omega
            have hall : (r ++ [g5]).all grayB = true := by
              rw [List.all_append, hJ.out.2.1, Bool.true_and]
              simp [grayB]; omega
            have hiv : ivs (r ++ [g5]) = ivs r ++ [.int .i64 g5] := by simp [ivs]
            have H9 := Lib.hid (And.intro (show (r ++ [g5]).length = m + 1 by rw [List.length_append, hJ.out.1]; rfl) (And.intro hall (And.intro (hiv ▸ hown9) hd9)))
            clear hown9 hgrow hd9 hall hiv
            go_wp2
            go_roundw
            case rel => exact ⟨m + 1, a9, c9, g5, r ++ [g5], by omega, rfl, rfl, hg6, hs9, H9⟩
            case measure => simp; omega
        · obtain rfl : m = 32 := by omega
          have hrB : rowB r = true := by simp [rowB, hJ.out.1, hJ.out.2.1]
          have hown := hJ.out.2.2.1
          obtain ⟨f, hOf, hnf, hgf⟩ := ints_own2 (a := a8) (c := c8) (r := r) (by rw [hJ.out.1]; exact hown)
          rw [hJ.out.1] at hOf
          obtain ⟨P, hrow, hnext⟩ := hI.out.1.next hws (turns_drawn hJ.out.2.2.2) (fun k hk => by omega)
          have HR := Lib.hid (And.intro (row_on hrow ((Below.refl _ _).alloc (Nat.le_refl _) (.cells #[.slice a8 32 c8] 32))) (And.intro hnext (And.intro hOf (And.intro hnf (And.intro hgf hrB)))))
          have hDr := hI.out.2.2.trans hJ.out.2.2.2
          have hge := rowL_ge hrow
          have HDr := Lib.hid (And.intro hDr hge)
          clear hrow hnext hOf hnf hgf hrB hown hDr hge
          go_wp2_with (at_builtin; refine wpList_append_sl _ et_ss rfl _ _ rfl w.heap.size _ k _ P rfl HR.out.1 (some ⟨wr.heap.size, 0, none⟩) 1 1 [.slice a8 32 c8] rfl rfl (Lies.new wr #[.slice a8 32 c8] 32 rfl) (by simp [Value.oneCell']) ?c3 ?c4 ?c5 ?_)
          case c3 => unfold maxLen; omega
          case c4 => omega
          case c5 => simp; omega
          intro a2 c2 w9 hown hgrow hnew
          have hA9 := HR.out.2.1 w9 a2 c2 _ r f (wr.alloc (.cells #[.slice a8 32 c8] 32)) ((Below.refl _ _).alloc (Nat.le_refl _) _) (HR.out.2.2.1.under ((Below.refl _ _).alloc (Nat.le_refl _) _)) HR.out.2.2.2.1 HR.out.2.2.2.2.1 hown hgrow (fun b hb => by simpa using hnew b hb)
          have hd9 := (HDr.out.1.alloc (.cells #[.slice a8 32 c8] 32)).grown hgrow (fun q hq => by have := (HDr.out.2 q (by simp [rowL, hq])).1; have := HD.out.1.1.far; omega)
          have hs9 : w.heap.size ≤ w9.heap.size := by have := hd9.2.size; omega
          have hall : (R ++ [r]).all rowB = true := by rw [List.all_append, hI.out.2.1, Bool.true_and]; simp [HR.out.2.2.2.2.2]
          have H9 := Lib.hid (And.intro hA9 (And.intro hall hd9))
          clear hown hgrow hnew hA9 hd9 hall
          go_wp2
          go_roundw
          case rel => exact ⟨k + 1, a2, c2, R ++ [r], by omega, by go_num, rfl, hs9, H9⟩
          case measure => simp [intOf]; omega
    · obtain rfl : k = n := by omega
      go_wp2
      go_ret
      obtain ⟨hl, _⟩ := hI.out.1
      obtain ⟨fp, h1, h2, h3⟩ := hI.out.1.done
      refine ⟨a5, c5, R, fp, by rw [hl]; rfl, by rw [hl]; exact hnm, hI.out.2.1, h1, h2, h3, HD.out.1.trans hI.out.2.2⟩
set_option maxHeartbeats 1000000 in
theorem drawrows_any (w : World) (a : Option Addr) (len cap : Nat) (z : List Int) (hr : IsRow .u8 w a len cap z) :
    Calls Try.prog 11 #[.slice a len cap] w fun e w' => ∃ (va : Option Addr) (vc : Nat) (R : List (List Int)) (fp : List Nat), e = .returned (.slice va R.length vc) ∧ R.length ≤ 6 ∧ R.all rowB = true ∧ Own w' KSS [.slice va R.length vc] (.sl (dR R)) fp ∧ Below w.heap.size w w' := by
  have HR := Lib.hid hr
  clear hr
  go_enter Try.func11, Try.ntmps11
  go_wp2_with fail
  (refine (new_any w _ _ _ z HR.out).mono ?_; rintro e w1 ⟨rfl, dr⟩)
  go_wp2_with fail
  (refine (rows_on w _ _ _ a len cap z 6 (by omega) dr.same).mono ?_; rintro e w2 ⟨va, vc, R, fp, rfl, h6, hB, ho, hnd, hge, d2⟩)
  have H2 := Lib.hid (And.intro ho (And.intro d2 hB))
  clear ho d2 hB
  go_wp2
  go_ret
  exact ⟨va, vc, R, fp, rfl, h6, H2.out.2.2, H2.out.1, H2.out.2.1.1.below⟩
end Go.Proofs.Ytifmdgncgokikaa.Own
