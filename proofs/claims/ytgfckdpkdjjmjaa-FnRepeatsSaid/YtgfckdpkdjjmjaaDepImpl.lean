/-
  The program's isTimes, BlockDepth and BlocksOk: what each call returns; condition: at most 1048576 tokens.
-/
import Derived.Test.YtgfckdpkdjjmjaaDepth
import Derived.Test.YtgfckdpkdjjmjaaTokImpl
namespace Go.Proofs.Ytgfckdpkdjjmjaa.Impl
open Go.ChangeShapes Go.WideShapes Go.ChangeAt Go.RowKit
open Kit Scan Slabs Blk NameImpl
set_option linter.unusedVariables false
set_option linter.unusedSimpArgs false
set_option linter.unnecessarySimpa false
set_option maxRecDepth 100000
attribute [local go_sem ↓] run_mx run_mn

theorem times_impl (s : ByteArray) (n : Int) (w : World) : Calls Try.prog 29 #[.agg #[.string s, .int .i64 n]] w fun e w' => e = .returned (.bool (cntB (some (s, n)))) ∧ Below w.heap.size w w' := by
  have h3 : n < 0 ∨ (0 ≤ n ∧ n ≤ 9) ∨ 9 < n := by omega
  cases h : s.toList.isEmpty <;> rcases h3 with h1 | ⟨h1, h2⟩ | h1
  all_goals
    go_enter Try.func29, Try.ntmps29
    go_wp2
    go_ret
    exact ⟨ret_bool (by simp [cntB, h]; try omega), by go_grown⟩

/-- What a run ends with is at least the most so far. -/
theorem run_ge : ∀ (l : List Tok) (p : Option Tok) (d m M : Nat), run p d m l = some M → m ≤ M := by
  intro l
  induction l with
  | nil => intro p d m M h; simp only [run] at h; split at h <;> simp_all
  | cons t r ih =>
    intro p d m M h
    simp only [run] at h
    split at h
    · split at h
      · split at h
        · have := ih _ _ _ _ h; omega
        · cases h
      · split at h
        · split at h
          · cases h
          · exact ih _ _ _ _ h
        · exact ih _ _ _ _ h
    · cases h

theorem bd_deep {L : List Tok} {p : Option Tok} {d m : Nat} {l : List Tok} (h : run p d m l = run none 0 0 L) (h3 : 3 < m) : bdV L = -1 := by
  unfold bdV
  cases hr : run none 0 0 L with
  | none => split <;> rfl
  | some M =>
    have := run_ge _ _ _ _ _ (h.trans hr)
    split
    · simp; omega
    · rfl

set_option maxHeartbeats 4000000 in
theorem depth_impl (w : World) (v : Value) (L : List Tok) (hn : L.length ≤ 1048576) (hS : ∀ t ∈ L, t.1.size ≤ 281474976710656) (h : Rdt w v L) :
    Calls Try.prog 13 #[v] w fun e w' => e = .returned (.int .i64 (bdV L)) ∧ Below w.heap.size w w' := by
  obtain ⟨a, cap, rfl, hc, h⟩ := h
  by_cases hbig : (60 : Int) < (L.length : Int)
  · have hbd : bdV L = -1 := bd_long (by omega)
    clear h
    go_enter Try.func13, Try.ntmps13
    go_wp2
    go_ret
    exact ⟨by rw [hbd]; rfl, by go_grown⟩
  have hl60 : L.length ≤ 60 := by omega
  rcases h with rfl | ⟨g, o, rfl, hg, hcs⟩
  · go_enter Try.func13, Try.ntmps13
    go_wp2
    go_rounds 1
    go_ret
    exact ⟨rfl, Below.refl _ _⟩
  · have HC := Lib.hid (And.intro hcs hS)
    clear hcs hS
    go_enter Try.func13, Try.ntmps13
    go_wp2
    go_loopw [3, 4, 12] (fun v3 v4 v5 wr => ∃ k d m : Nat, k ≤ L.length ∧ v5 = .int .i64 (k : Int) ∧ v3 = .int .i64 (d : Int) ∧ v4 = .int .i64 (m : Int) ∧ d ≤ 3 ∧ m ≤ 3 ∧ d ≤ m ∧ run (prv L k) d m (L.drop k) = run none 0 0 L ∧ Below w.heap.size w wr) (fun _ _ v5 _ => L.length - (intOf v5).toNat)
    case atStart => exact ⟨0, 0, 0, Nat.zero_le _, rfl, rfl, rfl, by omega, by omega, Nat.le_refl _, rfl, Below.refl _ _⟩
    case round =>
      obtain ⟨k, d, m, hk, rfl, rfl, rfl, hd, hm, hdm, hrun, hbel⟩ := hrel
      have HR := Lib.hid hrun
      clear hrun
      by_cases hlt : k < L.length
      · have i0 : (0 : Int) ≤ (k : Int) := by omega
        have i1 : (k : Int) < (L.length : Int) := by omega
        obtain ⟨t, ht⟩ : ∃ t, L[k] = t := ⟨_, rfl⟩
        obtain ⟨s, q⟩ := t
        have hget : L[k]? = some (s, q) := by rw [List.getElem?_eq_getElem hlt, ht]
        have c0 : wr.cell? ⟨g, o + k * 2, none⟩ = some (.string s) := (hbel.cell (p := ⟨g, _, none⟩) hg).trans (HC.out.1 k s q hget).1
        have c1 : wr.cell? ⟨g, o + k * 2 + 1, none⟩ = some (.int .i64 q) := (hbel.cell (p := ⟨g, _, none⟩) hg).trans (HC.out.1 k s q hget).2
        have hSk : s.size ≤ 281474976710656 := HC.out.2 (s, q) (List.mem_of_getElem? hget)
        have hdr : L.drop k = (s, q) :: L.drop (k + 1) := by rw [drop_at hlt, ht]
        have hpv : prv L (k + 1) = some (s, q) := by rw [prv_succ hlt, ht]
        have HG := Lib.hid (And.intro hdr hpv)
        have hgl := Nat.lt_of_lt_of_le hg hbel.size
        clear hdr hpv ht hget
        cases htk : tkB s q
        · have hbd : bdV L = -1 := bd_none (by rw [← HR.out, HG.out.1]; exact run_bad htk)
          have HB := Lib.hid hbd
          clear hbd
          go_wp2_with (go_at_call 28; (with_reducible refine (tok_impl _ _ _ hSk).mono ?_); rintro e w' ⟨rfl, hb⟩; have hB := on_of (hbel.alloc hbel.size _) hb; have t0 := (bcell hb).1 wr.heap.size 0 (by simp); have t1 := (bcell hb).1 wr.heap.size 1 (by simp); simp only [World.cell?_alloc_new] at t0 t1; have hsw := hb.size; simp at hsw; clear hb)
          go_ret
          exact ⟨by rw [HB.out]; rfl, hB⟩
        · cases he : isEnd (s, q)
          · have ee : (s.toList == [101, 110, 100]) = false := he
            cases hr : isRep (s, q)
            · have er : (s.toList == [114, 101, 112, 101, 97, 116]) = false := hr
              have hnext : run (prv L (k + 1)) d m (L.drop (k + 1)) = run none 0 0 L := by rw [← HR.out, HG.out.1, HG.out.2]; exact (run_tok htk hr he).symm
              have HN := Lib.hid hnext
              have hmx : mx (m : Int) (d : Int) = (m : Int) := by unfold mx; omega
              have b1 : ¬ ((d : Int) < 0) := by omega
              have b2 : ¬ ((3 : Int) < (d : Int)) := by omega
              clear hnext hr he
              go_wp2_with (go_at_call 28; (with_reducible refine (tok_impl _ _ _ hSk).mono ?_); rintro e w' ⟨rfl, hb⟩; have hB := on_of (hbel.alloc hbel.size _) hb; have t0 := (bcell hb).1 wr.heap.size 0 (by simp); have t1 := (bcell hb).1 wr.heap.size 1 (by simp); simp only [World.cell?_alloc_new] at t0 t1; have hsw := hb.size; simp at hsw; clear hb)
              go_roundw
              case rel => exact ⟨k + 1, d, m, by omega, by go_num, rfl, by first | rw [hmx] | rfl, by omega, by omega, hdm, HN.out, hB⟩
              case measure => simp [intOf]; omega
            · have er : (s.toList == [114, 101, 112, 101, 97, 116]) = true := hr
              cases k with
              | zero =>
                have hbd : bdV L = -1 := bd_none (by rw [← HR.out, HG.out.1]; exact run_rep_no htk hr rfl)
                have HB := Lib.hid hbd
                clear hbd hr he
                simp only [Nat.zero_mul, Nat.add_zero] at c0 c1
                go_wp2_with (go_at_call 28; (with_reducible refine (tok_impl _ _ _ hSk).mono ?_); rintro e w' ⟨rfl, hb⟩; have hB := on_of (hbel.alloc hbel.size _) hb; have t0 := (bcell hb).1 wr.heap.size 0 (by simp); have t1 := (bcell hb).1 wr.heap.size 1 (by simp); simp only [World.cell?_alloc_new] at t0 t1; have hsw := hb.size; simp at hsw; clear hb)
                go_ret
                exact ⟨by rw [HB.out]; rfl, hB⟩
              | succ j =>
                have hj : j < L.length := by omega
                obtain ⟨u, hu⟩ : ∃ u, L[j] = u := ⟨_, rfl⟩
                obtain ⟨s2, q2⟩ := u
                have hget2 : L[j]? = some (s2, q2) := by rw [List.getElem?_eq_getElem hj, hu]
                have p0 : wr.cell? ⟨g, o + j * 2, none⟩ = some (.string s2) := (hbel.cell (p := ⟨g, _, none⟩) hg).trans (HC.out.1 j s2 q2 hget2).1
                have p1 : wr.cell? ⟨g, o + j * 2 + 1, none⟩ = some (.int .i64 q2) := (hbel.cell (p := ⟨g, _, none⟩) hg).trans (HC.out.1 j s2 q2 hget2).2
                have hpj : prv L (j + 1) = some (s2, q2) := by rw [prv_succ hj, hu]
                have HP := Lib.hid hpj
                have j0 : (0 : Int) ≤ (j : Int) := by omega
                have j1 : (j : Int) < (L.length : Int) := by omega
                have jz : ¬ (((j + 1 : Nat) : Int) = 0) := by omega
                clear hu hget2 hpj
                cases hcn : cntB (some (s2, q2))
                · have hbd : bdV L = -1 := bd_none (by rw [← HR.out, HG.out.1, HP.out]; exact run_rep_no htk hr hcn)
                  have HB := Lib.hid hbd
                  clear hbd hr he
                  go_wp2_with (first | (go_at_call 28; (with_reducible refine (tok_impl _ _ _ hSk).mono ?_); rintro e w' ⟨rfl, hb⟩; have hB := on_of (hbel.alloc hbel.size _) hb; have t0 := (bcell hb).1 wr.heap.size 0 (by simp); have t1 := (bcell hb).1 wr.heap.size 1 (by simp); simp only [World.cell?_alloc_new] at t0 t1; have hsw := hb.size; simp at hsw; have p0' := ((bcell hb).1 g (o + j * 2) (by simp; omega)).trans ((World.cell?_alloc_lt _ _ _ hgl).trans p0); have p1' := ((bcell hb).1 g (o + j * 2 + 1) (by simp; omega)).trans ((World.cell?_alloc_lt _ _ _ hgl).trans p1); clear hb) | (go_at_call 29; (with_reducible refine (times_impl _ _ _).mono ?_); rintro e w2 ⟨rfl, hb2⟩; rw [hcn]; have hB2 := on_of hB hb2; clear hb2))
                  go_ret
                  exact ⟨by rw [HB.out]; rfl, hB2⟩
                · have hnext : run (prv L (j + 1 + 1)) (d + 1) (max m (d + 1)) (L.drop (j + 1 + 1)) = run none 0 0 L := by rw [← HR.out, HG.out.1, HG.out.2, HP.out]; exact (run_rep htk hr hcn).symm
                  by_cases hd3 : (3 : Int) < (d : Int) + 1
                  · have hbd : bdV L = -1 := bd_deep hnext (by omega)
                    have HB := Lib.hid hbd
                    have b1 : ¬ ((d : Int) + 1 < 0) := by omega
                    clear hbd hr he hnext
                    go_wp2_with (first | (go_at_call 28; (with_reducible refine (tok_impl _ _ _ hSk).mono ?_); rintro e w' ⟨rfl, hb⟩; have hB := on_of (hbel.alloc hbel.size _) hb; have t0 := (bcell hb).1 wr.heap.size 0 (by simp); have t1 := (bcell hb).1 wr.heap.size 1 (by simp); simp only [World.cell?_alloc_new] at t0 t1; have hsw := hb.size; simp at hsw; have p0' := ((bcell hb).1 g (o + j * 2) (by simp; omega)).trans ((World.cell?_alloc_lt _ _ _ hgl).trans p0); have p1' := ((bcell hb).1 g (o + j * 2 + 1) (by simp; omega)).trans ((World.cell?_alloc_lt _ _ _ hgl).trans p1); clear hb) | (go_at_call 29; (with_reducible refine (times_impl _ _ _).mono ?_); rintro e w2 ⟨rfl, hb2⟩; rw [hcn]; have hB2 := on_of hB hb2; clear hb2))
                    go_ret
                    exact ⟨by rw [HB.out]; rfl, hB2⟩
                  · have HN := Lib.hid hnext
                    have hmx : mx (m : Int) ((d : Int) + 1) = ((max m (d + 1) : Nat) : Int) := by unfold mx; omega
                    have b1 : ¬ ((d : Int) + 1 < 0) := by omega
                    clear hnext hr he
                    go_wp2_with (first | (go_at_call 28; (with_reducible refine (tok_impl _ _ _ hSk).mono ?_); rintro e w' ⟨rfl, hb⟩; have hB := on_of (hbel.alloc hbel.size _) hb; have t0 := (bcell hb).1 wr.heap.size 0 (by simp); have t1 := (bcell hb).1 wr.heap.size 1 (by simp); simp only [World.cell?_alloc_new] at t0 t1; have hsw := hb.size; simp at hsw; have p0' := ((bcell hb).1 g (o + j * 2) (by simp; omega)).trans ((World.cell?_alloc_lt _ _ _ hgl).trans p0); have p1' := ((bcell hb).1 g (o + j * 2 + 1) (by simp; omega)).trans ((World.cell?_alloc_lt _ _ _ hgl).trans p1); clear hb) | (go_at_call 29; (with_reducible refine (times_impl _ _ _).mono ?_); rintro e w2 ⟨rfl, hb2⟩; rw [hcn]; have hB2 := on_of hB hb2; clear hb2))
                    go_roundw
                    case rel => exact ⟨j + 1 + 1, d + 1, max m (d + 1), by omega, by go_num, by go_num, by first | rw [hmx] | rfl, by omega, by omega, by omega, HN.out, hB2⟩
                    case measure => simp [intOf]; omega
          · have ee : (s.toList == [101, 110, 100]) = true := he
            have hr : isRep (s, q) = false := (end_name he).2
            cases d with
            | zero =>
              have hbd : bdV L = -1 := bd_none (by rw [← HR.out, HG.out.1]; exact run_end_no htk hr he)
              have HB := Lib.hid hbd
              clear hbd hr he
              go_wp2_with (go_at_call 28; (with_reducible refine (tok_impl _ _ _ hSk).mono ?_); rintro e w' ⟨rfl, hb⟩; have hB := on_of (hbel.alloc hbel.size _) hb; have t0 := (bcell hb).1 wr.heap.size 0 (by simp); have t1 := (bcell hb).1 wr.heap.size 1 (by simp); simp only [World.cell?_alloc_new] at t0 t1; have hsw := hb.size; simp at hsw; clear hb)
              go_ret
              exact ⟨by rw [HB.out]; rfl, hB⟩
            | succ d =>
              have hnext : run (prv L (k + 1)) d m (L.drop (k + 1)) = run none 0 0 L := by rw [← HR.out, HG.out.1, HG.out.2]; exact (run_end htk hr he).symm
              have HN := Lib.hid hnext
              have hmx : mx (m : Int) (((d + 1 : Nat) : Int) - 1) = (m : Int) := by unfold mx; omega
              have b1 : ¬ ((((d + 1 : Nat) : Int) - 1) < 0) := by omega
              have b2 : ¬ ((3 : Int) < (((d + 1 : Nat) : Int) - 1)) := by omega
              clear hnext hr he
              go_wp2_with (go_at_call 28; (with_reducible refine (tok_impl _ _ _ hSk).mono ?_); rintro e w' ⟨rfl, hb⟩; have hB := on_of (hbel.alloc hbel.size _) hb; have t0 := (bcell hb).1 wr.heap.size 0 (by simp); have t1 := (bcell hb).1 wr.heap.size 1 (by simp); simp only [World.cell?_alloc_new] at t0 t1; have hsw := hb.size; simp at hsw; clear hb)
              go_roundw
              case rel => exact ⟨k + 1, d, m, by omega, by go_num, by go_num, by first | rw [hmx] | (rw [show mx (m : Int) (d : Int) = (m : Int) by unfold mx; omega]) | rfl, by omega, by omega, by omega, HN.out, hB⟩
              case measure => simp [intOf]; omega
      · obtain rfl : k = L.length := by omega
        have hend : run none 0 0 L = if d = 0 then some m else none := by rw [← HR.out, List.drop_length]; simp only [run]
        cases d with
        | zero =>
          have hbd := bd_some hl60 (m := m) (by rw [hend]; rfl)
          have HB := Lib.hid hbd
          clear hbd hend
          go_wp2
          go_ret
          exact ⟨by rw [HB.out, if_pos (by omega)]; rfl, hbel⟩
        | succ d =>
          have hbd := bd_none (L := L) (by rw [hend]; rfl)
          have HB := Lib.hid hbd
          have hd0 : (0 : Int) < ((d + 1 : Nat) : Int) := by omega
          clear hbd hend
          go_wp2
          go_ret
          exact ⟨by rw [HB.out]; rfl, hbel⟩

theorem ok_impl (w : World) (v : Value) (L : List Tok) (hn : L.length ≤ 1048576) (hS : ∀ t ∈ L, t.1.size ≤ 281474976710656) (h : Rdt w v L) :
    Calls Try.prog 12 #[v] w fun e w' => e = .returned (.bool (decide (0 ≤ bdV L))) ∧ Below w.heap.size w w' := by
  have HD := Lib.hid (depth_impl w v L hn hS h)
  clear h hS
  go_enter Try.func12, Try.ntmps12
  go_wp2_with fail
  ((with_reducible refine HD.out.mono ?_); rintro e w1 ⟨rfl, hb⟩)
  go_wp2
  go_ret
  exact ⟨rfl, hb⟩

end Go.Proofs.Ytgfckdpkdjjmjaa.Impl
