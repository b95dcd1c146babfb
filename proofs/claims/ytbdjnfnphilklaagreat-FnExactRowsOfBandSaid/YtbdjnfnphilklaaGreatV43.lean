/-
  Texts of this seat, laid together: Sn13, HpB, ToBd, MkBd, HdBd
-/
import Derived.WalkKit
import Derived.Deep.DeepCutAuto
import Derived.Deep.QuietTactic
import Derived.BigQuiet
import Derived.Deep.RegionHeld3
import Derived.Handy
import Derived.Test.YtbdjnfnphilklaaGreatV38
import Derived.Test.YtbdjnfnphilklaaGreatV39
import Derived.Test.YtbdjnfnphilklaaGreatV35
import Derived.Test.YtbdjnfnphilklaaGreatV33
import Derived.Test.YtbdjnfnphilklaaGreatV16
import Derived.Test.YtbdjnfnphilklaaGreatV26
import Derived.Test.YtbdjnfnphilklaaGreatV11
import Derived.Test.YtbdjnfnphilklaaGreatV40
namespace Go.Proofs.YtbdjnfnphilklaaGreat.Own
open Go.ChangeShapes Go.WideShapes Go.ChangeAt Go.RowKit
open Kit Slabs Ints Point
set_option linter.unusedVariables false
set_option linter.unusedSimpArgs false
set_option linter.unnecessarySimpa false
set_option maxRecDepth 100000
attribute [local go_sem ↓] hload_Band hstore_Band
theorem whsh_spec (w : World) (ht : Int) (h : 0 < ht ∧ ht ≤ 32) : Calls Tryz.prog 96 #[.int .i64 ht] w (SsNew (whR ht) w) := by
  have := whites_spec w ht
  rw [if_pos (by omega)] at this
  exact this
set_option maxHeartbeats 4000000 in
theorem newband_spec (w : World) (h n : Int) : Calls Tryz.prog 67 #[.int .i64 h, .int .i64 n] w (BdNew2 (nbD h n) (bnB h n) w) := by
  have HI := Lib.hid (fun W => l12ok_spec h n W)
  obtain ⟨W, hWe⟩ : ∃ W, W = w.alloc (.cells Z4 27) := ⟨_, rfl⟩
  have BR : Blk W w.heap.size Z4.toList := hWe ▸ Blk.new w Z4 _ rfl
  have hW : Below w.heap.size w W := by rw [hWe]; go_grown
  have hz : W.heap.size = w.heap.size + 1 := by rw [hWe]; simp
  have HS := Lib.hid (And.intro BR (And.intro hW hz))
  obtain ⟨GR, hGR⟩ : ∃ x, w.heap.size = x := ⟨_, rfl⟩
  cases hb : bnB h n
  · have HV : Hid (nbD h n = bd0) := Lib.hid (by simp [nbD, hb])
    rw [hb] at HI
    clear hb BR hW hz
    go_enter Tryz.func67, Tryz.ntmps67
    go_wp2_with fail
    rw [← hWe]
    ((with_reducible refine (HI.out _).mono ?_); rintro e w1 ⟨rfl, bb⟩)
    obtain ⟨E, st, BX, tE⟩ := bd_store (HS.out.1.keep bb) 0 0 none 0 0 none 0 0
    have ld := bd_load BX
    rw [hGR] at st ld
    have bE : Below w.heap.size w E := (on_of HS.out.2.1 bb).trans (tE.below (by have := HS.out.2.1.size; have := bb.size; omega) (fun x e => by have e' : x = w.heap.size := e; omega))
    have HX := Lib.hid (show BdRows E w.heap.size [.int .i64 0, .int .i64 0, .slice none 0 0, .slice none 0 0] bd0 [] ∧ Below w.heap.size w E from ⟨⟨none, 0, [], none, 0, [], rfl, .nil _ _, ObsRow.nil _ _, rfl, List.nodup_nil, fun x hx => absurd hx List.not_mem_nil⟩, bE⟩)
    have HLd := Lib.hid ld
    clear BX tE bE bb ld
    go_wp2
    refine bodyPost_ret (results_hb Tryz.results67 (by rfl) (by rfl) HLd.out) rfl ?_
    rw [HV.out]
    exact ⟨_, [], rfl, HX.out.1, HX.out.2⟩
  · have HV : Hid (nbD h n = ⟨h, n, whR h, []⟩) := Lib.hid (by simp [nbD, hb])
    obtain ⟨b0, b1, b2, b3, b4, b5⟩ := bn_rows hb
    have HWh := Lib.hid (fun W => whsh_spec W h ⟨b1, b2⟩)
    rw [hb] at HI
    clear hb BR hW hz b0 b1 b2 b3 b4 b5
    go_enter Tryz.func67, Tryz.ntmps67
    go_wp2_with fail
    rw [← hWe]
    ((with_reducible refine (HI.out _).mono ?_); rintro e w1 ⟨rfl, bb⟩)
    have HB1 := Lib.hid bb
    clear bb
    go_wp2_with fail
    ((with_reducible refine (HWh.out _).mono ?_); rintro e w2 ⟨ra, rc, rf, rfl, ho, hn2, hge, bb⟩)
    have hb2 := on_of HB1.out bb
    obtain ⟨E, st, BX, tE⟩ := bd_store (HS.out.1.keep hb2) h n ra (whR h).length rc none 0 0
    have ld := bd_load BX
    rw [hGR] at st ld
    have h1 := HS.out.2.1.size
    have h2 := HB1.out.size
    have hz1 := HS.out.2.2
    have bE : Below w.heap.size w E := (on_of HS.out.2.1 hb2).trans (tE.below (by have := hb2.size; omega) (fun x e => by have e' : x = w.heap.size := e; omega))
    have HX := Lib.hid (show BdRows E w.heap.size [.int .i64 h, .int .i64 n, .slice ra (whR h).length rc, .slice none 0 0] ⟨h, n, whR h, []⟩ (rf ++ []) ∧ Below w.heap.size w E from ⟨⟨ra, rc, rf, none, 0, [], rfl, ho.turned tE (fun x hx e => by have e' : x = w.heap.size := e; have := hge x hx; omega), ObsRow.nil _ _, rfl, by simpa using hn2, fun x hx => by have := hge x (by simpa using hx); omega⟩, bE⟩)
    have HLd := Lib.hid ld
    clear BX tE bE bb ld ho hn2 hge hb2
    go_wp2
    refine bodyPost_ret (results_hb Tryz.results67 (by rfl) (by rfl) HLd.out) rfl ?_
    rw [HV.out]
    exact ⟨_, _, rfl, HX.out.1, HX.out.2⟩
end Go.Proofs.YtbdjnfnphilklaaGreat.Own
namespace Go.Proofs.YtbdjnfnphilklaaGreat.Own
open Go.ChangeShapes Go.WideShapes Go.ChangeAt Go.RowKit
open Kit Slabs Ints
set_option linter.unusedVariables false
set_option linter.unusedSimpArgs false
set_option linter.unnecessarySimpa false
set_option maxRecDepth 100000
theorem ss_is {w : World} {a : Option Addr} {n c : Nat} {es : List Dt} {f : List Nat} (h : Own w KSS [.slice a n c] (.sl es) f) : ∃ R, es = dR R ∧ n = R.length := by
  have e := rows_dt h
  refine ⟨unR es, e, ?_⟩
  have := h.row.1
  rw [e, len_dR] at this
  exact this.symm
theorem eq_IntSS (w : World) {a1 a2 : Option Addr} {n1 n2 p1 p2 : Nat} {es : List Dt} {f1 f2 : List Nat} (hb : es.length + bulkL es ≤ 1048576) (h1 : Own w KSS [.slice a1 n1 p1] (.sl es) f1) (h2 : Own w KSS [.slice a2 n2 p2] (.sl es) f2) :
    Calls Tryz.prog 27 #[.slice a1 n1 p1, .slice a2 n2 p2] w fun e w' => e = .returned (.bool true) ∧ Below w.heap.size w w' := by
  obtain ⟨R, rfl, rfl⟩ := ss_is h1
  obtain rfl : n2 = R.length := by have := h2.row.1; rw [len_dR] at this; exact this.symm
  rw [len_dR, bulk_dR] at hb
  exact eq_SS w hb h1 h2
theorem sz_IntSS (w : World) {a : Option Addr} {c : Nat} {es : List Dt} (h : Came w KSS [.slice a es.length c] (.sl es)) (hm : es.length ≤ maxLen) (l : Int) (l0 : 0 ≤ l) (l1 : l ≤ 1048576) :
    Calls Tryz.prog 41 #[.slice a es.length c, .int .i64 l] w fun e w' => e = .returned (.int .i64 (szv l (es.length + bulkL es))) ∧ Below w.heap.size w w' := by
  obtain ⟨R, hd, hl, h1, h2, h3⟩ := came_ss h
  simp only [Dt.sl.injEq] at hd
  subst hd
  rw [len_dR] at hl h1 ⊢
  rw [bulk_dR]
  exact sz_SS w h3 h1 h2 l l0 l1
theorem to_IntSS (w : World) (a : Option Addr) (n c : Nat) (es : List Dt) (hb : n + bulkL es ≤ 1048576) (h : Came w KSS [.slice a n c] (.sl es)) :
    Calls Tryz.prog 46 #[.slice a n c] w fun e w' => ∃ (a' : Option Addr) (c' : Nat) (fp : List Nat), e = .returned (.slice a' n c') ∧ Own w' KSS [.slice a' n c'] (.sl es) fp ∧ fp.Nodup ∧ (∀ b ∈ fp, w.heap.size ≤ b) ∧ Below w.heap.size w w' := by
  obtain ⟨R, hd, rfl, h1, h2, h3⟩ := came_ss h
  simp only [Dt.sl.injEq] at hd
  subst hd
  rw [bulk_dR] at hb
  exact to_SS w a c R hb h3
theorem mark_IntSS (w : World) (N : Nat) {a : Option Addr} {n c : Nat} {es : List Dt} {fp : List Nat} (hn : es.length + bulkL es ≤ 1048576) (h0 : 0 < N) (hN : N + cntL es ≤ 1000000000) (h : Own w KSS [.slice a n c] (.sl es) fp) (hd : fp.Nodup) :
    Calls Tryz.prog 28 #[.slice a n c, .int .i64 (N : Int)] w fun e w' => e = .returned (.int .i64 ((N + cntL es : Nat) : Int)) ∧ Own w' KSS [.slice a n c] (.sl (mkL es N)) fp ∧ Turns w w' (fun b => b ∈ fp) := by
  obtain ⟨R, rfl, rfl⟩ := ss_is h
  rw [len_dR, bulk_dR] at hn
  rw [cnt_dR] at hN ⊢
  exact mark_SS w N hn hN h hd
theorem held_IntSS (w : World) (N : Nat) {a : Option Addr} {n c : Nat} {es : List Dt} {fp fq : List Nat} {w0 : World} {v0 : Value} (hn : es.length + bulkL es ≤ 1048576) (h0 : 0 < N) (hN : N + cntL es ≤ 1000000000) (hs : Own w0 KSS [v0] (.sl es) fq) (h : Own w KSS [.slice a n c] (.sl (mkL es N)) fp) :
    Calls Tryz.prog 29 #[.slice a n c, .int .i64 (N : Int)] w fun e w' => e = .returned (.int .i64 ((N + cntL es : Nat) : Int)) ∧ Below w.heap.size w w' := by
  have e := rows_dt hs
  obtain ⟨R, hR⟩ : ∃ R, unR es = R := ⟨_, rfl⟩
  rw [hR] at e
  subst e
  obtain rfl : n = R.length := by have := h.row.1; rw [mkL_length, len_dR] at this; exact this.symm
  rw [len_dR, bulk_dR] at hn
  rw [cnt_dR] at hN ⊢
  exact held_SS w N hn hN h
end Go.Proofs.YtbdjnfnphilklaaGreat.Own
namespace Go.Proofs.YtbdjnfnphilklaaGreat.Own
open Go.ChangeShapes Go.WideShapes Go.ChangeAt Go.RowKit
open Kit Slabs Ints
attribute [local go_sem ↓] hload_Band hstore_Band hloadL_Band
set_option linter.unusedVariables false
set_option linter.unusedSimpArgs false
set_option linter.unnecessarySimpa false
set_option maxRecDepth 100000
set_option maxHeartbeats 8000000 in
theorem to_Band (w : World) {A : Array Value} {ds : List Dt} (hb : bulkL ds ≤ 1048576) (h : CameL w LBand A.toList ds) :
    Calls Tryz.prog 16 #[.agg A] w fun e w' => ∃ (R : Array Value) (fp : List Nat), e = .returned (.agg R) ∧ OwnL w' LBand R.toList ds fp ∧ fp.Nodup ∧ (∀ b ∈ fp, w.heap.size ≤ b) ∧ Below w.heap.size w w' := by
  obtain ⟨xa2, xc2, xa3, xc3, xx0_0, xx1_0, xs2, xs3, hA, rfl, ⟨ox2, mox2⟩, ⟨ox3, mox3⟩⟩ := invC_Band h
  simp only [bulkL_app, bulkL, Dt.bulk] at hb
  have BA : Blk (((w.alloc (.cells A 36)).alloc (.cells #[.int .i64 0, .int .i64 0, .slice none 0 0, .slice none 0 0] 27)).alloc (.cells #[.int .i64 xx0_0, .int .i64 xx1_0, .slice none 0 0, .slice none 0 0] 27)) w.heap.size A.toList := ((Blk.new w A 36 rfl).alloc _).alloc _
  have BR : Blk (((w.alloc (.cells A 36)).alloc (.cells #[.int .i64 0, .int .i64 0, .slice none 0 0, .slice none 0 0] 27)).alloc (.cells #[.int .i64 xx0_0, .int .i64 xx1_0, .slice none 0 0, .slice none 0 0] 27)) (w.heap.size + 1) [.int .i64 0, .int .i64 0, .slice none 0 0, .slice none 0 0] := (Blk.new _ #[.int .i64 0, .int .i64 0, .slice none 0 0, .slice none 0 0] 27 (by simp)).alloc _
  have BO : Blk (((w.alloc (.cells A 36)).alloc (.cells #[.int .i64 0, .int .i64 0, .slice none 0 0, .slice none 0 0] 27)).alloc (.cells #[.int .i64 xx0_0, .int .i64 xx1_0, .slice none 0 0, .slice none 0 0] 27)) (w.heap.size + 1 + 1) [.int .i64 xx0_0, .int .i64 xx1_0, .slice none 0 0, .slice none 0 0] := Blk.new _ #[.int .i64 xx0_0, .int .i64 xx1_0, .slice none 0 0, .slice none 0 0] 27 (by simp)
  have hW : Below w.heap.size w (((w.alloc (.cells A 36)).alloc (.cells #[.int .i64 0, .int .i64 0, .slice none 0 0, .slice none 0 0] 27)).alloc (.cells #[.int .i64 xx0_0, .int .i64 xx1_0, .slice none 0 0, .slice none 0 0] 27)) := by go_grown
  have hsz : (((w.alloc (.cells A 36)).alloc (.cells #[.int .i64 0, .int .i64 0, .slice none 0 0, .slice none 0 0] 27)).alloc (.cells #[.int .i64 xx0_0, .int .i64 xx1_0, .slice none 0 0, .slice none 0 0] 27)).heap.size = w.heap.size + 3 := by simp
  rw [hA] at BA
  have HC := Lib.hid (And.intro ox2 ox3)
  have HA0 := Lib.hid BA
  have HR0 := Lib.hid BR
  have HO0 := Lib.hid BO
  have HW0 := Lib.hid hW
  have HZ0 := Lib.hid hsz
  have ca0 : A[0]? = some (.int .i64 xx0_0) := by rw [← Array.getElem?_toList, hA]; rfl
  have ca1 : A[1]? = some (.int .i64 xx1_0) := by rw [← Array.getElem?_toList, hA]; rfl
  have ca2 : A[2]? = some (.slice xa2 xs2.length xc2) := by rw [← Array.getElem?_toList, hA]; rfl
  clear ox2 ox3 hA BA BR BO hW hsz h
  go_enter Tryz.func16, Tryz.ntmps16
  go_wp2_with fail
  obtain ⟨W0, hW0⟩ : ∃ W, W = ((w.alloc (.cells A 36)).alloc (.cells #[.int .i64 0, .int .i64 0, .slice none 0 0, .slice none 0 0] 27)).alloc (.cells #[.int .i64 xx0_0, .int .i64 xx1_0, .slice none 0 0, .slice none 0 0] 27) := ⟨_, rfl⟩
  rw [← hW0] at HA0 HR0 HO0 HW0 HZ0 ⊢
  obtain ⟨GA, hGA⟩ : ∃ g, w.heap.size = g := ⟨_, rfl⟩
  obtain ⟨GR, hGR⟩ : ∃ g, w.heap.size + 1 = g := ⟨_, rfl⟩
  obtain ⟨GO, hGO_⟩ : ∃ g, w.heap.size + 1 + 1 = g := ⟨_, rfl⟩
  rw [hGO_] at HO0 ⊢
  rw [hGR] at HR0 ⊢
  have HA0 := Lib.hid (show Blk W0 GA _ from hGA ▸ HA0.out)
  try simp only [hGA]
  have nAO : GO ≠ GA := by omega
  have nRO : GO ≠ GR := by omega
  have hGO : w.heap.size ≤ GO := by omega
  have zO : GO < W0.heap.size := by have := HZ0.out; omega
  have zR : GR < W0.heap.size := by have := HZ0.out; omega
  clear hW0 ca0 ca1 ca2
  ((with_reducible refine (to_IntSS _ _ _ _ _ (by omega) ((HC.out.1).on HW0.out)).mono ?_); rintro e w1 ⟨ra2, rc2, xF2, rfl, oo, nd0, ge0, bb⟩)
  have HAw1 := Lib.hid (HA0.out.keep bb)
  have HOw1 := Lib.hid (HO0.out.keep bb)
  have HRw1 := Lib.hid (HR0.out.keep bb)
  have HWw1 := Lib.hid (on_of HW0.out bb)
  have sz0 := bb.size
  have Hqw1_0 := Lib.hid oo
  have lt0 : ∀ b ∈ xF2, b < w1.heap.size := oo.lt
  have nO0 : GO ∉ xF2 := fun hb => by have := ge0 _ hb;  omega
  have nR0 : GR ∉ xF2 := fun hb => by have := ge0 _ hb;  omega
  have nP0 : ∀ b ∈ xF2, b ≠ GO := fun b hb e => nO0 (e ▸ hb)
  have nQ0 : ∀ b ∈ xF2, b ≠ GR := fun b hb e => nR0 (e ▸ hb)
  clear oo bb
  have ca3 := HAw1.out.1 3 (.slice xa3 xs3.length xc3) (by rfl)
  have fz := HOw1.out.2.1
  have ko2 := HOw1.out.1 2 (.slice none 0 0) (by simp)
  go_wp2_with fail
  have xO := (show Blk (w1.setCell ⟨GO, 2, none⟩ (.slice ra2 xs2.length rc2)) GO (.int .i64 xx0_0 :: (.int .i64 xx1_0 :: (.slice ra2 xs2.length rc2 :: (.slice none 0 0 :: ([]))))) from Blk.put (P := [.int .i64 xx0_0, .int .i64 xx1_0]) (R := [.slice none 0 0]) (by simpa using HOw1.out) rfl (.slice ra2 xs2.length rc2))
  have xA := (HAw1.out.other nAO 2 (.slice ra2 xs2.length rc2))
  have xR := (HRw1.out.other nRO 2 (.slice ra2 xs2.length rc2))
  have xW := ((HWw1.out).setCell (p := ⟨GO, 2, none⟩) hGO (.slice ra2 xs2.length rc2))
  have xq0 := (own_setN (Hqw1_0.out) nO0 2 (.slice ra2 xs2.length rc2))
  have xs : ((w1.setCell ⟨GO, 2, none⟩ (.slice ra2 xs2.length rc2))).heap.size = w1.heap.size := by simp [size_sets]
  generalize (w1.setCell ⟨GO, 2, none⟩ (.slice ra2 xs2.length rc2)) = V1 at xO xA xR xW xs xq0 ⊢
  have HOV1 := Lib.hid xO
  have HAV1 := Lib.hid xA
  have HRV1 := Lib.hid xR
  have HWV1 := Lib.hid xW
  have HZV1 := Lib.hid xs
  have HqV1_0 := Lib.hid xq0
  clear xO xA xR xW xs xq0
  clear ca3 fz ko2
  ((with_reducible refine (to_ObjectS _ _ _ _ _ (by omega) ((HC.out.2).on HWV1.out)).mono ?_); rintro e w2 ⟨ra3, rc3, xF3, rfl, oo, nd1, ge1, bb⟩)
  have HAw2 := Lib.hid (HAV1.out.keep bb)
  have HOw2 := Lib.hid (HOV1.out.keep bb)
  have HRw2 := Lib.hid (HRV1.out.keep bb)
  have HWw2 := Lib.hid (on_of HWV1.out bb)
  have Hqw2_0 := Lib.hid ((HqV1_0.out).under bb)
  have sz1 := bb.size
  have Hqw2_1 := Lib.hid oo
  have lt1 : ∀ b ∈ xF3, b < w2.heap.size := oo.lt
  have nO1 : GO ∉ xF3 := fun hb => by have := ge1 _ hb; have := HZV1.out; omega
  have nR1 : GR ∉ xF3 := fun hb => by have := ge1 _ hb; have := HZV1.out; omega
  have nP1 : ∀ b ∈ xF3, b ≠ GO := fun b hb e => nO1 (e ▸ hb)
  have nQ1 : ∀ b ∈ xF3, b ≠ GR := fun b hb e => nR1 (e ▸ hb)
  clear oo bb
  have fz := HOw2.out.2.1
  have ko3 := HOw2.out.1 3 (.slice none 0 0) (by simp)
  go_wp2_with fail
  have xO := (show Blk (w2.setCell ⟨GO, 3, none⟩ (.slice ra3 xs3.length rc3)) GO (.int .i64 xx0_0 :: (.int .i64 xx1_0 :: (.slice ra2 xs2.length rc2 :: (.slice ra3 xs3.length rc3 :: ([]))))) from Blk.put (P := [.int .i64 xx0_0, .int .i64 xx1_0, .slice ra2 xs2.length rc2]) (R := []) (by simpa using HOw2.out) rfl (.slice ra3 xs3.length rc3))
  have xA := (HAw2.out.other nAO 3 (.slice ra3 xs3.length rc3))
  have xR := (HRw2.out.other nRO 3 (.slice ra3 xs3.length rc3))
  have xW := ((HWw2.out).setCell (p := ⟨GO, 3, none⟩) hGO (.slice ra3 xs3.length rc3))
  have xq0 := (own_setN (Hqw2_0.out) nO0 3 (.slice ra3 xs3.length rc3))
  have xq1 := (own_setN (Hqw2_1.out) nO1 3 (.slice ra3 xs3.length rc3))
  have xs : ((w2.setCell ⟨GO, 3, none⟩ (.slice ra3 xs3.length rc3))).heap.size = w2.heap.size := by simp [size_sets]
  generalize (w2.setCell ⟨GO, 3, none⟩ (.slice ra3 xs3.length rc3)) = V2 at xO xA xR xW xs xq0 xq1 ⊢
  have HOV2 := Lib.hid xO
  have HAV2 := Lib.hid xA
  have HRV2 := Lib.hid xR
  have HWV2 := Lib.hid xW
  have HZV2 := Lib.hid xs
  have HqV2_0 := Lib.hid xq0
  have HqV2_1 := Lib.hid xq1
  clear xO xA xR xW xs xq0 xq1
  clear fz ko3
  obtain ⟨R, hR⟩ : ∃ R : Array Value, (.int .i64 xx0_0 :: (.int .i64 xx1_0 :: (.slice ra2 xs2.length rc2 :: (.slice ra3 xs3.length rc3 :: ([])))) : List Value).toArray = R := ⟨_, rfl⟩
  have RL : R.toList = .int .i64 xx0_0 :: (.int .i64 xx1_0 :: (.slice ra2 xs2.length rc2 :: (.slice ra3 xs3.length rc3 :: ([])))) := by subst hR; simp
  have lo := hload_run (P := Tryz.prog) (t := 27) Tryz.isAgg27 Tryz.sizeOf27 (w := V2) (b := GO) (o := 0) (us := .int .i64 xx0_0 :: (.int .i64 xx1_0 :: (.slice ra2 xs2.length rc2 :: (.slice ra3 xs3.length rc3 :: ([]))))) (Blk.part (P := []) (R := []) (by simpa using HOV2.out) rfl) (by simp )
  rw [hR] at lo
  have oR : OwnL V2 LBand (.int .i64 xx0_0 :: (.int .i64 xx1_0 :: (.slice ra2 xs2.length rc2 :: (.slice ra3 xs3.length rc3 :: ([]))))) (.int xx0_0 :: (.int xx1_0 :: (.sl xs2 :: (.sl xs3 :: ([]))))) (xF2 ++ (xF3 ++ ([]))) := .cons (cs := [.int .i64 xx0_0]) (fp := []) (.int xx0_0) (.cons (cs := [.int .i64 xx1_0]) (fp := []) (.int xx1_0) (.cons (cs := [.slice ra2 xs2.length rc2]) (fp := xF2) HqV2_0.out (.cons (cs := [.slice ra3 xs3.length rc3]) (fp := xF3) HqV2_1.out (.nil))))
  have sto := hstore_run (P := Tryz.prog) (t := 27) Tryz.sizeOf27 (w := V2) (b := GR) (o := 0) (A := []) (us := [.int .i64 0, .int .i64 0, .slice none 0 0, .slice none 0 0]) (R := []) (vs := .int .i64 xx0_0 :: (.int .i64 xx1_0 :: (.slice ra2 xs2.length rc2 :: (.slice ra3 xs3.length rc3 :: ([]))))) (by simpa using HRV2.out) rfl (by simp ) (by simp ) (fun v hv => oR.one v hv)
  rw [hR] at sto
  have BR5 := Blk.sets (P := []) (us := [.int .i64 0, .int .i64 0, .slice none 0 0, .slice none 0 0]) (vs := .int .i64 xx0_0 :: (.int .i64 xx1_0 :: (.slice ra2 xs2.length rc2 :: (.slice ra3 xs3.length rc3 :: ([]))))) (R := []) (w := V2) (b := GR) (o := 0) (by simpa using HRV2.out) rfl (by simp )
  have e5 := Below.setCells (b := GR) (by omega) (.int .i64 xx0_0 :: (.int .i64 xx1_0 :: (.slice ra2 xs2.length rc2 :: (.slice ra3 xs3.length rc3 :: ([]))))) 0 HWV2.out
  have o5 := ownL_sets oR (b := GR) (fun x hx => (List.mem_append.1 hx).elim (fun h => nQ0 x h) (fun hx1 => (List.mem_append.1 hx1).elim (fun h => nQ1 x h) (fun hx2 => absurd hx2 List.not_mem_nil))) 0 (.int .i64 xx0_0 :: (.int .i64 xx1_0 :: (.slice ra2 xs2.length rc2 :: (.slice ra3 xs3.length rc3 :: ([])))))
  generalize V2.setCells GR 0 (.int .i64 xx0_0 :: (.int .i64 xx1_0 :: (.slice ra2 xs2.length rc2 :: (.slice ra3 xs3.length rc3 :: ([]))))) = V5 at sto BR5 e5 o5
  have re := hload_run (P := Tryz.prog) (t := 27) Tryz.isAgg27 Tryz.sizeOf27 (w := V5) (b := GR) (o := 0) (us := .int .i64 xx0_0 :: (.int .i64 xx1_0 :: (.slice ra2 xs2.length rc2 :: (.slice ra3 xs3.length rc3 :: ([]))))) (Blk.part (P := []) (R := []) (by simpa using BR5) rfl) (by simp )
  rw [hR] at re
  rw [← RL] at o5
  have HF := Lib.hid (And.intro o5 (And.intro e5 re))
  clear oR BR5 e5 o5 re RL hR
  rw [lo]
  go_wp2_with fail
  try (rw [sto]; go_wp2_with fail)
  refine bodyPost_ret (v := .agg R) ?_ rfl ⟨R, _, rfl, HF.out.1, ?_, ?_, HF.out.2.1⟩
  · exact results_h Tryz.results16 (by rfl) HF.out.2.2
  · have hall : ∀ (i j : Nat), True := fun _ _ => trivial
    have n2 : ([] : List Nat).Nodup := List.nodup_nil
    have n1 : (xF3 ++ ([])).Nodup := List.nodup_append.2 ⟨nd1, n2, fun x hx y hy e => by have a1 := lt1 x hx; have a2 := (show ∀ y ∈ [], x < y from fun y hx => absurd hx List.not_mem_nil) y hy; omega⟩
    have n0 : (xF2 ++ (xF3 ++ ([]))).Nodup := List.nodup_append.2 ⟨nd0, n1, fun x hx y hy e => by have a1 := lt0 x hx; have a2 := (show ∀ y ∈ xF3 ++ ([]), x < y from fun y hx => (List.mem_append.1 hx).elim (fun h => by have := ge1 y h; have := HZV1.out; omega) (fun hx2 => absurd hx2 List.not_mem_nil)) y hy; omega⟩
    exact n0
  · intro b hx
    exact (List.mem_append.1 hx).elim (fun h => (fun h => by have := ge0 b h; have := HZV1.out; omega) h) (fun hx1 => (List.mem_append.1 hx1).elim (fun h => (fun h => by have := ge1 b h; have := HZV1.out; omega) h) (fun hx2 => absurd hx2 List.not_mem_nil))
end Go.Proofs.YtbdjnfnphilklaaGreat.Own
namespace Go.Proofs.YtbdjnfnphilklaaGreat.Own
open Go.ChangeShapes Go.WideShapes Go.ChangeAt Go.RowKit
open Kit Slabs Ints
attribute [local go_sem ↓] hload_Band hstore_Band hloadL_Band
set_option linter.unusedVariables false
set_option linter.unusedSimpArgs false
set_option linter.unnecessarySimpa false
set_option maxRecDepth 100000
set_option maxHeartbeats 4000000 in
theorem mark_Band (w : World) (N : Nat) {A : Array Value} {ds : List Dt} {fp : List Nat} (hb : bulkL ds ≤ 1048576) (h0 : 0 < N) (hN : N + cnt0L ds ≤ 1000000000) (h : OwnL w LBand A.toList ds fp) (hd : fp.Nodup) :
    Calls Tryz.prog 18 #[.agg A, .int .i64 (N : Int)] w fun e w' => e = .returned (.int .i64 ((N + cnt0L ds : Nat) : Int)) ∧ OwnL w' LBand A.toList (mk0L ds N) fp ∧ Turns w w' (fun b => b ∈ fp) := by
  obtain ⟨xa2, xc2, xa3, xc3, xx0_0, xx1_0, xs2, xs3, xF2, xF3, hA, rfl, rfl, ox2, ox3⟩ := inv_Band h
  obtain ⟨nd0, r0, x0⟩ := nodup_parts hd
  obtain ⟨nd1, r1, x1⟩ := nodup_parts r0
  have d0_1 : ∀ b ∈ xF2, b ∉ xF3 := fun b ha hb => x0 b ha (List.mem_append_left _ hb)
  have d1_0 : ∀ b ∈ xF3, b ∉ xF2 := fun b ha hb => d0_1 b hb ha
  have hc : N + cnt0L (.int xx0_0 :: (.int xx1_0 :: (.sl xs2 :: (.sl xs3 :: ([]))))) = ((N + cntL xs2) + cntL xs3) := by simp only [cnt0L_app, cnt0L, Dt.cnt0]; omega
  have hm : mk0L (.int xx0_0 :: (.int xx1_0 :: (.sl xs2 :: (.sl xs3 :: ([]))))) N = .int xx0_0 :: (.int xx1_0 :: (.sl (mkL xs2 N) :: (.sl (mkL xs3 (N + cntL xs2)) :: ([])))) := by simp only [mk0L_app, mk0L, Dt.mk0, cnt0L_app, cnt0L, Dt.cnt0, Nat.add_zero, Nat.add_assoc]
  obtain ⟨M1, hM1⟩ : ∃ M, N + cntL xs2 = M := ⟨_, rfl⟩
  simp only [hM1] at hc hm
  obtain ⟨M2, hM2⟩ : ∃ M, M1 + cntL xs3 = M := ⟨_, rfl⟩
  simp only [hM2] at hc hm
  rw [hc] at hN ⊢
  rw [hm]
  clear hc hm
  simp only [bulkL_app, bulkL, Dt.bulk] at hb
  have BA : Blk (w.alloc (.cells A 27)) w.heap.size A.toList := Blk.new w A 27 rfl
  have hT : Turns w (w.alloc (.cells A 27)) (fun b => b ∈ xF2 ++ (xF3 ++ ([]))) := Turns.of_below (by go_grown)
  rw [hA] at BA ⊢
  have lt0 := ox2.lt
  have ne0 : ¬ (w.heap.size ∈ xF2) := fun hb => by have := lt0 _ hb; omega
  have p0 := ox2.under (w' := w.alloc (.cells A 27)) (by go_grown)
  have lt1 := ox3.lt
  have ne1 : ¬ (w.heap.size ∈ xF3) := fun hb => by have := lt1 _ hb; omega
  have p1 := ox3.under (w' := w.alloc (.cells A 27)) (by go_grown)
  have HO0 := Lib.hid (And.intro p0 p1)
  have HA0 := Lib.hid BA
  have HT0 := Lib.hid hT
  have ca0 : A[0]? = some (.int .i64 xx0_0) := by rw [← Array.getElem?_toList, hA]; rfl
  have ca1 : A[1]? = some (.int .i64 xx1_0) := by rw [← Array.getElem?_toList, hA]; rfl
  have ca2 : A[2]? = some (.slice xa2 xs2.length xc2) := by rw [← Array.getElem?_toList, hA]; rfl
  clear ox2 ox3 hA BA hT h hd p0 lt0 p1 lt1
  go_enter Tryz.func18, Tryz.ntmps18
  go_wp2_with fail
  ((with_reducible refine (mark_IntSS _ N (by omega) (by omega) (by omega) (HO0.out.1) nd0).mono ?_); rintro e w1 ⟨rfl, o1, b1⟩)
  rw [hM1]
  have HO1 := Lib.hid (And.intro o1 ((HO0.out.2).turned b1 d1_0))
  have HA1 := Lib.hid (HA0.out.turned b1 ne0)
  have HT1 := Lib.hid (HT0.out.trans (b1.mono (fun _ hk => List.mem_append_left _ hk)))
  clear o1 b1 ca0 ca1 ca2
  have ca3 := HA1.out.1 3 (.slice xa3 xs3.length xc3) (by rfl)
  go_wp2_with fail
  ((with_reducible refine (mark_ObjectS _ M1 (by omega) (by omega) (by omega) (HO1.out.2) nd1).mono ?_); rintro e w2 ⟨rfl, o2, b2⟩)
  rw [hM2]
  have HO2 := Lib.hid (And.intro ((HO1.out.1).turned b2 d0_1) o2)
  have HA2 := Lib.hid (HA1.out.turned b2 ne1)
  have HT2 := Lib.hid (HT1.out.trans (b2.mono (fun _ hk => List.mem_append_right _ (List.mem_append_left _ hk))))
  clear o2 b2 ca3
  go_wp2
  go_ret
  exact ⟨rfl, .cons (cs := [.int .i64 xx0_0]) (fp := []) (.int xx0_0) (.cons (cs := [.int .i64 xx1_0]) (fp := []) (.int xx1_0) (.cons (cs := [.slice xa2 xs2.length xc2]) (fp := xF2) (HO2.out.1) (.cons (cs := [.slice xa3 xs3.length xc3]) (fp := xF3) (HO2.out.2) (.nil)))), HT2.out⟩
end Go.Proofs.YtbdjnfnphilklaaGreat.Own
namespace Go.Proofs.YtbdjnfnphilklaaGreat.Own
open Go.ChangeShapes Go.WideShapes Go.ChangeAt Go.RowKit
open Kit Slabs Ints
attribute [local go_sem ↓] hload_Band hstore_Band hloadL_Band
set_option linter.unusedVariables false
set_option linter.unusedSimpArgs false
set_option linter.unnecessarySimpa false
set_option maxRecDepth 100000
set_option maxHeartbeats 4000000 in
theorem held_Band (w : World) (N : Nat) {A : Array Value} {ds : List Dt} {cs0 : List Value} {fp fq : List Nat} {w0 : World} (hb : bulkL ds ≤ 1048576) (h0 : 0 < N) (hN : N + cnt0L ds ≤ 1000000000) (hs : OwnL w0 LBand cs0 ds fq) (h : OwnL w LBand A.toList (mk0L ds N) fp) :
    Calls Tryz.prog 19 #[.agg A, .int .i64 (N : Int)] w fun e w' => e = .returned (.int .i64 ((N + cnt0L ds : Nat) : Int)) ∧ Below w.heap.size w w' := by
  obtain ⟨xa2, xc2, xa3, xc3, xx0_0, xx1_0, xs2, xs3, xF2, xF3, _, rfl, _, ox2, ox3⟩ := inv_Band hs
  have hc : N + cnt0L (.int xx0_0 :: (.int xx1_0 :: (.sl xs2 :: (.sl xs3 :: ([]))))) = ((N + cntL xs2) + cntL xs3) := by simp only [cnt0L_app, cnt0L, Dt.cnt0]; omega
  have hm : mk0L (.int xx0_0 :: (.int xx1_0 :: (.sl xs2 :: (.sl xs3 :: ([]))))) N = .int xx0_0 :: (.int xx1_0 :: (.sl (mkL xs2 N) :: (.sl (mkL xs3 (N + cntL xs2)) :: ([])))) := by simp only [mk0L_app, mk0L, Dt.mk0, cnt0L_app, cnt0L, Dt.cnt0, Nat.add_zero, Nat.add_assoc]
  obtain ⟨M1, hM1⟩ : ∃ M, N + cntL xs2 = M := ⟨_, rfl⟩
  simp only [hM1] at hc hm
  obtain ⟨M2, hM2⟩ : ∃ M, M1 + cntL xs3 = M := ⟨_, rfl⟩
  simp only [hM2] at hc hm
  rw [hc] at hN ⊢
  rw [hm] at h
  clear hc hm
  simp only [bulkL_app, bulkL, Dt.bulk] at hb
  obtain ⟨ya2, yc2, ya3, yc3, yF2, yF3, hA, rfl, oy2, oy3⟩ := inv_Band_ h
  simp only [mkL_length] at hA oy2 oy3
  have BA : Blk (w.alloc (.cells A 27)) w.heap.size A.toList := Blk.new w A 27 rfl
  have hW : Below w.heap.size w (w.alloc (.cells A 27)) := by go_grown
  rw [hA] at BA
  have HS := Lib.hid (And.intro ox2 ox3)
  have HO := Lib.hid (And.intro oy2 oy3)
  have HA0 := Lib.hid BA
  have HW0 := Lib.hid hW
  have ca0 : A[0]? = some (.int .i64 xx0_0) := by rw [← Array.getElem?_toList, hA]; rfl
  have ca1 : A[1]? = some (.int .i64 xx1_0) := by rw [← Array.getElem?_toList, hA]; rfl
  have ca2 : A[2]? = some (.slice ya2 xs2.length yc2) := by rw [← Array.getElem?_toList, hA]; rfl
  clear ox2 ox3 oy2 oy3 hA BA hW h hs
  go_enter Tryz.func19, Tryz.ntmps19
  go_wp2_with fail
  ((with_reducible refine (held_IntSS _ N (by omega) (by omega) (by omega) (HS.out.1) ((HO.out.1).under HW0.out)).mono ?_); rintro e w1 ⟨rfl, b1⟩)
  rw [hM1]
  have HW1 := Lib.hid (on_of HW0.out b1)
  have HA1 := Lib.hid (HA0.out.keep b1)
  have g1 : ¬ (((M1 : Nat) : Int) < 0) := by omega
  clear b1 ca0 ca1 ca2
  have ca3 := HA1.out.1 3 (.slice ya3 xs3.length yc3) (by rfl)
  go_wp2_with fail
  ((with_reducible refine (held_ObjectS _ M1 (by omega) (by omega) (by omega) (HS.out.2) ((HO.out.2).under HW1.out)).mono ?_); rintro e w2 ⟨rfl, b2⟩)
  rw [hM2]
  have HW2 := Lib.hid (on_of HW1.out b2)
  have HA2 := Lib.hid (HA1.out.keep b2)
  have g2 : ¬ (((M2 : Nat) : Int) < 0) := by omega
  clear b2 ca3
  go_wp2
  go_ret
  exact ⟨rfl, HW2.out⟩
end Go.Proofs.YtbdjnfnphilklaaGreat.Own
