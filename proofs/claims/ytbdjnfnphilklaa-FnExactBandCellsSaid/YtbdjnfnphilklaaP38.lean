/-
  Texts of this seat, laid together: Sn13, Lw13
-/
import Derived.Test.YtbdjnfnphilklaaP36
import Derived.Test.YtbdjnfnphilklaaP37
import Derived.Test.YtbdjnfnphilklaaP32
namespace Go.Proofs.Ytbdjnfnphilklaa.Own
open Go.ChangeShapes Go.WideShapes Go.ChangeAt Go.RowKit
open Kit Slabs Ints Point
set_option linter.unusedVariables false
set_option linter.unusedSimpArgs false
set_option linter.unnecessarySimpa false
set_option maxRecDepth 100000
attribute [local go_sem ↓] hload_Band hstore_Band
theorem whsh_spec (w : World) (ht : Int) (h : 0 < ht ∧ ht ≤ 32) : Calls Try.prog 46 #[.int .i64 ht] w (SsNew (whR ht) w) := by
  have := whites_spec w ht
  rw [if_pos (by omega)] at this
  exact this
set_option maxHeartbeats 4000000 in
theorem newband_spec (w : World) (h n : Int) : Calls Try.prog 19 #[.int .i64 h, .int .i64 n] w (BdNew2 (nbD h n) (bnB h n) w) := by
  have HI := Lib.hid (fun W => l12ok_spec h n W)
  obtain ⟨W, hWe⟩ : ∃ W, W = w.alloc (.cells Z4 32) := ⟨_, rfl⟩
  have BR : Blk W w.heap.size Z4.toList := hWe ▸ Blk.new w Z4 _ rfl
  have hW : Below w.heap.size w W := by rw [hWe]; go_grown
  have hz : W.heap.size = w.heap.size + 1 := by rw [hWe]; simp
  have HS := Lib.hid (And.intro BR (And.intro hW hz))
  obtain ⟨GR, hGR⟩ : ∃ x, w.heap.size = x := ⟨_, rfl⟩
  cases hb : bnB h n
  · have HV : Hid (nbD h n = bd0) := Lib.hid (by simp [nbD, hb])
    rw [hb] at HI
    clear hb BR hW hz
    go_enter Try.func19, Try.ntmps19
    go_wp2_with fail
    rw [← hWe]
    ((with_reducible refine (HI.out _).mono ?_); rintro e w1 ⟨rfl, bb⟩)
    obtain ⟨E, st, BX, tE⟩ := bd_store (HS.out.1.keep bb) 0 0 none 0 0 none 0 0
    have ld := bd_load BX
    rw [hGR] at st ld
    have bE : Below w.heap.size w E := (on_of HS.out.2.1 bb).trans (tE.below (by have := HS.out.2.1.size; have := bb.size; omega) (fun x e => by have e' : x = w.heap.size := e; omega))
    have HX := Lib.hid (show BdRows E w.heap.size [.int .i64 0, .int .i64 0, .slice none 0 0, .slice none 0 0] bd0 [] ∧ Below w.heap.size w E from ⟨⟨none, 0, [], none, 0, [], rfl, .nil _ _, ObsRow.nil _ _, rfl, List.nodup_nil, fun x hx => absurd hx List.not_mem_nil⟩, bE⟩)
    have HLd := Lib.hid ld
    clear BX tE bE bb ld
    go_wp2
    refine bodyPost_ret (results_hb Try.results19 (by rfl) (by rfl) HLd.out) rfl ?_
    rw [HV.out]
    exact ⟨_, [], rfl, HX.out.1, HX.out.2⟩
  · have HV : Hid (nbD h n = ⟨h, n, whR h, []⟩) := Lib.hid (by simp [nbD, hb])
    obtain ⟨b0, b1, b2, b3, b4, b5⟩ := bn_rows hb
    have HWh := Lib.hid (fun W => whsh_spec W h ⟨b1, b2⟩)
    rw [hb] at HI
    clear hb BR hW hz b0 b1 b2 b3 b4 b5
    go_enter Try.func19, Try.ntmps19
    go_wp2_with fail
    rw [← hWe]
    ((with_reducible refine (HI.out _).mono ?_); rintro e w1 ⟨rfl, bb⟩)
    have HB1 := Lib.hid bb
    clear bb
    go_wp2_with fail
    ((with_reducible refine (HWh.out _).mono ?_); rintro e w2 ⟨ra, rc, rf, rfl, ho, hn2, hge, bb⟩)
    have hb2 := on_of HB1.out bb
    obtain ⟨E, st, BX, tE⟩ := bd_store (HS.out.1.keep hb2) h n ra (whR h).length rc none 0 0
    have ld := bd_load BX
    rw [hGR] at st ld
    have h1 := HS.out.2.1.size
    have h2 := HB1.out.size
    have hz1 := HS.out.2.2
    have bE : Below w.heap.size w E := (on_of HS.out.2.1 hb2).trans (tE.below (by have := hb2.size; omega) (fun x e => by have e' : x = w.heap.size := e; omega))
    have HX := Lib.hid (show BdRows E w.heap.size [.int .i64 h, .int .i64 n, .slice ra (whR h).length rc, .slice none 0 0] ⟨h, n, whR h, []⟩ (rf ++ []) ∧ Below w.heap.size w E from ⟨⟨ra, rc, rf, none, 0, [], rfl, ho.turned tE (fun x hx e => by have e' : x = w.heap.size := e; have := hge x hx; omega), ObsRow.nil _ _, rfl, by simpa using hn2, fun x hx => by have := hge x (by simpa using hx); omega⟩, bE⟩)
    have HLd := Lib.hid ld
    clear BX tE bE bb ld ho hn2 hge hb2
    go_wp2
    refine bodyPost_ret (results_hb Try.results19 (by rfl) (by rfl) HLd.out) rfl ?_
    rw [HV.out]
    exact ⟨_, _, rfl, HX.out.1, HX.out.2⟩
end Go.Proofs.Ytbdjnfnphilklaa.Own
namespace Go.Proofs.Ytbdjnfnphilklaa.Own
open Go.ChangeShapes Go.WideShapes Go.ChangeAt Go.RowKit
open Kit Slabs Ints
set_option linter.unusedVariables false
set_option linter.unusedSimpArgs false
set_option linter.unnecessarySimpa false
theorem bda_of {w : World} {ra oa : Option Addr} {rc oc : Nat} {b : Bd} {rf of : List Nat} (hb : bulkL b.dt ≤ 1048576) (h2 : Own w KSS [.slice ra b.base.length rc] (.sl (dR b.base)) rf) (h3 : Own w (.sl KObject) [.slice oa b.objs.length oc] (.sl (dO b.objs)) of) : BdA w b ra rc oa oc := by
  refine ⟨?_, rr_of h2, of, h3⟩
  simp only [Bd.dt, bulkL, Dt.bulk, len_dR, len_dO, bulk_dR] at hb
  omega
theorem spec_BandOk (w : World) {A : Array Value} {ds : List Dt} {fp : List Nat} (hb : bulkL ds ≤ 1048576) (h : OwnL w LBand A.toList ds fp) :
    Calls Try.prog 24 #[.agg A] w fun e w' => e = .returned (.bool (bdB (bdOf ds))) ∧ Below w.heap.size w w' := by
  have e := bd_dt h
  rw [e] at hb h
  obtain ⟨ra, rc, oa, oc, rf, of, rfl, _, h2, h3⟩ := bd_four h
  exact bok_spec w _ ra rc oa oc (bda_of hb h2 h3)
theorem impl_BandOk (w : World) {A : Array Value} {ds : List Dt} {fp : List Nat} (hb : bulkL ds ≤ 1048576) (h : OwnL w LBand A.toList ds fp) :
    Calls Try.prog 15 #[.agg A] w fun e w' => e = .returned (.bool (bdB (bdOf ds))) ∧ Below w.heap.size w w' := by
  have e := bd_dt h
  rw [e] at hb h
  obtain ⟨ra, rc, oa, oc, rf, of, rfl, _, h2, h3⟩ := bd_four h
  exact bok_impl w _ ra rc oa oc (bda_of hb h2 h3)
theorem spec_BandCells (w : World) {A : Array Value} {ds : List Dt} {fp : List Nat} (hb : bulkL ds ≤ 1048576) (h : OwnL w LBand A.toList ds fp) :
    Calls Try.prog 26 #[.agg A] w fun e w' => e = .returned (.int .i64 (cellsN (bdOf ds).objs : Nat)) ∧ Below w.heap.size w w' := by
  have e := bd_dt h
  rw [e] at hb h
  obtain ⟨ra, rc, oa, oc, rf, of, rfl, _, h2, h3⟩ := bd_four h
  exact bcells_spec w _ ra rc oa oc (bda_of hb h2 h3)
theorem impl_BandCells (w : World) {A : Array Value} {ds : List Dt} {fp : List Nat} (hb : bulkL ds ≤ 1048576) (h : OwnL w LBand A.toList ds fp) :
    Calls Try.prog 14 #[.agg A] w fun e w' => e = .returned (.int .i64 (cellsN (bdOf ds).objs : Nat)) ∧ Below w.heap.size w w' := by
  have e := bd_dt h
  rw [e] at hb h
  obtain ⟨ra, rc, oa, oc, rf, of, rfl, _, h2, h3⟩ := bd_four h
  exact bcells_impl w _ ra rc oa oc (bda_of hb h2 h3)
def BdOut (ds : List Dt) (w : World) (e : Ending) (w' : World) : Prop := ∃ (R : Array Value) (f : List Nat), e = .returned (.agg R) ∧ OwnL w' LBand R.toList ds f ∧ f.Nodup ∧ (∀ b ∈ f, w.heap.size ≤ b) ∧ Below w.heap.size w w'
def BdOut2 (ds : List Dt) (q : Bool) (w : World) (e : Ending) (w' : World) : Prop := ∃ (R : Array Value) (f : List Nat), e = .returned (.tuple #[.agg R, .bool q]) ∧ OwnL w' LBand R.toList ds f ∧ f.Nodup ∧ (∀ b ∈ f, w.heap.size ≤ b) ∧ Below w.heap.size w w'
theorem bd_out {b : Bd} {w : World} {e : Ending} {w' : World} (h : BdNew b w e w') : BdOut b.dt w e w' := by
  obtain ⟨R, F, rfl, hR, bb⟩ := h
  obtain ⟨f, o, n, s⟩ := hR.own
  exact ⟨R, f, rfl, o, n, fun x hx => hR.ge x (s x hx), bb⟩
theorem bd_out2 {b : Bd} {q : Bool} {w : World} {e : Ending} {w' : World} (h : BdNew2 b q w e w') : BdOut2 b.dt q w e w' := by
  obtain ⟨R, F, rfl, hR, bb⟩ := h
  obtain ⟨f, o, n, s⟩ := hR.own
  exact ⟨R, f, rfl, o, n, fun x hx => hR.ge x (s x hx), bb⟩
theorem spec_NewBand (w : World) (h n : Int) : Calls Try.prog 19 #[.int .i64 h, .int .i64 n] w (BdOut2 (nbD h n).dt (bnB h n) w) := (newband_spec w h n).mono fun e w' h => bd_out2 h
theorem impl_NewBand (w : World) (h n : Int) : Calls Try.prog 12 #[.int .i64 h, .int .i64 n] w (BdOut2 (nbD h n).dt (bnB h n) w) := (newband_impl w h n).mono fun e w' h => bd_out2 h
theorem bulk_dt (b : Bd) : bulkL b.dt = b.base.length + tot b.base + (b.objs.length + bulkL (dO b.objs)) := by
  simp only [Bd.dt, bulkL, Dt.bulk, len_dR, len_dO, bulk_dR]; omega
theorem tot_of32 {R : List (List Int)} (h : ∀ r ∈ R, r.length = 32) : tot R = R.length * 32 := by
  induction R with
  | nil => rfl
  | cons r R ih =>
    have e : tot (r :: R) = r.length + tot R := by simp [tot]
    rw [e, ih (fun x hx => h x (List.mem_cons_of_mem _ hx)), h r List.mem_cons_self, List.length_cons]; omega
theorem nbD_le (h n : Int) : bulkL (nbD h n).dt ≤ 1048576 := by
  rw [bulk_dt]
  unfold nbD
  split
  · rename_i hb
    obtain ⟨b0, b1, b2, b3, b4, b5⟩ := bn_rows hb
    show (whR h).length + tot (whR h) + (0 + 0) ≤ 1048576
    rw [tot_of32 (whR_32 h), whR_len]; omega
  · show 0 + tot [] + (0 + 0) ≤ 1048576
    simp [tot]
end Go.Proofs.Ytbdjnfnphilklaa.Own
