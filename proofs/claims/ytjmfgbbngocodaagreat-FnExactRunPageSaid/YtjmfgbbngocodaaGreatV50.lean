/-
  Texts of this seat, laid together: SpS, RpC, Law9
-/
import Derived.Test.YtjmfgbbngocodaaGreatV47
import Derived.Test.YtjmfgbbngocodaaGreatV48
import Derived.Test.YtjmfgbbngocodaaGreatV49
import Derived.Test.YtjmfgbbngocodaaGreatV14
namespace Go.Proofs.YtjmfgbbngocodaaGreat.Own
open Go.ChangeShapes Go.WideShapes Go.ChangeAt Go.RowKit
open Kit Slabs Ints Stack Point Turn Push Take Opn SOp Scan
set_option linter.unusedVariables false
set_option linter.unusedSimpArgs false
set_option linter.unnecessarySimpa false
set_option maxRecDepth 100000
attribute [local go_sem ↓] hload_Graphics hload_Object hstore_Graphics hstore_Object hload_Page hstore_Page
theorem exec_spec (w : World) {A : Array Value} {p : Pg} {fp : List Nat} (hb : bulkL p.dt ≤ 1048576) (h : OwnL w LPage A.toList p.dt fp) (s : ByteArray) (m : Int) (hz : s.size ≤ 1048576) :
    Calls Tryz.prog 7 #[.agg A, .agg #[.string s, .int .i64 m]] w (ExNew p s m w) := by
  cases hbad : (pgB p && tkB s m)
  · exact exec_bad w hb h s m hz hbad
  rw [Bool.and_eq_true] at hbad
  obtain ⟨hv, hk⟩ := hbad
  cases hs : s.toList.isEmpty
  · cases ho : opB s
    · cases hkk : opN s with
      | none => exact exec_none w hb h s m hz hv hk hs ho hkk
      | some k =>
        cases hvv : taB (xI p.now.st) p.now.st.length (opK k : Nat)
        · exact exec_short w hb h s m hz hv hk hs ho k hkk hvv
        cases hd : isDr k
        · exact exec_change w hb h s m hz hv hk hs ho k hkk hvv hd
        · exact exec_draw w hb h s m hz hv hk hs ho k hkk hvv hd
    · exact exec_so w hb h s m hz hv hk hs ho
  · exact exec_push w hb h s m hz hv hk hs
end Go.Proofs.YtjmfgbbngocodaaGreat.Own

namespace Go.Proofs.YtjmfgbbngocodaaGreat.Own
open Go.ChangeShapes Go.WideShapes Go.ChangeAt Go.RowKit
open Kit Slabs Recs Ints Stack Point Turn
open Go.Proofs.YtjmfgbbngocodaaGreat.Blk (Tok Rdt FbIs FbLeft toL toL_len cellsL)
set_option linter.unusedVariables false
set_option linter.unusedSimpArgs false
set_option linter.unnecessarySimpa false
set_option maxRecDepth 100000
attribute [local go_sem ↓] hload_Graphics hload_Object hstore_Graphics hstore_Object hload_Page hstore_Page
theorem blk_at {W w5 : World} {T : TypeId} (b : Below (W.alloc (.cells zeroP T)).drew.heap.size (W.alloc (.cells zeroP T)).drew w5) : Blk w5 W.heap.size zeroP.toList := (show Blk (W.alloc (.cells zeroP T)).drew W.heap.size zeroP.toList from Blk.new W zeroP T rfl).keep b
set_option maxHeartbeats 8000000 in
theorem run_spec (w : World) {v : Value} {es : List Dt} {fp : List Nat} (hb : es.length + bulkL es ≤ 1048576) (h : Own w (.sl KToken) [v] (.sl es) fp) {A : List Tok} {B : Bool} (hA : FbIs (tokL es) A B) :
    Calls Tryz.prog 15 #[v] w (RpNew (rpF A B) w) := by
  have hsz := tokL_size h (by omega)
  have hAs : ∀ t ∈ A, t.1.size ≤ 1048576 := fun t ht => hsz t (fb_mem hA t ht)
  have hAl := Go.Proofs.YtjmfgbbngocodaaGreat.Blk.fb_bound hA
  have hRd := rdt_own h
  obtain ⟨W0, hW0⟩ : ∃ W0, w.alloc (.cells #[.slice none 0 0, .int .i64 0, .int .i64 0, .int .i64 0, .int .i64 0, .slice none 0 0, .int .i64 0, .int .i64 0, .int .i64 0, .int .i64 0, .int .i64 0, .slice none 0 0, .slice none 0 0] 46) = W0 := ⟨_, rfl⟩
  have BR : Blk W0 w.heap.size zeroP.toList := by rw [← hW0]; exact Blk.new w zeroP 46 rfl
  have bW : Below w.heap.size w W0 := by rw [← hW0]; go_grown
  have zW : W0.heap.size = w.heap.size + 1 := by rw [← hW0]; simp
  obtain ⟨GR, hGR⟩ : ∃ x, w.heap.size = x := ⟨_, rfl⟩
  have HFb := Lib.hid (Go.Proofs.YtjmfgbbngocodaaGreat.Blk.fb_spec W0 v (tokL es) (by rw [tokL_len]; omega) (fun t ht => by have := hsz t ht; omega) (hRd.on bW) A B hA)
  have gGR : w.heap.size ≤ GR := by omega
  have HBR := Lib.hid (show Blk W0 GR zeroP.toList from hGR ▸ BR)
  have HbW := Lib.hid bW
  have HZ := Lib.hid zW
  have HST := Lib.hid (fun (w1 : World) (b1 : Below W0.heap.size W0 w1) (R : Array Value) (p : Pg) (f : List Nat) (o : OwnL w1 LPage R.toList p.dt f) (n : f.Nodup) (g : ∀ b ∈ f, W0.heap.size ≤ b) => store_res HbW.out b1 HBR.out gGR o n g)
  clear h hb hsz hRd BR bW
  cases B
  · go_enter Tryz.func15, Tryz.ntmps15
    go_upto_region 1 with (fail)
    clear hW0 hGR zW
    go_wp2_with fail
    ((with_reducible refine (HFb.out).mono ?_); rintro e w1 ⟨u, rfl, _, b1⟩)
    obtain ⟨E, st, ld, oE, nE, gE, bE⟩ := HST.out w1 b1 zeroP zeroPg [] (own_zero w1) List.nodup_nil (fun b hb => absurd hb List.not_mem_nil)
    have HE := Lib.hid (show RpNew (rpF A false) w (.returned (.tuple #[.agg zeroP, .int .i64 (-1)])) E from ⟨zeroP, [], rfl, oE, nE, gE, bE⟩)
    clear b1 oE nE gE bE
    go_wp2
    refine bodyPost_ret (results_h2 Tryz.results15 (by rfl) (by rfl) ld) rfl ?_
    exact HE.out
  · obtain ⟨n, hn⟩ : ∃ n, A.length = n := ⟨_, rfl⟩
    have HN := Lib.hid hn
    rw [hn] at hAl
    go_enter Tryz.func15, Tryz.ntmps15
    go_upto_region 1 with (fail)
    clear hW0 hGR zW hn
    go_wp2_with fail
    ((with_reducible refine (HFb.out).mono ?_); rintro e w1 ⟨u, rfl, r1, b1⟩)
    obtain ⟨ua, uc, rfl⟩ := row_sl r1
    rw [HN.out]
    go_wp2_with fail
    ((with_reducible refine (spec_NewPage _).mono ?_); rintro e w2 ⟨R, f, rfl, o, nf, gf, b2⟩)
    obtain ⟨E, st, BX, cx, zx⟩ := var_new (P := Tryz.prog) (T := 46) Tryz.sizeOf46 w2 zeroP rfl o rfl
    have z1 := b1.size
    have z2 := b2.size
    obtain ⟨X, hX⟩ : ∃ X, w2.heap.size = X := ⟨_, rfl⟩
    rw [hX] at st BX
    have HI := Lib.hid (show RpAt W0 X (.slice ua A.length uc) A newP E from ⟨R, f, BX, o.under cx, nf, (fun hx => by have := o.lt X hx; omega), (fun b hb => by have := gf b hb; omega), on_of (on_of b1 b2) cx, by omega, row_on (row_on r1 b2) cx, (fun hx => by have := (rowL_ge r1 X hx).2; omega)⟩)
    rw [HN.out] at HI
    have gX : GR < X := by have := HBR.out.2.2; omega
    clear r1 b1 o nf gf b2 BX cx zx
    go_upto_region 5 with (fail)
    clear st hX
    go_wp2_with fail
    go_loopw [7] (fun v20 wr => ∃ (k : Nat) (q : Pg), k ≤ n ∧ v20 = .int .i64 (k : Int) ∧ bulkL q.dt ≤ 1048576 ∧ runT newP A 0 = runT q (A.drop k) k ∧ RpAt W0 X (.slice ua n uc) A q wr) (fun v20 _ => n - (intOf v20).toNat)
    case atStart => exact ⟨0, newP, Nat.zero_le _, rfl, newP_le, rfl, HI.out⟩
    case round =>
      obtain ⟨k, q, hk, rfl, hq, hrun, hI⟩ := hrel
      have HI := Lib.hid hI
      have HRu := Lib.hid hrun
      clear hI hrun
      by_cases hlt : k < n
      · have hkl : k < A.length := by rw [HN.out]; exact hlt
        obtain ⟨g, rfl, -, c0, c1⟩ := HI.out.tok rfl hkl
        obtain ⟨s, hs⟩ : ∃ s, (A[k]).1 = s := ⟨_, rfl⟩
        obtain ⟨m, hm⟩ : ∃ m, (A[k]).2 = m := ⟨_, rfl⟩
        rw [hs] at c0
        rw [hm] at c1
        have hz : s.size ≤ 1048576 := by rw [← hs]; exact hAs _ (List.getElem_mem hkl)
        have hst := runT_step (p := q) hkl
        rw [hs, hm] at hst
        have HStep := Lib.hid (HRu.out.trans hst)
        have i0 : (0 : Int) ≤ (k : Int) := by omega
        have i1 : (k : Int) < (n : Int) := by omega
        clear hst hs hm HRu
        go_upto_region 8 with (fail)
        obtain ⟨Rq, fq, Bq, oq, _⟩ := HI.out
        have HSS := Lib.hid (fun (V : World) (hb : Below wr.heap.size wr V) => (show (hload 46 ⟨X, 0, none⟩).run Tryz.prog V = .ok (.agg Rq) V ∧ V.cell? ⟨g, k * 2, none⟩ = some (.string s) ∧ V.cell? ⟨g, k * 2 + 1, none⟩ = some (.int .i64 m) from ⟨var_load (P := Tryz.prog) (T := 46) Tryz.isAgg46 Tryz.sizeOf46 (Bq.keep hb) oq rfl, by
          obtain ⟨_, _, _, lgr⟩ := (show True ∧ True ∧ True ∧ g < wr.heap.size from ⟨trivial, trivial, trivial, World.block_lt_of_cell? wr _ c0⟩)
          exact ⟨(cell_on hb lgr).trans c0, (cell_on hb lgr).trans c1⟩⟩))
        have HX := Lib.hid (fun (V : World) (hb : Below wr.heap.size wr V) => exec_spec V hq (oq.under hb) s m hz)
        obtain ⟨v5, hv5⟩ : ∃ v, exB q s m = v := ⟨_, rfl⟩
        have HV5 := Lib.hid hv5
        have HD5 := Lib.hid (exD_le hq s m)
        rw [hv5] at HStep
        clear Bq oq c0 c1 hv5
        refine wp_region_held_drew (S := fun V => (hload 46 ⟨X, 0, none⟩).run Tryz.prog V = .ok (.agg Rq) V ∧ V.cell? ⟨g, k * 2, none⟩ = some (.string s) ∧ V.cell? ⟨g, k * 2 + 1, none⟩ = some (.int .i64 m)) (by kernel_rfl) (HSS.out _ (by go_grown)) (fun hHeld => ?_)
        refine wpAnyH_take (i := 0) (oi := _) (v := ?_) rfl (by kernel_rfl) (by kernel_rfl) (by kernel_rfl) (fun _ _ _ h => h) (Or.inl ⟨by rfl, ?_⟩) (by assumption) ?_
        rotate_left
        · (intro w hSw; (try dsimp only at hSw); go_simp; try with_reducible rfl)
        try simp only [Act.put, List.setIfInBounds_toArray, List.set_cons_zero, List.set_cons_succ]
        refine wpAnyH_take (i := 1) (oi := _) (v := ?_) rfl (by kernel_rfl) (by kernel_rfl) (by kernel_rfl) (fun _ _ _ h => h) (Or.inl ⟨by rfl, ?_⟩) (by assumption) ?_
        rotate_left
        · (intro w hSw; (try dsimp only at hSw); go_simp; try with_reducible rfl)
        try simp only [Act.put, List.setIfInBounds_toArray, List.set_cons_zero, List.set_cons_succ]
        refine wpAnyH_take (i := 2) (oi := _) (v := ?_) rfl (by kernel_rfl) (by kernel_rfl) (by kernel_rfl) (fun _ _ _ h => h) (Or.inl ⟨by rfl, ?_⟩) (by assumption) ?_
        rotate_left
        · (intro w hSw; (try dsimp only at hSw); go_simp; try with_reducible rfl)
        try simp only [Act.put, List.setIfInBounds_toArray, List.set_cons_zero, List.set_cons_succ]
        refine wpAnyH_take (i := 3) (oi := _) (v := ?_) rfl (by kernel_rfl) (by kernel_rfl) (by kernel_rfl) (fun _ _ _ h => h) (Or.inl ⟨by rfl, ?_⟩) (by assumption) ?_
        rotate_left
        · (intro w hSw; (try dsimp only at hSw); go_simp; try with_reducible rfl)
        try simp only [Act.put, List.setIfInBounds_toArray, List.set_cons_zero, List.set_cons_succ]
        refine wpAnyH_take (i := 4) (oi := _) (v := ?_) rfl (by kernel_rfl) (by kernel_rfl) (by kernel_rfl) (fun _ _ _ h => h) (Or.inl ⟨by rfl, ?_⟩) (by assumption) ?_
        rotate_left
        · (intro w hSw; (try dsimp only at hSw); go_simp; try with_reducible rfl)
        try simp only [Act.put, List.setIfInBounds_toArray, List.set_cons_zero, List.set_cons_succ]
        refine wpAnyH_ready (rs := [5, 9]) (by kernel_rfl) (by simp) ?_
        refine AllReadyH.cons (o := _) rfl (fun KK hKK => ?_) ?_
        · (go_simp; go_at_call 7; (with_reducible refine (HX.out _ (by go_grown)).mono ?_); rintro e w5 ⟨R5, f5, rfl, o5, n5, g5, b5⟩; rw [HV5.out]; (first | (have BZ := blk_at b5; obtain ⟨E8, st8, BX8, tt8⟩ := var_put (P := Tryz.prog) (T := 46) Tryz.sizeOf46 BZ rfl o5 rfl; have H8 := Lib.hid (put_all (on_of (show Below wr.heap.size wr _ from by go_grown) b5) o5 n5 g5 (Nat.le_refl _) (by simp) BX8 tt8)) | (obtain ⟨E8, st8, BX8, cx8, zx8⟩ := var_new (P := Tryz.prog) (T := 46) Tryz.sizeOf46 w5 zeroP rfl o5 rfl; have H8 := Lib.hid (put_late (on_of (show Below wr.heap.size wr _ from by go_grown) b5) o5 n5 g5 (show wr.heap.size ≤ wr.heap.size from Nat.le_refl _) BX8 cx8))); have H5 := Lib.hid (on_of (show Below wr.heap.size wr _ from by go_grown) b5); clear o5 n5 g5 b5)
          try go_wp2_with fail
          refine hKK.out _ _ ?_ (fun hHeld2 => ?_)
          · (try dsimp only); first | exact HSS.out _ H8.out.2.2.2.2.2.2.2 | exact HSS.out _ H5.out | exact HSS.out _ (H5.out.alloc H5.out.size _) | (refine HSS.out _ ?_; go_grown; done)
          refine wpAnyH_take (i := 6) (oi := _) (v := ?_) rfl (by kernel_rfl) (by kernel_rfl) (by kernel_rfl) (fun _ _ _ h => h) (Or.inl ⟨by rfl, ?_⟩) (by assumption) ?_
          rotate_left
          · (intro w hSw; (try dsimp only at hSw); go_simp; try with_reducible rfl)
          try simp only [Act.put, List.setIfInBounds_toArray, List.set_cons_zero, List.set_cons_succ]
          refine wpAnyH_take (i := 7) (oi := _) (v := ?_) rfl (by kernel_rfl) (by kernel_rfl) (by kernel_rfl) (fun _ _ _ h => h) (Or.inl ⟨by rfl, ?_⟩) (by assumption) ?_
          rotate_left
          · (intro w hSw; (try dsimp only at hSw); go_simp; try with_reducible rfl)
          try simp only [Act.put, List.setIfInBounds_toArray, List.set_cons_zero, List.set_cons_succ]
          refine wpAnyH_take (i := 8) (oi := _) (v := ?_) rfl (by kernel_rfl) (by kernel_rfl) (by kernel_rfl) (fun _ _ _ h => h) (Or.inl ⟨by rfl, ?_⟩) (by assumption) ?_
          rotate_left
          · (intro w hSw; (try dsimp only at hSw); go_simp; try with_reducible rfl)
          try simp only [Act.put, List.setIfInBounds_toArray, List.set_cons_zero, List.set_cons_succ]
          refine wpAnyH_ready (rs := [9]) (by kernel_rfl) (by simp) ?_
          refine AllReadyH.cons (o := _) rfl (fun KK hKK => ?_) AllReadyH.nil
          go_simp
          try go_wp2_with fail
          refine hKK.out _ _ ?_ (fun hHeld2 => ?_)
          · (try dsimp only); first | exact HSS.out _ H8.out.2.2.2.2.2.2.2 | exact HSS.out _ H5.out | exact HSS.out _ (H5.out.alloc H5.out.size _) | (refine HSS.out _ ?_; go_grown; done)
          refine wpAnyH_ready (rs := [10]) (by kernel_rfl) (by simp) ?_
          refine AllReadyH.cons (o := _) rfl (fun KK hKK => ?_) AllReadyH.nil
          go_simp
          try go_wp2_with fail
          refine hKK.out _ _ ?_ (fun hHeld2 => ?_)
          · (try dsimp only); first | exact HSS.out _ H8.out.2.2.2.2.2.2.2 | exact HSS.out _ H5.out | exact HSS.out _ (H5.out.alloc H5.out.size _) | (refine HSS.out _ ?_; go_grown; done)
          refine wpAnyH_take (i := 11) (oi := _) (v := ?_) rfl (by kernel_rfl) (by kernel_rfl) (by kernel_rfl) (fun _ _ _ h => h) (Or.inl ⟨by rfl, ?_⟩) (by assumption) ?_
          rotate_left
          · (intro w hSw; (try dsimp only at hSw); go_simp; try with_reducible rfl)
          try simp only [Act.put, List.setIfInBounds_toArray, List.set_cons_zero, List.set_cons_succ]
          refine wpAnyH_done (by kernel_rfl) ?_ _
          clear hHeld2
          clear st8
          obtain ⟨o8, n8, g8, nx8, B8, l8, z8, b8⟩ := H8.out
          cases v5
          · obtain ⟨R6, f6, B6, o6, n6, x6, g6, b6, _⟩ := HI.out.on b8
            have r6 := var_load (P := Tryz.prog) (T := 46) Tryz.isAgg46 Tryz.sizeOf46 B6 o6 rfl
            obtain ⟨E, st, ld, oE, nE, gE, bE⟩ := HST.out E8 b6 R6 _ f6 o6 n6 g6
            have HE := Lib.hid (show RpNew (rpF A true) w (.returned (.tuple #[.agg R6, .int .i64 (k : Int)])) E from by
              have e : rpF A true = (q, (k : Int)) := by
                rw [rpF, if_pos rfl, HStep.out, if_neg (by decide)]
              rw [e]
              exact ⟨R6, f6, rfl, oE, nE, gE, bE⟩)
            clear B6 o6 n6 x6 g6 b6 oE nE gE bE o8 n8 g8 nx8 B8 l8 z8 b8
            go_wp2
            refine bodyPost_ret (results_h2 Tryz.results15 (by rfl) (by rfl) ld) rfl ?_
            exact HE.out
          · have r8 := var_load (P := Tryz.prog) (T := 46) Tryz.isAgg46 Tryz.sizeOf46 B8 o8 rfl
            obtain ⟨E5, st5, HI5, _⟩ := HI.out.put b8 o8 n8 g8
            have H9 := Lib.hid HI5
            clear o8 n8 g8 nx8 B8 l8 z8 b8 HI5
            go_wp2
            go_roundw
            case rel => exact ⟨k + 1, exD q s m, by omega, by go_num, HD5.out, by simpa using HStep.out, H9.out⟩
            case measure => simp [intOf]; omega
        refine AllReadyH.cons (o := _) rfl (fun KK hKK => ?_) AllReadyH.nil
        go_simp
        try go_wp2_with fail
        refine hKK.out _ _ ?_ (fun hHeld2 => ?_)
        · (try dsimp only); first | exact HSS.out _ H8.out.2.2.2.2.2.2.2 | exact HSS.out _ H5.out | exact HSS.out _ (H5.out.alloc H5.out.size _) | (refine HSS.out _ ?_; go_grown; done)
        refine wpAnyH_ready (rs := [5]) (by kernel_rfl) (by simp) ?_
        refine AllReadyH.cons (o := _) rfl (fun KK hKK => ?_) AllReadyH.nil
        (go_simp; go_at_call 7; (with_reducible refine (HX.out _ (by go_grown)).mono ?_); rintro e w5 ⟨R5, f5, rfl, o5, n5, g5, b5⟩; rw [HV5.out]; (first | (have BZ := blk_at b5; obtain ⟨E8, st8, BX8, tt8⟩ := var_put (P := Tryz.prog) (T := 46) Tryz.sizeOf46 BZ rfl o5 rfl; have H8 := Lib.hid (put_all (on_of (show Below wr.heap.size wr _ from by go_grown) b5) o5 n5 g5 (Nat.le_refl _) (by simp) BX8 tt8)) | (obtain ⟨E8, st8, BX8, cx8, zx8⟩ := var_new (P := Tryz.prog) (T := 46) Tryz.sizeOf46 w5 zeroP rfl o5 rfl; have H8 := Lib.hid (put_late (on_of (show Below wr.heap.size wr _ from by go_grown) b5) o5 n5 g5 (show wr.heap.size ≤ wr.heap.size from Nat.le_refl _) BX8 cx8))); have H5 := Lib.hid (on_of (show Below wr.heap.size wr _ from by go_grown) b5); clear o5 n5 g5 b5)
        try go_wp2_with fail
        refine hKK.out _ _ ?_ (fun hHeld2 => ?_)
        · (try dsimp only); first | exact HSS.out _ H8.out.2.2.2.2.2.2.2 | exact HSS.out _ H5.out | exact HSS.out _ (H5.out.alloc H5.out.size _) | (refine HSS.out _ ?_; go_grown; done)
        refine wpAnyH_take (i := 6) (oi := _) (v := ?_) rfl (by kernel_rfl) (by kernel_rfl) (by kernel_rfl) (fun _ _ _ h => h) (Or.inl ⟨by rfl, ?_⟩) (by assumption) ?_
        rotate_left
        · (intro w hSw; (try dsimp only at hSw); go_simp; try with_reducible rfl)
        try simp only [Act.put, List.setIfInBounds_toArray, List.set_cons_zero, List.set_cons_succ]
        refine wpAnyH_take (i := 7) (oi := _) (v := ?_) rfl (by kernel_rfl) (by kernel_rfl) (by kernel_rfl) (fun _ _ _ h => h) (Or.inl ⟨by rfl, ?_⟩) (by assumption) ?_
        rotate_left
        · (intro w hSw; (try dsimp only at hSw); go_simp; try with_reducible rfl)
        try simp only [Act.put, List.setIfInBounds_toArray, List.set_cons_zero, List.set_cons_succ]
        refine wpAnyH_take (i := 8) (oi := _) (v := ?_) rfl (by kernel_rfl) (by kernel_rfl) (by kernel_rfl) (fun _ _ _ h => h) (Or.inl ⟨by rfl, ?_⟩) (by assumption) ?_
        rotate_left
        · (intro w hSw; (try dsimp only at hSw); go_simp; try with_reducible rfl)
        try simp only [Act.put, List.setIfInBounds_toArray, List.set_cons_zero, List.set_cons_succ]
        refine wpAnyH_ready (rs := [10]) (by kernel_rfl) (by simp) ?_
        refine AllReadyH.cons (o := _) rfl (fun KK hKK => ?_) AllReadyH.nil
        go_simp
        try go_wp2_with fail
        refine hKK.out _ _ ?_ (fun hHeld2 => ?_)
        · (try dsimp only); first | exact HSS.out _ H8.out.2.2.2.2.2.2.2 | exact HSS.out _ H5.out | exact HSS.out _ (H5.out.alloc H5.out.size _) | (refine HSS.out _ ?_; go_grown; done)
        refine wpAnyH_take (i := 11) (oi := _) (v := ?_) rfl (by kernel_rfl) (by kernel_rfl) (by kernel_rfl) (fun _ _ _ h => h) (Or.inl ⟨by rfl, ?_⟩) (by assumption) ?_
        rotate_left
        · (intro w hSw; (try dsimp only at hSw); go_simp; try with_reducible rfl)
        try simp only [Act.put, List.setIfInBounds_toArray, List.set_cons_zero, List.set_cons_succ]
        refine wpAnyH_done (by kernel_rfl) ?_ _
        clear hHeld2
        clear st8
        obtain ⟨o8, n8, g8, nx8, B8, l8, z8, b8⟩ := H8.out
        cases v5
        · obtain ⟨R6, f6, B6, o6, n6, x6, g6, b6, _⟩ := HI.out.on b8
          have r6 := var_load (P := Tryz.prog) (T := 46) Tryz.isAgg46 Tryz.sizeOf46 B6 o6 rfl
          obtain ⟨E, st, ld, oE, nE, gE, bE⟩ := HST.out E8 b6 R6 _ f6 o6 n6 g6
          have HE := Lib.hid (show RpNew (rpF A true) w (.returned (.tuple #[.agg R6, .int .i64 (k : Int)])) E from by
            have e : rpF A true = (q, (k : Int)) := by
              rw [rpF, if_pos rfl, HStep.out, if_neg (by decide)]
            rw [e]
            exact ⟨R6, f6, rfl, oE, nE, gE, bE⟩)
          clear B6 o6 n6 x6 g6 b6 oE nE gE bE o8 n8 g8 nx8 B8 l8 z8 b8
          go_wp2
          refine bodyPost_ret (results_h2 Tryz.results15 (by rfl) (by rfl) ld) rfl ?_
          exact HE.out
        · have r8 := var_load (P := Tryz.prog) (T := 46) Tryz.isAgg46 Tryz.sizeOf46 B8 o8 rfl
          obtain ⟨E5, st5, HI5, _⟩ := HI.out.put b8 o8 n8 g8
          have H9 := Lib.hid HI5
          clear o8 n8 g8 nx8 B8 l8 z8 b8 HI5
          go_wp2
          go_roundw
          case rel => exact ⟨k + 1, exD q s m, by omega, by go_num, HD5.out, by simpa using HStep.out, H9.out⟩
          case measure => simp [intOf]; omega
      · obtain rfl : n = k := by omega
        obtain ⟨R6, f6, B6, o6, n6, x6, g6, b6, _⟩ := HI.out
        have r6 := var_load (P := Tryz.prog) (T := 46) Tryz.isAgg46 Tryz.sizeOf46 B6 o6 rfl
        obtain ⟨E, st, ld, oE, nE, gE, bE⟩ := HST.out wr b6 R6 _ f6 o6 n6 g6
        have HE := Lib.hid (show RpNew (rpF A true) w (.returned (.tuple #[.agg R6, .int .i64 (n : Int)])) E from by
          have e : rpF A true = (q, (n : Int)) := by
            rw [rpF, if_pos rfl, HRu.out, runT_end (by rw [HN.out]; omega)]
          rw [e]
          exact ⟨R6, f6, rfl, oE, nE, gE, bE⟩)
        clear B6 o6 n6 x6 g6 b6 oE nE gE bE
        go_wp2
        refine bodyPost_ret (results_h2 Tryz.results15 (by rfl) (by rfl) ld) rfl ?_
        exact HE.out
end Go.Proofs.YtjmfgbbngocodaaGreat.Own

namespace Go.Proofs.YtjmfgbbngocodaaGreat.Own
open Go.ChangeShapes Go.WideShapes Go.ChangeAt Go.RowKit
open Kit Slabs
set_option linter.unusedVariables false
theorem run_told (es : List Dt) : ∃ (rd : List Dt) (ri : Int), bulkL rd ≤ 1048576 ∧
    (∀ (w : World) {v : Value} {fp : List Nat} (hb : es.length + bulkL es ≤ 1048576) (h : Own w (.sl KToken) [v] (.sl es) fp), Calls Tryz.prog 15 #[v] w fun e w' => ∃ (R : Array Value) (f : List Nat), e = .returned (.tuple #[.agg R, .int .i64 ri]) ∧ OwnL w' LPage R.toList rd f ∧ f.Nodup ∧ (∀ b ∈ f, w.heap.size ≤ b) ∧ Below w.heap.size w w') ∧
    (∀ (w : World) {v : Value} {fp : List Nat} (hb : es.length + bulkL es ≤ 1048576) (h : Own w (.sl KToken) [v] (.sl es) fp), Calls Tryz.prog 17 #[v] w fun e w' => ∃ (R : Array Value) (f : List Nat), e = .returned (.tuple #[.agg R, .int .i64 ri]) ∧ OwnL w' LPage R.toList rd f ∧ f.Nodup ∧ (∀ b ∈ f, w.heap.size ≤ b) ∧ Below w.heap.size w w') := by
  obtain ⟨A, B, hA⟩ := Go.Proofs.YtjmfgbbngocodaaGreat.Blk.fb_ex (tokL es)
  exact ⟨(rpF A B).1.dt, (rpF A B).2, rpF_le A B, fun w v fp hb h => run_spec w hb h hA, fun w v fp hb h => run_impl w hb h hA⟩
end Go.Proofs.YtjmfgbbngocodaaGreat.Own

