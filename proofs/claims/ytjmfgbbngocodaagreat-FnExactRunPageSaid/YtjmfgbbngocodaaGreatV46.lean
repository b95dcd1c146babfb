/-
  Texts of this seat, laid together: SpK, SpL
-/
import Derived.Test.YtjmfgbbngocodaaGreatV37
import Derived.Test.YtjmfgbbngocodaaGreatV43
import Derived.Test.YtjmfgbbngocodaaGreatV38
import Derived.Test.YtjmfgbbngocodaaGreatV44
import Derived.Test.YtjmfgbbngocodaaGreatV13
import Derived.Test.YtjmfgbbngocodaaGreatV45
import Derived.Test.YtjmfgbbngocodaaGreatV33
namespace Go.Proofs.YtjmfgbbngocodaaGreat.Own
open Go.ChangeShapes Go.WideShapes Go.ChangeAt Go.RowKit
open Kit Slabs Ints Stack Point Turn Join Pts Box Push Take Opn SOp
set_option linter.unusedVariables false
set_option linter.unusedSimpArgs false
set_option linter.unnecessarySimpa false
set_option maxRecDepth 100000
attribute [local go_sem ↓] hload_Graphics hload_Object hstore_Graphics hstore_Object hload_Page hstore_Page
def opS (k : Nat) (P : Pg) (x : Nat → Int) : Option Pg := if k = 4 then (if P.now.path.length < 3 then none else some (filM P)) else opM k P x
def isDr (k : Nat) : Bool := k == 0 || k == 1 || k == 2 || k == 3 || k == 4 || k == 6
theorem sp_draw {w : World} {B X : Nat} {P : Pg} (h : PgAt w B X P) (hB : B ≤ w.heap.size) (hX : B ≤ X) (hf : PgFit P) (s : ByteArray) (k : Nat) (hs : opN s = some k) (hd : isDr k = true) {Bt : Nat} {u : Value} {x : Nat → Int} (hu : w.ownsRow Bt 3 1 u (opK k) (flat (ic x) (opK k))) (hap : ∀ b ∈ rowL u, b ≠ X ∧ ∀ v, w.cell? ⟨X, 5, none⟩ = some v → b ∉ rowL v)
    (hx : ∀ i, i < opK k → -9999 ≤ x i ∧ x i ≤ 9999) : Calls Tryz.prog 31 #[.pointer (some ⟨X, 0, none⟩), .string s, u] w (OpRes B X (opS k P x) w) := by
  have hc : k = 0 ∨ k = 1 ∨ k = 2 ∨ k = 3 ∨ k = 4 ∨ k = 6 := by simp [isDr] at hd; omega
  rcases hc with rfl | rfl | rfl | rfl | rfl | rfl
  · exact sp_new h hB hX s hs u
  · obtain ⟨g, c, rfl, hg, hr, hn⟩ := row_nums hu (by decide)
    exact sp_move h hB hX hf.tok s hs g c (x 0) (x 1) hg (hn 0 (by decide)) (hn 1 (by decide)) (hx 0 (by decide)) (hx 1 (by decide))
  · obtain ⟨g, c, rfl, hg, hr, hn⟩ := row_nums hu (by decide)
    exact sp_line h hB hX hf.path hf.tok s hs g c (x 0) (x 1) hg (hap g hr).1 (hap g hr).2 (hn 0 (by decide)) (hn 1 (by decide)) (hx 0 (by decide)) (hx 1 (by decide))
  · obtain ⟨g, c, rfl, hg, hr, hn⟩ := row_nums hu (by decide)
    exact sp_rect h hB hX hf.tok s hs g c (x 0) (x 1) (x 2) (x 3) hg (hn 0 (by decide)) (hn 1 (by decide)) (hn 2 (by decide)) (hn 3 (by decide)) (hx 0 (by decide)) (hx 1 (by decide))
  · exact sp_fill h hB hX hf.objs s hs u
  · exact sp_clip h hB hX hf.path s hs u
theorem sp_change {w : World} {B X : Nat} {P : Pg} (h : PgAt w B X P) (hB : B ≤ w.heap.size) (hX : B ≤ X) (hf : PgFit P) (s : ByteArray) (k : Nat) (hs : opN s = some k) (hd : isDr k = false) {Bt : Nat} {u : Value} {x : Nat → Int} (hu : w.ownsRow Bt 3 1 u (opK k) (flat (ic x) (opK k))) : Calls Tryz.prog 32 #[.pointer (some ⟨X, 0, none⟩), .string s, u] w (OpRes B X (opS k P x) w) := by
  have hk := opN_le hs
  have hc : k = 5 ∨ k = 7 ∨ k = 8 ∨ k = 9 ∨ k = 10 ∨ k = 11 := by simp [isDr] at hd; omega
  rcases hc with rfl | rfl | rfl | rfl | rfl | rfl
  · obtain ⟨g, c, rfl, hg, hr, hn⟩ := row_nums hu (by decide)
    exact sp_gray h hB hX s hs g c (x 0) hg (hn 0 (by decide))
  · exact sp_save h hB hX hf.bulk hf.saved s hs u
  · exact sp_restore h hB hX hf.saved s hs u
  · obtain ⟨g, c, rfl, hg, hr, hn⟩ := row_nums hu (by decide)
    exact sp_shift h hB hX s hs g c (x 0) (x 1) 0 1 (x 0) (x 1) rfl rfl rfl rfl hg (hn 0 (by decide)) (hn 1 (by decide))
  · obtain ⟨g, c, rfl, hg, hr, hn⟩ := row_nums hu (by decide)
    exact sp_turn h hB hX s hs g c (x 0) (x 0) 1 0 0 rfl rfl rfl rfl hg (hn 0 (by decide))
  · obtain ⟨g, c, rfl, hg, hr, hn⟩ := row_nums hu (by decide)
    exact sp_scale h hB hX s hs g c (x 0) 0 (x 0) 0 0 rfl rfl rfl rfl hg (hn 0 (by decide))
def tkN (s : ByteArray) : Int := match opN s with
  | some k => (opK k : Nat)
  | none => -1
theorem nm12_none {s : ByteArray} (h : opN s = none) : (s.toList == [110, 101, 119]) = false ∧ (s.toList == [109, 111, 118, 101, 116, 111]) = false ∧ (s.toList == [108, 105, 110, 101, 116, 111]) = false ∧ (s.toList == [114, 101, 99, 116]) = false ∧ (s.toList == [102, 105, 108, 108]) = false ∧ (s.toList == [103, 114, 97, 121]) = false ∧ (s.toList == [99, 108, 105, 112]) = false ∧ (s.toList == [115, 97, 118, 101]) = false ∧ (s.toList == [114, 101, 115, 116, 111, 114, 101]) = false ∧ (s.toList == [115, 104, 105, 102, 116]) = false ∧ (s.toList == [116, 117, 114, 110]) = false ∧ (s.toList == [115, 99, 97, 108, 101]) = false := by
  unfold opN at h
  by_cases e0 : (s.toList == [110, 101, 119]) = true
  · rw [if_pos e0] at h; cases h
  rw [if_neg e0] at h
  by_cases e1 : (s.toList == [109, 111, 118, 101, 116, 111]) = true
  · rw [if_pos e1] at h; cases h
  rw [if_neg e1] at h
  by_cases e2 : (s.toList == [108, 105, 110, 101, 116, 111]) = true
  · rw [if_pos e2] at h; cases h
  rw [if_neg e2] at h
  by_cases e3 : (s.toList == [114, 101, 99, 116]) = true
  · rw [if_pos e3] at h; cases h
  rw [if_neg e3] at h
  by_cases e4 : (s.toList == [102, 105, 108, 108]) = true
  · rw [if_pos e4] at h; cases h
  rw [if_neg e4] at h
  by_cases e5 : (s.toList == [103, 114, 97, 121]) = true
  · rw [if_pos e5] at h; cases h
  rw [if_neg e5] at h
  by_cases e6 : (s.toList == [99, 108, 105, 112]) = true
  · rw [if_pos e6] at h; cases h
  rw [if_neg e6] at h
  by_cases e7 : (s.toList == [115, 97, 118, 101]) = true
  · rw [if_pos e7] at h; cases h
  rw [if_neg e7] at h
  by_cases e8 : (s.toList == [114, 101, 115, 116, 111, 114, 101]) = true
  · rw [if_pos e8] at h; cases h
  rw [if_neg e8] at h
  by_cases e9 : (s.toList == [115, 104, 105, 102, 116]) = true
  · rw [if_pos e9] at h; cases h
  rw [if_neg e9] at h
  by_cases e10 : (s.toList == [116, 117, 114, 110]) = true
  · rw [if_pos e10] at h; cases h
  rw [if_neg e10] at h
  by_cases e11 : (s.toList == [115, 99, 97, 108, 101]) = true
  · rw [if_pos e11] at h; cases h
  rw [if_neg e11] at h
  simp only [Bool.not_eq_true] at *
  exact ⟨e0, e1, e2, e3, e4, e5, e6, e7, e8, e9, e10, e11⟩
set_option maxHeartbeats 4000000 in
theorem tk_spec (s : ByteArray) (w : World) : Calls Tryz.prog 26 #[.string s] w fun e w' => e = .returned (.int .i64 (tkN s)) ∧ w = w' := by
  cases hk : opN s with
  | none =>
    obtain ⟨q0, q1, q2, q3, q4, q5, q6, q7, q8, q9, q10, q11⟩ := nm12_none hk
    rw [show tkN s = -1 by simp [tkN, hk]]
    clear hk
    go_enter Tryz.func26, Tryz.ntmps26
    go_wp2
    go_ret
    exact ⟨rfl, rfl⟩
  | some k =>
    rw [show tkN s = (opK k : Nat) by simp [tkN, hk]]
    have hc : k = 0 ∨ k = 1 ∨ k = 2 ∨ k = 3 ∨ k = 4 ∨ k = 5 ∨ k = 6 ∨ k = 7 ∨ k = 8 ∨ k = 9 ∨ k = 10 ∨ k = 11 := by have := opN_le hk; omega
    rcases hc with rfl | rfl | rfl | rfl | rfl | rfl | rfl | rfl | rfl | rfl | rfl | rfl
    all_goals
      obtain ⟨q0, q1, q2, q3, q4, q5, q6, q7, q8, q9, q10, q11⟩ := nm12 hk
      clear hk
      go_enter Tryz.func26, Tryz.ntmps26
      go_wp2
      go_ret
      exact ⟨rfl, rfl⟩
def exS (P : Pg) (s : ByteArray) (m : Int) : Option Pg :=
  if s.toList.isEmpty = true then (if puB (xI P.now.st) P.now.st.length m = true then some (stkM P (lst (pt (xI P.now.st) P.now.st.length m) (P.now.st.length + 1))) else none)
  else if opB s = true then (if soB (xI P.now.st) P.now.st.length s = true then some (stkM P (lst (soY (xI P.now.st) P.now.st.length s) (soM (xI P.now.st) P.now.st.length s))) else none)
  else match opN s with
    | none => none
    | some k => if taB (xI P.now.st) P.now.st.length (opK k : Nat) = true then opS k (stkM P (lst (xI P.now.st) (P.now.st.length - opK k))) (fun i => xI P.now.st (P.now.st.length - opK k + i)) else none
theorem opS_filter (k : Nat) (P : Pg) (x : Nat → Int) : (opS k P x).filter (fun p => pgB p) = (opM k P x).filter (fun p => pgB p) := by
  unfold opS
  split
  · rename_i e
    subst e
    split
    · rename_i hl
      have hb : pgB (filM P) = false := by
        have : obB (obM P.now) = false := by
          have : ¬ 3 ≤ (obM P.now).path.length := by show ¬ 3 ≤ P.now.path.length; omega
          simp [obB, this]
        simp [pgB, filM, List.all_append, this]
      show none = (some (filM P)).filter _
      simp [Option.filter, hb]
    · rfl
  · rfl
theorem exS_filter (P : Pg) (s : ByteArray) (m : Int) : (exS P s m).filter (fun p => pgB p) = (exP P s m).filter (fun p => pgB p) := by
  unfold exS exP
  split
  · rfl
  split
  · rfl
  cases hk : opN s with
  | none => rfl
  | some k =>
    simp only
    split
    · exact opS_filter _ _ _
    · rfl
theorem opS_of {k : Nat} {P P' : Pg} {x : Nat → Int} (h : opS k P x = some P') : opM k P x = some P' := by
  unfold opS at h
  split at h
  · rename_i e
    subst e
    split at h
    · cases h
    · exact h
  · exact h
theorem exS_of {P P' : Pg} {s : ByteArray} {m : Int} (h : exS P s m = some P') : exP P s m = some P' := by
  unfold exS at h
  unfold exP
  split at h
  · rename_i e; rw [if_pos e]; exact h
  rename_i e
  rw [if_neg e]
  split at h
  · rename_i e; rw [if_pos e]; exact h
  rename_i e
  rw [if_neg e]
  cases hk : opN s with
  | none => rw [hk] at h; cases h
  | some k =>
    rw [hk] at h
    simp only at h ⊢
    split at h
    · rename_i e; rw [if_pos e]; exact opS_of h
    · cases h
end Go.Proofs.YtjmfgbbngocodaaGreat.Own

namespace Go.Proofs.YtjmfgbbngocodaaGreat.Own
open Go.ChangeShapes Go.WideShapes Go.ChangeAt Go.RowKit
open Kit Slabs Ints Stack Point Turn Push Take Opn SOp Scan
set_option linter.unusedVariables false
set_option linter.unusedSimpArgs false
set_option linter.unnecessarySimpa false
set_option maxRecDepth 100000
attribute [local go_sem ↓] hload_Graphics hload_Object hstore_Graphics hstore_Object hload_Page hstore_Page
theorem exR_S (p : Pg) (s : ByteArray) (m : Int) : exR p s m = if (pgB p && tkB s m) = true then (exS p s m).filter (fun p => pgB p) else none := by rw [exS_filter]; rfl
theorem st_of {w : World} {A : Array Value} {p : Pg} {fp : List Nat} (h : OwnL w LPage A.toList p.dt fp) : ∃ a0 c0 f, A.toList[0]? = some (.slice a0 p.now.st.length c0) ∧ Own w (.sl .int) [.slice a0 p.now.st.length c0] (.sl (dI p.now.st)) f := by
  obtain ⟨G, a11, c11, a12, c12, f0, f11, f12, hA, hf, o0, o11, o12⟩ := inv_Page_ (by rfl) h
  obtain ⟨a0, c0, a5, c5, g0, g5, hG, hf0, q0, q5⟩ := inv_Graphics_ o0
  simp only [len_dI] at hG q0
  exact ⟨a0, c0, _, by rw [hA, hG]; rfl, q0⟩
set_option maxHeartbeats 8000000 in
theorem exec_bad (w : World) {A : Array Value} {p : Pg} {fp : List Nat} (hb : bulkL p.dt ≤ 1048576) (h : OwnL w LPage A.toList p.dt fp) (s : ByteArray) (m : Int) (hz : s.size ≤ 1048576) (hbad : (pgB p && tkB s m) = false) :
    Calls Tryz.prog 7 #[.agg A, .agg #[.string s, .int .i64 m]] w (ExNew p s m w) := by
  obtain ⟨W, hW⟩ : ∃ W, (((w.alloc (.cells A 46)).alloc (.cells #[.string s, .int .i64 m] 50)).alloc (.cells #[.slice none 0 0, .int .i64 0, .int .i64 0, .int .i64 0, .int .i64 0, .slice none 0 0, .int .i64 0, .int .i64 0, .int .i64 0, .int .i64 0, .int .i64 0, .slice none 0 0, .slice none 0 0] 46)) = W := ⟨_, rfl⟩
  have BA : Blk W w.heap.size A.toList := by rw [← hW]; exact ((Blk.new w A 46 rfl).alloc _).alloc _
  have BT : Blk W (w.heap.size + 1) [.string s, .int .i64 m] := by rw [← hW]; exact (Blk.new (w.alloc (.cells A 46)) #[.string s, .int .i64 m] 50 (by simp)).alloc _
  have BR : Blk W (w.heap.size + 2) zeroP.toList := by rw [← hW]; exact Blk.new ((w.alloc (.cells A 46)).alloc (.cells #[.string s, .int .i64 m] 50)) zeroP 46 (by simp)
  have bW : Below w.heap.size w W := by rw [← hW]; go_grown
  obtain ⟨GP, hGP⟩ : ∃ x, w.heap.size = x := ⟨_, rfl⟩
  obtain ⟨GT, hGT⟩ : ∃ x, GP + 1 = x := ⟨_, rfl⟩
  obtain ⟨GR, hGR⟩ : ∃ x, GT + 1 = x := ⟨_, rfl⟩
  have HG := Lib.hid (fun (V : World) (hV : Below W.heap.size W V) => (show (Blk V GP A.toList ∧ Blk V GT [.string s, .int .i64 m] ∧ Blk V GR zeroP.toList) ∧ Below w.heap.size w V from by
    rw [← hGR, ← hGT, ← hGP]
    exact ⟨⟨BA.keep hV, BT.keep hV, BR.keep hV⟩, on_of bW hV⟩))
  have HA := Lib.hid (fun (V : World) (hV : Below w.heap.size w V) => h.under hV)
  have HL := Lib.hid (fun (V : World) (hV : Blk V GP A.toList) => var_load (P := Tryz.prog) (T := 46) Tryz.isAgg46 Tryz.sizeOf46 hV h rfl)
  have gGR : w.heap.size ≤ GR := by omega
  have HF := Lib.hid (fun (V w1 : World) (hV : Below W.heap.size W V) (b1 : Below V.heap.size V w1) (R : Array Value) (F : List Nat) (pr : PgRows w1 V.heap.size R.toList p F) (hr : exR p s m = none) => (show ∃ E, (hstore 46 ⟨GR, 0, none⟩ (.agg R)).run Tryz.prog w1 = .ok () E ∧ (hload 46 ⟨GR, 0, none⟩).run Tryz.prog E = .ok (.agg R) E ∧ ExNew p s m w (.returned (.tuple #[.agg R, .bool false])) E from by
    obtain ⟨f, o, n, sb⟩ := pr.own
    obtain ⟨E, st, ld, oE, nE, gE, bE⟩ := store_res (HG.out V hV).2 b1 (HG.out V hV).1.2.2 gGR o n (fun b hb => pr.ge b (sb b hb))
    obtain ⟨e1, e2⟩ := ex_same hr
    exact ⟨E, st, ld, R, f, by rw [e1], by rw [e2]; exact oE, nE, gE, bE⟩))
  obtain ⟨sa, sc, sf, hA0, so⟩ := st_of h
  obtain ⟨n, hN⟩ : ∃ n, p.now.st.length = n := ⟨_, rfl⟩
  obtain ⟨Y, hY⟩ : ∃ Y, xI p.now.st = Y := ⟨_, rfl⟩
  have HSt := Lib.hid (fun (V : World) (hV : Below W.heap.size W V) => (show V.cell? ⟨GP, 0, none⟩ = some (.slice sa n sc) ∧ Rd V (.slice sa n sc) n Y from by
    rw [← hN, ← hY]
    exact ⟨(HG.out V hV).1.1.1 0 _ hA0, rd_of (so.under (HG.out V hV).2)⟩))
  have HNY := Lib.hid (And.intro hN hY)
  clear hA0 so hN hY
  have HB := Lib.hid hb
  have HGT := Lib.hid hGT
  have HGR := Lib.hid hGR
  clear BA BT BR hb hGT hGR
  go_enter Tryz.func7, Tryz.ntmps7
  go_upto_region 1 with (fail)
  have zW : w.heap.size ≤ W.heap.size := bW.size
  have gPW : GP < W.heap.size := (HG.out W (Below.refl _ _)).1.1.2.2
  have HbW := Lib.hid bW
  rw [HGT.out, HGR.out]
  clear hW hGP HGT HGR bW h
  have ra := HL.out W (HG.out W (Below.refl _ _)).1.1
  have HP := Lib.hid (fun (V : World) (hV : Below W.heap.size W V) => pg_spec V HB.out (HA.out V (HG.out V hV).2))
  have HCl := Lib.hid (fun (V : World) (hV : Below W.heap.size W V) => copy_Page V HB.out (HA.out V (HG.out V hV).2))
  cases hv : pgB p
  · have hr : exR p s m = none := by simp [exR, hv]
    rw [hv] at HP
    go_wp2_with fail
    ((with_reducible refine (HP.out W (Below.refl _ _)).mono ?_); rintro e w1 ⟨rfl, b1⟩)
    have r1 := HL.out w1 (HG.out w1 b1).1.1
    have HB1 := Lib.hid b1
    clear ra b1
    go_wp2_with fail
    ((with_reducible refine (HCl.out w1 HB1.out).mono ?_); rintro e w2 ⟨R, F, rfl, pr, b2⟩)
    obtain ⟨E, st, ld, hE⟩ := HF.out w1 w2 HB1.out b2 R F pr hr
    have HE := Lib.hid hE
    clear r1 pr b2 hE
    go_wp2
    refine bodyPost_ret (results_h2 Tryz.results7 (by rfl) (by rfl) ld) rfl ?_
    exact HE.out
  · rw [hv] at HP
    have HT := Lib.hid (fun (V : World) => tok_spec s m V (by omega))
    cases hk : tkB s m
    · have hr : exR p s m = none := by simp [exR, hk]
      rw [hk] at HT
      go_wp2_with fail
      ((with_reducible refine (HP.out W (Below.refl _ _)).mono ?_); rintro e w1 ⟨rfl, b1⟩)
      have t0 := (HG.out w1 b1).1.2.1.1 0 _ rfl
      have t1 := (HG.out w1 b1).1.2.1.1 1 _ rfl
      have HB1 := Lib.hid b1
      clear ra b1
      go_wp2_with fail
      ((with_reducible refine (HT.out w1).mono ?_); rintro e w2 ⟨rfl, b2⟩)
      have b2 := on_of HB1.out b2
      have r2 := HL.out w2 (HG.out w2 b2).1.1
      have HB2 := Lib.hid b2
      clear t0 t1 b2
      go_wp2_with fail
      ((with_reducible refine (HCl.out w2 HB2.out).mono ?_); rintro e w3 ⟨R, F, rfl, pr, b3⟩)
      obtain ⟨E, st, ld, hE⟩ := HF.out w2 w3 HB2.out b3 R F pr hr
      have HE := Lib.hid hE
      clear r2 pr b3 hE
      go_wp2
      refine bodyPost_ret (results_h2 Tryz.results10 (by rfl) (by rfl) ld) rfl ?_
      exact HE.out
    · rw [hv, hk] at hbad; cases hbad
end Go.Proofs.YtjmfgbbngocodaaGreat.Own

