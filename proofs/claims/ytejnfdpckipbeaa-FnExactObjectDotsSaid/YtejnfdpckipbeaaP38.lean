/-
  Texts of this seat, laid together: Mv10, Mo10
-/
import Derived.Test.YtejnfdpckipbeaaP19
import Derived.Test.YtejnfdpckipbeaaP31
import Derived.Test.YtejnfdpckipbeaaP35
import Derived.Test.YtejnfdpckipbeaaP30
import Derived.Test.YtejnfdpckipbeaaP37
namespace Go.Proofs.Ytejnfdpckipbeaa.Ins
open Go.ChangeShapes Go.WideShapes Go.ChangeAt Go.RowKit
open Kit Point
open Go.Proofs.Ytejnfdpckipbeaa.Own (Blk Ob grayB)
set_option linter.unusedVariables false
set_option linter.unusedSimpArgs false
set_option linter.unnecessarySimpa false
set_option maxRecDepth 100000
theorem outl_sh (w : World) (a : Option Addr) (c : Nat) (l : List Pt) (dx dy : Int) (hn : l.length ≤ 1048576) (h : PathAt w a l) :
    Calls Try.prog 105 #[.slice a l.length c, .int .i64 dx, .int .i64 dy] w (ShI w (shV l (dx, dy))) := by
  have HC := Lib.hid (shift_impl w a c l dx dy hn h)
  clear h hn
  go_enter Try.func105, Try.ntmps105
  go_wp2_with fail
  ((with_reducible refine HC.out.mono ?_); rintro e w1 ⟨v, rfl, hv, bb⟩)
  go_wp2
  go_ret
  exact ⟨v, rfl, hv, bb⟩
def FgIs (w : World) (m : List Pt) (g x0 y0 x1 y1 : Int) (e : Ending) (w' : World) : Prop := ∃ va vc, e = .returned (.agg #[.slice va m.length vc, .int .i64 g, .int .i64 x0, .int .i64 y0, .int .i64 x1, .int .i64 y1]) ∧
  w'.ownsRow w.heap.size 89 2 (.slice va m.length vc) m.length (cellsP m) ∧ Below w.heap.size w w'
set_option maxHeartbeats 4000000 in
theorem fig_moved (w : World) (a : Option Addr) (c : Nat) (l : List Pt) (g x0 y0 x1 y1 dx dy : Int) (hn : l.length ≤ 1048576) (h : PathAt w a l) :
    Calls Try.prog 58 #[.agg #[.slice a l.length c, .int .i64 g, .int .i64 x0, .int .i64 y0, .int .i64 x1, .int .i64 y1], .int .i64 dx, .int .i64 dy] w
      (FgIs w (shV l (dx, dy)) g (IntKind.i64.wrap (x0 + dx)) (IntKind.i64.wrap (y0 + dy)) (IntKind.i64.wrap (x1 + dx)) (IntKind.i64.wrap (y1 + dy))) := by
  have c1 : ∀ W, PathAt W a l → Calls Try.prog 105 #[.slice a l.length c, .int .i64 dx, .int .i64 dy] W (ShI W (shV l (dx, dy))) := fun W h => outl_sh W a c l dx dy hn h
  have c2 : ∀ W, Calls Try.prog 106 #[.agg #[.int .i64 x0, .int .i64 y0, .int .i64 x1, .int .i64 y1], .int .i64 dx, .int .i64 dy] W fun e w' => e = .returned (.agg #[.int .i64 (IntKind.i64.wrap (x0 + dx)), .int .i64 (IntKind.i64.wrap (y0 + dy)), .int .i64 (IntKind.i64.wrap (x1 + dx)), .int .i64 (IntKind.i64.wrap (y1 + dy))]) ∧ Below W.heap.size W w' := fun W => box_shift ⟨x0, y0, x1, y1⟩ dx dy W
  generalize IntKind.i64.wrap (x0 + dx) = u0 at *
  generalize IntKind.i64.wrap (y0 + dy) = v0 at *
  generalize IntKind.i64.wrap (x1 + dx) = u1 at *
  generalize IntKind.i64.wrap (y1 + dy) = v1 at *
  generalize shV l (dx, dy) = m at *
  have HC := Lib.hid (And.intro c1 c2)
  have HP := Lib.hid h
  clear c1 c2 h hn
  go_enter Try.func58, Try.ntmps58
  go_upto_region 1 with fail
  refine gen_any9 (fun W => Blk W w.heap.size [.slice a l.length c, .int .i64 g, .int .i64 x0, .int .i64 y0, .int .i64 x1, .int .i64 y1] ∧ Blk W (w.heap.size + 1) [.slice none 0 0, .int .i64 0, .int .i64 0, .int .i64 0, .int .i64 0, .int .i64 0] ∧ Below w.heap.size w W) ⟨(Blk.new w #[.slice a l.length c, .int .i64 g, .int .i64 x0, .int .i64 y0, .int .i64 x1, .int .i64 y1] 76 rfl).alloc _, Blk.new _ #[.slice none 0 0, .int .i64 0, .int .i64 0, .int .i64 0, .int .i64 0, .int .i64 0] 76 (by simp), by go_grown⟩ ?_
  rintro W ⟨BA, BR, hW⟩
  have HS := Lib.hid (And.intro BA (And.intro BR hW))
  have HP := Lib.hid (HP.out.on hW)
  obtain ⟨GA, hGA⟩ : ∃ x, w.heap.size = x := ⟨_, rfl⟩
  obtain ⟨GR, hGR⟩ : ∃ x, w.heap.size + 1 = x := ⟨_, rfl⟩
  rw [hGA] at HS
  rw [show GA + 1 = GR by omega] at HS
  clear BA BR hW
  simp only [hGR]
  simp only [hGA]
  have gAW : GA < W.heap.size := HS.out.1.2.2
  have gRW : GR < W.heap.size := HS.out.2.1.2.2
  have gAR : GA < GR := by omega
  have hK : ∀ w', Below GR W w' → w'.cell? ⟨GA, 0, none⟩ = some (.slice a l.length c) ∧ w'.cell? ⟨GA, 1, none⟩ = some (.int .i64 g) ∧ w'.cell? ⟨GA, 2, none⟩ = some (.int .i64 x0) ∧ w'.cell? ⟨GA, 3, none⟩ = some (.int .i64 y0) ∧ w'.cell? ⟨GA, 4, none⟩ = some (.int .i64 x1) ∧ w'.cell? ⟨GA, 5, none⟩ = some (.int .i64 y1) ∧ Below GR W w' := fun w' hb =>
    have B := blk_low HS.out.1 gAR hb
    ⟨B.1 0 _ rfl, B.1 1 _ rfl, B.1 2 _ rfl, B.1 3 _ rfl, B.1 4 _ rfl, B.1 5 _ rfl, hb⟩
  have HK := Lib.hid hK
  clear hK
  have hC1 : ∀ W', Below W.heap.size W W' → Calls Try.prog 105 #[.slice a l.length c, .int .i64 dx, .int .i64 dy] W' (fun e w' => ∃ va vc, e = .returned (.slice va m.length vc) ∧ w'.ownsRow W.heap.size 89 2 (.slice va m.length vc) m.length (cellsP m) ∧ Below W'.heap.size W' w') := fun W' hb =>
    (HC.out.1 W' (HP.out.on hb)).mono fun e w' ⟨v, he, hv, bb⟩ => by
      obtain ⟨va, vc, rfl, _⟩ := path_of_owns hv
      exact ⟨va, vc, he, Own.row_base hv hb.size, bb⟩
  have HC1 := Lib.hid hC1
  clear hC1
  have hE : ∀ w', Below W.heap.size W w' → (∀ o, w'.frozen? ⟨GR, o, none⟩ = false) ∧ GR < w'.heap.size ∧ Below GR W w' ∧ w'.cell? ⟨GR, 0, none⟩ = some (.slice none 0 0) ∧ w'.cell? ⟨GR, 1, none⟩ = some (.int .i64 0) ∧ w'.cell? ⟨GR, 2, none⟩ = some (.int .i64 0) ∧ w'.cell? ⟨GR, 3, none⟩ = some (.int .i64 0) ∧ w'.cell? ⟨GR, 4, none⟩ = some (.int .i64 0) ∧ w'.cell? ⟨GR, 5, none⟩ = some (.int .i64 0) := fun w' hb =>
    have R := HS.out.2.1.keep hb
    ⟨R.2.1, R.2.2, hb.mono (Nat.le_of_lt gRW), R.1 0 _ rfl, R.1 1 _ rfl, R.1 2 _ rfl, R.1 3 _ rfl, R.1 4 _ rfl, R.1 5 _ rfl⟩
  have HE := Lib.hid hE
  clear hE
  go_region_held3 (fun w' => w'.cell? ⟨GA, 0, none⟩ = some (.slice a l.length c) ∧ w'.cell? ⟨GA, 1, none⟩ = some (.int .i64 g) ∧ w'.cell? ⟨GA, 2, none⟩ = some (.int .i64 x0) ∧ w'.cell? ⟨GA, 3, none⟩ = some (.int .i64 y0) ∧ w'.cell? ⟨GA, 4, none⟩ = some (.int .i64 x1) ∧ w'.cell? ⟨GA, 5, none⟩ = some (.int .i64 y1) ∧ Below GR W w') (first | (with_reducible exact HK.out _ (hB.mono (Nat.le_of_lt gRW))) | exact HK.out _ (by go_grown))
    (first
      | (go_at_call 105; (with_reducible refine (HC1.out _ (by first | exact hB | go_grown)).mono ?_); rintro e wz ⟨va, vc, rfl, hv, bb⟩; have HR := Lib.hid hv; have hB := on_of (W := W) (by first | exact hB | go_grown) bb; clear hv bb; obtain ⟨hf, hz, hB2, e0, e1, e2, e3, e4, e5⟩ := HE.out _ hB)
      | (go_at_call 106; (with_reducible refine (HC.out.2 _).mono ?_); rintro e wz ⟨rfl, bb⟩; try (with_reducible have HR := Lib.hid (owns_below HR.out bb)); have hB := on_of (W := W) (by first | exact hB | go_grown) bb; clear bb; obtain ⟨hf, hz, hB2, e0, e1, e2, e3, e4, e5⟩ := HE.out _ hB))
  all_goals
    go_wp2
    refine bodyPost_ret (by simp [results, Try.results58, go_sem, *]; try rfl) rfl ?_
    have hN : GR ∉ Own.rowL (.slice va m.length vc) := fun hx => by have := (Own.rowL_ge HR.out _ hx).1; omega
    have := HS.out.2.2.trans (hB.mono (Nat.le_of_lt gAW))
    refine ⟨va, vc, rfl, ?_, ?_⟩
    · refine Own.row_base (B := W.heap.size) ?_ (by omega)
      repeat (refine Own.row_set ?_ hN _ _)
      exact HR.out
    · rw [hGA]
      go_grown
end Go.Proofs.Ytejnfdpckipbeaa.Ins
namespace Go.Proofs.Ytejnfdpckipbeaa.Ins
open Go.ChangeShapes Go.WideShapes Go.ChangeAt Go.RowKit
open Kit Point Slabs
open Go.Proofs.Ytejnfdpckipbeaa.Own (Blk Ob grayB OwnL LObject KPt dP dPt)
set_option linter.unusedVariables false
set_option linter.unusedSimpArgs false
set_option linter.unnecessarySimpa false
set_option maxRecDepth 100000
def mvO (o : Ob) (dx dy : Int) : Ob := ⟨shV o.path (dx, dy), o.gray, IntKind.i64.wrap (o.x0 + dx), IntKind.i64.wrap (o.y0 + dy), IntKind.i64.wrap (o.x1 + dx), IntKind.i64.wrap (o.y1 + dy)⟩
def mvB (o : Ob) (dx dy : Int) : Bool := Own.obB o && Own.obB (mvO o dx dy)
def mvR (o : Ob) (dx dy : Int) : Ob := if mvB o dx dy then mvO o dx dy else o
def MvIs (o : Ob) (r : Bool) (w : World) (e : Ending) (w' : World) : Prop := ∃ (R : Array Value) (f : List Nat), e = .returned (.tuple #[.agg R, .bool r]) ∧ OwnL w' LObject R.toList o.dt f ∧ f.Nodup ∧ (∀ b ∈ f, w.heap.size ≤ b) ∧ Below w.heap.size w w'
theorem ownL_set {w : World} {ks : List Own.Kd} {cs : List Value} {ds : List Own.Dt} {fp : List Nat} {b : Nat} (h : OwnL w ks cs ds fp) (hn : b ∉ fp) (o : Nat) (v : Value) : OwnL (w.setCell ⟨b, o, none⟩ v) ks cs ds fp :=
  OwnL.stays (by simp) h (fun x hx => Below.heap_setCell _ _ _ _ (fun e => hn (by have e' : x = b := e; rw [← e']; exact hx)))
theorem own_row10 {w : World} {B : Nat} {v : Value} {m : List Pt} (h : w.ownsRow B 89 2 v m.length (cellsP m)) : ∃ fp, Own.Own w (.sl KPt) [v] (.sl (dP m)) fp ∧ fp.Nodup ∧ ∀ b ∈ fp, B ≤ b := by
  have hs := slab_owns h
  refine ⟨_, Own.pts_own hs (Own.len_dP m) (fun i hi => ⟨pX m i, pY m i, ?_, rfl⟩), ?_, fun b hb => (hs.row b (by simpa using hb)).1⟩
  · have e : m.getD i (0, 0) = m[i] := by simp [List.getD, List.getElem?_eq_getElem hi]
    simp only [Own.at_, dP, List.getD_eq_getElem?_getD, List.getElem?_map, List.getElem?_eq_getElem hi, Option.map_some, Option.getD_some, dPt, pX, pY]
  · cases Slabs.rowOf m.length v <;> simp
theorem obj_open {w : World} {A : Array Value} {o : Ob} {fp : List Nat} (h : OwnL w LObject A.toList o.dt fp) :
    ∃ a c, A = #[.slice a o.path.length c, .int .i64 o.gray, .int .i64 o.x0, .int .i64 o.y0, .int .i64 o.x1, .int .i64 o.y1] ∧ PathAt w a o.path := by
  obtain ⟨a0, c0, f0, hA, hf, o0⟩ := Own.inv_Object_ h
  simp only [Own.len_dP] at hA o0
  refine ⟨a0, c0, ?_, (Own.path_of o0).2⟩
  apply Array.toList_inj.1
  simpa using hA
theorem obj_len {o : Ob} (hb : Own.bulkL o.dt ≤ 1048576) : o.path.length ≤ 1048576 := by
  simp only [Own.Ob.dt, Own.bulkL, Own.Dt.bulk, Own.len_dP, Own.bulk_dP] at hb; omega
theorem obj_close {w : World} {B : Nat} {va : Option Addr} {vc : Nat} {o : Ob} (h : w.ownsRow B 89 2 (.slice va o.path.length vc) o.path.length (cellsP o.path)) :
    ∃ f, OwnL w LObject [.slice va o.path.length vc, .int .i64 o.gray, .int .i64 o.x0, .int .i64 o.y0, .int .i64 o.x1, .int .i64 o.y1] o.dt f ∧ f.Nodup ∧ ∀ b ∈ f, B ≤ b := by
  obtain ⟨f, o0, n0, g0⟩ := own_row10 h
  exact ⟨f, Own.mk_ob o.gray o.x0 o.y0 o.x1 o.y1 o0, n0, g0⟩
structure MvS (W w : World) (GA GR GM : Nat) (cs ms : List Value) : Prop where
  A : Blk W GA cs
  R : Blk W GR [.slice none 0 0, .int .i64 0, .int .i64 0, .int .i64 0, .int .i64 0, .int .i64 0]
  M : Blk W GM ms
  B : Below w.heap.size w W
theorem MvS.on {W w V : World} {GA GR GM : Nat} {cs ms : List Value} (h : MvS W w GA GR GM cs ms) (hb : Below W.heap.size W V) : MvS V w GA GR GM cs ms :=
  ⟨h.A.keep hb, h.R.keep hb, h.M.keep hb, on_of h.B hb⟩
theorem six {W : World} {G : Nat} {v : Value} {g x0 y0 x1 y1 : Int} (h : Blk W G [v, .int .i64 g, .int .i64 x0, .int .i64 y0, .int .i64 x1, .int .i64 y1]) :
    W.cell? ⟨G, 0, none⟩ = some v ∧ W.cell? ⟨G, 1, none⟩ = some (.int .i64 g) ∧ W.cell? ⟨G, 2, none⟩ = some (.int .i64 x0) ∧ W.cell? ⟨G, 3, none⟩ = some (.int .i64 y0) ∧ W.cell? ⟨G, 4, none⟩ = some (.int .i64 x1) ∧ W.cell? ⟨G, 5, none⟩ = some (.int .i64 y1) ∧ (∀ o, W.frozen? ⟨G, o, none⟩ = false) ∧ G < W.heap.size :=
  ⟨h.1 0 _ rfl, h.1 1 _ rfl, h.1 2 _ rfl, h.1 3 _ rfl, h.1 4 _ rfl, h.1 5 _ rfl, h.2.1, h.2.2⟩
set_option maxHeartbeats 4000000 in
theorem move_impl (w : World) {A : Array Value} {o : Ob} {fp : List Nat} (hb : Own.bulkL o.dt ≤ 1048576) (h : OwnL w LObject A.toList o.dt fp) (dx dy : Int) :
    Calls Try.prog 19 #[.agg A, .int .i64 dx, .int .i64 dy] w (MvIs (mvR o dx dy) (mvB o dx dy) w) := by
  obtain ⟨a, c, rfl, hp⟩ := obj_open h
  have hn := obj_len hb
  have hm : (mvO o dx dy).path.length ≤ 1048576 := Nat.le_trans (shV_len o.path (dx, dy)) hn
  have hk1 := obK_is o
  have hk2 := obK_is (mvO o dx dy)
  have hmv := fun W (h : PathAt W a o.path) => fig_moved W a c o.path o.gray o.x0 o.y0 o.x1 o.y1 dx dy hn h
  have hmv : ∀ W, PathAt W a o.path → Calls Try.prog 58 #[.agg #[.slice a o.path.length c, .int .i64 o.gray, .int .i64 o.x0, .int .i64 o.y0, .int .i64 o.x1, .int .i64 o.y1], .int .i64 dx, .int .i64 dy] W (FgIs W (mvO o dx dy).path (mvO o dx dy).gray (mvO o dx dy).x0 (mvO o dx dy).y0 (mvO o dx dy).x1 (mvO o dx dy).y1) := hmv
  obtain ⟨m, hmo⟩ : ∃ m, mvO o dx dy = m := ⟨_, rfl⟩
  have HR : Hid (∀ r, (Own.obB o && Own.obB m) = r → mvB o dx dy = r ∧ mvR o dx dy = if r then m else o) := Lib.hid (fun r hr => by
    have e : mvB o dx dy = r := by rw [← hr, ← hmo]; rfl
    exact ⟨e, by rw [mvR, e, hmo]⟩)
  rw [hmo] at hm hk2 hmv
  clear hmo
  obtain ⟨M0, hM0⟩ : ∃ x, mvR o dx dy = x := ⟨_, rfl⟩
  obtain ⟨r, hr⟩ : ∃ x, mvB o dx dy = x := ⟨_, rfl⟩
  rw [hM0, hr] at HR
  rw [hM0, hr]
  clear hM0 hr
  have HO := Lib.hid (And.intro h (And.intro hp (And.intro hn (And.intro hm hb))))
  have HC := Lib.hid (And.intro hmv (And.intro (fun W (h : PathAt W a o.path) => ok_impl W a c o.path o.gray o.x0 o.y0 o.x1 o.y1 hn h) (fun W va vc (h : PathAt W va m.path) => ok_impl W va vc m.path m.gray m.x0 m.y0 m.x1 m.y1 hm h)))
  rw [← hk1, ← hk2] at HC
  clear h hp hn hm hk1 hk2 hmv hb
  obtain ⟨bo, hbo⟩ : ∃ x, Own.obB o = x := ⟨_, rfl⟩
  obtain ⟨bm, hbm⟩ : ∃ x, Own.obB m = x := ⟨_, rfl⟩
  rw [hbo, hbm] at HC HR
  clear hbo hbm
  go_enter Try.func19, Try.ntmps19
  go_upto_region 1 with fail
  refine gen_any9 (fun W => Blk W w.heap.size [.slice a o.path.length c, .int .i64 o.gray, .int .i64 o.x0, .int .i64 o.y0, .int .i64 o.x1, .int .i64 o.y1] ∧ Blk W (w.heap.size + 1) [.slice none 0 0, .int .i64 0, .int .i64 0, .int .i64 0, .int .i64 0, .int .i64 0] ∧ Below w.heap.size w W) ⟨(Blk.new w #[.slice a o.path.length c, .int .i64 o.gray, .int .i64 o.x0, .int .i64 o.y0, .int .i64 o.x1, .int .i64 o.y1] 28 rfl).alloc _, Blk.new _ #[.slice none 0 0, .int .i64 0, .int .i64 0, .int .i64 0, .int .i64 0, .int .i64 0] 28 (by simp), by go_grown⟩ ?_
  rintro W ⟨BA, BR, hW⟩
  have HS := Lib.hid (And.intro BA (And.intro BR hW))
  obtain ⟨GA, hGA⟩ : ∃ x, w.heap.size = x := ⟨_, rfl⟩
  obtain ⟨GR, hGR⟩ : ∃ x, w.heap.size + 1 = x := ⟨_, rfl⟩
  have HSA : Hid (Blk W GA [.slice a o.path.length c, .int .i64 o.gray, .int .i64 o.x0, .int .i64 o.y0, .int .i64 o.x1, .int .i64 o.y1]) := Lib.hid (hGA ▸ HS.out.1)
  have HSR : Hid (Blk W GR [.slice none 0 0, .int .i64 0, .int .i64 0, .int .i64 0, .int .i64 0, .int .i64 0]) := Lib.hid (hGR ▸ HS.out.2.1)
  clear BA BR hW
  simp only [hGR]
  simp only [hGA]
  have HG := Lib.hid (And.intro hGA hGR)
  clear hGA hGR
  have hW := HS.out.2.2
  have HP := Lib.hid (HO.out.2.1.on hW)
  have HWw := Lib.hid hW
  clear hW HS
  obtain ⟨k0, k1, k2, k3, k4, k5, _, hzA⟩ := six HSA.out
  go_wp2_with fail
  clear k0 k1 k2 k3 k4 k5 hzA
  ((with_reducible refine (fig_of _ _ _ _ _ _ _ _ _).mono ?_); rintro e w1 ⟨rfl, b1⟩)
  have H1 := Lib.hid b1
  clear b1
  go_wp2_with fail
  ((with_reducible refine (HC.out.1 _ (HP.out.on H1.out)).mono ?_); rintro e w2 ⟨va, vc, rfl, hv, b2⟩)
  have HV := Lib.hid hv
  have H2 := Lib.hid (on_of H1.out b2)
  clear hv b2
  have Hlow : Hid (W.heap.size ≤ w1.heap.size) := Lib.hid H1.out.size
  go_wp2_with fail
  ((with_reducible refine (fig_obj _ _ _ _ _ _ _ _ _).mono ?_); rintro e w3 ⟨rfl, b3⟩)
  have HV := Lib.hid (owns_below HV.out b3)
  have H3 := Lib.hid (on_of H2.out b3)
  clear b3
  go_upto_region 2 with fail
  refine gen_any9 (fun V => MvS V w GA GR w3.heap.size [.slice a o.path.length c, .int .i64 o.gray, .int .i64 o.x0, .int .i64 o.y0, .int .i64 o.x1, .int .i64 o.y1] [.slice va m.path.length vc, .int .i64 m.gray, .int .i64 m.x0, .int .i64 m.y0, .int .i64 m.x1, .int .i64 m.y1] ∧ V.ownsRow W.heap.size 89 2 (.slice va m.path.length vc) m.path.length (cellsP m.path)) ⟨⟨(HSA.out.keep H3.out).alloc _, (HSR.out.keep H3.out).alloc _, Blk.new w3 _ _ rfl, by have := on_of HWw.out H3.out; have := this.size; go_grown⟩, owns_below (Own.row_base HV.out Hlow.out) (show Below w3.heap.size w3 _ by go_grown)⟩ ?_
  rintro V ⟨hS, hr⟩
  obtain ⟨GM, hGM⟩ : ∃ x, w3.heap.size = x := ⟨_, rfl⟩
  rw [hGM] at hS
  simp only [hGM]
  have HS := Lib.hid hS
  have HV := Lib.hid hr
  have HG : Hid (w.heap.size ≤ GR ∧ GR < W.heap.size) := Lib.hid ⟨by have := HG.out.2; omega, HSR.out.2.2⟩
  clear hS hr hGM H3 H2 H1 HSA HSR Hlow HWw HP
  obtain ⟨k0, k1, k2, k3, k4, k5, _, hzA⟩ := six HS.out.A
  go_wp2_with fail
  clear k0 k1 k2 k3 k4 k5 hzA
  ((with_reducible refine (HC.out.2.1 _ (HO.out.2.1.on HS.out.B)).mono ?_); rintro e w4 ⟨rfl, bb⟩)
  have HV := Lib.hid (owns_below HV.out bb)
  have HS := Lib.hid (HS.out.on bb)
  clear bb
  cases bo
  · obtain ⟨e1, e2⟩ := HR.out false (by simp)
    simp only [Bool.false_eq_true, if_false] at e2
    subst e1 e2
    clear HR
    obtain ⟨k0, k1, k2, k3, k4, k5, _, hzA⟩ := six HS.out.A
    go_wp2_with fail
    clear k0 k1 k2 k3 k4 k5 hzA
    ((with_reducible refine (Own.clone_Object _ HO.out.2.2.2.2 (HO.out.1.under HS.out.B)).mono ?_); rintro e w5 ⟨R, f, rfl, oR, nR, gR, bb⟩)
    have HQ := Lib.hid (And.intro oR (And.intro nR gR))
    have HS5 := Lib.hid (HS.out.on bb)
    clear oR nR gR bb
    obtain ⟨a1, c1, rfl, _⟩ := obj_open HQ.out.1
    obtain ⟨k0, k1, k2, k3, k4, k5, hf, hzR⟩ := six HS5.out.R
    go_wp2
    refine bodyPost_ret (by simp [results, Try.results19, go_sem, *]; try rfl) rfl ?_
    have hN : GR ∉ f := fun hx => by have := HQ.out.2.2 _ hx; have := HS.out.R.2.2; omega
    have hB := HS5.out.B
    have hG : w.heap.size ≤ GR := HG.out.1
    refine ⟨_, f, rfl, ?_, HQ.out.2.1, fun b hx => by have := HQ.out.2.2 b hx; have := HS.out.B.size; omega, by go_grown⟩
    repeat (refine ownL_set ?_ hN _ _)
    exact HQ.out.1
  · obtain ⟨k0, k1, k2, k3, k4, k5, _, hzM⟩ := six HS.out.M
    go_wp2_with fail
    clear k0 k1 k2 k3 k4 k5 hzM
    obtain ⟨_, _, hve, hpm⟩ := path_of_owns HV.out
    injection hve with hv1 hv2 hv3
    subst hv1 hv3
    have HPm := Lib.hid hpm
    clear hpm hv2
    ((with_reducible refine (HC.out.2.2 _ _ _ HPm.out).mono ?_); rintro e w6 ⟨rfl, bb⟩)
    have HV := Lib.hid (owns_below HV.out bb)
    have HS := Lib.hid (HS.out.on bb)
    clear bb HPm
    cases bm
    · obtain ⟨e1, e2⟩ := HR.out false (by simp)
      simp only [Bool.false_eq_true, if_false] at e2
      subst e1 e2
      clear HR
      obtain ⟨k0, k1, k2, k3, k4, k5, _, hzA⟩ := six HS.out.A
      go_wp2_with fail
      clear k0 k1 k2 k3 k4 k5 hzA
      ((with_reducible refine (Own.clone_Object _ HO.out.2.2.2.2 (HO.out.1.under HS.out.B)).mono ?_); rintro e w5 ⟨R, f, rfl, oR, nR, gR, bb⟩)
      have HQ := Lib.hid (And.intro oR (And.intro nR gR))
      have HS5 := Lib.hid (HS.out.on bb)
      clear oR nR gR bb
      obtain ⟨a1, c1, rfl, _⟩ := obj_open HQ.out.1
      obtain ⟨k0, k1, k2, k3, k4, k5, hf, hzR⟩ := six HS5.out.R
      go_wp2
      refine bodyPost_ret (by simp [results, Try.results19, go_sem, *]; try rfl) rfl ?_
      have hN : GR ∉ f := fun hx => by have := HQ.out.2.2 _ hx; have := HS.out.R.2.2; omega
      have hB := HS5.out.B
      have hG : w.heap.size ≤ GR := HG.out.1
      refine ⟨_, f, rfl, ?_, HQ.out.2.1, fun b hx => by have := HQ.out.2.2 b hx; have := HS.out.B.size; omega, by go_grown⟩
      repeat (refine ownL_set ?_ hN _ _)
      exact HQ.out.1
    · obtain ⟨e1, e2⟩ := HR.out true (by simp)
      simp only [if_true] at e2
      subst e1 e2
      clear HR
      obtain ⟨k0, k1, k2, k3, k4, k5, _, hzM⟩ := six HS.out.M
      obtain ⟨e0, e1, e2, e3, e4, e5, hf, hzR⟩ := six HS.out.R
      obtain ⟨f, oR, nR, gR⟩ := obj_close HV.out
      have HQ := Lib.hid (And.intro oR (And.intro nR gR))
      clear oR nR gR
      go_wp2
      refine bodyPost_ret (by simp [results, Try.results19, go_sem, *]; try rfl) rfl ?_
      have hN : GR ∉ f := fun hx => by have := HQ.out.2.2 _ hx; have := HG.out.2; omega
      have hB := HS.out.B
      have hG : w.heap.size ≤ GR := HG.out.1
      refine ⟨_, f, rfl, ?_, HQ.out.2.1, fun b hx => by have := HQ.out.2.2 b hx; have := HG.out; omega, by go_grown⟩
      repeat (refine ownL_set ?_ hN _ _)
      exact HQ.out.1
end Go.Proofs.Ytejnfdpckipbeaa.Ins
