/-
  Texts of this seat, laid together: Bo10, LawKit, Lw8, EqA
-/
import Derived.WalkKit
import Derived.Handy
import Derived.Lib.Hide
import Derived.Deep.DeepCutAuto
import Derived.Deep.QuietTactic
import Derived.BigQuiet
import Derived.Deep.RegionHeld3
import Derived.Test.YtifmdgncgokikaaP03
import Derived.Test.YtifmdgncgokikaaP04
import Derived.Test.YtifmdgncgokikaaP05
import Derived.Test.YtifmdgncgokikaaP14
import Derived.Test.YtifmdgncgokikaaP12
import Derived.Test.YtifmdgncgokikaaP16
namespace Go.Proofs.Ytifmdgncgokikaa.Ins
open Go.ChangeShapes Go.WideShapes Go.ChangeAt Go.RowKit
open Kit Point
set_option linter.unusedVariables false
set_option linter.unusedSimpArgs false
set_option linter.unnecessarySimpa false
structure Bx where
  x0 : Int
  y0 : Int
  x1 : Int
  y1 : Int
def Bx.v (b : Bx) : Value := .agg #[.int .i64 b.x0, .int .i64 b.y0, .int .i64 b.x1, .int .i64 b.y1]
def pbx (l : List Pt) : Bx :=
  if ptsB l = true ∧ 0 < l.length then ⟨Pts.acc mn (pX l) l.length, Pts.acc mn (pY l) l.length, Pts.acc mx (pX l) l.length, Pts.acc mx (pY l) l.length⟩ else ⟨0, 0, 0, 0⟩
def Bx.ok (b : Bx) : Bool := bokB b.x0 b.y0 b.x1 b.y1
def mtx (b d : Bx) : Bx :=
  if b.ok = true ∧ d.ok = true ∧ mx b.x0 d.x0 < mn b.x1 d.x1 ∧ mx b.y0 d.y0 < mn b.y1 d.y1 then ⟨mx b.x0 d.x0, mx b.y0 d.y0, mn b.x1 d.x1, mn b.y1 d.y1⟩ else ⟨0, 0, 0, 0⟩
def pgx : Bx := ⟨0, 0, 32, 32⟩
theorem meet_v (b d : Bx) : Box.meetV b.x0 b.y0 b.x1 b.y1 d.x0 d.y0 d.x1 d.y1 = (mtx b d).v := by
  unfold mtx
  by_cases h : b.ok = true ∧ d.ok = true ∧ mx b.x0 d.x0 < mn b.x1 d.x1 ∧ mx b.y0 d.y0 < mn b.y1 d.y1
  · rw [if_pos h]
    have hm : Box.meetB b.x0 b.y0 b.x1 b.y1 d.x0 d.y0 d.x1 d.y1 = true := by
      simp only [Box.meetB, show bokB b.x0 b.y0 b.x1 b.y1 = true from h.1, show bokB d.x0 d.y0 d.x1 d.y1 = true from h.2.1, Bool.true_and, decide_eq_true_eq]; exact h.2.2
    simp [Box.meetV, hm, sel, Bx.v]
  · rw [if_neg h]
    have hm : Box.meetB b.x0 b.y0 b.x1 b.y1 d.x0 d.y0 d.x1 d.y1 = false := by
      cases e : Box.meetB b.x0 b.y0 b.x1 b.y1 d.x0 d.y0 d.x1 d.y1
      · rfl
      · simp only [Box.meetB, Bool.and_eq_true, decide_eq_true_eq] at e
        exact absurd ⟨e.1.1, e.1.2, e.2⟩ h
    simp [Box.meetV, hm, sel, Bx.v]
theorem meetbox_impl (b d : Bx) (w : World) : Calls Try.prog 100 #[b.v, d.v] w fun e w' => e = .returned (mtx b d).v ∧ Below w.heap.size w w' := by
  rw [← meet_v]; exact Box.meet_impl _ _ _ _ _ _ _ _ w
theorem meetbox_spec (b d : Bx) (w : World) : Calls Try.prog 109 #[b.v, d.v] w fun e w' => e = .returned (mtx b d).v ∧ Below w.heap.size w w' := by
  rw [← meet_v]; exact Box.meet_spec _ _ _ _ _ _ _ _ w
theorem okB_pts (l : List Pt) : Pts.okB (pX l) (pY l) l.length = ptsB l := by
  cases h : ptsB l
  · rw [ptsB, List.all_eq_false] at h
    obtain ⟨p, hp, hb⟩ := h
    obtain ⟨k, hk, rfl⟩ := List.getElem_of_mem hp
    have e : l.getD k (0, 0) = l[k] := by simp [List.getD, List.getElem?_eq_getElem hk]
    exact Pts.okB_bad hk (by simp only [pX, pY, e]; simpa using hb)
  · refine Pts.okB_good fun i hi => ?_
    rw [ptsB, List.all_eq_true] at h
    have e : l.getD i (0, 0) = l[i] := by simp [List.getD, List.getElem?_eq_getElem hi]
    simpa only [pX, pY, e] using h _ (List.getElem_mem hi)
theorem boxof_v (l : List Pt) : Pts.boxofV (pX l) (pY l) l.length = (pbx l).v := by
  unfold pbx
  by_cases h : ptsB l = true ∧ 0 < l.length
  · rw [if_pos h]; simp [Pts.boxofV, sel, okB_pts, h.1, h.2, Bx.v]
  · rw [if_neg h]
    by_cases h1 : ptsB l = true
    · have h2 : l.length = 0 := by have : ¬ 0 < l.length := fun h2 => h ⟨h1, h2⟩; omega
      rw [h2]; simp [Pts.boxofV, sel, Bx.v]
    · have h1 : ptsB l = false := by simpa using h1
      simp [Pts.boxofV, sel, okB_pts, h1, Bx.v]
theorem boxof_impl_at (w : World) (a : Option Addr) (c : Nat) (l : List Pt) (h0 : 0 < l.length) (hn : l.length ≤ 1048576) (h : PathAt w a l) :
    Calls Try.prog 117 #[.slice a l.length c] w fun e w' => e = .returned (pbx l).v ∧ Below w.heap.size w w' := by
  rcases h with rfl | ⟨g, rfl, hg, hc⟩
  · simp at h0
  · rw [← boxof_v]
    exact Pts.boxof_impl g l.length c (pX l) (pY l) w hn hg hc
theorem boxof_spec_at (w : World) (a : Option Addr) (c : Nat) (l : List Pt) (h0 : 0 < l.length) (hn : l.length ≤ 1048576) (h : PathAt w a l) :
    Calls Try.prog 110 #[.slice a l.length c] w fun e w' => e = .returned (pbx l).v ∧ Below w.heap.size w w' := by
  rcases h with rfl | ⟨g, rfl, hg, hc⟩
  · simp at h0
  · rw [← boxof_v]
    exact Pts.boxof_spec g l.length c (pX l) (pY l) w hn hg hc
theorem box_path (w : World) (a : Option Addr) (c : Nat) (l : List Pt) (h0 : 0 < l.length) (hn : l.length ≤ 1048576) (h : PathAt w a l) :
    Calls Try.prog 101 #[.slice a l.length c] w fun e w' => e = .returned (pbx l).v ∧ Below w.heap.size w w' := by
  have HP := Lib.hid (And.intro h (And.intro h0 hn))
  obtain ⟨b, hb⟩ : ∃ b, pbx l = b := ⟨_, rfl⟩
  have HC : Hid (∀ W, PathAt W a l → Calls Try.prog 117 #[.slice a l.length c] W fun e w' => e = .returned (.agg #[.int .i64 b.x0, .int .i64 b.y0, .int .i64 b.x1, .int .i64 b.y1]) ∧ Below W.heap.size W w') := Lib.hid (fun W h => hb ▸ boxof_impl_at W a c l HP.out.2.1 HP.out.2.2 h)
  rw [hb]
  clear hb h h0 hn
  unfold Bx.v
  have HP := Lib.hid (HP.out.1.on (show Below w.heap.size w (w.alloc (.cells #[.int .i64 0, .int .i64 0, .int .i64 0, .int .i64 0] 28)) from by go_grown))
  go_enter Try.func101, Try.ntmps101
  go_wp2_with fail
  ((with_reducible refine (HC.out _ HP.out).mono ?_); rintro e w1 ⟨rfl, bb⟩)
  have hB := on_of (W := w) (by go_grown) bb
  obtain ⟨hc, hf⟩ := bcell bb
  have hz : w.heap.size < w1.heap.size := (by have := bb.size; (try simp at this); omega)
  clear bb
  go_wp2
  refine bodyPost_ret (by simp [results, Try.results101, go_sem, *]; try rfl) rfl ?_
  exact ⟨rfl, by go_grown⟩
theorem page_box (w : World) : Calls Try.prog 102 #[] w fun e w' => e = .returned pgx.v ∧ Below w.heap.size w w' := by
  go_enter Try.func102, Try.ntmps102
  go_wp2
  refine bodyPost_ret (by simp [results, Try.results102, go_sem, *]; try rfl) rfl ?_
  exact ⟨rfl, by go_grown⟩
theorem page_full (w : World) : Calls Try.prog 77 #[] w fun e w' => e = .returned pgx.v ∧ Below w.heap.size w w' := by
  go_enter Try.func77, Try.ntmps77
  go_wp2
  refine bodyPost_ret (by simp [results, Try.results77, go_sem, *]; try rfl) rfl ?_
  exact ⟨rfl, by go_grown⟩
def Bx.mv (b : Bx) (dx dy : Int) : Bx := ⟨IntKind.i64.wrap (b.x0 + dx), IntKind.i64.wrap (b.y0 + dy), IntKind.i64.wrap (b.x1 + dx), IntKind.i64.wrap (b.y1 + dy)⟩
theorem fig_of (w : World) (a : Option Addr) (n c : Nat) (g x0 y0 x1 y1 : Int) :
    Calls Try.prog 50 #[.agg #[.slice a n c, .int .i64 g, .int .i64 x0, .int .i64 y0, .int .i64 x1, .int .i64 y1]] w fun e w' => e = .returned (.agg #[.slice a n c, .int .i64 g, .int .i64 x0, .int .i64 y0, .int .i64 x1, .int .i64 y1]) ∧ Below w.heap.size w w' := by
  go_enter Try.func50, Try.ntmps50
  go_wp2
  refine bodyPost_ret (by simp [results, Try.results50, go_sem, *]; try rfl) rfl ?_
  exact ⟨rfl, by go_grown⟩
end Go.Proofs.Ytifmdgncgokikaa.Ins
namespace Go.Proofs.Ytifmdgncgokikaa.Own
open Go.ChangeShapes Go.WideShapes Go.ChangeAt Go.RowKit
open Kit Slabs
set_option linter.unusedVariables false
set_option linter.unusedSimpArgs false
set_option linter.unnecessarySimpa false
def Made (w : World) (ks : List Kd) (ds : List Dt) (R : Array Value) (w' : World) : Prop := ∃ fp, OwnL w' ks R.toList ds fp ∧ fp.Nodup ∧ (∀ b ∈ fp, w.heap.size ≤ b) ∧ Below w.heap.size w w'
theorem var_new {P : Program} {T : TypeId} {n : Nat} (hsz : ∀ w : World, (Go.sizeOf T).run P w = .ok n w) (w : World) (Z : Array Value) (hZ : Z.size = n) {ks : List Kd} {ds : List Dt} {fp : List Nat} {w0 : World} {R : Array Value} (o : OwnL w0 ks R.toList ds fp) (hn : szL ks = n) :
    ∃ E, (hstore T ⟨w.heap.size, 0, none⟩ (.agg R)).run P (w.alloc (.cells Z T)) = .ok () E ∧ Blk E w.heap.size R.toList ∧ Below w.heap.size w E ∧ w.heap.size < E.heap.size := by
  have hR : R.toList.length = n := o.len.trans hn
  have hZl : Z.toList.length = n := by simpa using hZ
  have B := Blk.new w Z T rfl
  have hs := hstore_run (P := P) (t := T) hsz (w := w.alloc (.cells Z T)) (b := w.heap.size) (o := 0) (A := []) (us := Z.toList) (R := []) (vs := R.toList) (by simpa using B) rfl (by rw [hR, hZl]) hR (fun v hv => o.one v hv)
  have e : R.toList.toArray = R := by simp
  rw [e] at hs
  refine ⟨_, hs, by have := Blk.sets (P := []) (us := Z.toList) (vs := R.toList) (R := []) (w := w.alloc (.cells Z T)) (b := w.heap.size) (o := 0) (by simpa using B) rfl (by rw [hR, hZl]); simpa using this, Below.setCells (Nat.le_refl _) R.toList 0 (by go_grown), by rw [size_sets]; simp⟩
theorem var_load {P : Program} {T : TypeId} {n : Nat} (hagg : ∀ w : World, (isAgg T).run P w = .ok true w) (hsz : ∀ w : World, (Go.sizeOf T).run P w = .ok n w) {w : World} {b : Nat} {R : Array Value} (h : Blk w b R.toList) {ks : List Kd} {ds : List Dt} {fp : List Nat} {w0 : World} (o : OwnL w0 ks R.toList ds fp) (hn : szL ks = n) :
    (hload T ⟨b, 0, none⟩).run P w = .ok (.agg R) w := by
  have := hload_run (P := P) (t := T) hagg hsz (w := w) (b := b) (o := 0) (us := R.toList) (by have := Blk.part (P := []) (us := R.toList) (R := []) (w := w) (b := b) (o := 0) (by simpa using h) rfl; simpa using this) (o.len.trans hn)
  simpa using this
theorem varC_load {P : Program} {T : TypeId} {n : Nat} (hagg : ∀ w : World, (isAgg T).run P w = .ok true w) (hsz : ∀ w : World, (Go.sizeOf T).run P w = .ok n w) {w : World} {b : Nat} {R : Array Value} (h : Blk w b R.toList) {ks : List Kd} {ds : List Dt} {w0 : World} (o : CameL w0 ks R.toList ds) (hn : szL ks = n) :
    (hload T ⟨b, 0, none⟩).run P w = .ok (.agg R) w := by
  have := hload_run (P := P) (t := T) hagg hsz (w := w) (b := b) (o := 0) (us := R.toList) (by have := Blk.part (P := []) (us := R.toList) (R := []) (w := w) (b := b) (o := 0) (by simpa using h) rfl; simpa using this) (o.len.trans hn)
  simpa using this
theorem came_st {w : World} {k : Kd} {cs : List Value} {d : Dt} {ks : List Kd} (h : Came w k cs d) (hk : k.fl = .st ks) : ∃ ds, CameL w ks cs ds := by
  obtain ⟨d', h'⟩ := h.flatten
  rw [hk] at h'
  cases h' with
  | st h' => exact ⟨_, h'⟩
/-! ### How many marks there can be -/
mutual
def Kd.wd : Kd → Nat
  | .int => 1
  | .str => 1
  | .bool => 1
  | .st ks => wdL ks
  | .sl e => e.wd
def wdL : List Kd → Nat
  | [] => 0
  | k :: r => k.wd + wdL r
end
theorem mul_both {a b x y : Nat} : a * (1 + x) + b * (1 + y) ≤ (a + b) * (1 + (x + y)) := by
  have h1 : a * (1 + x) ≤ a * (1 + (x + y)) := Nat.mul_le_mul_left _ (by omega)
  have h2 : b * (1 + y) ≤ b * (1 + (x + y)) := Nat.mul_le_mul_left _ (by omega)
  rw [Nat.add_mul]; omega
mutual
theorem Own.cnt_le {w : World} : ∀ {k : Kd} {cs : List Value} {d : Dt} {fp : List Nat}, Own w k cs d fp → d.cnt ≤ k.wd * (1 + d.bulk)
  | _, _, _, _, .int n => by simp [Dt.cnt, Kd.wd]
  | _, _, _, _, .str s => by simp [Dt.cnt, Kd.wd]
  | _, _, _, _, .bool b => by simp [Dt.cnt, Kd.wd]
  | _, _, _, _, .st h => by simp only [Dt.cnt, Kd.wd, Dt.bulk]; exact OwnL.cnt_le h
  | _, _, _, _, .nil a c => by simp [Dt.cnt, cntL]
  | _, _, _, _, .sl h1 h2 h3 h4 h5 h6 => by
    simp only [Dt.cnt, Kd.wd, Dt.bulk]
    exact Nat.le_trans (Rows.cnt_le h6) (Nat.mul_le_mul_left _ (by omega))
theorem OwnL.cnt_le {w : World} : ∀ {ks : List Kd} {cs : List Value} {ds : List Dt} {fp : List Nat}, OwnL w ks cs ds fp → cntL ds ≤ wdL ks * (1 + bulkL ds)
  | _, _, _, _, .nil => by simp [cntL]
  | _, _, _, _, .cons h r => by
    simp only [cntL, wdL, bulkL]
    have h1 := Own.cnt_le h
    have h2 := OwnL.cnt_le r
    exact Nat.le_trans (Nat.add_le_add h1 h2) mul_both
theorem Rows.cnt_le {w : World} : ∀ {e : Kd} {g o : Nat} {ds : List Dt} {fp : List Nat}, Rows w e g o ds fp → cntL ds ≤ e.wd * (ds.length + bulkL ds)
  | _, _, _, _, _, .nil => by simp [cntL]
  | e, _, _, _, _, .cons (d := d) (ds := ds) hc h r => by
    simp only [cntL, bulkL, List.length_cons]
    have h1 := Own.cnt_le h
    have h2 := Rows.cnt_le r
    have h3 : e.wd * (1 + d.bulk) + e.wd * (ds.length + bulkL ds) = e.wd * (ds.length + 1 + (d.bulk + bulkL ds)) := by rw [← Nat.mul_add]; congr 1; omega
    omega
end
mutual
theorem cnt0_le : ∀ d : Dt, d.cnt0 ≤ d.cnt
  | .int _ => by simp [Dt.cnt0]
  | .str _ => by simp [Dt.cnt0]
  | .bool _ => by simp [Dt.cnt0]
  | .st fs => by simp only [Dt.cnt0, Dt.cnt]; exact cnt0L_le fs
  | .sl es => by simp [Dt.cnt0, Dt.cnt]
theorem cnt0L_le : ∀ ds : List Dt, cnt0L ds ≤ cntL ds
  | [] => by simp [cnt0L, cntL]
  | d :: r => by simp only [cnt0L, cntL]; have := cnt0_le d; have := cnt0L_le r; omega
end
theorem marks_bound {w : World} {ks : List Kd} {cs : List Value} {ds : List Dt} {fp : List Nat} (h : OwnL w ks cs ds fp) (hk : wdL ks ≤ 100) (hb : bulkL ds ≤ 1048576) : 1 + cnt0L ds ≤ 1000000000 := by
  have h1 := h.cnt_le
  have h2 := cnt0L_le ds
  have h3 := Nat.mul_le_mul_right (1 + bulkL ds) hk
  omega
theorem Turns.low {w w' : World} {fp : List Nat} {B : Nat} {w0 : World} (h : Turns w w' (fun b => b ∈ fp)) (hb : Below B w0 w) (hB : B ≤ w.heap.size) (hf : ∀ b ∈ fp, B ≤ b) : Below B w0 w' := hb.trans (h.below hB hf)
theorem apart_of {fp fq : List Nat} {m : Nat} (h1 : ∀ b ∈ fp, b < m) (h2 : ∀ b ∈ fq, m ≤ b) : ∀ b ∈ fp, b ∉ fq := fun b h h' => by have := h1 b h; have := h2 b h'; omega
theorem var_put {P : Program} {T : TypeId} {n : Nat} (hsz : ∀ w : World, (Go.sizeOf T).run P w = .ok n w) {w : World} {X : Nat} {Z : Array Value} (B : Blk w X Z.toList) (hZ : Z.size = n) {ks : List Kd} {ds : List Dt} {fp : List Nat} {w0 : World} {R : Array Value} (o : OwnL w0 ks R.toList ds fp) (hn : szL ks = n) :
    ∃ E, (hstore T ⟨X, 0, none⟩ (.agg R)).run P w = .ok () E ∧ Blk E X R.toList ∧ Turns w E (fun b => b = X) := by
  have hR : R.toList.length = n := o.len.trans hn
  have hZl : Z.toList.length = n := by simpa using hZ
  have hs := hstore_run (P := P) (t := T) hsz (w := w) (b := X) (o := 0) (A := []) (us := Z.toList) (R := []) (vs := R.toList) (by simpa using B) rfl (by rw [hR, hZl]) hR (fun v hv => o.one v hv)
  have e : R.toList.toArray = R := by simp
  rw [e] at hs
  exact ⟨_, hs, by have := Blk.sets (P := []) (us := Z.toList) (vs := R.toList) (R := []) (w := w) (b := X) (o := 0) (by simpa using B) rfl (by rw [hR, hZl]); simpa using this, turns_sets (S := fun b => b = X) X rfl _ _ _⟩
theorem made0 {B : Nat} {W w' : World} {Z : Array Value} {T : TypeId} (hB : B ≤ W.heap.size) (b : Below (W.alloc (.cells Z T)).heap.size (W.alloc (.cells Z T)) w') : Blk w' W.heap.size Z.toList ∧ B ≤ W.heap.size ∧ W.heap.size < (W.alloc (.cells Z T)).heap.size :=
  ⟨(Blk.new W Z T rfl).keep b, hB, by simp⟩
theorem made1 {B : Nat} {W w' : World} {Z : Array Value} {T : TypeId} (hB : B ≤ W.heap.size) (b : Below (W.alloc (.cells Z T)).drew.heap.size (W.alloc (.cells Z T)).drew w') : Blk w' W.heap.size Z.toList ∧ B ≤ W.heap.size ∧ W.heap.size < (W.alloc (.cells Z T)).drew.heap.size :=
  ⟨(show Blk (W.alloc (.cells Z T)).drew W.heap.size Z.toList from Blk.new W Z T rfl).keep b, hB, by simp⟩
theorem kept0 {B X m : Nat} {w w1 w' : World} {Z : Array Value} (h : Blk w X Z.toList ∧ B ≤ X ∧ X < m) (k : Below w.heap.size w w1) (b : Below w1.heap.size w1 w') : Blk w' X Z.toList ∧ B ≤ X ∧ X < w1.heap.size :=
  ⟨(h.1.keep k).keep b, h.2.1, (h.1.keep k).2.2⟩
theorem put_all {W wc w E : World} {ks : List Kd} {ds : List Dt} {R : Array Value} {f : List Nat} {X : Nat} (hB : Below W.heap.size W w) (o : OwnL w ks R.toList ds f) (n : f.Nodup) (g : ∀ b ∈ f, wc.heap.size ≤ b) (z : W.heap.size ≤ X) (x : X < wc.heap.size) (BX : Blk E X R.toList) (tt : Turns w E (fun b => b = X)) :
    OwnL E ks R.toList ds f ∧ f.Nodup ∧ (∀ b ∈ f, W.heap.size ≤ b) ∧ X ∉ f ∧ Blk E X R.toList ∧ X < E.heap.size ∧ W.heap.size ≤ X ∧ Below W.heap.size W E :=
  have nx : X ∉ f := fun h => by have := g X h; omega
  ⟨o.turned tt (fun b hb e => nx (e ▸ hb)), n, fun b hb => by have := g b hb; omega, nx, BX, BX.2.2, z, hB.trans (tt.below hB.size (fun k e => e ▸ z))⟩
theorem put_late {W w E : World} {ks : List Kd} {ds : List Dt} {R : Array Value} {f : List Nat} {m : Nat} (hB : Below W.heap.size W w) (o : OwnL w ks R.toList ds f) (n : f.Nodup) (g : ∀ b ∈ f, m ≤ b) (hc : W.heap.size ≤ m) (BX : Blk E w.heap.size R.toList) (cx : Below w.heap.size w E) :
    OwnL E ks R.toList ds f ∧ f.Nodup ∧ (∀ b ∈ f, W.heap.size ≤ b) ∧ w.heap.size ∉ f ∧ Blk E w.heap.size R.toList ∧ w.heap.size < E.heap.size ∧ W.heap.size ≤ w.heap.size ∧ Below W.heap.size W E :=
  ⟨o.under cx, n, fun b hb => Nat.le_trans hc (g b hb), fun h => by have := o.lt _ h; omega, BX, BX.2.2, hB.size, on_of hB cx⟩
end Go.Proofs.Ytifmdgncgokikaa.Own
namespace Go.Proofs.Ytifmdgncgokikaa.Ins
open Go.ChangeShapes Go.WideShapes Go.ChangeAt Go.RowKit
open Kit Point Slabs Recs
set_option linter.unusedVariables false
set_option linter.unusedSimpArgs false
set_option linter.unnecessarySimpa false
def plst (z : Nat → Nat → Value) (n : Nat) : List Pt := (List.range n).map fun i => (intOf (z i 0), intOf (z i 1))
theorem plst_len (z : Nat → Nat → Value) (n : Nat) : (plst z n).length = n := by simp [plst]
theorem plst_get (z : Nat → Nat → Value) {n i : Nat} (h : i < n) : (plst z n).getD i (0, 0) = (intOf (z i 0), intOf (z i 1)) := by
  simp [plst, List.getD, h]
theorem pX_plst (z : Nat → Nat → Value) {n i : Nat} (h : i < n) : pX (plst z n) i = intOf (z i 0) := by rw [pX, plst_get z h]
theorem pY_plst (z : Nat → Nat → Value) {n i : Nat} (h : i < n) : pY (plst z n) i = intOf (z i 1) := by rw [pY, plst_get z h]
theorem slab_path {w : World} {B n : Nat} {v : Value} {z : Nat → Nat → Value} (h : Slab w B v n 2 (fun i => [z i 0, z i 1])) (hs : Points.Shape (fun i => [z i 0, z i 1]) n) :
    ∃ a c, v = .slice a (plst z n).length c ∧ PathAt w a (plst z n) := by
  rw [plst_len]
  rcases h.writes with ⟨h0, a, c, hv⟩ | ⟨g, c, hv, _, W1⟩
  · subst h0; exact ⟨a, c, hv, .inl (by simp [plst])⟩
  · refine ⟨_, c, hv, .inr ⟨g, rfl, W1.here, fun i hi => ?_⟩⟩
    rw [plst_len] at hi
    obtain ⟨x0, x1, e⟩ := hs i hi
    have q := Points.cells_of W1.cell hi e
    have e' : [z i 0, z i 1] = [Value.int .i64 x0, .int .i64 x1] := e
    injection e' with e0 e1
    injection e1 with e1
    rw [pX_plst z hi, pY_plst z hi, e0, e1]
    exact q
theorem recs_keep8 {w W' : World} {a : Option Addr} {n c : Nat} {z : Nat → Nat → Value} (h : IsRecs Points.kl w a n c z) (hb : Below w.heap.size w W') : IsRecs Points.kl W' a n c z := by
  obtain ⟨h1, h2, h3⟩ := h
  refine ⟨h1, h2, ?_⟩
  rcases h3 with h3 | ⟨g, o, ha, hg, h4⟩
  · exact .inl h3
  · exact .inr ⟨g, o, ha, Nat.lt_of_lt_of_le hg hb.size, fun i hi j kd hk => ⟨(hb.cell (p := ⟨g, _, none⟩) hg).trans (h4 i hi j kd hk).1, (h4 i hi j kd hk).2⟩⟩
def pcF (l : List Pt) (i : Nat) : List Value := [.int .i64 (pX l i), .int .i64 (pY l i)]
theorem pcF_len (l : List Pt) (i : Nat) : (pcF l i).length = 2 := rfl
theorem pcF_shape (l : List Pt) (n : Nat) : Points.Shape (pcF l) n := fun i _ => ⟨_, _, rfl⟩
theorem pcF_cons (p : Pt) (l : List Pt) (i : Nat) : pcF (p :: l) (i + 1) = pcF l i := by simp [pcF, pX, pY]
theorem flat_pc : ∀ l : List Pt, flat (pcF l) l.length = cellsP l
  | [] => rfl
  | p :: l => by
    have e : flat (pcF (p :: l)) (l.length + 1) = pcF (p :: l) 0 ++ flat (fun i => pcF (p :: l) (i + 1)) l.length := by
      simp only [flat, List.range_succ_eq_map, List.flatMap_cons, List.flatMap_map]
    rw [List.length_cons, e, show (fun i => pcF (p :: l) (i + 1)) = pcF l from funext fun i => pcF_cons p l i, flat_pc l]
    simp [pcF, pX, pY, cellsP]
theorem slab_owns {w : World} {B : Nat} {v : Value} {m : List Pt} (h : w.ownsRow B 100 2 v m.length (cellsP m)) : Slab w B v m.length 2 (pcF m) :=
  Slab.of_owns (by rw [flat_pc]; exact h) (pcF_len m)
variable {w : World} {B n : Nat} {v : Value} {z : Nat → Nat → Value}
end Go.Proofs.Ytifmdgncgokikaa.Ins
namespace Go.Proofs.Ytifmdgncgokikaa.Own
open Go.ChangeShapes Go.WideShapes Go.ChangeAt Go.RowKit
open Kit Slabs Ints
set_option linter.unusedVariables false
set_option linter.unusedSimpArgs false
set_option linter.unnecessarySimpa false
set_option maxRecDepth 100000
theorem eq_Box (xx0_0 : Int) (xx1_0 : Int) (xx2_0 : Int) (xx3_0 : Int) (w : World) : Calls Try.prog 72 #[.agg #[.int .i64 xx0_0, .int .i64 xx1_0, .int .i64 xx2_0, .int .i64 xx3_0], .agg #[.int .i64 xx0_0, .int .i64 xx1_0, .int .i64 xx2_0, .int .i64 xx3_0]] w fun e w' => e = .returned (.bool true) ∧ Below w.heap.size w w' := by
  go_enter Try.func72, Try.ntmps72
  go_wp2
  go_ret
  exact ⟨rfl, by go_grown⟩
set_option maxHeartbeats 4000000 in
theorem eq_Object (w : World) {A B : Array Value} {ds : List Dt} {f1 f2 : List Nat} (hb : bulkL ds ≤ 1048576) (h1 : OwnL w LObject A.toList ds f1) (h2 : OwnL w LObject B.toList ds f2) :
    Calls Try.prog 33 #[.agg A, .agg B] w fun e w' => e = .returned (.bool true) ∧ Below w.heap.size w w' := by
  obtain ⟨xa0, xc0, xs0, xx1_0, xx2_0, xx2_1, xx2_2, xx2_3, xF0, hA, rfl, rfl, ox0⟩ := inv_Object h1
  obtain ⟨ya0, yc0, yF0, hB, rfl, oy0⟩ := inv_Object_ h2
  simp only [bulkL_app, bulkL, Dt.bulk] at hb
  have BA : Blk ((w.alloc (.cells A 30)).alloc (.cells B 30)) w.heap.size A.toList := (Blk.new w A 30 rfl).alloc _
  have BB : Blk ((w.alloc (.cells A 30)).alloc (.cells B 30)) (w.heap.size + 1) B.toList := Blk.new _ B 30 (by simp)
  have hW : Below w.heap.size w ((w.alloc (.cells A 30)).alloc (.cells B 30)) := by go_grown
  rw [hA] at BA
  rw [hB] at BB
  have HO := Lib.hid (And.intro ox0 oy0)
  have HA0 := Lib.hid BA
  have HB0 := Lib.hid BB
  have HW0 := Lib.hid hW
  have ca0 : A[0]? = some (.slice xa0 xs0.length xc0) := by rw [← Array.getElem?_toList, hA]; rfl
  have cb0 : B[0]? = some (.slice ya0 xs0.length yc0) := by rw [← Array.getElem?_toList, hB]; rfl
  clear ox0 oy0 hA hB BA BB hW h1 h2
  go_enter Try.func33, Try.ntmps33
  go_wp2_with fail
  ((with_reducible refine (eqP_o _ (by omega) ((HO.out.1).under HW0.out) ((HO.out.2).under HW0.out)).mono ?_); rintro e w1 ⟨rfl, b1⟩)
  have HW1 := Lib.hid (on_of HW0.out b1)
  have HA1 := Lib.hid (HA0.out.keep b1)
  have HB1 := Lib.hid (HB0.out.keep b1)
  clear b1 ca0 cb0
  have ca1 := HA1.out.1 1 (.int .i64 xx1_0) (by rfl)
  have cb1 := HB1.out.1 1 (.int .i64 xx1_0) (by rfl)
  have ca2 := HA1.out.1 2 (.int .i64 xx2_0) (by rfl)
  have ca3 := HA1.out.1 3 (.int .i64 xx2_1) (by rfl)
  have ca4 := HA1.out.1 4 (.int .i64 xx2_2) (by rfl)
  have ca5 := HA1.out.1 5 (.int .i64 xx2_3) (by rfl)
  have cb2 := HB1.out.1 2 (.int .i64 xx2_0) (by rfl)
  have cb3 := HB1.out.1 3 (.int .i64 xx2_1) (by rfl)
  have cb4 := HB1.out.1 4 (.int .i64 xx2_2) (by rfl)
  have cb5 := HB1.out.1 5 (.int .i64 xx2_3) (by rfl)
  go_wp2_with fail
  ((with_reducible refine (eq_Box xx2_0 xx2_1 xx2_2 xx2_3 _).mono ?_); rintro e w2 ⟨rfl, b2⟩)
  have HW2 := Lib.hid (on_of HW1.out b2)
  have HA2 := Lib.hid (HA1.out.keep b2)
  have HB2 := Lib.hid (HB1.out.keep b2)
  clear b2 ca1 cb1 ca2 ca3 ca4 ca5 cb2 cb3 cb4 cb5
  go_wp2
  go_ret
  exact ⟨rfl, HW2.out⟩
end Go.Proofs.Ytifmdgncgokikaa.Own
