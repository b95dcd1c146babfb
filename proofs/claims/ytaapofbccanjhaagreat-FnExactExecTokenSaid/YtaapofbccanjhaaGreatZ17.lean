/-
  Texts of this seat, laid together: LawKit, Box
-/
import Derived.BigQuiet
import Derived.Deep.QuietTactic
import Derived.Deep.RegionHeld3
import Derived.Test.YtaapofbccanjhaaGreatZ08
import Derived.Test.YtaapofbccanjhaaGreatZ01
namespace Go.Proofs.YtaapofbccanjhaaGreat.Own
open Go.ChangeShapes Go.WideShapes Go.ChangeAt Go.RowKit
open Kit Slabs
set_option linter.unusedVariables false
set_option linter.unusedSimpArgs false
set_option linter.unnecessarySimpa false
def Made (w : World) (ks : List Kd) (ds : List Dt) (R : Array Value) (w' : World) : Prop := ∃ fp, OwnL w' ks R.toList ds fp ∧ fp.Nodup ∧ (∀ b ∈ fp, w.heap.size ≤ b) ∧ Below w.heap.size w w'
theorem var_new {P : Program} {T : TypeId} {n : Nat} (hsz : ∀ w : World, (Go.sizeOf T).run P w = .ok n w) (w : World) (Z : Array Value) (hZ : Z.size = n) {ks : List Kd} {ds : List Dt} {fp : List Nat} {w0 : World} {R : Array Value} (o : OwnL w0 ks R.toList ds fp) (hn : szL ks = n) :
    ∃ E, (hstore T ⟨w.heap.size, 0, none⟩ (.agg R)).run P (w.alloc (.cells Z T)) = .ok () E ∧ Blk E w.heap.size R.toList ∧ Below w.heap.size w E ∧ w.heap.size < E.heap.size := by
  have hR : R.toList.length = n := o.len.trans hn
  have hZl : Z.toList.length = n := by simpa using hZ
  have B := Blk.new w Z T rfl
  have hs := hstore_run (P := P) (t := T) hsz (w := w.alloc (.cells Z T)) (b := w.heap.size) (o := 0) (A := []) (us := Z.toList) (R := []) (vs := R.toList) (by simpa using B) rfl (by rw [hR, hZl]) hR (fun v hv => o.one v hv)
  have e : R.toList.toArray = R := by simp
  rw [e] at hs
  refine ⟨_, hs, by have := Blk.sets (P := []) (us := Z.toList) (vs := R.toList) (R := []) (w := w.alloc (.cells Z T)) (b := w.heap.size) (o := 0) (by simpa using B) rfl (by rw [hR, hZl]); simpa using this, Below.setCells (Nat.le_refl _) R.toList 0 (by go_grown), by rw [size_sets]; simp⟩
theorem var_load {P : Program} {T : TypeId} {n : Nat} (hagg : ∀ w : World, (isAgg T).run P w = .ok true w) (hsz : ∀ w : World, (Go.sizeOf T).run P w = .ok n w) {w : World} {b : Nat} {R : Array Value} (h : Blk w b R.toList) {ks : List Kd} {ds : List Dt} {fp : List Nat} {w0 : World} (o : OwnL w0 ks R.toList ds fp) (hn : szL ks = n) :
    (hload T ⟨b, 0, none⟩).run P w = .ok (.agg R) w := by
  have := hload_run (P := P) (t := T) hagg hsz (w := w) (b := b) (o := 0) (us := R.toList) (by have := Blk.part (P := []) (us := R.toList) (R := []) (w := w) (b := b) (o := 0) (by simpa using h) rfl; simpa using this) (o.len.trans hn)
  simpa using this
theorem varC_load {P : Program} {T : TypeId} {n : Nat} (hagg : ∀ w : World, (isAgg T).run P w = .ok true w) (hsz : ∀ w : World, (Go.sizeOf T).run P w = .ok n w) {w : World} {b : Nat} {R : Array Value} (h : Blk w b R.toList) {ks : List Kd} {ds : List Dt} {w0 : World} (o : CameL w0 ks R.toList ds) (hn : szL ks = n) :
    (hload T ⟨b, 0, none⟩).run P w = .ok (.agg R) w := by
  have := hload_run (P := P) (t := T) hagg hsz (w := w) (b := b) (o := 0) (us := R.toList) (by have := Blk.part (P := []) (us := R.toList) (R := []) (w := w) (b := b) (o := 0) (by simpa using h) rfl; simpa using this) (o.len.trans hn)
  simpa using this
theorem came_st {w : World} {k : Kd} {cs : List Value} {d : Dt} {ks : List Kd} (h : Came w k cs d) (hk : k.fl = .st ks) : ∃ ds, CameL w ks cs ds := by
  obtain ⟨d', h'⟩ := h.flatten
  rw [hk] at h'
  cases h' with
  | st h' => exact ⟨_, h'⟩
/-! ### How many marks there can be -/
mutual
def Kd.wd : Kd → Nat
  | .int => 1
  | .str => 1
  | .bool => 1
  | .st ks => wdL ks
  | .sl e => e.wd
def wdL : List Kd → Nat
  | [] => 0
  | k :: r => k.wd + wdL r
end
theorem mul_both {a b x y : Nat} : a * (1 + x) + b * (1 + y) ≤ (a + b) * (1 + (x + y)) := by
  have h1 : a * (1 + x) ≤ a * (1 + (x + y)) := Nat.mul_le_mul_left _ (by omega)
  have h2 : b * (1 + y) ≤ b * (1 + (x + y)) := Nat.mul_le_mul_left _ (by omega)
  rw [Nat.add_mul]; omega
mutual
theorem Own.cnt_le {w : World} : ∀ {k : Kd} {cs : List Value} {d : Dt} {fp : List Nat}, Own w k cs d fp → d.cnt ≤ k.wd * (1 + d.bulk)
  | _, _, _, _, .int n => by simp [Dt.cnt, Kd.wd]
  | _, _, _, _, .str s => by simp [Dt.cnt, Kd.wd]
  | _, _, _, _, .bool b => by simp [Dt.cnt, Kd.wd]
  | _, _, _, _, .st h => by simp only [Dt.cnt, Kd.wd, Dt.bulk]; exact OwnL.cnt_le h
  | _, _, _, _, .nil a c => by simp [Dt.cnt, cntL]
  | _, _, _, _, .sl h1 h2 h3 h4 h5 h6 => by
    simp only [Dt.cnt, Kd.wd, Dt.bulk]
    exact Nat.le_trans (Rows.cnt_le h6) (Nat.mul_le_mul_left _ (by omega))
theorem OwnL.cnt_le {w : World} : ∀ {ks : List Kd} {cs : List Value} {ds : List Dt} {fp : List Nat}, OwnL w ks cs ds fp → cntL ds ≤ wdL ks * (1 + bulkL ds)
  | _, _, _, _, .nil => by simp [cntL]
  | _, _, _, _, .cons h r => by
    simp only [cntL, wdL, bulkL]
    have h1 := Own.cnt_le h
    have h2 := OwnL.cnt_le r
    exact Nat.le_trans (Nat.add_le_add h1 h2) mul_both
theorem Rows.cnt_le {w : World} : ∀ {e : Kd} {g o : Nat} {ds : List Dt} {fp : List Nat}, Rows w e g o ds fp → cntL ds ≤ e.wd * (ds.length + bulkL ds)
  | _, _, _, _, _, .nil => by simp [cntL]
  | e, _, _, _, _, .cons (d := d) (ds := ds) hc h r => by
    simp only [cntL, bulkL, List.length_cons]
    have h1 := Own.cnt_le h
    have h2 := Rows.cnt_le r
    have h3 : e.wd * (1 + d.bulk) + e.wd * (ds.length + bulkL ds) = e.wd * (ds.length + 1 + (d.bulk + bulkL ds)) := by rw [← Nat.mul_add]; congr 1; omega
    omega
end
mutual
theorem cnt0_le : ∀ d : Dt, d.cnt0 ≤ d.cnt
  | .int _ => by simp [Dt.cnt0]
  | .str _ => by simp [Dt.cnt0]
  | .bool _ => by simp [Dt.cnt0]
  | .st fs => by simp only [Dt.cnt0, Dt.cnt]; exact cnt0L_le fs
  | .sl es => by simp [Dt.cnt0, Dt.cnt]
theorem cnt0L_le : ∀ ds : List Dt, cnt0L ds ≤ cntL ds
  | [] => by simp [cnt0L, cntL]
  | d :: r => by simp only [cnt0L, cntL]; have := cnt0_le d; have := cnt0L_le r; omega
end
theorem marks_bound {w : World} {ks : List Kd} {cs : List Value} {ds : List Dt} {fp : List Nat} (h : OwnL w ks cs ds fp) (hk : wdL ks ≤ 100) (hb : bulkL ds ≤ 1048576) : 1 + cnt0L ds ≤ 1000000000 := by
  have h1 := h.cnt_le
  have h2 := cnt0L_le ds
  have h3 := Nat.mul_le_mul_right (1 + bulkL ds) hk
  omega
theorem Turns.low {w w' : World} {fp : List Nat} {B : Nat} {w0 : World} (h : Turns w w' (fun b => b ∈ fp)) (hb : Below B w0 w) (hB : B ≤ w.heap.size) (hf : ∀ b ∈ fp, B ≤ b) : Below B w0 w' := hb.trans (h.below hB hf)
theorem apart_of {fp fq : List Nat} {m : Nat} (h1 : ∀ b ∈ fp, b < m) (h2 : ∀ b ∈ fq, m ≤ b) : ∀ b ∈ fp, b ∉ fq := fun b h h' => by have := h1 b h; have := h2 b h'; omega
theorem var_put {P : Program} {T : TypeId} {n : Nat} (hsz : ∀ w : World, (Go.sizeOf T).run P w = .ok n w) {w : World} {X : Nat} {Z : Array Value} (B : Blk w X Z.toList) (hZ : Z.size = n) {ks : List Kd} {ds : List Dt} {fp : List Nat} {w0 : World} {R : Array Value} (o : OwnL w0 ks R.toList ds fp) (hn : szL ks = n) :
    ∃ E, (hstore T ⟨X, 0, none⟩ (.agg R)).run P w = .ok () E ∧ Blk E X R.toList ∧ Turns w E (fun b => b = X) := by
  have hR : R.toList.length = n := o.len.trans hn
  have hZl : Z.toList.length = n := by simpa using hZ
  have hs := hstore_run (P := P) (t := T) hsz (w := w) (b := X) (o := 0) (A := []) (us := Z.toList) (R := []) (vs := R.toList) (by simpa using B) rfl (by rw [hR, hZl]) hR (fun v hv => o.one v hv)
  have e : R.toList.toArray = R := by simp
  rw [e] at hs
  exact ⟨_, hs, by have := Blk.sets (P := []) (us := Z.toList) (vs := R.toList) (R := []) (w := w) (b := X) (o := 0) (by simpa using B) rfl (by rw [hR, hZl]); simpa using this, turns_sets (S := fun b => b = X) X rfl _ _ _⟩
theorem made0 {B : Nat} {W w' : World} {Z : Array Value} {T : TypeId} (hB : B ≤ W.heap.size) (b : Below (W.alloc (.cells Z T)).heap.size (W.alloc (.cells Z T)) w') : Blk w' W.heap.size Z.toList ∧ B ≤ W.heap.size ∧ W.heap.size < (W.alloc (.cells Z T)).heap.size :=
  ⟨(Blk.new W Z T rfl).keep b, hB, by simp⟩
theorem made1 {B : Nat} {W w' : World} {Z : Array Value} {T : TypeId} (hB : B ≤ W.heap.size) (b : Below (W.alloc (.cells Z T)).drew.heap.size (W.alloc (.cells Z T)).drew w') : Blk w' W.heap.size Z.toList ∧ B ≤ W.heap.size ∧ W.heap.size < (W.alloc (.cells Z T)).drew.heap.size :=
  ⟨(show Blk (W.alloc (.cells Z T)).drew W.heap.size Z.toList from Blk.new W Z T rfl).keep b, hB, by simp⟩
theorem kept0 {B X m : Nat} {w w1 w' : World} {Z : Array Value} (h : Blk w X Z.toList ∧ B ≤ X ∧ X < m) (k : Below w.heap.size w w1) (b : Below w1.heap.size w1 w') : Blk w' X Z.toList ∧ B ≤ X ∧ X < w1.heap.size :=
  ⟨(h.1.keep k).keep b, h.2.1, (h.1.keep k).2.2⟩
theorem put_all {W wc w E : World} {ks : List Kd} {ds : List Dt} {R : Array Value} {f : List Nat} {X : Nat} (hB : Below W.heap.size W w) (o : OwnL w ks R.toList ds f) (n : f.Nodup) (g : ∀ b ∈ f, wc.heap.size ≤ b) (z : W.heap.size ≤ X) (x : X < wc.heap.size) (BX : Blk E X R.toList) (tt : Turns w E (fun b => b = X)) :
    OwnL E ks R.toList ds f ∧ f.Nodup ∧ (∀ b ∈ f, W.heap.size ≤ b) ∧ X ∉ f ∧ Blk E X R.toList ∧ X < E.heap.size ∧ W.heap.size ≤ X ∧ Below W.heap.size W E :=
  have nx : X ∉ f := fun h => by have := g X h; omega
  ⟨o.turned tt (fun b hb e => nx (e ▸ hb)), n, fun b hb => by have := g b hb; omega, nx, BX, BX.2.2, z, hB.trans (tt.below hB.size (fun k e => e ▸ z))⟩
theorem put_late {W w E : World} {ks : List Kd} {ds : List Dt} {R : Array Value} {f : List Nat} {m : Nat} (hB : Below W.heap.size W w) (o : OwnL w ks R.toList ds f) (n : f.Nodup) (g : ∀ b ∈ f, m ≤ b) (hc : W.heap.size ≤ m) (BX : Blk E w.heap.size R.toList) (cx : Below w.heap.size w E) :
    OwnL E ks R.toList ds f ∧ f.Nodup ∧ (∀ b ∈ f, W.heap.size ≤ b) ∧ w.heap.size ∉ f ∧ Blk E w.heap.size R.toList ∧ w.heap.size < E.heap.size ∧ W.heap.size ≤ w.heap.size ∧ Below W.heap.size W E :=
  ⟨o.under cx, n, fun b hb => Nat.le_trans hc (g b hb), fun h => by have := o.lt _ h; omega, BX, BX.2.2, hB.size, on_of hB cx⟩
end Go.Proofs.YtaapofbccanjhaaGreat.Own
namespace Go.Proofs.YtaapofbccanjhaaGreat.Box
open Go.ChangeShapes Go.WideShapes Go.ChangeAt Go.RowKit
open Kit Point
set_option linter.unusedVariables false
set_option linter.unusedSimpArgs false
set_option linter.unnecessarySimpa false
attribute [local go_sem ↓] run_mx run_mn
def dots (x0 y0 x1 y1 : Int) : Int := if bokB x0 y0 x1 y1 = true then (x1 - x0) * (y1 - y0) else 0
theorem area_le {a b : Int} (h0 : 0 ≤ a) (h1 : a ≤ 400) (h2 : 0 ≤ b) (h3 : b ≤ 400) : 0 ≤ a * b ∧ a * b ≤ 160000 :=
  ⟨Int.mul_nonneg h0 h2, Int.le_trans (Int.mul_le_mul h1 h3 h2 (by omega)) (by omega)⟩
set_option maxHeartbeats 400000 in
theorem dots_impl (x0 y0 x1 y1 : Int) (w : World) : Calls Tryz.prog 161 #[.agg #[.int .i64 x0, .int .i64 y0, .int .i64 x1, .int .i64 y1]] w fun e w' => e = .returned (.int .i64 (dots x0 y0 x1 y1)) ∧ Below w.heap.size w w' := by
  cases h : bokB x0 y0 x1 y1
  · go_enter Tryz.func161, Tryz.ntmps161
    go_wp2_with (go_at_call 114; refine (bok_impl _ _ _ _ _).mono ?_; rintro e w' ⟨rfl, hb⟩; have hB := on_of (W := w) (by go_grown) hb; obtain ⟨hc, hf⟩ := bcell hb; have hz : w.heap.size < w'.heap.size := (by have := hb.size; (try simp at this); omega); clear hb)
    go_ret
    exact ⟨ret_int (by simp [dots, h]), by go_grown⟩
  · obtain ⟨b0, b1, b2, b3, b4, b5⟩ := bok_true h
    obtain ⟨a0, a1⟩ := area_le (a := x1 - x0) (b := y1 - y0) (by omega) (by omega) (by omega) (by omega)
    go_enter Tryz.func161, Tryz.ntmps161
    go_wp2_with (go_at_call 114; refine (bok_impl _ _ _ _ _).mono ?_; rintro e w' ⟨rfl, hb⟩; have hB := on_of (W := w) (by go_grown) hb; obtain ⟨hc, hf⟩ := bcell hb; have hz : w.heap.size < w'.heap.size := (by have := hb.size; (try simp at this); omega); clear hb)
    go_ret
    exact ⟨ret_int (by simp [dots, h]), by go_grown⟩
def DotsOf (x0 y0 x1 y1 n : Int) : Prop := (n = 0 ∧ ¬ (x0 < x1 ∧ y0 < y1)) ∨ (1 ≤ n ∧ x0 < x1 ∧ y0 < y1)
theorem dots_of {x0 y0 x1 y1 : Int} (h0 : -200 ≤ x0 ∧ x0 ≤ 200) (h1 : -200 ≤ y0 ∧ y0 ≤ 200) (h2 : -200 ≤ x1 ∧ x1 ≤ 200) (h3 : -200 ≤ y1 ∧ y1 ≤ 200) : DotsOf x0 y0 x1 y1 (dots x0 y0 x1 y1) := by
  unfold dots DotsOf
  by_cases h : x0 < x1 ∧ y0 < y1
  · have hb : bokB x0 y0 x1 y1 = true := by simp [bokB, inB]; omega
    rw [if_pos hb]
    have := Int.mul_pos (show 0 < x1 - x0 by omega) (show 0 < y1 - y0 by omega)
    exact .inr ⟨by omega, h⟩
  · refine .inl ⟨?_, h⟩
    by_cases hb : bokB x0 y0 x1 y1 = true
    · rw [if_pos hb]
      obtain ⟨_, _, _, _, a, b⟩ := bok_true hb
      by_cases hx : x0 = x1
      · subst hx; simp
      · have : y0 = y1 := by omega
        subst this; simp
    · rw [if_neg hb]
theorem dots_impl' (x0 y0 x1 y1 : Int) (w : World) (h : (-200 ≤ x0 ∧ x0 ≤ 200) ∧ (-200 ≤ y0 ∧ y0 ≤ 200) ∧ (-200 ≤ x1 ∧ x1 ≤ 200) ∧ (-200 ≤ y1 ∧ y1 ≤ 200)) : Calls Tryz.prog 161 #[.agg #[.int .i64 x0, .int .i64 y0, .int .i64 x1, .int .i64 y1]] w fun e w' => ∃ n : Int, DotsOf x0 y0 x1 y1 n ∧ e = .returned (.int .i64 n) ∧ Below w.heap.size w w' :=
  (dots_impl _ _ _ _ w).mono fun _ _ ⟨he, hb⟩ => ⟨_, dots_of h.1 h.2.1 h.2.2.1 h.2.2.2, he, hb⟩
def meetB (x0 y0 x1 y1 u0 v0 u1 v1 : Int) : Bool := bokB x0 y0 x1 y1 && bokB u0 v0 u1 v1 && decide (mx x0 u0 < mn x1 u1 ∧ mx y0 v0 < mn y1 v1)
def meetV (x0 y0 x1 y1 u0 v0 u1 v1 : Int) : Value :=
  .agg #[.int .i64 (sel (meetB x0 y0 x1 y1 u0 v0 u1 v1) (mx x0 u0)), .int .i64 (sel (meetB x0 y0 x1 y1 u0 v0 u1 v1) (mx y0 v0)), .int .i64 (sel (meetB x0 y0 x1 y1 u0 v0 u1 v1) (mn x1 u1)), .int .i64 (sel (meetB x0 y0 x1 y1 u0 v0 u1 v1) (mn y1 v1))]
theorem meet_no {x0 y0 x1 y1 u0 v0 u1 v1 : Int} (h : bokB x0 y0 x1 y1 = false ∨ bokB u0 v0 u1 v1 = false ∨ ¬ (mx x0 u0 < mn x1 u1 ∧ mx y0 v0 < mn y1 v1)) : Ending.returned (.agg #[.int .i64 0, .int .i64 0, .int .i64 0, .int .i64 0]) = .returned (meetV x0 y0 x1 y1 u0 v0 u1 v1) := by
  have hm : meetB x0 y0 x1 y1 u0 v0 u1 v1 = false := by
    rcases h with h | h | h
    · simp [meetB, h]
    · simp [meetB, h]
    · simp only [meetB, Bool.and_eq_false_iff, decide_eq_false_iff_not]; exact .inr h
  simp [meetV, hm, sel]
theorem meet_yes {x0 y0 x1 y1 u0 v0 u1 v1 : Int} (h1 : bokB x0 y0 x1 y1 = true) (h2 : bokB u0 v0 u1 v1 = true) (h3 : mx x0 u0 < mn x1 u1 ∧ mx y0 v0 < mn y1 v1) : Ending.returned (.agg #[.int .i64 (mx x0 u0), .int .i64 (mx y0 v0), .int .i64 (mn x1 u1), .int .i64 (mn y1 v1)]) = .returned (meetV x0 y0 x1 y1 u0 v0 u1 v1) := by
  have hm : meetB x0 y0 x1 y1 u0 v0 u1 v1 = true := by
    simp only [meetB, h1, h2, Bool.true_and, decide_eq_true_eq]; exact h3
  simp [meetV, hm, sel]
set_option maxHeartbeats 2000000 in
theorem meet_impl (x0 y0 x1 y1 u0 v0 u1 v1 : Int) (w : World) : Calls Tryz.prog 151 #[.agg #[.int .i64 x0, .int .i64 y0, .int .i64 x1, .int .i64 y1], .agg #[.int .i64 u0, .int .i64 v0, .int .i64 u1, .int .i64 v1]] w fun e w' => e = .returned (meetV x0 y0 x1 y1 u0 v0 u1 v1) ∧ Below w.heap.size w w' := by
  cases h1 : bokB x0 y0 x1 y1 <;> cases h2 : bokB u0 v0 u1 v1
  · go_enter Tryz.func151, Tryz.ntmps151
    go_wp2_with (go_at_call 114; refine (bok_impl _ _ _ _ _).mono ?_; rintro e w' ⟨rfl, hb⟩; have hB := on_of (W := w) (by go_grown) hb; obtain ⟨hc, hf⟩ := bcell hb; have hz : w.heap.size < w'.heap.size := (by have := hb.size; (try simp at this); omega); have hz1 : w.heap.size + 1 < w'.heap.size := (by have := hb.size; (try simp at this); omega); have hz2 : w.heap.size + 1 + 1 < w'.heap.size := (by have := hb.size; (try simp at this); omega); clear hb)
    refine bodyPost_ret (by simp [results, Tryz.results151, go_sem, hc, hz2]; try rfl) rfl ?_
    exact ⟨meet_no (.inl h1), by go_grown⟩
  · go_enter Tryz.func151, Tryz.ntmps151
    go_wp2_with (go_at_call 114; refine (bok_impl _ _ _ _ _).mono ?_; rintro e w' ⟨rfl, hb⟩; have hB := on_of (W := w) (by go_grown) hb; obtain ⟨hc, hf⟩ := bcell hb; have hz : w.heap.size < w'.heap.size := (by have := hb.size; (try simp at this); omega); have hz1 : w.heap.size + 1 < w'.heap.size := (by have := hb.size; (try simp at this); omega); have hz2 : w.heap.size + 1 + 1 < w'.heap.size := (by have := hb.size; (try simp at this); omega); clear hb)
    refine bodyPost_ret (by simp [results, Tryz.results151, go_sem, hc, hz2]; try rfl) rfl ?_
    exact ⟨meet_no (.inl h1), by go_grown⟩
  · go_enter Tryz.func151, Tryz.ntmps151
    go_wp2_with (go_at_call 114; refine (bok_impl _ _ _ _ _).mono ?_; rintro e w' ⟨rfl, hb⟩; have hB := on_of (W := w) (by go_grown) hb; obtain ⟨hc, hf⟩ := bcell hb; have hz : w.heap.size < w'.heap.size := (by have := hb.size; (try simp at this); omega); have hz1 : w.heap.size + 1 < w'.heap.size := (by have := hb.size; (try simp at this); omega); have hz2 : w.heap.size + 1 + 1 < w'.heap.size := (by have := hb.size; (try simp at this); omega); clear hb)
    refine bodyPost_ret (by simp [results, Tryz.results151, go_sem, *]; try rfl) rfl ?_
    exact ⟨meet_no (.inr (.inl h2)), by go_grown⟩
  · have r1 := bok_true h1
    have r2 := bok_true h2
    have m0 := mx_in (a := x0) (b := u0) (by omega) (by omega)
    have m1 := mx_in (a := y0) (b := v0) (by omega) (by omega)
    have m2 := mn_in (a := x1) (b := u1) (by omega) (by omega)
    have m3 := mn_in (a := y1) (b := v1) (by omega) (by omega)
    go_enter Tryz.func151, Tryz.ntmps151
    go_wp2_with (first | (go_at_call 114; refine (bok_impl _ _ _ _ _).mono ?_; rintro e w' ⟨rfl, hb⟩; have hB := on_of (W := w) (by go_grown) hb; obtain ⟨hc, hf⟩ := bcell hb; have hz : w.heap.size < w'.heap.size := (by have := hb.size; (try simp at this); omega); have hz1 : w.heap.size + 1 < w'.heap.size := (by have := hb.size; (try simp at this); omega); have hz2 : w.heap.size + 1 + 1 < w'.heap.size := (by have := hb.size; (try simp at this); omega); clear hb) | (go_at_call 161; refine (dots_impl' _ _ _ _ _ ⟨m0, m1, m2, m3⟩).mono ?_; rintro e w' ⟨n, hn, rfl, hb⟩; have hB := on_of (W := w) (by go_grown) hb; obtain ⟨hc, hf⟩ := bcell hb; have hz : w.heap.size + 1 + 1 < w'.heap.size := (by have := hb.size; (try simp at this); omega); have hz1 := hb.size; clear hb; rcases hn with ⟨rfl, hn⟩ | ⟨hn1, hn⟩))
    all_goals refine bodyPost_ret (by simp [results, Tryz.results151, go_sem, *]; try rfl) rfl ?_
    all_goals first | exact ⟨meet_no (.inr (.inr hn)), by go_grown⟩ | exact ⟨meet_yes h1 h2 hn, by go_grown⟩
set_option maxHeartbeats 2000000 in
theorem meet_spec (x0 y0 x1 y1 u0 v0 u1 v1 : Int) (w : World) : Calls Tryz.prog 67 #[.agg #[.int .i64 x0, .int .i64 y0, .int .i64 x1, .int .i64 y1], .agg #[.int .i64 u0, .int .i64 v0, .int .i64 u1, .int .i64 v1]] w fun e w' => e = .returned (meetV x0 y0 x1 y1 u0 v0 u1 v1) ∧ Below w.heap.size w w' := by
  cases h1 : bokB x0 y0 x1 y1 <;> cases h2 : bokB u0 v0 u1 v1
  all_goals
    go_enter Tryz.func67, Tryz.ntmps67
    go_wp2_with (go_at_call 108; refine (bok_spec _ _ _ _ _).mono ?_; rintro e w' ⟨rfl, hb⟩; have hB := on_of (W := w) (by go_grown) hb; obtain ⟨hc, hf⟩ := bcell hb; have hz : w.heap.size < w'.heap.size := (by have := hb.size; (try simp at this); omega); have hz1 : w.heap.size + 1 < w'.heap.size := (by have := hb.size; (try simp at this); omega); have hz2 : w.heap.size + 1 + 1 < w'.heap.size := (by have := hb.size; (try simp at this); omega); have hz3 : w.heap.size + 1 + 1 + 1 < w'.heap.size := (by have := hb.size; (try simp at this); omega); clear hb)
    all_goals refine bodyPost_ret (by simp [results, Tryz.results67, go_sem, *]; try rfl) rfl ?_
  all_goals first | exact ⟨meet_no (.inl h1), by go_grown⟩ | exact ⟨meet_no (.inr (.inl h2)), by go_grown⟩ | exact ⟨meet_no (.inr (.inr (by omega))), by go_grown⟩ | exact ⟨meet_yes h1 h2 (by omega), by go_grown⟩
def MeetOf (x0 y0 x1 y1 u0 v0 u1 v1 a b c d : Int) : Prop :=
  (a = mx x0 u0 ∧ b = mx y0 v0 ∧ c = mn x1 u1 ∧ d = mn y1 v1 ∧ a < c ∧ b < d ∧ bokB x0 y0 x1 y1 = true ∧ bokB u0 v0 u1 v1 = true) ∨
  (a = 0 ∧ b = 0 ∧ c = 0 ∧ d = 0 ∧ (bokB x0 y0 x1 y1 = false ∨ bokB u0 v0 u1 v1 = false ∨ ¬ (mx x0 u0 < mn x1 u1 ∧ mx y0 v0 < mn y1 v1)))
theorem meet_of (x0 y0 x1 y1 u0 v0 u1 v1 : Int) : ∃ a b c d : Int, MeetOf x0 y0 x1 y1 u0 v0 u1 v1 a b c d ∧ meetV x0 y0 x1 y1 u0 v0 u1 v1 = .agg #[.int .i64 a, .int .i64 b, .int .i64 c, .int .i64 d] := by
  by_cases h : bokB x0 y0 x1 y1 = true ∧ bokB u0 v0 u1 v1 = true ∧ (mx x0 u0 < mn x1 u1 ∧ mx y0 v0 < mn y1 v1)
  · obtain ⟨h1, h2, h3⟩ := h
    have := meet_yes h1 h2 h3
    exact ⟨_, _, _, _, .inl ⟨rfl, rfl, rfl, rfl, h3.1, h3.2, h1, h2⟩, by injection this with this; exact this.symm⟩
  · have h' : bokB x0 y0 x1 y1 = false ∨ bokB u0 v0 u1 v1 = false ∨ ¬ (mx x0 u0 < mn x1 u1 ∧ mx y0 v0 < mn y1 v1) := by
      cases h1 : bokB x0 y0 x1 y1
      · exact .inl rfl
      · cases h2 : bokB u0 v0 u1 v1
        · exact .inr (.inl rfl)
        · exact .inr (.inr fun h3 => h ⟨h1, h2, h3⟩)
    have := meet_no h'
    exact ⟨_, _, _, _, .inr ⟨rfl, rfl, rfl, rfl, h'⟩, by injection this with this; exact this.symm⟩
theorem meet_impl' (x0 y0 x1 y1 u0 v0 u1 v1 : Int) (w : World) : Calls Tryz.prog 151 #[.agg #[.int .i64 x0, .int .i64 y0, .int .i64 x1, .int .i64 y1], .agg #[.int .i64 u0, .int .i64 v0, .int .i64 u1, .int .i64 v1]] w fun e w' => ∃ a b c d : Int, MeetOf x0 y0 x1 y1 u0 v0 u1 v1 a b c d ∧ e = .returned (.agg #[.int .i64 a, .int .i64 b, .int .i64 c, .int .i64 d]) ∧ Below w.heap.size w w' :=
  (meet_impl _ _ _ _ _ _ _ _ w).mono fun _ _ ⟨he, hb⟩ => by
    obtain ⟨a, b, c, d, hm, hv⟩ := meet_of x0 y0 x1 y1 u0 v0 u1 v1
    exact ⟨a, b, c, d, hm, by rw [he, hv], hb⟩
end Go.Proofs.YtaapofbccanjhaaGreat.Box
