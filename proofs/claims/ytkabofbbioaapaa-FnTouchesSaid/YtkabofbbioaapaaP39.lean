/-
  Texts of this seat, laid together: Oa12, Of12
-/
import Derived.Test.YtkabofbbioaapaaP35
import Derived.Test.YtkabofbbioaapaaP36
import Derived.Test.YtkabofbbioaapaaP37
namespace Go.Proofs.Ytkabofbbioaapaa.Own
open Go.ChangeShapes Go.WideShapes Go.ChangeAt Go.RowKit
open Kit Slabs Ints Point
open Go.Proofs.Ytkabofbbioaapaa.Ins (Pt Bx obx obK gen_any9)
set_option linter.unusedVariables false
set_option linter.unusedSimpArgs false
set_option linter.unnecessarySimpa false
set_option maxRecDepth 100000
def Apo (w wr : World) (a : Option Addr) (n c : Nat) (es : List Dt) : Prop := es.length = n ∧ ∃ P fq, wr.ownsRow w.heap.size 28 6 (.slice a n c) n P ∧ OwnL wr (List.replicate n KObject) P es fq ∧ fq.Nodup ∧ (∀ b ∈ fq, w.heap.size ≤ b ∧ b ∉ rowL (.slice a n c)) ∧ Below w.heap.size w wr
theorem Apo.nil {w wr : World} (h : Below w.heap.size w wr) : Apo w wr none 0 0 [] :=
  ⟨rfl, [], [], World.ownsRow_nil _ _ _ _, .nil, List.nodup_nil, fun b hb => absurd hb List.not_mem_nil, h⟩
theorem Apo.start (w : World) : Apo w (w.alloc (.cells #[] 28)) (some ⟨w.heap.size, 0, none⟩) 0 0 [] :=
  ⟨rfl, [], [], World.ownsRow_made w #[] (e := 28) (size := 6) 0 (Nat.le_refl _) (by decide) (by simp), .nil, List.nodup_nil, fun b hb => absurd hb List.not_mem_nil, (Below.refl _ _).alloc (Nat.le_refl _) _⟩
theorem Apo.below {w wr : World} {a : Option Addr} {n c : Nat} {R : List Dt} (h : Apo w wr a n c R) : Below w.heap.size w wr := by
  obtain ⟨_, _, _, _, _, _, _, h⟩ := h; exact h
theorem Apo.len {w wr : World} {a : Option Addr} {n c : Nat} {R : List Dt} (h : Apo w wr a n c R) : R.length = n := h.1
theorem Apo.on {w wr w1 : World} {a : Option Addr} {n c : Nat} {R : List Dt} (h : Apo w wr a n c R) (hb : Below wr.heap.size wr w1) : Apo w w1 a n c R := by
  obtain ⟨h0, P, fq, h1, h2, h3, h4, h5⟩ := h
  exact ⟨h0, P, fq, row_on h1 hb, h2.under hb, h3, h4, on_of h5 hb⟩
theorem Apo.row {w wr : World} {a : Option Addr} {n c : Nat} {R : List Dt} (h : Apo w wr a n c R) : ∃ P, wr.ownsRow w.heap.size 28 6 (.slice a n c) n P ∧ ∀ (w1 w' : World) (a' : Option Addr) (c' : Nat) (us : List Value) (ds : List Dt) (f : List Nat),
    Below wr.heap.size wr w1 → OwnL w1 LObject us ds f → f.Nodup → (∀ b ∈ f, wr.heap.size ≤ b) → w'.ownsRow w.heap.size 28 6 (.slice a' (n + 1) c') (n + 1) (P ++ us) → w1.grownBy w' (Value.ownBlock (.slice a n c)) → (∀ b ∈ rowL (.slice a' (n + 1) c'), b ∈ rowL (.slice a n c) ∨ w1.heap.size ≤ b) →
    Apo w w' a' (n + 1) c' (R ++ [.st ds]) := by
  obtain ⟨h0, P, fq, h1, h2, h3, h4, h5⟩ := h
  refine ⟨P, h1, fun w1 w' a' c' us ds f hb ho hn hf hown hg hnew => ⟨by simp [h0], P ++ us, fq ++ f, hown, ?_, app_nodup h3 hn (fun x hx hy => by have := hf x hy; have := h2.lt x hx; omega), ?_, ?_⟩⟩
  · rw [List.replicate_succ']
    have ht := Turns.of_grown hg
    have hlt := rowL_ge h1
    refine OwnL.snoc ((h2.under hb).turned ht (fun b hb e => (h4 b hb).2 (by simp [rowL, e]))) (.st (ho.turned ht (fun b hb e => ?_)))
    have := hlt b (by simp [rowL, e])
    have := hf b hb
    omega
  · intro b hb2
    have hlt := rowL_ge h1
    rcases List.mem_append.1 hb2 with h | h
    · refine ⟨(h4 b h).1, fun hm => ?_⟩
      rcases hnew b hm with h6 | h6
      · exact (h4 b h).2 h6
      · have := h2.lt b h; have := hb.size; omega
    · have hge := hf b h
      refine ⟨by have := h5.size; omega, fun hm => ?_⟩
      rcases hnew b hm with h6 | h6
      · have := hlt b h6; omega
      · have := ho.lt b h; omega
  · have hlt := rowL_ge h1
    refine (on_of h5 hb).trans ((Turns.of_grown hg).below ?_ (fun k hk => ?_))
    · have := (on_of h5 hb).size; omega
    · exact (hlt k (by simp [rowL, hk])).1
def NewOs (es : List Dt) (w : World) (e : Ending) (w' : World) : Prop := ∃ (a : Option Addr) (c : Nat) (fp : List Nat), e = .returned (.slice a es.length c) ∧ Own w' (.sl KObject) [.slice a es.length c] (.sl es) fp ∧ fp.Nodup ∧ (∀ b ∈ fp, w.heap.size ≤ b) ∧ Below w.heap.size w w'
theorem Apo.done {w wr : World} {a : Option Addr} {n c : Nat} {R : List Dt} (h : Apo w wr a n c R) : NewOs R w (.returned (.slice a n c)) wr := by
  obtain ⟨h0, P, fq, h1, h2, h3, h4, h5⟩ := h
  subst h0
  refine ⟨a, c, _, rfl, row_own2 h1 h2, rowF_nodup h3 (fun b hb hm => (h4 b hm).2 hb), fun b hb => ?_, h5⟩
  rcases rowF_sub b hb with h | h
  · exact (rowL_ge h1 b h).1
  · exact (h4 b h).1
theorem objs_elt {w : World} {a : Option Addr} {c : Nat} {es : List Dt} {fp : List Nat} (hb : es.length + bulkL es ≤ 1048576) (h : Own w (.sl KObject) [.slice a es.length c] (.sl es) fp) {k : Nat} (hk : k < es.length) :
    ∃ g pa pc o fq, a = some ⟨g, 0, none⟩ ∧ g < w.heap.size ∧ es[k]? = some (.st o.dt) ∧ (∀ W, Below w.heap.size w W → ∀ j u, (sixo o pa pc)[j]? = some u → W.cell? ⟨g, k * 6 + j, none⟩ = some u) ∧ OwnL w LObject (sixo o pa pc) o.dt fq ∧ Ins.PathAt w pa o.path ∧ o.path.length ≤ 1048576 ∧ bulkL o.dt ≤ 1048576 := by
  obtain ⟨_, hr⟩ := h.row
  obtain ⟨g, rfl, _⟩ := hr (by omega)
  obtain ⟨hg, _, cs, ds, fq, ed, od, ld, _, hcell⟩ := h.elt hk
  have hbk := bulk_elt hk
  rw [ed] at hbk
  have hbd : bulkL ds ≤ 1048576 := by simp only [Dt.bulk] at hbk; omega
  have e2 := ob_dt od
  have od' : OwnL w LObject cs.toArray.toList (obOf ds).dt fq := by rw [← e2]; simpa using od
  obtain ⟨pa, pc, hA, hp⟩ := Ins.obj_open od'
  have hcs : cs = sixo (obOf ds) pa pc := by
    have := congrArg Array.toList hA
    simpa [sixo, sixv] using this
  rw [e2] at hbd
  refine ⟨g, pa, pc, obOf ds, fq, rfl, hg, by rw [List.getElem?_eq_getElem hk, ed, ← e2], fun W hW j u hu => ?_, ?_, hp, Ins.obj_len hbd, hbd⟩
  · rw [← hcs] at hu; exact hcell W hW j u hu
  · rw [← hcs]; simpa using od'
def tbO (ht bd : Int) (o : Ob) : Bool := tbB o.path o.gray o.x0 o.y0 o.x1 o.y1 ht bd
def tbD (ht bd : Int) (d : Dt) : Bool := tbO ht bd (obOf (unS d))
theorem tbD_st (ht bd : Int) (o : Ob) : tbD ht bd (.st o.dt) = tbO ht bd o := by
  show tbO ht bd (obOf o.dt) = _
  rw [ob_un]
def ofB (ht bd : Int) (es : List Dt) : List Dt := es.filter (tbD ht bd)
theorem ofB_next {ht bd : Int} {es : List Dt} {k : Nat} {o : Ob} (h : es[k]? = some (.st o.dt)) : ofB ht bd (es.take (k + 1)) = ofB ht bd (es.take k) ++ (if tbO ht bd o then [.st o.dt] else []) := by
  have hk : k < es.length := by
    rcases Nat.lt_or_ge k es.length with h1 | h1
    · exact h1
    · rw [List.getElem?_eq_none h1] at h; cases h
  rw [List.getElem?_eq_getElem hk, Option.some.injEq] at h
  rw [List.take_succ_eq_append_getElem hk, ofB, List.filter_append, h]
  rw [List.filter_cons, List.filter_nil, tbD_st]
  rfl
theorem sixo_one (o : Ob) (pa : Option Addr) (pc : Nat) : ∀ u ∈ sixo o pa pc, u.oneCell' = true := by
  intro u hu
  simp only [sixo, sixv, List.mem_cons, List.not_mem_nil, or_false] at hu
  rcases hu with rfl | rfl | rfl | rfl | rfl | rfl <;> rfl
theorem ob_six {w : World} {R : Array Value} {o : Ob} {F : List Nat} (h : OwnL w LObject R.toList o.dt F) : ∃ a c, R = #[.slice a o.path.length c, .int .i64 o.gray, .int .i64 o.x0, .int .i64 o.y0, .int .i64 o.x1, .int .i64 o.y1] := by
  obtain ⟨a0, c0, f0, hA, hf, o0⟩ := inv_Object_ h
  simp only [len_dP] at hA
  exact ⟨a0, c0, Array.toList_inj.1 hA⟩
end Go.Proofs.Ytkabofbbioaapaa.Own
namespace Go.Proofs.Ytkabofbbioaapaa.Own
open Go.ChangeShapes Go.WideShapes Go.ChangeAt Go.RowKit
open Kit Slabs Ints Point
open Go.Proofs.Ytkabofbbioaapaa.Ins (Pt Bx obx obK gen_any9)
set_option linter.unusedVariables false
set_option linter.unusedSimpArgs false
set_option linter.unnecessarySimpa false
set_option maxRecDepth 100000
set_option maxHeartbeats 4000000 in
theorem objsof_impl (w : World) (a : Option Addr) (c : Nat) (es : List Dt) (fp : List Nat) (ht bd : Int) (hb : es.length + bulkL es ≤ 1048576) (h : Own w (.sl KObject) [.slice a es.length c] (.sl es) fp) :
    Calls Try.prog 17 #[.slice a es.length c, .int .i64 ht, .int .i64 bd] w (NewOs (ofB ht bd es) w) := by
  have HP := Lib.hid (And.intro hb h)
  obtain ⟨n, hN⟩ : ∃ n, es.length = n := ⟨_, rfl⟩
  have HN := Lib.hid hN
  have hn : n ≤ 1048576 := by omega
  have A0 := Lib.hid (Apo.nil (Below.refl w.heap.size w))
  rw [hN]
  clear hN h hb
  go_enter Try.func17, Try.ntmps17
  go_wp2
  go_loopw [7, 12] (fun v7 v12 wr => ∃ (k m : Nat) (a3 : Option Addr) (c3 : Nat), k ≤ n ∧ m ≤ k ∧ v12 = .int .i64 (k : Int) ∧ v7 = .slice a3 m c3 ∧ Hid (Apo w wr a3 m c3 (ofB ht bd (es.take k)))) (fun v7 v12 _ => n - (intOf v12).toNat)
  case atStart => exact ⟨0, 0, none, 0, Nat.zero_le _, Nat.le_refl _, rfl, rfl, A0⟩
  case round =>
    obtain ⟨k, m, a3, c3, hk, hmk, rfl, rfl, hA⟩ := hrel
    by_cases hlt : k < n
    · have hB := hA.out.below
      obtain ⟨g, pa, pc, o, fq, rfl, hg, hek, hcell, hoo, hpa, hpl, hbk⟩ := objs_elt HP.out.1 HP.out.2 (k := k) (by rw [HN.out]; exact hlt)
      have hnx := ofB_next (ht := ht) (bd := bd) hek
      have q0 : wr.cell? ⟨g, k * 6, none⟩ = some (.slice pa o.path.length pc) := hcell wr hB 0 _ rfl
      have q1 : wr.cell? ⟨g, k * 6 + 1, none⟩ = some (.int .i64 o.gray) := hcell wr hB 1 _ rfl
      have q2 : wr.cell? ⟨g, k * 6 + 2, none⟩ = some (.int .i64 o.x0) := hcell wr hB 2 _ rfl
      have q3 : wr.cell? ⟨g, k * 6 + 3, none⟩ = some (.int .i64 o.y0) := hcell wr hB 3 _ rfl
      have q4 : wr.cell? ⟨g, k * 6 + 4, none⟩ = some (.int .i64 o.x1) := hcell wr hB 4 _ rfl
      have q5 : wr.cell? ⟨g, k * 6 + 5, none⟩ = some (.int .i64 o.y1) := hcell wr hB 5 _ rfl
      have i0 : (0 : Int) ≤ (k : Int) := by omega
      have i1 : (k : Int) < (n : Int) := by omega
      have hb1 : Below wr.heap.size wr (wr.alloc (.cells #[.slice pa o.path.length pc, .int .i64 o.gray, .int .i64 o.x0, .int .i64 o.y0, .int .i64 o.x1, .int .i64 o.y1] 28)) := by go_grown
      have hX := Blk.new wr #[.slice pa o.path.length pc, .int .i64 o.gray, .int .i64 o.x0, .int .i64 o.y0, .int .i64 o.x1, .int .i64 o.y1] 28 rfl
      have hgl : g < wr.heap.size := Nat.lt_of_lt_of_le hg hB.size
      have HX := Lib.hid (And.intro hnx (And.intro (show OwnL (wr.alloc (.cells #[.slice pa o.path.length pc, .int .i64 o.gray, .int .i64 o.x0, .int .i64 o.y0, .int .i64 o.x1, .int .i64 o.y1] 28)) LObject (#[.slice pa o.path.length pc, .int .i64 o.gray, .int .i64 o.x0, .int .i64 o.y0, .int .i64 o.x1, .int .i64 o.y1] : Array Value).toList o.dt fq from (hoo.under hB).under hb1) (And.intro (hpa.on (on_of hB hb1)) (And.intro hpl (And.intro hbk (And.intro (hA.out.on hb1) hX))))))
      clear hnx hoo hpa hpl hbk hb1 hX hcell hek hB
      obtain ⟨wz, rfl⟩ : ∃ wz : World, wz = wr := ⟨_, rfl⟩
      go_wp2_with fail
      clear q0 q1 q2 q3 q4 q5
      ((with_reducible refine (touch_impl _ pa pc o.path o.gray o.x0 o.y0 o.x1 o.y1 ht bd HX.out.2.2.2.1 HX.out.2.2.1).mono ?_); rintro e w1 ⟨rfl, bb⟩)
      have hsw : wz.heap.size ≤ w1.heap.size := by have := bb.size; simp at this; omega
      have HY := Lib.hid (And.intro (HX.out.2.1.under bb) (And.intro (HX.out.2.2.2.2.2.1.on bb) (HX.out.2.2.2.2.2.2.keep bb)))
      have HK9 := Lib.hid (show tbO ht bd o = tbB o.path o.gray o.x0 o.y0 o.x1 o.y1 ht bd from rfl)
      clear bb
      cases hp : tbB o.path o.gray o.x0 o.y0 o.x1 o.y1 ht bd
      · have HS := Lib.hid (show Apo w w1 a3 m c3 (ofB ht bd (es.take (k + 1))) from by rw [HX.out.1, HK9.out, hp]; simpa using HY.out.2.1)
        clear hp
        go_wp2
        go_roundw
        case rel => exact ⟨k + 1, m, a3, c3, by omega, by omega, by go_num, rfl, HS⟩
        case measure => simp [intOf]; omega
      · have HE := Lib.hid (show ofB ht bd (es.take (k + 1)) = ofB ht bd (es.take k) ++ [.st o.dt] from by rw [HX.out.1, HK9.out, hp]; rfl)
        clear hp
        obtain ⟨k0, k1, k2, k3, k4, k5, hzX⟩ := sixc (show Blk w1 wz.heap.size (sixv pa o.path.length pc o.gray o.x0 o.y0 o.x1 o.y1) from HY.out.2.2)
        go_wp2_with fail
        clear k0 k1 k2 k3 k4 k5 hzX
        ((with_reducible refine (clone_Object _ HX.out.2.2.2.2.1 HY.out.1).mono ?_); rintro e w5 ⟨R, F, rfl, oR, nR, gF, bb⟩)
        obtain ⟨r0, s0, rfl⟩ := ob_six oR
        obtain ⟨P, hrow, hnext⟩ := HY.out.2.1.row
        have HR := Lib.hid (And.intro (row_on hrow (on_of bb ((Below.refl _ _).alloc (Nat.le_refl _) (.cells #[.slice r0 o.path.length s0, .int .i64 o.gray, .int .i64 o.x0, .int .i64 o.y0, .int .i64 o.x1, .int .i64 o.y1] 28)))) hnext)
        have HO := Lib.hid (And.intro oR (And.intro nR (And.intro gF bb)))
        have hgs : w.heap.size ≤ w5.heap.size := by have := HY.out.2.1.below.size; have := bb.size; omega
        have hmn : m ≤ n := by omega
        clear hrow hnext oR nR gF bb
        go_wp2_with (at_builtin; refine wpList_append_sl _ et_obs rfl _ _ rfl w.heap.size _ m _ P rfl HR.out.1 (some ⟨w5.heap.size, 0, none⟩) 1 1 [.slice r0 o.path.length s0, .int .i64 o.gray, .int .i64 o.x0, .int .i64 o.y0, .int .i64 o.x1, .int .i64 o.y1] rfl rfl (Lies.new w5 #[.slice r0 o.path.length s0, .int .i64 o.gray, .int .i64 o.x0, .int .i64 o.y0, .int .i64 o.x1, .int .i64 o.y1] 28 rfl) (sixo_one o r0 s0) ?c3 ?c4 ?c5 ?_)
        case c3 => unfold maxLen; omega
        case c4 => omega
        case c5 => simp; omega
        intro a2 c2 w2 hown hgrow hnew
        have HF := Lib.hid (HR.out.2 (w5.alloc (.cells #[.slice r0 o.path.length s0, .int .i64 o.gray, .int .i64 o.x0, .int .i64 o.y0, .int .i64 o.x1, .int .i64 o.y1] 28)) w2 a2 c2 _ o.dt F (on_of HO.out.2.2.2 ((Below.refl _ _).alloc (Nat.le_refl _) _)) (HO.out.1.under ((Below.refl _ _).alloc (Nat.le_refl _) _)) HO.out.2.1 HO.out.2.2.1 hown hgrow (fun b hb => by simpa using hnew b hb))
        rw [← HE.out] at HF
        clear hown hgrow hnew
        go_wp2
        go_roundw
        case rel => exact ⟨k + 1, m + 1, a2, c2, by omega, by omega, by go_num, rfl, HF⟩
        case measure => simp [intOf]; omega
    · obtain rfl : k = n := by omega
      have hR : es.take k = es := by rw [← HN.out, List.take_length]
      rw [hR] at hA
      go_wp2
      go_ret
      exact hA.out.done
set_option maxHeartbeats 4000000 in
theorem objsof_spec (w : World) (a : Option Addr) (c : Nat) (es : List Dt) (fp : List Nat) (ht bd : Int) (hb : es.length + bulkL es ≤ 1048576) (h : Own w (.sl KObject) [.slice a es.length c] (.sl es) fp) :
    Calls Try.prog 25 #[.slice a es.length c, .int .i64 ht, .int .i64 bd] w (NewOs (ofB ht bd es) w) := by
  have HP := Lib.hid (And.intro hb h)
  obtain ⟨n, hN⟩ : ∃ n, es.length = n := ⟨_, rfl⟩
  have HN := Lib.hid hN
  have hn : n ≤ 1048576 := by omega
  have A0 := Lib.hid (Apo.start w)
  rw [hN]
  clear hN h hb
  go_enter Try.func25, Try.ntmps25
  go_wp2
  go_loopw [7, 8] (fun v7 v12 wr => ∃ (k m : Nat) (a3 : Option Addr) (c3 : Nat), k ≤ n ∧ m ≤ k ∧ v12 = .int .i64 (k : Int) ∧ v7 = .slice a3 m c3 ∧ Hid (Apo w wr a3 m c3 (ofB ht bd (es.take k)))) (fun v7 v12 _ => n - (intOf v12).toNat)
  case atStart => exact ⟨0, 0, _, _, Nat.zero_le _, Nat.le_refl _, rfl, rfl, A0⟩
  case round =>
    obtain ⟨k, m, a3, c3, hk, hmk, rfl, rfl, hA⟩ := hrel
    by_cases hlt : k < n
    · have hB := hA.out.below
      obtain ⟨g, pa, pc, o, fq, rfl, hg, hek, hcell, hoo, hpa, hpl, hbk⟩ := objs_elt HP.out.1 HP.out.2 (k := k) (by rw [HN.out]; exact hlt)
      have hnx := ofB_next (ht := ht) (bd := bd) hek
      have q0 : wr.cell? ⟨g, k * 6, none⟩ = some (.slice pa o.path.length pc) := hcell wr hB 0 _ rfl
      have q1 : wr.cell? ⟨g, k * 6 + 1, none⟩ = some (.int .i64 o.gray) := hcell wr hB 1 _ rfl
      have q2 : wr.cell? ⟨g, k * 6 + 2, none⟩ = some (.int .i64 o.x0) := hcell wr hB 2 _ rfl
      have q3 : wr.cell? ⟨g, k * 6 + 3, none⟩ = some (.int .i64 o.y0) := hcell wr hB 3 _ rfl
      have q4 : wr.cell? ⟨g, k * 6 + 4, none⟩ = some (.int .i64 o.x1) := hcell wr hB 4 _ rfl
      have q5 : wr.cell? ⟨g, k * 6 + 5, none⟩ = some (.int .i64 o.y1) := hcell wr hB 5 _ rfl
      have i0 : (0 : Int) ≤ (k : Int) := by omega
      have i1 : (k : Int) < (n : Int) := by omega
      have hgl : g < wr.heap.size := Nat.lt_of_lt_of_le hg hB.size
      have HX := Lib.hid (And.intro hnx (And.intro (show OwnL wr LObject (#[.slice pa o.path.length pc, .int .i64 o.gray, .int .i64 o.x0, .int .i64 o.y0, .int .i64 o.x1, .int .i64 o.y1] : Array Value).toList o.dt fq from hoo.under hB) (And.intro (hpa.on hB) (And.intro hpl (And.intro hbk (And.intro hA.out (And.intro hcell hB)))))))
      clear hnx hoo hpa hpl hbk hcell hek hB
      obtain ⟨wz, rfl⟩ : ∃ wz : World, wz = wr := ⟨_, rfl⟩
      go_wp2_with fail
      clear q0 q1 q2 q3 q4 q5
      ((with_reducible refine (touch_spec _ pa pc o.path o.gray o.x0 o.y0 o.x1 o.y1 ht bd HX.out.2.2.2.1 HX.out.2.2.1).mono ?_); rintro e w1 ⟨rfl, bb⟩)
      have hsw : wz.heap.size ≤ w1.heap.size := by have := bb.size; omega
      have HY := Lib.hid (And.intro (HX.out.2.1.under bb) (And.intro (HX.out.2.2.2.2.2.1.on bb) (on_of HX.out.2.2.2.2.2.2.2 bb)))
      have HK9 := Lib.hid (show tbO ht bd o = tbB o.path o.gray o.x0 o.y0 o.x1 o.y1 ht bd from rfl)
      clear bb
      cases hp : tbB o.path o.gray o.x0 o.y0 o.x1 o.y1 ht bd
      · have HS := Lib.hid (show Apo w w1 a3 m c3 (ofB ht bd (es.take (k + 1))) from by rw [HX.out.1, HK9.out, hp]; simpa using HY.out.2.1)
        clear hp
        go_wp2
        go_roundw
        case rel => exact ⟨k + 1, m, a3, c3, by omega, by omega, by go_num, rfl, HS⟩
        case measure => simp [intOf]; omega
      · have HE := Lib.hid (show ofB ht bd (es.take (k + 1)) = ofB ht bd (es.take k) ++ [.st o.dt] from by rw [HX.out.1, HK9.out, hp]; rfl)
        clear hp
        have q0 : w1.cell? ⟨g, k * 6, none⟩ = some (.slice pa o.path.length pc) := HX.out.2.2.2.2.2.2.1 w1 HY.out.2.2 0 _ rfl
        have q1 : w1.cell? ⟨g, k * 6 + 1, none⟩ = some (.int .i64 o.gray) := HX.out.2.2.2.2.2.2.1 w1 HY.out.2.2 1 _ rfl
        have q2 : w1.cell? ⟨g, k * 6 + 2, none⟩ = some (.int .i64 o.x0) := HX.out.2.2.2.2.2.2.1 w1 HY.out.2.2 2 _ rfl
        have q3 : w1.cell? ⟨g, k * 6 + 3, none⟩ = some (.int .i64 o.y0) := HX.out.2.2.2.2.2.2.1 w1 HY.out.2.2 3 _ rfl
        have q4 : w1.cell? ⟨g, k * 6 + 4, none⟩ = some (.int .i64 o.x1) := HX.out.2.2.2.2.2.2.1 w1 HY.out.2.2 4 _ rfl
        have q5 : w1.cell? ⟨g, k * 6 + 5, none⟩ = some (.int .i64 o.y1) := HX.out.2.2.2.2.2.2.1 w1 HY.out.2.2 5 _ rfl
        have hgl : g < w1.heap.size := Nat.lt_of_lt_of_le hg HY.out.2.2.size
        go_wp2_with fail
        clear q0 q1 q2 q3 q4 q5
        ((with_reducible refine (copy_Object _ HX.out.2.2.2.2.1 HY.out.1).mono ?_); rintro e w5 ⟨R, F, rfl, oR, nR, gF, bb⟩)
        obtain ⟨r0, s0, rfl⟩ := ob_six oR
        obtain ⟨P, hrow, hnext⟩ := HY.out.2.1.row
        have HR := Lib.hid (And.intro (row_on hrow (on_of bb ((Below.refl _ _).alloc (Nat.le_refl _) (.cells #[.slice r0 o.path.length s0, .int .i64 o.gray, .int .i64 o.x0, .int .i64 o.y0, .int .i64 o.x1, .int .i64 o.y1] 28)))) hnext)
        have HO := Lib.hid (And.intro oR (And.intro nR (And.intro gF bb)))
        have hgs : w.heap.size ≤ w5.heap.size := by have := HY.out.2.1.below.size; have := bb.size; omega
        have hmn : m ≤ n := by omega
        clear hrow hnext oR nR gF bb
        go_wp2_with (at_builtin; refine wpList_append_sl _ et_obs rfl _ _ rfl w.heap.size _ m _ P rfl HR.out.1 (some ⟨w5.heap.size, 0, none⟩) 1 1 [.slice r0 o.path.length s0, .int .i64 o.gray, .int .i64 o.x0, .int .i64 o.y0, .int .i64 o.x1, .int .i64 o.y1] rfl rfl (Lies.new w5 #[.slice r0 o.path.length s0, .int .i64 o.gray, .int .i64 o.x0, .int .i64 o.y0, .int .i64 o.x1, .int .i64 o.y1] 28 rfl) (sixo_one o r0 s0) ?c3 ?c4 ?c5 ?_)
        case c3 => unfold maxLen; omega
        case c4 => omega
        case c5 => simp; omega
        intro a2 c2 w2 hown hgrow hnew
        have HF := Lib.hid (HR.out.2 (w5.alloc (.cells #[.slice r0 o.path.length s0, .int .i64 o.gray, .int .i64 o.x0, .int .i64 o.y0, .int .i64 o.x1, .int .i64 o.y1] 28)) w2 a2 c2 _ o.dt F (on_of HO.out.2.2.2 ((Below.refl _ _).alloc (Nat.le_refl _) _)) (HO.out.1.under ((Below.refl _ _).alloc (Nat.le_refl _) _)) HO.out.2.1 HO.out.2.2.1 hown hgrow (fun b hb => by simpa using hnew b hb))
        rw [← HE.out] at HF
        clear hown hgrow hnew
        go_wp2
        go_roundw
        case rel => exact ⟨k + 1, m + 1, a2, c2, by omega, by omega, by go_num, rfl, HF⟩
        case measure => simp [intOf]; omega
    · obtain rfl : k = n := by omega
      have hR : es.take k = es := by rw [← HN.out, List.take_length]
      rw [hR] at hA
      go_wp2
      go_ret
      exact hA.out.done
end Go.Proofs.Ytkabofbbioaapaa.Own
