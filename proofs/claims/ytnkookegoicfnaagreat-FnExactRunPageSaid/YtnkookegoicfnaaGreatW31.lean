/-
  Texts of this seat, laid together: OpR, DepImpl
-/
import Derived.Test.YtnkookegoicfnaaGreatW29
import Derived.Test.YtnkookegoicfnaaGreatW30
import Derived.Test.YtnkookegoicfnaaGreatW40
import Derived.Test.YtnkookegoicfnaaGreatW09
namespace Go.Proofs.YtnkookegoicfnaaGreat.Own
open Go.ChangeShapes Go.WideShapes Go.ChangeAt Go.RowKit
open Kit Slabs Ints Stack Point Turn Join Pts Box
set_option linter.unusedVariables false
set_option linter.unusedSimpArgs false
set_option linter.unnecessarySimpa false
set_option maxRecDepth 100000
attribute [local go_sem ↓] hload_Graphics hload_Object hstore_Graphics hstore_Object hload_Page hstore_Page
theorem nd_res {X : Nat} {f0 r5 r11 fa g0 g5 r12 f12 F11 F12 r11' : List Nat} (h : (X :: (f0 ++ (r5 ++ (r11 ++ ((fa ++ (g0 ++ g5)) ++ (r12 ++ f12)))))).Nodup) (n11 : F11.Nodup) (n12 : F12.Nodup) (e11 : ∀ b ∈ r11', b ∈ r11) (s11 : ∀ b ∈ F11, b ∈ r11' ∨ b ∈ fa) (s12 : ∀ b ∈ F12, b ∈ r12 ∨ b ∈ f12) :
    ((f0 ++ g5) ++ (F11 ++ F12)).Nodup ∧ X ∉ (f0 ++ g5) ++ (F11 ++ F12) := by
  simp only [List.nodup_cons, List.nodup_append, List.mem_append, List.mem_cons] at *
  grind
theorem ge_res {B : Nat} {f0 r5 r11 fa g0 g5 r12 f12 F11 F12 r11' : List Nat} (h : ∀ b ∈ f0 ++ (r5 ++ (r11 ++ ((fa ++ (g0 ++ g5)) ++ (r12 ++ f12)))), B ≤ b) (e11 : ∀ b ∈ r11', b ∈ r11) (s11 : ∀ b ∈ F11, b ∈ r11' ∨ b ∈ fa) (s12 : ∀ b ∈ F12, b ∈ r12 ∨ b ∈ f12) :
    ∀ b ∈ (f0 ++ g5) ++ (F11 ++ F12), B ≤ b := by
  simp only [List.mem_append] at *
  grind
theorem last_gr {w : World} {S : List Gr} {g : Gr} {k : Nat} {P : List Value} {f : List Nat} (hk : S.length = k) (h : OwnL w (List.replicate (k + 1) KGraphics) P (dG (S ++ [g])) f) :
    ∃ P' cs fa fb, P = P' ++ cs ∧ f = fa ++ fb ∧ OwnL w (List.replicate k KGraphics) P' (dG S) fa ∧ OwnL w LGraphics cs g.dt fb := by
  rw [List.replicate_succ'] at h
  have e : dG (S ++ [g]) = dG S ++ [.st g.dt] := by simp [dG]
  rw [e] at h
  obtain ⟨P', cs, fa, fb, rfl, rfl, o1, o2⟩ := OwnL.split_at h (by rw [len_dG, List.length_replicate, hk])
  cases o2 with
  | cons o r =>
    cases r with
    | nil =>
      cases o with
      | st o => exact ⟨_, _, _, _, by simp, by simp, o1, o⟩
theorem PgFl.restore {w : World} {B X : Nat} {p : Pg} {a0 : Option Addr} {c0 : Nat} {f0 : List Nat} {a5 : Option Addr} {c5 : Nat} {P5 : List Value} {ga c11 : Nat} {P11 : List Value} {fa g0 g5 : List Nat} {a12 : Option Addr} {c12 : Nat} {P12 : List Value} {f12 : List Nat}
    (h : PgFl w B X p a0 c0 f0 a5 c5 P5 (some ⟨ga, 0, none⟩) c11 P11 (fa ++ (g0 ++ g5)) a12 c12 P12 f12) (hB : B ≤ w.heap.size) (hX : B ≤ X) {S : List Gr} {g : Gr} {k : Nat} (hk : S.length = k) {P' : List Value} (oS : OwnL w (List.replicate k KGraphics) P' (dG S) fa) {b5 : Option Addr} {e5 : Nat} (o5 : Own w (.sl KPt) [.slice b5 g.path.length e5] (.sl (dP g.path)) g5)
    {w1 w7 : World} (b1 : Below w.heap.size w w1) (t7 : Turns (w1.setCells X 0 [.slice a0 p.now.st.length c0, .int .i64 g.q, .int .i64 g.s, .int .i64 g.dx, .int .i64 g.dy, .slice b5 g.path.length e5, .int .i64 g.gray, .int .i64 g.x0, .int .i64 g.y0, .int .i64 g.x1, .int .i64 g.y1]) w7 (fun b => b = ga)) (r7 : w7.ownsRow B 42 11 (.slice (some ⟨ga, 0, none⟩) k c11) k P') :
    Blk w7 X ([.slice a0 p.now.st.length c0, .int .i64 g.q, .int .i64 g.s, .int .i64 g.dx, .int .i64 g.dy, .slice b5 g.path.length e5, .int .i64 g.gray, .int .i64 g.x0, .int .i64 g.y0, .int .i64 g.x1, .int .i64 g.y1] ++ [.slice (some ⟨ga, 0, none⟩) p.saved.length c11, .slice a12 p.objs.length c12]) ∧ OpRes B X (some { p with now := { g with st := p.now.st }, saved := S }) w (.returned (.bool true)) (w7.setCell ⟨X, 11, none⟩ (.slice (some ⟨ga, 0, none⟩) k c11)) := by
  subst hk
  have h1 := h.on b1
  have nd := h.nd
  have lt := h.parts
  have hXl := h.blk.2.2
  have z1 := b1.size
  have e0 : rowL (.slice (some ⟨ga, 0, none⟩) p.saved.length c11) = [ga] := rfl
  have e1 : rowL (.slice (some ⟨ga, 0, none⟩) S.length c11) = [ga] := rfl
  have hga : ga ∈ rowL (.slice (some ⟨ga, 0, none⟩) p.saved.length c11) := by rw [e0]; simp
  have hgX : ga ≠ X := fun e => by subst e; simp only [List.nodup_cons, List.mem_append] at nd; exact nd.1 (by simp [hga])
  have hgB := (lt ga (by simp [hga])).1
  have s11 : ∀ b ∈ (if S.length = 0 then [] else rowL (.slice (some ⟨ga, 0, none⟩) S.length c11) ++ fa), b ∈ rowL (.slice (some ⟨ga, 0, none⟩) S.length c11) ∨ b ∈ fa := rowF_sub
  have s12 : ∀ b ∈ (if p.objs.length = 0 then [] else rowL (.slice a12 p.objs.length c12) ++ f12), b ∈ rowL (.slice a12 p.objs.length c12) ∨ b ∈ f12 := rowF_sub
  have hsub : ∀ b ∈ rowL (.slice (some ⟨ga, 0, none⟩) S.length c11), b ∈ rowL (.slice (some ⟨ga, 0, none⟩) p.saved.length c11) := fun b hb => by rw [e0]; rw [e1] at hb; exact hb
  have q11 : (if S.length = 0 then [] else rowL (.slice (some ⟨ga, 0, none⟩) S.length c11) ++ fa).Nodup := rowF_nodup (by simp only [List.nodup_cons, List.nodup_append] at nd; grind) (fun b hb hc => by have hb := hsub b hb; simp only [List.nodup_cons, List.nodup_append, List.mem_append] at nd; grind)
  have q12 : (if p.objs.length = 0 then [] else rowL (.slice a12 p.objs.length c12) ++ f12).Nodup := rowF_nodup (by simp only [List.nodup_cons, List.nodup_append] at nd; grind) (fun b hb hc => by simp only [List.nodup_cons, List.nodup_append, List.mem_append] at nd; grind)
  obtain ⟨nd9, nX9⟩ := nd_res nd q11 q12 hsub s11 s12
  have tE : Turns w1 (w1.setCells X 0 [.slice a0 p.now.st.length c0, .int .i64 g.q, .int .i64 g.s, .int .i64 g.dx, .int .i64 g.dy, .slice b5 g.path.length e5, .int .i64 g.gray, .int .i64 g.x0, .int .i64 g.y0, .int .i64 g.x1, .int .i64 g.y1]) (fun b => b = X) := turns_sets (S := fun b => b = X) X rfl _ _ _
  have BE := Blk.sets (w := w1) (b := X) (o := 0) (P := []) (us := [_, _, _, _, _, _, _, _, _, _, _]) (vs := [.slice a0 p.now.st.length c0, .int .i64 g.q, .int .i64 g.s, .int .i64 g.dx, .int .i64 g.dy, .slice b5 g.path.length e5, .int .i64 g.gray, .int .i64 g.x0, .int .i64 g.y0, .int .i64 g.x1, .int .i64 g.y1]) h1.blk rfl rfl
  have B7 := BE.turned t7 (fun e => hgX e.symm)
  generalize w1.setCells X 0 [.slice a0 p.now.st.length c0, .int .i64 g.q, .int .i64 g.s, .int .i64 g.dx, .int .i64 g.dy, .slice b5 g.path.length e5, .int .i64 g.gray, .int .i64 g.x0, .int .i64 g.y0, .int .i64 g.x1, .int .i64 g.y1] = E at *
  refine ⟨B7, rfl, ?_, fun P' hP => ?_⟩
  · exact (((b1.mono hB).trans (tE.below (by omega) (fun k e => e ▸ hX))).trans (t7.below (by have := tE.size; omega) (fun k e => e ▸ hgB))).setCell (p := ⟨X, 11, none⟩) hX _
  injection hP with hP
  subst hP
  have tX : Turns w7 (w7.setCell ⟨X, 11, none⟩ (.slice (some ⟨ga, 0, none⟩) S.length c11)) (fun b => b = X) := turns_set (S := fun b => b = X) (Turns.refl _ _) rfl _ _
  have T := ((tE.mono (T := fun b => b = ga ∨ b = X) (fun k hk => .inr hk)).trans (t7.mono (fun k hk => .inl hk))).trans (tX.mono (fun k hk => .inr hk))
  have B9 := Blk.put (o := 11) (P := [_, _, _, _, _, _, _, _, _, _, _]) B7 rfl (.slice (some ⟨ga, 0, none⟩) S.length c11)
  generalize w7.setCell ⟨X, 11, none⟩ (.slice (some ⟨ga, 0, none⟩) S.length c11) = W9 at *
  have d0 : ∀ b ∈ f0, ¬ (b = ga ∨ b = X) := fun b hb hc => by simp only [List.nodup_cons, List.nodup_append, List.mem_append] at nd; grind
  have d5 : ∀ b ∈ g5, ¬ (b = ga ∨ b = X) := fun b hb hc => by simp only [List.nodup_cons, List.nodup_append, List.mem_append] at nd; grind
  have d11 : ∀ b ∈ fa, ¬ (b = ga ∨ b = X) := fun b hb hc => by simp only [List.nodup_cons, List.nodup_append, List.mem_append] at nd; grind
  have d12 : ∀ b ∈ rowL (.slice a12 p.objs.length c12), ¬ (b = ga ∨ b = X) := fun b hb hc => by simp only [List.nodup_cons, List.nodup_append, List.mem_append] at nd; grind
  have e12 : ∀ b ∈ f12, ¬ (b = ga ∨ b = X) := fun b hb hc => by simp only [List.nodup_cons, List.nodup_append, List.mem_append] at nd; grind
  exact pg_mk (p := { p with now := { g with st := p.now.st }, saved := S }) B9 (h1.o0.turned T d0) ((o5.under b1).turned T d5) (row_own2 (row_turned r7 tX (fun b hb e => by rw [e1, List.mem_singleton] at hb; exact hgX (hb.symm.trans e))) ((oS.under b1).turned T d11)) (row_own2 (row_turned h1.r12 T d12) (h1.o12.turned T e12)) nd9 nX9 (ge_res (fun b hb => (lt b hb).1) hsub s11 s12)
def resO (P : Pg) : Option Pg := P.saved.getLast?.map (resM P)
set_option maxHeartbeats 4000000 in
theorem op_restore {w : World} {B X : Nat} {P : Pg} (h : PgAt w B X P) (hB : B ≤ w.heap.size) (hX : B ≤ X) (hl : P.saved.length ≤ 4) (u : Value) :
    Calls Tryz.prog 129 #[.pointer (some ⟨X, 0, none⟩), u] w (OpRes B X (resO P) w) := by
  obtain ⟨a0, c0, f0, a5, c5, P5, a11, c11, P11, f11, a12, c12, P12, f12, h⟩ := h.flat
  have k11 := h.blk.1 11 _ rfl
  have fz := h.blk.2.1
  rcases List.eq_nil_or_concat P.saved with hs | ⟨S, g, hs⟩
  · have HN : Hid (OpRes B X (resO P) w (.returned (.bool false)) w) := Lib.hid (by
      have e : resO P = none := by simp [resO, hs]
      rw [e]
      exact ⟨rfl, (Below.refl _ _).mono hB, fun P' hP => by cases hP⟩)
    simp only [hs, List.length_nil] at k11
    clear h hs hl
    go_enter Tryz.func129, Tryz.ntmps129
    go_wp2
    go_ret
    exact HN.out
  · obtain ⟨k, hk⟩ : ∃ k, S.length = k := ⟨_, rfl⟩
    have hs : P.saved = S ++ [g] := by rw [hs, List.concat_eq_append]
    have hn : P.saved.length = k + 1 := by rw [hs, List.length_append, hk]; rfl
    have er : resO P = some { P with now := { g with st := P.now.st }, saved := S } := by simp [resO, resM, hs]
    have o11 := h.o11
    rw [hn, hs] at o11
    obtain ⟨P', cs, fa, fb, rfl, rfl, oS, oG⟩ := last_gr hk o11
    obtain ⟨b0, e0, b5, e5, g0, g5, hcs, rfl, q0, q5⟩ := inv_Graphics_ oG
    simp only [len_dI, len_dP] at hcs q0 q5
    simp only [List.append_nil] at h oG
    have r11 := h.r11
    rw [hn] at r11
    obtain ⟨ga, rfl, hBg, bg, _, hnc, hcm⟩ := row_cap r11 (by omega)
    have lP : P'.length = k * 11 := by have := r11.1; rw [List.length_append, hcs] at this; simp at this; omega
    have lcs : cs.length = 11 := by rw [hcs]; rfl
    obtain ⟨l, hL⟩ : ∃ l, P.now.st.length = l := ⟨_, rfl⟩
    have k0 := h.blk.1 0 _ rfl
    rw [hL] at k0
    rw [hn] at k11
    have hXl := h.blk.2.2
    have hgw : ga < w.heap.size := bg.2.2
    have ldG : (hload 42 ⟨ga, k * 11, none⟩).run Tryz.prog w = .ok (.agg cs.toArray) w := hload_run (P := Tryz.prog) (t := 42) Tryz.isAgg42 Tryz.sizeOf42 (w := w) (b := ga) (o := k * 11) (us := cs) (Blk.part (P := P') (R := []) (by simpa using bg) lP) lcs
    obtain ⟨E, stE, BE, bE, zE⟩ := var_new (P := Tryz.prog) (T := 42) Tryz.sizeOf42 w #[.slice none 0 0, .int .i64 0, .int .i64 0, .int .i64 0, .int .i64 0, .slice none 0 0, .int .i64 0, .int .i64 0, .int .i64 0, .int .i64 0, .int .i64 0] rfl (R := cs.toArray) (w0 := w) (ks := LGraphics) (ds := g.dt) (fp := g0 ++ g5) (by simpa using oG) rfl
    have BE' : Blk E w.heap.size cs := by simpa using BE
    rw [hcs] at BE'
    have j0 := BE'.1 0 _ rfl
    have jf := BE'.2.1
    have i0 : E.cell? ⟨X, 0, none⟩ = some (.slice a0 l c0) := (bcell bE).1 X 0 hXl |>.trans k0
    have B2 := Blk.put (o := 0) (P := []) BE' rfl (.slice a0 l c0)
    have b2 : Below w.heap.size w (E.setCell ⟨w.heap.size, 0, none⟩ (.slice a0 l c0)) := bE.setCell (p := ⟨w.heap.size, 0, none⟩) (Nat.le_refl _) _
    have ldO := hload_run (P := Tryz.prog) (t := 42) Tryz.isAgg42 Tryz.sizeOf42 (o := 0) (Blk.part (P := []) (R := []) (by simpa using B2) rfl) rfl
    have h2 := h.on b2
    have stX := hstore_run (P := Tryz.prog) (t := 42) Tryz.sizeOf42 (o := 0) (A := []) (us := [_, _, _, _, _, _, _, _, _, _, _]) (vs := [.slice a0 l c0, .int .i64 g.q, .int .i64 g.s, .int .i64 g.dx, .int .i64 g.dy, .slice b5 g.path.length e5, .int .i64 g.gray, .int .i64 g.x0, .int .i64 g.y0, .int .i64 g.x1, .int .i64 g.y1]) h2.blk rfl rfl rfl (by simp [Value.oneCell'])
    have B3 := Blk.sets (b := X) (o := 0) (P := []) (us := [_, _, _, _, _, _, _, _, _, _, _]) (vs := [.slice a0 l c0, .int .i64 g.q, .int .i64 g.s, .int .i64 g.dx, .int .i64 g.dy, .slice b5 g.path.length e5, .int .i64 g.gray, .int .i64 g.x0, .int .i64 g.y0, .int .i64 g.x1, .int .i64 g.y1]) h2.blk rfl rfl
    have tE : Turns (E.setCell ⟨w.heap.size, 0, none⟩ (.slice a0 l c0)) ((E.setCell ⟨w.heap.size, 0, none⟩ (.slice a0 l c0)).setCells X 0 [.slice a0 l c0, .int .i64 g.q, .int .i64 g.s, .int .i64 g.dx, .int .i64 g.dy, .slice b5 g.path.length e5, .int .i64 g.gray, .int .i64 g.x0, .int .i64 g.y0, .int .i64 g.x1, .int .i64 g.y1]) (fun b => b = X) := turns_sets (S := fun b => b = X) X rfl _ _ _
    have nd := h.nd
    have hgX : ga ≠ X := fun e => by subst e; simp only [List.nodup_cons, List.mem_append] at nd; exact nd.1 (.inr (.inr (.inl (by simp [rowL, Value.ownBlock]))))
    have r2 := row_turned (row_on r11 b2) tE (fun b hb e => hgX ((List.mem_singleton.1 (show b ∈ [ga] from hb)).symm.trans e))
    have o5g : Own w (.sl KPt) [.slice b5 g.path.length e5] (.sl (dP g.path)) g5 := q5
    have HF := Lib.hid (fun (w7 : World) (r7 : w7.ownsRow B 42 11 (.slice (some ⟨ga, 0, none⟩) k c11) k P') (t7 : Turns ((E.setCell ⟨w.heap.size, 0, none⟩ (.slice a0 l c0)).setCells X 0 [.slice a0 l c0, .int .i64 g.q, .int .i64 g.s, .int .i64 g.dx, .int .i64 g.dy, .slice b5 g.path.length e5, .int .i64 g.gray, .int .i64 g.x0, .int .i64 g.y0, .int .i64 g.x1, .int .i64 g.y1]) w7 (fun b => b = ga)) => h.restore hB hX hk oS o5g b2 (by rw [hL]; exact t7) r7)
    rw [hL, ← er, hn] at HF
    obtain ⟨E2, hE2⟩ : ∃ E2, (E.setCell ⟨w.heap.size, 0, none⟩ (.slice a0 l c0)).setCells X 0 [.slice a0 l c0, .int .i64 g.q, .int .i64 g.s, .int .i64 g.dx, .int .i64 g.dy, .slice b5 g.path.length e5, .int .i64 g.gray, .int .i64 g.x0, .int .i64 g.y0, .int .i64 g.x1, .int .i64 g.y1] = E2 := ⟨_, rfl⟩
    rw [hE2] at stX B3 r2 HF
    have x11 := B3.1 11 _ rfl
    have hd := delete_last E2 (n := k) rfl r2 lP
    rw [hn] at x11
    rw [show ((k + 1 : Nat) : Int) = (k : Int) + 1 by omega] at hd
    have HD := Lib.hid hd
    have hk3 : k ≤ 3 := by omega
    have zO := bE.size
    clear h hs hn er oS oG q0 q5 hcs lcs lP r11 bg o5g BE BE' B2 h2 B3 tE nd r2 hE2 hd k0 hL hl o11 b2
    go_enter Tryz.func129, Tryz.ntmps129
    go_wp2_with fail
    clear ldG stE j0 jf i0 ldO stX x11 k11
    ((with_reducible refine (HD.out).mono ?_); rintro e w7 ⟨rfl, r7, t7⟩)
    have hh := HF.out w7 r7 t7
    have y11 := hh.1.1 11 _ rfl
    have yf := hh.1.2.1
    have HR := Lib.hid hh.2
    clear hh r7 t7
    go_wp2
    go_ret
    exact HR.out
end Go.Proofs.YtnkookegoicfnaaGreat.Own

namespace Go.Proofs.YtnkookegoicfnaaGreat.Impl
open Go.ChangeShapes Go.WideShapes Go.ChangeAt Go.RowKit
open Kit Scan Slabs Blk NameImpl
set_option linter.unusedVariables false
set_option linter.unusedSimpArgs false
set_option linter.unnecessarySimpa false
set_option maxRecDepth 100000
attribute [local go_sem ↓] run_mx run_mn
theorem times_impl (s : ByteArray) (n : Int) (w : World) : Calls Tryz.prog 164 #[.agg #[.string s, .int .i64 n]] w fun e w' => e = .returned (.bool (cntB (some (s, n)))) ∧ Below w.heap.size w w' := by
  have h3 : n < 0 ∨ (0 ≤ n ∧ n ≤ 9) ∨ 9 < n := by omega
  cases h : s.toList.isEmpty <;> rcases h3 with h1 | ⟨h1, h2⟩ | h1
  all_goals
    go_enter Tryz.func164, Tryz.ntmps164
    go_wp2
    go_ret
    exact ⟨ret_bool (by simp [cntB, h]; try omega), by go_grown⟩
theorem run_ge : ∀ (l : List Tok) (p : Option Tok) (d m M : Nat), run p d m l = some M → m ≤ M := by
  intro l
  induction l with
  | nil => intro p d m M h; simp only [run] at h; split at h <;> simp_all
  | cons t r ih =>
    intro p d m M h
    simp only [run] at h
    split at h
    · split at h
      · split at h
        · have := ih _ _ _ _ h; omega
        · cases h
      · split at h
        · split at h
          · cases h
          · exact ih _ _ _ _ h
        · exact ih _ _ _ _ h
    · cases h
theorem bd_deep {L : List Tok} {p : Option Tok} {d m : Nat} {l : List Tok} (h : run p d m l = run none 0 0 L) (h3 : 3 < m) : bdV L = -1 := by
  unfold bdV
  cases hr : run none 0 0 L with
  | none => split <;> rfl
  | some M =>
    have := run_ge _ _ _ _ _ (h.trans hr)
    split
    · simp; omega
    · rfl
set_option maxHeartbeats 4000000 in
theorem depth_impl (w : World) (v : Value) (L : List Tok) (hn : L.length ≤ 1048576) (hS : ∀ t ∈ L, t.1.size ≤ 281474976710656) (h : Rdt w v L) :
    Calls Tryz.prog 157 #[v] w fun e w' => e = .returned (.int .i64 (bdV L)) ∧ Below w.heap.size w w' := by
  obtain ⟨a, cap, rfl, hc, h⟩ := h
  by_cases hbig : (60 : Int) < (L.length : Int)
  · have hbd : bdV L = -1 := bd_long (by omega)
    clear h
    go_enter Tryz.func157, Tryz.ntmps157
    go_wp2
    go_ret
    exact ⟨by rw [hbd]; rfl, by go_grown⟩
  have hl60 : L.length ≤ 60 := by omega
  rcases h with rfl | ⟨g, o, rfl, hg, hcs⟩
  · go_enter Tryz.func157, Tryz.ntmps157
    go_wp2
    go_rounds 1
    go_ret
    exact ⟨rfl, Below.refl _ _⟩
  · have HC := Lib.hid (And.intro hcs hS)
    clear hcs hS
    go_enter Tryz.func157, Tryz.ntmps157
    go_wp2
    go_loopw [3, 4, 12] (fun v3 v4 v5 wr => ∃ k d m : Nat, k ≤ L.length ∧ v5 = .int .i64 (k : Int) ∧ v3 = .int .i64 (d : Int) ∧ v4 = .int .i64 (m : Int) ∧ d ≤ 3 ∧ m ≤ 3 ∧ d ≤ m ∧ run (prv L k) d m (L.drop k) = run none 0 0 L ∧ Below w.heap.size w wr) (fun _ _ v5 _ => L.length - (intOf v5).toNat)
    case atStart => exact ⟨0, 0, 0, Nat.zero_le _, rfl, rfl, rfl, by omega, by omega, Nat.le_refl _, rfl, Below.refl _ _⟩
    case round =>
      obtain ⟨k, d, m, hk, rfl, rfl, rfl, hd, hm, hdm, hrun, hbel⟩ := hrel
      have HR := Lib.hid hrun
      clear hrun
      by_cases hlt : k < L.length
      · have i0 : (0 : Int) ≤ (k : Int) := by omega
        have i1 : (k : Int) < (L.length : Int) := by omega
        obtain ⟨t, ht⟩ : ∃ t, L[k] = t := ⟨_, rfl⟩
        obtain ⟨s, q⟩ := t
        have hget : L[k]? = some (s, q) := by rw [List.getElem?_eq_getElem hlt, ht]
        have c0 : wr.cell? ⟨g, o + k * 2, none⟩ = some (.string s) := (hbel.cell (p := ⟨g, _, none⟩) hg).trans (HC.out.1 k s q hget).1
        have c1 : wr.cell? ⟨g, o + k * 2 + 1, none⟩ = some (.int .i64 q) := (hbel.cell (p := ⟨g, _, none⟩) hg).trans (HC.out.1 k s q hget).2
        have hSk : s.size ≤ 281474976710656 := HC.out.2 (s, q) (List.mem_of_getElem? hget)
        have hdr : L.drop k = (s, q) :: L.drop (k + 1) := by rw [drop_at hlt, ht]
        have hpv : prv L (k + 1) = some (s, q) := by rw [prv_succ hlt, ht]
        have HG := Lib.hid (And.intro hdr hpv)
        have hgl := Nat.lt_of_lt_of_le hg hbel.size
        clear hdr hpv ht hget
        cases htk : tkB s q
        · have hbd : bdV L = -1 := bd_none (by rw [← HR.out, HG.out.1]; exact run_bad htk)
          have HB := Lib.hid hbd
          clear hbd
          go_wp2_with (go_at_call 37; (with_reducible refine (tok_impl _ _ _ hSk).mono ?_); rintro e w' ⟨rfl, hb⟩; have hB := on_of (hbel.alloc hbel.size _) hb; have t0 := (bcell hb).1 wr.heap.size 0 (by simp); have t1 := (bcell hb).1 wr.heap.size 1 (by simp); simp only [World.cell?_alloc_new] at t0 t1; have hsw := hb.size; simp at hsw; clear hb)
          go_ret
          exact ⟨by rw [HB.out]; rfl, hB⟩
        · cases he : isEnd (s, q)
          · have ee : (s.toList == [101, 110, 100]) = false := he
            cases hr : isRep (s, q)
            · have er : (s.toList == [114, 101, 112, 101, 97, 116]) = false := hr
              have hnext : run (prv L (k + 1)) d m (L.drop (k + 1)) = run none 0 0 L := by rw [← HR.out, HG.out.1, HG.out.2]; exact (run_tok htk hr he).symm
              have HN := Lib.hid hnext
              have hmx : mx (m : Int) (d : Int) = (m : Int) := by unfold mx; omega
              have b1 : ¬ ((d : Int) < 0) := by omega
              have b2 : ¬ ((3 : Int) < (d : Int)) := by omega
              clear hnext hr he
              go_wp2_with (go_at_call 37; (with_reducible refine (tok_impl _ _ _ hSk).mono ?_); rintro e w' ⟨rfl, hb⟩; have hB := on_of (hbel.alloc hbel.size _) hb; have t0 := (bcell hb).1 wr.heap.size 0 (by simp); have t1 := (bcell hb).1 wr.heap.size 1 (by simp); simp only [World.cell?_alloc_new] at t0 t1; have hsw := hb.size; simp at hsw; clear hb)
              go_roundw
              case rel => exact ⟨k + 1, d, m, by omega, by go_num, rfl, by first | rw [hmx] | rfl, by omega, by omega, hdm, HN.out, hB⟩
              case measure => simp [intOf]; omega
            · have er : (s.toList == [114, 101, 112, 101, 97, 116]) = true := hr
              cases k with
              | zero =>
                have hbd : bdV L = -1 := bd_none (by rw [← HR.out, HG.out.1]; exact run_rep_no htk hr rfl)
                have HB := Lib.hid hbd
                clear hbd hr he
                simp only [Nat.zero_mul, Nat.add_zero] at c0 c1
                go_wp2_with (go_at_call 37; (with_reducible refine (tok_impl _ _ _ hSk).mono ?_); rintro e w' ⟨rfl, hb⟩; have hB := on_of (hbel.alloc hbel.size _) hb; have t0 := (bcell hb).1 wr.heap.size 0 (by simp); have t1 := (bcell hb).1 wr.heap.size 1 (by simp); simp only [World.cell?_alloc_new] at t0 t1; have hsw := hb.size; simp at hsw; clear hb)
                go_ret
                exact ⟨by rw [HB.out]; rfl, hB⟩
              | succ j =>
                have hj : j < L.length := by omega
                obtain ⟨u, hu⟩ : ∃ u, L[j] = u := ⟨_, rfl⟩
                obtain ⟨s2, q2⟩ := u
                have hget2 : L[j]? = some (s2, q2) := by rw [List.getElem?_eq_getElem hj, hu]
                have p0 : wr.cell? ⟨g, o + j * 2, none⟩ = some (.string s2) := (hbel.cell (p := ⟨g, _, none⟩) hg).trans (HC.out.1 j s2 q2 hget2).1
                have p1 : wr.cell? ⟨g, o + j * 2 + 1, none⟩ = some (.int .i64 q2) := (hbel.cell (p := ⟨g, _, none⟩) hg).trans (HC.out.1 j s2 q2 hget2).2
                have hpj : prv L (j + 1) = some (s2, q2) := by rw [prv_succ hj, hu]
                have HP := Lib.hid hpj
                have j0 : (0 : Int) ≤ (j : Int) := by omega
                have j1 : (j : Int) < (L.length : Int) := by omega
                have jz : ¬ (((j + 1 : Nat) : Int) = 0) := by omega
                clear hu hget2 hpj
                cases hcn : cntB (some (s2, q2))
                · have hbd : bdV L = -1 := bd_none (by rw [← HR.out, HG.out.1, HP.out]; exact run_rep_no htk hr hcn)
                  have HB := Lib.hid hbd
                  clear hbd hr he
                  go_wp2_with (first | (go_at_call 37; (with_reducible refine (tok_impl _ _ _ hSk).mono ?_); rintro e w' ⟨rfl, hb⟩; have hB := on_of (hbel.alloc hbel.size _) hb; have t0 := (bcell hb).1 wr.heap.size 0 (by simp); have t1 := (bcell hb).1 wr.heap.size 1 (by simp); simp only [World.cell?_alloc_new] at t0 t1; have hsw := hb.size; simp at hsw; have p0' := ((bcell hb).1 g (o + j * 2) (by simp; omega)).trans ((World.cell?_alloc_lt _ _ _ hgl).trans p0); have p1' := ((bcell hb).1 g (o + j * 2 + 1) (by simp; omega)).trans ((World.cell?_alloc_lt _ _ _ hgl).trans p1); clear hb) | (go_at_call 164; (with_reducible refine (times_impl _ _ _).mono ?_); rintro e w2 ⟨rfl, hb2⟩; rw [hcn]; have hB2 := on_of hB hb2; clear hb2))
                  go_ret
                  exact ⟨by rw [HB.out]; rfl, hB2⟩
                · have hnext : run (prv L (j + 1 + 1)) (d + 1) (max m (d + 1)) (L.drop (j + 1 + 1)) = run none 0 0 L := by rw [← HR.out, HG.out.1, HG.out.2, HP.out]; exact (run_rep htk hr hcn).symm
                  by_cases hd3 : (3 : Int) < (d : Int) + 1
                  · have hbd : bdV L = -1 := bd_deep hnext (by omega)
                    have HB := Lib.hid hbd
                    have b1 : ¬ ((d : Int) + 1 < 0) := by omega
                    clear hbd hr he hnext
                    go_wp2_with (first | (go_at_call 37; (with_reducible refine (tok_impl _ _ _ hSk).mono ?_); rintro e w' ⟨rfl, hb⟩; have hB := on_of (hbel.alloc hbel.size _) hb; have t0 := (bcell hb).1 wr.heap.size 0 (by simp); have t1 := (bcell hb).1 wr.heap.size 1 (by simp); simp only [World.cell?_alloc_new] at t0 t1; have hsw := hb.size; simp at hsw; have p0' := ((bcell hb).1 g (o + j * 2) (by simp; omega)).trans ((World.cell?_alloc_lt _ _ _ hgl).trans p0); have p1' := ((bcell hb).1 g (o + j * 2 + 1) (by simp; omega)).trans ((World.cell?_alloc_lt _ _ _ hgl).trans p1); clear hb) | (go_at_call 164; (with_reducible refine (times_impl _ _ _).mono ?_); rintro e w2 ⟨rfl, hb2⟩; rw [hcn]; have hB2 := on_of hB hb2; clear hb2))
                    go_ret
                    exact ⟨by rw [HB.out]; rfl, hB2⟩
                  · have HN := Lib.hid hnext
                    have hmx : mx (m : Int) ((d : Int) + 1) = ((max m (d + 1) : Nat) : Int) := by unfold mx; omega
                    have b1 : ¬ ((d : Int) + 1 < 0) := by omega
                    clear hnext hr he
                    go_wp2_with (first | (go_at_call 37; (with_reducible refine (tok_impl _ _ _ hSk).mono ?_); rintro e w' ⟨rfl, hb⟩; have hB := on_of (hbel.alloc hbel.size _) hb; have t0 := (bcell hb).1 wr.heap.size 0 (by simp); have t1 := (bcell hb).1 wr.heap.size 1 (by simp); simp only [World.cell?_alloc_new] at t0 t1; have hsw := hb.size; simp at hsw; have p0' := ((bcell hb).1 g (o + j * 2) (by simp; omega)).trans ((World.cell?_alloc_lt _ _ _ hgl).trans p0); have p1' := ((bcell hb).1 g (o + j * 2 + 1) (by simp; omega)).trans ((World.cell?_alloc_lt _ _ _ hgl).trans p1); clear hb) | (go_at_call 164; (with_reducible refine (times_impl _ _ _).mono ?_); rintro e w2 ⟨rfl, hb2⟩; rw [hcn]; have hB2 := on_of hB hb2; clear hb2))
                    go_roundw
                    case rel => exact ⟨j + 1 + 1, d + 1, max m (d + 1), by omega, by go_num, by go_num, by first | rw [hmx] | rfl, by omega, by omega, by omega, HN.out, hB2⟩
                    case measure => simp [intOf]; omega
          · have ee : (s.toList == [101, 110, 100]) = true := he
            have hr : isRep (s, q) = false := (end_name he).2
            cases d with
            | zero =>
              have hbd : bdV L = -1 := bd_none (by rw [← HR.out, HG.out.1]; exact run_end_no htk hr he)
              have HB := Lib.hid hbd
              clear hbd hr he
              go_wp2_with (go_at_call 37; (with_reducible refine (tok_impl _ _ _ hSk).mono ?_); rintro e w' ⟨rfl, hb⟩; have hB := on_of (hbel.alloc hbel.size _) hb; have t0 := (bcell hb).1 wr.heap.size 0 (by simp); have t1 := (bcell hb).1 wr.heap.size 1 (by simp); simp only [World.cell?_alloc_new] at t0 t1; have hsw := hb.size; simp at hsw; clear hb)
              go_ret
              exact ⟨by rw [HB.out]; rfl, hB⟩
            | succ d =>
              have hnext : run (prv L (k + 1)) d m (L.drop (k + 1)) = run none 0 0 L := by rw [← HR.out, HG.out.1, HG.out.2]; exact (run_end htk hr he).symm
              have HN := Lib.hid hnext
              have hmx : mx (m : Int) (((d + 1 : Nat) : Int) - 1) = (m : Int) := by unfold mx; omega
              have b1 : ¬ ((((d + 1 : Nat) : Int) - 1) < 0) := by omega
              have b2 : ¬ ((3 : Int) < (((d + 1 : Nat) : Int) - 1)) := by omega
              clear hnext hr he
              go_wp2_with (go_at_call 37; (with_reducible refine (tok_impl _ _ _ hSk).mono ?_); rintro e w' ⟨rfl, hb⟩; have hB := on_of (hbel.alloc hbel.size _) hb; have t0 := (bcell hb).1 wr.heap.size 0 (by simp); have t1 := (bcell hb).1 wr.heap.size 1 (by simp); simp only [World.cell?_alloc_new] at t0 t1; have hsw := hb.size; simp at hsw; clear hb)
              go_roundw
              case rel => exact ⟨k + 1, d, m, by omega, by go_num, by go_num, by first | rw [hmx] | (rw [show mx (m : Int) (d : Int) = (m : Int) by unfold mx; omega]) | rfl, by omega, by omega, by omega, HN.out, hB⟩
              case measure => simp [intOf]; omega
      · obtain rfl : k = L.length := by omega
        have hend : run none 0 0 L = if d = 0 then some m else none := by rw [← HR.out, List.drop_length]; simp only [run]
        cases d with
        | zero =>
          have hbd := bd_some hl60 (m := m) (by rw [hend]; rfl)
          have HB := Lib.hid hbd
          clear hbd hend
          go_wp2
          go_ret
          exact ⟨by rw [HB.out, if_pos (by omega)]; rfl, hbel⟩
        | succ d =>
          have hbd := bd_none (L := L) (by rw [hend]; rfl)
          have HB := Lib.hid hbd
          have hd0 : (0 : Int) < ((d + 1 : Nat) : Int) := by omega
          clear hbd hend
          go_wp2
          go_ret
          exact ⟨by rw [HB.out]; rfl, hbel⟩
theorem ok_impl (w : World) (v : Value) (L : List Tok) (hn : L.length ≤ 1048576) (hS : ∀ t ∈ L, t.1.size ≤ 281474976710656) (h : Rdt w v L) :
    Calls Tryz.prog 137 #[v] w fun e w' => e = .returned (.bool (decide (0 ≤ bdV L))) ∧ Below w.heap.size w w' := by
  have HD := Lib.hid (depth_impl w v L hn hS h)
  clear h hS
  go_enter Tryz.func137, Tryz.ntmps137
  go_wp2_with fail
  ((with_reducible refine HD.out.mono ?_); rintro e w1 ⟨rfl, hb⟩)
  go_wp2
  go_ret
  exact ⟨rfl, hb⟩
end Go.Proofs.YtnkookegoicfnaaGreat.Impl

