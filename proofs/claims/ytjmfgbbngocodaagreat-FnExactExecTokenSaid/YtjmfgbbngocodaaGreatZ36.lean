/-
  Texts of this seat, laid together: OpR
-/
import Derived.Test.YtjmfgbbngocodaaGreatZ34
import Derived.Test.YtjmfgbbngocodaaGreatZ35
namespace Go.Proofs.YtjmfgbbngocodaaGreat.Own
open Go.ChangeShapes Go.WideShapes Go.ChangeAt Go.RowKit
open Kit Slabs Ints Stack Point Turn Join Pts Box
set_option linter.unusedVariables false
set_option linter.unusedSimpArgs false
set_option linter.unnecessarySimpa false
set_option maxRecDepth 100000
attribute [local go_sem ↓] hload_Graphics hload_Object hstore_Graphics hstore_Object hload_Page hstore_Page
theorem nd_res {X : Nat} {f0 r5 r11 fa g0 g5 r12 f12 F11 F12 r11' : List Nat} (h : (X :: (f0 ++ (r5 ++ (r11 ++ ((fa ++ (g0 ++ g5)) ++ (r12 ++ f12)))))).Nodup) (n11 : F11.Nodup) (n12 : F12.Nodup) (e11 : ∀ b ∈ r11', b ∈ r11) (s11 : ∀ b ∈ F11, b ∈ r11' ∨ b ∈ fa) (s12 : ∀ b ∈ F12, b ∈ r12 ∨ b ∈ f12) :
    ((f0 ++ g5) ++ (F11 ++ F12)).Nodup ∧ X ∉ (f0 ++ g5) ++ (F11 ++ F12) := by
  simp only [List.nodup_cons, List.nodup_append, List.mem_append, List.mem_cons] at *
  grind
theorem ge_res {B : Nat} {f0 r5 r11 fa g0 g5 r12 f12 F11 F12 r11' : List Nat} (h : ∀ b ∈ f0 ++ (r5 ++ (r11 ++ ((fa ++ (g0 ++ g5)) ++ (r12 ++ f12)))), B ≤ b) (e11 : ∀ b ∈ r11', b ∈ r11) (s11 : ∀ b ∈ F11, b ∈ r11' ∨ b ∈ fa) (s12 : ∀ b ∈ F12, b ∈ r12 ∨ b ∈ f12) :
    ∀ b ∈ (f0 ++ g5) ++ (F11 ++ F12), B ≤ b := by
  simp only [List.mem_append] at *
  grind
theorem last_gr {w : World} {S : List Gr} {g : Gr} {k : Nat} {P : List Value} {f : List Nat} (hk : S.length = k) (h : OwnL w (List.replicate (k + 1) KGraphics) P (dG (S ++ [g])) f) :
    ∃ P' cs fa fb, P = P' ++ cs ∧ f = fa ++ fb ∧ OwnL w (List.replicate k KGraphics) P' (dG S) fa ∧ OwnL w LGraphics cs g.dt fb := by
  rw [List.replicate_succ'] at h
  have e : dG (S ++ [g]) = dG S ++ [.st g.dt] := by simp [dG]
  rw [e] at h
  obtain ⟨P', cs, fa, fb, rfl, rfl, o1, o2⟩ := OwnL.split_at h (by rw [len_dG, List.length_replicate, hk])
  cases o2 with
  | cons o r =>
    cases r with
    | nil =>
      cases o with
      | st o => exact ⟨_, _, _, _, by simp, by simp, o1, o⟩
theorem PgFl.restore {w : World} {B X : Nat} {p : Pg} {a0 : Option Addr} {c0 : Nat} {f0 : List Nat} {a5 : Option Addr} {c5 : Nat} {P5 : List Value} {ga c11 : Nat} {P11 : List Value} {fa g0 g5 : List Nat} {a12 : Option Addr} {c12 : Nat} {P12 : List Value} {f12 : List Nat}
    (h : PgFl w B X p a0 c0 f0 a5 c5 P5 (some ⟨ga, 0, none⟩) c11 P11 (fa ++ (g0 ++ g5)) a12 c12 P12 f12) (hB : B ≤ w.heap.size) (hX : B ≤ X) {S : List Gr} {g : Gr} {k : Nat} (hk : S.length = k) {P' : List Value} (oS : OwnL w (List.replicate k KGraphics) P' (dG S) fa) {b5 : Option Addr} {e5 : Nat} (o5 : Own w (.sl KPt) [.slice b5 g.path.length e5] (.sl (dP g.path)) g5)
    {w1 w7 : World} (b1 : Below w.heap.size w w1) (t7 : Turns (w1.setCells X 0 [.slice a0 p.now.st.length c0, .int .i64 g.q, .int .i64 g.s, .int .i64 g.dx, .int .i64 g.dy, .slice b5 g.path.length e5, .int .i64 g.gray, .int .i64 g.x0, .int .i64 g.y0, .int .i64 g.x1, .int .i64 g.y1]) w7 (fun b => b = ga)) (r7 : w7.ownsRow B 42 11 (.slice (some ⟨ga, 0, none⟩) k c11) k P') :
    Blk w7 X ([.slice a0 p.now.st.length c0, .int .i64 g.q, .int .i64 g.s, .int .i64 g.dx, .int .i64 g.dy, .slice b5 g.path.length e5, .int .i64 g.gray, .int .i64 g.x0, .int .i64 g.y0, .int .i64 g.x1, .int .i64 g.y1] ++ [.slice (some ⟨ga, 0, none⟩) p.saved.length c11, .slice a12 p.objs.length c12]) ∧ OpRes B X (some { p with now := { g with st := p.now.st }, saved := S }) w (.returned (.bool true)) (w7.setCell ⟨X, 11, none⟩ (.slice (some ⟨ga, 0, none⟩) k c11)) := by
  subst hk
  have h1 := h.on b1
  have nd := h.nd
  have lt := h.parts
  have hXl := h.blk.2.2
  have z1 := b1.size
  have e0 : rowL (.slice (some ⟨ga, 0, none⟩) p.saved.length c11) = [ga] := rfl
  have e1 : rowL (.slice (some ⟨ga, 0, none⟩) S.length c11) = [ga] := rfl
  have hga : ga ∈ rowL (.slice (some ⟨ga, 0, none⟩) p.saved.length c11) := by rw [e0]; simp
  have hgX : ga ≠ X := fun e => by subst e; simp only [List.nodup_cons, List.mem_append] at nd; exact nd.1 (by simp [hga])
  have hgB := (lt ga (by simp [hga])).1
  have s11 : ∀ b ∈ (if S.length = 0 then [] else rowL (.slice (some ⟨ga, 0, none⟩) S.length c11) ++ fa), b ∈ rowL (.slice (some ⟨ga, 0, none⟩) S.length c11) ∨ b ∈ fa := rowF_sub
  have s12 : ∀ b ∈ (if p.objs.length = 0 then [] else rowL (.slice a12 p.objs.length c12) ++ f12), b ∈ rowL (.slice a12 p.objs.length c12) ∨ b ∈ f12 := rowF_sub
  have hsub : ∀ b ∈ rowL (.slice (some ⟨ga, 0, none⟩) S.length c11), b ∈ rowL (.slice (some ⟨ga, 0, none⟩) p.saved.length c11) := fun b hb => by rw [e0]; rw [e1] at hb; exact hb
  have q11 : (if S.length = 0 then [] else rowL (.slice (some ⟨ga, 0, none⟩) S.length c11) ++ fa).Nodup := rowF_nodup (by simp only [List.nodup_cons, List.nodup_append] at nd; grind) (fun b hb hc => by have hb := hsub b hb; simp only [List.nodup_cons, List.nodup_append, List.mem_append] at nd; grind)
  have q12 : (if p.objs.length = 0 then [] else rowL (.slice a12 p.objs.length c12) ++ f12).Nodup := rowF_nodup (by simp only [List.nodup_cons, List.nodup_append] at nd; grind) (fun b hb hc => by simp only [List.nodup_cons, List.nodup_append, List.mem_append] at nd; grind)
  obtain ⟨nd9, nX9⟩ := nd_res nd q11 q12 hsub s11 s12
  have tE : Turns w1 (w1.setCells X 0 [.slice a0 p.now.st.length c0, .int .i64 g.q, .int .i64 g.s, .int .i64 g.dx, .int .i64 g.dy, .slice b5 g.path.length e5, .int .i64 g.gray, .int .i64 g.x0, .int .i64 g.y0, .int .i64 g.x1, .int .i64 g.y1]) (fun b => b = X) := turns_sets (S := fun b => b = X) X rfl _ _ _
  have BE := Blk.sets (w := w1) (b := X) (o := 0) (P := []) (us := [_, _, _, _, _, _, _, _, _, _, _]) (vs := [.slice a0 p.now.st.length c0, .int .i64 g.q, .int .i64 g.s, .int .i64 g.dx, .int .i64 g.dy, .slice b5 g.path.length e5, .int .i64 g.gray, .int .i64 g.x0, .int .i64 g.y0, .int .i64 g.x1, .int .i64 g.y1]) h1.blk rfl rfl
  have B7 := BE.turned t7 (fun e => hgX e.symm)
  generalize w1.setCells X 0 [.slice a0 p.now.st.length c0, .int .i64 g.q, .int .i64 g.s, .int .i64 g.dx, .int .i64 g.dy, .slice b5 g.path.length e5, .int .i64 g.gray, .int .i64 g.x0, .int .i64 g.y0, .int .i64 g.x1, .int .i64 g.y1] = E at *
  refine ⟨B7, rfl, ?_, fun P' hP => ?_⟩
  · exact (((b1.mono hB).trans (tE.below (by omega) (fun k e => e ▸ hX))).trans (t7.below (by have := tE.size; omega) (fun k e => e ▸ hgB))).setCell (p := ⟨X, 11, none⟩) hX _
  injection hP with hP
  subst hP
  have tX : Turns w7 (w7.setCell ⟨X, 11, none⟩ (.slice (some ⟨ga, 0, none⟩) S.length c11)) (fun b => b = X) := turns_set (S := fun b => b = X) (Turns.refl _ _) rfl _ _
  have T := ((tE.mono (T := fun b => b = ga ∨ b = X) (fun k hk => .inr hk)).trans (t7.mono (fun k hk => .inl hk))).trans (tX.mono (fun k hk => .inr hk))
  have B9 := Blk.put (o := 11) (P := [_, _, _, _, _, _, _, _, _, _, _]) B7 rfl (.slice (some ⟨ga, 0, none⟩) S.length c11)
  generalize w7.setCell ⟨X, 11, none⟩ (.slice (some ⟨ga, 0, none⟩) S.length c11) = W9 at *
  have d0 : ∀ b ∈ f0, ¬ (b = ga ∨ b = X) := fun b hb hc => by simp only [List.nodup_cons, List.nodup_append, List.mem_append] at nd; grind
  have d5 : ∀ b ∈ g5, ¬ (b = ga ∨ b = X) := fun b hb hc => by simp only [List.nodup_cons, List.nodup_append, List.mem_append] at nd; grind
  have d11 : ∀ b ∈ fa, ¬ (b = ga ∨ b = X) := fun b hb hc => by simp only [List.nodup_cons, List.nodup_append, List.mem_append] at nd; grind
  have d12 : ∀ b ∈ rowL (.slice a12 p.objs.length c12), ¬ (b = ga ∨ b = X) := fun b hb hc => by simp only [List.nodup_cons, List.nodup_append, List.mem_append] at nd; grind
  have e12 : ∀ b ∈ f12, ¬ (b = ga ∨ b = X) := fun b hb hc => by simp only [List.nodup_cons, List.nodup_append, List.mem_append] at nd; grind
  exact pg_mk (p := { p with now := { g with st := p.now.st }, saved := S }) B9 (h1.o0.turned T d0) ((o5.under b1).turned T d5) (row_own2 (row_turned r7 tX (fun b hb e => by rw [e1, List.mem_singleton] at hb; exact hgX (hb.symm.trans e))) ((oS.under b1).turned T d11)) (row_own2 (row_turned h1.r12 T d12) (h1.o12.turned T e12)) nd9 nX9 (ge_res (fun b hb => (lt b hb).1) hsub s11 s12)
def resO (P : Pg) : Option Pg := P.saved.getLast?.map (resM P)
set_option maxHeartbeats 4000000 in
theorem op_restore {w : World} {B X : Nat} {P : Pg} (h : PgAt w B X P) (hB : B ≤ w.heap.size) (hX : B ≤ X) (hl : P.saved.length ≤ 4) (u : Value) :
    Calls Tryz.prog 130 #[.pointer (some ⟨X, 0, none⟩), u] w (OpRes B X (resO P) w) := by
  obtain ⟨a0, c0, f0, a5, c5, P5, a11, c11, P11, f11, a12, c12, P12, f12, h⟩ := h.flat
  have k11 := h.blk.1 11 _ rfl
  have fz := h.blk.2.1
  rcases List.eq_nil_or_concat P.saved with hs | ⟨S, g, hs⟩
  · have HN : Hid (OpRes B X (resO P) w (.returned (.bool false)) w) := Lib.hid (by
      have e : resO P = none := by simp [resO, hs]
      rw [e]
      exact ⟨rfl, (Below.refl _ _).mono hB, fun P' hP => by cases hP⟩)
    simp only [hs, List.length_nil] at k11
    clear h hs hl
    go_enter Tryz.func130, Tryz.ntmps130
    go_wp2
    go_ret
    exact HN.out
  · obtain ⟨k, hk⟩ : ∃ k, S.length = k := ⟨_, rfl⟩
    have hs : P.saved = S ++ [g] := by rw [hs, List.concat_eq_append]
    have hn : P.saved.length = k + 1 := by rw [hs, List.length_append, hk]; rfl
    have er : resO P = some { P with now := { g with st := P.now.st }, saved := S } := by simp [resO, resM, hs]
    have o11 := h.o11
    rw [hn, hs] at o11
    obtain ⟨P', cs, fa, fb, rfl, rfl, oS, oG⟩ := last_gr hk o11
    obtain ⟨b0, e0, b5, e5, g0, g5, hcs, rfl, q0, q5⟩ := inv_Graphics_ oG
    simp only [len_dI, len_dP] at hcs q0 q5
    simp only [List.append_nil] at h oG
    have r11 := h.r11
    rw [hn] at r11
    obtain ⟨ga, rfl, hBg, bg, _, hnc, hcm⟩ := row_cap r11 (by omega)
    have lP : P'.length = k * 11 := by have := r11.1; rw [List.length_append, hcs] at this; simp at this; omega
    have lcs : cs.length = 11 := by rw [hcs]; rfl
    obtain ⟨l, hL⟩ : ∃ l, P.now.st.length = l := ⟨_, rfl⟩
    have k0 := h.blk.1 0 _ rfl
    rw [hL] at k0
    rw [hn] at k11
    have hXl := h.blk.2.2
    have hgw : ga < w.heap.size := bg.2.2
    have ldG : (hload 42 ⟨ga, k * 11, none⟩).run Tryz.prog w = .ok (.agg cs.toArray) w := hload_run (P := Tryz.prog) (t := 42) Tryz.isAgg42 Tryz.sizeOf42 (w := w) (b := ga) (o := k * 11) (us := cs) (Blk.part (P := P') (R := []) (by simpa using bg) lP) lcs
    obtain ⟨E, stE, BE, bE, zE⟩ := var_new (P := Tryz.prog) (T := 42) Tryz.sizeOf42 w #[.slice none 0 0, .int .i64 0, .int .i64 0, .int .i64 0, .int .i64 0, .slice none 0 0, .int .i64 0, .int .i64 0, .int .i64 0, .int .i64 0, .int .i64 0] rfl (R := cs.toArray) (w0 := w) (ks := LGraphics) (ds := g.dt) (fp := g0 ++ g5) (by simpa using oG) rfl
    have BE' : Blk E w.heap.size cs := by simpa using BE
    rw [hcs] at BE'
    have j0 := BE'.1 0 _ rfl
    have jf := BE'.2.1
    have i0 : E.cell? ⟨X, 0, none⟩ = some (.slice a0 l c0) := (bcell bE).1 X 0 hXl |>.trans k0
    have B2 := Blk.put (o := 0) (P := []) BE' rfl (.slice a0 l c0)
    have b2 : Below w.heap.size w (E.setCell ⟨w.heap.size, 0, none⟩ (.slice a0 l c0)) := bE.setCell (p := ⟨w.heap.size, 0, none⟩) (Nat.le_refl _) _
    have ldO := hload_run (P := Tryz.prog) (t := 42) Tryz.isAgg42 Tryz.sizeOf42 (o := 0) (Blk.part (P := []) (R := []) (by simpa using B2) rfl) rfl
    have h2 := h.on b2
    have stX := hstore_run (P := Tryz.prog) (t := 42) Tryz.sizeOf42 (o := 0) (A := []) (us := [_, _, _, _, _, _, _, _, _, _, _]) (vs := [.slice a0 l c0, .int .i64 g.q, .int .i64 g.s, .int .i64 g.dx, .int .i64 g.dy, .slice b5 g.path.length e5, .int .i64 g.gray, .int .i64 g.x0, .int .i64 g.y0, .int .i64 g.x1, .int .i64 g.y1]) h2.blk rfl rfl rfl (by simp [Value.oneCell'])
    have B3 := Blk.sets (b := X) (o := 0) (P := []) (us := [_, _, _, _, _, _, _, _, _, _, _]) (vs := [.slice a0 l c0, .int .i64 g.q, .int .i64 g.s, .int .i64 g.dx, .int .i64 g.dy, .slice b5 g.path.length e5, .int .i64 g.gray, .int .i64 g.x0, .int .i64 g.y0, .int .i64 g.x1, .int .i64 g.y1]) h2.blk rfl rfl
    have tE : Turns (E.setCell ⟨w.heap.size, 0, none⟩ (.slice a0 l c0)) ((E.setCell ⟨w.heap.size, 0, none⟩ (.slice a0 l c0)).setCells X 0 [.slice a0 l c0, .int .i64 g.q, .int .i64 g.s, .int .i64 g.dx, .int .i64 g.dy, .slice b5 g.path.length e5, .int .i64 g.gray, .int .i64 g.x0, .int .i64 g.y0, .int .i64 g.x1, .int .i64 g.y1]) (fun b => b = X) := turns_sets (S := fun b => b = X) X rfl _ _ _
    have nd := h.nd
    have hgX : ga ≠ X := fun e => by subst e; simp only [List.nodup_cons, List.mem_append] at nd; exact nd.1 (.inr (.inr (.inl (by simp [rowL, Value.ownBlock]))))
    have r2 := row_turned (row_on r11 b2) tE (fun b hb e => hgX ((List.mem_singleton.1 (show b ∈ [ga] from hb)).symm.trans e))
    have o5g : Own w (.sl KPt) [.slice b5 g.path.length e5] (.sl (dP g.path)) g5 := q5
    have HF := Lib.hid (fun (w7 : World) (r7 : w7.ownsRow B 42 11 (.slice (some ⟨ga, 0, none⟩) k c11) k P') (t7 : Turns ((E.setCell ⟨w.heap.size, 0, none⟩ (.slice a0 l c0)).setCells X 0 [.slice a0 l c0, .int .i64 g.q, .int .i64 g.s, .int .i64 g.dx, .int .i64 g.dy, .slice b5 g.path.length e5, .int .i64 g.gray, .int .i64 g.x0, .int .i64 g.y0, .int .i64 g.x1, .int .i64 g.y1]) w7 (fun b => b = ga)) => h.restore hB hX hk oS o5g b2 (by rw [hL]; exact t7) r7)
    rw [hL, ← er, hn] at HF
    obtain ⟨E2, hE2⟩ : ∃ E2, (E.setCell ⟨w.heap.size, 0, none⟩ (.slice a0 l c0)).setCells X 0 [.slice a0 l c0, .int .i64 g.q, .int .i64 g.s, .int .i64 g.dx, .int .i64 g.dy, .slice b5 g.path.length e5, .int .i64 g.gray, .int .i64 g.x0, .int .i64 g.y0, .int .i64 g.x1, .int .i64 g.y1] = E2 := ⟨_, rfl⟩
    rw [hE2] at stX B3 r2 HF
    have x11 := B3.1 11 _ rfl
    have hd := delete_last E2 (n := k) rfl r2 lP
    rw [hn] at x11
    rw [show ((k + 1 : Nat) : Int) = (k : Int) + 1 by omega] at hd
    have HD := Lib.hid hd
    have hk3 : k ≤ 3 := by omega
    have zO := bE.size
    clear h hs hn er oS oG q0 q5 hcs lcs lP r11 bg o5g BE BE' B2 h2 B3 tE nd r2 hE2 hd k0 hL hl o11 b2
    go_enter Tryz.func130, Tryz.ntmps130
    go_wp2_with fail
    clear ldG stE j0 jf i0 ldO stX x11 k11
    ((with_reducible refine (HD.out).mono ?_); rintro e w7 ⟨rfl, r7, t7⟩)
    have hh := HF.out w7 r7 t7
    have y11 := hh.1.1 11 _ rfl
    have yf := hh.1.2.1
    have HR := Lib.hid hh.2
    clear hh r7 t7
    go_wp2
    go_ret
    exact HR.out
end Go.Proofs.YtjmfgbbngocodaaGreat.Own

