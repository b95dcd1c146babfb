/-
  Texts of this seat, laid together: OpR, ExT
-/
import Derived.Laws.EntriesVeiled
import Derived.Test.YtjmfgbbngocodaaGreatV29
import Derived.Test.YtjmfgbbngocodaaGreatV30
import Derived.Test.YtjmfgbbngocodaaGreatV20
namespace Go.Proofs.YtjmfgbbngocodaaGreat.Own
open Go.ChangeShapes Go.WideShapes Go.ChangeAt Go.RowKit
open Kit Slabs Ints Stack Point Turn Join Pts Box
set_option linter.unusedVariables false
set_option linter.unusedSimpArgs false
set_option linter.unnecessarySimpa false
set_option maxRecDepth 100000
attribute [local go_sem ↓] hload_Graphics hload_Object hstore_Graphics hstore_Object hload_Page hstore_Page
theorem nd_res {X : Nat} {f0 r5 r11 fa g0 g5 r12 f12 F11 F12 r11' : List Nat} (h : (X :: (f0 ++ (r5 ++ (r11 ++ ((fa ++ (g0 ++ g5)) ++ (r12 ++ f12)))))).Nodup) (n11 : F11.Nodup) (n12 : F12.Nodup) (e11 : ∀ b ∈ r11', b ∈ r11) (s11 : ∀ b ∈ F11, b ∈ r11' ∨ b ∈ fa) (s12 : ∀ b ∈ F12, b ∈ r12 ∨ b ∈ f12) :
    ((f0 ++ g5) ++ (F11 ++ F12)).Nodup ∧ X ∉ (f0 ++ g5) ++ (F11 ++ F12) := by
  simp only [List.nodup_cons, List.nodup_append, List.mem_append, List.mem_cons] at *
  grind
theorem ge_res {B : Nat} {f0 r5 r11 fa g0 g5 r12 f12 F11 F12 r11' : List Nat} (h : ∀ b ∈ f0 ++ (r5 ++ (r11 ++ ((fa ++ (g0 ++ g5)) ++ (r12 ++ f12)))), B ≤ b) (e11 : ∀ b ∈ r11', b ∈ r11) (s11 : ∀ b ∈ F11, b ∈ r11' ∨ b ∈ fa) (s12 : ∀ b ∈ F12, b ∈ r12 ∨ b ∈ f12) :
    ∀ b ∈ (f0 ++ g5) ++ (F11 ++ F12), B ≤ b := by
  simp only [List.mem_append] at *
  grind
theorem last_gr {w : World} {S : List Gr} {g : Gr} {k : Nat} {P : List Value} {f : List Nat} (hk : S.length = k) (h : OwnL w (List.replicate (k + 1) KGraphics) P (dG (S ++ [g])) f) :
    ∃ P' cs fa fb, P = P' ++ cs ∧ f = fa ++ fb ∧ OwnL w (List.replicate k KGraphics) P' (dG S) fa ∧ OwnL w LGraphics cs g.dt fb := by
  rw [List.replicate_succ'] at h
  have e : dG (S ++ [g]) = dG S ++ [.st g.dt] := by simp [dG]
  rw [e] at h
  obtain ⟨P', cs, fa, fb, rfl, rfl, o1, o2⟩ := OwnL.split_at h (by rw [len_dG, List.length_replicate, hk])
  cases o2 with
  | cons o r =>
    cases r with
    | nil =>
      cases o with
      | st o => exact ⟨_, _, _, _, by simp, by simp, o1, o⟩
theorem PgFl.restore {w : World} {B X : Nat} {p : Pg} {a0 : Option Addr} {c0 : Nat} {f0 : List Nat} {a5 : Option Addr} {c5 : Nat} {P5 : List Value} {ga c11 : Nat} {P11 : List Value} {fa g0 g5 : List Nat} {a12 : Option Addr} {c12 : Nat} {P12 : List Value} {f12 : List Nat}
    (h : PgFl w B X p a0 c0 f0 a5 c5 P5 (some ⟨ga, 0, none⟩) c11 P11 (fa ++ (g0 ++ g5)) a12 c12 P12 f12) (hB : B ≤ w.heap.size) (hX : B ≤ X) {S : List Gr} {g : Gr} {k : Nat} (hk : S.length = k) {P' : List Value} (oS : OwnL w (List.replicate k KGraphics) P' (dG S) fa) {b5 : Option Addr} {e5 : Nat} (o5 : Own w (.sl KPt) [.slice b5 g.path.length e5] (.sl (dP g.path)) g5)
    {w1 w7 : World} (b1 : Below w.heap.size w w1) (t7 : Turns (w1.setCells X 0 [.slice a0 p.now.st.length c0, .int .i64 g.q, .int .i64 g.s, .int .i64 g.dx, .int .i64 g.dy, .slice b5 g.path.length e5, .int .i64 g.gray, .int .i64 g.x0, .int .i64 g.y0, .int .i64 g.x1, .int .i64 g.y1]) w7 (fun b => b = ga)) (r7 : w7.ownsRow B 42 11 (.slice (some ⟨ga, 0, none⟩) k c11) k P') :
    Blk w7 X ([.slice a0 p.now.st.length c0, .int .i64 g.q, .int .i64 g.s, .int .i64 g.dx, .int .i64 g.dy, .slice b5 g.path.length e5, .int .i64 g.gray, .int .i64 g.x0, .int .i64 g.y0, .int .i64 g.x1, .int .i64 g.y1] ++ [.slice (some ⟨ga, 0, none⟩) p.saved.length c11, .slice a12 p.objs.length c12]) ∧ OpRes B X (some { p with now := { g with st := p.now.st }, saved := S }) w (.returned (.bool true)) (w7.setCell ⟨X, 11, none⟩ (.slice (some ⟨ga, 0, none⟩) k c11)) := by
  subst hk
  have h1 := h.on b1
  have nd := h.nd
  have lt := h.parts
  have hXl := h.blk.2.2
  have z1 := b1.size
  have e0 : rowL (.slice (some ⟨ga, 0, none⟩) p.saved.length c11) = [ga] := rfl
  have e1 : rowL (.slice (some ⟨ga, 0, none⟩) S.length c11) = [ga] := rfl
  have hga : ga ∈ rowL (.slice (some ⟨ga, 0, none⟩) p.saved.length c11) := by rw [e0]; simp
  have hgX : ga ≠ X := fun e => by subst e; simp only [List.nodup_cons, List.mem_append] at nd; exact nd.1 (by simp [hga])
  have hgB := (lt ga (by simp [hga])).1
  have s11 : ∀ b ∈ (if S.length = 0 then [] else rowL (.slice (some ⟨ga, 0, none⟩) S.length c11) ++ fa), b ∈ rowL (.slice (some ⟨ga, 0, none⟩) S.length c11) ∨ b ∈ fa := rowF_sub
  have s12 : ∀ b ∈ (if p.objs.length = 0 then [] else rowL (.slice a12 p.objs.length c12) ++ f12), b ∈ rowL (.slice a12 p.objs.length c12) ∨ b ∈ f12 := rowF_sub
  have hsub : ∀ b ∈ rowL (.slice (some ⟨ga, 0, none⟩) S.length c11), b ∈ rowL (.slice (some ⟨ga, 0, none⟩) p.saved.length c11) := fun b hb => by rw [e0]; rw [e1] at hb; exact hb
  have q11 : (if S.length = 0 then [] else rowL (.slice (some ⟨ga, 0, none⟩) S.length c11) ++ fa).Nodup := rowF_nodup (by simp only [List.nodup_cons, List.nodup_append] at nd; grind) (fun b hb hc => by have hb := hsub b hb; simp only [List.nodup_cons, List.nodup_append, List.mem_append] at nd; grind)
  have q12 : (if p.objs.length = 0 then [] else rowL (.slice a12 p.objs.length c12) ++ f12).Nodup := rowF_nodup (by simp only [List.nodup_cons, List.nodup_append] at nd; grind) (fun b hb hc => by simp only [List.nodup_cons, List.nodup_append, List.mem_append] at nd; grind)
  obtain ⟨nd9, nX9⟩ := nd_res nd q11 q12 hsub s11 s12
  have tE : Turns w1 (w1.setCells X 0 [.slice a0 p.now.st.length c0, .int .i64 g.q, .int .i64 g.s, .int .i64 g.dx, .int .i64 g.dy, .slice b5 g.path.length e5, .int .i64 g.gray, .int .i64 g.x0, .int .i64 g.y0, .int .i64 g.x1, .int .i64 g.y1]) (fun b => b = X) := turns_sets (S := fun b => b = X) X rfl _ _ _
  have BE := Blk.sets (w := w1) (b := X) (o := 0) (P := []) (us := [_, _, _, _, _, _, _, _, _, _, _]) (vs := [.slice a0 p.now.st.length c0, .int .i64 g.q, .int .i64 g.s, .int .i64 g.dx, .int .i64 g.dy, .slice b5 g.path.length e5, .int .i64 g.gray, .int .i64 g.x0, .int .i64 g.y0, .int .i64 g.x1, .int .i64 g.y1]) h1.blk rfl rfl
  have B7 := BE.turned t7 (fun e => hgX e.symm)
  generalize w1.setCells X 0 [.slice a0 p.now.st.length c0, .int .i64 g.q, .int .i64 g.s, .int .i64 g.dx, .int .i64 g.dy, .slice b5 g.path.length e5, .int .i64 g.gray, .int .i64 g.x0, .int .i64 g.y0, .int .i64 g.x1, .int .i64 g.y1] = E at *
  refine ⟨B7, rfl, ?_, fun P' hP => ?_⟩
  · exact (((b1.mono hB).trans (tE.below (by omega) (fun k e => e ▸ hX))).trans (t7.below (by have := tE.size; omega) (fun k e => e ▸ hgB))).setCell (p := ⟨X, 11, none⟩) hX _
  injection hP with hP
  subst hP
  have tX : Turns w7 (w7.setCell ⟨X, 11, none⟩ (.slice (some ⟨ga, 0, none⟩) S.length c11)) (fun b => b = X) := turns_set (S := fun b => b = X) (Turns.refl _ _) rfl _ _
  have T := ((tE.mono (T := fun b => b = ga ∨ b = X) (fun k hk => .inr hk)).trans (t7.mono (fun k hk => .inl hk))).trans (tX.mono (fun k hk => .inr hk))
  have B9 := Blk.put (o := 11) (P := [_, _, _, _, _, _, _, _, _, _, _]) B7 rfl (.slice (some ⟨ga, 0, none⟩) S.length c11)
  generalize w7.setCell ⟨X, 11, none⟩ (.slice (some ⟨ga, 0, none⟩) S.length c11) = W9 at *
  have d0 : ∀ b ∈ f0, ¬ (b = ga ∨ b = X) := fun b hb hc => by simp only [List.nodup_cons, List.nodup_append, List.mem_append] at nd; grind
  have d5 : ∀ b ∈ g5, ¬ (b = ga ∨ b = X) := fun b hb hc => by simp only [List.nodup_cons, List.nodup_append, List.mem_append] at nd; grind
  have d11 : ∀ b ∈ fa, ¬ (b = ga ∨ b = X) := fun b hb hc => by simp only [List.nodup_cons, List.nodup_append, List.mem_append] at nd; grind
  have d12 : ∀ b ∈ rowL (.slice a12 p.objs.length c12), ¬ (b = ga ∨ b = X) := fun b hb hc => by simp only [List.nodup_cons, List.nodup_append, List.mem_append] at nd; grind
  have e12 : ∀ b ∈ f12, ¬ (b = ga ∨ b = X) := fun b hb hc => by simp only [List.nodup_cons, List.nodup_append, List.mem_append] at nd; grind
  exact pg_mk (p := { p with now := { g with st := p.now.st }, saved := S }) B9 (h1.o0.turned T d0) ((o5.under b1).turned T d5) (row_own2 (row_turned r7 tX (fun b hb e => by rw [e1, List.mem_singleton] at hb; exact hgX (hb.symm.trans e))) ((oS.under b1).turned T d11)) (row_own2 (row_turned h1.r12 T d12) (h1.o12.turned T e12)) nd9 nX9 (ge_res (fun b hb => (lt b hb).1) hsub s11 s12)
def resO (P : Pg) : Option Pg := P.saved.getLast?.map (resM P)
set_option maxHeartbeats 4000000 in
theorem op_restore {w : World} {B X : Nat} {P : Pg} (h : PgAt w B X P) (hB : B ≤ w.heap.size) (hX : B ≤ X) (hl : P.saved.length ≤ 4) (u : Value) :
    Calls Tryz.prog 130 #[.pointer (some ⟨X, 0, none⟩), u] w (OpRes B X (resO P) w) := by
  obtain ⟨a0, c0, f0, a5, c5, P5, a11, c11, P11, f11, a12, c12, P12, f12, h⟩ := h.flat
  have k11 := h.blk.1 11 _ rfl
  have fz := h.blk.2.1
  rcases List.eq_nil_or_concat P.saved with hs | ⟨S, g, hs⟩
  · have HN : Hid (OpRes B X (resO P) w (.returned (.bool false)) w) := Lib.hid (by
      have e : resO P = none := by simp [resO, hs]
      rw [e]
      exact ⟨rfl, (Below.refl _ _).mono hB, fun P' hP => by cases hP⟩)
    simp only [hs, List.length_nil] at k11
    clear h hs hl
    go_enter Tryz.func130, Tryz.ntmps130
    go_wp2
    go_ret
    exact HN.out
  · obtain ⟨k, hk⟩ : ∃ k, S.length = k := ⟨_, rfl⟩
    have hs : P.saved = S ++ [g] := by rw [hs, List.concat_eq_append]
    have hn : P.saved.length = k + 1 := by rw [hs, List.length_append, hk]; rfl
    have er : resO P = some { P with now := { g with st := P.now.st }, saved := S } := by simp [resO, resM, hs]
    have o11 := h.o11
    rw [hn, hs] at o11
    obtain ⟨P', cs, fa, fb, rfl, rfl, oS, oG⟩ := last_gr hk o11
    obtain ⟨b0, e0, b5, e5, g0, g5, hcs, rfl, q0, q5⟩ := inv_Graphics_ oG
    simp only [len_dI, len_dP] at hcs q0 q5
    simp only [List.append_nil] at h oG
    have r11 := h.r11
    rw [hn] at r11
    obtain ⟨ga, rfl, hBg, bg, _, hnc, hcm⟩ := row_cap r11 (by omega)
    have lP : P'.length = k * 11 := by have := r11.1; rw [List.length_append, hcs] at this; simp at this; omega
    have lcs : cs.length = 11 := by rw [hcs]; rfl
    obtain ⟨l, hL⟩ : ∃ l, P.now.st.length = l := ⟨_, rfl⟩
    have k0 := h.blk.1 0 _ rfl
    rw [hL] at k0
    rw [hn] at k11
    have hXl := h.blk.2.2
    have hgw : ga < w.heap.size := bg.2.2
    have ldG : (hload 42 ⟨ga, k * 11, none⟩).run Tryz.prog w = .ok (.agg cs.toArray) w := hload_run (P := Tryz.prog) (t := 42) Tryz.isAgg42 Tryz.sizeOf42 (w := w) (b := ga) (o := k * 11) (us := cs) (Blk.part (P := P') (R := []) (by simpa using bg) lP) lcs
    obtain ⟨E, stE, BE, bE, zE⟩ := var_new (P := Tryz.prog) (T := 42) Tryz.sizeOf42 w #[.slice none 0 0, .int .i64 0, .int .i64 0, .int .i64 0, .int .i64 0, .slice none 0 0, .int .i64 0, .int .i64 0, .int .i64 0, .int .i64 0, .int .i64 0] rfl (R := cs.toArray) (w0 := w) (ks := LGraphics) (ds := g.dt) (fp := g0 ++ g5) (by simpa using oG) rfl
    have BE' : Blk E w.heap.size cs := by simpa using BE
    rw [hcs] at BE'
    have j0 := BE'.1 0 _ rfl
    have jf := BE'.2.1
    have i0 : E.cell? ⟨X, 0, none⟩ = some (.slice a0 l c0) := (bcell bE).1 X 0 hXl |>.trans k0
    have B2 := Blk.put (o := 0) (P := []) BE' rfl (.slice a0 l c0)
    have b2 : Below w.heap.size w (E.setCell ⟨w.heap.size, 0, none⟩ (.slice a0 l c0)) := bE.setCell (p := ⟨w.heap.size, 0, none⟩) (Nat.le_refl _) _
    have ldO := hload_run (P := Tryz.prog) (t := 42) Tryz.isAgg42 Tryz.sizeOf42 (o := 0) (Blk.part (P := []) (R := []) (by simpa using B2) rfl) rfl
    have h2 := h.on b2
    have stX := hstore_run (P := Tryz.prog) (t := 42) Tryz.sizeOf42 (o := 0) (A := []) (us := [_, _, _, _, _, _, _, _, _, _, _]) (vs := [.slice a0 l c0, .int .i64 g.q, .int .i64 g.s, .int .i64 g.dx, .int .i64 g.dy, .slice b5 g.path.length e5, .int .i64 g.gray, .int .i64 g.x0, .int .i64 g.y0, .int .i64 g.x1, .int .i64 g.y1]) h2.blk rfl rfl rfl (by simp [Value.oneCell'])
    have B3 := Blk.sets (b := X) (o := 0) (P := []) (us := [_, _, _, _, _, _, _, _, _, _, _]) (vs := [.slice a0 l c0, .int .i64 g.q, .int .i64 g.s, .int .i64 g.dx, .int .i64 g.dy, .slice b5 g.path.length e5, .int .i64 g.gray, .int .i64 g.x0, .int .i64 g.y0, .int .i64 g.x1, .int .i64 g.y1]) h2.blk rfl rfl
    have tE : Turns (E.setCell ⟨w.heap.size, 0, none⟩ (.slice a0 l c0)) ((E.setCell ⟨w.heap.size, 0, none⟩ (.slice a0 l c0)).setCells X 0 [.slice a0 l c0, .int .i64 g.q, .int .i64 g.s, .int .i64 g.dx, .int .i64 g.dy, .slice b5 g.path.length e5, .int .i64 g.gray, .int .i64 g.x0, .int .i64 g.y0, .int .i64 g.x1, .int .i64 g.y1]) (fun b => b = X) := turns_sets (S := fun b => b = X) X rfl _ _ _
    have nd := h.nd
    have hgX : ga ≠ X := fun e => by subst e; simp only [List.nodup_cons, List.mem_append] at nd; exact nd.1 (.inr (.inr (.inl (by simp [rowL, Value.ownBlock]))))
    have r2 := row_turned (row_on r11 b2) tE (fun b hb e => hgX ((List.mem_singleton.1 (show b ∈ [ga] from hb)).symm.trans e))
    have o5g : Own w (.sl KPt) [.slice b5 g.path.length e5] (.sl (dP g.path)) g5 := q5
    have HF := Lib.hid (fun (w7 : World) (r7 : w7.ownsRow B 42 11 (.slice (some ⟨ga, 0, none⟩) k c11) k P') (t7 : Turns ((E.setCell ⟨w.heap.size, 0, none⟩ (.slice a0 l c0)).setCells X 0 [.slice a0 l c0, .int .i64 g.q, .int .i64 g.s, .int .i64 g.dx, .int .i64 g.dy, .slice b5 g.path.length e5, .int .i64 g.gray, .int .i64 g.x0, .int .i64 g.y0, .int .i64 g.x1, .int .i64 g.y1]) w7 (fun b => b = ga)) => h.restore hB hX hk oS o5g b2 (by rw [hL]; exact t7) r7)
    rw [hL, ← er, hn] at HF
    obtain ⟨E2, hE2⟩ : ∃ E2, (E.setCell ⟨w.heap.size, 0, none⟩ (.slice a0 l c0)).setCells X 0 [.slice a0 l c0, .int .i64 g.q, .int .i64 g.s, .int .i64 g.dx, .int .i64 g.dy, .slice b5 g.path.length e5, .int .i64 g.gray, .int .i64 g.x0, .int .i64 g.y0, .int .i64 g.x1, .int .i64 g.y1] = E2 := ⟨_, rfl⟩
    rw [hE2] at stX B3 r2 HF
    have x11 := B3.1 11 _ rfl
    have hd := delete_last E2 (n := k) rfl r2 lP
    rw [hn] at x11
    rw [show ((k + 1 : Nat) : Int) = (k : Int) + 1 by omega] at hd
    have HD := Lib.hid hd
    have hk3 : k ≤ 3 := by omega
    have zO := bE.size
    clear h hs hn er oS oG q0 q5 hcs lcs lP r11 bg o5g BE BE' B2 h2 B3 tE nd r2 hE2 hd k0 hL hl o11 b2
    go_enter Tryz.func130, Tryz.ntmps130
    go_wp2_with fail
    clear ldG stE j0 jf i0 ldO stX x11 k11
    ((with_reducible refine (HD.out).mono ?_); rintro e w7 ⟨rfl, r7, t7⟩)
    have hh := HF.out w7 r7 t7
    have y11 := hh.1.1 11 _ rfl
    have yf := hh.1.2.1
    have HR := Lib.hid hh.2
    clear hh r7 t7
    go_wp2
    go_ret
    exact HR.out
end Go.Proofs.YtjmfgbbngocodaaGreat.Own

namespace Go.Proofs.YtjmfgbbngocodaaGreat.Own
open Go.ChangeShapes Go.WideShapes Go.ChangeAt Go.RowKit
open Kit Slabs Ints Stack Impl
set_option linter.unusedVariables false
set_option linter.unusedSimpArgs false
set_option linter.unnecessarySimpa false
set_option maxRecDepth 100000
def opN (s : ByteArray) : Option Nat :=
  if s.toList == [110, 101, 119] then some 0
  else if s.toList == [109, 111, 118, 101, 116, 111] then some 1
  else if s.toList == [108, 105, 110, 101, 116, 111] then some 2
  else if s.toList == [114, 101, 99, 116] then some 3
  else if s.toList == [102, 105, 108, 108] then some 4
  else if s.toList == [103, 114, 97, 121] then some 5
  else if s.toList == [99, 108, 105, 112] then some 6
  else if s.toList == [115, 97, 118, 101] then some 7
  else if s.toList == [114, 101, 115, 116, 111, 114, 101] then some 8
  else if s.toList == [115, 104, 105, 102, 116] then some 9
  else if s.toList == [116, 117, 114, 110] then some 10
  else if s.toList == [115, 99, 97, 108, 101] then some 11
  else none
def opK : Nat → Nat
  | 0 => 0
  | 1 => 2
  | 2 => 2
  | 3 => 4
  | 4 => 0
  | 5 => 1
  | 6 => 0
  | 7 => 0
  | 8 => 0
  | 9 => 2
  | 10 => 1
  | 11 => 1
  | _ => 0
def opF : Nat → FuncId
  | 0 => 122
  | 1 => 123
  | 2 => 124
  | 3 => 125
  | 4 => 126
  | 5 => 127
  | 6 => 128
  | 7 => 129
  | 8 => 130
  | 9 => 131
  | 10 => 133
  | 11 => 134
  | _ => 0
def oent : Nat → MapEntry
  | 0 => { key := .string ⟨#[110, 101, 119]⟩, val := .agg #[.int .i64 0, .func (.func 122) #[] #[]], born := 0 }
  | 1 => { key := .string ⟨#[109, 111, 118, 101, 116, 111]⟩, val := .agg #[.int .i64 2, .func (.func 123) #[] #[]], born := 1 }
  | 2 => { key := .string ⟨#[108, 105, 110, 101, 116, 111]⟩, val := .agg #[.int .i64 2, .func (.func 124) #[] #[]], born := 2 }
  | 3 => { key := .string ⟨#[114, 101, 99, 116]⟩, val := .agg #[.int .i64 4, .func (.func 125) #[] #[]], born := 3 }
  | 4 => { key := .string ⟨#[102, 105, 108, 108]⟩, val := .agg #[.int .i64 0, .func (.func 126) #[] #[]], born := 4 }
  | 5 => { key := .string ⟨#[103, 114, 97, 121]⟩, val := .agg #[.int .i64 1, .func (.func 127) #[] #[]], born := 5 }
  | 6 => { key := .string ⟨#[99, 108, 105, 112]⟩, val := .agg #[.int .i64 0, .func (.func 128) #[] #[]], born := 6 }
  | 7 => { key := .string ⟨#[115, 97, 118, 101]⟩, val := .agg #[.int .i64 0, .func (.func 129) #[] #[]], born := 7 }
  | 8 => { key := .string ⟨#[114, 101, 115, 116, 111, 114, 101]⟩, val := .agg #[.int .i64 0, .func (.func 130) #[] #[]], born := 8 }
  | 9 => { key := .string ⟨#[115, 104, 105, 102, 116]⟩, val := .agg #[.int .i64 2, .func (.func 131) #[] #[]], born := 9 }
  | 10 => { key := .string ⟨#[116, 117, 114, 110]⟩, val := .agg #[.int .i64 1, .func (.func 133) #[] #[]], born := 10 }
  | _ => { key := .string ⟨#[115, 99, 97, 108, 101]⟩, val := .agg #[.int .i64 1, .func (.func 134) #[] #[]], born := 11 }
def otab : Array MapEntry := #[oent 0, oent 1, oent 2, oent 3, oent 4, oent 5, oent 6, oent 7, oent 8, oent 9, oent 10, oent 11]
set_option maxHeartbeats 4000000 in
theorem otab_any (w : World) : Calls Tryz.prog 87 #[] w fun e w' => e = .returned (.map (some w.heap.size)) ∧ w' = w.alloc (.map #[oent 0, oent 1, oent 2, oent 3, oent 4, oent 5, oent 6, oent 7, oent 8, oent 9, oent 10, oent 11] 12) := by
  have hmm := @run_makeMap Tryz.prog
  have h0 : (Instr.mapUpdate 130 (.map (some w.heap.size)) (.string ⟨#[110, 101, 119]⟩) (.agg #[.int .i64 0, .func (.func 122) #[] #[]])).run Tryz.prog (w.alloc (.map #[] 0)) = .ok () (w.alloc (.map #[oent 0] 1)) := Tab.run_ins Tryz.underlying130 Tryz.underlying9 w #[] 0 _ _ (by kernel_rfl)
  have h1 : (Instr.mapUpdate 130 (.map (some w.heap.size)) (.string ⟨#[109, 111, 118, 101, 116, 111]⟩) (.agg #[.int .i64 2, .func (.func 123) #[] #[]])).run Tryz.prog (w.alloc (.map #[oent 0] 1)) = .ok () (w.alloc (.map #[oent 0, oent 1] 2)) := Tab.run_ins Tryz.underlying130 Tryz.underlying9 w #[oent 0] 1 _ _ (by kernel_rfl)
  have h2 : (Instr.mapUpdate 130 (.map (some w.heap.size)) (.string ⟨#[108, 105, 110, 101, 116, 111]⟩) (.agg #[.int .i64 2, .func (.func 124) #[] #[]])).run Tryz.prog (w.alloc (.map #[oent 0, oent 1] 2)) = .ok () (w.alloc (.map #[oent 0, oent 1, oent 2] 3)) := Tab.run_ins Tryz.underlying130 Tryz.underlying9 w #[oent 0, oent 1] 2 _ _ (by kernel_rfl)
  have h3 : (Instr.mapUpdate 130 (.map (some w.heap.size)) (.string ⟨#[114, 101, 99, 116]⟩) (.agg #[.int .i64 4, .func (.func 125) #[] #[]])).run Tryz.prog (w.alloc (.map #[oent 0, oent 1, oent 2] 3)) = .ok () (w.alloc (.map #[oent 0, oent 1, oent 2, oent 3] 4)) := Tab.run_ins Tryz.underlying130 Tryz.underlying9 w #[oent 0, oent 1, oent 2] 3 _ _ (by kernel_rfl)
  have h4 : (Instr.mapUpdate 130 (.map (some w.heap.size)) (.string ⟨#[102, 105, 108, 108]⟩) (.agg #[.int .i64 0, .func (.func 126) #[] #[]])).run Tryz.prog (w.alloc (.map #[oent 0, oent 1, oent 2, oent 3] 4)) = .ok () (w.alloc (.map #[oent 0, oent 1, oent 2, oent 3, oent 4] 5)) := Tab.run_ins Tryz.underlying130 Tryz.underlying9 w #[oent 0, oent 1, oent 2, oent 3] 4 _ _ (by kernel_rfl)
  have h5 : (Instr.mapUpdate 130 (.map (some w.heap.size)) (.string ⟨#[103, 114, 97, 121]⟩) (.agg #[.int .i64 1, .func (.func 127) #[] #[]])).run Tryz.prog (w.alloc (.map #[oent 0, oent 1, oent 2, oent 3, oent 4] 5)) = .ok () (w.alloc (.map #[oent 0, oent 1, oent 2, oent 3, oent 4, oent 5] 6)) := Tab.run_ins Tryz.underlying130 Tryz.underlying9 w #[oent 0, oent 1, oent 2, oent 3, oent 4] 5 _ _ (by kernel_rfl)
  have h6 : (Instr.mapUpdate 130 (.map (some w.heap.size)) (.string ⟨#[99, 108, 105, 112]⟩) (.agg #[.int .i64 0, .func (.func 128) #[] #[]])).run Tryz.prog (w.alloc (.map #[oent 0, oent 1, oent 2, oent 3, oent 4, oent 5] 6)) = .ok () (w.alloc (.map #[oent 0, oent 1, oent 2, oent 3, oent 4, oent 5, oent 6] 7)) := Tab.run_ins Tryz.underlying130 Tryz.underlying9 w #[oent 0, oent 1, oent 2, oent 3, oent 4, oent 5] 6 _ _ (by kernel_rfl)
  have h7 : (Instr.mapUpdate 130 (.map (some w.heap.size)) (.string ⟨#[115, 97, 118, 101]⟩) (.agg #[.int .i64 0, .func (.func 129) #[] #[]])).run Tryz.prog (w.alloc (.map #[oent 0, oent 1, oent 2, oent 3, oent 4, oent 5, oent 6] 7)) = .ok () (w.alloc (.map #[oent 0, oent 1, oent 2, oent 3, oent 4, oent 5, oent 6, oent 7] 8)) := Tab.run_ins Tryz.underlying130 Tryz.underlying9 w #[oent 0, oent 1, oent 2, oent 3, oent 4, oent 5, oent 6] 7 _ _ (by kernel_rfl)
  have h8 : (Instr.mapUpdate 130 (.map (some w.heap.size)) (.string ⟨#[114, 101, 115, 116, 111, 114, 101]⟩) (.agg #[.int .i64 0, .func (.func 130) #[] #[]])).run Tryz.prog (w.alloc (.map #[oent 0, oent 1, oent 2, oent 3, oent 4, oent 5, oent 6, oent 7] 8)) = .ok () (w.alloc (.map #[oent 0, oent 1, oent 2, oent 3, oent 4, oent 5, oent 6, oent 7, oent 8] 9)) := Tab.run_ins Tryz.underlying130 Tryz.underlying9 w #[oent 0, oent 1, oent 2, oent 3, oent 4, oent 5, oent 6, oent 7] 8 _ _ (by kernel_rfl)
  have h9 : (Instr.mapUpdate 130 (.map (some w.heap.size)) (.string ⟨#[115, 104, 105, 102, 116]⟩) (.agg #[.int .i64 2, .func (.func 131) #[] #[]])).run Tryz.prog (w.alloc (.map #[oent 0, oent 1, oent 2, oent 3, oent 4, oent 5, oent 6, oent 7, oent 8] 9)) = .ok () (w.alloc (.map #[oent 0, oent 1, oent 2, oent 3, oent 4, oent 5, oent 6, oent 7, oent 8, oent 9] 10)) := Tab.run_ins Tryz.underlying130 Tryz.underlying9 w #[oent 0, oent 1, oent 2, oent 3, oent 4, oent 5, oent 6, oent 7, oent 8] 9 _ _ (by kernel_rfl)
  have h10 : (Instr.mapUpdate 130 (.map (some w.heap.size)) (.string ⟨#[116, 117, 114, 110]⟩) (.agg #[.int .i64 1, .func (.func 133) #[] #[]])).run Tryz.prog (w.alloc (.map #[oent 0, oent 1, oent 2, oent 3, oent 4, oent 5, oent 6, oent 7, oent 8, oent 9] 10)) = .ok () (w.alloc (.map #[oent 0, oent 1, oent 2, oent 3, oent 4, oent 5, oent 6, oent 7, oent 8, oent 9, oent 10] 11)) := Tab.run_ins Tryz.underlying130 Tryz.underlying9 w #[oent 0, oent 1, oent 2, oent 3, oent 4, oent 5, oent 6, oent 7, oent 8, oent 9] 10 _ _ (by kernel_rfl)
  have h11 : (Instr.mapUpdate 130 (.map (some w.heap.size)) (.string ⟨#[115, 99, 97, 108, 101]⟩) (.agg #[.int .i64 1, .func (.func 134) #[] #[]])).run Tryz.prog (w.alloc (.map #[oent 0, oent 1, oent 2, oent 3, oent 4, oent 5, oent 6, oent 7, oent 8, oent 9, oent 10] 11)) = .ok () (w.alloc (.map #[oent 0, oent 1, oent 2, oent 3, oent 4, oent 5, oent 6, oent 7, oent 8, oent 9, oent 10, oent 11] 12)) := Tab.run_ins Tryz.underlying130 Tryz.underlying9 w #[oent 0, oent 1, oent 2, oent 3, oent 4, oent 5, oent 6, oent 7, oent 8, oent 9, oent 10] 11 _ _ (by kernel_rfl)
  go_enter Tryz.func87, Tryz.ntmps87
  go_wp2
  go_ret
  exact ⟨rfl, rfl⟩
theorem otab_impl (w : World) : Calls Tryz.prog 87 #[] w fun e w' => e = .returned (.map (some w.heap.size)) ∧ w' = w.alloc (.map otab 12) := otab_any w
theorem olook_none {s : ByteArray} (h : opN s = none) : Instr.findNow .string (.string s) otab.toList 0 = some none := by
  unfold opN at h
  by_cases e0 : (s.toList == [110, 101, 119]) = true
  · rw [if_pos e0] at h; cases h
  rw [if_neg e0] at h
  have g0 := ne_of (l := [110, 101, 119]) (fun e => e0 (by rw [e]; rfl))
  by_cases e1 : (s.toList == [109, 111, 118, 101, 116, 111]) = true
  · rw [if_pos e1] at h; cases h
  rw [if_neg e1] at h
  have g1 := ne_of (l := [109, 111, 118, 101, 116, 111]) (fun e => e1 (by rw [e]; rfl))
  by_cases e2 : (s.toList == [108, 105, 110, 101, 116, 111]) = true
  · rw [if_pos e2] at h; cases h
  rw [if_neg e2] at h
  have g2 := ne_of (l := [108, 105, 110, 101, 116, 111]) (fun e => e2 (by rw [e]; rfl))
  by_cases e3 : (s.toList == [114, 101, 99, 116]) = true
  · rw [if_pos e3] at h; cases h
  rw [if_neg e3] at h
  have g3 := ne_of (l := [114, 101, 99, 116]) (fun e => e3 (by rw [e]; rfl))
  by_cases e4 : (s.toList == [102, 105, 108, 108]) = true
  · rw [if_pos e4] at h; cases h
  rw [if_neg e4] at h
  have g4 := ne_of (l := [102, 105, 108, 108]) (fun e => e4 (by rw [e]; rfl))
  by_cases e5 : (s.toList == [103, 114, 97, 121]) = true
  · rw [if_pos e5] at h; cases h
  rw [if_neg e5] at h
  have g5 := ne_of (l := [103, 114, 97, 121]) (fun e => e5 (by rw [e]; rfl))
  by_cases e6 : (s.toList == [99, 108, 105, 112]) = true
  · rw [if_pos e6] at h; cases h
  rw [if_neg e6] at h
  have g6 := ne_of (l := [99, 108, 105, 112]) (fun e => e6 (by rw [e]; rfl))
  by_cases e7 : (s.toList == [115, 97, 118, 101]) = true
  · rw [if_pos e7] at h; cases h
  rw [if_neg e7] at h
  have g7 := ne_of (l := [115, 97, 118, 101]) (fun e => e7 (by rw [e]; rfl))
  by_cases e8 : (s.toList == [114, 101, 115, 116, 111, 114, 101]) = true
  · rw [if_pos e8] at h; cases h
  rw [if_neg e8] at h
  have g8 := ne_of (l := [114, 101, 115, 116, 111, 114, 101]) (fun e => e8 (by rw [e]; rfl))
  by_cases e9 : (s.toList == [115, 104, 105, 102, 116]) = true
  · rw [if_pos e9] at h; cases h
  rw [if_neg e9] at h
  have g9 := ne_of (l := [115, 104, 105, 102, 116]) (fun e => e9 (by rw [e]; rfl))
  by_cases e10 : (s.toList == [116, 117, 114, 110]) = true
  · rw [if_pos e10] at h; cases h
  rw [if_neg e10] at h
  have g10 := ne_of (l := [116, 117, 114, 110]) (fun e => e10 (by rw [e]; rfl))
  by_cases e11 : (s.toList == [115, 99, 97, 108, 101]) = true
  · rw [if_pos e11] at h; cases h
  rw [if_neg e11] at h
  have g11 := ne_of (l := [115, 99, 97, 108, 101]) (fun e => e11 (by rw [e]; rfl))
  simp [otab, oent, Instr.findNow, Instr.sameNow, g0, g1, g2, g3, g4, g5, g6, g7, g8, g9, g10, g11]
theorem olook_yes {s : ByteArray} {k : Nat} (h : opN s = some k) : Instr.findNow .string (.string s) otab.toList 0 = some (some (k, .agg #[.int .i64 (opK k : Nat), .func (.func (opF k)) #[] #[]])) := by
  unfold opN at h
  by_cases e0 : (s.toList == [110, 101, 119]) = true
  · rw [if_pos e0] at h; injection h with h; subst h; rw [str_of e0]; kernel_rfl
  rw [if_neg e0] at h
  by_cases e1 : (s.toList == [109, 111, 118, 101, 116, 111]) = true
  · rw [if_pos e1] at h; injection h with h; subst h; rw [str_of e1]; kernel_rfl
  rw [if_neg e1] at h
  by_cases e2 : (s.toList == [108, 105, 110, 101, 116, 111]) = true
  · rw [if_pos e2] at h; injection h with h; subst h; rw [str_of e2]; kernel_rfl
  rw [if_neg e2] at h
  by_cases e3 : (s.toList == [114, 101, 99, 116]) = true
  · rw [if_pos e3] at h; injection h with h; subst h; rw [str_of e3]; kernel_rfl
  rw [if_neg e3] at h
  by_cases e4 : (s.toList == [102, 105, 108, 108]) = true
  · rw [if_pos e4] at h; injection h with h; subst h; rw [str_of e4]; kernel_rfl
  rw [if_neg e4] at h
  by_cases e5 : (s.toList == [103, 114, 97, 121]) = true
  · rw [if_pos e5] at h; injection h with h; subst h; rw [str_of e5]; kernel_rfl
  rw [if_neg e5] at h
  by_cases e6 : (s.toList == [99, 108, 105, 112]) = true
  · rw [if_pos e6] at h; injection h with h; subst h; rw [str_of e6]; kernel_rfl
  rw [if_neg e6] at h
  by_cases e7 : (s.toList == [115, 97, 118, 101]) = true
  · rw [if_pos e7] at h; injection h with h; subst h; rw [str_of e7]; kernel_rfl
  rw [if_neg e7] at h
  by_cases e8 : (s.toList == [114, 101, 115, 116, 111, 114, 101]) = true
  · rw [if_pos e8] at h; injection h with h; subst h; rw [str_of e8]; kernel_rfl
  rw [if_neg e8] at h
  by_cases e9 : (s.toList == [115, 104, 105, 102, 116]) = true
  · rw [if_pos e9] at h; injection h with h; subst h; rw [str_of e9]; kernel_rfl
  rw [if_neg e9] at h
  by_cases e10 : (s.toList == [116, 117, 114, 110]) = true
  · rw [if_pos e10] at h; injection h with h; subst h; rw [str_of e10]; kernel_rfl
  rw [if_neg e10] at h
  by_cases e11 : (s.toList == [115, 99, 97, 108, 101]) = true
  · rw [if_pos e11] at h; injection h with h; subst h; rw [str_of e11]; kernel_rfl
  rw [if_neg e11] at h
  cases h
end Go.Proofs.YtjmfgbbngocodaaGreat.Own

