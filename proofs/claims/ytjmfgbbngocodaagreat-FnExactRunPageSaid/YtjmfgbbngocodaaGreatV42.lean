/-
  Texts of this seat, laid together: FbImpl
-/
import Derived.Laws.EntriesVeiled
import Derived.Test.YtjmfgbbngocodaaGreatV41
namespace Go.Proofs.YtjmfgbbngocodaaGreat.Impl
open Go.ChangeShapes Go.WideShapes Go.ChangeAt Go.RowKit
open Kit Scan Slabs Blk NameImpl
set_option linter.unusedVariables false
set_option linter.unusedSimpArgs false
set_option linter.unnecessarySimpa false
set_option maxRecDepth 100000
theorem step_append_any {P : Program} {w : World} {ops : Array Oper} {o : Oper} {a : Act} {K : Act → World → Prop} {Q : Exit → Act → World → Prop} {E : Prop} (hgd : o.guard = none) (s x : Operand) (t : TypeId)
    (ho : o.op = .call { callee := .builtin .append, args := #[s, x], argTypes := #[t, t] })
    (base : Nat) (e : TypeId) (i : TypeInfo) (z : Value) (size bytes : Nat) (ht : P.underlying t = some (.slice e)) (hi : P.info? e = some i) (hz : i.zero = some z)
    (hsize : i.size = size) (hby : i.bytes = bytes) (hzs : z.cells.size = size) (hsz : 0 < size)
    (v : Value) (n : Nat) (xs : List Value) (hs : a.eval s = v) (hown : w.ownsRow base e size v n xs)
    (ad : Addr) (m c : Nat) (news : List Value) (hx : a.eval x = .slice (some ad) m c) (hl : news.length = m * size) (hnews : ∀ j u, news[j]? = some u → w.cell? (ad.add j) = some u) (h1 : ∀ u ∈ news, u.oneCell' = true)
    (h63 : n + m ≤ maxLen) (hbytes : (n + m) * bytes ≤ 140737488355328) (hbase : base ≤ w.heap.size)
    (h : ∀ v' w', w'.ownsRow base e size v' (n + m) (xs ++ news) → w.grownBy w' v.ownBlock → K (a.put o.dst v') w') :
    if Region.wanted o (yielded ops a.tmps) = true then Oper.wp P o a w K Q else E := by
  have hw : Region.wanted o (yielded ops a.tmps) = true := by simp [Region.wanted, hgd]
  rw [if_pos hw]
  obtain ⟨v', w', hr, h2, h3, _, _⟩ := run_append_own_at (P := P) w base t o.type e i z size bytes ht hi hz hsize hby hzs hsz v n xs hown ad m c news hl hnews h1 h63 hbytes hbase
  unfold Oper.wp execOp
  simp only [ho, resolve, invoke, builtin, Sem.run_bind, Sem.run_pure, Result.andThen_ok, List.map_toArray, List.map_cons, List.map_nil, hs, hx, hr]
  exact h v' w' h2 h3
structure Clo (W : World) (p bl bf g o cap : Nat) (L : List Tok) (k : Nat) : Prop where
  pos : W.heap[p]? = some (.cells #[.int .i64 (k : Int)] 3 (0, 0))
  lst : W.cell? ⟨bl, 0, none⟩ = some (.slice (some ⟨g, o, none⟩) L.length cap)
  fn : W.cell? ⟨bf, 0, none⟩ = some (.func (.func 102) #[] #[.pointer (some ⟨p, 0, none⟩), .pointer (some ⟨bl, 0, none⟩), .pointer (some ⟨bf, 0, none⟩)])
  nbl : bl ≠ p
  nbf : bf ≠ p
  ng : g ≠ p
  toks : ∀ i s m, L[i]? = some (s, m) → W.cell? ⟨g, o + i * 2, none⟩ = some (.string s) ∧ W.cell? ⟨g, o + i * 2 + 1, none⟩ = some (.int .i64 m)
theorem Clo.step {W W' : World} {p bl bf g o cap k k' : Nat} {L : List Tok} (h : Clo W p bl bf g o cap L k) (hg : W.grownBy W' (some p)) (hp : W'.heap[p]? = some (.cells #[.int .i64 (k' : Int)] 3 (0, 0))) : Clo W' p bl bf g o cap L k' :=
  ⟨hp, hg.cell h.lst (by simpa using h.nbl), hg.cell h.fn (by simpa using h.nbf), h.nbl, h.nbf, h.ng, fun i s m hi => ⟨hg.cell (h.toks i s m hi).1 (by simpa using h.ng), hg.cell (h.toks i s m hi).2 (by simpa using h.ng)⟩⟩
theorem Clo.lt {W : World} {p bl bf g o cap k : Nat} {L : List Tok} (h : Clo W p bl bf g o cap L k) : p < W.heap.size := (Array.getElem?_eq_some_iff.1 h.pos).1
theorem grown_set {w : World} {p j : Nat} (u : Value) : w.grownBy (w.setCell ⟨p, j, none⟩ u) (some p) :=
  ⟨rfl, rfl, rfl, by simp, fun k _ hk => heap_setCell_other w ⟨p, j, none⟩ k u (fun e => hk (by simp [e]))⟩
theorem grown_below {w w' : World} {row : Option Nat} (h : Below w.heap.size w w') : w.grownBy w' row := ⟨h.os, h.tape, h.output, h.size, fun k hk _ => h.block k hk⟩
theorem grown_drew {w w' : World} {row : Option Nat} (h : w.grownBy w' row) : w.grownBy w'.drew row := ⟨h.os, h.tape, h.output, h.size, h.block⟩
theorem grown_own {W w1 w2 : World} {p : Nat} {row : Option Nat} (h : W.grownBy w1 (some p)) (hg : w1.grownBy w2 row) (hrow : ∀ q, row = some q → W.heap.size ≤ q) : W.grownBy w2 (some p) :=
  ⟨hg.os.trans h.os, hg.tape.trans h.tape, hg.output.trans h.output, Nat.le_trans h.size hg.size, fun k hk hne => (hg.block k (Nat.lt_of_lt_of_le hk h.size) (fun e => by have := hrow k e.symm; omega)).trans (h.block k hk hne)⟩
theorem Clo.adv {W : World} {p bl bf g o cap k : Nat} {L : List Tok} (h : Clo W p bl bf g o cap L k) (ob : Obj) :
    Clo ((W.setCell ⟨p, 0, none⟩ (.int .i64 ((k : Int) + 1))).alloc ob) p bl bf g o cap L (k + 1) ∧ W.grownBy ((W.setCell ⟨p, 0, none⟩ (.int .i64 ((k : Int) + 1))).alloc ob) (some p) := by
  have hg : W.grownBy ((W.setCell ⟨p, 0, none⟩ (.int .i64 ((k : Int) + 1))).alloc ob) (some p) := (grown_set _).trans (World.grownBy_alloc _ ob _)
  refine ⟨h.step hg ?_, hg⟩
  rw [heap_alloc_old _ ob (by simpa using h.lt), heap_setCell_same _ _ _ _ _ _ h.pos]
  simp
theorem Clo.drew {W : World} {p bl bf g o cap k : Nat} {L : List Tok} (h : Clo W p bl bf g o cap L k) : Clo W.drew p bl bf g o cap L k := ⟨h.pos, h.lst, h.fn, h.nbl, h.nbf, h.ng, h.toks⟩
inductive St (f : List Tok) : List Tok → List Tok → Prop
  | a {suf fs flat : List Tok} {d : Nat} : Fl suf fs d → d ≤ 3 → f = flat ++ fs → St f suf flat
  | b {fp b fb r g : List Tok} {c p e : Tok} {d1 d2 : Nat} (n : Nat) : c.2 = (n : Int) → n ≤ 9 → isRep p = true → isEnd e = true → Fl b fb d1 → d1 ≤ 3 → Fl r g d2 → d2 ≤ 3 → f = fp ++ (rpt n fb ++ g) → St f (p :: (b ++ e :: r)) (fp ++ [c])
theorem St.len {f suf flat : List Tok} (h : St f suf flat) : flat.length ≤ f.length + 1 := by
  cases h with
  | a _ _ h => rw [h]; simp; omega
  | b n _ _ _ _ _ _ _ _ h => rw [h]; simp
theorem St.push {f suf flat : List Tok} {t : Tok} (h : St f (t :: suf) flat) (hr : isRep t = false) : St f suf (flat ++ [t]) := by
  cases h with
  | a F hd hf =>
    cases F with
    | tok h1 h2 h3 h4 F => exact .a F hd (by rw [hf]; simp)
    | rep n h1 h2 h3 h4 h5 h6 h7 F1 F2 => exact .b n h2 h3 h4 h5 F1 (by omega) F2 (by omega) hf
  | b n _ _ hp => rw [hr] at hp; cases hp
theorem St.noend {f suf flat : List Tok} {t : Tok} (h : St f (t :: suf) flat) : isEnd t = false := by
  cases h with
  | a F hd hf =>
    cases F with
    | tok h1 h2 h3 h4 F => exact h2
    | rep n h1 => exact (num_name h1).2
  | b n _ _ hp => exact (rep_name hp).2
theorem St.done {f flat : List Tok} (h : St f [] flat) : f = flat := by
  cases h with
  | a F _ hf => cases F; simpa using hf
theorem St.rep {f suf flat : List Tok} {t : Tok} (h : St f (t :: suf) flat) (hr : isRep t = true) :
    ∃ (fp b fb r : List Tok) (c e : Tok) (d1 n : Nat), flat = fp ++ [c] ∧ suf = b ++ e :: r ∧ c.2 = (n : Int) ∧ n ≤ 9 ∧ isEnd e = true ∧ Fl b fb d1 ∧ d1 ≤ 3 ∧ St f r (fp ++ rpt n fb) := by
  cases h with
  | a F hd hf =>
    cases F with
    | tok h1 h2 h3 h4 F => rw [h1] at hr; cases hr
    | rep n h1 => rw [(num_name h1).1] at hr; cases hr
  | b n h1 h2 hp he F1 hd1 F2 hd2 hf => exact ⟨_, _, _, _, _, _, _, n, rfl, rfl, h1, h2, he, F1, hd1, .a F2 hd2 (by rw [hf]; simp)⟩
def plc (W : World) (p : Nat) : Nat := match W.cell? ⟨p, 0, none⟩ with | some v => (intOf v).toNat | none => 0
theorem last_num (fp : List Tok) (c : Tok) : (cellsL (fp ++ [c]))[fp.length * 2 + 1]? = some (.int .i64 c.2) := by
  rw [cellsL_append, List.getElem?_append_right (by rw [cellsL_len]; omega), cellsL_len, show fp.length * 2 + 1 - fp.length * 2 = 1 by omega]
  rfl
theorem cells_take (fp : List Tok) (c : Tok) : (cellsL (fp ++ [c])).take (fp.length * 2) = cellsL fp := by
  rw [cellsL_append, List.take_append_of_le_length (by rw [cellsL_len]; exact Nat.le_refl _), List.take_of_length_le (by rw [cellsL_len]; exact Nat.le_refl _)]
theorem plc_is {W : World} {p k : Nat} (h : W.heap[p]? = some (.cells #[.int .i64 (k : Int)] 3 (0, 0))) : plc W p = k := by
  simp [plc, cell_of_row _ _ _ _ _ _ h, intOf]
def CloLeft (W : World) (p k : Nat) (f : List Tok) (e : Ending) (W' : World) : Prop :=
  ∃ u, e = .returned u ∧ W'.ownsRow W.heap.size 50 2 u f.length (cellsL f) ∧ W'.heap[p]? = some (.cells #[.int .i64 (k : Int)] 3 (0, 0)) ∧ W.grownBy W' (some p)
set_option maxHeartbeats 8000000 in
theorem clo_impl : ∀ (N : Nat) (b f : List Tok) (d : Nat), b.length = N → Fl b f d → d ≤ 3 → ∀ (L pre tail : List Tok), L = pre ++ (b ++ tail) → L.length ≤ 60 → (tail = [] ∨ ∃ e r, tail = e :: r ∧ isEnd e = true) → (∀ t ∈ L, t.1.size ≤ 281474976710656) →
    ∀ (W : World) (p bl bf g o cap k : Nat), pre.length = k → Clo W p bl bf g o cap L k →
    Calls Tryz.prog 102 #[.pointer (some ⟨p, 0, none⟩), .pointer (some ⟨bl, 0, none⟩), .pointer (some ⟨bf, 0, none⟩)] W (CloLeft W p (k + b.length + (if tail.isEmpty = true then 0 else 1)) f) := by
  intro N
  induction N using Nat.strongRecOn with
  | _ N ih =>
    intro b f d hN F hd3 L pre tail hL h60 htail hS W p bl bf g o cap k hk hC
    subst hN
    have hfb : f.length ≤ 43740 := fl_bound F (by rw [hL] at h60; simp at h60; omega) hd3
    obtain ⟨i0, hi0, hz0, hz1, hz2⟩ := info_parts info_tk
    obtain ⟨K, hK⟩ : ∃ K, k + b.length + (if tail.isEmpty = true then 0 else 1) = K := ⟨_, rfl⟩
    rw [hK]
    have hpW := hC.lt
    have HI := Lib.hid (And.intro ih (And.intro hS htail))
    have H0 := Lib.hid (And.intro hC (And.intro F hL))
    clear ih hC hS F hL htail
    go_enter Tryz.func102, Tryz.ntmps102
    go_wp2
    go_loopw [4] (fun v4 wr => ∃ (q suf flat : List Tok) (kk : Nat), L = q ++ (suf ++ tail) ∧ q.length = kk ∧ kk + suf.length = k + b.length ∧ k ≤ kk ∧ St f suf flat ∧ Clo wr p bl bf g o cap L kk ∧ W.grownBy wr (some p) ∧ wr.ownsRow W.heap.size 50 2 v4 flat.length (cellsL flat)) (fun _ wr => L.length - plc wr p)
    case atStart => exact ⟨pre, b, [], k, H0.out.2.2, hk, rfl, Nat.le_refl _, .a H0.out.2.1 hd3 (by simp), H0.out.1, ⟨rfl, rfl, rfl, Nat.le_refl _, fun _ _ _ => rfl⟩, World.ownsRow_nil _ _ _ _⟩
    case round =>
      obtain ⟨q, suf, flat, kk, hLq, hq, hks, hkk, hSt, hCr, hg0, hown⟩ := hrel
      have hown0 := hown
      have cP : wr.cell? ⟨p, 0, none⟩ = some (.int .i64 (kk : Int)) := by rw [cell_of_row _ _ _ _ _ _ hCr.pos]; simp
      have fP : wr.frozen? ⟨p, 0, none⟩ = false := by simp [World.frozen?, hCr.pos]
      have cL := hCr.lst
      have hpl := hCr.lt
      have hpne : ¬ (p = wr.heap.size) := by omega
      have hlen : L.length = kk + (suf.length + tail.length) := by rw [hLq]; simp [hq]
      have k0 : (0 : Int) ≤ (kk : Int) := by omega
      have HC := Lib.hid (And.intro hCr (And.intro hown (And.intro hSt (And.intro hg0 hLq))))
      have hsuf : suf = [] ∨ ∃ t r, suf = t :: r := by cases suf; exact .inl rfl; exact .inr ⟨_, _, rfl⟩
      rcases hsuf with rfl | ⟨t, r, rfl⟩
      · obtain rfl : f = flat := hSt.done
        rcases HI.out.2.2 with ht | ⟨e, r, ht, hE⟩
        · have hkl : ¬ ((kk : Int) < (L.length : Int)) := by rw [hlen, ht]; simp
          have hKk := Lib.hid (show K = kk by rw [← hK, ht]; simp at hks ⊢; omega)
          clear hCr hown hown0 hSt hg0 hLq
          go_wp2
          go_ret
          exact ⟨_, rfl, HC.out.2.1, by rw [hKk.out]; exact HC.out.1.pos, HC.out.2.2.2.1⟩
        · have k1 : (kk : Int) < (L.length : Int) := by rw [hlen, ht]; simp; omega
          obtain ⟨s, m⟩ := e
          have hget : L[kk]? = some (s, m) := by rw [hLq, ht, ← hq]; simp
          obtain ⟨c0, c1⟩ := hCr.toks kk s m hget
          have hgl := World.block_lt_of_cell? wr _ c0
          have ee : (s.toList == [101, 110, 100]) = true := hE
          have hKk := Lib.hid (show K = kk + 1 by rw [← hK, ht]; simp at hks ⊢; omega)
          obtain ⟨hA, hA2⟩ := hCr.adv (.cells #[.string s, .int .i64 m] 50)
          have ho2 := (hown.kept (grown_set (p := p) (j := 0) (.int .i64 ((kk : Int) + 1))) (.inr fun e => by have := (hown.lt p e).1; omega)).alloc (.cells #[.string s, .int .i64 m] 50)
          have HA := Lib.hid (And.intro hA (And.intro hA2 ho2))
          clear hCr hown hown0 hSt hg0 hLq hget hA hA2 ho2
          go_wp2
          go_ret
          exact ⟨_, rfl, HA.out.2.2, by rw [hKk.out]; exact HA.out.1.pos, HC.out.2.2.2.1.trans HA.out.2.1⟩
      · have k1 : (kk : Int) < (L.length : Int) := by rw [hlen]; simp; omega
        obtain ⟨s, m⟩ := t
        have hget : L[kk]? = some (s, m) := by rw [hLq, ← hq]; simp
        obtain ⟨c0, c1⟩ := hCr.toks kk s m hget
        have hgl := World.block_lt_of_cell? wr _ c0
        have ee : (s.toList == [101, 110, 100]) = false := hSt.noend
        obtain ⟨hA, hA2⟩ := hCr.adv (.cells #[.string s, .int .i64 m] 50)
        have ho2 := (hown.kept (grown_set (p := p) (j := 0) (.int .i64 ((kk : Int) + 1))) (.inr fun e => by have := (hown.lt p e).1; omega)).alloc (.cells #[.string s, .int .i64 m] 50)
        have HA := Lib.hid (And.intro hA (And.intro hA2 ho2))
        cases hr : isRep (s, m)
        · have er : (s.toList == [114, 101, 112, 101, 97, 116]) = false := hr
          have hS2 := hSt.push hr
          clear hCr hown hown0 hSt hg0 hLq hget hA hA2 ho2
          have hSs : s.size ≤ 281474976710656 := HI.out.2.1 (s, m) (by rw [HC.out.2.2.2.2]; simp)
          have hfl := HC.out.2.2.1.len
          have HS2 := Lib.hid hS2
          clear hS2 hr
          go_wp2_with (first
            | (go_at_call 104; (with_reducible refine (clone_impl _ _ _ hSs).mono ?_); rintro e w2 ⟨rfl, hb⟩; have ho3 := owns_below HA.out.2.2 hb; have hg3 := (HC.out.2.2.2.1.trans HA.out.2.1).trans (grown_below (row := some p) hb); have hp3 := (hb.block p HA.out.1.lt).trans HA.out.1.pos; have hws := hg3.size; have hps := Nat.lt_of_lt_of_le hpW hws; have H3 := Lib.hid (And.intro ho3 (And.intro hg3 hp3)); clear ho3 hg3 hp3 hb)
            | (at_builtin; refine wpList_append_own _ rfl _ _ 59 rfl W.heap.size 50 i0 (.agg #[.string ⟨#[]⟩, .int .i64 0]) 2 24 Tryz.underlying59 hi0 hz0 hz1 hz2 rfl (by decide) _ _ _ rfl (H3.out.1.alloc _) ⟨w2.heap.size, 0, none⟩ 1 1 [.string s, .int .i64 m] rfl rfl (World.news_of_block (cs := #[.string s, .int .i64 m]) (t := 50) (fr := (0, 0)) (heap_alloc_new w2 _)) (by simp [Value.oneCell']) (by unfold maxLen; omega) (by omega) (by simp; omega) ?_; intro v5 w5 ho5 hgrow _))
          all_goals
            have hg5 := grown_own (H3.out.2.1.trans (World.grownBy_alloc _ _ _)) hgrow (fun q hq => (HC.out.2.1.lt q hq).1)
            have hp5 := (hgrow.block p (by simp; omega) (fun e => by have := (HC.out.2.1.lt p e.symm).1; omega)).trans ((heap_alloc_old _ _ hps).trans H3.out.2.2)
            have ho6 : w5.ownsRow W.heap.size 50 2 v5 (flat ++ [(s, m)]).length (cellsL (flat ++ [(s, m)])) := by rw [cellsL_append, List.length_append]; exact ho5
            have H5 := Lib.hid (And.intro ho6 (And.intro hg5 hp5))
            clear ho5 hgrow hg5 hp5 ho6
            go_wp2
            go_roundw
            case rel => exact ⟨q ++ [(s, m)], r, flat ++ [(s, m)], kk + 1, by rw [HC.out.2.2.2.2]; simp, by simp [hq], by simp at hks; omega, by omega, HS2.out, H0.out.1.step H5.out.2.1 H5.out.2.2, H5.out.2.1, H5.out.1⟩
            case measure => rw [plc_is H5.out.2.2, plc_is HC.out.1.pos]; omega
        · have er : (s.toList == [114, 101, 112, 101, 97, 116]) = true := hr
          obtain ⟨fp, b', fb, r2, c, e, d1, n, rfl, rfl, hcn, hn9, hE, F1, hd1, hS3⟩ := hSt.rep hr
          obtain ⟨G, cp, rfl, hGW, hGl⟩ := hown.form (by simp)
          have cN : wr.cell? ⟨G, fp.length * 2 + 1, none⟩ = some (.int .i64 (n : Int)) := by
            rw [hown.cellAt _ (by simp; omega), last_num, hcn]
          have hcut := owns_cut ho2 (k := fp.length) (by simp)
          rw [cells_take] at hcut
          have hcp : (fp.length : Int) + 1 ≤ (cp : Int) := by
            rcases hown.2 with ⟨h', _⟩ | ⟨g', cap', cur, h', _, _, h5, _⟩
            · simp at h'
            · simp only [Value.slice.injEq, Option.some.injEq, Addr.mk.injEq, and_true, true_and] at h'
              obtain ⟨rfl, rfl⟩ := h'
              simp at h5; omega
          have hcp2 : (fp.length : Int) ≤ (cp : Int) := by omega
          have hGp : ¬ (p = G) := by omega
          have cF := hCr.fn
          have hbfp : ¬ (p = bf) := fun e => hCr.nbf e.symm
          have hbfl := World.block_lt_of_cell? wr _ cF
          have hb60 : b'.length ≤ 60 := by simp at hlen; omega
          have hfb2 := fl_bound F1 hb60 hd1
          have hS3l := hS3.len
          rw [List.length_append, rpt_len] at hS3l
          have hWs := hg0.size
          have l0 : (0 : Int) ≤ (fp.length : Int) := by omega
          have l1 : (fp.length : Int) < (fp.length : Int) + 1 := by omega
          have HQ := Lib.hid (And.intro hcut (And.intro F1 (And.intro hS3 hE)))
          have hbN : b'.length < b.length := by simp at hks; omega
          have hLq2 := Lib.hid (show L = (q ++ [(s, m)]) ++ (b' ++ (e :: r2 ++ tail)) by rw [hLq]; simp)
          clear hCr hown hown0 hSt hg0 hLq hget hA hA2 ho2 hcut F1 hS3 hE hr
          go_wp2
          go_region_law (first
            | (refine step_append_any rfl (.tmp 40) (.tmp 44) _ rfl W.heap.size 50 i0 (.agg #[.string ⟨#[]⟩, .int .i64 0]) 2 24 Tryz.underlying59 hi0 hz0 hz1 hz2 rfl (by decide) (.slice (some ⟨G, 0, none⟩) fp.length cp) fp.length (cellsL fp) (by simp [Act.eval, Act.put]) H6.out.1 ⟨g6, 0, none⟩ (n * fb.length) cp6 (cellsL (rpt n fb)) (by simp [Act.eval, Act.put]) (rep_len n fb) (H6.out.2.1.cells rfl) (cellsL_one _) (by unfold maxLen; omega) (by omega) (by omega) ?_; intro v7 w7 ho7 hgrow)
            | (go_simp; first
              | (go_at_call 102; (with_reducible refine (HI.out.1 b'.length hbN b' fb d1 rfl HQ.out.2.1 hd1 L (q ++ [(s, m)]) (e :: r2 ++ tail) hLq2.out h60 (.inr ⟨e, r2 ++ tail, rfl, HQ.out.2.2.2⟩) HI.out.2.1 _ p bl bf g o cap (kk + 1) (by simp [hq]) HA.out.1.drew).mono ?_); rintro e5 w5 ⟨u5, rfl, ho5, hp5, hg5⟩; have hc5 := HQ.out.1.drew.kept hg5 (.inr (by simp [Value.ownBlock]; omega)); have H5 := Lib.hid (And.intro ho5 (And.intro hp5 (And.intro hg5 hc5))); clear ho5 hp5 hg5 hc5)
              | (go_at_call 103; (with_reducible refine (repeat_impl _ _ _ fb n hn9 hfb2 H5.out.1).mono ?_); rintro e6 w6 ⟨g6, cp6, rfl, ho6, hb6⟩; have H6 := Lib.hid (And.intro (owns_below H5.out.2.2.2 hb6) (And.intro ho6 hb6)); have hws6 : W.heap.size ≤ w6.heap.size := Nat.le_trans (Nat.le_trans hWs (Nat.le_trans HA.out.2.1.size H5.out.2.2.1.size)) hb6.size; clear ho6 hb6)))
          all_goals
            have hg6 := ((grown_drew (HC.out.2.2.2.1.trans HA.out.2.1)).trans H5.out.2.2.1).trans (grown_below (row := some p) H6.out.2.2)
            have hp6 := (H6.out.2.2.block p (Nat.lt_of_lt_of_le (show p < _ from HA.out.1.lt) H5.out.2.2.1.size)).trans H5.out.2.1
            have hg7 := grown_own hg6 hgrow (fun q hq => by simp [Value.ownBlock] at hq; omega)
            have hp7 : w7.heap[p]? = some (.cells #[.int .i64 ((kk + 1 + b'.length + 1 : Nat) : Int)] 3 (0, 0)) := (hgrow.block p (by omega) (by simp [Value.ownBlock]; omega)).trans hp6
            have ho8 : w7.ownsRow W.heap.size 50 2 v7 (fp ++ rpt n fb).length (cellsL (fp ++ rpt n fb)) := by rw [cellsL_append, List.length_append, rpt_len]; exact ho7
            have H7 := Lib.hid (And.intro ho8 (And.intro hg7 hp7))
            clear ho7 hgrow hg6 hp6 hg7 hp7 ho8
            simp [Act.put]
            go_wp2
            go_roundw
            case rel => exact ⟨(q ++ [(s, m)]) ++ (b' ++ [e]), r2, fp ++ rpt n fb, kk + 1 + b'.length + 1, by rw [hLq2.out]; simp, by simp [hq]; omega, by simp at hks; omega, by omega, HQ.out.2.2.1, H0.out.1.step H7.out.2.1 H7.out.2.2, H7.out.2.1, H7.out.1⟩
            case measure => rw [plc_is H7.out.2.2, plc_is HC.out.1.pos]; omega
theorem clo_nil (W : World) (p bl bf cap : Nat) (ao : Option Addr) (h1 : W.heap[p]? = some (.cells #[.int .i64 0] 3 (0, 0))) (h2 : W.cell? ⟨bl, 0, none⟩ = some (.slice ao 0 cap)) :
    Calls Tryz.prog 102 #[.pointer (some ⟨p, 0, none⟩), .pointer (some ⟨bl, 0, none⟩), .pointer (some ⟨bf, 0, none⟩)] W fun e W' => e = .returned (.slice none 0 0) ∧ W' = W := by
  have cP : W.cell? ⟨p, 0, none⟩ = some (.int .i64 0) := by rw [cell_of_row _ _ _ _ _ _ h1]; simp
  clear h1
  go_enter Tryz.func102, Tryz.ntmps102
  go_wp2
  go_rounds 1
  go_ret
  exact ⟨rfl, rfl⟩
set_option maxHeartbeats 2000000 in
theorem fb_impl (w : World) (v : Value) (L : List Tok) (hn : L.length ≤ 1048576) (hS : ∀ t ∈ L, t.1.size ≤ 281474976710656) (h : Rdt w v L) (A : List Tok) (B : Bool) (hA : FbIs L A B) : Calls Tryz.prog 51 #[v] w (FbLeft A B w) := by
  rcases hA with ⟨h0, f, d, F, hd, h60, rfl, rfl⟩ | ⟨h0, rfl, rfl⟩
  · have HL : ∀ W : World, Below w.heap.size w W → Calls Tryz.prog 101 #[v] W fun e w' => e = .returned (.int .i64 (f.length : Int)) ∧ Below W.heap.size W w' := fun W hW => len_impl W v L hn hS (h.on hW) _ (.inl ⟨h0, f, d, F, hd, h60, rfl⟩)
    have HLen := Lib.hid HL
    have HR := Lib.hid h
    have HF := Lib.hid (And.intro F hS)
    have hfb := fl_bound F h60 hd
    obtain ⟨a, cap, rfl, hc, _⟩ := h
    clear F HL hS
    by_cases h200 : f.length ≤ 200
    · have n1 : decide ((f.length : Int) < 0) = false := by simp
      have n2 : decide ((200 : Int) < (f.length : Int)) = false := by simp; omega
      rw [if_pos h200, show decide (f.length ≤ 200) = true by simpa using h200]
      go_enter Tryz.func51, Tryz.ntmps51
      go_wp2_with (go_at_call 101; (with_reducible refine (HLen.out _ ((Below.refl _ _).alloc (Nat.le_refl _) _)).mono ?_); rintro e w1 ⟨rfl, hb⟩; have c0 := (bcell hb).1 w.heap.size 0 (by simp); simp only [World.cell?_alloc_new] at c0)
      have hB1 : Below w.heap.size w w1 := on_of ((Below.refl _ _).alloc (Nat.le_refl _) _) hb
      have hs1 := hb.size
      simp at hs1
      obtain ⟨fv, hfv⟩ : ∃ fv, fv = Value.func (.func 102) #[] #[.pointer (some ⟨w1.heap.size, 0, none⟩), .pointer (some ⟨w.heap.size, 0, none⟩), .pointer (some ⟨w1.heap.size + 1, 0, none⟩)] := ⟨_, rfl⟩
      rw [← hfv]
      have hB3 : Below w.heap.size w ((w1.alloc (.cells #[.int .i64 0] 3)).alloc (.cells #[fv] 141)) := (hB1.alloc hB1.size _).alloc (by have := hB1.size; simp; omega) _
      have hp3 : ((w1.alloc (.cells #[.int .i64 0] 3)).alloc (.cells #[fv] 141)).heap[w1.heap.size]? = some (.cells #[.int .i64 0] 3 (0, 0)) := (heap_alloc_old _ _ (by simp)).trans (heap_alloc_new w1 _)
      have hl3 : ((w1.alloc (.cells #[.int .i64 0] 3)).alloc (.cells #[fv] 141)).cell? ⟨w.heap.size, 0, none⟩ = some (.slice a L.length cap) := by
        rw [World.cell?_alloc_lt _ _ _ (by simp; omega), World.cell?_alloc_lt _ _ _ (by simp; omega)]
        exact c0
      have hf3 : ((w1.alloc (.cells #[.int .i64 0] 3)).alloc (.cells #[fv] 141)).cell? ⟨w1.heap.size + 1, 0, none⟩ = some fv := by simp [go_sem]
      have hs3 : w.heap.size < ((w1.alloc (.cells #[.int .i64 0] 3)).alloc (.cells #[fv] 141)).heap.size := by simp; omega
      generalize ((w1.alloc (.cells #[.int .i64 0] 3)).alloc (.cells #[fv] 141)) = W3 at *
      subst hfv
      have hLc : L = [] ∨ L ≠ [] := by cases L; exact .inl rfl; exact .inr (by simp)
      rcases hLc with rfl | hL
      · have hf : f = [] := by have := HF.out.1; cases this; rfl
        subst hf
        have HW := Lib.hid (And.intro hp3 (And.intro hl3 hB3))
        clear hp3 hl3 hf3 hB3 hb c0 hs1
        refine (clo_nil W3 _ _ _ cap a HW.out.1 HW.out.2.1).mono ?_
        rintro e w' ⟨rfl, rfl⟩
        go_wp2
        refine bodyPost_ret (by simp [results, Tryz.results51, go_sem, *]; try rfl) rfl ?_
        exact ⟨_, rfl, World.ownsRow_nil _ _ _ _, HW.out.2.2⟩
      · obtain ⟨a', cap', hv, hcap, hh⟩ := HR.out
        rcases hh with hh | ⟨g, o, ha, hg, hcs⟩
        · exact absurd hh hL
        injection hv with hv1 hv2 hv3
        subst hv1; subst hv3; subst ha
        have hC : Clo W3 w1.heap.size w.heap.size (w1.heap.size + 1) g o cap L 0 := ⟨hp3, hl3, hf3, by omega, by omega, by omega, fun i s m hi => ⟨(hB3.cell (p := ⟨g, _, none⟩) hg).trans (hcs i s m hi).1, (hB3.cell (p := ⟨g, _, none⟩) hg).trans (hcs i s m hi).2⟩⟩
        have HW := Lib.hid (And.intro hC hB3)
        have HX := Lib.hid hs3
        clear hp3 hl3 hf3 hB3 hb c0 hC hcs hs3
        refine (clo_impl L.length L f d rfl HF.out.1 hd L [] [] (by simp) h60 (.inl rfl) HF.out.2 W3 _ _ _ g o cap 0 rfl HW.out.1).mono ?_
        rintro e w' ⟨u, rfl, ho, _, hgr⟩
        have HY := Lib.hid (And.intro (World.ownsRow.mono ho HW.out.2.size) (HW.out.2.grown hgr HW.out.2.size (fun q hq => by simp at hq; omega)))
        clear ho hgr
        go_wp2
        refine bodyPost_ret (by simp [results, Tryz.results51, go_sem, *]; try rfl) rfl ?_
        exact ⟨_, rfl, HY.out.1, HY.out.2⟩
    · have n1 : decide ((f.length : Int) < 0) = false := by simp
      have n2 : decide ((200 : Int) < (f.length : Int)) = true := by simp; omega
      rw [if_neg h200, show decide (f.length ≤ 200) = false by simpa using h200]
      go_enter Tryz.func51, Tryz.ntmps51
      go_wp2_with (go_at_call 101; (with_reducible refine (HLen.out _ ((Below.refl _ _).alloc (Nat.le_refl _) _)).mono ?_); rintro e w1 ⟨rfl, hb⟩)
      have hB1 : Below w.heap.size w w1 := on_of ((Below.refl _ _).alloc (Nat.le_refl _) _) hb
      refine bodyPost_ret (by simp [results, Tryz.results51, go_sem, *]; try rfl) rfl ?_
      exact ⟨_, rfl, World.ownsRow_nil _ _ _ _, hB1⟩
  · have HL : ∀ W : World, Below w.heap.size w W → Calls Tryz.prog 101 #[v] W fun e w' => e = .returned (.int .i64 (-1)) ∧ Below W.heap.size W w' := fun W hW => len_impl W v L hn hS (h.on hW) _ (.inr ⟨h0, rfl⟩)
    have HLen := Lib.hid HL
    clear HL hS
    obtain ⟨a, cap, rfl, hc, _⟩ := h
    go_enter Tryz.func51, Tryz.ntmps51
    go_wp2_with (go_at_call 101; (with_reducible refine (HLen.out _ ((Below.refl _ _).alloc (Nat.le_refl _) _)).mono ?_); rintro e w1 ⟨rfl, hb⟩)
    have hB1 : Below w.heap.size w w1 := on_of ((Below.refl _ _).alloc (Nat.le_refl _) _) hb
    refine bodyPost_ret (by simp [results, Tryz.results51, go_sem, *]; try rfl) rfl ?_
    exact ⟨_, rfl, World.ownsRow_nil _ _ _ _, hB1⟩
end Go.Proofs.YtjmfgbbngocodaaGreat.Impl

