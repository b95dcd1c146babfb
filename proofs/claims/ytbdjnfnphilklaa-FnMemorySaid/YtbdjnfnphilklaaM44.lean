/-
  Texts of this seat, laid together: Dl13, Mw13, Mx13
-/
import Derived.Test.YtbdjnfnphilklaaM40
import Derived.Test.YtbdjnfnphilklaaM42
import Derived.Test.YtbdjnfnphilklaaM43
namespace Go.Proofs.Ytbdjnfnphilklaa.Own
open Go.ChangeShapes Go.WideShapes Go.ChangeAt Go.RowKit
open Kit Slabs Ints Draw Point
open Go.Proofs.Ytbdjnfnphilklaa.Ins (gen_any9 ObDrawn object_on drawn_below blk_drawn below_grown)
set_option linter.unusedVariables false
set_option linter.unusedSimpArgs false
set_option linter.unnecessarySimpa false
set_option maxRecDepth 100000
theorem drawn_ok {l : List Ins.Pt} {g x0 y0 x1 y1 : Int} (h3 : 3 ≤ l.length) (h6 : l.length ≤ 6) (hS : Ins.Shp l) (hg : 0 ≤ g ∧ g ≤ 255) (hX : Draw.BoxIn x0 y0 x1 y1) : Ins.obK l g x0 y0 x1 y1 = true := by
  have h1 := Ins.shp_ok hS (by omega)
  unfold Draw.BoxIn at hX
  simp [Ins.obK, h1, h3, grayB, bokB, inB]; omega
theorem ObsRow.push {w : World} {B : Nat} {a : Option Addr} {c : Nat} {l : List Ob} {F : List Nat} (h : ObsRow w B a c l F) : ∃ P, w.ownsRow B 40 6 (.slice a l.length c) l.length P ∧ ∀ (w1 w' : World) (a' : Option Addr) (c' : Nat) (us : List Value) (o : Ob) (f : List Nat),
    Below w.heap.size w w1 → OwnL w1 LObject us o.dt f → f.Nodup → (∀ b ∈ f, B ≤ b ∧ b < w.heap.size) → (∀ b ∈ f, b ∉ F) → B ≤ w.heap.size → w'.ownsRow B 40 6 (.slice a' (l.length + 1) c') (l.length + 1) (P ++ us) → w1.grownBy w' (Value.ownBlock (.slice a l.length c)) → (∀ b ∈ rowL (.slice a' (l.length + 1) c'), b ∈ rowL (.slice a l.length c) ∨ w1.heap.size ≤ b) →
    ∃ F', ObsRow w' B a' c' (l ++ [o]) F' ∧ Turns w w' (fun b => b ∈ F) := by
  obtain ⟨P, f0, r, o0, rfl, hn, hB⟩ := h
  obtain ⟨n1, n2, d⟩ := nodup_parts hn
  refine ⟨P, r, fun w1 w' a' c' us o f hb ho hf hge hap hBw hown hg hnew => ?_⟩
  have hlt := rowL_ge r
  have ht := Turns.of_grown hg
  have hl : (l ++ [o]).length = l.length + 1 := by simp
  have hOw : OwnL w' (List.replicate (l.length + 1) KObject) (P ++ us) (dO (l ++ [o])) (f0 ++ f) := by
    rw [List.replicate_succ', show dO (l ++ [o]) = dO l ++ [.st o.dt] by simp [dO]]
    refine OwnL.snoc ((o0.under hb).turned ht (fun b hb2 e => d b (by simp [rowL, e]) hb2)) (.st (ho.turned ht (fun b hb2 e => hap b hb2 (List.mem_append_left _ (by simp [rowL, e])))))
  have dd : ∀ b ∈ rowL (.slice a' (l.length + 1) c'), b ∉ f0 ++ f := fun b hm hx => by
    rcases hnew b hm with h | h
    · rcases List.mem_append.1 hx with k | k
      · exact d b h k
      · exact hap b k (List.mem_append_left _ h)
    · rcases List.mem_append.1 hx with k | k
      · have := o0.lt b k; have := hb.size; omega
      · have := ho.lt b k; omega
  refine ⟨rowL (.slice a' (l.length + 1) c') ++ (f0 ++ f), ⟨P ++ us, f0 ++ f, by rw [hl]; exact hown, by rw [hl]; exact hOw, by rw [hl], app_nodup (rowL_nodup _) (app_nodup n2 hf (fun x hx hy => hap x hy (List.mem_append_right _ hx))) dd, ?_⟩, ?_⟩
  · intro b hm
    rcases List.mem_append.1 hm with h | h
    · exact (rowL_ge hown b h).1
    · rcases List.mem_append.1 h with h | h
      · exact hB b (List.mem_append_right _ h)
      · exact (hge b h).1
  · exact (Turns.of_below hb).trans (ht.mono (fun k hk => List.mem_append_left _ (by simp [rowL, hk])))
theorem obsrow_drawn {W w0 w : World} {a : Option Addr} {len cap : Nat} {z : List Int} {b B : Nat} {oa : Option Addr} {oc : Nat} {l : List Ob} {F : List Nat} (h : ObsRow w0 B oa oc l F) (d : Drawn W a len cap z b w0 w) (hb : b < B) : ObsRow w B oa oc l F :=
  h.stays d.2.size (fun x hx => d.2.block x (h.lt x hx) (fun e => by injection e with e; have := h.ge x hx; omega))
structure DlS (W : World) (a : Option Addr) (len cap : Nat) (z : List Int) (cb : Nat) (w0 : World) (n0 : Nat) (V : World) (l : List Ob) (oa : Option Addr) (oc : Nat) (F : List Nat) : Prop where
  O : ObsRow V n0 oa oc l F
  D : Drawn W a len cap z cb w0 V
  ok : l.all okO = true
  sm : ∀ o ∈ l, o.path.length ≤ 6
  c0 : cb < n0
  zw : w0.heap.size ≤ n0
  zW : W.heap.size ≤ n0
  zV : n0 ≤ V.heap.size
theorem obs_made (w : World) {B : Nat} (h : B ≤ w.heap.size) : ObsRow (w.alloc (.cells #[] 40)) B (some ⟨w.heap.size, 0, none⟩) 0 [] [w.heap.size] :=
  ⟨[], [], World.ownsRow_made w #[] (e := 40) (size := 6) 0 h (by decide) (by simp), .nil, rfl, by simp, fun x hx => by rw [List.mem_singleton.1 hx]; exact h⟩
set_option maxHeartbeats 8000000 in
theorem list_on (W w0 w : World) (cb : Nat) (a : Option Addr) (len cap : Nat) (z : List Int) (d : Drawn W a len cap z cb w0 w) :
    Calls Try.prog 27 #[.pointer (some ⟨cb, 0, none⟩)] w fun e w' => ∃ (l : List Ob) (oa : Option Addr) (oc : Nat) (F : List Nat), e = .returned (.slice oa l.length oc) ∧ l.length ≤ 6 ∧ DlS W a len cap z cb w0 w.heap.size w' l oa oc F := by
  have hbl := d.1.here
  have hWz : W.heap.size ≤ w.heap.size := Nat.le_trans d.1.far (Nat.le_of_lt d.1.here)
  have hz0 := d.2.size
  have HS := Lib.hid (show DlS W a len cap z cb w0 w.heap.size (w.alloc (.cells #[] 40)) [] (some ⟨w.heap.size, 0, none⟩) 0 [w.heap.size] from ⟨obs_made w (Nat.le_refl _), d.alloc _, rfl, by simp, hbl, hz0, hWz, by simp⟩)
  clear d hbl hWz hz0
  go_enter Try.func27, Try.ntmps27
  go_wp2_with fail
  ((refine (below_on W _ _ cb a len cap z 6 HS.out.D.1.same).mono ?_); rintro e w1 ⟨r2, hr2, rfl, d5⟩)
  obtain ⟨cnt, rfl⟩ : ∃ cnt : Nat, r2 = (cnt : Int) := ⟨r2.toNat, by have := hr2.1; omega⟩
  have hc14 : cnt ≤ 6 := by have := hr2.2.1 (by omega); omega
  have HS1 := Lib.hid (show DlS W a len cap z cb w0 w.heap.size w1 [] (some ⟨w.heap.size, 0, none⟩) 0 [w.heap.size] from ⟨obsrow_drawn HS.out.O d5 HS.out.c0, HS.out.D.trans d5, rfl, by simp, HS.out.c0, HS.out.zw, HS.out.zW, Nat.le_trans HS.out.zV d5.2.size⟩)
  clear hr2 d5 HS
  go_wp2
  go_loopw [3, 5] (fun v3 v wr => ∃ (k : Nat) (l : List Ob) (oa : Option Addr) (oc : Nat) (F : List Nat), k ≤ cnt ∧ v = .int .i64 (k : Int) ∧ v3 = .slice oa k oc ∧ Hid (l.length = k ∧ DlS W a len cap z cb w0 w.heap.size wr l oa oc F)) (fun v3 v _ => cnt - (intOf v).toNat)
  case atStart => exact ⟨0, [], _, _, _, Nat.zero_le _, rfl, rfl, Lib.hid ⟨rfl, HS1.out⟩⟩
  case round =>
    obtain ⟨k, l, oa, oc, F, hk, rfl, rfl, hS⟩ := hrel
    by_cases hlt : k < cnt
    · have i1 : (k : Int) < (cnt : Int) := by omega
      go_wp2_with fail
      ((refine (object_on W _ _ cb a len cap z hS.out.2.D.1.same).mono ?_); rintro e w5 ⟨va, vc, lp, g, x0, y0, x1, y1, rfl, h3, h6, hSh, hg, hX, hrow, d5⟩)
      obtain ⟨o, ho⟩ : ∃ o : Ob, o = ⟨lp, g, x0, y0, x1, y1⟩ := ⟨_, rfl⟩
      have hok : okO o = true := by rw [ho]; exact drawn_ok h3 h6 hSh hg hX
      have hp6 : o.path.length ≤ 6 := by rw [ho]; exact h6
      obtain ⟨f5, hE, nf5, gf5⟩ := Ins.obj_close (o := ⟨lp, g, x0, y0, x1, y1⟩) hrow
      have hE2 : OwnL w5 LObject [.slice va lp.length vc, .int .i64 g, .int .i64 x0, .int .i64 y0, .int .i64 x1, .int .i64 y1] o.dt f5 := by rw [ho]; exact hE
      have hO5 := obsrow_drawn hS.out.2.O d5 hS.out.2.c0
      have hz5 := d5.2.size
      obtain ⟨P, hP, hpush⟩ := hO5.push
      have hap : ∀ x ∈ f5, x ∉ F := fun x hx hm => by have := gf5 x hx; have := hS.out.2.O.lt x hm; omega
      have hfl := hE2.lt
      rw [hS.out.1] at hP hpush
      have hb6 : Below w5.heap.size w5 ((w5.alloc (.cells #[.slice va lp.length vc, .int .i64 g, .int .i64 x0, .int .i64 y0, .int .i64 x1, .int .i64 y1] 40)).alloc (.cells #[.slice va lp.length vc, .int .i64 g, .int .i64 x0, .int .i64 y0, .int .i64 x1, .int .i64 y1] 40)) := by go_grown
      have HR := Lib.hid (And.intro (row_on hP hb6) hpush)
      have HE := Lib.hid (And.intro (hE2.under hb6) (And.intro nf5 (And.intro (show ∀ x ∈ f5, w.heap.size ≤ x ∧ x < w5.heap.size from fun x hx => ⟨by have := gf5 x hx; have := hS.out.2.zV; omega, hfl x hx⟩) (And.intro hap (And.intro hb6 (And.intro d5 (And.intro hok hp6)))))))
      have hgs : w.heap.size ≤ w5.heap.size := by have := hS.out.2.zV; omega
      have hkn : k ≤ 6 := by omega
      have HO := Lib.hid ho
      clear hE hE2 hO5 hP hpush hap hfl hb6 nf5 gf5 hrow d5 hSh hX hg h3 h6 hok hp6 ho
      go_wp2_with (at_builtin; refine wpList_append_sl _ et_obs rfl _ _ rfl w.heap.size oa k oc P rfl HR.out.1 (some ⟨w5.heap.size + 1, 0, none⟩) 1 1 [.slice va lp.length vc, .int .i64 g, .int .i64 x0, .int .i64 y0, .int .i64 x1, .int .i64 y1] rfl rfl (Lies.new _ #[.slice va lp.length vc, .int .i64 g, .int .i64 x0, .int .i64 y0, .int .i64 x1, .int .i64 y1] 40 (by simp)) (fun u hu => HE.out.1.one u hu) ?c3 ?c4 ?c5 ?_)
      case c3 => unfold maxLen; omega
      case c4 => omega
      case c5 => simp; omega
      intro a2 c2 w2 hown hgrow hnew
      obtain ⟨F9, hF9, hT9⟩ := HR.out.2 _ w2 a2 c2 _ o f5 HE.out.2.2.2.2.1 HE.out.1 HE.out.2.1 HE.out.2.2.1 HE.out.2.2.2.1 hgs hown hgrow (fun b hb => by simpa using hnew b hb)
      have hD9 : Drawn W a len cap z cb w0 w2 := by
        have hd := (drawn_below (hS.out.2.D.trans HE.out.2.2.2.2.2.1) HE.out.2.2.2.2.1)
        refine hd.grown hgrow (fun kk e => ?_)
        have hm := (rowL_ge (HR.out.1) kk (by simp [rowL, e])).1
        have := hS.out.2.zw
        have := hS.out.2.zW
        have := hS.out.2.c0
        exact ⟨by omega, by omega, by omega⟩
      have HV := Lib.hid (show (l ++ [o]).length = k + 1 ∧ DlS W a len cap z cb w0 w.heap.size w2 (l ++ [o]) a2 c2 F9 from ⟨by rw [List.length_append, hS.out.1]; rfl, hF9, hD9, by rw [List.all_append, hS.out.2.ok]; simp [HE.out.2.2.2.2.2.2.1], fun x hx => by
        rcases List.mem_append.1 hx with e | e
        · exact hS.out.2.sm x e
        · rw [List.mem_singleton.1 e]; exact HE.out.2.2.2.2.2.2.2, hS.out.2.c0, hS.out.2.zw, hS.out.2.zW, by have := HE.out.2.2.2.2.1.size; have := hgrow.size; omega⟩)
      clear hown hgrow hnew hF9 hT9 hD9
      go_wp2
      go_roundw
      case rel => exact ⟨k + 1, l ++ [o], a2, c2, F9, by omega, by go_num, rfl, HV⟩
      case measure => simp [intOf]; omega
    · obtain rfl : k = cnt := by omega
      go_wp2
      go_ret
      exact ⟨l, oa, oc, F, by rw [hS.out.1]; rfl, by rw [hS.out.1]; exact hc14, hS.out.2⟩
theorem drawlist_any (w : World) (a : Option Addr) (len cap : Nat) (z : List Int) (hr : IsRow .u8 w a len cap z) :
    Calls Try.prog 8 #[.slice a len cap] w fun e w' => ∃ (l : List Ob) (oa : Option Addr) (oc : Nat) (F : List Nat), e = .returned (.slice oa l.length oc) ∧ l.length ≤ 6 ∧ l.all okO = true ∧ (∀ o ∈ l, o.path.length ≤ 6) ∧ ObsRow w' w.heap.size oa oc l F ∧ Below w.heap.size w w' := by
  have HR := Lib.hid hr
  clear hr
  go_enter Try.func8, Try.ntmps8
  go_wp2_with fail
  (refine (new_any _ _ _ _ z HR.out).mono ?_; rintro e w1 ⟨rfl, dr⟩)
  have HD := Lib.hid (And.intro dr.same dr.below)
  clear dr
  go_wp2_with fail
  ((with_reducible refine (list_on _ _ _ _ a len cap z HD.out.1).mono ?_); rintro e w2 ⟨l, oa, oc, F, rfl, hl, hS⟩)
  have hs := HD.out.2.size
  have HX := Lib.hid (show ObsRow w2 w.heap.size oa oc l F ∧ Below w.heap.size w w2 from ⟨hS.O.base hs, hS.D.1.below⟩)
  have HO := Lib.hid (And.intro hS.ok hS.sm)
  clear hS
  go_wp2
  go_ret
  exact ⟨l, oa, oc, F, rfl, hl, HO.out.1, HO.out.2, HX.out.1, HX.out.2⟩
/-! ### A list laid behind itself -/
theorem wpList_append_slw {P : Program} {t e : TypeId} {k bytes : Nat} (w : World) {ops : Array Oper} {rest : List Oper} {o : Oper} {a : Act} {Q : Exit → Act → World → Prop} (hT : ElemT P t e k bytes) (hw : Region.wanted o (yielded ops a.tmps) = true) (s x : Operand)
    (ho : o.op = .call { callee := .builtin .append, args := #[s, x], argTypes := #[t, t] }) (base : Nat)
    (a1 : Option Addr) (n c1 : Nat) (xs : List Value) (hs : a.eval s = .slice a1 n c1) (hown : w.ownsRow base e k (.slice a1 n c1) n xs)
    (ax : Option Addr) (m c : Nat) (news : List Value) (hxe : a.eval x = .slice ax m c) (hl : news.length = m * k) (hx : Lies w ax news) (h1 : ∀ u ∈ news, u.oneCell' = true)
    (h63 : n + m ≤ maxLen) (hbytes : (n + m) * bytes ≤ 140737488355328) (hbase : base ≤ w.heap.size)
    (h : ∀ a' c' w', w'.ownsRow base e k (.slice a' (n + m) c') (n + m) (xs ++ news) → w.grownBy w' (Value.ownBlock (.slice a1 n c1)) → (∀ b ∈ rowL (.slice a' (n + m) c'), b ∈ rowL (.slice a1 n c1) ∨ w.heap.size ≤ b) → wpList P ops Q rest (a.put o.dst (.slice a' (n + m) c')) w') : wpList P ops Q (o :: rest) a w :=
  wpList_step fun K hK => by
    rw [if_pos hw]
    exact wp_append_sl w hT s x ho base a1 n c1 xs hs hown ax m c news hxe hl hx h1 h63 hbytes hbase fun a' c' w' h2 h3 h4 => hK _ _ (h a' c' w' h2 h3 h4)
def SegOk (w : World) (Q : List Value) (l : List Ob) : Prop := ∀ i, i < l.length → ∃ pa pc, (∀ j u, (sixo (l.getD i ob0) pa pc)[j]? = some u → Q[i * 6 + j]? = some u) ∧ Ins.PathAt w pa (l.getD i ob0).path ∧ (l.getD i ob0).path.length ≤ 1048576
theorem SegOk.on {w w' : World} {Q : List Value} {l : List Ob} (h : SegOk w Q l) (hb : Below w.heap.size w w') : SegOk w' Q l := fun i hi => by
  obtain ⟨pa, pc, h1, h2, h3⟩ := h i hi
  exact ⟨pa, pc, h1, h2.on hb, h3⟩
theorem SegOk.nil (w : World) : SegOk w [] [] := fun i hi => absurd hi (by simp)
theorem SegOk.app {w : World} {Q Q' : List Value} {l l' : List Ob} (h : SegOk w Q l) (hl : Q.length = l.length * 6) (h' : SegOk w Q' l') : SegOk w (Q ++ Q') (l ++ l') := fun i hi => by
  by_cases hlt : i < l.length
  · obtain ⟨pa, pc, h1, h2, h3⟩ := h i hlt
    have e : (l ++ l').getD i ob0 = l.getD i ob0 := by simp [List.getD, List.getElem?_append_left hlt]
    rw [e]
    refine ⟨pa, pc, fun j u hu => ?_, h2, h3⟩
    have h4 := h1 j u hu
    have h5 := (List.getElem?_eq_some_iff.1 h4).1
    rw [List.getElem?_append_left h5]; exact h4
  · rw [List.length_append] at hi
    obtain ⟨pa, pc, h1, h2, h3⟩ := h' (i - l.length) (by omega)
    have e : (l ++ l').getD i ob0 = l'.getD (i - l.length) ob0 := by simp [List.getD, List.getElem?_append_right (Nat.le_of_not_lt hlt)]
    rw [e]
    refine ⟨pa, pc, fun j u hu => ?_, h2, h3⟩
    have h4 := h1 j u hu
    rw [List.getElem?_append_right (by omega), show i * 6 + j - Q.length = (i - l.length) * 6 + j by rw [hl, Nat.sub_mul]; omega]
    exact h4
theorem seg_of {w : World} {l : List Ob} {P : List Value} {fq : List Nat} (h : OwnL w (List.replicate l.length KObject) P (dO l) fq) (hs : ∀ o ∈ l, o.path.length ≤ 6) : SegOk w P l := fun i hi => by
  have hke : i < (dO l).length := by rw [len_dO]; exact hi
  obtain ⟨A, cs, D, ds, f', hP, lA, lc, he, oc, _⟩ := pick_rep h hke
  have e3 : (dO l)[i] = .st (l.getD i ob0).dt := by simp [dO, List.getD, List.getElem?_eq_getElem hi]
  rw [e3] at he
  injection he with he
  subst he
  obtain ⟨pa, pc, hA⟩ := ob_six (R := cs.toArray) (o := l.getD i ob0) (F := f') (by simpa using oc)
  have hcs : cs = sixo (l.getD i ob0) pa pc := by
    have := congrArg Array.toList hA
    simpa [sixo, sixv] using this
  subst hcs
  have lA' : A.length = i * 6 := lA
  have hm : l.getD i ob0 ∈ l := by simp [List.getD, List.getElem?_eq_getElem hi]
  refine ⟨pa, pc, fun j u hu => ?_, six_path oc, by have := hs _ hm; omega⟩
  rw [hP, List.getElem?_append_right (by omega), show i * 6 + j - A.length = j by omega, List.getElem?_append_left (List.getElem?_eq_some_iff.1 hu).1]
  exact hu
theorem obl_row {w : World} {B n c : Nat} {a : Option Addr} {Q : List Value} {l : List Ob} (h : w.ownsRow B 40 6 (.slice a n c) n Q) (hn : l.length = n) (hs : SegOk w Q l) : ObL w a l := by
  by_cases h0 : n = 0
  · exact .inl (List.eq_nil_of_length_eq_zero (by omega))
  · obtain ⟨g, rfl, _, hb, _⟩ := row_cap h h0
    refine .inr ⟨g, rfl, hb.2.2, fun i hi => ?_⟩
    obtain ⟨pa, pc, h1, h2, h3⟩ := hs i hi
    exact ⟨pa, pc, fun j u hu => hb.1 _ _ (h1 j u hu), h2, h3⟩
/-! ### What adding makes of the rows -/
theorem adD_rows {b : Bd} {o : Ob} (hb : bdB b = true) (ho : okO o = true) : mgR (adD b o) = pnF (b.n * b.h) (mgR b) o ∧ (adD b o).h = b.h ∧ (adD b o).n = b.n ∧ bdB (adD b o) = true ∧ adF b o = true := by
  refine ⟨?_, ?_, ?_, adD_valid hb o, by simp [adF, hb, ho]⟩
  · obtain ⟨p1, p2, p3, p4, p5⟩ := bd_parts hb
    unfold adD
    cases ht : tbO b.h b.n o
    · rw [if_neg (by simp)]
      exact (pnF_out p1 ht (by rw [mgR_len9]; omega)).symm
    · rw [if_pos (by simp [adF, hb, ho])]
      unfold adI
      split
      · show (b.objs ++ [o]).foldl (pnF (b.n * b.h)) b.base = _
        rw [List.foldl_append]; rfl
      · rfl
  · unfold adD; split
    · unfold adI; split <;> rfl
    · rfl
  · unfold adD; split
    · unfold adI; split <;> rfl
    · rfl
def itR (f : Int) (l : List Ob) (R : List (List Int)) : Nat → List (List Int)
  | 0 => R
  | r + 1 => l.foldl (pnF f) (itR f l R r)
theorem itR_three (f : Int) (l : List Ob) (R : List (List Int)) : itR f l R 3 = (l ++ l ++ l).foldl (pnF f) R := by
  rw [List.foldl_append, List.foldl_append]; rfl
end Go.Proofs.Ytbdjnfnphilklaa.Own
namespace Go.Proofs.Ytbdjnfnphilklaa.Own
open Go.ChangeShapes Go.WideShapes Go.ChangeAt Go.RowKit
open Kit Slabs Ints Draw Point
set_option linter.unusedVariables false
set_option linter.unusedSimpArgs false
set_option linter.unnecessarySimpa false
set_option maxRecDepth 100000
structure MmS (w V : World) (X7 : Nat) (b : Bd) (ra : Option Addr) (rc : Nat) (rf : List Nat) (oa : Option Addr) (oc : Nat) (F2 : List Nat) (la : Option Addr) (lc : Nat) (l : List Ob) (LF : List Nat) : Prop where
  B7 : Blk V X7 [.int .i64 b.h, .int .i64 b.n, .slice ra b.base.length rc, .slice oa b.objs.length oc]
  R : Own V KSS [.slice ra b.base.length rc] (.sl (dR b.base)) rf
  O : ObsRow V 0 oa oc b.objs F2
  n7 : X7 ∉ rf ++ F2
  L : ObsRow V 0 la lc l LF
  nL : X7 ∉ LF
  W : Below w.heap.size w V
  ok : bdB b = true
  g7 : w.heap.size ≤ X7
theorem MmS.on {w V V' : World} {X7 : Nat} {b : Bd} {ra : Option Addr} {rc : Nat} {rf : List Nat} {oa : Option Addr} {oc : Nat} {F2 : List Nat} {la : Option Addr} {lc : Nat} {l : List Ob} {LF : List Nat} (h : MmS w V X7 b ra rc rf oa oc F2 la lc l LF) (hb : Below V.heap.size V V') : MmS w V' X7 b ra rc rf oa oc F2 la lc l LF :=
  ⟨h.B7.keep hb, h.R.under hb, h.O.under hb, h.n7, h.L.under hb, h.nL, on_of h.W hb, h.ok, h.g7⟩
theorem MmS.bda {w V : World} {X7 : Nat} {b : Bd} {ra : Option Addr} {rc : Nat} {rf : List Nat} {oa : Option Addr} {oc : Nat} {F2 : List Nat} {la : Option Addr} {lc : Nat} {l : List Ob} {LF : List Nat} (h : MmS w V X7 b ra rc rf oa oc F2 la lc l LF) : BdA V b ra rc oa oc := by
  obtain ⟨f, ho, _⟩ := h.O.own
  exact ⟨ok_size h.ok, rr_of h.R, f, ho⟩
def BdI (W E : World) (X : Nat) (b : Bd) : Prop := ∃ (ra : Option Addr) (rc : Nat) (rf : List Nat) (oa : Option Addr) (oc : Nat) (F2 : List Nat), Blk E X [.int .i64 b.h, .int .i64 b.n, .slice ra b.base.length rc, .slice oa b.objs.length oc] ∧ Own E KSS [.slice ra b.base.length rc] (.sl (dR b.base)) rf ∧ ObsRow E W.heap.size oa oc b.objs F2 ∧ (rf ++ F2).Nodup ∧ (∀ x ∈ rf ++ F2, W.heap.size ≤ x) ∧ X ∉ rf ++ F2 ∧ W.heap.size ≤ X ∧ Below W.heap.size W E
theorem bd_put {W wz : World} {X c : Nat} {b : Bd} {ra : Option Addr} {rc : Nat} {rf : List Nat} {oa : Option Addr} {oc : Nat} {F2 : List Nat} (BZ : Blk wz X Z4.toList ∧ W.heap.size ≤ X ∧ X < c) (o2 : Own wz KSS [.slice ra b.base.length rc] (.sl (dR b.base)) rf) (o3 : ObsRow wz c oa oc b.objs F2) (hN : (rf ++ F2).Nodup) (hge : ∀ x ∈ rf ++ F2, c ≤ x) (hB : Below W.heap.size W wz) :
    ∃ E, (hstore 32 ⟨X, 0, none⟩ (.agg #[.int .i64 b.h, .int .i64 b.n, .slice ra b.base.length rc, .slice oa b.objs.length oc])).run Try.prog wz = .ok () E ∧ BdI W E X b := by
  obtain ⟨E, st, BX, tE⟩ := bd_store BZ.1 b.h b.n ra b.base.length rc oa b.objs.length oc
  have h1 := BZ.2.1
  have h2 := BZ.2.2
  have hx : ∀ x ∈ rf ++ F2, x ≠ X := fun x hm e => by have := hge x hm; omega
  exact ⟨E, st, ra, rc, rf, oa, oc, F2, BX, o2.turned tE (fun x hm => hx x (List.mem_append_left _ hm)), (o3.turned tE (fun x hm => hx x (List.mem_append_right _ hm))).base (by omega), hN, fun x hm => by have := hge x hm; omega, fun hm => hx X hm rfl, h1, hB.trans (tE.below hB.size (fun x e => by have e' : x = X := e; omega))⟩
theorem bd_late {W wz : World} {c : Nat} {b : Bd} {ra : Option Addr} {rc : Nat} {rf : List Nat} {oa : Option Addr} {oc : Nat} {F2 : List Nat} (o2 : Own wz KSS [.slice ra b.base.length rc] (.sl (dR b.base)) rf) (o3 : ObsRow wz c oa oc b.objs F2) (hN : (rf ++ F2).Nodup) (hge : ∀ x ∈ rf ++ F2, c ≤ x) (hc : W.heap.size ≤ c) (hB : Below W.heap.size W wz) :
    ∃ E, (hstore 32 ⟨wz.heap.size, 0, none⟩ (.agg #[.int .i64 b.h, .int .i64 b.n, .slice ra b.base.length rc, .slice oa b.objs.length oc])).run Try.prog (wz.alloc (.cells Z4 32)) = .ok () E ∧ BdI W E wz.heap.size b := by
  obtain ⟨E, st, BX, bE⟩ := bd_new wz b.h b.n ra b.base.length rc oa b.objs.length oc
  have hlt := mem2 (p := fun x => x < wz.heap.size) o2.lt o3.lt
  exact ⟨E, st, ra, rc, rf, oa, oc, F2, BX, o2.under bE, (o3.under bE).base hc, hN, fun x hm => Nat.le_trans hc (hge x hm), fun hm => by have := hlt _ hm; omega, hB.size, on_of hB bE⟩
theorem MmS.put {w V V' E : World} {X7 X : Nat} {b b' : Bd} {ra : Option Addr} {rc : Nat} {rf : List Nat} {oa : Option Addr} {oc : Nat} {F2 : List Nat} {la : Option Addr} {lc : Nat} {l : List Ob} {LF : List Nat} {ra1 : Option Addr} {rc1 : Nat} {rf1 : List Nat} {oa1 : Option Addr} {oc1 : Nat} {F3 : List Nat} (h : MmS w V X7 b ra rc rf oa oc F2 la lc l LF) (hb : Below V.heap.size V V')
    (o2 : Own V' KSS [.slice ra1 b'.base.length rc1] (.sl (dR b'.base)) rf1) (o3 : ObsRow V' V.heap.size oa1 oc1 b'.objs F3) (hge : ∀ x ∈ rf1 ++ F3, V.heap.size ≤ x) (ok : bdB b' = true) (BX : Blk E X7 [.int .i64 b'.h, .int .i64 b'.n, .slice ra1 b'.base.length rc1, .slice oa1 b'.objs.length oc1]) (tE : Turns V' E (fun x => x = X7)) : MmS w E X7 b' ra1 rc1 rf1 oa1 oc1 F3 la lc l LF := by
  have h1 := h.on hb
  have l7 := h.B7.2.2
  have hx : ∀ x ∈ rf1 ++ F3, x ≠ X7 := fun x hm e => by have := hge x hm; omega
  exact ⟨BX, o2.turned tE (fun x hm => hx x (List.mem_append_left _ hm)), (o3.turned tE (fun x hm => hx x (List.mem_append_right _ hm))).base (Nat.zero_le _), fun hm => hx X7 hm rfl, h1.L.turned tE (fun x hm e => h.nL (by have e' : x = X7 := e; rw [← e']; exact hm)), h.nL, h1.W.trans (tE.below h1.W.size (fun x e => by have e' : x = X7 := e; rw [e']; exact h.g7)), ok, h.g7⟩
theorem MmS.elt {w V : World} {X7 : Nat} {b : Bd} {ra : Option Addr} {rc : Nat} {rf : List Nat} {oa : Option Addr} {oc : Nat} {F2 : List Nat} {la : Option Addr} {lc : Nat} {l : List Ob} {LF : List Nat} (h : MmS w V X7 b ra rc rf oa oc F2 la lc l LF) (hs : ∀ o ∈ l, o.path.length ≤ 6) (hl : l.length ≤ 6) {k : Nat} (hk : k < l.length) :
    ∃ g pa pc fq, la = some ⟨g, 0, none⟩ ∧ g < V.heap.size ∧ (∀ j u, (sixo (l.getD k ob0) pa pc)[j]? = some u → V.cell? ⟨g, k * 6 + j, none⟩ = some u) ∧ OwnL V LObject (sixo (l.getD k ob0) pa pc) (l.getD k ob0).dt fq := by
  obtain ⟨f, ho, _⟩ := h.L.own
  have hb : ∀ m : List Ob, (∀ o ∈ m, o.path.length ≤ 6) → bulkL (dO m) ≤ 6 * m.length := fun m hm => by
    induction m with
    | nil => simp [dO, bulkL]
    | cons o m ih =>
      have e2 : bulkL (dO (o :: m)) = o.path.length + bulkL (dO m) := by
        show bulkL (Dt.st o.dt :: dO m) = _
        simp only [bulkL, Dt.bulk, Ob.dt, len_dP, bulk_dP]; omega
      have h1 := hm o List.mem_cons_self
      have h2 := ih (fun x hx => hm x (List.mem_cons_of_mem _ hx))
      rw [e2, List.length_cons]; omega
  have h1 := hb l hs
  obtain ⟨g, pa, pc, fq, e, hg, h6, hoo, _, _⟩ := path_at_turn rfl (by omega) ho hk
  exact ⟨g, pa, pc, fq, e, hg, h6, hoo⟩
end Go.Proofs.Ytbdjnfnphilklaa.Own
namespace Go.Proofs.Ytbdjnfnphilklaa.Own
open Go.ChangeShapes Go.WideShapes Go.ChangeAt Go.RowKit
open Kit Slabs Ints Draw Point
set_option linter.unusedVariables false
set_option linter.unusedSimpArgs false
set_option linter.unnecessarySimpa false
set_option maxRecDepth 100000
theorem szL_obs (n : Nat) : szL (List.replicate n KObject) = n * 6 := by
  induction n with
  | zero => rfl
  | succ n ih =>
    rw [List.replicate_succ]
    show KObject.sz + szL (List.replicate n KObject) = _
    rw [ih, show KObject.sz = 6 from rfl]; omega
theorem lies_row {w : World} {B n c : Nat} {a : Option Addr} {P : List Value} (h : w.ownsRow B 40 6 (.slice a n c) n P) (hl : P.length = n * 6) : Lies w a P := by
  by_cases h0 : n = 0
  · exact .inl (List.eq_nil_of_length_eq_zero (by omega))
  · obtain ⟨g, rfl, _, hb, _⟩ := row_cap h h0
    exact .inr ⟨g, 0, rfl, hb.2.2, fun j u hu => by rw [Nat.zero_add]; exact hb.1 _ _ hu⟩
theorem obs_read {w : World} {B c : Nat} {a : Option Addr} {l : List Ob} {F : List Nat} (h : ObsRow w B a c l F) (hs : ∀ o ∈ l, o.path.length ≤ 6) : ∃ P : List Value, P.length = l.length * 6 ∧ Lies w a P ∧ (∀ u ∈ P, u.oneCell' = true) ∧ SegOk w P l := by
  obtain ⟨P, f, r, o, _, _, _⟩ := h
  have hl : P.length = l.length * 6 := by rw [o.len, szL_obs]
  exact ⟨P, hl, lies_row r hl, fun u hu => o.one u hu, seg_of o hs⟩
structure ApS (w V : World) (a : Option Addr) (n c : Nat) (Q : List Value) (ls : List Ob) : Prop where
  own : V.ownsRow w.heap.size 40 6 (.slice a n c) n Q
  len : ls.length = n
  seg : SegOk w Q ls
  below : Below w.heap.size w V
  lq : Q.length = n * 6
theorem aps_made (w : World) : ApS w (w.alloc (.cells #[] 40)) (some ⟨w.heap.size, 0, none⟩) 0 0 [] [] :=
  ⟨World.ownsRow_made w #[] (e := 40) (size := 6) 0 (Nat.le_refl _) (by decide) (by simp), rfl, SegOk.nil w, by go_grown, rfl⟩
theorem ApS.step {w V V' : World} {a a' : Option Addr} {n c c' : Nat} {Q P : List Value} {ls l : List Ob} (h : ApS w V a n c Q ls) (hs : SegOk w P l) (hl : P.length = l.length * 6) (hown : V'.ownsRow w.heap.size 40 6 (.slice a' (n + l.length) c') (n + l.length) (Q ++ P)) (hg : V.grownBy V' (Value.ownBlock (.slice a n c))) : ApS w V' a' (n + l.length) c' (Q ++ P) (ls ++ l) :=
  ⟨hown, by rw [List.length_append, h.len], h.seg.app (by rw [h.lq, h.len]) hs, h.below.trans ((Turns.of_grown hg).below h.below.size (fun x e => (rowL_ge h.own x (by simp [rowL, e])).1)), by rw [List.length_append, h.lq, hl, Nat.add_mul]⟩
theorem ApS.next {w V V' : World} {a a' : Option Addr} {n c c' n' : Nat} {Q P Q' : List Value} {ls l ls' : List Ob} (h : ApS w V a n c Q ls) (hs : SegOk w P l) (hl : P.length = l.length * 6) (hown : V'.ownsRow w.heap.size 40 6 (.slice a' n' c') n' Q') (hg : V.grownBy V' (Value.ownBlock (.slice a n c))) (e1 : n' = n + l.length) (e2 : Q' = Q ++ P) (e3 : ls' = ls ++ l) : ApS w V' a' n' c' Q' ls' := by
  subst e1; subst e2; subst e3
  exact h.step hs hl hown hg
theorem mem_size {b : Bd} (hb : bdB b = true) : (mgR b).length ≤ 1048576 ∧ tot (mgR b) ≤ 1048576 := by
  have h := ok_size (mgD_valid hb)
  have e : (mgD b).base = mgR b := by simp [mgD, hb]
  rw [e] at h
  omega
theorem mem_rows {b : Bd} {q kk : Int} {l : List Ob} (hb : bdB b = true) (hn : bnB q kk = true) (h : mgR b = itR (kk * q) l (whR q) 3) : rbD b = mgR b ∧ rbR q kk (l ++ l ++ l) = mgR b := by
  refine ⟨by simp [rbD, hb], ?_⟩
  rw [h, itR_three]
  simp [rbR, hn]
theorem ApS.obl {w V : World} {a : Option Addr} {n c : Nat} {Q : List Value} {ls : List Ob} (h : ApS w V a n c Q ls) : ObL V a ls := obl_row h.own h.len (h.seg.on h.below)
end Go.Proofs.Ytbdjnfnphilklaa.Own
