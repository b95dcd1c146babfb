/-
  Exchanging twice, negating twice, and taking away what was added give the stack back. No condition.
  The frame of the proof was written by a tool of this repo after the guide's shells; the walk is this text's own.
-/
import Derived.Test.YtnpbhmeanfolnaaRows
import Derived.WalkKit
import Derived.ProofKit
import Derived.OpenShut
import Derived.ShutString
import Derived.ChangeOld
import Derived.ChangeArms
import Derived.Below
import Derived.Handy
import Derived.Lib.SmallJoins
import Derived.Test.YtnpbhmeanfolnaaKit
import Derived.Test.YtnpbhmeanfolnaaDraw
import Derived.Test.YtnpbhmeanfolnaaDrawPlus
import Derived.Test.YtnpbhmeanfolnaaSlab
import Derived.Test.YtnpbhmeanfolnaaInts
import Derived.Test.YtnpbhmeanfolnaaStack
import Derived.Test.YtnpbhmeanfolnaaPush
import Derived.Test.YtnpbhmeanfolnaaTake
import Derived.Test.YtnpbhmeanfolnaaOpn
import Derived.Test.YtnpbhmeanfolnaaSOp
import Derived.Test.YtnpbhmeanfolnaaSAns
import Derived.Test.YtnpbhmeanfolnaaImpl5
import Derived.Lib.Hide
import Derived.Test.YtnpbhmeanfolnaaSame
import Derived.Test.YtnpbhmeanfolnaaStkDraw
import Derived.Test.YtnpbhmeanfolnaaStkLaw
import Derived.Laws.OwnMore
import Derived.Laws.BitsLemmas
namespace Go.Proofs.Ytnpbhmeanfolnaa.fnStacks
open Go.ChangeShapes Go.WideShapes Go.ChangeAt Go.RowKit
open Go.ChangeMaps (open_string shut_string)
open Kit
open Slabs
open Draw
open Ints
open Stack
open Push
open Take
open Opn
open SOp
open Impl
open StkDraw
open StkLaw
set_option linter.unusedVariables false
set_option linter.unusedSimpArgs false

theorem own : ownKnob Try.prog.godebug = none := by kernel_rfl
theorem laidOut : laidOutB Try.prog = true := by kernel_rfl

/-- The answer of an operation that goes through, as a list of its own. -/
theorem so_take {X Y : Nat → Int} {n m : Nat} {s : ByteArray} (h : soB X n s = true ∧ soY X n s = Y ∧ soM X n s = m) (hn : n ≤ 1048576) (hs : s.size ≤ 1048576) (W : World) (B : Nat) (v : Value) (hv : Slab W B v n 1 (ic X)) :
    Calls Try.prog 16 #[v, .string s] W fun e w' => ∃ u : Value, e = .returned (.tuple #[u, .bool true]) ∧ Slab w' W.heap.size u m 1 (ic Y) ∧ Below W.heap.size W w' :=
  (so_impl W v n X s hn hs (Rd.of_slab hv)).mono fun e w' ⟨u, he, ho, hb⟩ => by
    obtain ⟨h1, h2, h3⟩ := h
    rw [h2, h3] at ho
    rw [h1] at he
    exact ⟨u, he, Slab.of_owns ho (ic_len _), hb⟩

theorem pu_take {X : Nat → Int} {n : Nat} {a : Int} (h : puB X n a = true ∧ puN X n a = n + 1) (hn : n ≤ 1048576) (W : World) (B : Nat) (v : Value) (hv : Slab W B v n 1 (ic X)) :
    Calls Try.prog 15 #[v, .int .i64 a] W fun e w' => ∃ u : Value, e = .returned (.tuple #[u, .bool true]) ∧ Slab w' W.heap.size u (n + 1) 1 (ic (pt X n a)) ∧ Below W.heap.size W w' :=
  (push_impl W v n X a hn (Rd.of_slab hv)).mono fun e w' ⟨u, he, ho, hb⟩ => by
    rw [h.2] at ho
    rw [h.1] at he
    exact ⟨u, he, ho, hb⟩

theorem ta_take {Z : Nat → Int} {n : Nat} (h : taB Z (n + 2) 2 = true ∧ ta1 Z (n + 2) 2 = n ∧ ta2 Z (n + 2) 2 = 2) (hn : n + 2 ≤ 1048576) (W : World) (B : Nat) (v : Value) (hv : Slab W B v (n + 2) 1 (ic Z)) :
    Calls Try.prog 17 #[v, .int .i64 2] W fun e w' => ∃ u1 u2 : Value, e = .returned (.tuple #[u1, u2, .bool true]) ∧ Slab w' W.heap.size u1 n 1 (ic Z) ∧ Slab w' W.heap.size u2 2 1 (ic fun i => Z (n + i)) ∧ Below W.heap.size W w' :=
  (take_impl W v (n + 2) Z 2 hn (Rd.of_slab hv)).mono fun e w' ⟨u1, u2, he, h1, h2, _, hb⟩ => by
    rw [h.2.1] at h1
    rw [h.2.2] at h2
    rw [h.1] at he
    exact ⟨u1, u2, he, Slab.of_owns h1 (ic_len _), by simpa using Slab.of_owns h2 (ic_len _), hb⟩

theorem two_lit (w : World) (a b : Int) (F : Nat → Int) (h0 : F 0 = a) (h1 : F 1 = b) : Slab (w.alloc (.cells #[.int .i64 a, .int .i64 b] 3)) w.heap.size (.slice (some ⟨w.heap.size, 0, none⟩) 2 2) 2 1 (ic F) := by
  have ho := World.ownsRow_lit (base := w.heap.size) (e := 3) (size := 1) w #[.int .i64 a, .int .i64 b] 2 (Nat.le_refl _) (by decide) (by simp)
  refine Slab.of_owns (T := 3) ?_ (ic_len F)
  have e : flat (ic F) 2 = [.int .i64 a, .int .i64 b] := by
    rw [← h0, ← h1]; rfl
  rw [e]
  exact ho

set_option maxRecDepth 100000 in
set_option maxHeartbeats 8000000 in
theorem walk (w : World) (a0 : Option Addr) (l0 p0c : Nat) (z0 : List Int) (wa0 : IsRow .u8 w a0 l0 p0c z0) :
    Calls Try.prog 3 #[.slice a0 l0 p0c] w fun e w' => e = .returned (.bool true) ∧ Below w.heap.size w w' := by
  have hl := row_len wa0
  have HR := Lib.hid wa0
  clear wa0
  by_cases hbig : (1048576 : Int) < (l0 : Int)
  · go_enter Try.func3, Try.ntmps3
    go_wp2_with (go_at_call 12; refine (big_on _ _ _ _ hl).mono ?_; rintro e w' ⟨rfl, rfl⟩)
    go_ret
    exact ⟨rfl, Below.refl _ _⟩
  · have hbig0 : decide ((1048576 : Int) < (l0 : Int)) = false := by simpa using hbig
    go_enter Try.func3, Try.ntmps3
    go_wp2_with fail
    (refine (big_on _ _ _ _ hl).mono ?_; rintro e w' ⟨rfl, rfl⟩)
    go_wp2_with fail
    (refine (drawstack_any _ _ _ _ _ HR.out).mono ?_; rintro e w1 ⟨v, n, X, hn, hX, rfl, s1, c1⟩)
    go_wp2_with fail
    (refine (places_all _ _ _ _ _ (HR.out.keep c1)).mono ?_; rintro e w2 ⟨g, c, Q, hQ, hcQ, rfl, hg1, hg2, c2⟩)
    have q0 := hcQ 0 (by omega)
    have q1 := hcQ 1 (by omega)
    have b0 := hQ 0 (by omega)
    have b1 := hQ 1 (by omega)
    have hQc : (12 : Int) ≤ 12 := by omega
    clear hQ hcQ
    generalize Q 0 = qa at *
    generalize Q 1 = qb at *
    have ba : 0 ≤ qa % 50 ∧ qa % 50 ≤ 49 := by omega
    have bb : 0 ≤ qb % 50 ∧ qb % 50 ≤ 49 := by omega
    go_wp2_with fail
    generalize qa % 50 = a at *
    generalize qb % 50 = b at *
    clear q0 q1 b0 b1 hQc hg1 hg2
    have hX1 : Nums (pt X n a) (n + 1) := nums_pt hX (by omega)
    have P2 := pu_take (pu_yes hX1 (by omega) (show -9999 ≤ b ∧ b ≤ 9999 by omega)) (by omega)
    obtain ⟨Z, hZe⟩ : ∃ Z, pt (pt X n a) (n + 1) b = Z := ⟨_, rfl⟩
    rw [hZe] at P2
    have hZ : Nums Z (n + 2) := hZe ▸ nums_pt hX1 (by omega)
    have hZX : ∀ i, i < n → Z i = X i := fun i hi => by rw [← hZe, pt_lt _ (by omega), pt_lt _ hi]
    have hZa : Z n = a := by rw [← hZe, pt_lt _ (by omega), pt_at]
    have hZb : Z (n + 1) = b := by rw [← hZe, pt_at]
    have P1 := pu_take (pu_yes hX (by omega) (show -9999 ≤ a ∧ a ≤ 9999 by omega)) (by omega)
    have E1 := so_take (so_exch hZ (by omega)) (by omega) (by decide)
    have E2 := so_take (so_exch (exL_nums hZ) (by omega)) (by omega) (by decide)
    have N1 := so_take (so_neg hZ (by omega)) (by omega) (by decide)
    have N2 := so_take (so_neg (ngL_nums hZ) (by omega)) (by omega) (by decide)
    have D1 := so_take (so_dup hZ (by omega)) (by omega) (by decide)
    have D2 := so_take (so_pop (dpL_nums hZ) (by omega)) (by omega) (by decide)
    have A1 := so_take (so_add hZ (by omega) (by rw [hZa, hZb]; omega)) (by omega) (by decide)
    have T1 := ta_take (ta_two hZ (by omega)) (by omega)
    have hstk := nums_ok hZ (by omega)
    have HP := Lib.hid (And.intro P1 P2)
    have HE := Lib.hid (And.intro E1 E2)
    have HN := Lib.hid (And.intro N1 N2)
    have HD := Lib.hid (And.intro D1 D2)
    have HA := Lib.hid (And.intro A1 T1)
    have HZ := Lib.hid (And.intro hZX (And.intro hZa (And.intro hZb hstk)))
    clear P1 P2 E1 E2 N1 N2 D1 D2 A1 T1 hZX hZa hZb hstk hZ hX1 hX hZe
    obtain ⟨av, cv, rfl, _⟩ := id s1
    have hw : IntKind.i64.wrap (a + b) = a + b := by rw [IntKind.wrap_i64]; omega
    ((with_reducible refine (HP.out.1 _ _ _ (s1.below c2)).mono ?_); rintro e w3 ⟨x1, rfl, p3, c3⟩)
    have g3 := on_of c2 c3
    go_wp2_with fail
    ((with_reducible refine (HP.out.2 _ _ _ p3).mono ?_); rintro e w4 ⟨x, rfl, p4, c4⟩)
    have g4 := on_of g3 c4
    clear p3 c3 g3
    go_wp2_with fail
    ((with_reducible refine (HE.out.1 _ _ _ p4).mono ?_); rintro e w5 ⟨x5, rfl, p5, c5⟩)
    have f5 := c5
    go_wp2_with fail
    ((with_reducible refine (HE.out.2 _ _ _ p5).mono ?_); rintro e w6 ⟨ee, rfl, pe6, c6⟩)
    have f6 := on_of f5 c6
    clear p5 c5 c6 f5
    go_wp2_with fail
    ((with_reducible refine (HN.out.1 _ _ _ (p4.below f6)).mono ?_); rintro e w7 ⟨x7, rfl, p7, c7⟩)
    have f7 := on_of f6 c7
    have pe7 := pe6.below c7
    clear c7 pe6 f6
    go_wp2_with fail
    ((with_reducible refine (HN.out.2 _ _ _ p7).mono ?_); rintro e w8 ⟨nn, rfl, pn8, c8⟩)
    have f8 := on_of f7 c8
    have pe8 := pe7.below c8
    clear p7 c8 pe7 f7
    go_wp2_with fail
    ((with_reducible refine (HD.out.1 _ _ _ (p4.below f8)).mono ?_); rintro e w9 ⟨x9, rfl, p9, c9⟩)
    have f9 := on_of f8 c9
    have pe9 := pe8.below c9
    have pn9 := pn8.below c9
    clear c9 pe8 pn8 f8
    go_wp2_with fail
    ((with_reducible refine (HD.out.2 _ _ _ p9).mono ?_); rintro e w10 ⟨dd, rfl, pd10, c10⟩)
    have f10 := on_of f9 c10
    have pe10 := pe9.below c10
    have pn10 := pn9.below c10
    clear c10 pe9 pn9 f9 p9
    go_wp2_with fail
    ((with_reducible refine (HA.out.1 _ _ _ (p4.below f10)).mono ?_); rintro e w11 ⟨mm, rfl, pm11, c11⟩)
    have f11 := on_of f10 c11
    have pe11 := pe10.below c11
    have pn11 := pn10.below c11
    have pd11 := pd10.below c11
    clear c11 pe10 pn10 pd10 f10
    rcases pm11.writes with ⟨h0, _⟩ | ⟨gm, cm, rfl, _, Wm⟩
    · omega
    go_wp2_with fail
    ((with_reducible refine (HA.out.2 _ _ _ (p4.below f11)).mono ?_); rintro e w12 ⟨yy, ll, rfl, py12, pl12, c12⟩)
    have f12 := on_of f11 c12
    have g12 := on_of g4 f12
    have x12 := p4.below f12
    have e12 := (pe11.below c12).same (G := ic Z) (fun i _ => by simp only [ic, exL_twice])
    have n12 := (pn11.below c12).same (G := ic Z) (fun i _ => by simp only [ic, ngL_twice])
    have d12 := (pd11.below c12).same (G := ic Z) (fun i hi => by simp only [ic, dpL_lt Z hi])
    have m12 := Wm.on c12
    have y12 := py12.same (G := ic X) (fun i hi => by simp only [ic, HZ.out.1 i hi])
    have v12 := s1.below g12
    have k12 := c1.trans (g12.mono c1.size)
    clear pe11 pn11 pd11 py12 Wm pm11 f11 f12 g12 g4 c12 p4 c1 c2 s1
    go_wp2_with fail
    ((with_reducible refine (same_same _ _ _ _ _ (n + 2) Z (by omega) e12 x12).mono ?_); rintro e w13 ⟨rfl, c13⟩)
    have k13 := on_of k12 c13
    have x13 := x12.below c13
    have n13 := n12.below c13
    have d13 := d12.below c13
    have y13 := y12.below c13
    have v13 := v12.below c13
    have l13 := pl12.below c13
    have m13 := m12.on c13
    clear e12 x12 n12 d12 y12 v12 pl12 m12 c13 k12
    go_wp2_with fail
    ((with_reducible refine (same_same _ _ _ _ _ (n + 2) Z (by omega) n13 x13).mono ?_); rintro e w14 ⟨rfl, c14⟩)
    have k14 := on_of k13 c14
    have x14 := x13.below c14
    have d14 := d13.below c14
    have y14 := y13.below c14
    have v14 := v13.below c14
    have l14 := l13.below c14
    have m14 := m13.on c14
    clear x13 n13 d13 y13 v13 l13 m13 c14 k13
    go_wp2_with fail
    ((with_reducible refine (same_same _ _ _ _ _ (n + 2) Z (by omega) d14 x14).mono ?_); rintro e w15 ⟨rfl, c15⟩)
    have k15 := on_of k14 c15
    have x15 := x14.below c15
    have y15 := y14.below c15
    have v15 := v14.below c15
    have l15 := l14.below c15
    have m15 := m14.on c15
    clear x14 d14 y14 v14 l14 m14 c15 k14
    go_wp2_with fail
    ((with_reducible refine (same_same _ _ _ _ _ n X (by omega) y15 v15).mono ?_); rintro e w16 ⟨rfl, c16⟩)
    have k16 := on_of k15 c16
    have x16 := x15.below c16
    have l16 := l15.below c16
    have m16 := m15.on c16
    have al : Below w16.heap.size w16 (w16.alloc (.cells #[.int .i64 a, .int .i64 b] 3)) := (Below.refl _ _).alloc (Nat.le_refl _) _
    have lit := two_lit w16 a b (fun i => Z (n + i)) HZ.out.2.1 HZ.out.2.2.1
    have LL := Lib.hid (And.intro (l16.below al) lit)
    clear x15 y15 v15 l15 m15 c16 k15 l16 lit
    go_wp2_with fail
    ((with_reducible refine (same_same _ _ _ _ _ 2 _ (by omega) LL.out.1 LL.out.2).mono ?_); rintro e w17 ⟨rfl, c17⟩)
    have h17 : Below w16.heap.size w16 w17 := on_of al c17
    have k17 := on_of k16 h17
    have x17 := x16.below h17
    have m17 := ic_cell (m16.on h17) (i := n) (by omega)
    have hmn : adL Z n n = a + b := by rw [adL, pt_at, HZ.out.2.1, HZ.out.2.2.1]
    rw [hmn] at m17
    have i0 : (0 : Int) ≤ (n : Int) := by omega
    have i1 : (n : Int) < ((n + 1 : Nat) : Int) := by omega
    have i2 : ((n + 1 : Nat) : Int) = (n : Int) + 1 := by omega
    have i3 : (n : Int) < (n : Int) + 1 := by omega
    clear al h17 c17 x16 m16 k16 hmn
    go_wp2_with fail
    ((with_reducible refine (stok_impl _ _ (n + 2) Z (by omega) (Rd.of_slab x17)).mono ?_); rintro e w18 ⟨rfl, c18⟩)
    have k18 := on_of k17 c18
    rw [HZ.out.2.2.2]
    clear x17 k17 c18 m17
    go_wp2_with fail
    ((with_reducible refine (isop_impl _ ⟨#[101, 120, 99, 104]⟩ (by decide)).mono ?_); rintro e w19 ⟨rfl, c19⟩)
    have k19 := on_of k18 c19
    rw [opB_of nm_exch]
    go_wp2_with fail
    go_ret
    exact ⟨rfl, k19⟩

/-! ### THE ROW's STEP -/
set_option maxRecDepth 100000 in
theorem lifted (os : Os) (started : os.Started) (H : Type) (enc : TypeId × Value → H) :
    ReturnsInHanded {} Try.checked os 3 .any (Rows.fnStacksSpec.pre6 enc Try.prog Try.f3 Rows.fnStacksRow.domain false) (Rows.fnStacksSpec.post enc Try.prog Try.f3 false true false false) := by
  refine returnsInHanded_of_change (C := Try.checked) own started (by kernel_rfl) Try.func3
    (ChangeSpec.witness6 (enc := enc) (C := Try.checked) false ⟨#[], #[.slice none 0 0], []⟩ 8 (by kernel_rfl) (by kernel_rfl) (by kernel_rfl) (by kernel_rfl)) ?_
  intro W base args ds gs before hval0 hW hcnd _
  have hval : ∀ (j : Nat) t v, Try.f3.params[j]? = some t → args[j]? = some v → Value.okWide Try.prog W .any base t v := hval0
  have hW' := hW
  obtain ⟨p, q, hA0, hV, rfl, hfz, hnd⟩ := hW
  have hA : DataW.TrodAll enc Try.prog W 0 (fun _ => true) true Try.f3.params.toList args.toList ds p := hA0
  rw [Try.params3] at hA hval
  obtain ⟨v0, vs0, d0, ds0, p0, q0, hargs, rfl, rfl, h0, r0⟩ := trodAll_cons hA
  obtain ⟨rfl, rfl, rfl⟩ := trodAll_nil r0
  obtain rfl : args = #[v0] := by cases args; simp_all
  obtain ⟨rfl, rfl⟩ := trodVars_none hV
  have k0 := h0
  have lt0 : ∀ x ∈ p0, x.block < W.heap.size := by obtain ⟨m, hm⟩ := k0; exact DataW.trod_lt m _ _ _ hm
  obtain ⟨a0, l0, p0c, rfl⟩ := okWide_slice Try.underlying22 (hval 0 22 v0 rfl rfl)
  obtain ⟨z0, wa0⟩ : ∃ zs, IsRow .u8 W a0 l0 p0c zs := by
    obtain ⟨fuel, hf⟩ := h0
    rcases open_ints Try.underlying22 Try.underlying5 (by kernel_rfl) hf with ⟨hcs, _⟩ | ⟨x, l, c, zs, hcs, _, hl, hm, hz, _, hcell, hwz⟩
    · simp [Value.cells] at hcs
      obtain ⟨rfl, rfl, rfl⟩ := hcs
      exact ⟨[], .inl ⟨rfl, rfl, rfl, rfl⟩⟩
    · simp [Value.cells] at hcs
      obtain ⟨rfl, rfl, rfl⟩ := hcs
      exact ⟨zs, .inr ⟨_, rfl, hl, hm, by simpa using hz, hcell, hwz⟩⟩
  clear hA0 hval0
  refine (walk W a0 l0 p0c z0 wa0).mono fun e W' ⟨he, bel⟩ => ?_
  subst he
  exact ⟨_, rfl, _, _, _, [], _, [], hW', trodAll_mk1 (shut_bool Try.underlying4 _), (trodAll_cons_mk (Below.trod laidOut (by kernel_rfl) (of_decide_eq_true (by kernel_rfl)) k0 bel lt0) trodAll_mk0), rfl, bel.frame _, fun h => by cases h⟩

theorem over : Rows.fnStacksRow.holds Try.pinned (OpenSpec.ofChange Rows.fnStacksSpec) :=
  OpenClaim.holds_of_wide 3 Try.f3 rfl rfl rfl rfl rfl rfl rfl ⟨rfl, rfl, rfl, rfl, rfl⟩ rfl rfl rfl rfl rfl (by kernel_rfl) Try.func3 (by kernel_rfl)
    (of_decide_eq_true (by kernel_rfl)) (by unfold Func.isWrapper; first | (rw [if_pos (by decide +kernel)]; kernel_rfl) | (rw [if_neg (by decide +kernel)]; exact ⟨rfl, rfl⟩))
    (fun os started H enc _ => lifted os started H enc)

/-- ████ THE STATEMENT ████ -/
theorem proved : Rows.FnStacksSaid := over
#print axioms proved
end Go.Proofs.Ytnpbhmeanfolnaa.fnStacks
