/-
  Texts of this seat, laid together: OwnFlat, Pti8, Shelf, Sk9
-/
import Derived.LoopTactic
import Derived.OwnWalk
import Derived.WalkKit
import Derived.Handy
import Derived.Lib.Hide
import Derived.Shelf.Small.Wraps
import Derived.Shelf.Slices.Reverse
import Derived.Ground.Names2Prog
import Derived.Shelf.Slices.SearchI
import Derived.Shelf.Slices.Delete
import Derived.Shelf.Slices.Cells
import Derived.Shelf.Slices.Empties
import Derived.Shelf.SlGeneric
import Derived.Shelf.Spec.SlicesInsert
import Derived.Shelf.Spec.SlicesInsertGrow
import Derived.Shelf.SlSorted.Search
import Derived.Shelf.SlicesQ.IndexFunc
import Derived.Ground.SlsoProg
import Derived.Ground.SlgfProg
import Derived.Test.YtbdjnfnphilklaaProg
import Derived.Test.YtbdjnfnphilklaaP02
import Derived.Test.YtbdjnfnphilklaaP03
import Derived.Test.YtbdjnfnphilklaaP06
import Derived.Test.YtbdjnfnphilklaaP21
namespace Go.Proofs.Ytbdjnfnphilklaa.Own
open Go.ChangeShapes Go.WideShapes Go.ChangeAt Go.RowKit
open Kit Slabs
set_option linter.unusedVariables false
set_option linter.unusedSimpArgs false
set_option linter.unnecessarySimpa false
theorem rows_flat {w : World} {e : Kd} {g : Nat} : ∀ (n o : Nat) (F : Nat → List Value) (D : Nat → Dt), (∀ i, i < n → Own w e (F i) (D i) []) → (∀ i, i < n → ∀ j u, (F i)[j]? = some u → w.cell? ⟨g, o + i * e.sz + j, none⟩ = some u) → Rows w e g o ((List.range n).map D) []
  | 0, o, F, D, _, _ => .nil
  | n + 1, o, F, D, h, hc => by
    have h1 := rows_flat n (o + e.sz) (fun i => F (i + 1)) (fun i => D (i + 1)) (fun i hi => h (i + 1) (by omega)) (fun i hi j u hu => by
      have := hc (i + 1) (by omega) j u hu
      rw [Nat.succ_mul] at this
      rw [show o + e.sz + i * e.sz + j = o + (i * e.sz + e.sz) + j by omega]
      exact this)
    have h2 := Rows.cons (w := w) (e := e) (g := g) (o := o) (fun j u hu => by have := hc 0 (by omega) j u hu; simpa using this) (h 0 (by omega)) h1
    rw [List.range_succ_eq_map, List.map_cons, List.map_map]
    exact h2
theorem own_of_slab {w : World} {B n c : Nat} {v : Value} {F : Nat → List Value} {e : Kd} {D : Nat → Dt} (h : Slab w B v n c F) (hc : e.sz = c) (hF : ∀ i, i < n → Own w e (F i) (D i) []) :
    Own w (.sl e) [v] (.sl ((List.range n).map D)) (rowOf n v).toList := by
  obtain ⟨a, cap, rfl, hnc, h⟩ := h
  by_cases hn : n = 0
  · subst hn
    exact .nil a cap
  · rcases h with h | ⟨g, rfl, h1, h2, h3, h4⟩
    · exact absurd h hn
    · have hrow : rowOf n (.slice (some ⟨g, 0, none⟩) n cap) = some g := by simp [rowOf, hn, Value.ownBlock]
      rw [hrow]
      refine .sl (by simp) hn hnc h2 h3 (rows_flat n 0 F D hF (fun i hi j u hu => ?_))
      have := h4 i hi j u hu
      rw [hc, Nat.zero_add]; exact this
theorem nodup_row (r : Option Nat) : r.toList.Nodup := by cases r <;> simp
theorem rows_at {w : World} : ∀ {e : Kd} {g o : Nat} {ds : List Dt} {fp : List Nat}, Rows w e g o ds fp → ∀ i (h : i < ds.length), ∃ cs fpi, Own w e cs ds[i] fpi ∧ (∀ b ∈ fpi, b ∈ fp) ∧ ∀ j u, cs[j]? = some u → w.cell? ⟨g, o + i * e.sz + j, none⟩ = some u
  | _, _, _, _, _, .nil, i, h => by simp at h
  | e, g, o, _, _, .cons (cs := cs) (d := d) (fp := fp) (ds := ds) (fp' := fp') hc hd r, i, h => by
    cases i with
    | zero => exact ⟨cs, fp, hd, fun b hb => List.mem_append_left _ hb, fun j u hu => by have := hc j u hu; simpa using this⟩
    | succ i =>
      obtain ⟨cs2, fpi, h1, h2, h3⟩ := rows_at r i (by simpa using h)
      refine ⟨cs2, fpi, h1, fun b hb => List.mem_append_right _ (h2 b hb), fun j u hu => ?_⟩
      have := h3 j u hu
      rw [Nat.succ_mul, show o + (i * e.sz + e.sz) + j = o + e.sz + i * e.sz + j by omega]
      exact this
theorem camer_at {w : World} : ∀ {e : Kd} {g o : Nat} {ds : List Dt}, CameR w e g o ds → ∀ i (h : i < ds.length), ∃ cs, Came w e cs ds[i] ∧ ∀ j u, cs[j]? = some u → w.cell? ⟨g, o + i * e.sz + j, none⟩ = some u
  | _, _, _, _, .nil, i, h => by simp at h
  | e, g, o, _, .cons (cs := cs) (d := d) (ds := ds) hc hd r, i, h => by
    cases i with
    | zero => exact ⟨cs, hd, fun j u hu => by have := hc j u hu; simpa using this⟩
    | succ i =>
      obtain ⟨cs2, h1, h3⟩ := camer_at r i (by simpa using h)
      refine ⟨cs2, h1, fun j u hu => ?_⟩
      have := h3 j u hu
      rw [Nat.succ_mul, show o + (i * e.sz + e.sz) + j = o + e.sz + i * e.sz + j by omega]
      exact this
def Dt.num : Dt → Int
  | .int n => n
  | _ => 0
theorem slab_of_ints {w : World} {v : Value} {d : Dt} {fp : List Nat} (h : Own w (.sl .int) [v] d fp) {B : Nat} (hB : ∀ b ∈ fp, B ≤ b) :
    ∃ es : List Dt, d = .sl es ∧ es = (List.range es.length).map (fun i => .int ((es.getD i (.int 0)).num)) ∧ Slab w B v es.length 1 (fun i => [.int .i64 ((es.getD i (.int 0)).num)]) ∧ ∀ b, b ∈ fp ↔ rowOf es.length v = some b := by
  cases h with
  | nil a cap => exact ⟨[], rfl, rfl, ⟨a, cap, rfl, Nat.zero_le _, .inl rfl⟩, fun b => by simp [rowOf]⟩
  | @sl _ g n cap es fp hl hn hnc hg hf hr =>
    have key : ∀ i (h : i < es.length), es[i] = .int ((es.getD i (.int 0)).num) ∧ w.cell? ⟨g, i, none⟩ = some (.int .i64 ((es.getD i (.int 0)).num)) := by
      intro i hi
      obtain ⟨cs, fpi, h1, _, h3⟩ := rows_at hr i hi
      have hgd : es.getD i (.int 0) = es[i] := by simp [List.getD, List.getElem?_eq_getElem hi]
      rw [hgd]
      generalize es[i] = x at h1 ⊢
      cases h1 with
      | int m => exact ⟨rfl, by have := h3 0 _ rfl; simpa [Kd.sz, Dt.num] using this⟩
    have hfp : fp = [] := by
      have : ∀ {o : Nat} {ds : List Dt} {fp : List Nat}, Rows w .int g o ds fp → fp = [] := by
        intro o ds
        induction ds generalizing o with
        | nil => intro fp h; cases h; rfl
        | cons d ds ih =>
          intro fp h
          cases h with
          | cons hc hd r =>
            have h1 := ih r
            cases hd
            rw [h1]; rfl
      exact this hr
    subst hfp
    refine ⟨es, rfl, ?_, ⟨_, cap, by rw [hl], by omega, .inr ⟨g, rfl, hB g (List.mem_singleton.2 rfl), hg, hf, fun i hi j u hu => ?_⟩⟩, fun b => ?_⟩
    · apply List.ext_getElem
      · simp
      · intro i h1 h2
        simp only [List.getElem_map, List.getElem_range]
        exact (key i h1).1
    · have hj : j = 0 := by
        have := (List.getElem?_eq_some_iff.1 hu).1
        simp at this; omega
      subst hj
      simp only [List.getElem?_cons_zero, Option.some.injEq] at hu
      subst hu
      have := (key i hi).2
      simpa using this
    · have hne : ¬ es.length = 0 := by omega
      simp only [rowOf, if_neg hne, Value.ownBlock, List.mem_singleton, Option.some.injEq]
      exact ⟨fun h => h.symm, fun h => h.symm⟩
end Go.Proofs.Ytbdjnfnphilklaa.Own
namespace Go.Proofs.Ytbdjnfnphilklaa.Ins
open Go.ChangeShapes Go.WideShapes Go.ChangeAt Go.RowKit
open Kit Point
set_option linter.unusedVariables false
set_option linter.unusedSimpArgs false
set_option linter.unnecessarySimpa false
set_option maxHeartbeats 1000000 in
theorem allpts_impl (w : World) (a : Option Addr) (c : Nat) (l : List (Int × Int)) (hn : l.length ≤ 1048576) (h : PathAt w a l) :
    Calls Try.prog 114 #[.slice a l.length c, .func (.func 115) #[] #[]] w fun e w' => e = .returned (.bool (ptsB l)) ∧ Below w.heap.size w w' := by
  have HP := Lib.hid h
  rcases h with rfl | ⟨g, rfl, hg, _⟩
  · go_enter Try.func114, Try.ntmps114
    go_wp2
    go_rounds 1
    go_ret
    exact ⟨rfl, Below.refl _ _⟩
  · obtain ⟨n, hN⟩ : ∃ n, l.length = n := ⟨_, rfl⟩
    have HN := Lib.hid hN
    rw [hN] at hn ⊢
    clear hN
    go_enter Try.func114, Try.ntmps114
    go_wp2
    go_loopw [9] (fun v9 wr => ∃ k : Nat, k ≤ n ∧ v9 = .int .i64 (k : Int) ∧ Hid (∀ i, i < k → pokB (pX l i) (pY l i) = true) ∧ Below w.heap.size w wr) (fun v9 _ => n - (intOf v9).toNat)
    case atStart => exact ⟨0, Nat.zero_le _, rfl, Lib.hid (fun i hi => absurd hi (Nat.not_lt_zero i)), Below.refl _ _⟩
    case round =>
      obtain ⟨k, hk, rfl, hb, hB⟩ := hrel
      by_cases hlt : k < n
      · have hP := HP.out.on hB
        rcases hP with he | ⟨g', hg', hlg, hc⟩
        · have := HN.out; rw [he] at this; simp at this; omega
        · injection hg' with hg'
          injection hg' with hg'
          subst hg'
          have q := hc k (by rw [HN.out]; exact hlt)
          obtain ⟨q1, q2⟩ := q
          obtain ⟨x, hx⟩ : ∃ x, pX l k = x := ⟨_, rfl⟩
          obtain ⟨y, hy⟩ : ∃ y, pY l k = y := ⟨_, rfl⟩
          rw [hx] at q1; rw [hy] at q2
          have i0 : (0 : Int) ≤ (k : Int) := by omega
          have i1 : (k : Int) < (n : Int) := by omega
          have HX := Lib.hid (And.intro hx hy)
          clear hx hy hc
          have HB := Lib.hid hB
          clear hB
          go_wp2_with fail
          ((with_reducible refine (pok_impl x y _).mono ?_); rintro e w1 ⟨rfl, bb⟩)
          have hB1 := on_of (HB.out.alloc HB.out.size _) bb
          have HB1 := Lib.hid hB1
          clear hB1 bb
          cases hp : pokB x y
          · have hno : ptsB l = false := by exact ptsB_bad (by rw [HN.out]; exact hlt) (by rw [HX.out.1, HX.out.2]; exact hp)
            have HS := Lib.hid hno
            clear hno hp
            go_wp2
            go_ret
            exact ⟨ret_bool HS.out.symm, HB1.out⟩
          · have hyes : ∀ i, i < k + 1 → pokB (pX l i) (pY l i) = true := fun i hi => by
              by_cases e : i = k
              · subst e; rw [HX.out.1, HX.out.2]; exact hp
              · exact hb.out i (by omega)
            have HS := Lib.hid hyes
            clear hyes hp
            go_wp2
            go_roundw
            case rel => exact ⟨k + 1, by omega, by go_num, HS, HB1.out⟩
            case measure => simp [intOf]; omega
      · obtain rfl : k = n := by omega
        have HB := Lib.hid hB
        clear hB
        go_wp2
        go_ret
        exact ⟨ret_bool (ptsB_good (fun i hi => hb.out i (by rw [← HN.out]; exact hi))).symm, HB.out⟩
theorem path_impl (w : World) (a : Option Addr) (c : Nat) (l : List (Int × Int)) (hn : l.length ≤ 1048576) (h : PathAt w a l) :
    Calls Try.prog 95 #[.slice a l.length c] w fun e w' => e = .returned (.bool (pathB l)) ∧ Below w.heap.size w w' := by
  by_cases h8 : l.length ≤ 8
  · obtain ⟨n, hN⟩ : ∃ n, l.length = n := ⟨_, rfl⟩
    have H := Lib.hid (And.intro h (And.intro hN hn))
    have h8' : (n : Int) ≤ 8 := by omega
    rw [hN]
    clear h hN hn
    go_enter Try.func95, Try.ntmps95
    go_wp2_with fail
    rw [← H.out.2.1]
    ((with_reducible refine (allpts_impl w a c l H.out.2.2 H.out.1).mono ?_); rintro e w1 ⟨rfl, bb⟩)
    have HB := Lib.hid bb
    clear bb
    go_wp2
    go_ret
    exact ⟨ret_bool (by simp [pathB, h8]), HB.out⟩
  · have h8' : ¬ (l.length : Int) ≤ 8 := by omega
    clear h
    go_enter Try.func95, Try.ntmps95
    go_wp2
    go_ret
    exact ⟨ret_bool (by simp [pathB, h8]), Below.refl _ _⟩
end Go.Proofs.Ytbdjnfnphilklaa.Ins
namespace Go.Proofs
open Go.Shelf
def Try.laysNm225_ren : Go.Shelf.Ren := ⟨fun | 25 => 139 | 31 => 144 | 32 => 145 | 37 => 148 | n => n, fun | 22 => 27 | 3 => 3 | 4 => 4 | 40 => 114 | 0 => 0 | n => n, fun | n => n⟩
theorem Try.laysNm225 : Go.Proofs.Lays2.n25 Try.prog Try.laysNm225_ren := {
  mixed := by kernel_rfl
  f25 := Try.func139.trans (congrArg some (by kernel_rfl))
  f31 := Try.func144.trans (congrArg some (by kernel_rfl))
  f32 := Try.func145.trans (congrArg some (by kernel_rfl))
  f37 := Try.func148.trans (congrArg some (by kernel_rfl))
  t0 := Try.underlying0
  a0 := Try.isAgg0
  z0 := Try.sizeOf0
  v0 := Try.zeroValue0
  t3 := Try.underlying3
  a3 := Try.isAgg3
  z3 := Try.sizeOf3
  v3 := Try.zeroValue3
  t4 := Try.underlying4
  a4 := Try.isAgg4
  z4 := Try.sizeOf4
  v4 := Try.zeroValue4
  t22 := Try.underlying27
  a22 := Try.isAgg27
  z22 := Try.sizeOf27
  v22 := Try.zeroValue27
  t40 := Try.underlying114
  a40 := Try.isAgg114
  z40 := Try.sizeOf114
  v40 := Try.zeroValue114 }
open Go.RowKit Go.Lib in
theorem Try.slices_BinarySearch_int (b off n c : Nat) (zs : List Int) (x : Int) (w : World) (hz : n ≤ zs.length) (hbig : n < 4611686018427387904) (hc : ∀ j, j < zs.length → w.cell? ⟨b, off + j, none⟩ = some (.int .i64 (zs.getD j 0))) (hs : (zs.take n).Pairwise (· ≤ ·)) :
    Calls Try.prog 139 #[.slice (some ⟨b, off, none⟩) n c, .int .i64 x] w fun e w' => e = .returned (.tuple #[.int .i64 ((zs.take n).countP (· < x) : Nat), .bool ((zs.take n).contains x)]) ∧ ∃ q, w' = w.drewN q := Any.slices_BinarySearch_int Try.laysNm225 b off n c zs x w hz hbig hc hs
def Try.laysNm223_ren : Go.Shelf.Ren := ⟨fun | 23 => 140 | n => n, fun | 22 => 27 | 3 => 3 | 4 => 4 | 0 => 0 | n => n, fun | n => n⟩
theorem Try.laysNm223 : Go.Proofs.Lays2.n23 Try.prog Try.laysNm223_ren := {
  mixed := by kernel_rfl
  f23 := Try.func140.trans (congrArg some (by kernel_rfl))
  t0 := Try.underlying0
  a0 := Try.isAgg0
  z0 := Try.sizeOf0
  v0 := Try.zeroValue0
  t3 := Try.underlying3
  a3 := Try.isAgg3
  z3 := Try.sizeOf3
  v3 := Try.zeroValue3
  t4 := Try.underlying4
  a4 := Try.isAgg4
  z4 := Try.sizeOf4
  v4 := Try.zeroValue4
  t22 := Try.underlying27
  a22 := Try.isAgg27
  z22 := Try.sizeOf27
  v22 := Try.zeroValue27
  i3 := by kernel_rfl }
open Go.RowKit Go.Lib Go.Sort in
theorem Try.slices_Delete_int (blk off cap i j : Nat) (zs : List Int) (w : World) (hH : Holds (Value.int .i64) w blk off zs.toArray) (hcap : zs.length ≤ cap) (hm : cap ≤ 9223372036854775807) (hij : i ≤ j) (hj : j ≤ zs.length) :
    Calls Try.prog 140 #[.slice (some ⟨blk, off, none⟩) zs.length cap, .int .i64 i, .int .i64 j] w fun e w' => e = .returned (.slice (some ⟨blk, off, none⟩) (zs.length - (j - i)) cap) ∧ ∃ q, w' = putRow (Value.int .i64) (Sort.ahead w q) blk off (zs.take i ++ zs.drop j ++ List.replicate (j - i) 0).toArray := Any.slices_Delete_int Try.laysNm223 blk off cap i j zs w hH hcap hm hij hj
open Go.RowKit Go.Lib Go.Sort in
theorem Try.slices_Delete_int_cells (b off n c i j : Nat) (zs : List Int) (w : World) (hz : n ≤ zs.length) (hcap : n ≤ c) (hm : c ≤ 9223372036854775807) (hij : i ≤ j) (hj : j ≤ n) (hc : ∀ j, j < zs.length → w.cell? ⟨b, off + j, none⟩ = some (.int .i64 (zs.getD j 0))) (hf : ∀ j, j < n → w.frozen? ⟨b, off + j, none⟩ = false) :
    Calls Try.prog 140 #[.slice (some ⟨b, off, none⟩) n c, .int .i64 i, .int .i64 j] w fun e w' => e = .returned (.slice (some ⟨b, off, none⟩) (n - (j - i)) c) ∧ ∃ q, w' = (w.drewN q).setCells b off (((zs.take n).take i ++ (zs.take n).drop j ++ List.replicate (j - i) 0).map (Value.int .i64)) := Any.slices_Delete_int_cells Try.laysNm223 b off n c i j zs w hz hcap hm hij hj hc hf
open Go.RowKit Go.Lib in
theorem Try.slices_BinarySearch_int_empty (a : Option Addr) (c : Nat) (x : Int) (w : World) :
    Calls Try.prog 139 #[.slice a 0 c, .int .i64 x] w fun e w' => e = .returned (.tuple #[.int .i64 0, .bool false]) ∧ w' = w := Any.slices_BinarySearch_int_empty Try.laysNm225 a c x w
open Go.RowKit Go.Lib in
theorem Try.slices_Delete_int_empty (a : Option Addr) (c : Nat) (w : World) :
    Calls Try.prog 140 #[.slice a 0 c, .int .i64 0, .int .i64 0] w fun e w' => e = .returned (.slice a 0 c) ∧ w' = w := Any.slices_Delete_int_empty Try.laysNm223 a c w
def Try.laysNm221_ren : Go.Shelf.Ren := ⟨fun | 21 => 141 | 27 => 146 | 28 => 147 | 35 => 149 | 39 => 150 | n => n, fun | 22 => 27 | 3 => 3 | 4 => 4 | 0 => 0 | n => n, fun | n => n⟩
theorem Try.laysNm221 : Go.Proofs.Lays2.n21 Try.prog Try.laysNm221_ren := {
  mixed := by kernel_rfl
  f21 := Try.func141.trans (congrArg some (by kernel_rfl))
  f27 := Try.func146.trans (congrArg some (by kernel_rfl))
  f28 := Try.func147.trans (congrArg some (by kernel_rfl))
  f35 := Try.func149.trans (congrArg some (by kernel_rfl))
  f39 := Try.func150.trans (congrArg some (by kernel_rfl))
  t0 := Try.underlying0
  a0 := Try.isAgg0
  z0 := Try.sizeOf0
  v0 := Try.zeroValue0
  t3 := Try.underlying3
  a3 := Try.isAgg3
  z3 := Try.sizeOf3
  v3 := Try.zeroValue3
  t4 := Try.underlying4
  a4 := Try.isAgg4
  z4 := Try.sizeOf4
  v4 := Try.zeroValue4
  t22 := Try.underlying27
  a22 := Try.isAgg27
  z22 := Try.sizeOf27
  v22 := Try.zeroValue27
  i3 := by kernel_rfl }
def Try.search_ren : Go.Shelf.Ren := ⟨fun | 16 => 142 | n => n, fun | 3 => 3 | 35 => 60 | 4 => 4 | 38 => 114 | n => n, fun | n => n⟩
theorem Try.search : Go.Proofs.SlLaysO.n16 Try.prog Try.search_ren := {
  mixed := by kernel_rfl
  f16 := Try.func142.trans (congrArg some (by kernel_rfl))
  t3 := Try.underlying3
  a3 := Try.isAgg3
  z3 := Try.sizeOf3
  v3 := Try.zeroValue3
  t4 := Try.underlying4
  a4 := Try.isAgg4
  z4 := Try.sizeOf4
  v4 := Try.zeroValue4
  t35 := Try.underlying60
  a35 := Try.isAgg60
  z35 := Try.sizeOf60
  v35 := Try.zeroValue60
  t38 := Try.underlying114
  a38 := Try.isAgg114
  z38 := Try.sizeOf114
  v38 := Try.zeroValue114 }
end Go.Proofs
namespace Go.Proofs.Ytbdjnfnphilklaa.Ins
open Go.ChangeShapes Go.WideShapes Go.ChangeAt Go.RowKit
open Kit Point
set_option linter.unusedVariables false
set_option linter.unusedSimpArgs false
set_option linter.unnecessarySimpa false
def okK (l : List Pt) (k : Nat) : Bool := decide (pX l k < pY l k) && (decide (k = 0) || decide (pY l (k - 1) < pX l k))
def okS (l : List Pt) : Bool := (List.range l.length).all (okK l)
def spB (l : List Pt) : Bool := decide (l.length ≤ 8) && okS l
theorem okS_bad {l : List Pt} {k : Nat} (hk : k < l.length) (h : okK l k = false) : okS l = false := by
  rw [okS, List.all_eq_false]; exact ⟨k, by simpa using hk, by simp [h]⟩
theorem okS_good {l : List Pt} (h : ∀ k, k < l.length → okK l k = true) : okS l = true := by
  rw [okS, List.all_eq_true]; intro k hk; exact h k (by simpa using hk)
theorem okS_at {l : List Pt} (h : okS l = true) {k : Nat} (hk : k < l.length) : okK l k = true := by
  rw [okS, List.all_eq_true] at h; exact h k (by simpa using hk)
theorem spB_bad {l : List Pt} {k : Nat} (hk : k < l.length) (h : okK l k = false) : spB l = false := by simp [spB, okS_bad hk h]
theorem pX_succ (p : Pt) (l : List Pt) (k : Nat) : pX (p :: l) (k + 1) = pX l k := by simp [pX]
theorem pY_succ (p : Pt) (l : List Pt) (k : Nat) : pY (p :: l) (k + 1) = pY l k := by simp [pY]
theorem pX_zero (p : Pt) (l : List Pt) : pX (p :: l) 0 = p.1 := by simp [pX]
theorem pY_zero (p : Pt) (l : List Pt) : pY (p :: l) 0 = p.2 := by simp [pY]
theorem okS_cons (p q : Pt) (r : List Pt) : okS (p :: q :: r) = (decide (p.1 < p.2) && decide (p.2 < q.1) && okS (q :: r)) := by
  cases hb : okS (p :: q :: r) with
  | true =>
    have h0 := okS_at hb (k := 0) (by simp)
    have h1 := okS_at hb (k := 1) (by simp)
    simp only [okK, pX_succ, pY_succ, pX_zero, pY_zero, Nat.sub_self, Bool.and_eq_true, decide_eq_true_eq, Bool.or_eq_true] at h0 h1
    have h2 : okS (q :: r) = true := okS_good fun k hk => by
      have := okS_at hb (k := k + 1) (by simpa using hk)
      simp only [okK, pX_succ, pY_succ, Bool.and_eq_true, decide_eq_true_eq, Bool.or_eq_true, Nat.add_sub_cancel] at this ⊢
      refine ⟨this.1, ?_⟩
      cases k with
      | zero => exact .inl rfl
      | succ j => right; rcases this.2 with h | h
                  · omega
                  · rw [pY_succ] at h; exact h
    simp [h0, h1, h2]; omega
  | false =>
    cases h1 : (decide (p.1 < p.2) && decide (p.2 < q.1) && okS (q :: r)) with
    | false => rfl
    | true =>
      simp only [Bool.and_eq_true, decide_eq_true_eq] at h1
      have : okS (p :: q :: r) = true := okS_good fun k hk => by
        cases k with
        | zero => simp [okK, pX_zero, pY_zero, h1.1.1]
        | succ j =>
          have h3 := okS_at h1.2 (k := j) (by simpa using hk)
          simp only [okK, pX_succ, pY_succ, Bool.and_eq_true, decide_eq_true_eq, Bool.or_eq_true, Nat.add_sub_cancel] at h3 ⊢
          refine ⟨h3.1, .inr ?_⟩
          cases j with
          | zero => rw [pY_zero, pX_zero]; exact h1.1.2
          | succ i => rcases h3.2 with h | h
                      · omega
                      · rw [pY_succ]; exact h
      rw [this] at hb; cases hb
theorem sep_iff : ∀ l : List Pt, okS l = true ↔ Sep l
  | [] => by simp [okS, Sep]
  | [p] => by
    have : okS [p] = decide (p.1 < p.2) := by simp [okS, okK, pX, pY, List.range_succ]
    rw [this]; simp [Sep]
  | p :: q :: r => by
    rw [okS_cons, Bool.and_eq_true, Bool.and_eq_true, decide_eq_true_eq, decide_eq_true_eq, sep_iff (q :: r)]
    constructor
    · rintro ⟨⟨h1, h2⟩, h3⟩
      refine ⟨h1, fun x hx => ?_, h3⟩
      rcases List.mem_cons.1 hx with rfl | hx
      · exact h2
      · have := h3.1; have := h3.2.1 x hx; omega
    · rintro ⟨h1, h2, h3⟩
      exact ⟨⟨h1, h2 q (by simp)⟩, h3⟩
def colB (l : List Pt) : Bool := l.all fun p => decide (p.1 < p.2)
theorem getk (l : List Pt) {k : Nat} (h : k < l.length) : l[k] = (pX l k, pY l k) := by simp [pX, pY, List.getD, h]
theorem colB_bad {l : List Pt} {k : Nat} (hk : k < l.length) (h : ¬ pX l k < pY l k) : colB l = false := by
  rw [colB, List.all_eq_false]; exact ⟨l[k], List.getElem_mem hk, by rw [getk l hk]; simpa using h⟩
theorem colB_good {l : List Pt} (h : ∀ k, k < l.length → pX l k < pY l k) : colB l = true := by
  rw [colB, List.all_eq_true]; intro p hp
  obtain ⟨k, hk, rfl⟩ := List.getElem_of_mem hp
  rw [getk l hk]; simpa using h k hk
theorem colB_at {l : List Pt} (h : colB l = true) {k : Nat} (hk : k < l.length) : pX l k < pY l k := by
  rw [colB, List.all_eq_true] at h
  have := h _ (List.getElem_mem hk)
  rw [getk l hk] at this; simpa using this
theorem PathAt.cells {w : World} {g : Nat} {l : List Pt} (h : PathAt w (some ⟨g, 0, none⟩) l) {k : Nat} (hk : k < l.length) : g < w.heap.size ∧ w.cell? ⟨g, k * 2, none⟩ = some (.int .i64 (pX l k)) ∧ w.cell? ⟨g, k * 2 + 1, none⟩ = some (.int .i64 (pY l k)) := by
  rcases h with rfl | ⟨g', hg', hlg, hc⟩
  · simp at hk
  · injection hg' with hg'
    injection hg' with hg'
    subst hg'
    exact ⟨hlg, hc k hk⟩
theorem hasc_impl (x y : Int) (w : World) : Calls Try.prog 119 #[.agg #[.int .i64 x, .int .i64 y]] w fun e w' => e = .returned (.bool (decide (x < y))) ∧ Below w.heap.size w w' := by
  by_cases h : x < y
  all_goals
    go_enter Try.func119, Try.ntmps119
    go_wp2
    go_ret
    exact ⟨ret_bool (by simp [h]), by go_grown⟩
set_option maxHeartbeats 1000000 in
theorem allcols_impl (w : World) (a : Option Addr) (c : Nat) (l : List Pt) (hn : l.length ≤ 1048576) (h : PathAt w a l) :
    Calls Try.prog 129 #[.slice a l.length c, .func (.func 119) #[] #[]] w fun e w' => e = .returned (.bool (colB l)) ∧ Below w.heap.size w w' := by
  have HP := Lib.hid h
  rcases h with rfl | ⟨g, rfl, hg, _⟩
  · go_enter Try.func129, Try.ntmps129
    go_wp2
    go_rounds 1
    go_ret
    exact ⟨rfl, Below.refl _ _⟩
  · obtain ⟨n, hN⟩ : ∃ n, l.length = n := ⟨_, rfl⟩
    have HN := Lib.hid hN
    rw [hN] at hn ⊢
    clear hN
    go_enter Try.func129, Try.ntmps129
    go_wp2
    go_loopw [9] (fun v9 wr => ∃ k : Nat, k ≤ n ∧ v9 = .int .i64 (k : Int) ∧ Hid (∀ i, i < k → pX l i < pY l i) ∧ Below w.heap.size w wr) (fun v9 _ => n - (intOf v9).toNat)
    case atStart => exact ⟨0, Nat.zero_le _, rfl, Lib.hid (fun i hi => absurd hi (Nat.not_lt_zero i)), Below.refl _ _⟩
    case round =>
      obtain ⟨k, hk, rfl, hb, hB⟩ := hrel
      by_cases hlt : k < n
      · obtain ⟨hlg, q1, q2⟩ := (HP.out.on hB).cells (k := k) (by rw [HN.out]; exact hlt)
        obtain ⟨x, hx⟩ : ∃ x, pX l k = x := ⟨_, rfl⟩
        obtain ⟨y, hy⟩ : ∃ y, pY l k = y := ⟨_, rfl⟩
        rw [hx] at q1; rw [hy] at q2
        have i0 : (0 : Int) ≤ (k : Int) := by omega
        have i1 : (k : Int) < (n : Int) := by omega
        have HX := Lib.hid (And.intro hx hy)
        clear hx hy
        have HB := Lib.hid hB
        clear hB
        go_wp2_with fail
        ((with_reducible refine (hasc_impl x y _).mono ?_); rintro e w1 ⟨rfl, bb⟩)
        have HB1 := Lib.hid (on_of (HB.out.alloc HB.out.size _) bb)
        clear bb
        by_cases hp : x < y
        · have hyes : ∀ i, i < k + 1 → pX l i < pY l i := fun i hi => by
            by_cases e : i = k
            · subst e; rw [HX.out.1, HX.out.2]; exact hp
            · exact hb.out i (by omega)
          have HS := Lib.hid hyes
          rw [decide_eq_true hp]
          clear hyes hp
          go_wp2
          go_roundw
          case rel => exact ⟨k + 1, by omega, by go_num, HS, HB1.out⟩
          case measure => simp [intOf]; omega
        · have hno : colB l = false := colB_bad (k := k) (by rw [HN.out]; exact hlt) (by rw [HX.out.1, HX.out.2]; exact hp)
          have HS := Lib.hid hno
          rw [decide_eq_false hp]
          clear hno hp
          go_wp2
          go_ret
          exact ⟨ret_bool HS.out.symm, HB1.out⟩
      · obtain rfl : k = n := by omega
        have HB := Lib.hid hB
        clear hB
        go_wp2
        go_ret
        exact ⟨ret_bool (colB_good (fun i hi => hb.out i (by rw [← HN.out]; exact hi))).symm, HB.out⟩
set_option maxRecDepth 100000 in
set_option maxHeartbeats 1000000 in
theorem sok_impl (w : World) (a : Option Addr) (c : Nat) (l : List Pt) (hn : l.length ≤ 1048576) (h : PathAt w a l) :
    Calls Try.prog 118 #[.slice a l.length c] w fun e w' => e = .returned (.bool (spB l)) ∧ Below w.heap.size w w' := by
  have H := Lib.hid (And.intro h hn)
  obtain ⟨n, hN⟩ : ∃ n, l.length = n := ⟨_, rfl⟩
  have hca := allcols_impl w a c l hn h
  have HC := Lib.hid hca
  have HN := Lib.hid hN
  rw [hN] at hn ⊢
  clear hca
  by_cases h8 : n ≤ 8
  · have h8i : ¬ ((n : Int) > 8) := by omega
    rw [hN] at HC
    cases hcol : colB l
    · have hv : spB l = false := by
        cases hs : okS l
        · simp [spB, hs]
        · have : colB l = true := colB_good fun k hk => by
            have := okS_at hs hk
            simp only [okK, Bool.and_eq_true, decide_eq_true_eq] at this; exact this.1
          rw [this] at hcol; cases hcol
      have HV := Lib.hid hv
      have HL := Lib.hid hcol
      clear hv hcol hN h
      go_enter Try.func118, Try.ntmps118
      go_wp2_with fail
      ((with_reducible refine HC.out.mono ?_); rintro e w1 ⟨rfl, bb⟩)
      have HB := Lib.hid bb
      clear bb
      rw [HL.out]
      go_wp2
      go_ret
      exact ⟨ret_bool HV.out.symm, HB.out⟩
    · have HL := Lib.hid hcol
      clear hcol hN
      rcases h with rfl | ⟨g, rfl, hg, _⟩
      · obtain rfl : 0 = n := HN.out
        go_enter Try.func118, Try.ntmps118
        go_wp2_with fail
        ((with_reducible refine HC.out.mono ?_); rintro e w1 ⟨rfl, bb⟩)
        have HB := Lib.hid bb
        clear bb
        rw [HL.out]
        go_wp2
        go_rounds 1
        go_ret
        exact ⟨rfl, HB.out⟩
      · go_enter Try.func118, Try.ntmps118
        go_wp2_with fail
        ((with_reducible refine HC.out.mono ?_); rintro e w1 ⟨rfl, bb⟩)
        have HB := Lib.hid bb
        clear bb
        rw [HL.out]
        go_wp2
        go_loopw [3] (fun v3 wr => ∃ k : Nat, v3 = .int .i64 ((k : Int) + 1) ∧ (k = 0 ∨ k < n) ∧ Hid (∀ i, i < k + 1 → i < n → okK l i = true) ∧ Below w.heap.size w wr) (fun v3 _ => n - (intOf v3).toNat)
        case atStart =>
          refine ⟨0, rfl, .inl rfl, Lib.hid fun i hi hin => ?_, HB.out⟩
          obtain rfl : i = 0 := by omega
          have := colB_at HL.out (k := 0) (by rw [HN.out]; exact hin)
          simp [okK, this]
        case round =>
          obtain ⟨k, rfl, hk, hb, hB⟩ := hrel
          by_cases hlt : k + 1 < n
          · obtain ⟨_, _, q2⟩ := (H.out.1.on hB).cells (k := k) (by rw [HN.out]; omega)
            obtain ⟨hlg, q1, _⟩ := (H.out.1.on hB).cells (k := k + 1) (by rw [HN.out]; exact hlt)
            have hkk : okK l (k + 1) = decide (pY l k < pX l (k + 1)) := by
              have := colB_at HL.out (k := k + 1) (by rw [HN.out]; exact hlt)
              simp [okK, this]
            obtain ⟨x, hx⟩ : ∃ x, pX l (k + 1) = x := ⟨_, rfl⟩
            obtain ⟨y, hy⟩ : ∃ y, pY l k = y := ⟨_, rfl⟩
            rw [hx, hy] at hkk
            rw [hx] at q1; rw [hy] at q2
            have HX := Lib.hid hkk
            have i0 : (0 : Int) ≤ (k : Int) := by omega
            have i1 : (k : Int) < (n : Int) := by omega
            have i2 : (k : Int) + 1 < (n : Int) := by omega
            have i3 : (0 : Int) ≤ (k : Int) + 1 := by omega
            have hw : IntKind.i64.wrap (k : Int) = (k : Int) := by rw [IntKind.wrap_i64]; omega
            clear hx hy hkk
            have HB := Lib.hid hB
            clear hB
            have hwr : wr.drew.heap.size = wr.heap.size := rfl
            have q1 : wr.drew.cell? ⟨g, (k + 1) * 2, none⟩ = some (.int .i64 x) := q1
            have q2 : wr.drew.cell? ⟨g, k * 2 + 1, none⟩ = some (.int .i64 y) := q2
            go_wp2
            refine wp_region_still_lit (by kernel_rfl) (by kernel_rfl) ?_
            change wpStill _ _ wr.drew (fun a' => Exit.then _ _ Exit.normal a' wr.drew) _ _
            have HBd : Hid (Below w.heap.size w wr.drew) := Lib.hid (HB.out.trans ⟨rfl, rfl, rfl, Nat.le_refl _, fun _ _ => rfl⟩)
            generalize wr.drew = wd at *
            repeat still_step
            refine wpStill_nil ?_
            clear q1 q2 hwr hw i0 i1 i3
            by_cases hyx : y < x
            · rw [show decide (x ≤ y) = false by simp; omega]
              have hyes : ∀ i, i < k + 1 + 1 → i < n → okK l i = true := fun i hi hin => by
                by_cases e : i = k + 1
                · subst e; rw [HX.out]; simpa using hyx
                · exact hb.out i (by omega) hin
              have HS := Lib.hid hyes
              clear hyes hyx
              have hw1 : IntKind.i64.wrap ((k : Int) + 1 + 1) = (k : Int) + 1 + 1 := by rw [IntKind.wrap_i64]; omega
              go_wp2
              go_roundw
              case rel => exact ⟨k + 1, by go_num, .inr (by omega), HS, HBd.out⟩
              case measure => simp [intOf]; omega
            · rw [show decide (x ≤ y) = true by simp; omega]
              have hno : spB l = false := spB_bad (k := k + 1) (by rw [HN.out]; exact hlt) (by rw [HX.out]; simpa using hyx)
              have HS := Lib.hid hno
              clear hno hyx
              go_wp2
              go_ret
              exact ⟨ret_bool HS.out.symm, HBd.out⟩
          · have hyes : spB l = true := by
              have : okS l = true := okS_good fun i hi => hb.out i (by have := HN.out; omega) (by rw [← HN.out]; exact hi)
              simp [spB, this]; have := HN.out; omega
            have HS := Lib.hid hyes
            have i4 : ¬ ((k : Int) + 1 < (n : Int)) := by omega
            have HB := Lib.hid hB
            clear hyes hB
            go_wp2
            go_ret
            exact ⟨ret_bool HS.out.symm, HB.out⟩
  · have hv : spB l = false := by simp [spB]; intro h; omega
    have HV := Lib.hid hv
    have h8i : (n : Int) > 8 := by omega
    clear hv hN h HC
    go_enter Try.func118, Try.ntmps118
    go_wp2
    go_ret
    exact ⟨ret_bool HV.out.symm, Below.refl _ _⟩
end Go.Proofs.Ytbdjnfnphilklaa.Ins
