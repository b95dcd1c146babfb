/-
  Texts of this seat, laid together: OwnFlat, Pti8, Shelf
-/
import Derived.LoopTactic
import Derived.OwnWalk
import Derived.WalkKit
import Derived.Handy
import Derived.Lib.Hide
import Derived.Shelf.Small.Wraps
import Derived.Shelf.Slices.Reverse
import Derived.Ground.Names2Prog
import Derived.Shelf.Slices.SearchI
import Derived.Shelf.Slices.Delete
import Derived.Shelf.Slices.Cells
import Derived.Shelf.Slices.Empties
import Derived.Shelf.SlGeneric
import Derived.Shelf.Spec.SlicesInsert
import Derived.Shelf.Spec.SlicesInsertGrow
import Derived.Shelf.SlSorted.Search
import Derived.Shelf.SlicesQ.IndexFunc
import Derived.Ground.SlsoProg
import Derived.Ground.SlgfProg
import Derived.Test.YtbdjnfnphilklaaProg
import Derived.Test.YtbdjnfnphilklaaM02
import Derived.Test.YtbdjnfnphilklaaM03
import Derived.Test.YtbdjnfnphilklaaM06
namespace Go.Proofs.Ytbdjnfnphilklaa.Own
open Go.ChangeShapes Go.WideShapes Go.ChangeAt Go.RowKit
open Kit Slabs
set_option linter.unusedVariables false
set_option linter.unusedSimpArgs false
set_option linter.unnecessarySimpa false
theorem rows_flat {w : World} {e : Kd} {g : Nat} : ∀ (n o : Nat) (F : Nat → List Value) (D : Nat → Dt), (∀ i, i < n → Own w e (F i) (D i) []) → (∀ i, i < n → ∀ j u, (F i)[j]? = some u → w.cell? ⟨g, o + i * e.sz + j, none⟩ = some u) → Rows w e g o ((List.range n).map D) []
  | 0, o, F, D, _, _ => .nil
  | n + 1, o, F, D, h, hc => by
    have h1 := rows_flat n (o + e.sz) (fun i => F (i + 1)) (fun i => D (i + 1)) (fun i hi => h (i + 1) (by omega)) (fun i hi j u hu => by
      have := hc (i + 1) (by omega) j u hu
      rw [Nat.succ_mul] at this
      rw [show o + e.sz + i * e.sz + j = o + (i * e.sz + e.sz) + j by omega]
      exact this)
    have h2 := Rows.cons (w := w) (e := e) (g := g) (o := o) (fun j u hu => by have := hc 0 (by omega) j u hu; simpa using this) (h 0 (by omega)) h1
    rw [List.range_succ_eq_map, List.map_cons, List.map_map]
    exact h2
theorem own_of_slab {w : World} {B n c : Nat} {v : Value} {F : Nat → List Value} {e : Kd} {D : Nat → Dt} (h : Slab w B v n c F) (hc : e.sz = c) (hF : ∀ i, i < n → Own w e (F i) (D i) []) :
    Own w (.sl e) [v] (.sl ((List.range n).map D)) (rowOf n v).toList := by
  obtain ⟨a, cap, rfl, hnc, h⟩ := h
  by_cases hn : n = 0
  · subst hn
    exact .nil a cap
  · rcases h with h | ⟨g, rfl, h1, h2, h3, h4⟩
    · exact absurd h hn
    · have hrow : rowOf n (.slice (some ⟨g, 0, none⟩) n cap) = some g := by simp [rowOf, hn, Value.ownBlock]
      rw [hrow]
      refine .sl (by simp) hn hnc h2 h3 (rows_flat n 0 F D hF (fun i hi j u hu => ?_))
      have := h4 i hi j u hu
      rw [hc, Nat.zero_add]; exact this
theorem nodup_row (r : Option Nat) : r.toList.Nodup := by cases r <;> simp
theorem rows_at {w : World} : ∀ {e : Kd} {g o : Nat} {ds : List Dt} {fp : List Nat}, Rows w e g o ds fp → ∀ i (h : i < ds.length), ∃ cs fpi, Own w e cs ds[i] fpi ∧ (∀ b ∈ fpi, b ∈ fp) ∧ ∀ j u, cs[j]? = some u → w.cell? ⟨g, o + i * e.sz + j, none⟩ = some u
  | _, _, _, _, _, .nil, i, h => by simp at h
  | e, g, o, _, _, .cons (cs := cs) (d := d) (fp := fp) (ds := ds) (fp' := fp') hc hd r, i, h => by
    cases i with
    | zero => exact ⟨cs, fp, hd, fun b hb => List.mem_append_left _ hb, fun j u hu => by have := hc j u hu; simpa using this⟩
    | succ i =>
      obtain ⟨cs2, fpi, h1, h2, h3⟩ := rows_at r i (by simpa using h)
      refine ⟨cs2, fpi, h1, fun b hb => List.mem_append_right _ (h2 b hb), fun j u hu => ?_⟩
      have := h3 j u hu
      rw [Nat.succ_mul, show o + (i * e.sz + e.sz) + j = o + e.sz + i * e.sz + j by omega]
      exact this
theorem camer_at {w : World} : ∀ {e : Kd} {g o : Nat} {ds : List Dt}, CameR w e g o ds → ∀ i (h : i < ds.length), ∃ cs, Came w e cs ds[i] ∧ ∀ j u, cs[j]? = some u → w.cell? ⟨g, o + i * e.sz + j, none⟩ = some u
  | _, _, _, _, .nil, i, h => by simp at h
  | e, g, o, _, .cons (cs := cs) (d := d) (ds := ds) hc hd r, i, h => by
    cases i with
    | zero => exact ⟨cs, hd, fun j u hu => by have := hc j u hu; simpa using this⟩
    | succ i =>
      obtain ⟨cs2, h1, h3⟩ := camer_at r i (by simpa using h)
      refine ⟨cs2, h1, fun j u hu => ?_⟩
      have := h3 j u hu
      rw [Nat.succ_mul, show o + (i * e.sz + e.sz) + j = o + e.sz + i * e.sz + j by omega]
      exact this
def Dt.num : Dt → Int
  | .int n => n
  | _ => 0
theorem slab_of_ints {w : World} {v : Value} {d : Dt} {fp : List Nat} (h : Own w (.sl .int) [v] d fp) {B : Nat} (hB : ∀ b ∈ fp, B ≤ b) :
    ∃ es : List Dt, d = .sl es ∧ es = (List.range es.length).map (fun i => .int ((es.getD i (.int 0)).num)) ∧ Slab w B v es.length 1 (fun i => [.int .i64 ((es.getD i (.int 0)).num)]) ∧ ∀ b, b ∈ fp ↔ rowOf es.length v = some b := by
  cases h with
  | nil a cap => exact ⟨[], rfl, rfl, ⟨a, cap, rfl, Nat.zero_le _, .inl rfl⟩, fun b => by simp [rowOf]⟩
  | @sl _ g n cap es fp hl hn hnc hg hf hr =>
    have key : ∀ i (h : i < es.length), es[i] = .int ((es.getD i (.int 0)).num) ∧ w.cell? ⟨g, i, none⟩ = some (.int .i64 ((es.getD i (.int 0)).num)) := by
      intro i hi
      obtain ⟨cs, fpi, h1, _, h3⟩ := rows_at hr i hi
      have hgd : es.getD i (.int 0) = es[i] := by simp [List.getD, List.getElem?_eq_getElem hi]
      rw [hgd]
      generalize es[i] = x at h1 ⊢
      cases h1 with
      | int m => exact ⟨rfl, by have := h3 0 _ rfl; simpa [Kd.sz, Dt.num] using this⟩
    have hfp : fp = [] := by
      have : ∀ {o : Nat} {ds : List Dt} {fp : List Nat}, Rows w .int g o ds fp → fp = [] := by
        intro o ds
        induction ds generalizing o with
        | nil => intro fp h; cases h; rfl
        | cons d ds ih =>
          intro fp h
          cases h with
          | cons hc hd r =>
            have h1 := ih r
            cases hd
            rw [h1]; rfl
      exact this hr
    subst hfp
    refine ⟨es, rfl, ?_, ⟨_, cap, by rw [hl], by omega, .inr ⟨g, rfl, hB g (List.mem_singleton.2 rfl), hg, hf, fun i hi j u hu => ?_⟩⟩, fun b => ?_⟩
    · apply List.ext_getElem
      · simp
      · intro i h1 h2
        simp only [List.getElem_map, List.getElem_range]
        exact (key i h1).1
    · have hj : j = 0 := by
        have := (List.getElem?_eq_some_iff.1 hu).1
        simp at this; omega
      subst hj
      simp only [List.getElem?_cons_zero, Option.some.injEq] at hu
      subst hu
      have := (key i hi).2
      simpa using this
    · have hne : ¬ es.length = 0 := by omega
      simp only [rowOf, if_neg hne, Value.ownBlock, List.mem_singleton, Option.some.injEq]
      exact ⟨fun h => h.symm, fun h => h.symm⟩
end Go.Proofs.Ytbdjnfnphilklaa.Own
namespace Go.Proofs.Ytbdjnfnphilklaa.Ins
open Go.ChangeShapes Go.WideShapes Go.ChangeAt Go.RowKit
open Kit Point
set_option linter.unusedVariables false
set_option linter.unusedSimpArgs false
set_option linter.unnecessarySimpa false
set_option maxHeartbeats 1000000 in
theorem allpts_impl (w : World) (a : Option Addr) (c : Nat) (l : List (Int × Int)) (hn : l.length ≤ 1048576) (h : PathAt w a l) :
    Calls Try.prog 114 #[.slice a l.length c, .func (.func 115) #[] #[]] w fun e w' => e = .returned (.bool (ptsB l)) ∧ Below w.heap.size w w' := by
  have HP := Lib.hid h
  rcases h with rfl | ⟨g, rfl, hg, _⟩
  · go_enter Try.func114, Try.ntmps114
    go_wp2
    go_rounds 1
    go_ret
    exact ⟨rfl, Below.refl _ _⟩
  · obtain ⟨n, hN⟩ : ∃ n, l.length = n := ⟨_, rfl⟩
    have HN := Lib.hid hN
    rw [hN] at hn ⊢
    clear hN
    go_enter Try.func114, Try.ntmps114
    go_wp2
    go_loopw [9] (fun v9 wr => ∃ k : Nat, k ≤ n ∧ v9 = .int .i64 (k : Int) ∧ Hid (∀ i, i < k → pokB (pX l i) (pY l i) = true) ∧ Below w.heap.size w wr) (fun v9 _ => n - (intOf v9).toNat)
    case atStart => exact ⟨0, Nat.zero_le _, rfl, Lib.hid (fun i hi => absurd hi (Nat.not_lt_zero i)), Below.refl _ _⟩
    case round =>
      obtain ⟨k, hk, rfl, hb, hB⟩ := hrel
      by_cases hlt : k < n
      · have hP := HP.out.on hB
        rcases hP with he | ⟨g', hg', hlg, hc⟩
        · have := HN.out; rw [he] at this; simp at this; omega
        · injection hg' with hg'
          injection hg' with hg'
          subst hg'
          have q := hc k (by rw [HN.out]; exact hlt)
          obtain ⟨q1, q2⟩ := q
          obtain ⟨x, hx⟩ : ∃ x, pX l k = x := ⟨_, rfl⟩
          obtain ⟨y, hy⟩ : ∃ y, pY l k = y := ⟨_, rfl⟩
          rw [hx] at q1; rw [hy] at q2
          have i0 : (0 : Int) ≤ (k : Int) := by omega
          have i1 : (k : Int) < (n : Int) := by omega
          have HX := Lib.hid (And.intro hx hy)
          clear hx hy hc
          have HB := Lib.hid hB
          clear hB
          go_wp2_with fail
          ((with_reducible refine (pok_impl x y _).mono ?_); rintro e w1 ⟨rfl, bb⟩)
          have hB1 := on_of (HB.out.alloc HB.out.size _) bb
          have HB1 := Lib.hid hB1
          clear hB1 bb
          cases hp : pokB x y
          · have hno : ptsB l = false := by exact ptsB_bad (by rw [HN.out]; exact hlt) (by rw [HX.out.1, HX.out.2]; exact hp)
            have HS := Lib.hid hno
            clear hno hp
            go_wp2
            go_ret
            exact ⟨ret_bool HS.out.symm, HB1.out⟩
          · have hyes : ∀ i, i < k + 1 → pokB (pX l i) (pY l i) = true := fun i hi => by
              by_cases e : i = k
              · subst e; rw [HX.out.1, HX.out.2]; exact hp
              · exact hb.out i (by omega)
            have HS := Lib.hid hyes
            clear hyes hp
            go_wp2
            go_roundw
            case rel => exact ⟨k + 1, by omega, by go_num, HS, HB1.out⟩
            case measure => simp [intOf]; omega
      · obtain rfl : k = n := by omega
        have HB := Lib.hid hB
        clear hB
        go_wp2
        go_ret
        exact ⟨ret_bool (ptsB_good (fun i hi => hb.out i (by rw [← HN.out]; exact hi))).symm, HB.out⟩
theorem path_impl (w : World) (a : Option Addr) (c : Nat) (l : List (Int × Int)) (hn : l.length ≤ 1048576) (h : PathAt w a l) :
    Calls Try.prog 95 #[.slice a l.length c] w fun e w' => e = .returned (.bool (pathB l)) ∧ Below w.heap.size w w' := by
  by_cases h8 : l.length ≤ 8
  · obtain ⟨n, hN⟩ : ∃ n, l.length = n := ⟨_, rfl⟩
    have H := Lib.hid (And.intro h (And.intro hN hn))
    have h8' : (n : Int) ≤ 8 := by omega
    rw [hN]
    clear h hN hn
    go_enter Try.func95, Try.ntmps95
    go_wp2_with fail
    rw [← H.out.2.1]
    ((with_reducible refine (allpts_impl w a c l H.out.2.2 H.out.1).mono ?_); rintro e w1 ⟨rfl, bb⟩)
    have HB := Lib.hid bb
    clear bb
    go_wp2
    go_ret
    exact ⟨ret_bool (by simp [pathB, h8]), HB.out⟩
  · have h8' : ¬ (l.length : Int) ≤ 8 := by omega
    clear h
    go_enter Try.func95, Try.ntmps95
    go_wp2
    go_ret
    exact ⟨ret_bool (by simp [pathB, h8]), Below.refl _ _⟩
end Go.Proofs.Ytbdjnfnphilklaa.Ins
namespace Go.Proofs
open Go.Shelf
def Try.laysNm225_ren : Go.Shelf.Ren := ⟨fun | 25 => 139 | 31 => 144 | 32 => 145 | 37 => 148 | n => n, fun | 22 => 27 | 3 => 3 | 4 => 4 | 40 => 114 | 0 => 0 | n => n, fun | n => n⟩
theorem Try.laysNm225 : Go.Proofs.Lays2.n25 Try.prog Try.laysNm225_ren := {
  mixed := by kernel_rfl
  f25 := Try.func139.trans (congrArg some (by kernel_rfl))
  f31 := Try.func144.trans (congrArg some (by kernel_rfl))
  f32 := Try.func145.trans (congrArg some (by kernel_rfl))
  f37 := Try.func148.trans (congrArg some (by kernel_rfl))
  t0 := Try.underlying0
  a0 := Try.isAgg0
  z0 := Try.sizeOf0
  v0 := Try.zeroValue0
  t3 := Try.underlying3
  a3 := Try.isAgg3
  z3 := Try.sizeOf3
  v3 := Try.zeroValue3
  t4 := Try.underlying4
  a4 := Try.isAgg4
  z4 := Try.sizeOf4
  v4 := Try.zeroValue4
  t22 := Try.underlying27
  a22 := Try.isAgg27
  z22 := Try.sizeOf27
  v22 := Try.zeroValue27
  t40 := Try.underlying114
  a40 := Try.isAgg114
  z40 := Try.sizeOf114
  v40 := Try.zeroValue114 }
open Go.RowKit Go.Lib in
theorem Try.slices_BinarySearch_int (b off n c : Nat) (zs : List Int) (x : Int) (w : World) (hz : n ≤ zs.length) (hbig : n < 4611686018427387904) (hc : ∀ j, j < zs.length → w.cell? ⟨b, off + j, none⟩ = some (.int .i64 (zs.getD j 0))) (hs : (zs.take n).Pairwise (· ≤ ·)) :
    Calls Try.prog 139 #[.slice (some ⟨b, off, none⟩) n c, .int .i64 x] w fun e w' => e = .returned (.tuple #[.int .i64 ((zs.take n).countP (· < x) : Nat), .bool ((zs.take n).contains x)]) ∧ ∃ q, w' = w.drewN q := Any.slices_BinarySearch_int Try.laysNm225 b off n c zs x w hz hbig hc hs
def Try.laysNm223_ren : Go.Shelf.Ren := ⟨fun | 23 => 140 | n => n, fun | 22 => 27 | 3 => 3 | 4 => 4 | 0 => 0 | n => n, fun | n => n⟩
theorem Try.laysNm223 : Go.Proofs.Lays2.n23 Try.prog Try.laysNm223_ren := {
  mixed := by kernel_rfl
  f23 := Try.func140.trans (congrArg some (by kernel_rfl))
  t0 := Try.underlying0
  a0 := Try.isAgg0
  z0 := Try.sizeOf0
  v0 := Try.zeroValue0
  t3 := Try.underlying3
  a3 := Try.isAgg3
  z3 := Try.sizeOf3
  v3 := Try.zeroValue3
  t4 := Try.underlying4
  a4 := Try.isAgg4
  z4 := Try.sizeOf4
  v4 := Try.zeroValue4
  t22 := Try.underlying27
  a22 := Try.isAgg27
  z22 := Try.sizeOf27
  v22 := Try.zeroValue27
  i3 := by kernel_rfl }
open Go.RowKit Go.Lib Go.Sort in
theorem Try.slices_Delete_int (blk off cap i j : Nat) (zs : List Int) (w : World) (hH : Holds (Value.int .i64) w blk off zs.toArray) (hcap : zs.length ≤ cap) (hm : cap ≤ 9223372036854775807) (hij : i ≤ j) (hj : j ≤ zs.length) :
    Calls Try.prog 140 #[.slice (some ⟨blk, off, none⟩) zs.length cap, .int .i64 i, .int .i64 j] w fun e w' => e = .returned (.slice (some ⟨blk, off, none⟩) (zs.length - (j - i)) cap) ∧ ∃ q, w' = putRow (Value.int .i64) (Sort.ahead w q) blk off (zs.take i ++ zs.drop j ++ List.replicate (j - i) 0).toArray := Any.slices_Delete_int Try.laysNm223 blk off cap i j zs w hH hcap hm hij hj
open Go.RowKit Go.Lib Go.Sort in
theorem Try.slices_Delete_int_cells (b off n c i j : Nat) (zs : List Int) (w : World) (hz : n ≤ zs.length) (hcap : n ≤ c) (hm : c ≤ 9223372036854775807) (hij : i ≤ j) (hj : j ≤ n) (hc : ∀ j, j < zs.length → w.cell? ⟨b, off + j, none⟩ = some (.int .i64 (zs.getD j 0))) (hf : ∀ j, j < n → w.frozen? ⟨b, off + j, none⟩ = false) :
    Calls Try.prog 140 #[.slice (some ⟨b, off, none⟩) n c, .int .i64 i, .int .i64 j] w fun e w' => e = .returned (.slice (some ⟨b, off, none⟩) (n - (j - i)) c) ∧ ∃ q, w' = (w.drewN q).setCells b off (((zs.take n).take i ++ (zs.take n).drop j ++ List.replicate (j - i) 0).map (Value.int .i64)) := Any.slices_Delete_int_cells Try.laysNm223 b off n c i j zs w hz hcap hm hij hj hc hf
open Go.RowKit Go.Lib in
theorem Try.slices_BinarySearch_int_empty (a : Option Addr) (c : Nat) (x : Int) (w : World) :
    Calls Try.prog 139 #[.slice a 0 c, .int .i64 x] w fun e w' => e = .returned (.tuple #[.int .i64 0, .bool false]) ∧ w' = w := Any.slices_BinarySearch_int_empty Try.laysNm225 a c x w
open Go.RowKit Go.Lib in
theorem Try.slices_Delete_int_empty (a : Option Addr) (c : Nat) (w : World) :
    Calls Try.prog 140 #[.slice a 0 c, .int .i64 0, .int .i64 0] w fun e w' => e = .returned (.slice a 0 c) ∧ w' = w := Any.slices_Delete_int_empty Try.laysNm223 a c w
def Try.laysNm221_ren : Go.Shelf.Ren := ⟨fun | 21 => 141 | 27 => 146 | 28 => 147 | 35 => 149 | 39 => 150 | n => n, fun | 22 => 27 | 3 => 3 | 4 => 4 | 0 => 0 | n => n, fun | n => n⟩
theorem Try.laysNm221 : Go.Proofs.Lays2.n21 Try.prog Try.laysNm221_ren := {
  mixed := by kernel_rfl
  f21 := Try.func141.trans (congrArg some (by kernel_rfl))
  f27 := Try.func146.trans (congrArg some (by kernel_rfl))
  f28 := Try.func147.trans (congrArg some (by kernel_rfl))
  f35 := Try.func149.trans (congrArg some (by kernel_rfl))
  f39 := Try.func150.trans (congrArg some (by kernel_rfl))
  t0 := Try.underlying0
  a0 := Try.isAgg0
  z0 := Try.sizeOf0
  v0 := Try.zeroValue0
  t3 := Try.underlying3
  a3 := Try.isAgg3
  z3 := Try.sizeOf3
  v3 := Try.zeroValue3
  t4 := Try.underlying4
  a4 := Try.isAgg4
  z4 := Try.sizeOf4
  v4 := Try.zeroValue4
  t22 := Try.underlying27
  a22 := Try.isAgg27
  z22 := Try.sizeOf27
  v22 := Try.zeroValue27
  i3 := by kernel_rfl }
def Try.search_ren : Go.Shelf.Ren := ⟨fun | 16 => 142 | n => n, fun | 3 => 3 | 35 => 60 | 4 => 4 | 38 => 114 | n => n, fun | n => n⟩
theorem Try.search : Go.Proofs.SlLaysO.n16 Try.prog Try.search_ren := {
  mixed := by kernel_rfl
  f16 := Try.func142.trans (congrArg some (by kernel_rfl))
  t3 := Try.underlying3
  a3 := Try.isAgg3
  z3 := Try.sizeOf3
  v3 := Try.zeroValue3
  t4 := Try.underlying4
  a4 := Try.isAgg4
  z4 := Try.sizeOf4
  v4 := Try.zeroValue4
  t35 := Try.underlying60
  a35 := Try.isAgg60
  z35 := Try.sizeOf60
  v35 := Try.zeroValue60
  t38 := Try.underlying114
  a38 := Try.isAgg114
  z38 := Try.sizeOf114
  v38 := Try.zeroValue114 }
end Go.Proofs
