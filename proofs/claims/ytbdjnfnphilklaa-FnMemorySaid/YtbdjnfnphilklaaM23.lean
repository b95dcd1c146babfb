/-
  Texts of this seat, laid together: Tg9, Tg9b
-/
import Derived.Lib.LazyBuf
import Derived.Test.YtbdjnfnphilklaaM22
import Derived.Test.YtbdjnfnphilklaaM04
namespace Go.Proofs.Ytbdjnfnphilklaa.Ins
open Go.ChangeShapes Go.WideShapes Go.ChangeAt Go.RowKit Go.Shelf
open Kit
set_option linter.unusedVariables false
set_option linter.unusedSimpArgs false
set_option linter.unnecessarySimpa false
def Cols (w : World) (B : Nat) (v : Value) (zs : List Int) : Prop :=
  (v = .slice none 0 0 ∧ zs = []) ∨ ∃ (g c : Nat) (f : Nat → Value), v = .slice (some ⟨g, 0, none⟩) zs.length c ∧ B ≤ g ∧ zs.length ≤ c ∧ c ≤ maxLen ∧ w.rowIs g 3 c f ∧ ∀ j, j < zs.length → f j = .int .i64 (zs.getD j 0)
theorem Cols.keep {w w' : World} {B : Nat} {v : Value} {zs : List Int} (h : Cols w B v zs) (hb : Below w.heap.size w w') : Cols w' B v zs := by
  rcases h with h | ⟨g, c, f, h1, h2, h3, h4, h5, h6⟩
  · exact .inl h
  · exact .inr ⟨g, c, f, h1, h2, h3, h4, h5.of_block (hb.block g h5.lt), h6⟩
theorem Cols.nil (w : World) (B : Nat) : Cols w B (.slice none 0 0) [] := .inl ⟨rfl, rfl⟩
theorem Cols.size {w : World} {B : Nat} {v : Value} {zs : List Int} (h : Cols w B v zs) : ∃ a c, v = .slice a zs.length c := by
  rcases h with ⟨h, rfl⟩ | ⟨g, c, f, h1, _⟩
  · exact ⟨_, _, h⟩
  · exact ⟨_, _, h1⟩
theorem setCells_below (g : Nat) {B : Nat} {a : World} (hb : B ≤ g) (vs : List Value) (o : Nat) (w : World) (h : Below B a w) : Below B a (w.setCells g o vs) := Go.below_setCells hb vs o w h
theorem getD_map_int (zs : List Int) (j : Nat) (h : j < zs.length) : (zs.map (Value.int .i64))[j]? = some (.int .i64 (zs.getD j 0)) := by
  rw [List.getElem?_map, List.getElem?_eq_getElem h]; simp [List.getD, h]
theorem ins_get (zs : List Int) (x : Int) {i : Nat} (hi : i ≤ zs.length) (j : Nat) (hj : j < zs.length + 1) :
    (zs.take i ++ x :: zs.drop i).getD j 0 = if j < i then zs.getD j 0 else if j = i then x else zs.getD (j - 1) 0 := by
  have hl : (zs.take i).length = i := by rw [List.length_take]; omega
  by_cases h1 : j < i
  · rw [if_pos h1]
    simp only [List.getD]
    rw [List.getElem?_append_left (by omega), List.getElem?_take, if_pos h1]
  · rw [if_neg h1]
    simp only [List.getD]
    rw [List.getElem?_append_right (by omega), hl]
    by_cases h2 : j = i
    · subst h2; simp
    · rw [if_neg h2]
      obtain ⟨m, rfl⟩ : ∃ m, j = i + (m + 1) := ⟨j - i - 1, by omega⟩
      rw [show i + (m + 1) - i = m + 1 by omega, List.getElem?_cons_succ, List.getElem?_drop]
      congr 2
theorem ins_len (zs : List Int) (x : Int) {i : Nat} (hi : i ≤ zs.length) : (zs.take i ++ x :: zs.drop i).length = zs.length + 1 := by
  rw [List.length_append, List.length_cons, List.length_take, List.length_drop]; omega
theorem zero_size (n : Nat) : (Builtin.zeroCells (Value.int .i64 0).cells n).size = n := by simp [Builtin.zeroCells, Value.cells]
theorem cols_new (w : World) {B G n : Nat} (ys : List Int) (A : Array Value) (hA : A.size = G) (hn : ys.length = n) (hG : n ≤ G) (hm : G ≤ maxLen) (hB : B ≤ w.heap.size) (h : ∀ j, j < ys.length → A[j]? = some (.int .i64 (ys.getD j 0))) :
    Cols (w.alloc (.cells A 3)) B (.slice (some ⟨w.heap.size, 0, none⟩) n G) ys := by
  refine .inr ⟨w.heap.size, G, fun j => (A[j]?).getD default, by rw [hn], hB, by omega, hm, ?_, fun j hj => by simp [h j hj]⟩
  have := World.rowIs_alloc w A 3 (fun j => (A[j]?).getD default) (fun i hi => by rw [Array.getElem?_eq_getElem hi]; rfl)
  rwa [hA] at this
set_option maxHeartbeats 1000000 in
theorem ins_impl (w : World) (B : Nat) (v : Value) (zs : List Int) (x : Int) (i vb : Nat) (hv : Cols w B v zs) (hB : B ≤ w.heap.size) (hn : zs.length ≤ 1048576) (hi : i ≤ zs.length)
    (hvb : w.rowIs vb 3 1 (fun _ => .int .i64 x)) (hne : ∀ a n c, v = .slice (some a) n c → vb ≠ a.block) :
    Calls Try.prog 141 #[v, .int .i64 (i : Int), .slice (some ⟨vb, 0, none⟩) 1 1] w fun e w' => ∃ u, e = .returned u ∧ Cols w' B u (zs.take i ++ x :: zs.drop i) ∧ Below B w w' := by
  have hvs : ∀ j u, [Value.int .i64 x][j]? = some u → w.cell? ⟨vb, 0 + j, none⟩ = some u := fun j u hj => by
    have hj0 : j = 0 := by have := (List.getElem?_eq_some_iff.1 hj).1; simpa using this
    subst hj0
    simp at hj
    rw [← hj]; exact hvb.cell (by omega)
  have h1v : ∀ u ∈ [Value.int .i64 x], u.oneCell' = true := by simp [Value.oneCell']
  have h1c : ∀ u ∈ zs.map (Value.int .i64), u.oneCell' = true := by
    intro u hu; obtain ⟨z, _, rfl⟩ := List.mem_map.1 hu; rfl
  have hcl : (zs.map (Value.int .i64)).length = zs.length := List.length_map ..
  rcases hv with ⟨rfl, rfl⟩ | ⟨g, c, f, rfl, hg, hc, hm, hr, hf⟩
  · obtain rfl : i = 0 := by simpa using hi
    refine (Any2.slices_Insert_int_end_grow Try.laysNm221 none 0 0 vb 0 1 1 [] [.int .i64 x] w (by omega) (by omega) (by omega) (by omega) rfl rfl (fun _ => rfl) (fun a ha => by cases ha) hvs h1v).mono ?_
    rintro e w' ⟨rfl, rfl⟩
    have hGn := grownCap_ge w (0 + 1) 0 (Try.laysNm221_ren.t 3)
    have hGm := grownCap_le_maxLen w (0 + 1) 0 (Try.laysNm221_ren.t 3) (by unfold maxLen; omega)
    refine ⟨_, rfl, cols_new w.drew (n := 0 + 1) [x] _ ?_ rfl hGn hGm hB ?_, ((Below.refl B w).drew).alloc hB _⟩
    · rw [Array.size_append, zero_size]; show 1 + _ = _; omega
    · intro j hj
      have hj0 : j = 0 := by simpa using hj
      subst hj0
      rw [Array.getElem?_append_left (by simp)]; simp
  · have hcs : ∀ j u, (zs.map (Value.int .i64))[j]? = some u → w.cell? ⟨g, 0 + j, none⟩ = some u := fun j u hj => by
      have hjl : j < zs.length := by have := (List.getElem?_eq_some_iff.1 hj).1; simpa using this
      rw [getD_map_int zs j hjl] at hj
      rw [Nat.zero_add, hr.cell (show j < c by omega), hf j hjl]; exact hj
    have hne' : vb ≠ g := hne _ _ _ rfl
    have hml : c ≤ 9223372036854775807 := by unfold maxLen at hm; omega
    have hgl := hr.lt
    by_cases hin : i = zs.length
    · subst hin
      have hl := ins_len zs x (Nat.le_refl _)
      by_cases hroom : zs.length + 1 ≤ c
      · refine (Any2.slices_Insert_int_end_room Try.laysNm221 g 0 zs.length c vb 0 1 1 [.int .i64 x] w (by omega) hroom hml rfl (fun j hj => ?_) (fun j hj => hr.frozen _) hvs h1v).mono ?_
        · rw [hr.cell (by omega)]; rfl
        rintro e w' ⟨rfl, rfl⟩
        refine ⟨_, rfl, .inr ⟨g, c, _, by rw [hl], hg, by rw [hl]; exact hroom, hm, Go.rowIs_setCells _ _ _ _ hr, fun j hj => ?_⟩, setCells_below g hg _ _ _ (Below.refl _ _)⟩
        rw [hl] at hj
        rw [ins_get zs x (Nat.le_refl _) j hj]
        by_cases h1 : j < zs.length
        · rw [if_pos h1, if_neg (by simp; omega), hf j h1]
        · have e : j = zs.length := by omega
          subst e; simp
      · refine (Any2.slices_Insert_int_end_grow Try.laysNm221 (some ⟨g, 0, none⟩) zs.length c vb 0 1 1 (zs.map (Value.int .i64)) [.int .i64 x] w (by omega) hc (by omega) (by omega) hcl rfl (fun h => by cases h) (fun a ha j u hj => by cases ha; rw [Addr.add_lit]; exact hcs j u hj) hvs h1v).mono ?_
        rintro e w' ⟨rfl, rfl⟩
        have hGn := grownCap_ge w (zs.length + 1) c (Try.laysNm221_ren.t 3)
        have hGm := grownCap_le_maxLen w (zs.length + 1) c (Try.laysNm221_ren.t 3) (by unfold maxLen; omega)
        refine ⟨_, rfl, cols_new w.drew (n := zs.length + 1) _ _ ?_ hl hGn hGm hB ?_, ((Below.refl B w).drew).alloc hB _⟩
        · rw [Array.size_append, zero_size]; simp; omega
        · intro j hj
          rw [hl] at hj
          rw [Array.getElem?_append_left (by simp; omega), ins_get zs x (Nat.le_refl _) j hj]
          by_cases h1 : j < zs.length
          · rw [if_pos h1, List.getElem?_toArray, List.getElem?_append_left (by simpa using h1), getD_map_int zs j h1]
          · have e : j = zs.length := by omega
            subst e; simp
    · have hil : i < zs.length := by omega
      have hl := ins_len zs x hi
      have hdl : ((zs.map (Value.int .i64)).drop i).length = zs.length - i := by rw [List.length_drop, hcl]
      have hdg : ∀ j, i + 1 ≤ j → j < zs.length + 1 → ((zs.map (Value.int .i64)).drop i)[j - (i + 1)]? = some (.int .i64 (zs.getD (j - 1) 0)) := fun j h1 h2 => by
        rw [List.getElem?_drop, show i + (j - (i + 1)) = j - 1 by omega, getD_map_int zs _ (by omega)]
      by_cases hroom : zs.length + 1 ≤ c
      · have hsa : w.shape? vb = some (3, 1) := by obtain ⟨A, hA, hs, _⟩ := hvb; simp [World.shape?, hA, hs]
        have hsb : w.shape? g = some (3, c) := by obtain ⟨A, hA, hs, _⟩ := hr; simp [World.shape?, hA, hs]
        refine (Any2.slices_Insert_int_shift Try.laysNm221 g 0 zs.length c i vb 0 1 1 (zs.map (Value.int .i64)) [.int .i64 x] w hil (by omega) hroom hml hne' hcl rfl hcs (fun j hj => ?_) (fun j hj => hr.frozen _) hvs h1c h1v _ _ _ _ hsa hsb (by omega) (hvb.frozen _) (hvb.frozen _)).mono ?_
        · rw [hr.cell (by omega)]; rfl
        rintro e w' ⟨rfl, rfl⟩
        refine ⟨_, rfl, .inr ⟨g, c, _, by rw [hl], hg, by rw [hl]; exact hroom, hm, Go.rowIs_setCells _ _ _ _ (Go.rowIs_setCells _ _ _ _ hr.drew), fun j hj => ?_⟩, setCells_below g hg _ _ _ (setCells_below g hg _ _ _ (Below.refl B w).drew)⟩
        rw [hl] at hj
        rw [ins_get zs x hi j hj]
        simp only [List.length_singleton, hdl, Nat.zero_add]
        by_cases h1 : j < i
        · rw [if_pos h1, if_neg (by omega), if_neg (by omega), hf j (by omega)]
        · by_cases h2 : j = i
          · subst h2; simp
          · rw [if_neg h1, if_neg h2, if_neg (by omega), if_pos (by omega), hdg j (by omega) hj]; rfl
      · refine (Any2.slices_Insert_int_grow Try.laysNm221 g 0 zs.length c i vb 0 1 1 (zs.map (Value.int .i64)) [.int .i64 x] w hil (by omega) hc (by omega) (by omega) hcl rfl hcs hvs h1c h1v).mono ?_
        rintro e w' ⟨rfl, rfl⟩
        have hGn := grownCap_ge w (zs.length + 1) c (Try.laysNm221_ren.t 3)
        have hGm := grownCap_le_maxLen w (zs.length + 1) c (Try.laysNm221_ren.t 3) (by unfold maxLen; omega)
        have htl : ((zs.map (Value.int .i64)).take i).length = i := by rw [List.length_take, hcl]; omega
        have hsz : (((zs.map (Value.int .i64)).take i).toArray ++ Builtin.zeroCells (Value.int .i64 0).cells (zs.length + 1 - i) ++ Builtin.zeroCells (Value.int .i64 0).cells (grownCap w (zs.length + 1) c (Try.laysNm221_ren.t 3) - (zs.length + 1))).size = grownCap w (zs.length + 1) c (Try.laysNm221_ren.t 3) := by
          rw [Array.size_append, Array.size_append, zero_size, zero_size, List.size_toArray, htl]; omega
        generalize hRow : ((zs.map (Value.int .i64)).take i).toArray ++ Builtin.zeroCells (Value.int .i64 0).cells (zs.length + 1 - i) ++ Builtin.zeroCells (Value.int .i64 0).cells (grownCap w (zs.length + 1) c (Try.laysNm221_ren.t 3) - (zs.length + 1)) = ROW at *
        generalize grownCap w (zs.length + 1) c (Try.laysNm221_ren.t 3) = G at *
        have hr0 := World.rowIs_alloc w ROW 3 (fun j => (ROW[j]?).getD default) (fun i hi => by rw [Array.getElem?_eq_getElem hi]; rfl)
        rw [hsz] at hr0
        have hb0 : Below B w (w.alloc (.cells ROW 3)) := (Below.refl B w).alloc hB _
        refine ⟨_, rfl, .inr ⟨w.heap.size, G, _, by rw [hl], hB, by rw [hl]; exact hGn, hGm, Go.rowIs_setCells _ _ _ _ (Go.rowIs_setCells _ _ _ _ hr0.drew).drew, fun j hj => ?_⟩, setCells_below _ hB _ _ _ (setCells_below _ hB _ _ _ hb0.drew).drew⟩
        rw [hl] at hj
        rw [ins_get zs x hi j hj]
        simp only [List.length_singleton, hdl]
        by_cases h1 : j < i
        · rw [if_pos h1, if_neg (by omega), if_neg (by omega), ← hRow, Array.getElem?_append_left (by rw [Array.size_append, List.size_toArray, htl]; omega), Array.getElem?_append_left (by rw [List.size_toArray, htl]; exact h1), List.getElem?_toArray, List.getElem?_take, if_pos h1, getD_map_int zs j (by omega)]; rfl
        · by_cases h2 : j = i
          · subst h2; simp [show ¬ (j + 1 ≤ j) by omega]
          · rw [if_neg h1, if_neg h2, if_pos (by omega), hdg j (by omega) hj]; rfl
end Go.Proofs.Ytbdjnfnphilklaa.Ins
namespace Go.Proofs.Ytbdjnfnphilklaa.Ins
open Go.ChangeShapes Go.WideShapes Go.ChangeAt Go.RowKit Go.Shelf
open Kit
set_option linter.unusedVariables false
set_option linter.unusedSimpArgs false
set_option linter.unnecessarySimpa false
theorem del_get (zs : List Int) {i : Nat} (hi : i < zs.length) (j : Nat) (hj : j < zs.length - 1) (r : List Int) :
    (zs.take i ++ zs.drop (i + 1) ++ r)[j]? = some ((zs.take i ++ zs.drop (i + 1)).getD j 0) := by
  have hl : (zs.take i ++ zs.drop (i + 1)).length = zs.length - 1 := by rw [List.length_append, List.length_take, List.length_drop]; omega
  rw [List.getElem?_append_left (by omega), List.getElem?_eq_getElem (by omega)]
  simp [List.getD, hl, hj]
theorem del_impl (w : World) (B : Nat) (v : Value) (zs : List Int) (i : Nat) (hv : Cols w B v zs) (hn : zs.length ≤ 1048576) (hi : i < zs.length) :
    Calls Try.prog 140 #[v, .int .i64 (i : Int), .int .i64 ((i : Int) + 1)] w fun e w' => ∃ u, e = .returned u ∧ Cols w' B u (zs.take i ++ zs.drop (i + 1)) ∧ Below B w w' := by
  rcases hv with ⟨rfl, rfl⟩ | ⟨g, c, f, rfl, hg, hc, hm, hr, hf⟩
  · simp at hi
  · have hl : (zs.take i ++ zs.drop (i + 1)).length = zs.length - 1 := by rw [List.length_append, List.length_take, List.length_drop]; omega
    have h := Try.slices_Delete_int_cells g 0 zs.length c i (i + 1) zs w (Nat.le_refl _) hc (by unfold maxLen at hm; omega) (by omega) (by omega) (fun j hj => by rw [Nat.zero_add, hr.cell (show j < c by omega), hf j hj]) (fun j hj => hr.frozen _)
    rw [show (((i + 1 : Nat)) : Int) = (i : Int) + 1 by omega] at h
    refine h.mono ?_
    rintro e w' ⟨rfl, q, rfl⟩
    rw [List.take_length, show i + 1 - i = 1 by omega]
    refine ⟨_, rfl, .inr ⟨g, c, _, by rw [hl], hg, by omega, hm, Go.rowIs_setCells _ _ _ _ (show (w.drewN q).rowIs g 3 c f from hr), fun j hj => ?_⟩, setCells_below g hg _ _ _ ((Below.refl B w).trans ⟨rfl, rfl, rfl, Nat.le_refl _, fun _ _ => rfl⟩)⟩
    rw [hl] at hj
    have hlen : ((zs.take i ++ zs.drop (i + 1) ++ List.replicate 1 0).map (Value.int .i64)).length = zs.length := by
      rw [List.length_map, List.length_append, hl, List.length_replicate]; omega
    rw [hlen, if_pos (by omega), Nat.sub_zero, List.getElem?_map, del_get zs hi j hj]; rfl
theorem cnt_found {zs : List Int} {x : Int} (h : zs.contains x = true) : zs.countP (fun d => decide (d < x)) < zs.length := by
  have hle := List.countP_le_length (p := fun d => decide (d < x)) (l := zs)
  rcases Nat.lt_or_ge (zs.countP fun d => decide (d < x)) zs.length with h1 | h1
  · exact h1
  · have := (List.countP_eq_length (p := fun d => decide (d < x)) (l := zs)).1 (Nat.le_antisymm hle h1) x (by simpa using h)
    simp at this
theorem bs_impl (w : World) (B : Nat) (v : Value) (zs : List Int) (x : Int) (hv : Cols w B v zs) (hn : zs.length ≤ 1048576) (hs : zs.Pairwise (· < ·)) :
    Calls Try.prog 139 #[v, .int .i64 x] w fun e w' => e = .returned (.tuple #[.int .i64 ((zs.countP fun d => decide (d < x) : Nat) : Int), .bool (zs.contains x)]) ∧ ∃ q, w' = w.drewN q := by
  rcases hv with ⟨rfl, rfl⟩ | ⟨g, c, f, rfl, hg, hc, hm, hr, hf⟩
  · refine (Try.slices_BinarySearch_int_empty none 0 x w).mono ?_
    rintro e w' ⟨rfl, rfl⟩
    exact ⟨rfl, 0, rfl⟩
  · have h := Try.slices_BinarySearch_int g 0 zs.length c zs x w (Nat.le_refl _) (by omega) (fun j hj => by rw [Nat.zero_add, hr.cell (show j < c by omega), hf j hj]) (by rw [List.take_length]; exact hs.imp (fun h => by omega))
    rw [List.take_length] at h
    exact h
set_option maxHeartbeats 1000000 in
theorem tog_impl (w : World) (B : Nat) (v : Value) (zs : List Int) (x : Int) (hv : Cols w B v zs) (hB : B ≤ w.heap.size) (hn : zs.length ≤ 1000000) (hs : zs.Pairwise (· < ·)) :
    Calls Try.prog 137 #[v, .int .i64 x] w fun e w' => ∃ u, e = .returned u ∧ Cols w' B u (tog zs x) ∧ Below B w w' := by
  have hbs := bs_impl w B v zs x hv (by omega) hs
  have HV := Lib.hid (And.intro hv (And.intro hB hn))
  have hi : zs.countP (fun d => decide (d < x)) ≤ zs.length := List.countP_le_length
  clear hs hv hB hn
  cases hf : zs.contains x
  · have et : tog zs x = zs.take (zs.countP fun d => decide (d < x)) ++ x :: zs.drop (zs.countP fun d => decide (d < x)) := by
      unfold tog; rw [hf]; simp
    rw [hf] at hbs
    rw [et]
    clear et hf
    generalize zs.countP (fun d => decide (d < x)) = i at *
    have HI := Lib.hid hi
    clear hi
    go_enter Try.func137, Try.ntmps137
    go_wp2_with (go_at_call 139; refine hbs.mono ?_; rintro e w1 ⟨rfl, q, rfl⟩)
    refine (ins_impl ((w.drewN q).alloc (.cells #[.int .i64 x] 3)) B v zs x i w.heap.size ?_ ?_ (by have := HV.out.2.2; omega) HI.out ?_ ?_).mono ?_
    · exact (HV.out.1.keep (w' := w.drewN q) ⟨rfl, rfl, rfl, Nat.le_refl _, fun _ _ => rfl⟩).keep ((Below.refl _ _).alloc (Nat.le_refl _) _)
    · have := HV.out.2.1; rw [World.size_alloc]; show B ≤ w.heap.size + 1; omega
    · have := World.rowIs_alloc (w.drewN q) #[.int .i64 x] 3 (fun _ => .int .i64 x) (fun i hi => by
        have h0 : i = 0 := by simpa using hi
        subst h0; rfl)
      exact this
    · rintro a n c rfl
      rcases HV.out.1 with ⟨h, _⟩ | ⟨g, c', f, h, _, _, _, hr, _⟩
      · cases h
      · injection h with h1 _ _
        injection h1 with h1
        have := hr.lt
        rw [h1]; show w.heap.size ≠ g; omega
    · rintro e w' ⟨u, rfl, hc, hb⟩
      go_wp2
      go_ret
      exact ⟨_, rfl, hc, (((Below.refl B w).trans (c := w.drewN q) ⟨rfl, rfl, rfl, Nat.le_refl _, fun _ _ => rfl⟩).alloc HV.out.2.1 _).trans hb⟩
  · have et : tog zs x = zs.take (zs.countP fun d => decide (d < x)) ++ zs.drop ((zs.countP fun d => decide (d < x)) + 1) := by
      unfold tog; rw [hf]; simp
    have hil := cnt_found hf
    rw [hf] at hbs
    rw [et]
    clear et hf
    generalize zs.countP (fun d => decide (d < x)) = i at *
    have HI := Lib.hid hil
    have w1 : IntKind.i64.wrap ((i : Int) + 1) = (i : Int) + 1 := by have := HV.out.2.2; rw [IntKind.wrap_i64]; omega
    clear hi hil
    go_enter Try.func137, Try.ntmps137
    go_wp2_with (go_at_call 139; refine hbs.mono ?_; rintro e w1 ⟨rfl, q, rfl⟩)
    refine (del_impl (w.drewN q) B v zs i ?_ (by have := HV.out.2.2; omega) HI.out).mono ?_
    · exact HV.out.1.keep (w' := w.drewN q) ⟨rfl, rfl, rfl, Nat.le_refl _, fun _ _ => rfl⟩
    · rintro e w' ⟨u, rfl, hc, hb⟩
      go_wp2
      go_ret
      exact ⟨_, rfl, hc, ((Below.refl B w).trans (c := w.drewN q) ⟨rfl, rfl, rfl, Nat.le_refl _, fun _ _ => rfl⟩).trans hb⟩
end Go.Proofs.Ytbdjnfnphilklaa.Ins
