/-
  Texts of this seat, laid together: Tg9, Tg9b, SdI8
-/
import Derived.Lib.LazyBuf
import Derived.Laws.MakeOwn
import Derived.Laws.Entries
import Derived.Test.YtejnfdpckipbeaaP21
import Derived.Test.YtejnfdpckipbeaaP10
import Derived.Test.YtejnfdpckipbeaaP13
import Derived.Test.YtejnfdpckipbeaaP08
namespace Go.Proofs.Ytejnfdpckipbeaa.Ins
open Go.ChangeShapes Go.WideShapes Go.ChangeAt Go.RowKit Go.Shelf
open Kit
set_option linter.unusedVariables false
set_option linter.unusedSimpArgs false
set_option linter.unnecessarySimpa false
def Cols (w : World) (B : Nat) (v : Value) (zs : List Int) : Prop :=
  (v = .slice none 0 0 ∧ zs = []) ∨ ∃ (g c : Nat) (f : Nat → Value), v = .slice (some ⟨g, 0, none⟩) zs.length c ∧ B ≤ g ∧ zs.length ≤ c ∧ c ≤ maxLen ∧ w.rowIs g 3 c f ∧ ∀ j, j < zs.length → f j = .int .i64 (zs.getD j 0)
theorem Cols.keep {w w' : World} {B : Nat} {v : Value} {zs : List Int} (h : Cols w B v zs) (hb : Below w.heap.size w w') : Cols w' B v zs := by
  rcases h with h | ⟨g, c, f, h1, h2, h3, h4, h5, h6⟩
  · exact .inl h
  · exact .inr ⟨g, c, f, h1, h2, h3, h4, h5.of_block (hb.block g h5.lt), h6⟩
theorem Cols.nil (w : World) (B : Nat) : Cols w B (.slice none 0 0) [] := .inl ⟨rfl, rfl⟩
theorem Cols.size {w : World} {B : Nat} {v : Value} {zs : List Int} (h : Cols w B v zs) : ∃ a c, v = .slice a zs.length c := by
  rcases h with ⟨h, rfl⟩ | ⟨g, c, f, h1, _⟩
  · exact ⟨_, _, h⟩
  · exact ⟨_, _, h1⟩
theorem setCells_below (g : Nat) {B : Nat} {a : World} (hb : B ≤ g) (vs : List Value) (o : Nat) (w : World) (h : Below B a w) : Below B a (w.setCells g o vs) := Go.below_setCells hb vs o w h
theorem getD_map_int (zs : List Int) (j : Nat) (h : j < zs.length) : (zs.map (Value.int .i64))[j]? = some (.int .i64 (zs.getD j 0)) := by
  rw [List.getElem?_map, List.getElem?_eq_getElem h]; simp [List.getD, h]
theorem ins_get (zs : List Int) (x : Int) {i : Nat} (hi : i ≤ zs.length) (j : Nat) (hj : j < zs.length + 1) :
    (zs.take i ++ x :: zs.drop i).getD j 0 = if j < i then zs.getD j 0 else if j = i then x else zs.getD (j - 1) 0 := by
  have hl : (zs.take i).length = i := by rw [List.length_take]; omega
  by_cases h1 : j < i
  · rw [if_pos h1]
    simp only [List.getD]
    rw [List.getElem?_append_left (by omega), List.getElem?_take, if_pos h1]
  · rw [if_neg h1]
    simp only [List.getD]
    rw [List.getElem?_append_right (by omega), hl]
    by_cases h2 : j = i
    · subst h2; simp
    · rw [if_neg h2]
      obtain ⟨m, rfl⟩ : ∃ m, j = i + (m + 1) := ⟨j - i - 1, by omega⟩
      rw [show i + (m + 1) - i = m + 1 by omega, List.getElem?_cons_succ, List.getElem?_drop]
      congr 2
theorem ins_len (zs : List Int) (x : Int) {i : Nat} (hi : i ≤ zs.length) : (zs.take i ++ x :: zs.drop i).length = zs.length + 1 := by
  rw [List.length_append, List.length_cons, List.length_take, List.length_drop]; omega
theorem zero_size (n : Nat) : (Builtin.zeroCells (Value.int .i64 0).cells n).size = n := by simp [Builtin.zeroCells, Value.cells]
theorem cols_new (w : World) {B G n : Nat} (ys : List Int) (A : Array Value) (hA : A.size = G) (hn : ys.length = n) (hG : n ≤ G) (hm : G ≤ maxLen) (hB : B ≤ w.heap.size) (h : ∀ j, j < ys.length → A[j]? = some (.int .i64 (ys.getD j 0))) :
    Cols (w.alloc (.cells A 3)) B (.slice (some ⟨w.heap.size, 0, none⟩) n G) ys := by
  refine .inr ⟨w.heap.size, G, fun j => (A[j]?).getD default, by rw [hn], hB, by omega, hm, ?_, fun j hj => by simp [h j hj]⟩
  have := World.rowIs_alloc w A 3 (fun j => (A[j]?).getD default) (fun i hi => by rw [Array.getElem?_eq_getElem hi]; rfl)
  rwa [hA] at this
set_option maxHeartbeats 1000000 in
theorem ins_impl (w : World) (B : Nat) (v : Value) (zs : List Int) (x : Int) (i vb : Nat) (hv : Cols w B v zs) (hB : B ≤ w.heap.size) (hn : zs.length ≤ 1048576) (hi : i ≤ zs.length)
    (hvb : w.rowIs vb 3 1 (fun _ => .int .i64 x)) (hne : ∀ a n c, v = .slice (some a) n c → vb ≠ a.block) :
    Calls Try.prog 134 #[v, .int .i64 (i : Int), .slice (some ⟨vb, 0, none⟩) 1 1] w fun e w' => ∃ u, e = .returned u ∧ Cols w' B u (zs.take i ++ x :: zs.drop i) ∧ Below B w w' := by
  have hvs : ∀ j u, [Value.int .i64 x][j]? = some u → w.cell? ⟨vb, 0 + j, none⟩ = some u := fun j u hj => by
    have hj0 : j = 0 := by have := (List.getElem?_eq_some_iff.1 hj).1; simpa using this
    subst hj0
    simp at hj
    rw [← hj]; exact hvb.cell (by omega)
  have h1v : ∀ u ∈ [Value.int .i64 x], u.oneCell' = true := by simp [Value.oneCell']
  have h1c : ∀ u ∈ zs.map (Value.int .i64), u.oneCell' = true := by
    intro u hu; obtain ⟨z, _, rfl⟩ := List.mem_map.1 hu; rfl
  have hcl : (zs.map (Value.int .i64)).length = zs.length := List.length_map ..
  rcases hv with ⟨rfl, rfl⟩ | ⟨g, c, f, rfl, hg, hc, hm, hr, hf⟩
  · obtain rfl : i = 0 := by simpa using hi
    refine (Any2.slices_Insert_int_end_grow Try.laysNm221 none 0 0 vb 0 1 1 [] [.int .i64 x] w (by omega) (by omega) (by omega) (by omega) rfl rfl (fun _ => rfl) (fun a ha => by cases ha) hvs h1v).mono ?_
    rintro e w' ⟨rfl, rfl⟩
    have hGn := grownCap_ge w (0 + 1) 0 (Try.laysNm221_ren.t 3)
    have hGm := grownCap_le_maxLen w (0 + 1) 0 (Try.laysNm221_ren.t 3) (by unfold maxLen; omega)
    refine ⟨_, rfl, cols_new w.drew (n := 0 + 1) [x] _ ?_ rfl hGn hGm hB ?_, ((Below.refl B w).drew).alloc hB _⟩
    · rw [Array.size_append, zero_size]; show 1 + _ = _; omega
    · intro j hj
      have hj0 : j = 0 := by simpa using hj
      subst hj0
      rw [Array.getElem?_append_left (by simp)]; simp
  · have hcs : ∀ j u, (zs.map (Value.int .i64))[j]? = some u → w.cell? ⟨g, 0 + j, none⟩ = some u := fun j u hj => by
      have hjl : j < zs.length := by have := (List.getElem?_eq_some_iff.1 hj).1; simpa using this
      rw [getD_map_int zs j hjl] at hj
      rw [Nat.zero_add, hr.cell (show j < c by omega), hf j hjl]; exact hj
    have hne' : vb ≠ g := hne _ _ _ rfl
    have hml : c ≤ 9223372036854775807 := by unfold maxLen at hm; omega
    have hgl := hr.lt
    by_cases hin : i = zs.length
    · subst hin
      have hl := ins_len zs x (Nat.le_refl _)
      by_cases hroom : zs.length + 1 ≤ c
      · refine (Any2.slices_Insert_int_end_room Try.laysNm221 g 0 zs.length c vb 0 1 1 [.int .i64 x] w (by omega) hroom hml rfl (fun j hj => ?_) (fun j hj => hr.frozen _) hvs h1v).mono ?_
        · rw [hr.cell (by omega)]; rfl
        rintro e w' ⟨rfl, rfl⟩
        refine ⟨_, rfl, .inr ⟨g, c, _, by rw [hl], hg, by rw [hl]; exact hroom, hm, Go.rowIs_setCells _ _ _ _ hr, fun j hj => ?_⟩, setCells_below g hg _ _ _ (Below.refl _ _)⟩
        rw [hl] at hj
        rw [ins_get zs x (Nat.le_refl _) j hj]
        by_cases h1 : j < zs.length
        · rw [if_pos h1, if_neg (by simp; omega), hf j h1]
        · have e : j = zs.length := by omega
          subst e; simp
      · refine (Any2.slices_Insert_int_end_grow Try.laysNm221 (some ⟨g, 0, none⟩) zs.length c vb 0 1 1 (zs.map (Value.int .i64)) [.int .i64 x] w (by omega) hc (by omega) (by omega) hcl rfl (fun h => by cases h) (fun a ha j u hj => by cases ha; rw [Addr.add_lit]; exact hcs j u hj) hvs h1v).mono ?_
        rintro e w' ⟨rfl, rfl⟩
        have hGn := grownCap_ge w (zs.length + 1) c (Try.laysNm221_ren.t 3)
        have hGm := grownCap_le_maxLen w (zs.length + 1) c (Try.laysNm221_ren.t 3) (by unfold maxLen; omega)
        refine ⟨_, rfl, cols_new w.drew (n := zs.length + 1) _ _ ?_ hl hGn hGm hB ?_, ((Below.refl B w).drew).alloc hB _⟩
        · rw [Array.size_append, zero_size]; simp; omega
        · intro j hj
          rw [hl] at hj
          rw [Array.getElem?_append_left (by simp; omega), ins_get zs x (Nat.le_refl _) j hj]
          by_cases h1 : j < zs.length
          · rw [if_pos h1, List.getElem?_toArray, List.getElem?_append_left (by simpa using h1), getD_map_int zs j h1]
          · have e : j = zs.length := by omega
            subst e; simp
    · have hil : i < zs.length := by omega
      have hl := ins_len zs x hi
      have hdl : ((zs.map (Value.int .i64)).drop i).length = zs.length - i := by rw [List.length_drop, hcl]
      have hdg : ∀ j, i + 1 ≤ j → j < zs.length + 1 → ((zs.map (Value.int .i64)).drop i)[j - (i + 1)]? = some (.int .i64 (zs.getD (j - 1) 0)) := fun j h1 h2 => by
        rw [List.getElem?_drop, show i + (j - (i + 1)) = j - 1 by omega, getD_map_int zs _ (by omega)]
      by_cases hroom : zs.length + 1 ≤ c
      · have hsa : w.shape? vb = some (3, 1) := by obtain ⟨A, hA, hs, _⟩ := hvb; simp [World.shape?, hA, hs]
        have hsb : w.shape? g = some (3, c) := by obtain ⟨A, hA, hs, _⟩ := hr; simp [World.shape?, hA, hs]
        refine (Any2.slices_Insert_int_shift Try.laysNm221 g 0 zs.length c i vb 0 1 1 (zs.map (Value.int .i64)) [.int .i64 x] w hil (by omega) hroom hml hne' hcl rfl hcs (fun j hj => ?_) (fun j hj => hr.frozen _) hvs h1c h1v _ _ _ _ hsa hsb (by omega) (hvb.frozen _) (hvb.frozen _)).mono ?_
        · rw [hr.cell (by omega)]; rfl
        rintro e w' ⟨rfl, rfl⟩
        refine ⟨_, rfl, .inr ⟨g, c, _, by rw [hl], hg, by rw [hl]; exact hroom, hm, Go.rowIs_setCells _ _ _ _ (Go.rowIs_setCells _ _ _ _ hr.drew), fun j hj => ?_⟩, setCells_below g hg _ _ _ (setCells_below g hg _ _ _ (Below.refl B w).drew)⟩
        rw [hl] at hj
        rw [ins_get zs x hi j hj]
        simp only [List.length_singleton, hdl, Nat.zero_add]
        by_cases h1 : j < i
        · rw [if_pos h1, if_neg (by omega), if_neg (by omega), hf j (by omega)]
        · by_cases h2 : j = i
          · subst h2; simp
          · rw [if_neg h1, if_neg h2, if_neg (by omega), if_pos (by omega), hdg j (by omega) hj]; rfl
      · refine (Any2.slices_Insert_int_grow Try.laysNm221 g 0 zs.length c i vb 0 1 1 (zs.map (Value.int .i64)) [.int .i64 x] w hil (by omega) hc (by omega) (by omega) hcl rfl hcs hvs h1c h1v).mono ?_
        rintro e w' ⟨rfl, rfl⟩
        have hGn := grownCap_ge w (zs.length + 1) c (Try.laysNm221_ren.t 3)
        have hGm := grownCap_le_maxLen w (zs.length + 1) c (Try.laysNm221_ren.t 3) (by unfold maxLen; omega)
        have htl : ((zs.map (Value.int .i64)).take i).length = i := by rw [List.length_take, hcl]; omega
        have hsz : (((zs.map (Value.int .i64)).take i).toArray ++ Builtin.zeroCells (Value.int .i64 0).cells (zs.length + 1 - i) ++ Builtin.zeroCells (Value.int .i64 0).cells (grownCap w (zs.length + 1) c (Try.laysNm221_ren.t 3) - (zs.length + 1))).size = grownCap w (zs.length + 1) c (Try.laysNm221_ren.t 3) := by
          rw [Array.size_append, Array.size_append, zero_size, zero_size, List.size_toArray, htl]; omega
        generalize hRow : ((zs.map (Value.int .i64)).take i).toArray ++ Builtin.zeroCells (Value.int .i64 0).cells (zs.length + 1 - i) ++ Builtin.zeroCells (Value.int .i64 0).cells (grownCap w (zs.length + 1) c (Try.laysNm221_ren.t 3) - (zs.length + 1)) = ROW at *
        generalize grownCap w (zs.length + 1) c (Try.laysNm221_ren.t 3) = G at *
        have hr0 := World.rowIs_alloc w ROW 3 (fun j => (ROW[j]?).getD default) (fun i hi => by rw [Array.getElem?_eq_getElem hi]; rfl)
        rw [hsz] at hr0
        have hb0 : Below B w (w.alloc (.cells ROW 3)) := (Below.refl B w).alloc hB _
        refine ⟨_, rfl, .inr ⟨w.heap.size, G, _, by rw [hl], hB, by rw [hl]; exact hGn, hGm, Go.rowIs_setCells _ _ _ _ (Go.rowIs_setCells _ _ _ _ hr0.drew).drew, fun j hj => ?_⟩, setCells_below _ hB _ _ _ (setCells_below _ hB _ _ _ hb0.drew).drew⟩
        rw [hl] at hj
        rw [ins_get zs x hi j hj]
        simp only [List.length_singleton, hdl]
        by_cases h1 : j < i
        · rw [if_pos h1, if_neg (by omega), if_neg (by omega), ← hRow, Array.getElem?_append_left (by rw [Array.size_append, List.size_toArray, htl]; omega), Array.getElem?_append_left (by rw [List.size_toArray, htl]; exact h1), List.getElem?_toArray, List.getElem?_take, if_pos h1, getD_map_int zs j (by omega)]; rfl
        · by_cases h2 : j = i
          · subst h2; simp [show ¬ (j + 1 ≤ j) by omega]
          · rw [if_neg h1, if_neg h2, if_pos (by omega), hdg j (by omega) hj]; rfl
end Go.Proofs.Ytejnfdpckipbeaa.Ins
namespace Go.Proofs.Ytejnfdpckipbeaa.Ins
open Go.ChangeShapes Go.WideShapes Go.ChangeAt Go.RowKit Go.Shelf
open Kit
set_option linter.unusedVariables false
set_option linter.unusedSimpArgs false
set_option linter.unnecessarySimpa false
theorem del_get (zs : List Int) {i : Nat} (hi : i < zs.length) (j : Nat) (hj : j < zs.length - 1) (r : List Int) :
    (zs.take i ++ zs.drop (i + 1) ++ r)[j]? = some ((zs.take i ++ zs.drop (i + 1)).getD j 0) := by
  have hl : (zs.take i ++ zs.drop (i + 1)).length = zs.length - 1 := by rw [List.length_append, List.length_take, List.length_drop]; omega
  rw [List.getElem?_append_left (by omega), List.getElem?_eq_getElem (by omega)]
  simp [List.getD, hl, hj]
theorem del_impl (w : World) (B : Nat) (v : Value) (zs : List Int) (i : Nat) (hv : Cols w B v zs) (hn : zs.length ≤ 1048576) (hi : i < zs.length) :
    Calls Try.prog 133 #[v, .int .i64 (i : Int), .int .i64 ((i : Int) + 1)] w fun e w' => ∃ u, e = .returned u ∧ Cols w' B u (zs.take i ++ zs.drop (i + 1)) ∧ Below B w w' := by
  rcases hv with ⟨rfl, rfl⟩ | ⟨g, c, f, rfl, hg, hc, hm, hr, hf⟩
  · simp at hi
  · have hl : (zs.take i ++ zs.drop (i + 1)).length = zs.length - 1 := by rw [List.length_append, List.length_take, List.length_drop]; omega
    have h := Try.slices_Delete_int_cells g 0 zs.length c i (i + 1) zs w (Nat.le_refl _) hc (by unfold maxLen at hm; omega) (by omega) (by omega) (fun j hj => by rw [Nat.zero_add, hr.cell (show j < c by omega), hf j hj]) (fun j hj => hr.frozen _)
    rw [show (((i + 1 : Nat)) : Int) = (i : Int) + 1 by omega] at h
    refine h.mono ?_
    rintro e w' ⟨rfl, q, rfl⟩
    rw [List.take_length, show i + 1 - i = 1 by omega]
    refine ⟨_, rfl, .inr ⟨g, c, _, by rw [hl], hg, by omega, hm, Go.rowIs_setCells _ _ _ _ (show (w.drewN q).rowIs g 3 c f from hr), fun j hj => ?_⟩, setCells_below g hg _ _ _ ((Below.refl B w).trans ⟨rfl, rfl, rfl, Nat.le_refl _, fun _ _ => rfl⟩)⟩
    rw [hl] at hj
    have hlen : ((zs.take i ++ zs.drop (i + 1) ++ List.replicate 1 0).map (Value.int .i64)).length = zs.length := by
      rw [List.length_map, List.length_append, hl, List.length_replicate]; omega
    rw [hlen, if_pos (by omega), Nat.sub_zero, List.getElem?_map, del_get zs hi j hj]; rfl
theorem cnt_found {zs : List Int} {x : Int} (h : zs.contains x = true) : zs.countP (fun d => decide (d < x)) < zs.length := by
  have hle := List.countP_le_length (p := fun d => decide (d < x)) (l := zs)
  rcases Nat.lt_or_ge (zs.countP fun d => decide (d < x)) zs.length with h1 | h1
  · exact h1
  · have := (List.countP_eq_length (p := fun d => decide (d < x)) (l := zs)).1 (Nat.le_antisymm hle h1) x (by simpa using h)
    simp at this
theorem bs_impl (w : World) (B : Nat) (v : Value) (zs : List Int) (x : Int) (hv : Cols w B v zs) (hn : zs.length ≤ 1048576) (hs : zs.Pairwise (· < ·)) :
    Calls Try.prog 132 #[v, .int .i64 x] w fun e w' => e = .returned (.tuple #[.int .i64 ((zs.countP fun d => decide (d < x) : Nat) : Int), .bool (zs.contains x)]) ∧ ∃ q, w' = w.drewN q := by
  rcases hv with ⟨rfl, rfl⟩ | ⟨g, c, f, rfl, hg, hc, hm, hr, hf⟩
  · refine (Try.slices_BinarySearch_int_empty none 0 x w).mono ?_
    rintro e w' ⟨rfl, rfl⟩
    exact ⟨rfl, 0, rfl⟩
  · have h := Try.slices_BinarySearch_int g 0 zs.length c zs x w (Nat.le_refl _) (by omega) (fun j hj => by rw [Nat.zero_add, hr.cell (show j < c by omega), hf j hj]) (by rw [List.take_length]; exact hs.imp (fun h => by omega))
    rw [List.take_length] at h
    exact h
set_option maxHeartbeats 1000000 in
theorem tog_impl (w : World) (B : Nat) (v : Value) (zs : List Int) (x : Int) (hv : Cols w B v zs) (hB : B ≤ w.heap.size) (hn : zs.length ≤ 1000000) (hs : zs.Pairwise (· < ·)) :
    Calls Try.prog 130 #[v, .int .i64 x] w fun e w' => ∃ u, e = .returned u ∧ Cols w' B u (tog zs x) ∧ Below B w w' := by
  have hbs := bs_impl w B v zs x hv (by omega) hs
  have HV := Lib.hid (And.intro hv (And.intro hB hn))
  have hi : zs.countP (fun d => decide (d < x)) ≤ zs.length := List.countP_le_length
  clear hs hv hB hn
  cases hf : zs.contains x
  · have et : tog zs x = zs.take (zs.countP fun d => decide (d < x)) ++ x :: zs.drop (zs.countP fun d => decide (d < x)) := by
      unfold tog; rw [hf]; simp
    rw [hf] at hbs
    rw [et]
    clear et hf
    generalize zs.countP (fun d => decide (d < x)) = i at *
    have HI := Lib.hid hi
    clear hi
    go_enter Try.func130, Try.ntmps130
    go_wp2_with (go_at_call 132; refine hbs.mono ?_; rintro e w1 ⟨rfl, q, rfl⟩)
    refine (ins_impl ((w.drewN q).alloc (.cells #[.int .i64 x] 3)) B v zs x i w.heap.size ?_ ?_ (by have := HV.out.2.2; omega) HI.out ?_ ?_).mono ?_
    · exact (HV.out.1.keep (w' := w.drewN q) ⟨rfl, rfl, rfl, Nat.le_refl _, fun _ _ => rfl⟩).keep ((Below.refl _ _).alloc (Nat.le_refl _) _)
    · have := HV.out.2.1; rw [World.size_alloc]; show B ≤ w.heap.size + 1; omega
    · have := World.rowIs_alloc (w.drewN q) #[.int .i64 x] 3 (fun _ => .int .i64 x) (fun i hi => by
        have h0 : i = 0 := by simpa using hi
        subst h0; rfl)
      exact this
    · rintro a n c rfl
      rcases HV.out.1 with ⟨h, _⟩ | ⟨g, c', f, h, _, _, _, hr, _⟩
      · cases h
      · injection h with h1 _ _
        injection h1 with h1
        have := hr.lt
        rw [h1]; show w.heap.size ≠ g; omega
    · rintro e w' ⟨u, rfl, hc, hb⟩
      go_wp2
      go_ret
      exact ⟨_, rfl, hc, (((Below.refl B w).trans (c := w.drewN q) ⟨rfl, rfl, rfl, Nat.le_refl _, fun _ _ => rfl⟩).alloc HV.out.2.1 _).trans hb⟩
  · have et : tog zs x = zs.take (zs.countP fun d => decide (d < x)) ++ zs.drop ((zs.countP fun d => decide (d < x)) + 1) := by
      unfold tog; rw [hf]; simp
    have hil := cnt_found hf
    rw [hf] at hbs
    rw [et]
    clear et hf
    generalize zs.countP (fun d => decide (d < x)) = i at *
    have HI := Lib.hid hil
    have w1 : IntKind.i64.wrap ((i : Int) + 1) = (i : Int) + 1 := by have := HV.out.2.2; rw [IntKind.wrap_i64]; omega
    clear hi hil
    go_enter Try.func130, Try.ntmps130
    go_wp2_with (go_at_call 132; refine hbs.mono ?_; rintro e w1 ⟨rfl, q, rfl⟩)
    refine (del_impl (w.drewN q) B v zs i ?_ (by have := HV.out.2.2; omega) HI.out).mono ?_
    · exact HV.out.1.keep (w' := w.drewN q) ⟨rfl, rfl, rfl, Nat.le_refl _, fun _ _ => rfl⟩
    · rintro e w' ⟨u, rfl, hc, hb⟩
      go_wp2
      go_ret
      exact ⟨_, rfl, hc, ((Below.refl B w).trans (c := w.drewN q) ⟨rfl, rfl, rfl, Nat.le_refl _, fun _ _ => rfl⟩).trans hb⟩
end Go.Proofs.Ytejnfdpckipbeaa.Ins
namespace Go.Proofs.Ytejnfdpckipbeaa.Ins
open Go.ChangeShapes Go.WideShapes Go.ChangeAt Go.RowKit
open Kit Point Slabs
set_option linter.unusedVariables false
set_option linter.unusedSimpArgs false
set_option linter.unnecessarySimpa false
def sdF (l : List Pt) (i : Nat) : List Value := [.int .i64 (pX l i), .int .i64 (pY l i), .int .i64 (pX l ((i + 1) % l.length)), .int .i64 (pY l ((i + 1) % l.length))]
def zrF (_ : Nat) : List Value := [.int .i64 0, .int .i64 0, .int .i64 0, .int .i64 0]
theorem sdF_len (l : List Pt) (i : Nat) : (sdF l i).length = 4 := rfl
theorem zrF_len (i : Nat) : (zrF i).length = 4 := rfl
theorem cells4_of {w : World} {g n : Nat} {F : Nat → List Value} (h : ∀ i, i < n → ∀ j u, (F i)[j]? = some u → w.cell? ⟨g, i * 4 + j, none⟩ = some u) {i : Nat} (hi : i < n) {x0 x1 x2 x3 : Value} (e : F i = [x0, x1, x2, x3]) :
    w.cell? ⟨g, i * 4, none⟩ = some x0 ∧ w.cell? ⟨g, i * 4 + 1, none⟩ = some x1 ∧ w.cell? ⟨g, i * 4 + 2, none⟩ = some x2 ∧ w.cell? ⟨g, i * 4 + 3, none⟩ = some x3 := by
  have h0 := h i hi
  rw [e] at h0
  exact ⟨by simpa using h0 0 _ rfl, by simpa using h0 1 _ rfl, by simpa using h0 2 _ rfl, by simpa using h0 3 _ rfl⟩
theorem zero4_at (n i j : Nat) (u : Value) (hi : i < n) (hu : (zrF i)[j]? = some u) : (madeCells #[.int .i64 0, .int .i64 0, .int .i64 0, .int .i64 0] (n * 4))[i * 4 + j]? = some u := by
  have hj : j < 4 := by have := (List.getElem?_eq_some_iff.1 hu).1; simpa [zrF] using this
  unfold madeCells
  rw [Array.getElem?_map, Array.getElem?_range, if_pos (by have := Nat.mul_le_mul_right 4 (show i + 1 ≤ n by omega); rw [Nat.succ_mul] at this; omega)]
  have h1 : (i * 4 + j) % 4 = j := by omega
  simp only [Option.map_some]
  have h2 : j = 0 ∨ j = 1 ∨ j = 2 ∨ j = 3 := by omega
  rcases h2 with rfl | rfl | rfl | rfl <;> (simp only [zrF, List.getElem?_cons_zero, List.getElem?_cons_succ, Option.some.injEq] at hu; subst hu; simp [h1] <;> (try simp at h1) <;> (try simp [h1]))
theorem info_sd8 : (Try.prog.info? 91).map (fun i => (i.zero, i.size, i.bytes)) = some (some (.agg #[.int .i64 0, .int .i64 0, .int .i64 0, .int .i64 0]), 4, 32) := by kernel_rfl
set_option maxHeartbeats 2000000 in
theorem sd_impl (w : World) (a : Option Addr) (c : Nat) (l : List Pt) (hn : l.length ≤ 1048576) (h : PathAt w a l) :
    Calls Try.prog 52 #[.slice a l.length c] w fun e w' => ∃ v, e = .returned v ∧ Slab w' w.heap.size v l.length 4 (sdF l) ∧ Below w.heap.size w w' := by
  obtain ⟨i0, hi0, hz0, hz1, hz2⟩ := info_parts info_sd8
  obtain ⟨n, hN⟩ : ∃ n, l.length = n := ⟨_, rfl⟩
  have hn' : n ≤ 1048576 := by omega
  have hmk := fun W : World => run_make_rowN (P := Try.prog) 86 91 i0 _ Try.underlying86 hi0 hz0 .i64 .i64 n n (Nat.le_refl _) (by rw [hz2]; omega) (by omega) W
  rw [hz1] at hmk
  clear hi0 hz0 hz1 hz2 hn'
  have HP := Lib.hid h
  have HN := Lib.hid hN
  rcases h with rfl | ⟨g, rfl, hg, _⟩
  · simp only [List.length_nil] at hN
    subst hN
    have hmk0 := hmk
    simp only [Nat.zero_mul, Int.natCast_zero, Int.ofNat_zero, show ((0 : Nat) : Int) = 0 from rfl] at hmk0
    clear hmk
    go_enter Try.func52, Try.ntmps52
    go_wp2
    go_rounds 1
    go_ret
    exact ⟨_, rfl, ⟨_, _, rfl, Nat.le_refl _, .inl rfl⟩, by go_grown⟩
  · rw [hN] at hn ⊢
    clear hN
    go_enter Try.func52, Try.ntmps52
    go_wp2
    go_loopw [11] (fun v11 wr => ∃ k : Nat, k ≤ n ∧ v11 = .int .i64 (k : Int) ∧ Writes wr w.heap.size n 4 (upto (sdF l) zrF k) ∧ Below w.heap.size w wr) (fun v11 _ => n - (intOf v11).toNat)
    case atStart =>
      refine ⟨0, Nat.zero_le _, rfl, ⟨by simp, fun o => by simp, fun i hi j u hu => ?_⟩, by go_grown⟩
      rw [upto_zero] at hu
      rw [World.cell?_alloc_new]; exact zero4_at n i j u hi hu
    case round =>
      obtain ⟨k, hk, rfl, U, hB⟩ := hrel
      by_cases hlt : k < n
      · have hP := HP.out.on hB
        rcases hP with he | ⟨g', hg', hlg, hc⟩
        · have := HN.out; rw [he] at this; simp at this; omega
        · injection hg' with hg'
          injection hg' with hg'
          subst hg'
          obtain ⟨m, hm⟩ : ∃ m, (k + 1) % n = m := ⟨_, rfl⟩
          have hmn : m < n := by rw [← hm]; exact Nat.mod_lt _ (by omega)
          obtain ⟨q1, q2⟩ := hc k (by rw [HN.out]; exact hlt)
          obtain ⟨q3, q4⟩ := hc m (by rw [HN.out]; exact hmn)
          have hs : sdF l k = [.int .i64 (pX l k), .int .i64 (pY l k), .int .i64 (pX l m), .int .i64 (pY l m)] := by unfold sdF; rw [HN.out, hm]
          generalize pX l k = ax at q1 hs
          generalize pY l k = ay at q2 hs
          generalize pX l m = bx at q3 hs
          generalize pY l m = b1 at q4 hs
          have HS := Lib.hid hs
          clear hs hc
          have i0 : (0 : Int) ≤ (k : Int) := by omega
          have i1 : (k : Int) < (n : Int) := by omega
          have i2 : (0 : Int) ≤ (m : Int) := by omega
          have i3 : (m : Int) < (n : Int) := by omega
          have hn0 : ¬ n = 0 := by omega
          have j1 : IntKind.i64.wrap ((k : Int) + 1) = (k : Int) + 1 := IntWalk.i64_in _ (by omega)
          have j2 : ((k : Int) + 1).tmod (n : Int) = (m : Int) := by
            rw [← hm, show ((k : Int) + 1) = ((k + 1 : Nat) : Int) by omega, Int.ofNat_tmod]
          have j3 : IntKind.i64.wrap (m : Int) = (m : Int) := IntWalk.i64_in _ (by omega)
          have hsz : w.heap.size ≤ wr.heap.size := hB.size
          have hug := U.here
          have fz := U.free
          obtain ⟨c0, c1, c2, c3⟩ := cells4_of U.cell hlt (show upto (sdF l) zrF k k = _ from upto_ge (by omega))
          have HU := Lib.hid (And.intro U hB)
          clear hm U hB
          go_upto_region 5 with (fail)
          go_region
          have U3 := HU.out.1.all hlt zrF_len (sdF_len l)
          rw [HS.out] at U3
          have U4 := setAll_below HU.out.2 w.heap.size (k * 4) (Nat.le_refl _) [.int .i64 ax, .int .i64 ay, .int .i64 bx, .int .i64 b1]
          have U5 := U3.on (((Below.refl _ _).alloc (Nat.le_refl _) (.cells #[.int .i64 ax, .int .i64 ay] 89)).drew)
          have U6 := (U4.alloc (by rw [setAll_size]; exact hsz) (.cells #[.int .i64 ax, .int .i64 ay] 89)).drew
          have HV := Lib.hid (And.intro U5 U6)
          clear U3 U4 U5 U6
          go_wp2
          go_roundw
          case rel => exact ⟨k + 1, by omega, by go_num, HV.out.1, HV.out.2⟩
          case measure => simp [intOf]; omega
      · obtain rfl : k = n := by omega
        go_wp2
        go_ret
        exact ⟨_, rfl, (U.slab (Nat.le_refl _) _ (Nat.le_refl _)).same fun i hi => upto_lt hi, hB⟩
end Go.Proofs.Ytejnfdpckipbeaa.Ins
