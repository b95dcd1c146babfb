/-
  toggled (program), the rest: slices.Delete at one place, and the function itself.
-/
import Derived.Test.YtccjfljmmdlngaaTg9
namespace Go.Proofs.Ytccjfljmmdlngaa.Ins
open Go.ChangeShapes Go.WideShapes Go.ChangeAt Go.RowKit Go.Shelf
open Kit
set_option linter.unusedVariables false
set_option linter.unusedSimpArgs false
set_option linter.unnecessarySimpa false
theorem del_get (zs : List Int) {i : Nat} (hi : i < zs.length) (j : Nat) (hj : j < zs.length - 1) (r : List Int) :
    (zs.take i ++ zs.drop (i + 1) ++ r)[j]? = some ((zs.take i ++ zs.drop (i + 1)).getD j 0) := by
  have hl : (zs.take i ++ zs.drop (i + 1)).length = zs.length - 1 := by rw [List.length_append, List.length_take, List.length_drop]; omega
  rw [List.getElem?_append_left (by omega), List.getElem?_eq_getElem (by omega)]
  simp [List.getD, hl, hj]
theorem del_impl (w : World) (B : Nat) (v : Value) (zs : List Int) (i : Nat) (hv : Cols w B v zs) (hn : zs.length ≤ 1048576) (hi : i < zs.length) :
    Calls Try.prog 73 #[v, .int .i64 (i : Int), .int .i64 ((i : Int) + 1)] w fun e w' => ∃ u, e = .returned u ∧ Cols w' B u (zs.take i ++ zs.drop (i + 1)) ∧ Below B w w' := by
  rcases hv with ⟨rfl, rfl⟩ | ⟨g, c, f, rfl, hg, hc, hm, hr, hf⟩
  · simp at hi
  · have hl : (zs.take i ++ zs.drop (i + 1)).length = zs.length - 1 := by rw [List.length_append, List.length_take, List.length_drop]; omega
    have h := Try.slices_Delete_int_cells g 0 zs.length c i (i + 1) zs w (Nat.le_refl _) hc (by unfold maxLen at hm; omega) (by omega) (by omega) (fun j hj => by rw [Nat.zero_add, hr.cell (show j < c by omega), hf j hj]) (fun j hj => hr.frozen _)
    rw [show (((i + 1 : Nat)) : Int) = (i : Int) + 1 by omega] at h
    refine h.mono ?_
    rintro e w' ⟨rfl, q, rfl⟩
    rw [List.take_length, show i + 1 - i = 1 by omega]
    refine ⟨_, rfl, .inr ⟨g, c, _, by rw [hl], hg, by omega, hm, Go.rowIs_setCells _ _ _ _ (show (w.drewN q).rowIs g 3 c f from hr), fun j hj => ?_⟩, setCells_below g hg _ _ _ ((Below.refl B w).trans ⟨rfl, rfl, rfl, Nat.le_refl _, fun _ _ => rfl⟩)⟩
    rw [hl] at hj
    have hlen : ((zs.take i ++ zs.drop (i + 1) ++ List.replicate 1 0).map (Value.int .i64)).length = zs.length := by
      rw [List.length_map, List.length_append, hl, List.length_replicate]; omega
    rw [hlen, if_pos (by omega), Nat.sub_zero, List.getElem?_map, del_get zs hi j hj]; rfl
theorem cnt_found {zs : List Int} {x : Int} (h : zs.contains x = true) : zs.countP (fun d => decide (d < x)) < zs.length := by
  have hle := List.countP_le_length (p := fun d => decide (d < x)) (l := zs)
  rcases Nat.lt_or_ge (zs.countP fun d => decide (d < x)) zs.length with h1 | h1
  · exact h1
  · have := (List.countP_eq_length (p := fun d => decide (d < x)) (l := zs)).1 (Nat.le_antisymm hle h1) x (by simpa using h)
    simp at this
theorem bs_impl (w : World) (B : Nat) (v : Value) (zs : List Int) (x : Int) (hv : Cols w B v zs) (hn : zs.length ≤ 1048576) (hs : zs.Pairwise (· < ·)) :
    Calls Try.prog 72 #[v, .int .i64 x] w fun e w' => e = .returned (.tuple #[.int .i64 ((zs.countP fun d => decide (d < x) : Nat) : Int), .bool (zs.contains x)]) ∧ ∃ q, w' = w.drewN q := by
  rcases hv with ⟨rfl, rfl⟩ | ⟨g, c, f, rfl, hg, hc, hm, hr, hf⟩
  · refine (Try.slices_BinarySearch_int_empty none 0 x w).mono ?_
    rintro e w' ⟨rfl, rfl⟩
    exact ⟨rfl, 0, rfl⟩
  · have h := Try.slices_BinarySearch_int g 0 zs.length c zs x w (Nat.le_refl _) (by omega) (fun j hj => by rw [Nat.zero_add, hr.cell (show j < c by omega), hf j hj]) (by rw [List.take_length]; exact hs.imp (fun h => by omega))
    rw [List.take_length] at h
    exact h
set_option maxHeartbeats 1000000 in
theorem tog_impl (w : World) (B : Nat) (v : Value) (zs : List Int) (x : Int) (hv : Cols w B v zs) (hB : B ≤ w.heap.size) (hn : zs.length ≤ 1000000) (hs : zs.Pairwise (· < ·)) :
    Calls Try.prog 70 #[v, .int .i64 x] w fun e w' => ∃ u, e = .returned u ∧ Cols w' B u (tog zs x) ∧ Below B w w' := by
  have hbs := bs_impl w B v zs x hv (by omega) hs
  have HV := Lib.hid (And.intro hv (And.intro hB hn))
  have hi : zs.countP (fun d => decide (d < x)) ≤ zs.length := List.countP_le_length
  clear hs hv hB hn
  cases hf : zs.contains x
  · have et : tog zs x = zs.take (zs.countP fun d => decide (d < x)) ++ x :: zs.drop (zs.countP fun d => decide (d < x)) := by
      unfold tog; rw [hf]; simp
    rw [hf] at hbs
    rw [et]
    clear et hf
    generalize zs.countP (fun d => decide (d < x)) = i at *
    have HI := Lib.hid hi
    clear hi
    go_enter Try.func70, Try.ntmps70
    go_wp2_with (go_at_call 72; refine hbs.mono ?_; rintro e w1 ⟨rfl, q, rfl⟩)
    refine (ins_impl ((w.drewN q).alloc (.cells #[.int .i64 x] 3)) B v zs x i w.heap.size ?_ ?_ (by have := HV.out.2.2; omega) HI.out ?_ ?_).mono ?_
    · exact (HV.out.1.keep (w' := w.drewN q) ⟨rfl, rfl, rfl, Nat.le_refl _, fun _ _ => rfl⟩).keep ((Below.refl _ _).alloc (Nat.le_refl _) _)
    · have := HV.out.2.1; rw [World.size_alloc]; show B ≤ w.heap.size + 1; omega
    · have := World.rowIs_alloc (w.drewN q) #[.int .i64 x] 3 (fun _ => .int .i64 x) (fun i hi => by
        have h0 : i = 0 := by simpa using hi
        subst h0; rfl)
      exact this
    · rintro a n c rfl
      rcases HV.out.1 with ⟨h, _⟩ | ⟨g, c', f, h, _, _, _, hr, _⟩
      · cases h
      · injection h with h1 _ _
        injection h1 with h1
        have := hr.lt
        rw [h1]; show w.heap.size ≠ g; omega
    · rintro e w' ⟨u, rfl, hc, hb⟩
      go_wp2
      go_ret
      exact ⟨_, rfl, hc, (((Below.refl B w).trans (c := w.drewN q) ⟨rfl, rfl, rfl, Nat.le_refl _, fun _ _ => rfl⟩).alloc HV.out.2.1 _).trans hb⟩
  · have et : tog zs x = zs.take (zs.countP fun d => decide (d < x)) ++ zs.drop ((zs.countP fun d => decide (d < x)) + 1) := by
      unfold tog; rw [hf]; simp
    have hil := cnt_found hf
    rw [hf] at hbs
    rw [et]
    clear et hf
    generalize zs.countP (fun d => decide (d < x)) = i at *
    have HI := Lib.hid hil
    have w1 : IntKind.i64.wrap ((i : Int) + 1) = (i : Int) + 1 := by have := HV.out.2.2; rw [IntKind.wrap_i64]; omega
    clear hi hil
    go_enter Try.func70, Try.ntmps70
    go_wp2_with (go_at_call 72; refine hbs.mono ?_; rintro e w1 ⟨rfl, q, rfl⟩)
    refine (del_impl (w.drewN q) B v zs i ?_ (by have := HV.out.2.2; omega) HI.out).mono ?_
    · exact HV.out.1.keep (w' := w.drewN q) ⟨rfl, rfl, rfl, Nat.le_refl _, fun _ _ => rfl⟩
    · rintro e w' ⟨u, rfl, hc, hb⟩
      go_wp2
      go_ret
      exact ⟨_, rfl, hc, ((Below.refl B w).trans (c := w.drewN q) ⟨rfl, rfl, rfl, Nat.le_refl _, fun _ _ => rfl⟩).trans hb⟩
end Go.Proofs.Ytccjfljmmdlngaa.Ins
