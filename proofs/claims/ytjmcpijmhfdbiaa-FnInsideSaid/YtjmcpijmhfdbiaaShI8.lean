/-
  ShiftPath (program): what the call returns for any path and any shift.
-/
import Derived.Test.YtjmcpijmhfdbiaaDs8
import Derived.Test.YtjmcpijmhfdbiaaPti8
namespace Go.Proofs.Ytjmcpijmhfdbiaa.Ins
open Go.ChangeShapes Go.WideShapes Go.ChangeAt Go.RowKit
open Kit Point Slabs
set_option linter.unusedVariables false
set_option linter.unusedSimpArgs false
set_option linter.unnecessarySimpa false
theorem all_sh (l : List Pt) (d : Pt) : l.all (shB d) = (ptsB l && ptsB (l.map (mv d))) := by
  rw [Bool.eq_iff_iff]
  simp only [Bool.and_eq_true, ptsB, List.all_eq_true, List.mem_map, shB, forall_exists_index, and_imp]
  constructor
  · intro h
    exact ⟨fun p hp => (h p hp).1, fun q p hp e => by subst e; exact (h p hp).2⟩
  · intro h p hp
    exact ⟨h.1 p hp, h.2 _ p hp rfl⟩
/-- What ShiftPath leaves. -/
def ShI (w : World) (m : List Pt) (e : Ending) (w' : World) : Prop := ∃ v, e = .returned v ∧ w'.ownsRow w.heap.size 30 2 v m.length (cellsP m) ∧ Below w.heap.size w w'
theorem shi_none (w W : World) (h : Below w.heap.size w W) : ShI w [] (.returned (.slice none 0 0)) W :=
  ⟨_, rfl, ⟨by decide, .inl ⟨rfl, rfl⟩⟩, h⟩
set_option maxHeartbeats 2000000 in
theorem shift_impl (w : World) (a : Option Addr) (c : Nat) (l : List Pt) (dx dy : Int) (hn : l.length ≤ 1048576) (h : PathAt w a l) :
    Calls Try.prog 12 #[.slice a l.length c, .int .i64 dx, .int .i64 dy] w (ShI w (shV l (dx, dy))) := by
  obtain ⟨i0, hi0, hz0, hz1, hz2⟩ := info_parts info_pt8
  have H := Lib.hid (And.intro h hn)
  clear h hn
  have hall := all_sh l (dx, dy)
  rcases (show inB dx = false ∨ (inB dx = true ∧ inB dy = false) ∨ (inB dx = true ∧ inB dy = true ∧ ptsB l = false) ∨ (inB dx = true ∧ inB dy = true ∧ ptsB l = true) by cases inB dx <;> cases inB dy <;> cases ptsB l <;> simp) with h1 | ⟨h1, h2⟩ | ⟨h1, h2, h3⟩ | ⟨h1, h2, h3⟩
  · rw [shV_far (by simp [h1])]
    clear hall
    go_enter Try.func12, Try.ntmps12
    go_wp2_with (go_at_call 32; refine (coord_any _ _).mono ?_; rintro e w' ⟨rfl, rfl⟩)
    go_ret
    exact shi_none w w (Below.refl _ _)
  · rw [shV_far (by simp [h1, h2])]
    clear hall
    go_enter Try.func12, Try.ntmps12
    go_wp2_with (go_at_call 32; refine (coord_any _ _).mono ?_; rintro e w' ⟨rfl, rfl⟩)
    go_ret
    exact shi_none w w (Below.refl _ _)
  · rw [show shV l (dx, dy) = [] by simp [shV, hall, h3]]
    clear hall
    go_enter Try.func12, Try.ntmps12
    go_wp2_with (first
      | (go_at_call 32; refine (coord_any _ _).mono ?_; rintro e w' ⟨rfl, rfl⟩)
      | (go_at_call 33; refine (allpts_impl _ _ _ _ H.out.2 H.out.1).mono ?_; rintro e w1 ⟨rfl, hb⟩))
    go_ret
    exact shi_none w _ hb
  · have d1 := inB_true h1
    have d2 := inB_true h2
    have HV := Lib.hid (show shV l (dx, dy) = if ptsB (l.map (mv (dx, dy))) = true then l.map (mv (dx, dy)) else [] by simp [shV, hall, h1, h2, h3])
    have HO := Lib.hid h3
    clear hall
    go_enter Try.func12, Try.ntmps12
    go_wp2_with (first
      | (go_at_call 32; refine (coord_any _ _).mono ?_; rintro e w' ⟨rfl, rfl⟩)
      | (go_at_call 33; refine (allpts_impl _ _ _ _ H.out.2 H.out.1).mono ?_; rintro e w1 ⟨rfl, hb⟩))
    clear h1 h2 h3
    have HB1 := Lib.hid hb
    have hs1 := hb.size
    clear hb
    obtain ⟨n, hN⟩ : ∃ n, l.length = n := ⟨_, rfl⟩
    have HN := Lib.hid hN
    have hn := H.out.2
    rw [hN] at hn ⊢
    clear hN
    go_loopw [7, 25] (fun v7 v25 wr => ∃ k : Nat, k ≤ n ∧ v25 = .int .i64 (k : Int) ∧ wr.ownsRow w.heap.size 30 2 v7 k (cellsP ((l.take k).map (mv (dx, dy)))) ∧ Below w.heap.size w wr) (fun v7 v25 _ => n - (intOf v25).toNat)
    case atStart => exact ⟨0, Nat.zero_le _, rfl, ⟨by simp [cellsP], .inl ⟨rfl, rfl⟩⟩, HB1.out⟩
    case round =>
      obtain ⟨k, hk, rfl, hown, hB⟩ := hrel
      by_cases hlt : k < n
      · have hP := H.out.1.on hB
        rcases hP with he | ⟨g, rfl, hlg, hc⟩
        · have := HN.out; rw [he] at this; simp at this; omega
        · have hkl : k < l.length := by rw [HN.out]; exact hlt
          obtain ⟨q1, q2⟩ := hc k hkl
          have hget := getp l hkl
          have hp1 := ptsB_at HO.out hkl
          generalize pX l k = ax at q1 hget hp1
          generalize pY l k = ay at q2 hget hp1
          simp only [pokB, Bool.and_eq_true] at hp1
          have b1 := inB_true hp1.1
          have b2 := inB_true hp1.2
          have HG := Lib.hid hget
          have HQ := Lib.hid (And.intro hown hB)
          have hsz := hB.size
          have i0' : (0 : Int) ≤ (k : Int) := by omega
          have i1 : (k : Int) < (n : Int) := by omega
          clear hget hc hp1 hown hB
          go_wp2_with (at_builtin; refine wpList_append_own _ rfl _ _ 24 rfl w.heap.size 30 i0 (.agg #[.int .i64 0, .int .i64 0]) 2 16 Try.underlying24 hi0 hz0 hz1 hz2 rfl (by decide) _ _ _ rfl ((HQ.out.1.alloc (.cells #[.int .i64 ax, .int .i64 ay] 30)).alloc _) ⟨wr.heap.size + 1, 0, none⟩ 1 1 [.int .i64 (ax + dx), .int .i64 (ay + dy)] rfl rfl (World.news_of_block (cs := #[.int .i64 (ax + dx), .int .i64 (ay + dy)]) (t := 30) (fr := (0, 0)) (by have := heap_alloc_new (wr.alloc (.cells #[.int .i64 ax, .int .i64 ay] 30)) (.cells #[.int .i64 (ax + dx), .int .i64 (ay + dy)] 30); simpa using this)) ?c2 ?c3 ?c4 ?c5 ?_)
          case c2 => simp [Value.oneCell']
          case c3 => unfold maxLen; omega
          case c4 => omega
          case c5 => simp; omega
          intro v2 w3 hown2 hgrow hnil
          have hB3 : Below w.heap.size w w3 := ((HQ.out.2.alloc hsz (.cells #[.int .i64 ax, .int .i64 ay] 30)).alloc (by simp; omega) (.cells #[.int .i64 (ax + dx), .int .i64 (ay + dy)] 30)).grown hgrow (by simp; omega) (fun p hp => (((HQ.out.1.alloc (.cells #[.int .i64 ax, .int .i64 ay] 30)).alloc (.cells #[.int .i64 (ax + dx), .int .i64 (ay + dy)] 30)).lt p hp).1)
          have hown3 : w3.ownsRow w.heap.size 30 2 v2 (k + 1) (cellsP ((l.take (k + 1)).map (mv (dx, dy)))) := by
            rw [take_mv l _ hkl, HG.out, cellsP_snoc, List.map_take]; exact hown2
          have H3 := Lib.hid (And.intro hown3 hB3)
          clear hown2 hown3 hgrow hB3 hnil q1 q2
          go_wp2
          go_roundw
          case rel => exact ⟨k + 1, by omega, by go_num, H3.out.1, H3.out.2⟩
          case measure => simp [intOf]; omega
      · obtain rfl : k = n := by omega
        rw [List.take_of_length_le (by rw [HN.out]; omega)] at hown
        have hlen : (l.map (mv (dx, dy))).length = k := by rw [List.length_map, HN.out]
        have hown' : wr.ownsRow w.heap.size 30 2 u7 (l.map (mv (dx, dy))).length (cellsP (l.map (mv (dx, dy)))) := by rw [hlen]; exact hown
        obtain ⟨a7, c7, rfl, hP7⟩ := path_of_owns hown'
        have HQ := Lib.hid (And.intro hown' (And.intro hP7 (And.intro hB hlen)))
        clear hown hown' hP7 hB hlen
        generalize l.map (mv (dx, dy)) = m at *
        have hm : m.length ≤ 1048576 := by rw [HQ.out.2.2.2]; omega
        have hsz := HQ.out.2.2.1.size
        cases hpm : ptsB m
        · go_wp2_with fail
          (refine (allpts_impl _ _ _ _ hm HQ.out.2.1).mono ?_; rintro e w4 ⟨rfl, hb⟩)
          have HB4 := Lib.hid (HQ.out.2.2.1.trans (hb.mono hsz))
          rw [hpm]
          clear hb
          go_wp2
          go_ret
          rw [HV.out, hpm]
          exact shi_none w _ HB4.out
        · go_wp2_with fail
          (refine (allpts_impl _ _ _ _ hm HQ.out.2.1).mono ?_; rintro e w4 ⟨rfl, hb⟩)
          have HB4 := Lib.hid (And.intro (HQ.out.2.2.1.trans (hb.mono hsz)) (owns_below HQ.out.1 hb))
          rw [hpm]
          clear hb
          go_wp2
          go_ret
          rw [HV.out, hpm]
          exact ⟨_, rfl, HB4.out.2, HB4.out.1⟩
end Go.Proofs.Ytjmcpijmhfdbiaa.Ins
