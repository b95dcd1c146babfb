/-
  Chapter 7: NewPage, program and model.
-/
import Derived.Test.YtejnfdpckipbeaaLawKit
import Derived.Test.YtejnfdpckipbeaaPgM
import Derived.WalkKit
import Derived.Handy
import Derived.Laws.EntriesVeiled
import Derived.Lib.Hide
import Derived.Test.YtejnfdpckipbeaaBo10
namespace Go.Proofs.Ytejnfdpckipbeaa.Own
open Go.ChangeShapes Go.WideShapes Go.ChangeAt Go.RowKit
open Kit Slabs Ints Stack Point Turn
set_option linter.unusedVariables false
set_option linter.unusedSimpArgs false
set_option linter.unnecessarySimpa false
set_option maxRecDepth 100000
attribute [local go_sem ↓] hload_Page hstore_Page
def newR : Array Value := #[.slice none 0 0, .int .i64 0, .int .i64 1, .int .i64 0, .int .i64 0, .slice none 0 0, .int .i64 0, .int .i64 0, .int .i64 0, .int .i64 32, .int .i64 32, .slice none 0 0, .slice none 0 0]
theorem new_own (w : World) : OwnL w LPage newR.toList newP.dt [] :=
  .cons (cs := [.slice none 0 0]) (fp := []) (.nil none 0) (.cons (cs := [.int .i64 0]) (fp := []) (.int 0) (.cons (cs := [.int .i64 1]) (fp := []) (.int 1) (.cons (cs := [.int .i64 0]) (fp := []) (.int 0) (.cons (cs := [.int .i64 0]) (fp := []) (.int 0) (.cons (cs := [.slice none 0 0]) (fp := []) (.nil none 0) (.cons (cs := [.int .i64 0]) (fp := []) (.int 0) (.cons (cs := [.int .i64 0]) (fp := []) (.int 0) (.cons (cs := [.int .i64 0]) (fp := []) (.int 0) (.cons (cs := [.int .i64 32]) (fp := []) (.int 32) (.cons (cs := [.int .i64 32]) (fp := []) (.int 32) (.cons (cs := [.slice none 0 0]) (fp := []) (.nil none 0) (.cons (cs := [.slice none 0 0]) (fp := []) (.nil none 0) .nil))))))))))))
theorem full_spec (w : World) : Calls Try.prog 64 #[] w fun e w' => e = .returned (.agg #[.int .i64 0, .int .i64 0, .int .i64 32, .int .i64 32]) ∧ Below w.heap.size w w' := by
  go_enter Try.func64, Try.ntmps64
  go_wp2
  go_returns
  exact ⟨rfl, by go_grown⟩
set_option maxHeartbeats 1000000 in
theorem spec_NewPage (w : World) : Calls Try.prog 23 #[] w fun e w' => ∃ (R : Array Value) (fp : List Nat), e = .returned (.agg R) ∧ OwnL w' LPage R.toList newP.dt fp ∧ fp.Nodup ∧ (∀ b ∈ fp, w.heap.size ≤ b) ∧ Below w.heap.size w w' := by
  go_enter Try.func23, Try.ntmps23
  go_wp2_with fail
  ((with_reducible refine (ident_spec _).mono ?_); rintro e w1 ⟨rfl, bb⟩)
  go_wp2_with fail
  ((with_reducible refine (full_spec _).mono ?_); rintro e w2 ⟨rfl, bb2⟩)
  have bb := on_of bb bb2
  have BZ : Blk w2 w.heap.size (#[.slice none 0 0, .int .i64 0, .int .i64 0, .int .i64 0, .int .i64 0, .slice none 0 0, .int .i64 0, .int .i64 0, .int .i64 0, .int .i64 0, .int .i64 0, .slice none 0 0, .slice none 0 0] : Array Value).toList := (Blk.new w #[.slice none 0 0, .int .i64 0, .int .i64 0, .int .i64 0, .int .i64 0, .slice none 0 0, .int .i64 0, .int .i64 0, .int .i64 0, .int .i64 0, .int .i64 0, .slice none 0 0, .slice none 0 0] 51 rfl).keep bb
  have zz : w.heap.size < w2.heap.size := BZ.2.2
  have hW : Below w.heap.size w w2 := on_of (W := w) (by go_grown) bb
  obtain ⟨E, st, BX, tt⟩ := var_put (P := Try.prog) (T := 51) Try.sizeOf51 BZ rfl (new_own w) rfl
  have lo := var_load (P := Try.prog) (T := 51) Try.isAgg51 Try.sizeOf51 BX (new_own w) rfl
  have HX := Lib.hid (And.intro (hW.trans (tt.below (by omega) (fun k e => by omega))) lo)
  clear BX tt hW BZ lo bb
  unfold newR at st
  go_wp2
  refine bodyPost_ret (v := .agg newR) ?_ rfl ⟨newR, [], rfl, new_own _, List.nodup_nil, fun b hb => absurd hb List.not_mem_nil, HX.out.1⟩
  exact results_h Try.results23 (by rfl) HX.out.2
set_option maxHeartbeats 1000000 in
theorem impl_NewPage (w : World) : Calls Try.prog 24 #[] w fun e w' => ∃ (R : Array Value) (fp : List Nat), e = .returned (.agg R) ∧ OwnL w' LPage R.toList newP.dt fp ∧ fp.Nodup ∧ (∀ b ∈ fp, w.heap.size ≤ b) ∧ Below w.heap.size w w' := by
  go_enter Try.func24, Try.ntmps24
  go_wp2_with fail
  ((with_reducible refine (ident_impl _).mono ?_); rintro e w1 ⟨rfl, bb⟩)
  go_wp2_with fail
  ((with_reducible refine (Ins.page_box _).mono ?_); rintro e w2 ⟨rfl, bb2⟩)
  have bb := on_of bb bb2
  simp only [Ins.Bx.v, Ins.pgx] at *
  have BZ : Blk w2 w.heap.size (#[.slice none 0 0, .int .i64 0, .int .i64 0, .int .i64 0, .int .i64 0, .slice none 0 0, .int .i64 0, .int .i64 0, .int .i64 0, .int .i64 0, .int .i64 0, .slice none 0 0, .slice none 0 0] : Array Value).toList := (Blk.new w #[.slice none 0 0, .int .i64 0, .int .i64 0, .int .i64 0, .int .i64 0, .slice none 0 0, .int .i64 0, .int .i64 0, .int .i64 0, .int .i64 0, .int .i64 0, .slice none 0 0, .slice none 0 0] 51 rfl).keep bb
  have zz : w.heap.size < w2.heap.size := BZ.2.2
  have hW : Below w.heap.size w w2 := on_of (W := w) (by go_grown) bb
  obtain ⟨E, st, BX, tt⟩ := var_put (P := Try.prog) (T := 51) Try.sizeOf51 BZ rfl (new_own w) rfl
  have lo := var_load (P := Try.prog) (T := 51) Try.isAgg51 Try.sizeOf51 BX (new_own w) rfl
  have HX := Lib.hid (And.intro (hW.trans (tt.below (by omega) (fun k e => by omega))) lo)
  clear BX tt hW BZ lo bb
  unfold newR at st
  go_wp2
  refine bodyPost_ret (v := .agg newR) ?_ rfl ⟨newR, [], rfl, new_own _, List.nodup_nil, fun b hb => absurd hb List.not_mem_nil, HX.out.1⟩
  exact results_h Try.results24 (by rfl) HX.out.2
end Go.Proofs.Ytejnfdpckipbeaa.Own
