/-
  Texts of this seat, laid together: SpS, Law8
-/
import Derived.Test.YtjmfgbbngocodaaGreatZ48
import Derived.Test.YtjmfgbbngocodaaGreatZ49
import Derived.Test.YtjmfgbbngocodaaGreatZ19
namespace Go.Proofs.YtjmfgbbngocodaaGreat.Own
open Go.ChangeShapes Go.WideShapes Go.ChangeAt Go.RowKit
open Kit Slabs Ints Stack Point Turn Push Take Opn SOp Scan
set_option linter.unusedVariables false
set_option linter.unusedSimpArgs false
set_option linter.unnecessarySimpa false
set_option maxRecDepth 100000
attribute [local go_sem ↓] hload_Graphics hload_Object hstore_Graphics hstore_Object hload_Page hstore_Page
theorem exec_spec (w : World) {A : Array Value} {p : Pg} {fp : List Nat} (hb : bulkL p.dt ≤ 1048576) (h : OwnL w LPage A.toList p.dt fp) (s : ByteArray) (m : Int) (hz : s.size ≤ 1048576) :
    Calls Tryz.prog 7 #[.agg A, .agg #[.string s, .int .i64 m]] w (ExNew p s m w) := by
  cases hbad : (pgB p && tkB s m)
  · exact exec_bad w hb h s m hz hbad
  rw [Bool.and_eq_true] at hbad
  obtain ⟨hv, hk⟩ := hbad
  cases hs : s.toList.isEmpty
  · cases ho : opB s
    · cases hkk : opN s with
      | none => exact exec_none w hb h s m hz hv hk hs ho hkk
      | some k =>
        cases hvv : taB (xI p.now.st) p.now.st.length (opK k : Nat)
        · exact exec_short w hb h s m hz hv hk hs ho k hkk hvv
        cases hd : isDr k
        · exact exec_change w hb h s m hz hv hk hs ho k hkk hvv hd
        · exact exec_draw w hb h s m hz hv hk hs ho k hkk hvv hd
    · exact exec_so w hb h s m hz hv hk hs ho
  · exact exec_push w hb h s m hz hv hk hs
end Go.Proofs.YtjmfgbbngocodaaGreat.Own

namespace Go.Proofs.YtjmfgbbngocodaaGreat.Own
open Go.ChangeShapes Go.WideShapes Go.ChangeAt Go.RowKit
open Kit Slabs
set_option linter.unusedVariables false
def exDd (ds : List Dt) (s : ByteArray) (m : Int) : List Dt := match exR (pgOf ds) s m with
  | some q => q.dt
  | none => ds
def exBb (ds : List Dt) (s : ByteArray) (m : Int) : Bool := exB (pgOf ds) s m
theorem exDd_le {ds : List Dt} (h : bulkL ds ≤ 1048576) (s : ByteArray) (m : Int) : bulkL (exDd ds s m) ≤ 1048576 := by
  unfold exDd
  cases e : exR (pgOf ds) s m with
  | none => exact h
  | some P' =>
    unfold exR at e
    split at e
    · rename_i hv
      rw [Bool.and_eq_true] at hv
      exact (exP_len hv.1 (Option.filter_eq_some_iff.1 e).1).bulk (by omega) (by omega) (by omega) (by omega)
    · cases e
theorem exDd_eq {ds : List Dt} (h : ds = (pgOf ds).dt) (s : ByteArray) (m : Int) : (exD (pgOf ds) s m).dt = exDd ds s m := by
  unfold exD exDd
  cases e : exR (pgOf ds) s m with
  | none => exact h.symm
  | some P' => rfl
theorem ex_told {p : Pg} {ds : List Dt} {s : ByteArray} {m : Int} {w : World} {e : Ending} {w' : World} (hp : pgOf ds = p) (hd : ds = (pgOf ds).dt) (h : ExNew p s m w e w') : ∃ (R : Array Value) (f : List Nat), e = .returned (.tuple #[.agg R, .bool (exBb ds s m)]) ∧ OwnL w' LPage R.toList (exDd ds s m) f ∧ f.Nodup ∧ (∀ b ∈ f, w.heap.size ≤ b) ∧ Below w.heap.size w w' := by
  subst hp
  obtain ⟨R, f, h1, h2, h3⟩ := h
  exact ⟨R, f, h1, by rw [← exDd_eq hd]; exact h2, h3⟩
theorem spec_ExecToken (w : World) {A : Array Value} {ds : List Dt} {fp : List Nat} (hb : bulkL ds ≤ 1048576) (h : OwnL w LPage A.toList ds fp) (s : ByteArray) (n : Int) (hs : s.size ≤ 1048576) : Calls Tryz.prog 7 #[.agg A, .agg #[.string s, .int .i64 n]] w fun e w' => ∃ (R : Array Value) (f : List Nat), e = .returned (.tuple #[.agg R, .bool (exBb ds s n)]) ∧ OwnL w' LPage R.toList (exDd ds s n) f ∧ f.Nodup ∧ (∀ b ∈ f, w.heap.size ≤ b) ∧ Below w.heap.size w w' := by
  have e := pg_dt h
  have hb' : bulkL (pgOf ds).dt ≤ 1048576 := by rw [← e]; exact hb
  have h' : OwnL w LPage A.toList (pgOf ds).dt fp := by rw [← e]; exact h
  exact (exec_spec w hb' h' s n hs).mono fun _ _ hh => ex_told rfl e hh
theorem impl_ExecToken (w : World) {A : Array Value} {ds : List Dt} {fp : List Nat} (hb : bulkL ds ≤ 1048576) (h : OwnL w LPage A.toList ds fp) (s : ByteArray) (n : Int) (hs : s.size ≤ 1048576) : Calls Tryz.prog 10 #[.agg A, .agg #[.string s, .int .i64 n]] w fun e w' => ∃ (R : Array Value) (f : List Nat), e = .returned (.tuple #[.agg R, .bool (exBb ds s n)]) ∧ OwnL w' LPage R.toList (exDd ds s n) f ∧ f.Nodup ∧ (∀ b ∈ f, w.heap.size ≤ b) ∧ Below w.heap.size w w' := by
  have e := pg_dt h
  have hb' : bulkL (pgOf ds).dt ≤ 1048576 := by rw [← e]; exact hb
  have h' : OwnL w LPage A.toList (pgOf ds).dt fp := by rw [← e]; exact h
  exact (exec_impl w hb' h' s n hs).mono fun _ _ hh => ex_told rfl e hh
end Go.Proofs.YtjmfgbbngocodaaGreat.Own

