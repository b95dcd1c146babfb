/-
  The kinds of graphics states, objects and pages; their values laid open.
-/
import Derived.Test.YtejnfdpckipbeaaFlatO
namespace Go.Proofs.Ytejnfdpckipbeaa.Own
open Go.ChangeShapes Go.WideShapes Go.ChangeAt Go.RowKit
open Kit Slabs
set_option linter.unusedVariables false
set_option linter.unusedSimpArgs false
set_option linter.unnecessarySimpa false

abbrev LGraphics : List Kd := [.sl .int, .int, .int, .int, .int, .sl KPt, .int, .int, .int, .int, .int]
abbrev KGraphics : Kd := .st LGraphics
theorem inv_Graphics {w : World} {cs : List Value} {ds : List Dt} {fp : List Nat} (h : OwnL w LGraphics cs ds fp) : ∃ (xa0 : Option Addr) (xc0 : Nat) (xa5 : Option Addr) (xc5 : Nat) (xs0 : List Dt) (xx1_0 : Int) (xx1_1 : Int) (xx1_2 : Int) (xx1_3 : Int) (xs5 : List Dt) (xx6_0 : Int) (xx7_0 : Int) (xx7_1 : Int) (xx7_2 : Int) (xx7_3 : Int) (xF0 : List Nat) (xF5 : List Nat), cs = .slice xa0 xs0.length xc0 :: (.int .i64 xx1_0 :: (.int .i64 xx1_1 :: (.int .i64 xx1_2 :: (.int .i64 xx1_3 :: (.slice xa5 xs5.length xc5 :: (.int .i64 xx6_0 :: (.int .i64 xx7_0 :: (.int .i64 xx7_1 :: (.int .i64 xx7_2 :: (.int .i64 xx7_3 :: ([]))))))))))) ∧ ds = .sl xs0 :: (.int xx1_0 :: (.int xx1_1 :: (.int xx1_2 :: (.int xx1_3 :: (.sl xs5 :: (.int xx6_0 :: (.int xx7_0 :: (.int xx7_1 :: (.int xx7_2 :: (.int xx7_3 :: ([]))))))))))) ∧ fp = xF0 ++ (xF5 ++ ([])) ∧ Own w (.sl .int) [.slice xa0 xs0.length xc0] (.sl xs0) xF0 ∧ Own w (.sl KPt) [.slice xa5 xs5.length xc5] (.sl xs5) xF5 := by
  obtain ⟨xa0, xc0, xs0, xF0, r1, d1, q1, rfl, rfl, rfl, ox0, h1⟩ := OwnL.sl h
  obtain ⟨xx1_0, r2, d2, rfl, rfl, h2⟩ := OwnL.int h1
  obtain ⟨xx1_1, r3, d3, rfl, rfl, h3⟩ := OwnL.int h2
  obtain ⟨xx1_2, r4, d4, rfl, rfl, h4⟩ := OwnL.int h3
  obtain ⟨xx1_3, r5, d5, rfl, rfl, h5⟩ := OwnL.int h4
  obtain ⟨xa5, xc5, xs5, xF5, r6, d6, q6, rfl, rfl, rfl, ox5, h6⟩ := OwnL.sl h5
  obtain ⟨xx6_0, r7, d7, rfl, rfl, h7⟩ := OwnL.int h6
  obtain ⟨xx7_0, r8, d8, rfl, rfl, h8⟩ := OwnL.int h7
  obtain ⟨xx7_1, r9, d9, rfl, rfl, h9⟩ := OwnL.int h8
  obtain ⟨xx7_2, r10, d10, rfl, rfl, h10⟩ := OwnL.int h9
  obtain ⟨xx7_3, r11, d11, rfl, rfl, h11⟩ := OwnL.int h10
  obtain ⟨rfl, rfl, rfl⟩ := OwnL.end_ h11
  exact ⟨xa0, xc0, xa5, xc5, xs0, xx1_0, xx1_1, xx1_2, xx1_3, xs5, xx6_0, xx7_0, xx7_1, xx7_2, xx7_3, xF0, xF5, rfl, rfl, rfl, ox0, ox5⟩
theorem inv_Graphics_ {w : World} {cs : List Value} {fp : List Nat} {xs0 : List Dt} {xx1_0 : Int} {xx1_1 : Int} {xx1_2 : Int} {xx1_3 : Int} {xs5 : List Dt} {xx6_0 : Int} {xx7_0 : Int} {xx7_1 : Int} {xx7_2 : Int} {xx7_3 : Int}  (h : OwnL w LGraphics cs (.sl xs0 :: (.int xx1_0 :: (.int xx1_1 :: (.int xx1_2 :: (.int xx1_3 :: (.sl xs5 :: (.int xx6_0 :: (.int xx7_0 :: (.int xx7_1 :: (.int xx7_2 :: (.int xx7_3 :: ([])))))))))))) fp) : ∃ (ya0 : Option Addr) (yc0 : Nat) (ya5 : Option Addr) (yc5 : Nat) (yF0 : List Nat) (yF5 : List Nat), cs = .slice ya0 xs0.length yc0 :: (.int .i64 xx1_0 :: (.int .i64 xx1_1 :: (.int .i64 xx1_2 :: (.int .i64 xx1_3 :: (.slice ya5 xs5.length yc5 :: (.int .i64 xx6_0 :: (.int .i64 xx7_0 :: (.int .i64 xx7_1 :: (.int .i64 xx7_2 :: (.int .i64 xx7_3 :: ([]))))))))))) ∧ fp = yF0 ++ (yF5 ++ ([])) ∧ Own w (.sl .int) [.slice ya0 xs0.length yc0] (.sl xs0) yF0 ∧ Own w (.sl KPt) [.slice ya5 xs5.length yc5] (.sl xs5) yF5 := by
  obtain ⟨ya0, yc0, yF0, r1, q1, rfl, rfl, oy0, h1⟩ := OwnL.sl_ h
  obtain ⟨r2, rfl, h2⟩ := OwnL.int_ h1
  obtain ⟨r3, rfl, h3⟩ := OwnL.int_ h2
  obtain ⟨r4, rfl, h4⟩ := OwnL.int_ h3
  obtain ⟨r5, rfl, h5⟩ := OwnL.int_ h4
  obtain ⟨ya5, yc5, yF5, r6, q6, rfl, rfl, oy5, h6⟩ := OwnL.sl_ h5
  obtain ⟨r7, rfl, h7⟩ := OwnL.int_ h6
  obtain ⟨r8, rfl, h8⟩ := OwnL.int_ h7
  obtain ⟨r9, rfl, h9⟩ := OwnL.int_ h8
  obtain ⟨r10, rfl, h10⟩ := OwnL.int_ h9
  obtain ⟨r11, rfl, h11⟩ := OwnL.int_ h10
  obtain ⟨rfl, _, rfl⟩ := OwnL.end_ h11
  exact ⟨ya0, yc0, ya5, yc5, yF0, yF5, rfl, rfl, oy0, oy5⟩
theorem invC_Graphics {w : World} {cs : List Value} {ds : List Dt} (h : CameL w LGraphics cs ds) : ∃ (xa0 : Option Addr) (xc0 : Nat) (xa5 : Option Addr) (xc5 : Nat) (xs0 : List Dt) (xx1_0 : Int) (xx1_1 : Int) (xx1_2 : Int) (xx1_3 : Int) (xs5 : List Dt) (xx6_0 : Int) (xx7_0 : Int) (xx7_1 : Int) (xx7_2 : Int) (xx7_3 : Int), cs = .slice xa0 xs0.length xc0 :: (.int .i64 xx1_0 :: (.int .i64 xx1_1 :: (.int .i64 xx1_2 :: (.int .i64 xx1_3 :: (.slice xa5 xs5.length xc5 :: (.int .i64 xx6_0 :: (.int .i64 xx7_0 :: (.int .i64 xx7_1 :: (.int .i64 xx7_2 :: (.int .i64 xx7_3 :: ([]))))))))))) ∧ ds = .sl xs0 :: (.int xx1_0 :: (.int xx1_1 :: (.int xx1_2 :: (.int xx1_3 :: (.sl xs5 :: (.int xx6_0 :: (.int xx7_0 :: (.int xx7_1 :: (.int xx7_2 :: (.int xx7_3 :: ([]))))))))))) ∧ (Came w (.sl .int) [.slice xa0 xs0.length xc0] (.sl xs0) ∧ xs0.length ≤ maxLen) ∧ (Came w (.sl KPt) [.slice xa5 xs5.length xc5] (.sl xs5) ∧ xs5.length ≤ maxLen) := by
  obtain ⟨xa0, xc0, xs0, r1, d1, rfl, rfl, m1, ox0, h1⟩ := CameL.sl h
  obtain ⟨xx1_0, r2, d2, rfl, rfl, _, h2⟩ := CameL.int h1
  obtain ⟨xx1_1, r3, d3, rfl, rfl, _, h3⟩ := CameL.int h2
  obtain ⟨xx1_2, r4, d4, rfl, rfl, _, h4⟩ := CameL.int h3
  obtain ⟨xx1_3, r5, d5, rfl, rfl, _, h5⟩ := CameL.int h4
  obtain ⟨xa5, xc5, xs5, r6, d6, rfl, rfl, m6, ox5, h6⟩ := CameL.sl h5
  obtain ⟨xx6_0, r7, d7, rfl, rfl, _, h7⟩ := CameL.int h6
  obtain ⟨xx7_0, r8, d8, rfl, rfl, _, h8⟩ := CameL.int h7
  obtain ⟨xx7_1, r9, d9, rfl, rfl, _, h9⟩ := CameL.int h8
  obtain ⟨xx7_2, r10, d10, rfl, rfl, _, h10⟩ := CameL.int h9
  obtain ⟨xx7_3, r11, d11, rfl, rfl, _, h11⟩ := CameL.int h10
  obtain ⟨rfl, rfl⟩ := CameL.end_ h11
  exact ⟨xa0, xc0, xa5, xc5, xs0, xx1_0, xx1_1, xx1_2, xx1_3, xs5, xx6_0, xx7_0, xx7_1, xx7_2, xx7_3, rfl, rfl, ⟨ox0, m1⟩, ⟨ox5, m6⟩⟩

abbrev LObject : List Kd := [.sl KPt, .int, .int, .int, .int, .int]
abbrev KObject : Kd := .st LObject
theorem inv_Object {w : World} {cs : List Value} {ds : List Dt} {fp : List Nat} (h : OwnL w LObject cs ds fp) : ∃ (xa0 : Option Addr) (xc0 : Nat) (xs0 : List Dt) (xx1_0 : Int) (xx2_0 : Int) (xx2_1 : Int) (xx2_2 : Int) (xx2_3 : Int) (xF0 : List Nat), cs = .slice xa0 xs0.length xc0 :: (.int .i64 xx1_0 :: (.int .i64 xx2_0 :: (.int .i64 xx2_1 :: (.int .i64 xx2_2 :: (.int .i64 xx2_3 :: ([])))))) ∧ ds = .sl xs0 :: (.int xx1_0 :: (.int xx2_0 :: (.int xx2_1 :: (.int xx2_2 :: (.int xx2_3 :: ([])))))) ∧ fp = xF0 ++ ([]) ∧ Own w (.sl KPt) [.slice xa0 xs0.length xc0] (.sl xs0) xF0 := by
  obtain ⟨xa0, xc0, xs0, xF0, r1, d1, q1, rfl, rfl, rfl, ox0, h1⟩ := OwnL.sl h
  obtain ⟨xx1_0, r2, d2, rfl, rfl, h2⟩ := OwnL.int h1
  obtain ⟨xx2_0, r3, d3, rfl, rfl, h3⟩ := OwnL.int h2
  obtain ⟨xx2_1, r4, d4, rfl, rfl, h4⟩ := OwnL.int h3
  obtain ⟨xx2_2, r5, d5, rfl, rfl, h5⟩ := OwnL.int h4
  obtain ⟨xx2_3, r6, d6, rfl, rfl, h6⟩ := OwnL.int h5
  obtain ⟨rfl, rfl, rfl⟩ := OwnL.end_ h6
  exact ⟨xa0, xc0, xs0, xx1_0, xx2_0, xx2_1, xx2_2, xx2_3, xF0, rfl, rfl, rfl, ox0⟩
theorem inv_Object_ {w : World} {cs : List Value} {fp : List Nat} {xs0 : List Dt} {xx1_0 : Int} {xx2_0 : Int} {xx2_1 : Int} {xx2_2 : Int} {xx2_3 : Int}  (h : OwnL w LObject cs (.sl xs0 :: (.int xx1_0 :: (.int xx2_0 :: (.int xx2_1 :: (.int xx2_2 :: (.int xx2_3 :: ([]))))))) fp) : ∃ (ya0 : Option Addr) (yc0 : Nat) (yF0 : List Nat), cs = .slice ya0 xs0.length yc0 :: (.int .i64 xx1_0 :: (.int .i64 xx2_0 :: (.int .i64 xx2_1 :: (.int .i64 xx2_2 :: (.int .i64 xx2_3 :: ([])))))) ∧ fp = yF0 ++ ([]) ∧ Own w (.sl KPt) [.slice ya0 xs0.length yc0] (.sl xs0) yF0 := by
  obtain ⟨ya0, yc0, yF0, r1, q1, rfl, rfl, oy0, h1⟩ := OwnL.sl_ h
  obtain ⟨r2, rfl, h2⟩ := OwnL.int_ h1
  obtain ⟨r3, rfl, h3⟩ := OwnL.int_ h2
  obtain ⟨r4, rfl, h4⟩ := OwnL.int_ h3
  obtain ⟨r5, rfl, h5⟩ := OwnL.int_ h4
  obtain ⟨r6, rfl, h6⟩ := OwnL.int_ h5
  obtain ⟨rfl, _, rfl⟩ := OwnL.end_ h6
  exact ⟨ya0, yc0, yF0, rfl, rfl, oy0⟩
theorem invC_Object {w : World} {cs : List Value} {ds : List Dt} (h : CameL w LObject cs ds) : ∃ (xa0 : Option Addr) (xc0 : Nat) (xs0 : List Dt) (xx1_0 : Int) (xx2_0 : Int) (xx2_1 : Int) (xx2_2 : Int) (xx2_3 : Int), cs = .slice xa0 xs0.length xc0 :: (.int .i64 xx1_0 :: (.int .i64 xx2_0 :: (.int .i64 xx2_1 :: (.int .i64 xx2_2 :: (.int .i64 xx2_3 :: ([])))))) ∧ ds = .sl xs0 :: (.int xx1_0 :: (.int xx2_0 :: (.int xx2_1 :: (.int xx2_2 :: (.int xx2_3 :: ([])))))) ∧ (Came w (.sl KPt) [.slice xa0 xs0.length xc0] (.sl xs0) ∧ xs0.length ≤ maxLen) := by
  obtain ⟨xa0, xc0, xs0, r1, d1, rfl, rfl, m1, ox0, h1⟩ := CameL.sl h
  obtain ⟨xx1_0, r2, d2, rfl, rfl, _, h2⟩ := CameL.int h1
  obtain ⟨xx2_0, r3, d3, rfl, rfl, _, h3⟩ := CameL.int h2
  obtain ⟨xx2_1, r4, d4, rfl, rfl, _, h4⟩ := CameL.int h3
  obtain ⟨xx2_2, r5, d5, rfl, rfl, _, h5⟩ := CameL.int h4
  obtain ⟨xx2_3, r6, d6, rfl, rfl, _, h6⟩ := CameL.int h5
  obtain ⟨rfl, rfl⟩ := CameL.end_ h6
  exact ⟨xa0, xc0, xs0, xx1_0, xx2_0, xx2_1, xx2_2, xx2_3, rfl, rfl, ⟨ox0, m1⟩⟩

abbrev LPage : List Kd := LGraphics ++ ([.sl KGraphics, .sl KObject])
abbrev KPage : Kd := .st LPage
theorem inv_Page {w : World} {cs : List Value} {ds : List Dt} {fp : List Nat} (h : OwnL w LPage cs ds fp) : ∃ (xG0 : List Value) (xa11 : Option Addr) (xc11 : Nat) (xa12 : Option Addr) (xc12 : Nat) (xD0 : List Dt) (xs11 : List Dt) (xs12 : List Dt) (xF0 : List Nat) (xF11 : List Nat) (xF12 : List Nat), cs = xG0 ++ (.slice xa11 xs11.length xc11 :: (.slice xa12 xs12.length xc12 :: ([]))) ∧ ds = xD0 ++ (.sl xs11 :: (.sl xs12 :: ([]))) ∧ fp = xF0 ++ (xF11 ++ (xF12 ++ ([]))) ∧ OwnL w LGraphics xG0 xD0 xF0 ∧ Own w (.sl KGraphics) [.slice xa11 xs11.length xc11] (.sl xs11) xF11 ∧ Own w (.sl KObject) [.slice xa12 xs12.length xc12] (.sl xs12) xF12 := by
  obtain ⟨xG0, r1, xD0, d1, xF0, q1, rfl, rfl, rfl, ox0, h1⟩ := OwnL.split LGraphics h
  obtain ⟨xa11, xc11, xs11, xF11, r2, d2, q2, rfl, rfl, rfl, ox11, h2⟩ := OwnL.sl h1
  obtain ⟨xa12, xc12, xs12, xF12, r3, d3, q3, rfl, rfl, rfl, ox12, h3⟩ := OwnL.sl h2
  obtain ⟨rfl, rfl, rfl⟩ := OwnL.end_ h3
  exact ⟨xG0, xa11, xc11, xa12, xc12, xD0, xs11, xs12, xF0, xF11, xF12, rfl, rfl, rfl, ox0, ox11, ox12⟩
theorem inv_Page_ {w : World} {cs : List Value} {fp : List Nat} {xD0 : List Dt} {xs11 : List Dt} {xs12 : List Dt} (lxD0 : xD0.length = LGraphics.length) (h : OwnL w LPage cs (xD0 ++ (.sl xs11 :: (.sl xs12 :: ([])))) fp) : ∃ (yG0 : List Value) (ya11 : Option Addr) (yc11 : Nat) (ya12 : Option Addr) (yc12 : Nat) (yF0 : List Nat) (yF11 : List Nat) (yF12 : List Nat), cs = yG0 ++ (.slice ya11 xs11.length yc11 :: (.slice ya12 xs12.length yc12 :: ([]))) ∧ fp = yF0 ++ (yF11 ++ (yF12 ++ ([]))) ∧ OwnL w LGraphics yG0 xD0 yF0 ∧ Own w (.sl KGraphics) [.slice ya11 xs11.length yc11] (.sl xs11) yF11 ∧ Own w (.sl KObject) [.slice ya12 xs12.length yc12] (.sl xs12) yF12 := by
  obtain ⟨yG0, r1, yF0, q1, rfl, rfl, oy0, h1⟩ := OwnL.split_at (ks1 := LGraphics) h lxD0
  obtain ⟨ya11, yc11, yF11, r2, q2, rfl, rfl, oy11, h2⟩ := OwnL.sl_ h1
  obtain ⟨ya12, yc12, yF12, r3, q3, rfl, rfl, oy12, h3⟩ := OwnL.sl_ h2
  obtain ⟨rfl, _, rfl⟩ := OwnL.end_ h3
  exact ⟨yG0, ya11, yc11, ya12, yc12, yF0, yF11, yF12, rfl, rfl, oy0, oy11, oy12⟩
theorem invC_Page {w : World} {cs : List Value} {ds : List Dt} (h : CameL w LPage cs ds) : ∃ (xG0 : List Value) (xa11 : Option Addr) (xc11 : Nat) (xa12 : Option Addr) (xc12 : Nat) (xD0 : List Dt) (xs11 : List Dt) (xs12 : List Dt), cs = xG0 ++ (.slice xa11 xs11.length xc11 :: (.slice xa12 xs12.length xc12 :: ([]))) ∧ ds = xD0 ++ (.sl xs11 :: (.sl xs12 :: ([]))) ∧ (CameL w LGraphics xG0 xD0) ∧ (Came w (.sl KGraphics) [.slice xa11 xs11.length xc11] (.sl xs11) ∧ xs11.length ≤ maxLen) ∧ (Came w (.sl KObject) [.slice xa12 xs12.length xc12] (.sl xs12) ∧ xs12.length ≤ maxLen) := by
  obtain ⟨xG0, r1, xD0, d1, rfl, rfl, ox0, h1⟩ := CameL.split LGraphics h
  obtain ⟨xa11, xc11, xs11, r2, d2, rfl, rfl, m2, ox11, h2⟩ := CameL.sl h1
  obtain ⟨xa12, xc12, xs12, r3, d3, rfl, rfl, m3, ox12, h3⟩ := CameL.sl h2
  obtain ⟨rfl, rfl⟩ := CameL.end_ h3
  exact ⟨xG0, xa11, xc11, xa12, xc12, xD0, xs11, xs12, rfl, rfl, ox0, ⟨ox11, m2⟩, ⟨ox12, m3⟩⟩

theorem hload_Graphics (a : Addr) : loadVar 47 a = hload 47 a := hload_of _ _
theorem hload_Object (a : Addr) : loadVar 28 a = hload 28 a := hload_of _ _
theorem hload_Page (a : Addr) : loadVar 51 a = hload 51 a := hload_of _ _
theorem hloadL_Object (a : Addr) : loadVar 59 a = hload 59 a := hload_of _ _
theorem hstore_Graphics (a : Addr) (v : Value) : storeVar 47 a v = hstore 47 a v := hstore_of _ _ _
theorem hstore_Object (a : Addr) (v : Value) : storeVar 28 a v = hstore 28 a v := hstore_of _ _ _
theorem hstore_Page (a : Addr) (v : Value) : storeVar 51 a v = hstore 51 a v := hstore_of _ _ _

end Go.Proofs.Ytejnfdpckipbeaa.Own
