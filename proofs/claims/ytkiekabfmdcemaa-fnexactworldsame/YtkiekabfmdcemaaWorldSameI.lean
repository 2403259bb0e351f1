/- Configurations and processors, compared by the program. -/
import Derived.Test.YtkiekabfmdcemaaCpuSameI
import Derived.Deep.RegionHeld3
namespace Go.Proofs.Ytkiekabfmdcemaa
open Go.ChangeShapes Go.WideShapes Go.ChangeAt Go.RowKit

set_option maxRecDepth 100000 in
theorem worldSame_ {b : Bool} {pa qa : Option Addr} {pn pc qn qc : Nat} {X1 Y1 : List Int} {X2 Y2 : List Int} {X3 Y3 : List (List Int)} {X4 Y4 : List Int} {A1 B1 : Option Addr} {c1 d1 : Nat} {A2 B2 : Option Addr} {c2 d2 : Nat} {A3 B3 : Option Addr} {c3 d3 : Nat} {A4 B4 : Option Addr} {c4 d4 : Nat} {S T : Nat → Prop} {w : World} (f1 : Fl w S 1 X1 A1 X1.length c1) (g1 : Fl w T 1 Y1 B1 Y1.length d1) (f2 : Fl w S 1 X2 A2 X2.length c2) (g2 : Fl w T 1 Y2 B2 Y2.length d2) (f3 : Recs issShape w S X3 A3 X3.length c3) (g3 : Recs issShape w T Y3 B3 Y3.length d3) (f4 : Fl w S 2 X4 A4 (X4.length / 2) c4) (g4 : Fl w T 2 Y4 B4 (Y4.length / 2) d4)
    (hE : ∀ W, Below w.heap.size w W → Calls Try.prog 50 #[.slice pa pn pc, .slice qa qn qc, .func (Fn.func 51) #[] #[]] W fun e w' => e = .returned (.bool b) ∧ Below W.heap.size W w') :
    Calls Try.prog 18 #[.agg #[.slice pa pn pc, .slice A1 X1.length c1, .slice A2 X2.length c2, .slice A3 X3.length c3, .slice A4 (X4.length / 2) c4], .agg #[.slice qa qn qc, .slice B1 Y1.length d1, .slice B2 Y2.length d2, .slice B3 Y3.length d3, .slice B4 (Y4.length / 2) d4]] w
      fun e w' => e = .returned (.bool (b && decide (X1 = Y1) && decide (X2 = Y2) && decide (X3 = Y3) && decide (X4 = Y4))) ∧ Below w.heap.size w w' := by
  have b0 : Below w.heap.size w ((w.alloc (.cells #[.slice pa pn pc, .slice A1 X1.length c1, .slice A2 X2.length c2, .slice A3 X3.length c3, .slice A4 (X4.length / 2) c4] 43)).alloc (.cells #[.slice qa qn qc, .slice B1 Y1.length d1, .slice B2 Y2.length d2, .slice B3 Y3.length d3, .slice B4 (Y4.length / 2) d4] 43)) := ((Below.refl _ _).alloc (Nat.le_refl _) _).alloc (by simp) _
  have P0 := Lib.hid (row_first w #[.slice pa pn pc, .slice A1 X1.length c1, .slice A2 X2.length c2, .slice A3 X3.length c3, .slice A4 (X4.length / 2) c4] #[.slice qa qn qc, .slice B1 Y1.length d1, .slice B2 Y2.length d2, .slice B3 Y3.length d3, .slice B4 (Y4.length / 2) d4] 43 43)
  have Q0 := Lib.hid (row_second w #[.slice pa pn pc, .slice A1 X1.length c1, .slice A2 X2.length c2, .slice A3 X3.length c3, .slice A4 (X4.length / 2) c4] #[.slice qa qn qc, .slice B1 Y1.length d1, .slice B2 Y2.length d2, .slice B3 Y3.length d3, .slice B4 (Y4.length / 2) d4] 43 43)
  have HE := Lib.hid hE
  clear hE
  go_enter Try.func18, Try.ntmps18
  go_wp2_with fail
  refine (HE.out _ b0).mono ?_
  rintro e w1 ⟨rfl, hb⟩
  have b1 := b0.trans (hb.mono b0.size)
  have P1 := Lib.hid (rowk hb P0.out)
  have Q1 := Lib.hid (rowk hb Q0.out)
  clear hb b0 P0 Q0 HE
  cases b
  · go_wp2
    go_ret
    exact ⟨by simp, b1⟩
  have cp : w1.cell? ⟨w.heap.size, 1, none⟩ = some (.slice A1 X1.length c1) := by rw [row_cell P1.out]; rfl
  have cq : w1.cell? ⟨w.heap.size + 1, 1, none⟩ = some (.slice B1 Y1.length d1) := by rw [row_cell Q1.out]; rfl
  go_wp2_with fail
  clear cp cq
  refine (equalInt (f1.later b1) (g1.later b1)).mono ?_
  rintro e w2 ⟨rfl, hb⟩
  have b2 := b1.trans (hb.mono b1.size)
  have P2 := Lib.hid (rowk hb P1.out)
  have Q2 := Lib.hid (rowk hb Q1.out)
  clear hb b1 P1 Q1 f1 g1
  cases hq : decide (X1 = Y1)
  · have HQ1 := Lib.hid hq
    clear hq
    go_wp2
    go_ret
    exact ⟨by rw [HQ1.out]; simp, b2⟩
  have HQ1 := Lib.hid hq
  clear hq
  have cp : w2.cell? ⟨w.heap.size, 2, none⟩ = some (.slice A2 X2.length c2) := by rw [row_cell P2.out]; rfl
  have cq : w2.cell? ⟨w.heap.size + 1, 2, none⟩ = some (.slice B2 Y2.length d2) := by rw [row_cell Q2.out]; rfl
  go_wp2_with fail
  clear cp cq
  refine (equalInt (f2.later b2) (g2.later b2)).mono ?_
  rintro e w3 ⟨rfl, hb⟩
  have b3 := b2.trans (hb.mono b2.size)
  have P3 := Lib.hid (rowk hb P2.out)
  have Q3 := Lib.hid (rowk hb Q2.out)
  clear hb b2 P2 Q2 f2 g2
  cases hq : decide (X2 = Y2)
  · have HQ2 := Lib.hid hq
    clear hq
    go_wp2
    go_ret
    exact ⟨by rw [HQ1.out, HQ2.out]; simp, b3⟩
  have HQ2 := Lib.hid hq
  clear hq
  have cp : w3.cell? ⟨w.heap.size, 3, none⟩ = some (.slice A3 X3.length c3) := by rw [row_cell P3.out]; rfl
  have cq : w3.cell? ⟨w.heap.size + 1, 3, none⟩ = some (.slice B3 Y3.length d3) := by rw [row_cell Q3.out]; rfl
  go_wp2_with fail
  clear cp cq
  refine (equalLists (f3.later (by decide) b3) (g3.later (by decide) b3)).mono ?_
  rintro e w4 ⟨rfl, hb⟩
  have b4 := b3.trans (hb.mono b3.size)
  have P4 := Lib.hid (rowk hb P3.out)
  have Q4 := Lib.hid (rowk hb Q3.out)
  clear hb b3 P3 Q3 f3 g3
  cases hq : decide (X3 = Y3)
  · have HQ3 := Lib.hid hq
    clear hq
    go_wp2
    go_ret
    exact ⟨by rw [HQ1.out, HQ2.out, HQ3.out]; simp, b4⟩
  have HQ3 := Lib.hid hq
  clear hq
  have cp : w4.cell? ⟨w.heap.size, 4, none⟩ = some (.slice A4 (X4.length / 2) c4) := by rw [row_cell P4.out]; rfl
  have cq : w4.cell? ⟨w.heap.size + 1, 4, none⟩ = some (.slice B4 (Y4.length / 2) d4) := by rw [row_cell Q4.out]; rfl
  go_wp2_with fail
  clear cp cq
  refine (equalSay (f4.later b4) (g4.later b4)).mono ?_
  rintro e w5 ⟨rfl, hb⟩
  have b5 := b4.trans (hb.mono b4.size)
  have P5 := Lib.hid (rowk hb P4.out)
  have Q5 := Lib.hid (rowk hb Q4.out)
  clear hb b4 P4 Q4 f4 g4
  cases hq : decide (X4 = Y4)
  · have HQ4 := Lib.hid hq
    clear hq
    go_wp2
    go_ret
    exact ⟨by rw [HQ1.out, HQ2.out, HQ3.out, HQ4.out]; simp, b5⟩
  have HQ4 := Lib.hid hq
  clear hq
  go_wp2
  go_ret
  exact ⟨by rw [HQ1.out, HQ2.out, HQ3.out, HQ4.out]; rfl, b5⟩

set_option maxRecDepth 100000 in
theorem equalNone (c c' : Nat) (w : World) :
    Calls Try.prog 50 #[.slice none 0 c, .slice none 0 c', .func (Fn.func 51) #[] #[]] w fun e w' => e = .returned (.bool true) ∧ Below w.heap.size w w' := by
  go_enter Try.func50, Try.ntmps50
  go_wp2_with fail
  go_loopw [17] (fun i wr => i = .int .i64 0 ∧ Below w.heap.size w wr) (fun i _ => 0)
  case atStart => exact ⟨rfl, Below.refl _ _⟩
  case round =>
    obtain ⟨rfl, hb⟩ := hrel
    go_wp2
    go_ret
    exact ⟨rfl, hb⟩

set_option maxRecDepth 100000 in
theorem common_ (v0 v1 v2 v3 v4 v5 v8 v9 v10 : Value) (a1 a2 a4 a8 : Option Addr) (n1 k1 n2 k2 n4 k4 n8 k8 : Nat) (x6 x7 : Int) (w : World) (h1 : v1 = .slice a1 n1 k1) (h2 : v2 = .slice a2 n2 k2) (h4 : v4 = .slice a4 n4 k4) (h8 : v8 = .slice a8 n8 k8) :
    Calls Try.prog 37 #[.agg #[v0, v1, v2, v3, v4, v5, .int .i64 x6, .int .i64 x7, v8, v9, v10]] w fun e w' => e = .returned (.agg #[.slice none 0 0, v1, v2, v4, v8]) ∧ Below w.heap.size w w' := by
  subst h1 h2 h4 h8
  go_enter Try.func37, Try.ntmps37
  go_wp2
  refine bodyPost_ret (v := .agg #[.slice none 0 0, .slice a1 n1 k1, .slice a2 n2 k2, .slice a4 n4 k4, .slice a8 n8 k8]) (by simp [results, Try.results37, go_sem]) rfl ⟨rfl, ?_⟩
  exact ((Below.refl _ _).alloc (Nat.le_refl _) _).alloc (by simp) _
end Go.Proofs.Ytkiekabfmdcemaa