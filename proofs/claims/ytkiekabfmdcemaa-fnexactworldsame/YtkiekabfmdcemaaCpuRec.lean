/- Cpu: its shape, and the laws' count, copy and comparison of it (written by tools/gen_rec.py). -/
import Derived.Test.YtkiekabfmdcemaaCtxRec
namespace Go.Proofs.Ytkiekabfmdcemaa
open Go.ChangeShapes Go.WideShapes Go.ChangeAt Go.RowKit

structure CpuP where
  ctxs : List CtxP
  cells : List Int
  rooms : List Int
  lines : List (List Int)
  signs : List (List Int)
  ready : List Int
  left : Int
  gap : Int
  said : List Int
  ran : List Int
  picks : List Int
  deriving DecidableEq

def cpuShape : Shape CpuP where
  z := 11
  I w S vs x := ∃ (A0 : Option Addr) (c0 : Nat) (A1 : Option Addr) (c1 : Nat) (A2 : Option Addr) (c2 : Nat) (A3 : Option Addr) (c3 : Nat) (A4 : Option Addr) (c4 : Nat) (A5 : Option Addr) (c5 : Nat) (A8 : Option Addr) (c8 : Nat) (A9 : Option Addr) (c9 : Nat) (A10 : Option Addr) (c10 : Nat), vs = [.slice A0 x.ctxs.length c0, .slice A1 x.cells.length c1, .slice A2 x.rooms.length c2, .slice A3 x.lines.length c3, .slice A4 x.signs.length c4, .slice A5 x.ready.length c5, .int .i64 x.left, .int .i64 x.gap, .slice A8 (x.said.length / 2) c8, .slice A9 x.ran.length c9, .slice A10 x.picks.length c10] ∧ Recs ctxShape w S x.ctxs A0 x.ctxs.length c0 ∧ Fl w S 1 x.cells A1 x.cells.length c1 ∧ Fl w S 1 x.rooms A2 x.rooms.length c2 ∧ Recs issShape w S x.lines A3 x.lines.length c3 ∧ Recs issShape w S x.signs A4 x.signs.length c4 ∧ Fl w S 1 x.ready A5 x.ready.length c5 ∧ Fl w S 2 x.said A8 (x.said.length / 2) c8 ∧ Fl w S 1 x.ran A9 x.ran.length c9 ∧ Fl w S 1 x.picks A10 x.picks.length c10
  len := by rintro w S vs x ⟨_, _, _, _, _, _, _, _, _, _, _, _, _, _, _, _, _, _, rfl, _, _, _, _, _, _, _, _, _⟩; rfl
  keep := by rintro w w' S vs x ⟨A0, c0, A1, c1, A2, c2, A3, c3, A4, c4, A5, c5, A8, c8, A9, c9, A10, c10, rfl, f0, f1, f2, f3, f4, f5, f8, f9, f10⟩ hc; exact ⟨A0, c0, A1, c1, A2, c2, A3, c3, A4, c4, A5, c5, A8, c8, A9, c9, A10, c10, rfl, f0.keep hc, f1.keep hc, f2.keep hc, f3.keep hc, f4.keep hc, f5.keep hc, f8.keep hc, f9.keep hc, f10.keep hc⟩
  mono := by rintro w S T vs x ⟨A0, c0, A1, c1, A2, c2, A3, c3, A4, c4, A5, c5, A8, c8, A9, c9, A10, c10, rfl, f0, f1, f2, f3, f4, f5, f8, f9, f10⟩ hT; exact ⟨A0, c0, A1, c1, A2, c2, A3, c3, A4, c4, A5, c5, A8, c8, A9, c9, A10, c10, rfl, f0.mono hT, f1.mono hT, f2.mono hT, f3.mono hT, f4.mono hT, f5.mono hT, f8.mono hT, f9.mono hT, f10.mono hT⟩
  real := by rintro w S vs x ⟨A0, c0, A1, c1, A2, c2, A3, c3, A4, c4, A5, c5, A8, c8, A9, c9, A10, c10, rfl, f0, f1, f2, f3, f4, f5, f8, f9, f10⟩; exact ⟨A0, c0, A1, c1, A2, c2, A3, c3, A4, c4, A5, c5, A8, c8, A9, c9, A10, c10, rfl, (f0.real (by decide)), f1.real, f2.real, (f3.real (by decide)), (f4.real (by decide)), f5.real, f8.real, f9.real, f10.real⟩

def sizeCpu (x : CpuP) : Nat := sizeCtxS x.ctxs + x.cells.length + x.rooms.length + sizeI x.lines + sizeI x.signs + x.ready.length + (x.said.length / 2) + x.ran.length + x.picks.length

set_option maxRecDepth 100000 in
theorem szCpu_ {X0 : List CtxP} {X1 : List Int} {X2 : List Int} {X3 : List (List Int)} {X4 : List (List Int)} {X5 : List Int} {X6 : Int} {X7 : Int} {X8 : List Int} {X9 : List Int} {X10 : List Int} {A0 : Option Addr} {c0 : Nat} {A1 : Option Addr} {c1 : Nat} {A2 : Option Addr} {c2 : Nat} {A3 : Option Addr} {c3 : Nat} {A4 : Option Addr} {c4 : Nat} {A5 : Option Addr} {c5 : Nat} {A8 : Option Addr} {c8 : Nat} {A9 : Option Addr} {c9 : Nat} {A10 : Option Addr} {c10 : Nat} {S : Nat → Prop} {w : World} {left : Int} (f0 : Recs ctxShape w S X0 A0 X0.length c0) (f1 : Fl w S 1 X1 A1 X1.length c1) (f2 : Fl w S 1 X2 A2 X2.length c2) (f3 : Recs issShape w S X3 A3 X3.length c3) (f4 : Recs issShape w S X4 A4 X4.length c4) (f5 : Fl w S 1 X5 A5 X5.length c5) (f8 : Fl w S 2 X8 A8 (X8.length / 2) c8) (f9 : Fl w S 1 X9 A9 X9.length c9) (f10 : Fl w S 1 X10 A10 X10.length c10) (h0 : 0 ≤ left) (h1 : left ≤ 1048576) :
    Calls Try.prog 7 #[.agg #[.slice A0 X0.length c0, .slice A1 X1.length c1, .slice A2 X2.length c2, .slice A3 X3.length c3, .slice A4 X4.length c4, .slice A5 X5.length c5, .int .i64 X6, .int .i64 X7, .slice A8 (X8.length / 2) c8, .slice A9 X9.length c9, .slice A10 X10.length c10], .int .i64 left] w fun e w' => e = .returned (.int .i64 (szI (sizeCtxS X0 + X1.length + X2.length + sizeI X3 + sizeI X4 + X5.length + (X8.length / 2) + X9.length + X10.length) left)) ∧ Below w.heap.size w w' := by
  have b0 : Below w.heap.size w (w.alloc (.cells #[.slice A0 X0.length c0, .slice A1 X1.length c1, .slice A2 X2.length c2, .slice A3 X3.length c3, .slice A4 X4.length c4, .slice A5 X5.length c5, .int .i64 X6, .int .i64 X7, .slice A8 (X8.length / 2) c8, .slice A9 X9.length c9, .slice A10 X10.length c10] 27)) := (Below.refl _ _).alloc (Nat.le_refl _) _
  have R0 := Lib.hid (new_row w #[.slice A0 X0.length c0, .slice A1 X1.length c1, .slice A2 X2.length c2, .slice A3 X3.length c3, .slice A4 X4.length c4, .slice A5 X5.length c5, .int .i64 X6, .int .i64 X7, .slice A8 (X8.length / 2) c8, .slice A9 X9.length c9, .slice A10 X10.length c10] 27)
  go_enter Try.func7, Try.ntmps7
  go_wp2_with fail
  refine (ctxs_sz (f0.later (by decide) b0) h0 h1).mono ?_
  rintro e w1 ⟨rfl, hb⟩
  have b1 := b0.trans (hb.mono b0.size)
  have R1 := Lib.hid (rowk hb R0.out)
  clear hb b0 R0 f0
  by_cases t : ¬ ((sizeCtxS X0 : Nat) : Int) ≤ left
  · have H := Lib.hid (szI_no t)
    have HT := Lib.hid (show szI (sizeCtxS X0 + X1.length + X2.length + sizeI X3 + sizeI X4 + X5.length + (X8.length / 2) + X9.length + X10.length) left = -1 from by unfold szI; split <;> omega)
    rw [H.out]
    go_wp2_with fail
    go_ret
    exact ⟨by rw [HT.out]; rfl, b1⟩
  obtain ⟨L1, E1, p1, q1⟩ : ∃ z : Int, Go.RowKit.Hid (szI (sizeCtxS X0) left = z ∧ z = left - ((sizeCtxS X0 : Nat) : Int)) ∧ 0 ≤ z ∧ z ≤ 1048576 := ⟨left - ((sizeCtxS X0 : Nat) : Int), Lib.hid ⟨szI_yes (Decidable.not_not.1 t), rfl⟩, by omega, by omega⟩
  rw [E1.out.1]
  clear t
  have cc : w1.cell? ⟨w.heap.size, 1, none⟩ = some (.slice A1 X1.length c1) := by rw [row_cell R1.out]; rfl
  go_wp2_with fail
  clear cc
  refine (ints_sz (f1.later b1) p1 q1).mono ?_
  rintro e w2 ⟨rfl, hb⟩
  have b2 := b1.trans (hb.mono b1.size)
  have R2 := Lib.hid (rowk hb R1.out)
  clear hb b1 R1 f1
  by_cases t : ¬ ((X1.length : Nat) : Int) ≤ L1
  · have H := Lib.hid (szI_no t)
    have HT := Lib.hid (show szI (sizeCtxS X0 + X1.length + X2.length + sizeI X3 + sizeI X4 + X5.length + (X8.length / 2) + X9.length + X10.length) left = -1 from by have := E1.out.2; unfold szI; split <;> omega)
    rw [H.out]
    go_wp2_with fail
    go_ret
    exact ⟨by rw [HT.out]; rfl, b2⟩
  obtain ⟨L2, E2, p2, q2⟩ : ∃ z : Int, Go.RowKit.Hid (szI (X1.length) L1 = z ∧ z = L1 - ((X1.length : Nat) : Int)) ∧ 0 ≤ z ∧ z ≤ 1048576 := ⟨L1 - ((X1.length : Nat) : Int), Lib.hid ⟨szI_yes (Decidable.not_not.1 t), rfl⟩, by omega, by omega⟩
  rw [E2.out.1]
  clear t
  have cc : w2.cell? ⟨w.heap.size, 2, none⟩ = some (.slice A2 X2.length c2) := by rw [row_cell R2.out]; rfl
  go_wp2_with fail
  clear cc
  refine (ints_sz (f2.later b2) p2 q2).mono ?_
  rintro e w3 ⟨rfl, hb⟩
  have b3 := b2.trans (hb.mono b2.size)
  have R3 := Lib.hid (rowk hb R2.out)
  clear hb b2 R2 f2
  by_cases t : ¬ ((X2.length : Nat) : Int) ≤ L2
  · have H := Lib.hid (szI_no t)
    have HT := Lib.hid (show szI (sizeCtxS X0 + X1.length + X2.length + sizeI X3 + sizeI X4 + X5.length + (X8.length / 2) + X9.length + X10.length) left = -1 from by have := E1.out.2; have := E2.out.2; unfold szI; split <;> omega)
    rw [H.out]
    go_wp2_with fail
    go_ret
    exact ⟨by rw [HT.out]; rfl, b3⟩
  obtain ⟨L3, E3, p3, q3⟩ : ∃ z : Int, Go.RowKit.Hid (szI (X2.length) L2 = z ∧ z = L2 - ((X2.length : Nat) : Int)) ∧ 0 ≤ z ∧ z ≤ 1048576 := ⟨L2 - ((X2.length : Nat) : Int), Lib.hid ⟨szI_yes (Decidable.not_not.1 t), rfl⟩, by omega, by omega⟩
  rw [E3.out.1]
  clear t
  have cc : w3.cell? ⟨w.heap.size, 3, none⟩ = some (.slice A3 X3.length c3) := by rw [row_cell R3.out]; rfl
  go_wp2_with fail
  clear cc
  refine (iss_sz (f3.later (by decide) b3) p3 q3).mono ?_
  rintro e w4 ⟨rfl, hb⟩
  have b4 := b3.trans (hb.mono b3.size)
  have R4 := Lib.hid (rowk hb R3.out)
  clear hb b3 R3 f3
  by_cases t : ¬ ((sizeI X3 : Nat) : Int) ≤ L3
  · have H := Lib.hid (szI_no t)
    have HT := Lib.hid (show szI (sizeCtxS X0 + X1.length + X2.length + sizeI X3 + sizeI X4 + X5.length + (X8.length / 2) + X9.length + X10.length) left = -1 from by have := E1.out.2; have := E2.out.2; have := E3.out.2; unfold szI; split <;> omega)
    rw [H.out]
    go_wp2_with fail
    go_ret
    exact ⟨by rw [HT.out]; rfl, b4⟩
  obtain ⟨L4, E4, p4, q4⟩ : ∃ z : Int, Go.RowKit.Hid (szI (sizeI X3) L3 = z ∧ z = L3 - ((sizeI X3 : Nat) : Int)) ∧ 0 ≤ z ∧ z ≤ 1048576 := ⟨L3 - ((sizeI X3 : Nat) : Int), Lib.hid ⟨szI_yes (Decidable.not_not.1 t), rfl⟩, by omega, by omega⟩
  rw [E4.out.1]
  clear t
  have cc : w4.cell? ⟨w.heap.size, 4, none⟩ = some (.slice A4 X4.length c4) := by rw [row_cell R4.out]; rfl
  go_wp2_with fail
  clear cc
  refine (iss_sz (f4.later (by decide) b4) p4 q4).mono ?_
  rintro e w5 ⟨rfl, hb⟩
  have b5 := b4.trans (hb.mono b4.size)
  have R5 := Lib.hid (rowk hb R4.out)
  clear hb b4 R4 f4
  by_cases t : ¬ ((sizeI X4 : Nat) : Int) ≤ L4
  · have H := Lib.hid (szI_no t)
    have HT := Lib.hid (show szI (sizeCtxS X0 + X1.length + X2.length + sizeI X3 + sizeI X4 + X5.length + (X8.length / 2) + X9.length + X10.length) left = -1 from by have := E1.out.2; have := E2.out.2; have := E3.out.2; have := E4.out.2; unfold szI; split <;> omega)
    rw [H.out]
    go_wp2_with fail
    go_ret
    exact ⟨by rw [HT.out]; rfl, b5⟩
  obtain ⟨L5, E5, p5, q5⟩ : ∃ z : Int, Go.RowKit.Hid (szI (sizeI X4) L4 = z ∧ z = L4 - ((sizeI X4 : Nat) : Int)) ∧ 0 ≤ z ∧ z ≤ 1048576 := ⟨L4 - ((sizeI X4 : Nat) : Int), Lib.hid ⟨szI_yes (Decidable.not_not.1 t), rfl⟩, by omega, by omega⟩
  rw [E5.out.1]
  clear t
  have cc : w5.cell? ⟨w.heap.size, 5, none⟩ = some (.slice A5 X5.length c5) := by rw [row_cell R5.out]; rfl
  go_wp2_with fail
  clear cc
  refine (ints_sz (f5.later b5) p5 q5).mono ?_
  rintro e w6 ⟨rfl, hb⟩
  have b6 := b5.trans (hb.mono b5.size)
  have R6 := Lib.hid (rowk hb R5.out)
  clear hb b5 R5 f5
  by_cases t : ¬ ((X5.length : Nat) : Int) ≤ L5
  · have H := Lib.hid (szI_no t)
    have HT := Lib.hid (show szI (sizeCtxS X0 + X1.length + X2.length + sizeI X3 + sizeI X4 + X5.length + (X8.length / 2) + X9.length + X10.length) left = -1 from by have := E1.out.2; have := E2.out.2; have := E3.out.2; have := E4.out.2; have := E5.out.2; unfold szI; split <;> omega)
    rw [H.out]
    go_wp2_with fail
    go_ret
    exact ⟨by rw [HT.out]; rfl, b6⟩
  obtain ⟨L6, E6, p6, q6⟩ : ∃ z : Int, Go.RowKit.Hid (szI (X5.length) L5 = z ∧ z = L5 - ((X5.length : Nat) : Int)) ∧ 0 ≤ z ∧ z ≤ 1048576 := ⟨L5 - ((X5.length : Nat) : Int), Lib.hid ⟨szI_yes (Decidable.not_not.1 t), rfl⟩, by omega, by omega⟩
  rw [E6.out.1]
  clear t
  have cc : w6.cell? ⟨w.heap.size, 8, none⟩ = some (.slice A8 (X8.length / 2) c8) := by rw [row_cell R6.out]; rfl
  go_wp2_with fail
  clear cc
  refine (says_sz (f8.later b6) p6 q6).mono ?_
  rintro e w7 ⟨rfl, hb⟩
  have b7 := b6.trans (hb.mono b6.size)
  have R7 := Lib.hid (rowk hb R6.out)
  clear hb b6 R6 f8
  by_cases t : ¬ ((X8.length / 2 : Nat) : Int) ≤ L6
  · have H := Lib.hid (szI_no t)
    have HT := Lib.hid (show szI (sizeCtxS X0 + X1.length + X2.length + sizeI X3 + sizeI X4 + X5.length + (X8.length / 2) + X9.length + X10.length) left = -1 from by have := E1.out.2; have := E2.out.2; have := E3.out.2; have := E4.out.2; have := E5.out.2; have := E6.out.2; unfold szI; split <;> omega)
    rw [H.out]
    go_wp2_with fail
    go_ret
    exact ⟨by rw [HT.out]; rfl, b7⟩
  obtain ⟨L7, E7, p7, q7⟩ : ∃ z : Int, Go.RowKit.Hid (szI (X8.length / 2) L6 = z ∧ z = L6 - ((X8.length / 2 : Nat) : Int)) ∧ 0 ≤ z ∧ z ≤ 1048576 := ⟨L6 - ((X8.length / 2 : Nat) : Int), Lib.hid ⟨szI_yes (Decidable.not_not.1 t), rfl⟩, by omega, by omega⟩
  rw [E7.out.1]
  clear t
  have cc : w7.cell? ⟨w.heap.size, 9, none⟩ = some (.slice A9 X9.length c9) := by rw [row_cell R7.out]; rfl
  go_wp2_with fail
  clear cc
  refine (ints_sz (f9.later b7) p7 q7).mono ?_
  rintro e w8 ⟨rfl, hb⟩
  have b8 := b7.trans (hb.mono b7.size)
  have R8 := Lib.hid (rowk hb R7.out)
  clear hb b7 R7 f9
  by_cases t : ¬ ((X9.length : Nat) : Int) ≤ L7
  · have H := Lib.hid (szI_no t)
    have HT := Lib.hid (show szI (sizeCtxS X0 + X1.length + X2.length + sizeI X3 + sizeI X4 + X5.length + (X8.length / 2) + X9.length + X10.length) left = -1 from by have := E1.out.2; have := E2.out.2; have := E3.out.2; have := E4.out.2; have := E5.out.2; have := E6.out.2; have := E7.out.2; unfold szI; split <;> omega)
    rw [H.out]
    go_wp2_with fail
    go_ret
    exact ⟨by rw [HT.out]; rfl, b8⟩
  obtain ⟨L8, E8, p8, q8⟩ : ∃ z : Int, Go.RowKit.Hid (szI (X9.length) L7 = z ∧ z = L7 - ((X9.length : Nat) : Int)) ∧ 0 ≤ z ∧ z ≤ 1048576 := ⟨L7 - ((X9.length : Nat) : Int), Lib.hid ⟨szI_yes (Decidable.not_not.1 t), rfl⟩, by omega, by omega⟩
  rw [E8.out.1]
  clear t
  have cc : w8.cell? ⟨w.heap.size, 10, none⟩ = some (.slice A10 X10.length c10) := by rw [row_cell R8.out]; rfl
  go_wp2_with fail
  clear cc
  refine (ints_sz (f10.later b8) p8 q8).mono ?_
  rintro e w9 ⟨rfl, hb⟩
  have b9 := b8.trans (hb.mono b8.size)
  have R9 := Lib.hid (rowk hb R8.out)
  clear hb b8 R8 f10
  by_cases t : ¬ ((X10.length : Nat) : Int) ≤ L8
  · have H := Lib.hid (szI_no t)
    have HT := Lib.hid (show szI (sizeCtxS X0 + X1.length + X2.length + sizeI X3 + sizeI X4 + X5.length + (X8.length / 2) + X9.length + X10.length) left = -1 from by have := E1.out.2; have := E2.out.2; have := E3.out.2; have := E4.out.2; have := E5.out.2; have := E6.out.2; have := E7.out.2; have := E8.out.2; unfold szI; split <;> omega)
    rw [H.out]
    go_wp2_with fail
    go_ret
    exact ⟨by rw [HT.out]; rfl, b9⟩
  obtain ⟨L9, E9, p9, q9⟩ : ∃ z : Int, Go.RowKit.Hid (szI (X10.length) L8 = z ∧ z = L8 - ((X10.length : Nat) : Int)) ∧ 0 ≤ z ∧ z ≤ 1048576 := ⟨L8 - ((X10.length : Nat) : Int), Lib.hid ⟨szI_yes (Decidable.not_not.1 t), rfl⟩, by omega, by omega⟩
  rw [E9.out.1]
  clear t
  have HT := Lib.hid (show szI (sizeCtxS X0 + X1.length + X2.length + sizeI X3 + sizeI X4 + X5.length + (X8.length / 2) + X9.length + X10.length) left = L9 from by have := E1.out.2; have := E2.out.2; have := E3.out.2; have := E4.out.2; have := E5.out.2; have := E6.out.2; have := E7.out.2; have := E8.out.2; have := E9.out.2; unfold szI; split <;> omega)
  go_wp2_with fail
  go_ret
  exact ⟨by rw [HT.out]; rfl, b9⟩

theorem cpu_sz {x : CpuP} {vs : List Value} {S : Nat → Prop} {w : World} {left : Int} (hI : cpuShape.I w S vs x) (h0 : 0 ≤ left) (h1 : left ≤ 1048576) :
    Calls Try.prog 7 #[.agg vs.toArray, .int .i64 left] w fun e w' => e = .returned (.int .i64 (szI (sizeCpu x) left)) ∧ Below w.heap.size w w' := by
  obtain ⟨A0, c0, A1, c1, A2, c2, A3, c3, A4, c4, A5, c5, A8, c8, A9, c9, A10, c10, rfl, f0, f1, f2, f3, f4, f5, f8, f9, f10⟩ := hI
  exact szCpu_ f0 f1 f2 f3 f4 f5 f8 f9 f10 h0 h1

set_option maxRecDepth 100000 in
theorem eqCpu_ {X0 : List CtxP} {X1 : List Int} {X2 : List Int} {X3 : List (List Int)} {X4 : List (List Int)} {X5 : List Int} {X6 : Int} {X7 : Int} {X8 : List Int} {X9 : List Int} {X10 : List Int} {A0 : Option Addr} {c0 : Nat} {A1 : Option Addr} {c1 : Nat} {A2 : Option Addr} {c2 : Nat} {A3 : Option Addr} {c3 : Nat} {A4 : Option Addr} {c4 : Nat} {A5 : Option Addr} {c5 : Nat} {A8 : Option Addr} {c8 : Nat} {A9 : Option Addr} {c9 : Nat} {A10 : Option Addr} {c10 : Nat} {B0 : Option Addr} {d0 : Nat} {B1 : Option Addr} {d1 : Nat} {B2 : Option Addr} {d2 : Nat} {B3 : Option Addr} {d3 : Nat} {B4 : Option Addr} {d4 : Nat} {B5 : Option Addr} {d5 : Nat} {B8 : Option Addr} {d8 : Nat} {B9 : Option Addr} {d9 : Nat} {B10 : Option Addr} {d10 : Nat} {S T : Nat → Prop} {w : World} (f0 : Recs ctxShape w S X0 A0 X0.length c0) (f1 : Fl w S 1 X1 A1 X1.length c1) (f2 : Fl w S 1 X2 A2 X2.length c2) (f3 : Recs issShape w S X3 A3 X3.length c3) (f4 : Recs issShape w S X4 A4 X4.length c4) (f5 : Fl w S 1 X5 A5 X5.length c5) (f8 : Fl w S 2 X8 A8 (X8.length / 2) c8) (f9 : Fl w S 1 X9 A9 X9.length c9) (f10 : Fl w S 1 X10 A10 X10.length c10) (g0 : Recs ctxShape w T X0 B0 X0.length d0) (g1 : Fl w T 1 X1 B1 X1.length d1) (g2 : Fl w T 1 X2 B2 X2.length d2) (g3 : Recs issShape w T X3 B3 X3.length d3) (g4 : Recs issShape w T X4 B4 X4.length d4) (g5 : Fl w T 1 X5 B5 X5.length d5) (g8 : Fl w T 2 X8 B8 (X8.length / 2) d8) (g9 : Fl w T 1 X9 B9 X9.length d9) (g10 : Fl w T 1 X10 B10 X10.length d10) :
    Calls Try.prog 11 #[.agg #[.slice A0 X0.length c0, .slice A1 X1.length c1, .slice A2 X2.length c2, .slice A3 X3.length c3, .slice A4 X4.length c4, .slice A5 X5.length c5, .int .i64 X6, .int .i64 X7, .slice A8 (X8.length / 2) c8, .slice A9 X9.length c9, .slice A10 X10.length c10], .agg #[.slice B0 X0.length d0, .slice B1 X1.length d1, .slice B2 X2.length d2, .slice B3 X3.length d3, .slice B4 X4.length d4, .slice B5 X5.length d5, .int .i64 X6, .int .i64 X7, .slice B8 (X8.length / 2) d8, .slice B9 X9.length d9, .slice B10 X10.length d10]] w fun e w' => e = .returned (.bool true) ∧ Below w.heap.size w w' := by
  have b0 : Below w.heap.size w ((w.alloc (.cells #[.slice A0 X0.length c0, .slice A1 X1.length c1, .slice A2 X2.length c2, .slice A3 X3.length c3, .slice A4 X4.length c4, .slice A5 X5.length c5, .int .i64 X6, .int .i64 X7, .slice A8 (X8.length / 2) c8, .slice A9 X9.length c9, .slice A10 X10.length c10] 33)).alloc (.cells #[.slice B0 X0.length d0, .slice B1 X1.length d1, .slice B2 X2.length d2, .slice B3 X3.length d3, .slice B4 X4.length d4, .slice B5 X5.length d5, .int .i64 X6, .int .i64 X7, .slice B8 (X8.length / 2) d8, .slice B9 X9.length d9, .slice B10 X10.length d10] 33)) := ((Below.refl _ _).alloc (Nat.le_refl _) _).alloc (by simp) _
  have P0 := Lib.hid (row_first w #[.slice A0 X0.length c0, .slice A1 X1.length c1, .slice A2 X2.length c2, .slice A3 X3.length c3, .slice A4 X4.length c4, .slice A5 X5.length c5, .int .i64 X6, .int .i64 X7, .slice A8 (X8.length / 2) c8, .slice A9 X9.length c9, .slice A10 X10.length c10] #[.slice B0 X0.length d0, .slice B1 X1.length d1, .slice B2 X2.length d2, .slice B3 X3.length d3, .slice B4 X4.length d4, .slice B5 X5.length d5, .int .i64 X6, .int .i64 X7, .slice B8 (X8.length / 2) d8, .slice B9 X9.length d9, .slice B10 X10.length d10] 33 33)
  have Q0 := Lib.hid (row_second w #[.slice A0 X0.length c0, .slice A1 X1.length c1, .slice A2 X2.length c2, .slice A3 X3.length c3, .slice A4 X4.length c4, .slice A5 X5.length c5, .int .i64 X6, .int .i64 X7, .slice A8 (X8.length / 2) c8, .slice A9 X9.length c9, .slice A10 X10.length c10] #[.slice B0 X0.length d0, .slice B1 X1.length d1, .slice B2 X2.length d2, .slice B3 X3.length d3, .slice B4 X4.length d4, .slice B5 X5.length d5, .int .i64 X6, .int .i64 X7, .slice B8 (X8.length / 2) d8, .slice B9 X9.length d9, .slice B10 X10.length d10] 33 33)
  go_enter Try.func11, Try.ntmps11
  go_wp2_with fail
  refine (ctxs_eq (f0.later (by decide) b0) (g0.later (by decide) b0)).mono ?_
  rintro e w1 ⟨rfl, hb⟩
  have b1 := b0.trans (hb.mono b0.size)
  have P1 := Lib.hid (rowk hb P0.out)
  have Q1 := Lib.hid (rowk hb Q0.out)
  clear hb b0 P0 Q0 f0 g0
  have cp1 : w1.cell? ⟨w.heap.size, 1, none⟩ = some (.slice A1 X1.length c1) := by rw [row_cell P1.out]; rfl
  have cq1 : w1.cell? ⟨w.heap.size + 1, 1, none⟩ = some (.slice B1 X1.length d1) := by rw [row_cell Q1.out]; rfl
  go_wp2_with fail
  clear cp1 cq1
  refine (eqIntS (f1.later b1) (g1.later b1)).mono ?_
  rintro e w2 ⟨rfl, hb⟩
  have b2 := b1.trans (hb.mono b1.size)
  have P2 := Lib.hid (rowk hb P1.out)
  have Q2 := Lib.hid (rowk hb Q1.out)
  clear hb b1 P1 Q1 f1 g1
  have cp2 : w2.cell? ⟨w.heap.size, 2, none⟩ = some (.slice A2 X2.length c2) := by rw [row_cell P2.out]; rfl
  have cq2 : w2.cell? ⟨w.heap.size + 1, 2, none⟩ = some (.slice B2 X2.length d2) := by rw [row_cell Q2.out]; rfl
  go_wp2_with fail
  clear cp2 cq2
  refine (eqIntS (f2.later b2) (g2.later b2)).mono ?_
  rintro e w3 ⟨rfl, hb⟩
  have b3 := b2.trans (hb.mono b2.size)
  have P3 := Lib.hid (rowk hb P2.out)
  have Q3 := Lib.hid (rowk hb Q2.out)
  clear hb b2 P2 Q2 f2 g2
  have cp3 : w3.cell? ⟨w.heap.size, 3, none⟩ = some (.slice A3 X3.length c3) := by rw [row_cell P3.out]; rfl
  have cq3 : w3.cell? ⟨w.heap.size + 1, 3, none⟩ = some (.slice B3 X3.length d3) := by rw [row_cell Q3.out]; rfl
  go_wp2_with fail
  clear cp3 cq3
  refine (iss_eq (f3.later (by decide) b3) (g3.later (by decide) b3)).mono ?_
  rintro e w4 ⟨rfl, hb⟩
  have b4 := b3.trans (hb.mono b3.size)
  have P4 := Lib.hid (rowk hb P3.out)
  have Q4 := Lib.hid (rowk hb Q3.out)
  clear hb b3 P3 Q3 f3 g3
  have cp4 : w4.cell? ⟨w.heap.size, 4, none⟩ = some (.slice A4 X4.length c4) := by rw [row_cell P4.out]; rfl
  have cq4 : w4.cell? ⟨w.heap.size + 1, 4, none⟩ = some (.slice B4 X4.length d4) := by rw [row_cell Q4.out]; rfl
  go_wp2_with fail
  clear cp4 cq4
  refine (iss_eq (f4.later (by decide) b4) (g4.later (by decide) b4)).mono ?_
  rintro e w5 ⟨rfl, hb⟩
  have b5 := b4.trans (hb.mono b4.size)
  have P5 := Lib.hid (rowk hb P4.out)
  have Q5 := Lib.hid (rowk hb Q4.out)
  clear hb b4 P4 Q4 f4 g4
  have cp5 : w5.cell? ⟨w.heap.size, 5, none⟩ = some (.slice A5 X5.length c5) := by rw [row_cell P5.out]; rfl
  have cq5 : w5.cell? ⟨w.heap.size + 1, 5, none⟩ = some (.slice B5 X5.length d5) := by rw [row_cell Q5.out]; rfl
  go_wp2_with fail
  clear cp5 cq5
  refine (eqIntS (f5.later b5) (g5.later b5)).mono ?_
  rintro e w6 ⟨rfl, hb⟩
  have b6 := b5.trans (hb.mono b5.size)
  have P6 := Lib.hid (rowk hb P5.out)
  have Q6 := Lib.hid (rowk hb Q5.out)
  clear hb b5 P5 Q5 f5 g5
  have cp6 : w6.cell? ⟨w.heap.size, 6, none⟩ = some (.int .i64 X6) := by rw [row_cell P6.out]; rfl
  have cq6 : w6.cell? ⟨w.heap.size + 1, 6, none⟩ = some (.int .i64 X6) := by rw [row_cell Q6.out]; rfl
  have cp7 : w6.cell? ⟨w.heap.size, 7, none⟩ = some (.int .i64 X7) := by rw [row_cell P6.out]; rfl
  have cq7 : w6.cell? ⟨w.heap.size + 1, 7, none⟩ = some (.int .i64 X7) := by rw [row_cell Q6.out]; rfl
  have cp8 : w6.cell? ⟨w.heap.size, 8, none⟩ = some (.slice A8 (X8.length / 2) c8) := by rw [row_cell P6.out]; rfl
  have cq8 : w6.cell? ⟨w.heap.size + 1, 8, none⟩ = some (.slice B8 (X8.length / 2) d8) := by rw [row_cell Q6.out]; rfl
  go_wp2_with fail
  clear cp6 cq6 cp7 cq7 cp8 cq8
  refine (eqSayS (f8.later b6) (g8.later b6)).mono ?_
  rintro e w7 ⟨rfl, hb⟩
  have b7 := b6.trans (hb.mono b6.size)
  have P7 := Lib.hid (rowk hb P6.out)
  have Q7 := Lib.hid (rowk hb Q6.out)
  clear hb b6 P6 Q6 f8 g8
  have cp9 : w7.cell? ⟨w.heap.size, 9, none⟩ = some (.slice A9 X9.length c9) := by rw [row_cell P7.out]; rfl
  have cq9 : w7.cell? ⟨w.heap.size + 1, 9, none⟩ = some (.slice B9 X9.length d9) := by rw [row_cell Q7.out]; rfl
  go_wp2_with fail
  clear cp9 cq9
  refine (eqIntS (f9.later b7) (g9.later b7)).mono ?_
  rintro e w8 ⟨rfl, hb⟩
  have b8 := b7.trans (hb.mono b7.size)
  have P8 := Lib.hid (rowk hb P7.out)
  have Q8 := Lib.hid (rowk hb Q7.out)
  clear hb b7 P7 Q7 f9 g9
  have cp10 : w8.cell? ⟨w.heap.size, 10, none⟩ = some (.slice A10 X10.length c10) := by rw [row_cell P8.out]; rfl
  have cq10 : w8.cell? ⟨w.heap.size + 1, 10, none⟩ = some (.slice B10 X10.length d10) := by rw [row_cell Q8.out]; rfl
  go_wp2_with fail
  clear cp10 cq10
  refine (eqIntS (f10.later b8) (g10.later b8)).mono ?_
  rintro e w9 ⟨rfl, hb⟩
  have b9 := b8.trans (hb.mono b8.size)
  have P9 := Lib.hid (rowk hb P8.out)
  have Q9 := Lib.hid (rowk hb Q8.out)
  clear hb b8 P8 Q8 f10 g10
  go_wp2_with fail
  go_ret
  exact ⟨rfl, b9⟩

theorem cpu_eq {x : CpuP} {vs us : List Value} {S T : Nat → Prop} {w : World} (hI : cpuShape.I w S vs x) (hJ : cpuShape.I w T us x) :
    Calls Try.prog 11 #[.agg vs.toArray, .agg us.toArray] w fun e w' => e = .returned (.bool true) ∧ Below w.heap.size w w' := by
  obtain ⟨A0, c0, A1, c1, A2, c2, A3, c3, A4, c4, A5, c5, A8, c8, A9, c9, A10, c10, rfl, f0, f1, f2, f3, f4, f5, f8, f9, f10⟩ := hI
  obtain ⟨B0, d0, B1, d1, B2, d2, B3, d3, B4, d4, B5, d5, B8, d8, B9, d9, B10, d10, rfl, g0, g1, g2, g3, g4, g5, g8, g9, g10⟩ := hJ
  exact eqCpu_ f0 f1 f2 f3 f4 f5 f8 f9 f10 g0 g1 g2 g3 g4 g5 g8 g9 g10

set_option maxRecDepth 100000 in
set_option maxHeartbeats 4000000 in
theorem toCpu_ {X0 : List CtxP} {X1 : List Int} {X2 : List Int} {X3 : List (List Int)} {X4 : List (List Int)} {X5 : List Int} {X6 : Int} {X7 : Int} {X8 : List Int} {X9 : List Int} {X10 : List Int} {A0 : Option Addr} {c0 : Nat} {A1 : Option Addr} {c1 : Nat} {A2 : Option Addr} {c2 : Nat} {A3 : Option Addr} {c3 : Nat} {A4 : Option Addr} {c4 : Nat} {A5 : Option Addr} {c5 : Nat} {A8 : Option Addr} {c8 : Nat} {A9 : Option Addr} {c9 : Nat} {A10 : Option Addr} {c10 : Nat} {S : Nat → Prop} {w : World} (f0 : Recs ctxShape w S X0 A0 X0.length c0) (f1 : Fl w S 1 X1 A1 X1.length c1) (f2 : Fl w S 1 X2 A2 X2.length c2) (f3 : Recs issShape w S X3 A3 X3.length c3) (f4 : Recs issShape w S X4 A4 X4.length c4) (f5 : Fl w S 1 X5 A5 X5.length c5) (f8 : Fl w S 2 X8 A8 (X8.length / 2) c8) (f9 : Fl w S 1 X9 A9 X9.length c9) (f10 : Fl w S 1 X10 A10 X10.length c10) (hS : sizeCtxS X0 + X1.length + X2.length + sizeI X3 + sizeI X4 + X5.length + (X8.length / 2) + X9.length + X10.length ≤ 1048576) :
    Calls Try.prog 9 #[.agg #[.slice A0 X0.length c0, .slice A1 X1.length c1, .slice A2 X2.length c2, .slice A3 X3.length c3, .slice A4 X4.length c4, .slice A5 X5.length c5, .int .i64 X6, .int .i64 X7, .slice A8 (X8.length / 2) c8, .slice A9 X9.length c9, .slice A10 X10.length c10]] w fun e w' => ∃ vs : List Value, e = .returned (.agg vs.toArray) ∧ cpuShape.I w' (Born w w') vs ⟨X0, X1, X2, X3, X4, X5, X6, X7, X8, X9, X10⟩ ∧ Below w.heap.size w w' := by
  have b0 : Below w.heap.size w (((w.alloc (.cells #[.slice A0 X0.length c0, .slice A1 X1.length c1, .slice A2 X2.length c2, .slice A3 X3.length c3, .slice A4 X4.length c4, .slice A5 X5.length c5, .int .i64 X6, .int .i64 X7, .slice A8 (X8.length / 2) c8, .slice A9 X9.length c9, .slice A10 X10.length c10] 27)).alloc (.cells #[.slice none 0 0, .slice none 0 0, .slice none 0 0, .slice none 0 0, .slice none 0 0, .slice none 0 0, .int .i64 0, .int .i64 0, .slice none 0 0, .slice none 0 0, .slice none 0 0] 33)).alloc (.cells #[.slice none 0 0, .slice none 0 0, .slice none 0 0, .slice none 0 0, .slice none 0 0, .slice none 0 0, .int .i64 0, .int .i64 0, .slice none 0 0, .slice none 0 0, .slice none 0 0] 33)) := (((Below.refl _ _).alloc (Nat.le_refl _) _).alloc (by simp) _).alloc (by simp; omega) _
  have P0 := Lib.hid (row3_first w #[.slice A0 X0.length c0, .slice A1 X1.length c1, .slice A2 X2.length c2, .slice A3 X3.length c3, .slice A4 X4.length c4, .slice A5 X5.length c5, .int .i64 X6, .int .i64 X7, .slice A8 (X8.length / 2) c8, .slice A9 X9.length c9, .slice A10 X10.length c10] #[.slice none 0 0, .slice none 0 0, .slice none 0 0, .slice none 0 0, .slice none 0 0, .slice none 0 0, .int .i64 0, .int .i64 0, .slice none 0 0, .slice none 0 0, .slice none 0 0] #[.slice none 0 0, .slice none 0 0, .slice none 0 0, .slice none 0 0, .slice none 0 0, .slice none 0 0, .int .i64 0, .int .i64 0, .slice none 0 0, .slice none 0 0, .slice none 0 0] 27 33 33)
  have Q0 := Lib.hid (row3_second w #[.slice A0 X0.length c0, .slice A1 X1.length c1, .slice A2 X2.length c2, .slice A3 X3.length c3, .slice A4 X4.length c4, .slice A5 X5.length c5, .int .i64 X6, .int .i64 X7, .slice A8 (X8.length / 2) c8, .slice A9 X9.length c9, .slice A10 X10.length c10] #[.slice none 0 0, .slice none 0 0, .slice none 0 0, .slice none 0 0, .slice none 0 0, .slice none 0 0, .int .i64 0, .int .i64 0, .slice none 0 0, .slice none 0 0, .slice none 0 0] #[.slice none 0 0, .slice none 0 0, .slice none 0 0, .slice none 0 0, .slice none 0 0, .slice none 0 0, .int .i64 0, .int .i64 0, .slice none 0 0, .slice none 0 0, .slice none 0 0] 27 33 33)
  have O0 := Lib.hid (row3_third w #[.slice A0 X0.length c0, .slice A1 X1.length c1, .slice A2 X2.length c2, .slice A3 X3.length c3, .slice A4 X4.length c4, .slice A5 X5.length c5, .int .i64 X6, .int .i64 X7, .slice A8 (X8.length / 2) c8, .slice A9 X9.length c9, .slice A10 X10.length c10] #[.slice none 0 0, .slice none 0 0, .slice none 0 0, .slice none 0 0, .slice none 0 0, .slice none 0 0, .int .i64 0, .int .i64 0, .slice none 0 0, .slice none 0 0, .slice none 0 0] #[.slice none 0 0, .slice none 0 0, .slice none 0 0, .slice none 0 0, .slice none 0 0, .slice none 0 0, .int .i64 0, .int .i64 0, .slice none 0 0, .slice none 0 0, .slice none 0 0] 27 33 33)
  have z0 : w.heap.size + 3 ≤ (((w.alloc (.cells #[.slice A0 X0.length c0, .slice A1 X1.length c1, .slice A2 X2.length c2, .slice A3 X3.length c3, .slice A4 X4.length c4, .slice A5 X5.length c5, .int .i64 X6, .int .i64 X7, .slice A8 (X8.length / 2) c8, .slice A9 X9.length c9, .slice A10 X10.length c10] 27)).alloc (.cells #[.slice none 0 0, .slice none 0 0, .slice none 0 0, .slice none 0 0, .slice none 0 0, .slice none 0 0, .int .i64 0, .int .i64 0, .slice none 0 0, .slice none 0 0, .slice none 0 0] 33)).alloc (.cells #[.slice none 0 0, .slice none 0 0, .slice none 0 0, .slice none 0 0, .slice none 0 0, .slice none 0 0, .int .i64 0, .int .i64 0, .slice none 0 0, .slice none 0 0, .slice none 0 0] 33)).heap.size := by simp
  go_enter Try.func9, Try.ntmps9
  go_wp2_with fail
  refine (ctxs_to (f0.later (by decide) b0) (by omega)).mono ?_
  rintro e w1 ⟨B0, d0, rfl, g0, hb⟩
  have P1 := Lib.hid (rowk hb P0.out)
  have Q1 := Lib.hid (rowk hb Q0.out)
  have O1 := Lib.hid (rowk hb O0.out)
  have hz := hb.size
  replace g0 := g0.mono (T := fun b => w.heap.size + 3 ≤ b ∧ b < w1.heap.size) fun b hp => ⟨by have := hp.1; omega, hp.2⟩
  have b1 := b0.trans (hb.mono b0.size)
  have z1 : w.heap.size + 3 ≤ w1.heap.size := Nat.le_trans z0 hz
  clear hb hz b0 P0 Q0 O0 z0 f0
  have cp1 : w1.cell? ⟨w.heap.size, 1, none⟩ = some (.slice A1 X1.length c1) := by rw [row_cell P1.out]; rfl
  have co0 : w1.cell? ⟨w.heap.size + 1 + 1, 0, none⟩ = some (.slice none 0 0) := by rw [row_cell O1.out]; rfl
  have cf0 := row_frozen O1.out 0
  go_wp2_with fail
  clear cp1 co0 cf0
  replace O1 := Lib.hid (show (w1.setCell ⟨w.heap.size + 1 + 1, 0, none⟩ (.slice B0 X0.length d0)).heap[w.heap.size + 1 + 1]? = some (.cells #[.slice B0 X0.length d0, .slice none 0 0, .slice none 0 0, .slice none 0 0, .slice none 0 0, .slice none 0 0, .int .i64 0, .int .i64 0, .slice none 0 0, .slice none 0 0, .slice none 0 0] 33 (0, 0)) from by rw [row_set O1.out]; rfl)
  have HW : (w1.setCell ⟨w.heap.size + 1 + 1, 0, none⟩ (.slice B0 X0.length d0)).heap.size = w1.heap.size := by simp only [size_set]
  replace P1 := Lib.hid ((row_other (i := 0) (show w.heap.size ≠ w.heap.size + 1 + 1 by omega) (.slice B0 X0.length d0)).trans (P1.out))
  replace Q1 := Lib.hid ((row_other (i := 0) (show w.heap.size + 1 ≠ w.heap.size + 1 + 1 by omega) (.slice B0 X0.length d0)).trans (Q1.out))
  replace b1 := (b1.setCell (p := ⟨w.heap.size + 1 + 1, 0, none⟩) (by show _ ≤ w.heap.size + 1 + 1; omega) (.slice B0 X0.length d0))
  replace g0 := (g0.keep (keepO (j := 0) (.slice B0 X0.length d0)))
  rw [← HW] at g0 z1
  clear HW
  generalize HWW : (w1.setCell ⟨w.heap.size + 1 + 1, 0, none⟩ (.slice B0 X0.length d0)) = W1 at *
  clear HWW
  refine (ints_to (f1.later b1) (by omega)).mono ?_
  rintro e w2 ⟨B1, d1, rfl, g1, hb⟩
  have P2 := Lib.hid (rowk hb P1.out)
  have Q2 := Lib.hid (rowk hb Q1.out)
  have O2 := Lib.hid (rowk hb O1.out)
  have hz := hb.size
  replace g0 := (g0.keep (w' := w2) fun p hp => hb.cell hp.2).mono (T := fun b => w.heap.size + 3 ≤ b ∧ b < w2.heap.size) fun b hp => ⟨hp.1, by have := hp.2; omega⟩
  replace g1 := g1.mono (T := fun b => w.heap.size + 3 ≤ b ∧ b < w2.heap.size) fun b hp => ⟨by have := hp.1; omega, hp.2⟩
  have b2 := b1.trans (hb.mono b1.size)
  have z2 : w.heap.size + 3 ≤ w2.heap.size := Nat.le_trans z1 hz
  clear hb hz b1 P1 Q1 O1 z1 f1
  have cp2 : w2.cell? ⟨w.heap.size, 2, none⟩ = some (.slice A2 X2.length c2) := by rw [row_cell P2.out]; rfl
  have co1 : w2.cell? ⟨w.heap.size + 1 + 1, 1, none⟩ = some (.slice none 0 0) := by rw [row_cell O2.out]; rfl
  have cf1 := row_frozen O2.out 1
  go_wp2_with fail
  clear cp2 co1 cf1
  replace O2 := Lib.hid (show (w2.setCell ⟨w.heap.size + 1 + 1, 1, none⟩ (.slice B1 X1.length d1)).heap[w.heap.size + 1 + 1]? = some (.cells #[.slice B0 X0.length d0, .slice B1 X1.length d1, .slice none 0 0, .slice none 0 0, .slice none 0 0, .slice none 0 0, .int .i64 0, .int .i64 0, .slice none 0 0, .slice none 0 0, .slice none 0 0] 33 (0, 0)) from by rw [row_set O2.out]; rfl)
  have HW : (w2.setCell ⟨w.heap.size + 1 + 1, 1, none⟩ (.slice B1 X1.length d1)).heap.size = w2.heap.size := by simp only [size_set]
  replace P2 := Lib.hid ((row_other (i := 1) (show w.heap.size ≠ w.heap.size + 1 + 1 by omega) (.slice B1 X1.length d1)).trans (P2.out))
  replace Q2 := Lib.hid ((row_other (i := 1) (show w.heap.size + 1 ≠ w.heap.size + 1 + 1 by omega) (.slice B1 X1.length d1)).trans (Q2.out))
  replace b2 := (b2.setCell (p := ⟨w.heap.size + 1 + 1, 1, none⟩) (by show _ ≤ w.heap.size + 1 + 1; omega) (.slice B1 X1.length d1))
  replace g0 := (g0.keep (keepO (j := 1) (.slice B1 X1.length d1)))
  replace g1 := (g1.keep (keepO (j := 1) (.slice B1 X1.length d1)))
  rw [← HW] at g0 g1 z2
  clear HW
  generalize HWW : (w2.setCell ⟨w.heap.size + 1 + 1, 1, none⟩ (.slice B1 X1.length d1)) = W2 at *
  clear HWW
  refine (ints_to (f2.later b2) (by omega)).mono ?_
  rintro e w3 ⟨B2, d2, rfl, g2, hb⟩
  have P3 := Lib.hid (rowk hb P2.out)
  have Q3 := Lib.hid (rowk hb Q2.out)
  have O3 := Lib.hid (rowk hb O2.out)
  have hz := hb.size
  replace g0 := (g0.keep (w' := w3) fun p hp => hb.cell hp.2).mono (T := fun b => w.heap.size + 3 ≤ b ∧ b < w3.heap.size) fun b hp => ⟨hp.1, by have := hp.2; omega⟩
  replace g1 := (g1.keep (w' := w3) fun p hp => hb.cell hp.2).mono (T := fun b => w.heap.size + 3 ≤ b ∧ b < w3.heap.size) fun b hp => ⟨hp.1, by have := hp.2; omega⟩
  replace g2 := g2.mono (T := fun b => w.heap.size + 3 ≤ b ∧ b < w3.heap.size) fun b hp => ⟨by have := hp.1; omega, hp.2⟩
  have b3 := b2.trans (hb.mono b2.size)
  have z3 : w.heap.size + 3 ≤ w3.heap.size := Nat.le_trans z2 hz
  clear hb hz b2 P2 Q2 O2 z2 f2
  have cp3 : w3.cell? ⟨w.heap.size, 3, none⟩ = some (.slice A3 X3.length c3) := by rw [row_cell P3.out]; rfl
  have co2 : w3.cell? ⟨w.heap.size + 1 + 1, 2, none⟩ = some (.slice none 0 0) := by rw [row_cell O3.out]; rfl
  have cf2 := row_frozen O3.out 2
  go_wp2_with fail
  clear cp3 co2 cf2
  replace O3 := Lib.hid (show (w3.setCell ⟨w.heap.size + 1 + 1, 2, none⟩ (.slice B2 X2.length d2)).heap[w.heap.size + 1 + 1]? = some (.cells #[.slice B0 X0.length d0, .slice B1 X1.length d1, .slice B2 X2.length d2, .slice none 0 0, .slice none 0 0, .slice none 0 0, .int .i64 0, .int .i64 0, .slice none 0 0, .slice none 0 0, .slice none 0 0] 33 (0, 0)) from by rw [row_set O3.out]; rfl)
  have HW : (w3.setCell ⟨w.heap.size + 1 + 1, 2, none⟩ (.slice B2 X2.length d2)).heap.size = w3.heap.size := by simp only [size_set]
  replace P3 := Lib.hid ((row_other (i := 2) (show w.heap.size ≠ w.heap.size + 1 + 1 by omega) (.slice B2 X2.length d2)).trans (P3.out))
  replace Q3 := Lib.hid ((row_other (i := 2) (show w.heap.size + 1 ≠ w.heap.size + 1 + 1 by omega) (.slice B2 X2.length d2)).trans (Q3.out))
  replace b3 := (b3.setCell (p := ⟨w.heap.size + 1 + 1, 2, none⟩) (by show _ ≤ w.heap.size + 1 + 1; omega) (.slice B2 X2.length d2))
  replace g0 := (g0.keep (keepO (j := 2) (.slice B2 X2.length d2)))
  replace g1 := (g1.keep (keepO (j := 2) (.slice B2 X2.length d2)))
  replace g2 := (g2.keep (keepO (j := 2) (.slice B2 X2.length d2)))
  rw [← HW] at g0 g1 g2 z3
  clear HW
  generalize HWW : (w3.setCell ⟨w.heap.size + 1 + 1, 2, none⟩ (.slice B2 X2.length d2)) = W3 at *
  clear HWW
  refine (iss_to (f3.later (by decide) b3) (by omega)).mono ?_
  rintro e w4 ⟨B3, d3, rfl, g3, hb⟩
  have P4 := Lib.hid (rowk hb P3.out)
  have Q4 := Lib.hid (rowk hb Q3.out)
  have O4 := Lib.hid (rowk hb O3.out)
  have hz := hb.size
  replace g0 := (g0.keep (w' := w4) fun p hp => hb.cell hp.2).mono (T := fun b => w.heap.size + 3 ≤ b ∧ b < w4.heap.size) fun b hp => ⟨hp.1, by have := hp.2; omega⟩
  replace g1 := (g1.keep (w' := w4) fun p hp => hb.cell hp.2).mono (T := fun b => w.heap.size + 3 ≤ b ∧ b < w4.heap.size) fun b hp => ⟨hp.1, by have := hp.2; omega⟩
  replace g2 := (g2.keep (w' := w4) fun p hp => hb.cell hp.2).mono (T := fun b => w.heap.size + 3 ≤ b ∧ b < w4.heap.size) fun b hp => ⟨hp.1, by have := hp.2; omega⟩
  replace g3 := g3.mono (T := fun b => w.heap.size + 3 ≤ b ∧ b < w4.heap.size) fun b hp => ⟨by have := hp.1; omega, hp.2⟩
  have b4 := b3.trans (hb.mono b3.size)
  have z4 : w.heap.size + 3 ≤ w4.heap.size := Nat.le_trans z3 hz
  clear hb hz b3 P3 Q3 O3 z3 f3
  have cp4 : w4.cell? ⟨w.heap.size, 4, none⟩ = some (.slice A4 X4.length c4) := by rw [row_cell P4.out]; rfl
  have co3 : w4.cell? ⟨w.heap.size + 1 + 1, 3, none⟩ = some (.slice none 0 0) := by rw [row_cell O4.out]; rfl
  have cf3 := row_frozen O4.out 3
  go_wp2_with fail
  clear cp4 co3 cf3
  replace O4 := Lib.hid (show (w4.setCell ⟨w.heap.size + 1 + 1, 3, none⟩ (.slice B3 X3.length d3)).heap[w.heap.size + 1 + 1]? = some (.cells #[.slice B0 X0.length d0, .slice B1 X1.length d1, .slice B2 X2.length d2, .slice B3 X3.length d3, .slice none 0 0, .slice none 0 0, .int .i64 0, .int .i64 0, .slice none 0 0, .slice none 0 0, .slice none 0 0] 33 (0, 0)) from by rw [row_set O4.out]; rfl)
  have HW : (w4.setCell ⟨w.heap.size + 1 + 1, 3, none⟩ (.slice B3 X3.length d3)).heap.size = w4.heap.size := by simp only [size_set]
  replace P4 := Lib.hid ((row_other (i := 3) (show w.heap.size ≠ w.heap.size + 1 + 1 by omega) (.slice B3 X3.length d3)).trans (P4.out))
  replace Q4 := Lib.hid ((row_other (i := 3) (show w.heap.size + 1 ≠ w.heap.size + 1 + 1 by omega) (.slice B3 X3.length d3)).trans (Q4.out))
  replace b4 := (b4.setCell (p := ⟨w.heap.size + 1 + 1, 3, none⟩) (by show _ ≤ w.heap.size + 1 + 1; omega) (.slice B3 X3.length d3))
  replace g0 := (g0.keep (keepO (j := 3) (.slice B3 X3.length d3)))
  replace g1 := (g1.keep (keepO (j := 3) (.slice B3 X3.length d3)))
  replace g2 := (g2.keep (keepO (j := 3) (.slice B3 X3.length d3)))
  replace g3 := (g3.keep (keepO (j := 3) (.slice B3 X3.length d3)))
  rw [← HW] at g0 g1 g2 g3 z4
  clear HW
  generalize HWW : (w4.setCell ⟨w.heap.size + 1 + 1, 3, none⟩ (.slice B3 X3.length d3)) = W4 at *
  clear HWW
  refine (iss_to (f4.later (by decide) b4) (by omega)).mono ?_
  rintro e w5 ⟨B4, d4, rfl, g4, hb⟩
  have P5 := Lib.hid (rowk hb P4.out)
  have Q5 := Lib.hid (rowk hb Q4.out)
  have O5 := Lib.hid (rowk hb O4.out)
  have hz := hb.size
  replace g0 := (g0.keep (w' := w5) fun p hp => hb.cell hp.2).mono (T := fun b => w.heap.size + 3 ≤ b ∧ b < w5.heap.size) fun b hp => ⟨hp.1, by have := hp.2; omega⟩
  replace g1 := (g1.keep (w' := w5) fun p hp => hb.cell hp.2).mono (T := fun b => w.heap.size + 3 ≤ b ∧ b < w5.heap.size) fun b hp => ⟨hp.1, by have := hp.2; omega⟩
  replace g2 := (g2.keep (w' := w5) fun p hp => hb.cell hp.2).mono (T := fun b => w.heap.size + 3 ≤ b ∧ b < w5.heap.size) fun b hp => ⟨hp.1, by have := hp.2; omega⟩
  replace g3 := (g3.keep (w' := w5) fun p hp => hb.cell hp.2).mono (T := fun b => w.heap.size + 3 ≤ b ∧ b < w5.heap.size) fun b hp => ⟨hp.1, by have := hp.2; omega⟩
  replace g4 := g4.mono (T := fun b => w.heap.size + 3 ≤ b ∧ b < w5.heap.size) fun b hp => ⟨by have := hp.1; omega, hp.2⟩
  have b5 := b4.trans (hb.mono b4.size)
  have z5 : w.heap.size + 3 ≤ w5.heap.size := Nat.le_trans z4 hz
  clear hb hz b4 P4 Q4 O4 z4 f4
  have cp5 : w5.cell? ⟨w.heap.size, 5, none⟩ = some (.slice A5 X5.length c5) := by rw [row_cell P5.out]; rfl
  have co4 : w5.cell? ⟨w.heap.size + 1 + 1, 4, none⟩ = some (.slice none 0 0) := by rw [row_cell O5.out]; rfl
  have cf4 := row_frozen O5.out 4
  go_wp2_with fail
  clear cp5 co4 cf4
  replace O5 := Lib.hid (show (w5.setCell ⟨w.heap.size + 1 + 1, 4, none⟩ (.slice B4 X4.length d4)).heap[w.heap.size + 1 + 1]? = some (.cells #[.slice B0 X0.length d0, .slice B1 X1.length d1, .slice B2 X2.length d2, .slice B3 X3.length d3, .slice B4 X4.length d4, .slice none 0 0, .int .i64 0, .int .i64 0, .slice none 0 0, .slice none 0 0, .slice none 0 0] 33 (0, 0)) from by rw [row_set O5.out]; rfl)
  have HW : (w5.setCell ⟨w.heap.size + 1 + 1, 4, none⟩ (.slice B4 X4.length d4)).heap.size = w5.heap.size := by simp only [size_set]
  replace P5 := Lib.hid ((row_other (i := 4) (show w.heap.size ≠ w.heap.size + 1 + 1 by omega) (.slice B4 X4.length d4)).trans (P5.out))
  replace Q5 := Lib.hid ((row_other (i := 4) (show w.heap.size + 1 ≠ w.heap.size + 1 + 1 by omega) (.slice B4 X4.length d4)).trans (Q5.out))
  replace b5 := (b5.setCell (p := ⟨w.heap.size + 1 + 1, 4, none⟩) (by show _ ≤ w.heap.size + 1 + 1; omega) (.slice B4 X4.length d4))
  replace g0 := (g0.keep (keepO (j := 4) (.slice B4 X4.length d4)))
  replace g1 := (g1.keep (keepO (j := 4) (.slice B4 X4.length d4)))
  replace g2 := (g2.keep (keepO (j := 4) (.slice B4 X4.length d4)))
  replace g3 := (g3.keep (keepO (j := 4) (.slice B4 X4.length d4)))
  replace g4 := (g4.keep (keepO (j := 4) (.slice B4 X4.length d4)))
  rw [← HW] at g0 g1 g2 g3 g4 z5
  clear HW
  generalize HWW : (w5.setCell ⟨w.heap.size + 1 + 1, 4, none⟩ (.slice B4 X4.length d4)) = W5 at *
  clear HWW
  refine (ints_to (f5.later b5) (by omega)).mono ?_
  rintro e w6 ⟨B5, d5, rfl, g5, hb⟩
  have P6 := Lib.hid (rowk hb P5.out)
  have Q6 := Lib.hid (rowk hb Q5.out)
  have O6 := Lib.hid (rowk hb O5.out)
  have hz := hb.size
  replace g0 := (g0.keep (w' := w6) fun p hp => hb.cell hp.2).mono (T := fun b => w.heap.size + 3 ≤ b ∧ b < w6.heap.size) fun b hp => ⟨hp.1, by have := hp.2; omega⟩
  replace g1 := (g1.keep (w' := w6) fun p hp => hb.cell hp.2).mono (T := fun b => w.heap.size + 3 ≤ b ∧ b < w6.heap.size) fun b hp => ⟨hp.1, by have := hp.2; omega⟩
  replace g2 := (g2.keep (w' := w6) fun p hp => hb.cell hp.2).mono (T := fun b => w.heap.size + 3 ≤ b ∧ b < w6.heap.size) fun b hp => ⟨hp.1, by have := hp.2; omega⟩
  replace g3 := (g3.keep (w' := w6) fun p hp => hb.cell hp.2).mono (T := fun b => w.heap.size + 3 ≤ b ∧ b < w6.heap.size) fun b hp => ⟨hp.1, by have := hp.2; omega⟩
  replace g4 := (g4.keep (w' := w6) fun p hp => hb.cell hp.2).mono (T := fun b => w.heap.size + 3 ≤ b ∧ b < w6.heap.size) fun b hp => ⟨hp.1, by have := hp.2; omega⟩
  replace g5 := g5.mono (T := fun b => w.heap.size + 3 ≤ b ∧ b < w6.heap.size) fun b hp => ⟨by have := hp.1; omega, hp.2⟩
  have b6 := b5.trans (hb.mono b5.size)
  have z6 : w.heap.size + 3 ≤ w6.heap.size := Nat.le_trans z5 hz
  clear hb hz b5 P5 Q5 O5 z5 f5
  have cp6 : w6.cell? ⟨w.heap.size, 6, none⟩ = some (.int .i64 X6) := by rw [row_cell P6.out]; rfl
  have cp7 : w6.cell? ⟨w.heap.size, 7, none⟩ = some (.int .i64 X7) := by rw [row_cell P6.out]; rfl
  have cp8 : w6.cell? ⟨w.heap.size, 8, none⟩ = some (.slice A8 (X8.length / 2) c8) := by rw [row_cell P6.out]; rfl
  have co5 : w6.cell? ⟨w.heap.size + 1 + 1, 5, none⟩ = some (.slice none 0 0) := by rw [row_cell O6.out]; rfl
  have cf5 := row_frozen O6.out 5
  have co6 : w6.cell? ⟨w.heap.size + 1 + 1, 6, none⟩ = some (.int .i64 0) := by rw [row_cell O6.out]; rfl
  have cf6 := row_frozen O6.out 6
  have co7 : w6.cell? ⟨w.heap.size + 1 + 1, 7, none⟩ = some (.int .i64 0) := by rw [row_cell O6.out]; rfl
  have cf7 := row_frozen O6.out 7
  go_wp2_with fail
  clear cp6 cp7 cp8 co5 cf5 co6 cf6 co7 cf7
  replace O6 := Lib.hid (show (w6.setCell ⟨w.heap.size + 1 + 1, 5, none⟩ (.slice B5 X5.length d5)).heap[w.heap.size + 1 + 1]? = some (.cells #[.slice B0 X0.length d0, .slice B1 X1.length d1, .slice B2 X2.length d2, .slice B3 X3.length d3, .slice B4 X4.length d4, .slice B5 X5.length d5, .int .i64 0, .int .i64 0, .slice none 0 0, .slice none 0 0, .slice none 0 0] 33 (0, 0)) from by rw [row_set O6.out]; rfl)
  replace O6 := Lib.hid (show ((w6.setCell ⟨w.heap.size + 1 + 1, 5, none⟩ (.slice B5 X5.length d5)).setCell ⟨w.heap.size + 1 + 1, 6, none⟩ (.int .i64 X6)).heap[w.heap.size + 1 + 1]? = some (.cells #[.slice B0 X0.length d0, .slice B1 X1.length d1, .slice B2 X2.length d2, .slice B3 X3.length d3, .slice B4 X4.length d4, .slice B5 X5.length d5, .int .i64 X6, .int .i64 0, .slice none 0 0, .slice none 0 0, .slice none 0 0] 33 (0, 0)) from by rw [row_set O6.out]; rfl)
  replace O6 := Lib.hid (show (((w6.setCell ⟨w.heap.size + 1 + 1, 5, none⟩ (.slice B5 X5.length d5)).setCell ⟨w.heap.size + 1 + 1, 6, none⟩ (.int .i64 X6)).setCell ⟨w.heap.size + 1 + 1, 7, none⟩ (.int .i64 X7)).heap[w.heap.size + 1 + 1]? = some (.cells #[.slice B0 X0.length d0, .slice B1 X1.length d1, .slice B2 X2.length d2, .slice B3 X3.length d3, .slice B4 X4.length d4, .slice B5 X5.length d5, .int .i64 X6, .int .i64 X7, .slice none 0 0, .slice none 0 0, .slice none 0 0] 33 (0, 0)) from by rw [row_set O6.out]; rfl)
  have HW : (((w6.setCell ⟨w.heap.size + 1 + 1, 5, none⟩ (.slice B5 X5.length d5)).setCell ⟨w.heap.size + 1 + 1, 6, none⟩ (.int .i64 X6)).setCell ⟨w.heap.size + 1 + 1, 7, none⟩ (.int .i64 X7)).heap.size = w6.heap.size := by simp only [size_set]
  replace P6 := Lib.hid ((row_other (i := 7) (show w.heap.size ≠ w.heap.size + 1 + 1 by omega) (.int .i64 X7)).trans ((row_other (i := 6) (show w.heap.size ≠ w.heap.size + 1 + 1 by omega) (.int .i64 X6)).trans ((row_other (i := 5) (show w.heap.size ≠ w.heap.size + 1 + 1 by omega) (.slice B5 X5.length d5)).trans (P6.out))))
  replace Q6 := Lib.hid ((row_other (i := 7) (show w.heap.size + 1 ≠ w.heap.size + 1 + 1 by omega) (.int .i64 X7)).trans ((row_other (i := 6) (show w.heap.size + 1 ≠ w.heap.size + 1 + 1 by omega) (.int .i64 X6)).trans ((row_other (i := 5) (show w.heap.size + 1 ≠ w.heap.size + 1 + 1 by omega) (.slice B5 X5.length d5)).trans (Q6.out))))
  replace b6 := (((b6.setCell (p := ⟨w.heap.size + 1 + 1, 5, none⟩) (by show _ ≤ w.heap.size + 1 + 1; omega) (.slice B5 X5.length d5)).setCell (p := ⟨w.heap.size + 1 + 1, 6, none⟩) (by show _ ≤ w.heap.size + 1 + 1; omega) (.int .i64 X6)).setCell (p := ⟨w.heap.size + 1 + 1, 7, none⟩) (by show _ ≤ w.heap.size + 1 + 1; omega) (.int .i64 X7))
  replace g0 := (((g0.keep (keepO (j := 5) (.slice B5 X5.length d5))).keep (keepO (j := 6) (.int .i64 X6))).keep (keepO (j := 7) (.int .i64 X7)))
  replace g1 := (((g1.keep (keepO (j := 5) (.slice B5 X5.length d5))).keep (keepO (j := 6) (.int .i64 X6))).keep (keepO (j := 7) (.int .i64 X7)))
  replace g2 := (((g2.keep (keepO (j := 5) (.slice B5 X5.length d5))).keep (keepO (j := 6) (.int .i64 X6))).keep (keepO (j := 7) (.int .i64 X7)))
  replace g3 := (((g3.keep (keepO (j := 5) (.slice B5 X5.length d5))).keep (keepO (j := 6) (.int .i64 X6))).keep (keepO (j := 7) (.int .i64 X7)))
  replace g4 := (((g4.keep (keepO (j := 5) (.slice B5 X5.length d5))).keep (keepO (j := 6) (.int .i64 X6))).keep (keepO (j := 7) (.int .i64 X7)))
  replace g5 := (((g5.keep (keepO (j := 5) (.slice B5 X5.length d5))).keep (keepO (j := 6) (.int .i64 X6))).keep (keepO (j := 7) (.int .i64 X7)))
  rw [← HW] at g0 g1 g2 g3 g4 g5 z6
  clear HW
  generalize HWW : (((w6.setCell ⟨w.heap.size + 1 + 1, 5, none⟩ (.slice B5 X5.length d5)).setCell ⟨w.heap.size + 1 + 1, 6, none⟩ (.int .i64 X6)).setCell ⟨w.heap.size + 1 + 1, 7, none⟩ (.int .i64 X7)) = W6 at *
  clear HWW
  refine (says_to (f8.later b6) (by omega)).mono ?_
  rintro e w7 ⟨B8, d8, rfl, g8, hb⟩
  have P7 := Lib.hid (rowk hb P6.out)
  have Q7 := Lib.hid (rowk hb Q6.out)
  have O7 := Lib.hid (rowk hb O6.out)
  have hz := hb.size
  replace g0 := (g0.keep (w' := w7) fun p hp => hb.cell hp.2).mono (T := fun b => w.heap.size + 3 ≤ b ∧ b < w7.heap.size) fun b hp => ⟨hp.1, by have := hp.2; omega⟩
  replace g1 := (g1.keep (w' := w7) fun p hp => hb.cell hp.2).mono (T := fun b => w.heap.size + 3 ≤ b ∧ b < w7.heap.size) fun b hp => ⟨hp.1, by have := hp.2; omega⟩
  replace g2 := (g2.keep (w' := w7) fun p hp => hb.cell hp.2).mono (T := fun b => w.heap.size + 3 ≤ b ∧ b < w7.heap.size) fun b hp => ⟨hp.1, by have := hp.2; omega⟩
  replace g3 := (g3.keep (w' := w7) fun p hp => hb.cell hp.2).mono (T := fun b => w.heap.size + 3 ≤ b ∧ b < w7.heap.size) fun b hp => ⟨hp.1, by have := hp.2; omega⟩
  replace g4 := (g4.keep (w' := w7) fun p hp => hb.cell hp.2).mono (T := fun b => w.heap.size + 3 ≤ b ∧ b < w7.heap.size) fun b hp => ⟨hp.1, by have := hp.2; omega⟩
  replace g5 := (g5.keep (w' := w7) fun p hp => hb.cell hp.2).mono (T := fun b => w.heap.size + 3 ≤ b ∧ b < w7.heap.size) fun b hp => ⟨hp.1, by have := hp.2; omega⟩
  replace g8 := g8.mono (T := fun b => w.heap.size + 3 ≤ b ∧ b < w7.heap.size) fun b hp => ⟨by have := hp.1; omega, hp.2⟩
  have b7 := b6.trans (hb.mono b6.size)
  have z7 : w.heap.size + 3 ≤ w7.heap.size := Nat.le_trans z6 hz
  clear hb hz b6 P6 Q6 O6 z6 f8
  have cp9 : w7.cell? ⟨w.heap.size, 9, none⟩ = some (.slice A9 X9.length c9) := by rw [row_cell P7.out]; rfl
  have co8 : w7.cell? ⟨w.heap.size + 1 + 1, 8, none⟩ = some (.slice none 0 0) := by rw [row_cell O7.out]; rfl
  have cf8 := row_frozen O7.out 8
  go_wp2_with fail
  clear cp9 co8 cf8
  replace O7 := Lib.hid (show (w7.setCell ⟨w.heap.size + 1 + 1, 8, none⟩ (.slice B8 (X8.length / 2) d8)).heap[w.heap.size + 1 + 1]? = some (.cells #[.slice B0 X0.length d0, .slice B1 X1.length d1, .slice B2 X2.length d2, .slice B3 X3.length d3, .slice B4 X4.length d4, .slice B5 X5.length d5, .int .i64 X6, .int .i64 X7, .slice B8 (X8.length / 2) d8, .slice none 0 0, .slice none 0 0] 33 (0, 0)) from by rw [row_set O7.out]; rfl)
  have HW : (w7.setCell ⟨w.heap.size + 1 + 1, 8, none⟩ (.slice B8 (X8.length / 2) d8)).heap.size = w7.heap.size := by simp only [size_set]
  replace P7 := Lib.hid ((row_other (i := 8) (show w.heap.size ≠ w.heap.size + 1 + 1 by omega) (.slice B8 (X8.length / 2) d8)).trans (P7.out))
  replace Q7 := Lib.hid ((row_other (i := 8) (show w.heap.size + 1 ≠ w.heap.size + 1 + 1 by omega) (.slice B8 (X8.length / 2) d8)).trans (Q7.out))
  replace b7 := (b7.setCell (p := ⟨w.heap.size + 1 + 1, 8, none⟩) (by show _ ≤ w.heap.size + 1 + 1; omega) (.slice B8 (X8.length / 2) d8))
  replace g0 := (g0.keep (keepO (j := 8) (.slice B8 (X8.length / 2) d8)))
  replace g1 := (g1.keep (keepO (j := 8) (.slice B8 (X8.length / 2) d8)))
  replace g2 := (g2.keep (keepO (j := 8) (.slice B8 (X8.length / 2) d8)))
  replace g3 := (g3.keep (keepO (j := 8) (.slice B8 (X8.length / 2) d8)))
  replace g4 := (g4.keep (keepO (j := 8) (.slice B8 (X8.length / 2) d8)))
  replace g5 := (g5.keep (keepO (j := 8) (.slice B8 (X8.length / 2) d8)))
  replace g8 := (g8.keep (keepO (j := 8) (.slice B8 (X8.length / 2) d8)))
  rw [← HW] at g0 g1 g2 g3 g4 g5 g8 z7
  clear HW
  generalize HWW : (w7.setCell ⟨w.heap.size + 1 + 1, 8, none⟩ (.slice B8 (X8.length / 2) d8)) = W7 at *
  clear HWW
  refine (ints_to (f9.later b7) (by omega)).mono ?_
  rintro e w8 ⟨B9, d9, rfl, g9, hb⟩
  have P8 := Lib.hid (rowk hb P7.out)
  have Q8 := Lib.hid (rowk hb Q7.out)
  have O8 := Lib.hid (rowk hb O7.out)
  have hz := hb.size
  replace g0 := (g0.keep (w' := w8) fun p hp => hb.cell hp.2).mono (T := fun b => w.heap.size + 3 ≤ b ∧ b < w8.heap.size) fun b hp => ⟨hp.1, by have := hp.2; omega⟩
  replace g1 := (g1.keep (w' := w8) fun p hp => hb.cell hp.2).mono (T := fun b => w.heap.size + 3 ≤ b ∧ b < w8.heap.size) fun b hp => ⟨hp.1, by have := hp.2; omega⟩
  replace g2 := (g2.keep (w' := w8) fun p hp => hb.cell hp.2).mono (T := fun b => w.heap.size + 3 ≤ b ∧ b < w8.heap.size) fun b hp => ⟨hp.1, by have := hp.2; omega⟩
  replace g3 := (g3.keep (w' := w8) fun p hp => hb.cell hp.2).mono (T := fun b => w.heap.size + 3 ≤ b ∧ b < w8.heap.size) fun b hp => ⟨hp.1, by have := hp.2; omega⟩
  replace g4 := (g4.keep (w' := w8) fun p hp => hb.cell hp.2).mono (T := fun b => w.heap.size + 3 ≤ b ∧ b < w8.heap.size) fun b hp => ⟨hp.1, by have := hp.2; omega⟩
  replace g5 := (g5.keep (w' := w8) fun p hp => hb.cell hp.2).mono (T := fun b => w.heap.size + 3 ≤ b ∧ b < w8.heap.size) fun b hp => ⟨hp.1, by have := hp.2; omega⟩
  replace g8 := (g8.keep (w' := w8) fun p hp => hb.cell hp.2).mono (T := fun b => w.heap.size + 3 ≤ b ∧ b < w8.heap.size) fun b hp => ⟨hp.1, by have := hp.2; omega⟩
  replace g9 := g9.mono (T := fun b => w.heap.size + 3 ≤ b ∧ b < w8.heap.size) fun b hp => ⟨by have := hp.1; omega, hp.2⟩
  have b8 := b7.trans (hb.mono b7.size)
  have z8 : w.heap.size + 3 ≤ w8.heap.size := Nat.le_trans z7 hz
  clear hb hz b7 P7 Q7 O7 z7 f9
  have cp10 : w8.cell? ⟨w.heap.size, 10, none⟩ = some (.slice A10 X10.length c10) := by rw [row_cell P8.out]; rfl
  have co9 : w8.cell? ⟨w.heap.size + 1 + 1, 9, none⟩ = some (.slice none 0 0) := by rw [row_cell O8.out]; rfl
  have cf9 := row_frozen O8.out 9
  go_wp2_with fail
  clear cp10 co9 cf9
  replace O8 := Lib.hid (show (w8.setCell ⟨w.heap.size + 1 + 1, 9, none⟩ (.slice B9 X9.length d9)).heap[w.heap.size + 1 + 1]? = some (.cells #[.slice B0 X0.length d0, .slice B1 X1.length d1, .slice B2 X2.length d2, .slice B3 X3.length d3, .slice B4 X4.length d4, .slice B5 X5.length d5, .int .i64 X6, .int .i64 X7, .slice B8 (X8.length / 2) d8, .slice B9 X9.length d9, .slice none 0 0] 33 (0, 0)) from by rw [row_set O8.out]; rfl)
  have HW : (w8.setCell ⟨w.heap.size + 1 + 1, 9, none⟩ (.slice B9 X9.length d9)).heap.size = w8.heap.size := by simp only [size_set]
  replace P8 := Lib.hid ((row_other (i := 9) (show w.heap.size ≠ w.heap.size + 1 + 1 by omega) (.slice B9 X9.length d9)).trans (P8.out))
  replace Q8 := Lib.hid ((row_other (i := 9) (show w.heap.size + 1 ≠ w.heap.size + 1 + 1 by omega) (.slice B9 X9.length d9)).trans (Q8.out))
  replace b8 := (b8.setCell (p := ⟨w.heap.size + 1 + 1, 9, none⟩) (by show _ ≤ w.heap.size + 1 + 1; omega) (.slice B9 X9.length d9))
  replace g0 := (g0.keep (keepO (j := 9) (.slice B9 X9.length d9)))
  replace g1 := (g1.keep (keepO (j := 9) (.slice B9 X9.length d9)))
  replace g2 := (g2.keep (keepO (j := 9) (.slice B9 X9.length d9)))
  replace g3 := (g3.keep (keepO (j := 9) (.slice B9 X9.length d9)))
  replace g4 := (g4.keep (keepO (j := 9) (.slice B9 X9.length d9)))
  replace g5 := (g5.keep (keepO (j := 9) (.slice B9 X9.length d9)))
  replace g8 := (g8.keep (keepO (j := 9) (.slice B9 X9.length d9)))
  replace g9 := (g9.keep (keepO (j := 9) (.slice B9 X9.length d9)))
  rw [← HW] at g0 g1 g2 g3 g4 g5 g8 g9 z8
  clear HW
  generalize HWW : (w8.setCell ⟨w.heap.size + 1 + 1, 9, none⟩ (.slice B9 X9.length d9)) = W8 at *
  clear HWW
  refine (ints_to (f10.later b8) (by omega)).mono ?_
  rintro e w9 ⟨B10, d10, rfl, g10, hb⟩
  have P9 := Lib.hid (rowk hb P8.out)
  have Q9 := Lib.hid (rowk hb Q8.out)
  have O9 := Lib.hid (rowk hb O8.out)
  have hz := hb.size
  replace g0 := (g0.keep (w' := w9) fun p hp => hb.cell hp.2).mono (T := fun b => w.heap.size + 3 ≤ b ∧ b < w9.heap.size) fun b hp => ⟨hp.1, by have := hp.2; omega⟩
  replace g1 := (g1.keep (w' := w9) fun p hp => hb.cell hp.2).mono (T := fun b => w.heap.size + 3 ≤ b ∧ b < w9.heap.size) fun b hp => ⟨hp.1, by have := hp.2; omega⟩
  replace g2 := (g2.keep (w' := w9) fun p hp => hb.cell hp.2).mono (T := fun b => w.heap.size + 3 ≤ b ∧ b < w9.heap.size) fun b hp => ⟨hp.1, by have := hp.2; omega⟩
  replace g3 := (g3.keep (w' := w9) fun p hp => hb.cell hp.2).mono (T := fun b => w.heap.size + 3 ≤ b ∧ b < w9.heap.size) fun b hp => ⟨hp.1, by have := hp.2; omega⟩
  replace g4 := (g4.keep (w' := w9) fun p hp => hb.cell hp.2).mono (T := fun b => w.heap.size + 3 ≤ b ∧ b < w9.heap.size) fun b hp => ⟨hp.1, by have := hp.2; omega⟩
  replace g5 := (g5.keep (w' := w9) fun p hp => hb.cell hp.2).mono (T := fun b => w.heap.size + 3 ≤ b ∧ b < w9.heap.size) fun b hp => ⟨hp.1, by have := hp.2; omega⟩
  replace g8 := (g8.keep (w' := w9) fun p hp => hb.cell hp.2).mono (T := fun b => w.heap.size + 3 ≤ b ∧ b < w9.heap.size) fun b hp => ⟨hp.1, by have := hp.2; omega⟩
  replace g9 := (g9.keep (w' := w9) fun p hp => hb.cell hp.2).mono (T := fun b => w.heap.size + 3 ≤ b ∧ b < w9.heap.size) fun b hp => ⟨hp.1, by have := hp.2; omega⟩
  replace g10 := g10.mono (T := fun b => w.heap.size + 3 ≤ b ∧ b < w9.heap.size) fun b hp => ⟨by have := hp.1; omega, hp.2⟩
  have b9 := b8.trans (hb.mono b8.size)
  have z9 : w.heap.size + 3 ≤ w9.heap.size := Nat.le_trans z8 hz
  clear hb hz b8 P8 Q8 O8 z8 f10
  have co10 : w9.cell? ⟨w.heap.size + 1 + 1, 10, none⟩ = some (.slice none 0 0) := by rw [row_cell O9.out]; rfl
  have cf10 := row_frozen O9.out 10
  have co0 : w9.cell? ⟨w.heap.size + 1 + 1, 0, none⟩ = some (.slice B0 X0.length d0) := by rw [row_cell O9.out]; rfl
  have ct0 : w9.cell? ⟨w.heap.size + 1, 0, none⟩ = some (.slice none 0 0) := by rw [row_cell Q9.out]; rfl
  have ch0 := row_frozen Q9.out 0
  have co1 : w9.cell? ⟨w.heap.size + 1 + 1, 1, none⟩ = some (.slice B1 X1.length d1) := by rw [row_cell O9.out]; rfl
  have ct1 : w9.cell? ⟨w.heap.size + 1, 1, none⟩ = some (.slice none 0 0) := by rw [row_cell Q9.out]; rfl
  have ch1 := row_frozen Q9.out 1
  have co2 : w9.cell? ⟨w.heap.size + 1 + 1, 2, none⟩ = some (.slice B2 X2.length d2) := by rw [row_cell O9.out]; rfl
  have ct2 : w9.cell? ⟨w.heap.size + 1, 2, none⟩ = some (.slice none 0 0) := by rw [row_cell Q9.out]; rfl
  have ch2 := row_frozen Q9.out 2
  have co3 : w9.cell? ⟨w.heap.size + 1 + 1, 3, none⟩ = some (.slice B3 X3.length d3) := by rw [row_cell O9.out]; rfl
  have ct3 : w9.cell? ⟨w.heap.size + 1, 3, none⟩ = some (.slice none 0 0) := by rw [row_cell Q9.out]; rfl
  have ch3 := row_frozen Q9.out 3
  have co4 : w9.cell? ⟨w.heap.size + 1 + 1, 4, none⟩ = some (.slice B4 X4.length d4) := by rw [row_cell O9.out]; rfl
  have ct4 : w9.cell? ⟨w.heap.size + 1, 4, none⟩ = some (.slice none 0 0) := by rw [row_cell Q9.out]; rfl
  have ch4 := row_frozen Q9.out 4
  have co5 : w9.cell? ⟨w.heap.size + 1 + 1, 5, none⟩ = some (.slice B5 X5.length d5) := by rw [row_cell O9.out]; rfl
  have ct5 : w9.cell? ⟨w.heap.size + 1, 5, none⟩ = some (.slice none 0 0) := by rw [row_cell Q9.out]; rfl
  have ch5 := row_frozen Q9.out 5
  have co6 : w9.cell? ⟨w.heap.size + 1 + 1, 6, none⟩ = some (.int .i64 X6) := by rw [row_cell O9.out]; rfl
  have ct6 : w9.cell? ⟨w.heap.size + 1, 6, none⟩ = some (.int .i64 0) := by rw [row_cell Q9.out]; rfl
  have ch6 := row_frozen Q9.out 6
  have co7 : w9.cell? ⟨w.heap.size + 1 + 1, 7, none⟩ = some (.int .i64 X7) := by rw [row_cell O9.out]; rfl
  have ct7 : w9.cell? ⟨w.heap.size + 1, 7, none⟩ = some (.int .i64 0) := by rw [row_cell Q9.out]; rfl
  have ch7 := row_frozen Q9.out 7
  have co8 : w9.cell? ⟨w.heap.size + 1 + 1, 8, none⟩ = some (.slice B8 (X8.length / 2) d8) := by rw [row_cell O9.out]; rfl
  have ct8 : w9.cell? ⟨w.heap.size + 1, 8, none⟩ = some (.slice none 0 0) := by rw [row_cell Q9.out]; rfl
  have ch8 := row_frozen Q9.out 8
  have co9 : w9.cell? ⟨w.heap.size + 1 + 1, 9, none⟩ = some (.slice B9 X9.length d9) := by rw [row_cell O9.out]; rfl
  have ct9 : w9.cell? ⟨w.heap.size + 1, 9, none⟩ = some (.slice none 0 0) := by rw [row_cell Q9.out]; rfl
  have ch9 := row_frozen Q9.out 9
  have ct10 : w9.cell? ⟨w.heap.size + 1, 10, none⟩ = some (.slice none 0 0) := by rw [row_cell Q9.out]; rfl
  have ch10 := row_frozen Q9.out 10
  go_wp2_with fail
  refine bodyPost_ret (v := .agg #[.slice B0 X0.length d0, .slice B1 X1.length d1, .slice B2 X2.length d2, .slice B3 X3.length d3, .slice B4 X4.length d4, .slice B5 X5.length d5, .int .i64 X6, .int .i64 X7, .slice B8 (X8.length / 2) d8, .slice B9 X9.length d9, .slice B10 X10.length d10]) (by simp [results, Try.results9, go_sem, *]) rfl ⟨[.slice B0 X0.length d0, .slice B1 X1.length d1, .slice B2 X2.length d2, .slice B3 X3.length d3, .slice B4 X4.length d4, .slice B5 X5.length d5, .int .i64 X6, .int .i64 X7, .slice B8 (X8.length / 2) d8, .slice B9 X9.length d9, .slice B10 X10.length d10], rfl, ?_, ?_⟩
  · exact ⟨B0, d0, B1, d1, B2, d2, B3, d3, B4, d4, B5, d5, B8, d8, B9, d9, B10, d10, rfl, ((((((((((((g0.keep (keepO (j := 10) (.slice B10 X10.length d10))).keep (keepR (j := 0) (.slice B0 X0.length d0))).keep (keepR (j := 1) (.slice B1 X1.length d1))).keep (keepR (j := 2) (.slice B2 X2.length d2))).keep (keepR (j := 3) (.slice B3 X3.length d3))).keep (keepR (j := 4) (.slice B4 X4.length d4))).keep (keepR (j := 5) (.slice B5 X5.length d5))).keep (keepR (j := 6) (.int .i64 X6))).keep (keepR (j := 7) (.int .i64 X7))).keep (keepR (j := 8) (.slice B8 (X8.length / 2) d8))).keep (keepR (j := 9) (.slice B9 X9.length d9))).keep (keepR (j := 10) (.slice B10 X10.length d10))).mono (fun b hb => ⟨by have := hb.1; omega, by simp only [size_set]; exact hb.2⟩), ((((((((((((g1.keep (keepO (j := 10) (.slice B10 X10.length d10))).keep (keepR (j := 0) (.slice B0 X0.length d0))).keep (keepR (j := 1) (.slice B1 X1.length d1))).keep (keepR (j := 2) (.slice B2 X2.length d2))).keep (keepR (j := 3) (.slice B3 X3.length d3))).keep (keepR (j := 4) (.slice B4 X4.length d4))).keep (keepR (j := 5) (.slice B5 X5.length d5))).keep (keepR (j := 6) (.int .i64 X6))).keep (keepR (j := 7) (.int .i64 X7))).keep (keepR (j := 8) (.slice B8 (X8.length / 2) d8))).keep (keepR (j := 9) (.slice B9 X9.length d9))).keep (keepR (j := 10) (.slice B10 X10.length d10))).mono (fun b hb => ⟨by have := hb.1; omega, by simp only [size_set]; exact hb.2⟩), ((((((((((((g2.keep (keepO (j := 10) (.slice B10 X10.length d10))).keep (keepR (j := 0) (.slice B0 X0.length d0))).keep (keepR (j := 1) (.slice B1 X1.length d1))).keep (keepR (j := 2) (.slice B2 X2.length d2))).keep (keepR (j := 3) (.slice B3 X3.length d3))).keep (keepR (j := 4) (.slice B4 X4.length d4))).keep (keepR (j := 5) (.slice B5 X5.length d5))).keep (keepR (j := 6) (.int .i64 X6))).keep (keepR (j := 7) (.int .i64 X7))).keep (keepR (j := 8) (.slice B8 (X8.length / 2) d8))).keep (keepR (j := 9) (.slice B9 X9.length d9))).keep (keepR (j := 10) (.slice B10 X10.length d10))).mono (fun b hb => ⟨by have := hb.1; omega, by simp only [size_set]; exact hb.2⟩), ((((((((((((g3.keep (keepO (j := 10) (.slice B10 X10.length d10))).keep (keepR (j := 0) (.slice B0 X0.length d0))).keep (keepR (j := 1) (.slice B1 X1.length d1))).keep (keepR (j := 2) (.slice B2 X2.length d2))).keep (keepR (j := 3) (.slice B3 X3.length d3))).keep (keepR (j := 4) (.slice B4 X4.length d4))).keep (keepR (j := 5) (.slice B5 X5.length d5))).keep (keepR (j := 6) (.int .i64 X6))).keep (keepR (j := 7) (.int .i64 X7))).keep (keepR (j := 8) (.slice B8 (X8.length / 2) d8))).keep (keepR (j := 9) (.slice B9 X9.length d9))).keep (keepR (j := 10) (.slice B10 X10.length d10))).mono (fun b hb => ⟨by have := hb.1; omega, by simp only [size_set]; exact hb.2⟩), ((((((((((((g4.keep (keepO (j := 10) (.slice B10 X10.length d10))).keep (keepR (j := 0) (.slice B0 X0.length d0))).keep (keepR (j := 1) (.slice B1 X1.length d1))).keep (keepR (j := 2) (.slice B2 X2.length d2))).keep (keepR (j := 3) (.slice B3 X3.length d3))).keep (keepR (j := 4) (.slice B4 X4.length d4))).keep (keepR (j := 5) (.slice B5 X5.length d5))).keep (keepR (j := 6) (.int .i64 X6))).keep (keepR (j := 7) (.int .i64 X7))).keep (keepR (j := 8) (.slice B8 (X8.length / 2) d8))).keep (keepR (j := 9) (.slice B9 X9.length d9))).keep (keepR (j := 10) (.slice B10 X10.length d10))).mono (fun b hb => ⟨by have := hb.1; omega, by simp only [size_set]; exact hb.2⟩), ((((((((((((g5.keep (keepO (j := 10) (.slice B10 X10.length d10))).keep (keepR (j := 0) (.slice B0 X0.length d0))).keep (keepR (j := 1) (.slice B1 X1.length d1))).keep (keepR (j := 2) (.slice B2 X2.length d2))).keep (keepR (j := 3) (.slice B3 X3.length d3))).keep (keepR (j := 4) (.slice B4 X4.length d4))).keep (keepR (j := 5) (.slice B5 X5.length d5))).keep (keepR (j := 6) (.int .i64 X6))).keep (keepR (j := 7) (.int .i64 X7))).keep (keepR (j := 8) (.slice B8 (X8.length / 2) d8))).keep (keepR (j := 9) (.slice B9 X9.length d9))).keep (keepR (j := 10) (.slice B10 X10.length d10))).mono (fun b hb => ⟨by have := hb.1; omega, by simp only [size_set]; exact hb.2⟩), ((((((((((((g8.keep (keepO (j := 10) (.slice B10 X10.length d10))).keep (keepR (j := 0) (.slice B0 X0.length d0))).keep (keepR (j := 1) (.slice B1 X1.length d1))).keep (keepR (j := 2) (.slice B2 X2.length d2))).keep (keepR (j := 3) (.slice B3 X3.length d3))).keep (keepR (j := 4) (.slice B4 X4.length d4))).keep (keepR (j := 5) (.slice B5 X5.length d5))).keep (keepR (j := 6) (.int .i64 X6))).keep (keepR (j := 7) (.int .i64 X7))).keep (keepR (j := 8) (.slice B8 (X8.length / 2) d8))).keep (keepR (j := 9) (.slice B9 X9.length d9))).keep (keepR (j := 10) (.slice B10 X10.length d10))).mono (fun b hb => ⟨by have := hb.1; omega, by simp only [size_set]; exact hb.2⟩), ((((((((((((g9.keep (keepO (j := 10) (.slice B10 X10.length d10))).keep (keepR (j := 0) (.slice B0 X0.length d0))).keep (keepR (j := 1) (.slice B1 X1.length d1))).keep (keepR (j := 2) (.slice B2 X2.length d2))).keep (keepR (j := 3) (.slice B3 X3.length d3))).keep (keepR (j := 4) (.slice B4 X4.length d4))).keep (keepR (j := 5) (.slice B5 X5.length d5))).keep (keepR (j := 6) (.int .i64 X6))).keep (keepR (j := 7) (.int .i64 X7))).keep (keepR (j := 8) (.slice B8 (X8.length / 2) d8))).keep (keepR (j := 9) (.slice B9 X9.length d9))).keep (keepR (j := 10) (.slice B10 X10.length d10))).mono (fun b hb => ⟨by have := hb.1; omega, by simp only [size_set]; exact hb.2⟩), ((((((((((((g10.keep (keepO (j := 10) (.slice B10 X10.length d10))).keep (keepR (j := 0) (.slice B0 X0.length d0))).keep (keepR (j := 1) (.slice B1 X1.length d1))).keep (keepR (j := 2) (.slice B2 X2.length d2))).keep (keepR (j := 3) (.slice B3 X3.length d3))).keep (keepR (j := 4) (.slice B4 X4.length d4))).keep (keepR (j := 5) (.slice B5 X5.length d5))).keep (keepR (j := 6) (.int .i64 X6))).keep (keepR (j := 7) (.int .i64 X7))).keep (keepR (j := 8) (.slice B8 (X8.length / 2) d8))).keep (keepR (j := 9) (.slice B9 X9.length d9))).keep (keepR (j := 10) (.slice B10 X10.length d10))).mono (fun b hb => ⟨by have := hb.1; omega, by simp only [size_set]; exact hb.2⟩)⟩
  · exact ((((((((((((b9.setCell (p := ⟨w.heap.size + 1 + 1, 10, none⟩) (by show _ ≤ w.heap.size + 1 + 1; omega) (.slice B10 X10.length d10)).setCell (p := ⟨w.heap.size + 1, 0, none⟩) (by show _ ≤ w.heap.size + 1; omega) (.slice B0 X0.length d0)).setCell (p := ⟨w.heap.size + 1, 1, none⟩) (by show _ ≤ w.heap.size + 1; omega) (.slice B1 X1.length d1)).setCell (p := ⟨w.heap.size + 1, 2, none⟩) (by show _ ≤ w.heap.size + 1; omega) (.slice B2 X2.length d2)).setCell (p := ⟨w.heap.size + 1, 3, none⟩) (by show _ ≤ w.heap.size + 1; omega) (.slice B3 X3.length d3)).setCell (p := ⟨w.heap.size + 1, 4, none⟩) (by show _ ≤ w.heap.size + 1; omega) (.slice B4 X4.length d4)).setCell (p := ⟨w.heap.size + 1, 5, none⟩) (by show _ ≤ w.heap.size + 1; omega) (.slice B5 X5.length d5)).setCell (p := ⟨w.heap.size + 1, 6, none⟩) (by show _ ≤ w.heap.size + 1; omega) (.int .i64 X6)).setCell (p := ⟨w.heap.size + 1, 7, none⟩) (by show _ ≤ w.heap.size + 1; omega) (.int .i64 X7)).setCell (p := ⟨w.heap.size + 1, 8, none⟩) (by show _ ≤ w.heap.size + 1; omega) (.slice B8 (X8.length / 2) d8)).setCell (p := ⟨w.heap.size + 1, 9, none⟩) (by show _ ≤ w.heap.size + 1; omega) (.slice B9 X9.length d9)).setCell (p := ⟨w.heap.size + 1, 10, none⟩) (by show _ ≤ w.heap.size + 1; omega) (.slice B10 X10.length d10))

theorem cpu_to {x : CpuP} {vs : List Value} {S : Nat → Prop} {w : World} (hI : cpuShape.I w S vs x) (hS : sizeCpu x ≤ 1048576) :
    Calls Try.prog 9 #[.agg vs.toArray] w fun e w' => ∃ us : List Value, e = .returned (.agg us.toArray) ∧ cpuShape.I w' (Born w w') us x ∧ Below w.heap.size w w' := by
  obtain ⟨A0, c0, A1, c1, A2, c2, A3, c3, A4, c4, A5, c5, A8, c8, A9, c9, A10, c10, rfl, f0, f1, f2, f3, f4, f5, f8, f9, f10⟩ := hI
  exact toCpu_ f0 f1 f2 f3 f4 f5 f8 f9 f10 hS
end Go.Proofs.Ytkiekabfmdcemaa
