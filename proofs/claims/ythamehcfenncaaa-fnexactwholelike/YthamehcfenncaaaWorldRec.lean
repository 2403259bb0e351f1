/- World: its shape, and the laws' count, copy and comparison of it (written by tools/gen_rec.py). -/
import Derived.Test.YthamehcfenncaaaProcRec
namespace Go.Proofs.Ythamehcfenncaaa
open Go.ChangeShapes Go.WideShapes Go.ChangeAt Go.RowKit

def worldShape : Shape WorldP where
  z := 5
  I w S vs x := ∃ (A0 : Option Addr) (c0 : Nat) (A1 : Option Addr) (c1 : Nat) (A2 : Option Addr) (c2 : Nat) (A3 : Option Addr) (c3 : Nat) (A4 : Option Addr) (c4 : Nat), vs = [.slice A0 x.procs.length c0, .slice A1 x.cells.length c1, .slice A2 x.rooms.length c2, .slice A3 x.signs.length c3, .slice A4 (x.said.length / 2) c4] ∧ Recs procShape w S x.procs A0 x.procs.length c0 ∧ Fl w S 1 x.cells A1 x.cells.length c1 ∧ Fl w S 1 x.rooms A2 x.rooms.length c2 ∧ Recs issShape w S x.signs A3 x.signs.length c3 ∧ Fl w S 2 x.said A4 (x.said.length / 2) c4
  len := by rintro w S vs x ⟨_, _, _, _, _, _, _, _, _, _, rfl, _, _, _, _, _⟩; rfl
  keep := by rintro w w' S vs x ⟨A0, c0, A1, c1, A2, c2, A3, c3, A4, c4, rfl, f0, f1, f2, f3, f4⟩ hc; exact ⟨A0, c0, A1, c1, A2, c2, A3, c3, A4, c4, rfl, f0.keep hc, f1.keep hc, f2.keep hc, f3.keep hc, f4.keep hc⟩
  mono := by rintro w S T vs x ⟨A0, c0, A1, c1, A2, c2, A3, c3, A4, c4, rfl, f0, f1, f2, f3, f4⟩ hT; exact ⟨A0, c0, A1, c1, A2, c2, A3, c3, A4, c4, rfl, f0.mono hT, f1.mono hT, f2.mono hT, f3.mono hT, f4.mono hT⟩
  real := by rintro w S vs x ⟨A0, c0, A1, c1, A2, c2, A3, c3, A4, c4, rfl, f0, f1, f2, f3, f4⟩; exact ⟨A0, c0, A1, c1, A2, c2, A3, c3, A4, c4, rfl, (f0.real (by decide)), f1.real, f2.real, (f3.real (by decide)), f4.real⟩

def sizeWorld (x : WorldP) : Nat := sizeProcS x.procs + x.cells.length + x.rooms.length + sizeI x.signs + (x.said.length / 2)

set_option maxRecDepth 100000 in
theorem szWorld_ {X0 : List ProcP} {X1 : List Int} {X2 : List Int} {X3 : List (List Int)} {X4 : List Int} {A0 : Option Addr} {c0 : Nat} {A1 : Option Addr} {c1 : Nat} {A2 : Option Addr} {c2 : Nat} {A3 : Option Addr} {c3 : Nat} {A4 : Option Addr} {c4 : Nat} {S : Nat → Prop} {w : World} {left : Int} (f0 : Recs procShape w S X0 A0 X0.length c0) (f1 : Fl w S 1 X1 A1 X1.length c1) (f2 : Fl w S 1 X2 A2 X2.length c2) (f3 : Recs issShape w S X3 A3 X3.length c3) (f4 : Fl w S 2 X4 A4 (X4.length / 2) c4) (h0 : 0 ≤ left) (h1 : left ≤ 1048576) :
    Calls Try.prog 33 #[.agg #[.slice A0 X0.length c0, .slice A1 X1.length c1, .slice A2 X2.length c2, .slice A3 X3.length c3, .slice A4 (X4.length / 2) c4], .int .i64 left] w fun e w' => e = .returned (.int .i64 (szI (sizeProcS X0 + X1.length + X2.length + sizeI X3 + (X4.length / 2)) left)) ∧ Below w.heap.size w w' := by
  have b0 : Below w.heap.size w (w.alloc (.cells #[.slice A0 X0.length c0, .slice A1 X1.length c1, .slice A2 X2.length c2, .slice A3 X3.length c3, .slice A4 (X4.length / 2) c4] 60)) := (Below.refl _ _).alloc (Nat.le_refl _) _
  have R0 := Lib.hid (new_row w #[.slice A0 X0.length c0, .slice A1 X1.length c1, .slice A2 X2.length c2, .slice A3 X3.length c3, .slice A4 (X4.length / 2) c4] 60)
  go_enter Try.func33, Try.ntmps33
  go_wp2_with fail
  refine (procs_sz (f0.later (by decide) b0) h0 h1).mono ?_
  rintro e w1 ⟨rfl, hb⟩
  have b1 := b0.trans (hb.mono b0.size)
  have R1 := Lib.hid (rowk hb R0.out)
  clear hb b0 R0 f0
  by_cases t : ¬ ((sizeProcS X0 : Nat) : Int) ≤ left
  · have H := Lib.hid (szI_no t)
    have HT := Lib.hid (show szI (sizeProcS X0 + X1.length + X2.length + sizeI X3 + (X4.length / 2)) left = -1 from by unfold szI; split <;> omega)
    rw [H.out]
    go_wp2_with fail
    go_ret
    exact ⟨by rw [HT.out]; rfl, b1⟩
  obtain ⟨L1, E1, p1, q1⟩ : ∃ z : Int, Go.RowKit.Hid (szI (sizeProcS X0) left = z ∧ z = left - ((sizeProcS X0 : Nat) : Int)) ∧ 0 ≤ z ∧ z ≤ 1048576 := ⟨left - ((sizeProcS X0 : Nat) : Int), Lib.hid ⟨szI_yes (Decidable.not_not.1 t), rfl⟩, by omega, by omega⟩
  rw [E1.out.1]
  clear t
  have cc : w1.cell? ⟨w.heap.size, 1, none⟩ = some (.slice A1 X1.length c1) := by rw [row_cell R1.out]; rfl
  go_wp2_with fail
  clear cc
  refine (ints_sz (f1.later b1) p1 q1).mono ?_
  rintro e w2 ⟨rfl, hb⟩
  have b2 := b1.trans (hb.mono b1.size)
  have R2 := Lib.hid (rowk hb R1.out)
  clear hb b1 R1 f1
  by_cases t : ¬ ((X1.length : Nat) : Int) ≤ L1
  · have H := Lib.hid (szI_no t)
    have HT := Lib.hid (show szI (sizeProcS X0 + X1.length + X2.length + sizeI X3 + (X4.length / 2)) left = -1 from by have := E1.out.2; unfold szI; split <;> omega)
    rw [H.out]
    go_wp2_with fail
    go_ret
    exact ⟨by rw [HT.out]; rfl, b2⟩
  obtain ⟨L2, E2, p2, q2⟩ : ∃ z : Int, Go.RowKit.Hid (szI (X1.length) L1 = z ∧ z = L1 - ((X1.length : Nat) : Int)) ∧ 0 ≤ z ∧ z ≤ 1048576 := ⟨L1 - ((X1.length : Nat) : Int), Lib.hid ⟨szI_yes (Decidable.not_not.1 t), rfl⟩, by omega, by omega⟩
  rw [E2.out.1]
  clear t
  have cc : w2.cell? ⟨w.heap.size, 2, none⟩ = some (.slice A2 X2.length c2) := by rw [row_cell R2.out]; rfl
  go_wp2_with fail
  clear cc
  refine (ints_sz (f2.later b2) p2 q2).mono ?_
  rintro e w3 ⟨rfl, hb⟩
  have b3 := b2.trans (hb.mono b2.size)
  have R3 := Lib.hid (rowk hb R2.out)
  clear hb b2 R2 f2
  by_cases t : ¬ ((X2.length : Nat) : Int) ≤ L2
  · have H := Lib.hid (szI_no t)
    have HT := Lib.hid (show szI (sizeProcS X0 + X1.length + X2.length + sizeI X3 + (X4.length / 2)) left = -1 from by have := E1.out.2; have := E2.out.2; unfold szI; split <;> omega)
    rw [H.out]
    go_wp2_with fail
    go_ret
    exact ⟨by rw [HT.out]; rfl, b3⟩
  obtain ⟨L3, E3, p3, q3⟩ : ∃ z : Int, Go.RowKit.Hid (szI (X2.length) L2 = z ∧ z = L2 - ((X2.length : Nat) : Int)) ∧ 0 ≤ z ∧ z ≤ 1048576 := ⟨L2 - ((X2.length : Nat) : Int), Lib.hid ⟨szI_yes (Decidable.not_not.1 t), rfl⟩, by omega, by omega⟩
  rw [E3.out.1]
  clear t
  have cc : w3.cell? ⟨w.heap.size, 3, none⟩ = some (.slice A3 X3.length c3) := by rw [row_cell R3.out]; rfl
  go_wp2_with fail
  clear cc
  refine (iss_sz (f3.later (by decide) b3) p3 q3).mono ?_
  rintro e w4 ⟨rfl, hb⟩
  have b4 := b3.trans (hb.mono b3.size)
  have R4 := Lib.hid (rowk hb R3.out)
  clear hb b3 R3 f3
  by_cases t : ¬ ((sizeI X3 : Nat) : Int) ≤ L3
  · have H := Lib.hid (szI_no t)
    have HT := Lib.hid (show szI (sizeProcS X0 + X1.length + X2.length + sizeI X3 + (X4.length / 2)) left = -1 from by have := E1.out.2; have := E2.out.2; have := E3.out.2; unfold szI; split <;> omega)
    rw [H.out]
    go_wp2_with fail
    go_ret
    exact ⟨by rw [HT.out]; rfl, b4⟩
  obtain ⟨L4, E4, p4, q4⟩ : ∃ z : Int, Go.RowKit.Hid (szI (sizeI X3) L3 = z ∧ z = L3 - ((sizeI X3 : Nat) : Int)) ∧ 0 ≤ z ∧ z ≤ 1048576 := ⟨L3 - ((sizeI X3 : Nat) : Int), Lib.hid ⟨szI_yes (Decidable.not_not.1 t), rfl⟩, by omega, by omega⟩
  rw [E4.out.1]
  clear t
  have cc : w4.cell? ⟨w.heap.size, 4, none⟩ = some (.slice A4 (X4.length / 2) c4) := by rw [row_cell R4.out]; rfl
  go_wp2_with fail
  clear cc
  refine (says_sz (f4.later b4) p4 q4).mono ?_
  rintro e w5 ⟨rfl, hb⟩
  have b5 := b4.trans (hb.mono b4.size)
  have R5 := Lib.hid (rowk hb R4.out)
  clear hb b4 R4 f4
  by_cases t : ¬ ((X4.length / 2 : Nat) : Int) ≤ L4
  · have H := Lib.hid (szI_no t)
    have HT := Lib.hid (show szI (sizeProcS X0 + X1.length + X2.length + sizeI X3 + (X4.length / 2)) left = -1 from by have := E1.out.2; have := E2.out.2; have := E3.out.2; have := E4.out.2; unfold szI; split <;> omega)
    rw [H.out]
    go_wp2_with fail
    go_ret
    exact ⟨by rw [HT.out]; rfl, b5⟩
  obtain ⟨L5, E5, p5, q5⟩ : ∃ z : Int, Go.RowKit.Hid (szI (X4.length / 2) L4 = z ∧ z = L4 - ((X4.length / 2 : Nat) : Int)) ∧ 0 ≤ z ∧ z ≤ 1048576 := ⟨L4 - ((X4.length / 2 : Nat) : Int), Lib.hid ⟨szI_yes (Decidable.not_not.1 t), rfl⟩, by omega, by omega⟩
  rw [E5.out.1]
  clear t
  have HT := Lib.hid (show szI (sizeProcS X0 + X1.length + X2.length + sizeI X3 + (X4.length / 2)) left = L5 from by have := E1.out.2; have := E2.out.2; have := E3.out.2; have := E4.out.2; have := E5.out.2; unfold szI; split <;> omega)
  go_wp2_with fail
  go_ret
  exact ⟨by rw [HT.out]; rfl, b5⟩

theorem world_sz {x : WorldP} {vs : List Value} {S : Nat → Prop} {w : World} {left : Int} (hI : worldShape.I w S vs x) (h0 : 0 ≤ left) (h1 : left ≤ 1048576) :
    Calls Try.prog 33 #[.agg vs.toArray, .int .i64 left] w fun e w' => e = .returned (.int .i64 (szI (sizeWorld x) left)) ∧ Below w.heap.size w w' := by
  obtain ⟨A0, c0, A1, c1, A2, c2, A3, c3, A4, c4, rfl, f0, f1, f2, f3, f4⟩ := hI
  exact szWorld_ f0 f1 f2 f3 f4 h0 h1

set_option maxRecDepth 100000 in
theorem eqWorld_ {X0 : List ProcP} {X1 : List Int} {X2 : List Int} {X3 : List (List Int)} {X4 : List Int} {A0 : Option Addr} {c0 : Nat} {A1 : Option Addr} {c1 : Nat} {A2 : Option Addr} {c2 : Nat} {A3 : Option Addr} {c3 : Nat} {A4 : Option Addr} {c4 : Nat} {B0 : Option Addr} {d0 : Nat} {B1 : Option Addr} {d1 : Nat} {B2 : Option Addr} {d2 : Nat} {B3 : Option Addr} {d3 : Nat} {B4 : Option Addr} {d4 : Nat} {S T : Nat → Prop} {w : World} (f0 : Recs procShape w S X0 A0 X0.length c0) (f1 : Fl w S 1 X1 A1 X1.length c1) (f2 : Fl w S 1 X2 A2 X2.length c2) (f3 : Recs issShape w S X3 A3 X3.length c3) (f4 : Fl w S 2 X4 A4 (X4.length / 2) c4) (g0 : Recs procShape w T X0 B0 X0.length d0) (g1 : Fl w T 1 X1 B1 X1.length d1) (g2 : Fl w T 1 X2 B2 X2.length d2) (g3 : Recs issShape w T X3 B3 X3.length d3) (g4 : Fl w T 2 X4 B4 (X4.length / 2) d4) :
    Calls Try.prog 37 #[.agg #[.slice A0 X0.length c0, .slice A1 X1.length c1, .slice A2 X2.length c2, .slice A3 X3.length c3, .slice A4 (X4.length / 2) c4], .agg #[.slice B0 X0.length d0, .slice B1 X1.length d1, .slice B2 X2.length d2, .slice B3 X3.length d3, .slice B4 (X4.length / 2) d4]] w fun e w' => e = .returned (.bool true) ∧ Below w.heap.size w w' := by
  have b0 : Below w.heap.size w ((w.alloc (.cells #[.slice A0 X0.length c0, .slice A1 X1.length c1, .slice A2 X2.length c2, .slice A3 X3.length c3, .slice A4 (X4.length / 2) c4] 66)).alloc (.cells #[.slice B0 X0.length d0, .slice B1 X1.length d1, .slice B2 X2.length d2, .slice B3 X3.length d3, .slice B4 (X4.length / 2) d4] 66)) := ((Below.refl _ _).alloc (Nat.le_refl _) _).alloc (by simp) _
  have P0 := Lib.hid (row_first w #[.slice A0 X0.length c0, .slice A1 X1.length c1, .slice A2 X2.length c2, .slice A3 X3.length c3, .slice A4 (X4.length / 2) c4] #[.slice B0 X0.length d0, .slice B1 X1.length d1, .slice B2 X2.length d2, .slice B3 X3.length d3, .slice B4 (X4.length / 2) d4] 66 66)
  have Q0 := Lib.hid (row_second w #[.slice A0 X0.length c0, .slice A1 X1.length c1, .slice A2 X2.length c2, .slice A3 X3.length c3, .slice A4 (X4.length / 2) c4] #[.slice B0 X0.length d0, .slice B1 X1.length d1, .slice B2 X2.length d2, .slice B3 X3.length d3, .slice B4 (X4.length / 2) d4] 66 66)
  go_enter Try.func37, Try.ntmps37
  go_wp2_with fail
  refine (procs_eq (f0.later (by decide) b0) (g0.later (by decide) b0)).mono ?_
  rintro e w1 ⟨rfl, hb⟩
  have b1 := b0.trans (hb.mono b0.size)
  have P1 := Lib.hid (rowk hb P0.out)
  have Q1 := Lib.hid (rowk hb Q0.out)
  clear hb b0 P0 Q0 f0 g0
  have cp1 : w1.cell? ⟨w.heap.size, 1, none⟩ = some (.slice A1 X1.length c1) := by rw [row_cell P1.out]; rfl
  have cq1 : w1.cell? ⟨w.heap.size + 1, 1, none⟩ = some (.slice B1 X1.length d1) := by rw [row_cell Q1.out]; rfl
  go_wp2_with fail
  clear cp1 cq1
  refine (eqIntS (f1.later b1) (g1.later b1)).mono ?_
  rintro e w2 ⟨rfl, hb⟩
  have b2 := b1.trans (hb.mono b1.size)
  have P2 := Lib.hid (rowk hb P1.out)
  have Q2 := Lib.hid (rowk hb Q1.out)
  clear hb b1 P1 Q1 f1 g1
  have cp2 : w2.cell? ⟨w.heap.size, 2, none⟩ = some (.slice A2 X2.length c2) := by rw [row_cell P2.out]; rfl
  have cq2 : w2.cell? ⟨w.heap.size + 1, 2, none⟩ = some (.slice B2 X2.length d2) := by rw [row_cell Q2.out]; rfl
  go_wp2_with fail
  clear cp2 cq2
  refine (eqIntS (f2.later b2) (g2.later b2)).mono ?_
  rintro e w3 ⟨rfl, hb⟩
  have b3 := b2.trans (hb.mono b2.size)
  have P3 := Lib.hid (rowk hb P2.out)
  have Q3 := Lib.hid (rowk hb Q2.out)
  clear hb b2 P2 Q2 f2 g2
  have cp3 : w3.cell? ⟨w.heap.size, 3, none⟩ = some (.slice A3 X3.length c3) := by rw [row_cell P3.out]; rfl
  have cq3 : w3.cell? ⟨w.heap.size + 1, 3, none⟩ = some (.slice B3 X3.length d3) := by rw [row_cell Q3.out]; rfl
  go_wp2_with fail
  clear cp3 cq3
  refine (iss_eq (f3.later (by decide) b3) (g3.later (by decide) b3)).mono ?_
  rintro e w4 ⟨rfl, hb⟩
  have b4 := b3.trans (hb.mono b3.size)
  have P4 := Lib.hid (rowk hb P3.out)
  have Q4 := Lib.hid (rowk hb Q3.out)
  clear hb b3 P3 Q3 f3 g3
  have cp4 : w4.cell? ⟨w.heap.size, 4, none⟩ = some (.slice A4 (X4.length / 2) c4) := by rw [row_cell P4.out]; rfl
  have cq4 : w4.cell? ⟨w.heap.size + 1, 4, none⟩ = some (.slice B4 (X4.length / 2) d4) := by rw [row_cell Q4.out]; rfl
  go_wp2_with fail
  clear cp4 cq4
  refine (eqSayS (f4.later b4) (g4.later b4)).mono ?_
  rintro e w5 ⟨rfl, hb⟩
  have b5 := b4.trans (hb.mono b4.size)
  have P5 := Lib.hid (rowk hb P4.out)
  have Q5 := Lib.hid (rowk hb Q4.out)
  clear hb b4 P4 Q4 f4 g4
  go_wp2_with fail
  go_ret
  exact ⟨rfl, b5⟩

theorem world_eq {x : WorldP} {vs us : List Value} {S T : Nat → Prop} {w : World} (hI : worldShape.I w S vs x) (hJ : worldShape.I w T us x) :
    Calls Try.prog 37 #[.agg vs.toArray, .agg us.toArray] w fun e w' => e = .returned (.bool true) ∧ Below w.heap.size w w' := by
  obtain ⟨A0, c0, A1, c1, A2, c2, A3, c3, A4, c4, rfl, f0, f1, f2, f3, f4⟩ := hI
  obtain ⟨B0, d0, B1, d1, B2, d2, B3, d3, B4, d4, rfl, g0, g1, g2, g3, g4⟩ := hJ
  exact eqWorld_ f0 f1 f2 f3 f4 g0 g1 g2 g3 g4

set_option maxRecDepth 100000 in
set_option maxHeartbeats 4000000 in
theorem toWorld_ {X0 : List ProcP} {X1 : List Int} {X2 : List Int} {X3 : List (List Int)} {X4 : List Int} {A0 : Option Addr} {c0 : Nat} {A1 : Option Addr} {c1 : Nat} {A2 : Option Addr} {c2 : Nat} {A3 : Option Addr} {c3 : Nat} {A4 : Option Addr} {c4 : Nat} {S : Nat → Prop} {w : World} (f0 : Recs procShape w S X0 A0 X0.length c0) (f1 : Fl w S 1 X1 A1 X1.length c1) (f2 : Fl w S 1 X2 A2 X2.length c2) (f3 : Recs issShape w S X3 A3 X3.length c3) (f4 : Fl w S 2 X4 A4 (X4.length / 2) c4) (hS : sizeProcS X0 + X1.length + X2.length + sizeI X3 + (X4.length / 2) ≤ 1048576) :
    Calls Try.prog 35 #[.agg #[.slice A0 X0.length c0, .slice A1 X1.length c1, .slice A2 X2.length c2, .slice A3 X3.length c3, .slice A4 (X4.length / 2) c4]] w fun e w' => ∃ vs : List Value, e = .returned (.agg vs.toArray) ∧ worldShape.I w' (Born w w') vs ⟨X0, X1, X2, X3, X4⟩ ∧ Below w.heap.size w w' := by
  have b0 : Below w.heap.size w (((w.alloc (.cells #[.slice A0 X0.length c0, .slice A1 X1.length c1, .slice A2 X2.length c2, .slice A3 X3.length c3, .slice A4 (X4.length / 2) c4] 60)).alloc (.cells #[.slice none 0 0, .slice none 0 0, .slice none 0 0, .slice none 0 0, .slice none 0 0] 66)).alloc (.cells #[.slice none 0 0, .slice none 0 0, .slice none 0 0, .slice none 0 0, .slice none 0 0] 66)) := (((Below.refl _ _).alloc (Nat.le_refl _) _).alloc (by simp) _).alloc (by simp; omega) _
  have P0 := Lib.hid (row3_first w #[.slice A0 X0.length c0, .slice A1 X1.length c1, .slice A2 X2.length c2, .slice A3 X3.length c3, .slice A4 (X4.length / 2) c4] #[.slice none 0 0, .slice none 0 0, .slice none 0 0, .slice none 0 0, .slice none 0 0] #[.slice none 0 0, .slice none 0 0, .slice none 0 0, .slice none 0 0, .slice none 0 0] 60 66 66)
  have Q0 := Lib.hid (row3_second w #[.slice A0 X0.length c0, .slice A1 X1.length c1, .slice A2 X2.length c2, .slice A3 X3.length c3, .slice A4 (X4.length / 2) c4] #[.slice none 0 0, .slice none 0 0, .slice none 0 0, .slice none 0 0, .slice none 0 0] #[.slice none 0 0, .slice none 0 0, .slice none 0 0, .slice none 0 0, .slice none 0 0] 60 66 66)
  have O0 := Lib.hid (row3_third w #[.slice A0 X0.length c0, .slice A1 X1.length c1, .slice A2 X2.length c2, .slice A3 X3.length c3, .slice A4 (X4.length / 2) c4] #[.slice none 0 0, .slice none 0 0, .slice none 0 0, .slice none 0 0, .slice none 0 0] #[.slice none 0 0, .slice none 0 0, .slice none 0 0, .slice none 0 0, .slice none 0 0] 60 66 66)
  have z0 : w.heap.size + 3 ≤ (((w.alloc (.cells #[.slice A0 X0.length c0, .slice A1 X1.length c1, .slice A2 X2.length c2, .slice A3 X3.length c3, .slice A4 (X4.length / 2) c4] 60)).alloc (.cells #[.slice none 0 0, .slice none 0 0, .slice none 0 0, .slice none 0 0, .slice none 0 0] 66)).alloc (.cells #[.slice none 0 0, .slice none 0 0, .slice none 0 0, .slice none 0 0, .slice none 0 0] 66)).heap.size := by simp
  go_enter Try.func35, Try.ntmps35
  go_wp2_with fail
  refine (procs_to (f0.later (by decide) b0) (by omega)).mono ?_
  rintro e w1 ⟨B0, d0, rfl, g0, hb⟩
  have P1 := Lib.hid (rowk hb P0.out)
  have Q1 := Lib.hid (rowk hb Q0.out)
  have O1 := Lib.hid (rowk hb O0.out)
  have hz := hb.size
  replace g0 := g0.mono (T := fun b => w.heap.size + 3 ≤ b ∧ b < w1.heap.size) fun b hp => ⟨by have := hp.1; omega, hp.2⟩
  have b1 := b0.trans (hb.mono b0.size)
  have z1 : w.heap.size + 3 ≤ w1.heap.size := Nat.le_trans z0 hz
  clear hb hz b0 P0 Q0 O0 z0 f0
  have cp1 : w1.cell? ⟨w.heap.size, 1, none⟩ = some (.slice A1 X1.length c1) := by rw [row_cell P1.out]; rfl
  have co0 : w1.cell? ⟨w.heap.size + 1 + 1, 0, none⟩ = some (.slice none 0 0) := by rw [row_cell O1.out]; rfl
  have cf0 := row_frozen O1.out 0
  go_wp2_with fail
  clear cp1 co0 cf0
  replace O1 := Lib.hid (show (w1.setCell ⟨w.heap.size + 1 + 1, 0, none⟩ (.slice B0 X0.length d0)).heap[w.heap.size + 1 + 1]? = some (.cells #[.slice B0 X0.length d0, .slice none 0 0, .slice none 0 0, .slice none 0 0, .slice none 0 0] 66 (0, 0)) from by rw [row_set O1.out]; rfl)
  have HW : (w1.setCell ⟨w.heap.size + 1 + 1, 0, none⟩ (.slice B0 X0.length d0)).heap.size = w1.heap.size := by simp only [size_set]
  replace P1 := Lib.hid ((row_other (i := 0) (show w.heap.size ≠ w.heap.size + 1 + 1 by omega) (.slice B0 X0.length d0)).trans (P1.out))
  replace Q1 := Lib.hid ((row_other (i := 0) (show w.heap.size + 1 ≠ w.heap.size + 1 + 1 by omega) (.slice B0 X0.length d0)).trans (Q1.out))
  replace b1 := (b1.setCell (p := ⟨w.heap.size + 1 + 1, 0, none⟩) (by show _ ≤ w.heap.size + 1 + 1; omega) (.slice B0 X0.length d0))
  replace g0 := (g0.keep (keepO (j := 0) (.slice B0 X0.length d0)))
  rw [← HW] at g0 z1
  clear HW
  generalize HWW : (w1.setCell ⟨w.heap.size + 1 + 1, 0, none⟩ (.slice B0 X0.length d0)) = W1 at *
  clear HWW
  refine (ints_to (f1.later b1) (by omega)).mono ?_
  rintro e w2 ⟨B1, d1, rfl, g1, hb⟩
  have P2 := Lib.hid (rowk hb P1.out)
  have Q2 := Lib.hid (rowk hb Q1.out)
  have O2 := Lib.hid (rowk hb O1.out)
  have hz := hb.size
  replace g0 := (g0.keep (w' := w2) fun p hp => hb.cell hp.2).mono (T := fun b => w.heap.size + 3 ≤ b ∧ b < w2.heap.size) fun b hp => ⟨hp.1, by have := hp.2; omega⟩
  replace g1 := g1.mono (T := fun b => w.heap.size + 3 ≤ b ∧ b < w2.heap.size) fun b hp => ⟨by have := hp.1; omega, hp.2⟩
  have b2 := b1.trans (hb.mono b1.size)
  have z2 : w.heap.size + 3 ≤ w2.heap.size := Nat.le_trans z1 hz
  clear hb hz b1 P1 Q1 O1 z1 f1
  have cp2 : w2.cell? ⟨w.heap.size, 2, none⟩ = some (.slice A2 X2.length c2) := by rw [row_cell P2.out]; rfl
  have co1 : w2.cell? ⟨w.heap.size + 1 + 1, 1, none⟩ = some (.slice none 0 0) := by rw [row_cell O2.out]; rfl
  have cf1 := row_frozen O2.out 1
  go_wp2_with fail
  clear cp2 co1 cf1
  replace O2 := Lib.hid (show (w2.setCell ⟨w.heap.size + 1 + 1, 1, none⟩ (.slice B1 X1.length d1)).heap[w.heap.size + 1 + 1]? = some (.cells #[.slice B0 X0.length d0, .slice B1 X1.length d1, .slice none 0 0, .slice none 0 0, .slice none 0 0] 66 (0, 0)) from by rw [row_set O2.out]; rfl)
  have HW : (w2.setCell ⟨w.heap.size + 1 + 1, 1, none⟩ (.slice B1 X1.length d1)).heap.size = w2.heap.size := by simp only [size_set]
  replace P2 := Lib.hid ((row_other (i := 1) (show w.heap.size ≠ w.heap.size + 1 + 1 by omega) (.slice B1 X1.length d1)).trans (P2.out))
  replace Q2 := Lib.hid ((row_other (i := 1) (show w.heap.size + 1 ≠ w.heap.size + 1 + 1 by omega) (.slice B1 X1.length d1)).trans (Q2.out))
  replace b2 := (b2.setCell (p := ⟨w.heap.size + 1 + 1, 1, none⟩) (by show _ ≤ w.heap.size + 1 + 1; omega) (.slice B1 X1.length d1))
  replace g0 := (g0.keep (keepO (j := 1) (.slice B1 X1.length d1)))
  replace g1 := (g1.keep (keepO (j := 1) (.slice B1 X1.length d1)))
  rw [← HW] at g0 g1 z2
  clear HW
  generalize HWW : (w2.setCell ⟨w.heap.size + 1 + 1, 1, none⟩ (.slice B1 X1.length d1)) = W2 at *
  clear HWW
  refine (ints_to (f2.later b2) (by omega)).mono ?_
  rintro e w3 ⟨B2, d2, rfl, g2, hb⟩
  have P3 := Lib.hid (rowk hb P2.out)
  have Q3 := Lib.hid (rowk hb Q2.out)
  have O3 := Lib.hid (rowk hb O2.out)
  have hz := hb.size
  replace g0 := (g0.keep (w' := w3) fun p hp => hb.cell hp.2).mono (T := fun b => w.heap.size + 3 ≤ b ∧ b < w3.heap.size) fun b hp => ⟨hp.1, by have := hp.2; omega⟩
  replace g1 := (g1.keep (w' := w3) fun p hp => hb.cell hp.2).mono (T := fun b => w.heap.size + 3 ≤ b ∧ b < w3.heap.size) fun b hp => ⟨hp.1, by have := hp.2; omega⟩
  replace g2 := g2.mono (T := fun b => w.heap.size + 3 ≤ b ∧ b < w3.heap.size) fun b hp => ⟨by have := hp.1; omega, hp.2⟩
  have b3 := b2.trans (hb.mono b2.size)
  have z3 : w.heap.size + 3 ≤ w3.heap.size := Nat.le_trans z2 hz
  clear hb hz b2 P2 Q2 O2 z2 f2
  have cp3 : w3.cell? ⟨w.heap.size, 3, none⟩ = some (.slice A3 X3.length c3) := by rw [row_cell P3.out]; rfl
  have co2 : w3.cell? ⟨w.heap.size + 1 + 1, 2, none⟩ = some (.slice none 0 0) := by rw [row_cell O3.out]; rfl
  have cf2 := row_frozen O3.out 2
  go_wp2_with fail
  clear cp3 co2 cf2
  replace O3 := Lib.hid (show (w3.setCell ⟨w.heap.size + 1 + 1, 2, none⟩ (.slice B2 X2.length d2)).heap[w.heap.size + 1 + 1]? = some (.cells #[.slice B0 X0.length d0, .slice B1 X1.length d1, .slice B2 X2.length d2, .slice none 0 0, .slice none 0 0] 66 (0, 0)) from by rw [row_set O3.out]; rfl)
  have HW : (w3.setCell ⟨w.heap.size + 1 + 1, 2, none⟩ (.slice B2 X2.length d2)).heap.size = w3.heap.size := by simp only [size_set]
  replace P3 := Lib.hid ((row_other (i := 2) (show w.heap.size ≠ w.heap.size + 1 + 1 by omega) (.slice B2 X2.length d2)).trans (P3.out))
  replace Q3 := Lib.hid ((row_other (i := 2) (show w.heap.size + 1 ≠ w.heap.size + 1 + 1 by omega) (.slice B2 X2.length d2)).trans (Q3.out))
  replace b3 := (b3.setCell (p := ⟨w.heap.size + 1 + 1, 2, none⟩) (by show _ ≤ w.heap.size + 1 + 1; omega) (.slice B2 X2.length d2))
  replace g0 := (g0.keep (keepO (j := 2) (.slice B2 X2.length d2)))
  replace g1 := (g1.keep (keepO (j := 2) (.slice B2 X2.length d2)))
  replace g2 := (g2.keep (keepO (j := 2) (.slice B2 X2.length d2)))
  rw [← HW] at g0 g1 g2 z3
  clear HW
  generalize HWW : (w3.setCell ⟨w.heap.size + 1 + 1, 2, none⟩ (.slice B2 X2.length d2)) = W3 at *
  clear HWW
  refine (iss_to (f3.later (by decide) b3) (by omega)).mono ?_
  rintro e w4 ⟨B3, d3, rfl, g3, hb⟩
  have P4 := Lib.hid (rowk hb P3.out)
  have Q4 := Lib.hid (rowk hb Q3.out)
  have O4 := Lib.hid (rowk hb O3.out)
  have hz := hb.size
  replace g0 := (g0.keep (w' := w4) fun p hp => hb.cell hp.2).mono (T := fun b => w.heap.size + 3 ≤ b ∧ b < w4.heap.size) fun b hp => ⟨hp.1, by have := hp.2; omega⟩
  replace g1 := (g1.keep (w' := w4) fun p hp => hb.cell hp.2).mono (T := fun b => w.heap.size + 3 ≤ b ∧ b < w4.heap.size) fun b hp => ⟨hp.1, by have := hp.2; omega⟩
  replace g2 := (g2.keep (w' := w4) fun p hp => hb.cell hp.2).mono (T := fun b => w.heap.size + 3 ≤ b ∧ b < w4.heap.size) fun b hp => ⟨hp.1, by have := hp.2; omega⟩
  replace g3 := g3.mono (T := fun b => w.heap.size + 3 ≤ b ∧ b < w4.heap.size) fun b hp => ⟨by have := hp.1; omega, hp.2⟩
  have b4 := b3.trans (hb.mono b3.size)
  have z4 : w.heap.size + 3 ≤ w4.heap.size := Nat.le_trans z3 hz
  clear hb hz b3 P3 Q3 O3 z3 f3
  have cp4 : w4.cell? ⟨w.heap.size, 4, none⟩ = some (.slice A4 (X4.length / 2) c4) := by rw [row_cell P4.out]; rfl
  have co3 : w4.cell? ⟨w.heap.size + 1 + 1, 3, none⟩ = some (.slice none 0 0) := by rw [row_cell O4.out]; rfl
  have cf3 := row_frozen O4.out 3
  go_wp2_with fail
  clear cp4 co3 cf3
  replace O4 := Lib.hid (show (w4.setCell ⟨w.heap.size + 1 + 1, 3, none⟩ (.slice B3 X3.length d3)).heap[w.heap.size + 1 + 1]? = some (.cells #[.slice B0 X0.length d0, .slice B1 X1.length d1, .slice B2 X2.length d2, .slice B3 X3.length d3, .slice none 0 0] 66 (0, 0)) from by rw [row_set O4.out]; rfl)
  have HW : (w4.setCell ⟨w.heap.size + 1 + 1, 3, none⟩ (.slice B3 X3.length d3)).heap.size = w4.heap.size := by simp only [size_set]
  replace P4 := Lib.hid ((row_other (i := 3) (show w.heap.size ≠ w.heap.size + 1 + 1 by omega) (.slice B3 X3.length d3)).trans (P4.out))
  replace Q4 := Lib.hid ((row_other (i := 3) (show w.heap.size + 1 ≠ w.heap.size + 1 + 1 by omega) (.slice B3 X3.length d3)).trans (Q4.out))
  replace b4 := (b4.setCell (p := ⟨w.heap.size + 1 + 1, 3, none⟩) (by show _ ≤ w.heap.size + 1 + 1; omega) (.slice B3 X3.length d3))
  replace g0 := (g0.keep (keepO (j := 3) (.slice B3 X3.length d3)))
  replace g1 := (g1.keep (keepO (j := 3) (.slice B3 X3.length d3)))
  replace g2 := (g2.keep (keepO (j := 3) (.slice B3 X3.length d3)))
  replace g3 := (g3.keep (keepO (j := 3) (.slice B3 X3.length d3)))
  rw [← HW] at g0 g1 g2 g3 z4
  clear HW
  generalize HWW : (w4.setCell ⟨w.heap.size + 1 + 1, 3, none⟩ (.slice B3 X3.length d3)) = W4 at *
  clear HWW
  refine (says_to (f4.later b4) (by omega)).mono ?_
  rintro e w5 ⟨B4, d4, rfl, g4, hb⟩
  have P5 := Lib.hid (rowk hb P4.out)
  have Q5 := Lib.hid (rowk hb Q4.out)
  have O5 := Lib.hid (rowk hb O4.out)
  have hz := hb.size
  replace g0 := (g0.keep (w' := w5) fun p hp => hb.cell hp.2).mono (T := fun b => w.heap.size + 3 ≤ b ∧ b < w5.heap.size) fun b hp => ⟨hp.1, by have := hp.2; omega⟩
  replace g1 := (g1.keep (w' := w5) fun p hp => hb.cell hp.2).mono (T := fun b => w.heap.size + 3 ≤ b ∧ b < w5.heap.size) fun b hp => ⟨hp.1, by have := hp.2; omega⟩
  replace g2 := (g2.keep (w' := w5) fun p hp => hb.cell hp.2).mono (T := fun b => w.heap.size + 3 ≤ b ∧ b < w5.heap.size) fun b hp => ⟨hp.1, by have := hp.2; omega⟩
  replace g3 := (g3.keep (w' := w5) fun p hp => hb.cell hp.2).mono (T := fun b => w.heap.size + 3 ≤ b ∧ b < w5.heap.size) fun b hp => ⟨hp.1, by have := hp.2; omega⟩
  replace g4 := g4.mono (T := fun b => w.heap.size + 3 ≤ b ∧ b < w5.heap.size) fun b hp => ⟨by have := hp.1; omega, hp.2⟩
  have b5 := b4.trans (hb.mono b4.size)
  have z5 : w.heap.size + 3 ≤ w5.heap.size := Nat.le_trans z4 hz
  clear hb hz b4 P4 Q4 O4 z4 f4
  have co4 : w5.cell? ⟨w.heap.size + 1 + 1, 4, none⟩ = some (.slice none 0 0) := by rw [row_cell O5.out]; rfl
  have cf4 := row_frozen O5.out 4
  have co0 : w5.cell? ⟨w.heap.size + 1 + 1, 0, none⟩ = some (.slice B0 X0.length d0) := by rw [row_cell O5.out]; rfl
  have ct0 : w5.cell? ⟨w.heap.size + 1, 0, none⟩ = some (.slice none 0 0) := by rw [row_cell Q5.out]; rfl
  have ch0 := row_frozen Q5.out 0
  have co1 : w5.cell? ⟨w.heap.size + 1 + 1, 1, none⟩ = some (.slice B1 X1.length d1) := by rw [row_cell O5.out]; rfl
  have ct1 : w5.cell? ⟨w.heap.size + 1, 1, none⟩ = some (.slice none 0 0) := by rw [row_cell Q5.out]; rfl
  have ch1 := row_frozen Q5.out 1
  have co2 : w5.cell? ⟨w.heap.size + 1 + 1, 2, none⟩ = some (.slice B2 X2.length d2) := by rw [row_cell O5.out]; rfl
  have ct2 : w5.cell? ⟨w.heap.size + 1, 2, none⟩ = some (.slice none 0 0) := by rw [row_cell Q5.out]; rfl
  have ch2 := row_frozen Q5.out 2
  have co3 : w5.cell? ⟨w.heap.size + 1 + 1, 3, none⟩ = some (.slice B3 X3.length d3) := by rw [row_cell O5.out]; rfl
  have ct3 : w5.cell? ⟨w.heap.size + 1, 3, none⟩ = some (.slice none 0 0) := by rw [row_cell Q5.out]; rfl
  have ch3 := row_frozen Q5.out 3
  have ct4 : w5.cell? ⟨w.heap.size + 1, 4, none⟩ = some (.slice none 0 0) := by rw [row_cell Q5.out]; rfl
  have ch4 := row_frozen Q5.out 4
  go_wp2_with fail
  refine bodyPost_ret (v := .agg #[.slice B0 X0.length d0, .slice B1 X1.length d1, .slice B2 X2.length d2, .slice B3 X3.length d3, .slice B4 (X4.length / 2) d4]) (by simp [results, Try.results35, go_sem, *]) rfl ⟨[.slice B0 X0.length d0, .slice B1 X1.length d1, .slice B2 X2.length d2, .slice B3 X3.length d3, .slice B4 (X4.length / 2) d4], rfl, ?_, ?_⟩
  · exact ⟨B0, d0, B1, d1, B2, d2, B3, d3, B4, d4, rfl, ((((((g0.keep (keepO (j := 4) (.slice B4 (X4.length / 2) d4))).keep (keepR (j := 0) (.slice B0 X0.length d0))).keep (keepR (j := 1) (.slice B1 X1.length d1))).keep (keepR (j := 2) (.slice B2 X2.length d2))).keep (keepR (j := 3) (.slice B3 X3.length d3))).keep (keepR (j := 4) (.slice B4 (X4.length / 2) d4))).mono (fun b hb => ⟨by have := hb.1; omega, by simp only [size_set]; exact hb.2⟩), ((((((g1.keep (keepO (j := 4) (.slice B4 (X4.length / 2) d4))).keep (keepR (j := 0) (.slice B0 X0.length d0))).keep (keepR (j := 1) (.slice B1 X1.length d1))).keep (keepR (j := 2) (.slice B2 X2.length d2))).keep (keepR (j := 3) (.slice B3 X3.length d3))).keep (keepR (j := 4) (.slice B4 (X4.length / 2) d4))).mono (fun b hb => ⟨by have := hb.1; omega, by simp only [size_set]; exact hb.2⟩), ((((((g2.keep (keepO (j := 4) (.slice B4 (X4.length / 2) d4))).keep (keepR (j := 0) (.slice B0 X0.length d0))).keep (keepR (j := 1) (.slice B1 X1.length d1))).keep (keepR (j := 2) (.slice B2 X2.length d2))).keep (keepR (j := 3) (.slice B3 X3.length d3))).keep (keepR (j := 4) (.slice B4 (X4.length / 2) d4))).mono (fun b hb => ⟨by have := hb.1; omega, by simp only [size_set]; exact hb.2⟩), ((((((g3.keep (keepO (j := 4) (.slice B4 (X4.length / 2) d4))).keep (keepR (j := 0) (.slice B0 X0.length d0))).keep (keepR (j := 1) (.slice B1 X1.length d1))).keep (keepR (j := 2) (.slice B2 X2.length d2))).keep (keepR (j := 3) (.slice B3 X3.length d3))).keep (keepR (j := 4) (.slice B4 (X4.length / 2) d4))).mono (fun b hb => ⟨by have := hb.1; omega, by simp only [size_set]; exact hb.2⟩), ((((((g4.keep (keepO (j := 4) (.slice B4 (X4.length / 2) d4))).keep (keepR (j := 0) (.slice B0 X0.length d0))).keep (keepR (j := 1) (.slice B1 X1.length d1))).keep (keepR (j := 2) (.slice B2 X2.length d2))).keep (keepR (j := 3) (.slice B3 X3.length d3))).keep (keepR (j := 4) (.slice B4 (X4.length / 2) d4))).mono (fun b hb => ⟨by have := hb.1; omega, by simp only [size_set]; exact hb.2⟩)⟩
  · exact ((((((b5.setCell (p := ⟨w.heap.size + 1 + 1, 4, none⟩) (by show _ ≤ w.heap.size + 1 + 1; omega) (.slice B4 (X4.length / 2) d4)).setCell (p := ⟨w.heap.size + 1, 0, none⟩) (by show _ ≤ w.heap.size + 1; omega) (.slice B0 X0.length d0)).setCell (p := ⟨w.heap.size + 1, 1, none⟩) (by show _ ≤ w.heap.size + 1; omega) (.slice B1 X1.length d1)).setCell (p := ⟨w.heap.size + 1, 2, none⟩) (by show _ ≤ w.heap.size + 1; omega) (.slice B2 X2.length d2)).setCell (p := ⟨w.heap.size + 1, 3, none⟩) (by show _ ≤ w.heap.size + 1; omega) (.slice B3 X3.length d3)).setCell (p := ⟨w.heap.size + 1, 4, none⟩) (by show _ ≤ w.heap.size + 1; omega) (.slice B4 (X4.length / 2) d4))

theorem world_to {x : WorldP} {vs : List Value} {S : Nat → Prop} {w : World} (hI : worldShape.I w S vs x) (hS : sizeWorld x ≤ 1048576) :
    Calls Try.prog 35 #[.agg vs.toArray] w fun e w' => ∃ us : List Value, e = .returned (.agg us.toArray) ∧ worldShape.I w' (Born w w') us x ∧ Below w.heap.size w w' := by
  obtain ⟨A0, c0, A1, c1, A2, c2, A3, c3, A4, c4, rfl, f0, f1, f2, f3, f4⟩ := hI
  exact toWorld_ f0 f1 f2 f3 f4 hS
end Go.Proofs.Ythamehcfenncaaa
