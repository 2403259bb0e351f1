/- Proc: its shape, and the laws' count, copy and comparison of it (written by tools/gen_rec.py). -/
import Derived.Test.YthamehcfenncaaaKindSt
import Derived.Test.YthamehcfenncaaaWData
namespace Go.Proofs.Ythamehcfenncaaa
open Go.ChangeShapes Go.WideShapes Go.ChangeAt Go.RowKit

def procShape : Shape ProcP where
  z := 5
  I w S vs x := ∃ (A0 : Option Addr) (c0 : Nat) (A1 : Option Addr) (c1 : Nat), vs = [.slice A0 x.regs.length c0, .slice A1 x.todo.len c1, .int .i64 x.mode, .int .i64 x.on, .int .i64 x.room] ∧ Fl w S 1 x.regs A0 x.regs.length c0 ∧ SlP w S x.todo A1 x.todo.len c1
  len := by rintro w S vs x ⟨_, _, _, _, rfl, _, _⟩; rfl
  keep := by rintro w w' S vs x ⟨A0, c0, A1, c1, rfl, f0, f1⟩ hc; exact ⟨A0, c0, A1, c1, rfl, f0.keep hc, f1.keep hc⟩
  mono := by rintro w S T vs x ⟨A0, c0, A1, c1, rfl, f0, f1⟩ hT; exact ⟨A0, c0, A1, c1, rfl, f0.mono hT, f1.mono hT⟩
  real := by rintro w S vs x ⟨A0, c0, A1, c1, rfl, f0, f1⟩; exact ⟨A0, c0, A1, c1, rfl, f0.real, f1.real⟩

def sizeProc (x : ProcP) : Nat := x.regs.length + x.todo.size

set_option maxRecDepth 100000 in
theorem szProc_ {X0 : List Int} {X1 : SL} {X2 : Int} {X3 : Int} {X4 : Int} {A0 : Option Addr} {c0 : Nat} {A1 : Option Addr} {c1 : Nat} {S : Nat → Prop} {w : World} {left : Int} (f0 : Fl w S 1 X0 A0 X0.length c0) (f1 : SlP w S X1 A1 X1.len c1) (h0 : 0 ≤ left) (h1 : left ≤ 1048576) :
    Calls Try.prog 79 #[.agg #[.slice A0 X0.length c0, .slice A1 X1.len c1, .int .i64 X2, .int .i64 X3, .int .i64 X4], .int .i64 left] w fun e w' => e = .returned (.int .i64 (szI (X0.length + X1.size) left)) ∧ Below w.heap.size w w' := by
  have b0 : Below w.heap.size w (w.alloc (.cells #[.slice A0 X0.length c0, .slice A1 X1.len c1, .int .i64 X2, .int .i64 X3, .int .i64 X4] 124)) := (Below.refl _ _).alloc (Nat.le_refl _) _
  have R0 := Lib.hid (new_row w #[.slice A0 X0.length c0, .slice A1 X1.len c1, .int .i64 X2, .int .i64 X3, .int .i64 X4] 124)
  go_enter Try.func79, Try.ntmps79
  go_wp2_with fail
  refine (ints_sz (f0.later b0) h0 h1).mono ?_
  rintro e w1 ⟨rfl, hb⟩
  have b1 := b0.trans (hb.mono b0.size)
  have R1 := Lib.hid (rowk hb R0.out)
  clear hb b0 R0 f0
  by_cases t : ¬ ((X0.length : Nat) : Int) ≤ left
  · have H := Lib.hid (szI_no t)
    have HT := Lib.hid (show szI (X0.length + X1.size) left = -1 from by unfold szI; split <;> omega)
    rw [H.out]
    go_wp2_with fail
    go_ret
    exact ⟨by rw [HT.out]; rfl, b1⟩
  obtain ⟨L1, E1, p1, q1⟩ : ∃ z : Int, Go.RowKit.Hid (szI (X0.length) left = z ∧ z = left - ((X0.length : Nat) : Int)) ∧ 0 ≤ z ∧ z ≤ 1048576 := ⟨left - ((X0.length : Nat) : Int), Lib.hid ⟨szI_yes (Decidable.not_not.1 t), rfl⟩, by omega, by omega⟩
  rw [E1.out.1]
  clear t
  have cc : w1.cell? ⟨w.heap.size, 1, none⟩ = some (.slice A1 X1.len c1) := by rw [row_cell R1.out]; rfl
  go_wp2_with fail
  clear cc
  refine (stmts_sz (f1.later b1) p1 q1).mono ?_
  rintro e w2 ⟨rfl, hb⟩
  have b2 := b1.trans (hb.mono b1.size)
  have R2 := Lib.hid (rowk hb R1.out)
  clear hb b1 R1 f1
  by_cases t : ¬ ((X1.size : Nat) : Int) ≤ L1
  · have H := Lib.hid (szI_no t)
    have HT := Lib.hid (show szI (X0.length + X1.size) left = -1 from by have := E1.out.2; unfold szI; split <;> omega)
    rw [H.out]
    go_wp2_with fail
    go_ret
    exact ⟨by rw [HT.out]; rfl, b2⟩
  obtain ⟨L2, E2, p2, q2⟩ : ∃ z : Int, Go.RowKit.Hid (szI (X1.size) L1 = z ∧ z = L1 - ((X1.size : Nat) : Int)) ∧ 0 ≤ z ∧ z ≤ 1048576 := ⟨L1 - ((X1.size : Nat) : Int), Lib.hid ⟨szI_yes (Decidable.not_not.1 t), rfl⟩, by omega, by omega⟩
  rw [E2.out.1]
  clear t
  have HT := Lib.hid (show szI (X0.length + X1.size) left = L2 from by have := E1.out.2; have := E2.out.2; unfold szI; split <;> omega)
  go_wp2_with fail
  go_ret
  exact ⟨by rw [HT.out]; rfl, b2⟩

theorem proc_sz {x : ProcP} {vs : List Value} {S : Nat → Prop} {w : World} {left : Int} (hI : procShape.I w S vs x) (h0 : 0 ≤ left) (h1 : left ≤ 1048576) :
    Calls Try.prog 79 #[.agg vs.toArray, .int .i64 left] w fun e w' => e = .returned (.int .i64 (szI (sizeProc x) left)) ∧ Below w.heap.size w w' := by
  obtain ⟨A0, c0, A1, c1, rfl, f0, f1⟩ := hI
  exact szProc_ f0 f1 h0 h1

set_option maxRecDepth 100000 in
theorem eqProc_ {X0 : List Int} {X1 : SL} {X2 : Int} {X3 : Int} {X4 : Int} {A0 : Option Addr} {c0 : Nat} {A1 : Option Addr} {c1 : Nat} {B0 : Option Addr} {d0 : Nat} {B1 : Option Addr} {d1 : Nat} {S T : Nat → Prop} {w : World} (f0 : Fl w S 1 X0 A0 X0.length c0) (f1 : SlP w S X1 A1 X1.len c1) (g0 : Fl w T 1 X0 B0 X0.length d0) (g1 : SlP w T X1 B1 X1.len d1) :
    Calls Try.prog 82 #[.agg #[.slice A0 X0.length c0, .slice A1 X1.len c1, .int .i64 X2, .int .i64 X3, .int .i64 X4], .agg #[.slice B0 X0.length d0, .slice B1 X1.len d1, .int .i64 X2, .int .i64 X3, .int .i64 X4]] w fun e w' => e = .returned (.bool true) ∧ Below w.heap.size w w' := by
  have b0 : Below w.heap.size w ((w.alloc (.cells #[.slice A0 X0.length c0, .slice A1 X1.len c1, .int .i64 X2, .int .i64 X3, .int .i64 X4] 128)).alloc (.cells #[.slice B0 X0.length d0, .slice B1 X1.len d1, .int .i64 X2, .int .i64 X3, .int .i64 X4] 128)) := ((Below.refl _ _).alloc (Nat.le_refl _) _).alloc (by simp) _
  have P0 := Lib.hid (row_first w #[.slice A0 X0.length c0, .slice A1 X1.len c1, .int .i64 X2, .int .i64 X3, .int .i64 X4] #[.slice B0 X0.length d0, .slice B1 X1.len d1, .int .i64 X2, .int .i64 X3, .int .i64 X4] 128 128)
  have Q0 := Lib.hid (row_second w #[.slice A0 X0.length c0, .slice A1 X1.len c1, .int .i64 X2, .int .i64 X3, .int .i64 X4] #[.slice B0 X0.length d0, .slice B1 X1.len d1, .int .i64 X2, .int .i64 X3, .int .i64 X4] 128 128)
  go_enter Try.func82, Try.ntmps82
  go_wp2_with fail
  refine (eqIntS (f0.later b0) (g0.later b0)).mono ?_
  rintro e w1 ⟨rfl, hb⟩
  have b1 := b0.trans (hb.mono b0.size)
  have P1 := Lib.hid (rowk hb P0.out)
  have Q1 := Lib.hid (rowk hb Q0.out)
  clear hb b0 P0 Q0 f0 g0
  have cp1 : w1.cell? ⟨w.heap.size, 1, none⟩ = some (.slice A1 X1.len c1) := by rw [row_cell P1.out]; rfl
  have cq1 : w1.cell? ⟨w.heap.size + 1, 1, none⟩ = some (.slice B1 X1.len d1) := by rw [row_cell Q1.out]; rfl
  go_wp2_with fail
  clear cp1 cq1
  refine (stmts_eq (f1.later b1) (g1.later b1)).mono ?_
  rintro e w2 ⟨rfl, hb⟩
  have b2 := b1.trans (hb.mono b1.size)
  have P2 := Lib.hid (rowk hb P1.out)
  have Q2 := Lib.hid (rowk hb Q1.out)
  clear hb b1 P1 Q1 f1 g1
  have cp2 : w2.cell? ⟨w.heap.size, 2, none⟩ = some (.int .i64 X2) := by rw [row_cell P2.out]; rfl
  have cq2 : w2.cell? ⟨w.heap.size + 1, 2, none⟩ = some (.int .i64 X2) := by rw [row_cell Q2.out]; rfl
  have cp3 : w2.cell? ⟨w.heap.size, 3, none⟩ = some (.int .i64 X3) := by rw [row_cell P2.out]; rfl
  have cq3 : w2.cell? ⟨w.heap.size + 1, 3, none⟩ = some (.int .i64 X3) := by rw [row_cell Q2.out]; rfl
  have cp4 : w2.cell? ⟨w.heap.size, 4, none⟩ = some (.int .i64 X4) := by rw [row_cell P2.out]; rfl
  have cq4 : w2.cell? ⟨w.heap.size + 1, 4, none⟩ = some (.int .i64 X4) := by rw [row_cell Q2.out]; rfl
  go_wp2_with fail
  go_ret
  exact ⟨rfl, b2⟩

theorem proc_eq {x : ProcP} {vs us : List Value} {S T : Nat → Prop} {w : World} (hI : procShape.I w S vs x) (hJ : procShape.I w T us x) :
    Calls Try.prog 82 #[.agg vs.toArray, .agg us.toArray] w fun e w' => e = .returned (.bool true) ∧ Below w.heap.size w w' := by
  obtain ⟨A0, c0, A1, c1, rfl, f0, f1⟩ := hI
  obtain ⟨B0, d0, B1, d1, rfl, g0, g1⟩ := hJ
  exact eqProc_ f0 f1 g0 g1

set_option maxRecDepth 100000 in
set_option maxHeartbeats 4000000 in
theorem toProc_ {X0 : List Int} {X1 : SL} {X2 : Int} {X3 : Int} {X4 : Int} {A0 : Option Addr} {c0 : Nat} {A1 : Option Addr} {c1 : Nat} {S : Nat → Prop} {w : World} (f0 : Fl w S 1 X0 A0 X0.length c0) (f1 : SlP w S X1 A1 X1.len c1) (hS : X0.length + X1.size ≤ 1048576) :
    Calls Try.prog 80 #[.agg #[.slice A0 X0.length c0, .slice A1 X1.len c1, .int .i64 X2, .int .i64 X3, .int .i64 X4]] w fun e w' => ∃ vs : List Value, e = .returned (.agg vs.toArray) ∧ procShape.I w' (Born w w') vs ⟨X0, X1, X2, X3, X4⟩ ∧ Below w.heap.size w w' := by
  have b0 : Below w.heap.size w (((w.alloc (.cells #[.slice A0 X0.length c0, .slice A1 X1.len c1, .int .i64 X2, .int .i64 X3, .int .i64 X4] 124)).alloc (.cells #[.slice none 0 0, .slice none 0 0, .int .i64 0, .int .i64 0, .int .i64 0] 128)).alloc (.cells #[.slice none 0 0, .slice none 0 0, .int .i64 0, .int .i64 0, .int .i64 0] 128)) := (((Below.refl _ _).alloc (Nat.le_refl _) _).alloc (by simp) _).alloc (by simp; omega) _
  have P0 := Lib.hid (row3_first w #[.slice A0 X0.length c0, .slice A1 X1.len c1, .int .i64 X2, .int .i64 X3, .int .i64 X4] #[.slice none 0 0, .slice none 0 0, .int .i64 0, .int .i64 0, .int .i64 0] #[.slice none 0 0, .slice none 0 0, .int .i64 0, .int .i64 0, .int .i64 0] 124 128 128)
  have Q0 := Lib.hid (row3_second w #[.slice A0 X0.length c0, .slice A1 X1.len c1, .int .i64 X2, .int .i64 X3, .int .i64 X4] #[.slice none 0 0, .slice none 0 0, .int .i64 0, .int .i64 0, .int .i64 0] #[.slice none 0 0, .slice none 0 0, .int .i64 0, .int .i64 0, .int .i64 0] 124 128 128)
  have O0 := Lib.hid (row3_third w #[.slice A0 X0.length c0, .slice A1 X1.len c1, .int .i64 X2, .int .i64 X3, .int .i64 X4] #[.slice none 0 0, .slice none 0 0, .int .i64 0, .int .i64 0, .int .i64 0] #[.slice none 0 0, .slice none 0 0, .int .i64 0, .int .i64 0, .int .i64 0] 124 128 128)
  have z0 : w.heap.size + 3 ≤ (((w.alloc (.cells #[.slice A0 X0.length c0, .slice A1 X1.len c1, .int .i64 X2, .int .i64 X3, .int .i64 X4] 124)).alloc (.cells #[.slice none 0 0, .slice none 0 0, .int .i64 0, .int .i64 0, .int .i64 0] 128)).alloc (.cells #[.slice none 0 0, .slice none 0 0, .int .i64 0, .int .i64 0, .int .i64 0] 128)).heap.size := by simp
  go_enter Try.func80, Try.ntmps80
  go_wp2_with fail
  refine (ints_to (f0.later b0) (by omega)).mono ?_
  rintro e w1 ⟨B0, d0, rfl, g0, hb⟩
  have P1 := Lib.hid (rowk hb P0.out)
  have Q1 := Lib.hid (rowk hb Q0.out)
  have O1 := Lib.hid (rowk hb O0.out)
  have hz := hb.size
  replace g0 := g0.mono (T := fun b => w.heap.size + 3 ≤ b ∧ b < w1.heap.size) fun b hp => ⟨by have := hp.1; omega, hp.2⟩
  have b1 := b0.trans (hb.mono b0.size)
  have z1 : w.heap.size + 3 ≤ w1.heap.size := Nat.le_trans z0 hz
  clear hb hz b0 P0 Q0 O0 z0 f0
  have cp1 : w1.cell? ⟨w.heap.size, 1, none⟩ = some (.slice A1 X1.len c1) := by rw [row_cell P1.out]; rfl
  have co0 : w1.cell? ⟨w.heap.size + 1 + 1, 0, none⟩ = some (.slice none 0 0) := by rw [row_cell O1.out]; rfl
  have cf0 := row_frozen O1.out 0
  go_wp2_with fail
  clear cp1 co0 cf0
  replace O1 := Lib.hid (show (w1.setCell ⟨w.heap.size + 1 + 1, 0, none⟩ (.slice B0 X0.length d0)).heap[w.heap.size + 1 + 1]? = some (.cells #[.slice B0 X0.length d0, .slice none 0 0, .int .i64 0, .int .i64 0, .int .i64 0] 128 (0, 0)) from by rw [row_set O1.out]; rfl)
  have HW : (w1.setCell ⟨w.heap.size + 1 + 1, 0, none⟩ (.slice B0 X0.length d0)).heap.size = w1.heap.size := by simp only [size_set]
  replace P1 := Lib.hid ((row_other (i := 0) (show w.heap.size ≠ w.heap.size + 1 + 1 by omega) (.slice B0 X0.length d0)).trans (P1.out))
  replace Q1 := Lib.hid ((row_other (i := 0) (show w.heap.size + 1 ≠ w.heap.size + 1 + 1 by omega) (.slice B0 X0.length d0)).trans (Q1.out))
  replace b1 := (b1.setCell (p := ⟨w.heap.size + 1 + 1, 0, none⟩) (by show _ ≤ w.heap.size + 1 + 1; omega) (.slice B0 X0.length d0))
  replace g0 := (g0.keep (keepO (j := 0) (.slice B0 X0.length d0)))
  rw [← HW] at g0 z1
  clear HW
  generalize HWW : (w1.setCell ⟨w.heap.size + 1 + 1, 0, none⟩ (.slice B0 X0.length d0)) = W1 at *
  clear HWW
  refine (stmts_to (f1.later b1) (by omega)).mono ?_
  rintro e w2 ⟨B1, d1, rfl, g1, hb⟩
  have P2 := Lib.hid (rowk hb P1.out)
  have Q2 := Lib.hid (rowk hb Q1.out)
  have O2 := Lib.hid (rowk hb O1.out)
  have hz := hb.size
  replace g0 := (g0.keep (w' := w2) fun p hp => hb.cell hp.2).mono (T := fun b => w.heap.size + 3 ≤ b ∧ b < w2.heap.size) fun b hp => ⟨hp.1, by have := hp.2; omega⟩
  replace g1 := g1.mono (T := fun b => w.heap.size + 3 ≤ b ∧ b < w2.heap.size) fun b hp => ⟨by have := hp.1; omega, hp.2⟩
  have b2 := b1.trans (hb.mono b1.size)
  have z2 : w.heap.size + 3 ≤ w2.heap.size := Nat.le_trans z1 hz
  clear hb hz b1 P1 Q1 O1 z1 f1
  have cp2 : w2.cell? ⟨w.heap.size, 2, none⟩ = some (.int .i64 X2) := by rw [row_cell P2.out]; rfl
  have cp3 : w2.cell? ⟨w.heap.size, 3, none⟩ = some (.int .i64 X3) := by rw [row_cell P2.out]; rfl
  have cp4 : w2.cell? ⟨w.heap.size, 4, none⟩ = some (.int .i64 X4) := by rw [row_cell P2.out]; rfl
  have co1 : w2.cell? ⟨w.heap.size + 1 + 1, 1, none⟩ = some (.slice none 0 0) := by rw [row_cell O2.out]; rfl
  have cf1 := row_frozen O2.out 1
  have co2 : w2.cell? ⟨w.heap.size + 1 + 1, 2, none⟩ = some (.int .i64 0) := by rw [row_cell O2.out]; rfl
  have cf2 := row_frozen O2.out 2
  have co3 : w2.cell? ⟨w.heap.size + 1 + 1, 3, none⟩ = some (.int .i64 0) := by rw [row_cell O2.out]; rfl
  have cf3 := row_frozen O2.out 3
  have co4 : w2.cell? ⟨w.heap.size + 1 + 1, 4, none⟩ = some (.int .i64 0) := by rw [row_cell O2.out]; rfl
  have cf4 := row_frozen O2.out 4
  have co0 : w2.cell? ⟨w.heap.size + 1 + 1, 0, none⟩ = some (.slice B0 X0.length d0) := by rw [row_cell O2.out]; rfl
  have ct0 : w2.cell? ⟨w.heap.size + 1, 0, none⟩ = some (.slice none 0 0) := by rw [row_cell Q2.out]; rfl
  have ch0 := row_frozen Q2.out 0
  have ct1 : w2.cell? ⟨w.heap.size + 1, 1, none⟩ = some (.slice none 0 0) := by rw [row_cell Q2.out]; rfl
  have ch1 := row_frozen Q2.out 1
  have ct2 : w2.cell? ⟨w.heap.size + 1, 2, none⟩ = some (.int .i64 0) := by rw [row_cell Q2.out]; rfl
  have ch2 := row_frozen Q2.out 2
  have ct3 : w2.cell? ⟨w.heap.size + 1, 3, none⟩ = some (.int .i64 0) := by rw [row_cell Q2.out]; rfl
  have ch3 := row_frozen Q2.out 3
  have ct4 : w2.cell? ⟨w.heap.size + 1, 4, none⟩ = some (.int .i64 0) := by rw [row_cell Q2.out]; rfl
  have ch4 := row_frozen Q2.out 4
  go_wp2_with fail
  refine bodyPost_ret (v := .agg #[.slice B0 X0.length d0, .slice B1 X1.len d1, .int .i64 X2, .int .i64 X3, .int .i64 X4]) (by simp [results, Try.results80, go_sem, *]) rfl ⟨[.slice B0 X0.length d0, .slice B1 X1.len d1, .int .i64 X2, .int .i64 X3, .int .i64 X4], rfl, ?_, ?_⟩
  · exact ⟨B0, d0, B1, d1, rfl, (((((((((g0.keep (keepO (j := 1) (.slice B1 X1.len d1))).keep (keepO (j := 2) (.int .i64 X2))).keep (keepO (j := 3) (.int .i64 X3))).keep (keepO (j := 4) (.int .i64 X4))).keep (keepR (j := 0) (.slice B0 X0.length d0))).keep (keepR (j := 1) (.slice B1 X1.len d1))).keep (keepR (j := 2) (.int .i64 X2))).keep (keepR (j := 3) (.int .i64 X3))).keep (keepR (j := 4) (.int .i64 X4))).mono (fun b hb => ⟨by have := hb.1; omega, by simp only [size_set]; exact hb.2⟩), (((((((((g1.keep (keepO (j := 1) (.slice B1 X1.len d1))).keep (keepO (j := 2) (.int .i64 X2))).keep (keepO (j := 3) (.int .i64 X3))).keep (keepO (j := 4) (.int .i64 X4))).keep (keepR (j := 0) (.slice B0 X0.length d0))).keep (keepR (j := 1) (.slice B1 X1.len d1))).keep (keepR (j := 2) (.int .i64 X2))).keep (keepR (j := 3) (.int .i64 X3))).keep (keepR (j := 4) (.int .i64 X4))).mono (fun b hb => ⟨by have := hb.1; omega, by simp only [size_set]; exact hb.2⟩)⟩
  · exact (((((((((b2.setCell (p := ⟨w.heap.size + 1 + 1, 1, none⟩) (by show _ ≤ w.heap.size + 1 + 1; omega) (.slice B1 X1.len d1)).setCell (p := ⟨w.heap.size + 1 + 1, 2, none⟩) (by show _ ≤ w.heap.size + 1 + 1; omega) (.int .i64 X2)).setCell (p := ⟨w.heap.size + 1 + 1, 3, none⟩) (by show _ ≤ w.heap.size + 1 + 1; omega) (.int .i64 X3)).setCell (p := ⟨w.heap.size + 1 + 1, 4, none⟩) (by show _ ≤ w.heap.size + 1 + 1; omega) (.int .i64 X4)).setCell (p := ⟨w.heap.size + 1, 0, none⟩) (by show _ ≤ w.heap.size + 1; omega) (.slice B0 X0.length d0)).setCell (p := ⟨w.heap.size + 1, 1, none⟩) (by show _ ≤ w.heap.size + 1; omega) (.slice B1 X1.len d1)).setCell (p := ⟨w.heap.size + 1, 2, none⟩) (by show _ ≤ w.heap.size + 1; omega) (.int .i64 X2)).setCell (p := ⟨w.heap.size + 1, 3, none⟩) (by show _ ≤ w.heap.size + 1; omega) (.int .i64 X3)).setCell (p := ⟨w.heap.size + 1, 4, none⟩) (by show _ ≤ w.heap.size + 1; omega) (.int .i64 X4))

theorem proc_to {x : ProcP} {vs : List Value} {S : Nat → Prop} {w : World} (hI : procShape.I w S vs x) (hS : sizeProc x ≤ 1048576) :
    Calls Try.prog 80 #[.agg vs.toArray] w fun e w' => ∃ us : List Value, e = .returned (.agg us.toArray) ∧ procShape.I w' (Born w w') us x ∧ Below w.heap.size w w' := by
  obtain ⟨A0, c0, A1, c1, rfl, f0, f1⟩ := hI
  exact toProc_ f0 f1 hS

/-- How much they hold. -/
def innerProcS : List ProcP → Nat
  | [] => 0
  | L :: Ls => sizeProc L + innerProcS Ls
def sizeProcS (Ls : List ProcP) : Nat := Ls.length + innerProcS Ls
theorem innerProcS_drop {Ls : List ProcP} {i : Nat} (h : i < Ls.length) : innerProcS (Ls.drop i) = sizeProc (Ls[i]) + innerProcS (Ls.drop (i + 1)) := by
  rw [List.drop_eq_getElem_cons h]; rfl
theorem innerProcS_get {Ls : List ProcP} : ∀ {i : Nat} (h : i < Ls.length), sizeProc (Ls[i]) ≤ innerProcS Ls := by
  induction Ls with
  | nil => intro i h; simp at h
  | cons L Ls ih =>
    intro i h
    cases i with
    | zero => simp only [List.getElem_cons_zero, innerProcS]; omega
    | succ i => simp only [List.getElem_cons_succ, innerProcS]; have := ih (i := i) (by simpa using h); omega

/-- The k-th of a slice, cell by cell. -/
theorem proc_at {w : World} {S : Nat → Prop} {Ls : List ProcP} {A : Option Addr} {n c : Nat} (h : Recs procShape w S Ls A n c) (k : Nat) (hk : k < Ls.length) :
    ∃ (a : Addr) (x : ProcP) (A0 : Option Addr) (c0 : Nat) (A1 : Option Addr) (c1 : Nat), Ls[k] = x ∧ A = some a ∧ w.cell? (a.add (k * 5)) = some (.slice A0 x.regs.length c0) ∧ w.cell? ⟨(a.add (k * 5)).block, (a.add (k * 5)).off + 1, none⟩ = some (.slice A1 x.todo.len c1) ∧ w.cell? ⟨(a.add (k * 5)).block, (a.add (k * 5)).off + 2, none⟩ = some (.int .i64 x.mode) ∧ w.cell? ⟨(a.add (k * 5)).block, (a.add (k * 5)).off + 3, none⟩ = some (.int .i64 x.on) ∧ w.cell? ⟨(a.add (k * 5)).block, (a.add (k * 5)).off + 4, none⟩ = some (.int .i64 x.room) ∧ procShape.I w S [.slice A0 x.regs.length c0, .slice A1 x.todo.len c1, .int .i64 x.mode, .int .i64 x.on, .int .i64 x.room] x := by
  obtain ⟨a, vs, rfl, _, hq, hI⟩ := h.at_ k hk
  have hI' := hI
  obtain ⟨A0, c0, A1, c1, rfl, f0, f1⟩ := hI'
  exact ⟨a, Ls[k], A0, c0, A1, c1, rfl, rfl, hq 0 (by decide), hq 1 (by decide), hq 2 (by decide), hq 3 (by decide), hq 4 (by decide), hI⟩

def SzProcRel (Ls : List ProcP) (w : World) (left : Int) (l i : Value) (wr : World) : Prop :=
  ∃ (k : Nat) (z : Int), k ≤ Ls.length ∧ i = .int .i64 k ∧ l = .int .i64 z ∧ 0 ≤ z ∧ z ≤ 1048576 ∧ szI (innerProcS (Ls.drop k)) z = szI (sizeProcS Ls) left ∧ Below w.heap.size w wr

set_option maxRecDepth 100000 in
theorem procs_sz {Ls : List ProcP} {A : Option Addr} {c : Nat} {S : Nat → Prop} {w : World} {left : Int} (hs : Recs procShape w S Ls A Ls.length c) (h0 : 0 ≤ left) (h1 : left ≤ 1048576) :
    Calls Try.prog 54 #[.slice A Ls.length c, .int .i64 left] w fun e w' => e = .returned (.int .i64 (szI (sizeProcS Ls) left)) ∧ Below w.heap.size w w' := by
  have hmax := hs.max
  generalize hn : Ls.length = n at *
  have HN := Lib.hid hn
  have hlen : n ≤ Ls.length := Nat.le_of_eq hn.symm
  have hlen' : Ls.length ≤ n := Nat.le_of_eq hn
  clear hn
  by_cases hl : (n : Int) ≤ left
  · have g1 : 0 ≤ left - (n : Int) := by omega
    go_enter Try.func54, Try.ntmps54
    go_wp2_with fail
    go_loopw [1, 5] (fun l i wr => SzProcRel Ls w left l i wr) (fun _ i _ => n - (intOf i).toNat)
    case atStart => exact ⟨0, left - n, Nat.zero_le _, rfl, rfl, g1, by omega, by rw [List.drop_zero, sizeProcS, HN.out]; exact (szI_step _ _ _).symm, Below.refl _ _⟩
    case round =>
      obtain ⟨k, z, hk, rfl, rfl, z0, z1, hz, hb⟩ := hrel
      have HZ := Lib.hid hz
      clear hz
      by_cases hlt : k < n
      · have hk' : k < Ls.length := by omega
        have HI := Lib.hid (innerProcS_drop hk')
        obtain ⟨a, x, A0, c0, A1, c1, hx, rfl, q0, q1, q2, q3, q4, hI⟩ := proc_at (hs.later (by decide) hb) k hk'
        rw [hx] at HI
        have hsz := hb.size
        clear hx
        by_cases hfit : (sizeProc x : Int) ≤ z
        · have H1 := Lib.hid (szI_yes hfit)
          have g2 : 0 ≤ z - (sizeProc x : Int) := by omega
          have HJ := Lib.hid hI
          clear hI
          go_wp2_with fail
          refine (proc_sz HJ.out z0 z1).mono ?_
          rintro e w1 ⟨rfl, hb1⟩
          rw [H1.out]
          go_wp2_with fail
          go_roundw
          case rel => exact ⟨k + 1, z - sizeProc x, by omega, by go_num, rfl, g2, by omega, by rw [← HZ.out, HI.out]; exact (szI_step _ _ _).symm, hb.trans (hb1.mono hsz)⟩
          case measure => simp [intOf]; omega
        · have H1 := Lib.hid (szI_no hfit)
          have H2 := Lib.hid (show szI (sizeProcS Ls) left = -1 from by rw [← HZ.out, HI.out]; exact szI_stop hfit)
          have HJ := Lib.hid hI
          clear hI
          go_wp2_with fail
          refine (proc_sz HJ.out z0 z1).mono ?_
          rintro e w1 ⟨rfl, hb1⟩
          rw [H1.out]
          go_wp2_with fail
          go_ret
          exact ⟨by rw [H2.out]; rfl, hb.trans (hb1.mono hsz)⟩
      · have hend : Ls.drop k = [] := List.drop_of_length_le (by omega)
        have H2 := Lib.hid (show szI (sizeProcS Ls) left = z from by rw [← HZ.out, hend, innerProcS, szI, if_pos (by simpa using z0)]; simp)
        clear hend
        go_wp2_with fail
        go_ret
        exact ⟨by rw [H2.out]; rfl, hb⟩
  · have H2 := Lib.hid (show szI (sizeProcS Ls) left = -1 from by unfold sizeProcS; exact szI_stop (by omega))
    go_enter Try.func54, Try.ntmps54
    go_wp2_with fail
    go_ret
    exact ⟨by rw [H2.out]; rfl, Below.refl _ _⟩

set_option maxRecDepth 100000 in
theorem procs_eq {Ls : List ProcP} {A A' : Option Addr} {c c' : Nat} {S T : Nat → Prop} {w : World} (hs : Recs procShape w S Ls A Ls.length c) (ht : Recs procShape w T Ls A' Ls.length c') :
    Calls Try.prog 65 #[.slice A Ls.length c, .slice A' Ls.length c'] w fun e w' => e = .returned (.bool true) ∧ Below w.heap.size w w' := by
  have hmax := hs.max
  generalize hn : Ls.length = n at *
  have hlen : n ≤ Ls.length := Nat.le_of_eq hn.symm
  clear hn
  go_enter Try.func65, Try.ntmps65
  go_wp2_with fail
  go_loopw [5] (fun i wr => ∃ k : Nat, k ≤ n ∧ i = .int .i64 k ∧ Below w.heap.size w wr) (fun i _ => n - (intOf i).toNat)
  case atStart => exact ⟨0, Nat.zero_le _, rfl, Below.refl _ _⟩
  case round =>
    obtain ⟨k, hk, rfl, hb⟩ := hrel
    by_cases hlt : k < n
    · have hk' : k < Ls.length := by omega
      obtain ⟨a, x, A0, c0, A1, c1, hx, rfl, q0, q1, q2, q3, q4, hI⟩ := proc_at (hs.later (by decide) hb) k hk'
      obtain ⟨b, y, B0, d0, B1, d1, hy, rfl, r0, r1, r2, r3, r4, hJ⟩ := proc_at (ht.later (by decide) hb) k hk'
      rw [hx] at hy
      subst hy
      have hsz := hb.size
      have HI := Lib.hid hI
      have HJ := Lib.hid hJ
      clear hI hJ hx
      go_wp2_with fail
      go_still_tail 8, (by kernel_rfl)
      change wpList _ _ _ _ _ wr.drew
      have hdr : Below wr.heap.size wr wr.drew := (Below.refl _ _).drew
      go_wp2_with fail
      refine (proc_eq (procShape.keep (w' := wr.drew) HI.out fun p _ => rfl) (procShape.keep (w' := wr.drew) HJ.out fun p _ => rfl)).mono ?_
      rintro e w1 ⟨rfl, hb1⟩
      have hb1' : Below wr.heap.size wr w1 := hdr.trans hb1
      clear hb1 hdr
      go_wp2_with fail
      go_roundw
      case rel => exact ⟨k + 1, by omega, by go_num, hb.trans (hb1'.mono hsz)⟩
      case measure => simp [intOf]; omega
    · go_wp2_with fail
      go_ret
      exact ⟨rfl, hb⟩

theorem info_Proc : (Try.prog.info? 128).map (fun i => (i.zero, i.size, i.bytes)) = some (some (.agg #[.slice none 0 0, .slice none 0 0, .int .i64 0, .int .i64 0, .int .i64 0]), 5, 72) := by kernel_rfl

theorem make_Proc (n : Nat) (hn : n ≤ 1048576) (w : World) : (Instr.makeSlice 63 (.int .i64 (n : Int)) (.int .i64 (n : Int))).run Try.prog w =
    .ok (.slice (some ⟨w.heap.size, 0, none⟩) n n) (w.alloc (.cells (madeCells #[.slice none 0 0, .slice none 0 0, .int .i64 0, .int .i64 0, .int .i64 0] (n * 5)) 128)) := by
  have hi := info_Proc
  obtain ⟨i, hi0, hi1⟩ := Option.map_eq_some_iff.1 hi
  simp only [Prod.mk.injEq] at hi1
  obtain ⟨e0, e1, e2⟩ := hi1
  have h := run_make (P := Try.prog) w 63 128 i _ Try.underlying63 hi0 e0 .i64 .i64 (n : Int) (n : Int) (by omega) (by omega) (by rw [e2]; omega) (by omega)
  rw [e1] at h
  simp only [Int.toNat_natCast] at h
  exact h

set_option maxRecDepth 100000 in
theorem procs_to {Ls : List ProcP} {A : Option Addr} {c : Nat} {S : Nat → Prop} {w : World} (hs : Recs procShape w S Ls A Ls.length c) (hS : sizeProcS Ls ≤ 1048576) :
    Calls Try.prog 60 #[.slice A Ls.length c] w fun e w' => ∃ (A' : Option Addr) (c' : Nat), e = .returned (.slice A' Ls.length c') ∧ Recs procShape w' (Born w w') Ls A' Ls.length c' ∧ Below w.heap.size w w' := by
  have hll : Ls.length + innerProcS Ls ≤ 1048576 := hS
  have hmk := fun W => make_Proc Ls.length (by omega) W
  generalize hn : Ls.length = n at *
  have HN := Lib.hid hn
  have hn1 : n ≤ Ls.length := Nat.le_of_eq hn.symm
  have hn2 : Ls.length ≤ n := Nat.le_of_eq hn
  clear hn
  go_enter Try.func60, Try.ntmps60
  go_wp2_with fail
  go_loopw [4] (fun i wr => ∃ k : Nat, k ≤ n ∧ i = .int .i64 k ∧ Making procShape w 128 Ls k wr) (fun i _ => n - (intOf i).toNat)
  case atStart => exact ⟨0, Nat.zero_le _, rfl, Making.start procShape w 128 Ls #[.slice none 0 0, .slice none 0 0, .int .i64 0, .int .i64 0, .int .i64 0] HN.out.symm⟩
  case round =>
    clear hmk
    obtain ⟨k, hk, rfl, hm⟩ := hrel
    by_cases hlt : k < n
    · have hk' : k < Ls.length := by omega
      have hsg := innerProcS_get hk'
      obtain ⟨a, x, A0, c0, A1, c1, hx, rfl, q0, q1, q2, q3, q4, hI⟩ := proc_at (hs.later (by decide) hm.below) k hk'
      rw [hx] at hsg
      have HX := Lib.hid hx
      have HI := Lib.hid hI
      have HM := Lib.hid hm
      clear hx hI hm
      go_wp2_with fail
      refine (proc_to HI.out (by omega)).mono ?_
      rintro e w1 ⟨us, rfl, s2, hb1⟩
      obtain ⟨B0, d0, B1, d1, rfl, _⟩ := id s2
      obtain ⟨⟨v0, r0⟩, z0⟩ := HM.out.place hk' hb1 0 (by decide)
      obtain ⟨⟨v1, r1⟩, z1⟩ := HM.out.place hk' hb1 1 (by decide)
      obtain ⟨⟨v2, r2⟩, z2⟩ := HM.out.place hk' hb1 2 (by decide)
      obtain ⟨⟨v3, r3⟩, z3⟩ := HM.out.place hk' hb1 3 (by decide)
      obtain ⟨⟨v4, r4⟩, z4⟩ := HM.out.place hk' hb1 4 (by decide)
      rw [show k * procShape.z + 0 = k * 5 from rfl] at r0 z0
      rw [show k * procShape.z + 1 = k * 5 + 1 from rfl] at r1 z1
      rw [show k * procShape.z + 2 = k * 5 + 2 from rfl] at r2 z2
      rw [show k * procShape.z + 3 = k * 5 + 3 from rfl] at r3 z3
      rw [show k * procShape.z + 4 = k * 5 + 4 from rfl] at r4 z4
      have HB := Lib.hid hb1
      have HS := Lib.hid s2
      clear hb1 s2
      go_wp2_with fail
      go_roundw
      case rel =>
        refine ⟨k + 1, by omega, by go_num, ?_⟩
        have h := HM.out.next' hk' HX.out HB.out HS.out (m := k * 5) rfl
        simp only [setCells] at h
        exact h
      case measure => simp [intOf]; omega
    · go_wp2_with fail
      go_ret
      obtain rfl : k = n := by omega
      have h := HN.out
      subst h
      exact ⟨_, _, rfl, hm.done (by unfold maxLen; omega), hm.below⟩
end Go.Proofs.Ythamehcfenncaaa
