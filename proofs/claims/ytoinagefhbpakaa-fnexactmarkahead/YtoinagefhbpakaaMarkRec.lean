/- A mark of a step: its shape, and the laws' count, copy and comparison of it. -/
import Derived.Test.YtoinagefhbpakaaShape
import Derived.Test.YtoinagefhbpakaaSzInt
import Derived.Test.YtoinagefhbpakaaIntsTo
namespace Go.Proofs.Ytoinagefhbpakaa
open Go.ChangeShapes Go.WideShapes Go.ChangeAt Go.RowKit

structure MarkP where
  who : Int
  at_ : Int
  store : Bool
  cell : Int
  clock : List Int
  deriving DecidableEq

def markShape : Shape MarkP where
  z := 5
  I w S vs x := ∃ (A4 : Option Addr) (c4 : Nat), vs = [.int .i64 x.who, .int .i64 x.at_, .bool x.store, .int .i64 x.cell, .slice A4 x.clock.length c4] ∧ Fl w S 1 x.clock A4 x.clock.length c4
  len := by rintro w S vs x ⟨_, _, rfl, _⟩; rfl
  keep := by rintro w w' S vs x ⟨A4, c4, rfl, f4⟩ hc; exact ⟨A4, c4, rfl, f4.keep hc⟩
  mono := by rintro w S T vs x ⟨A4, c4, rfl, f4⟩ hT; exact ⟨A4, c4, rfl, f4.mono hT⟩
  real := by rintro w S vs x ⟨A4, c4, rfl, f4⟩; exact ⟨A4, c4, rfl, f4.real⟩

set_option maxRecDepth 100000 in
theorem szMark_ {X0 X1 : Int} {X2 : Bool} {X3 : Int} {X4 : List Int} {A4 : Option Addr} {c4 : Nat} {w : World} {left : Int} (hX : X4.length ≤ maxLen) (h0 : 0 ≤ left) (h1 : left ≤ 1048576) :
    Calls Try.prog 19 #[.agg #[.int .i64 X0, .int .i64 X1, .bool X2, .int .i64 X3, .slice A4 X4.length c4], .int .i64 left] w fun e w' => e = .returned (.int .i64 (szI X4.length left)) ∧ Below w.heap.size w w' := by
  have b0 : Below w.heap.size w (w.alloc (.cells #[.int .i64 X0, .int .i64 X1, .bool X2, .int .i64 X3, .slice A4 X4.length c4] 28)) := (Below.refl _ _).alloc (Nat.le_refl _) _
  go_enter Try.func19, Try.ntmps19
  go_wp2_with fail
  refine (szIntS A4 X4.length c4 left _ hX h0 h1).mono ?_
  rintro e w1 ⟨rfl, rfl⟩
  by_cases t : ((X4.length : Nat) : Int) ≤ left
  · have H := Lib.hid (szI_yes t)
    have t0 : 0 ≤ left - (X4.length : Int) := by omega
    rw [H.out]
    go_wp2_with fail
    go_ret
    exact ⟨by rw [H.out]; rfl, b0⟩
  · have H := Lib.hid (szI_no t)
    rw [H.out]
    go_wp2_with fail
    go_ret
    exact ⟨by rw [H.out]; rfl, b0⟩

set_option maxRecDepth 100000 in
theorem eqMark_ {X0 X1 : Int} {X2 : Bool} {X3 : Int} {X4 : List Int} {A4 : Option Addr} {c4 : Nat} {B4 : Option Addr} {d4 : Nat} {S T : Nat → Prop} {w : World} (f4 : Fl w S 1 X4 A4 X4.length c4) (g4 : Fl w T 1 X4 B4 X4.length d4) :
    Calls Try.prog 23 #[.agg #[.int .i64 X0, .int .i64 X1, .bool X2, .int .i64 X3, .slice A4 X4.length c4], .agg #[.int .i64 X0, .int .i64 X1, .bool X2, .int .i64 X3, .slice B4 X4.length d4]] w fun e w' => e = .returned (.bool true) ∧ Below w.heap.size w w' := by
  have b0 : Below w.heap.size w ((w.alloc (.cells #[.int .i64 X0, .int .i64 X1, .bool X2, .int .i64 X3, .slice A4 X4.length c4] 31)).alloc (.cells #[.int .i64 X0, .int .i64 X1, .bool X2, .int .i64 X3, .slice B4 X4.length d4] 31)) := ((Below.refl _ _).alloc (Nat.le_refl _) _).alloc (by simp) _
  go_enter Try.func23, Try.ntmps23
  go_wp2_with fail
  refine (eqIntS (f4.later b0) (g4.later b0)).mono ?_
  rintro e w1 ⟨rfl, hb⟩
  have b1 := b0.trans (hb.mono b0.size)
  go_wp2_with fail
  go_ret
  exact ⟨rfl, b1⟩

set_option maxRecDepth 100000 in
set_option maxHeartbeats 4000000 in
theorem toMark_ {X0 X1 : Int} {X2 : Bool} {X3 : Int} {X4 : List Int} {A4 : Option Addr} {c4 : Nat} {S : Nat → Prop} {w : World} (f4 : Fl w S 1 X4 A4 X4.length c4) (hS : X4.length ≤ 1048576) :
    Calls Try.prog 21 #[.agg #[.int .i64 X0, .int .i64 X1, .bool X2, .int .i64 X3, .slice A4 X4.length c4]] w fun e w' => ∃ (B4 : Option Addr) (d4 : Nat), e = .returned (.agg #[.int .i64 X0, .int .i64 X1, .bool X2, .int .i64 X3, .slice B4 X4.length d4]) ∧ Fl w' (Born w w') 1 X4 B4 X4.length d4 ∧ Below w.heap.size w w' := by
  have b0 : Below w.heap.size w (((w.alloc (.cells #[.int .i64 X0, .int .i64 X1, .bool X2, .int .i64 X3, .slice A4 X4.length c4] 28)).alloc (.cells #[.int .i64 0, .int .i64 0, .bool false, .int .i64 0, .slice none 0 0] 31)).alloc (.cells #[.int .i64 X0, .int .i64 X1, .bool X2, .int .i64 X3, .slice none 0 0] 31)) := ((((Below.refl _ _).alloc (Nat.le_refl _) _).alloc (by simp) _).alloc (by simp; omega) _)
  have Q0 := Lib.hid (row3_second w #[.int .i64 X0, .int .i64 X1, .bool X2, .int .i64 X3, .slice A4 X4.length c4] #[.int .i64 0, .int .i64 0, .bool false, .int .i64 0, .slice none 0 0] #[.int .i64 X0, .int .i64 X1, .bool X2, .int .i64 X3, .slice none 0 0] 28 31 31)
  have O0 := Lib.hid (row3_third w #[.int .i64 X0, .int .i64 X1, .bool X2, .int .i64 X3, .slice A4 X4.length c4] #[.int .i64 0, .int .i64 0, .bool false, .int .i64 0, .slice none 0 0] #[.int .i64 X0, .int .i64 X1, .bool X2, .int .i64 X3, .slice none 0 0] 28 31 31)
  have z0 : w.heap.size + 3 ≤ (((w.alloc (.cells #[.int .i64 X0, .int .i64 X1, .bool X2, .int .i64 X3, .slice A4 X4.length c4] 28)).alloc (.cells #[.int .i64 0, .int .i64 0, .bool false, .int .i64 0, .slice none 0 0] 31)).alloc (.cells #[.int .i64 X0, .int .i64 X1, .bool X2, .int .i64 X3, .slice none 0 0] 31)).heap.size := by simp
  go_enter Try.func21, Try.ntmps21
  go_wp2_with fail
  refine (toIntS (f4.later b0) hS).mono ?_
  rintro e w1 ⟨v, rfl, ho, hb⟩
  obtain ⟨B4, d4, rfl, gg⟩ := own_fl ho
  have hz := hb.size
  have g4 := gg.mono (T := fun b => w.heap.size + 3 ≤ b ∧ b < w1.heap.size) fun b hp => by have := own_at ho hp; omega
  have b1 := b0.trans (hb.mono b0.size)
  have Q1 := Lib.hid (rowk hb Q0.out)
  have O1 := Lib.hid (rowk hb O0.out)
  clear hb hz b0 Q0 O0 f4 ho gg
  have co0 : w1.cell? ⟨w.heap.size + 1 + 1, 0, none⟩ = some (.int .i64 X0) := by rw [row_cell O1.out]; rfl
  have cf0 := row_frozen O1.out 0
  have ct0 : w1.cell? ⟨w.heap.size + 1, 0, none⟩ = some (.int .i64 0) := by rw [row_cell Q1.out]; rfl
  have ch0 := row_frozen Q1.out 0
  have co1 : w1.cell? ⟨w.heap.size + 1 + 1, 1, none⟩ = some (.int .i64 X1) := by rw [row_cell O1.out]; rfl
  have cf1 := row_frozen O1.out 1
  have ct1 : w1.cell? ⟨w.heap.size + 1, 1, none⟩ = some (.int .i64 0) := by rw [row_cell Q1.out]; rfl
  have ch1 := row_frozen Q1.out 1
  have co2 : w1.cell? ⟨w.heap.size + 1 + 1, 2, none⟩ = some (.bool X2) := by rw [row_cell O1.out]; rfl
  have cf2 := row_frozen O1.out 2
  have ct2 : w1.cell? ⟨w.heap.size + 1, 2, none⟩ = some (.bool false) := by rw [row_cell Q1.out]; rfl
  have ch2 := row_frozen Q1.out 2
  have co3 : w1.cell? ⟨w.heap.size + 1 + 1, 3, none⟩ = some (.int .i64 X3) := by rw [row_cell O1.out]; rfl
  have cf3 := row_frozen O1.out 3
  have ct3 : w1.cell? ⟨w.heap.size + 1, 3, none⟩ = some (.int .i64 0) := by rw [row_cell Q1.out]; rfl
  have ch3 := row_frozen Q1.out 3
  have co4 : w1.cell? ⟨w.heap.size + 1 + 1, 4, none⟩ = some (.slice none 0 0) := by rw [row_cell O1.out]; rfl
  have cf4 := row_frozen O1.out 4
  have ct4 : w1.cell? ⟨w.heap.size + 1, 4, none⟩ = some (.slice none 0 0) := by rw [row_cell Q1.out]; rfl
  have ch4 := row_frozen Q1.out 4
  go_wp2_with fail
  refine bodyPost_ret (v := .agg #[.int .i64 X0, .int .i64 X1, .bool X2, .int .i64 X3, .slice B4 X4.length d4]) (by simp [results, Try.results21, go_sem, *]) rfl ⟨B4, d4, rfl, ?_, ?_⟩
  · exact ((((((g4.keep (keepO (j := 4) (.slice B4 X4.length d4))).keep (keepR (j := 0) (.int .i64 X0))).keep (keepR (j := 1) (.int .i64 X1))).keep (keepR (j := 2) (.bool X2))).keep (keepR (j := 3) (.int .i64 X3))).keep (keepR (j := 4) (.slice B4 X4.length d4))).mono (fun b hb => ⟨by have := hb.1; omega, by simp only [size_set]; exact hb.2⟩)
  · exact ((((((b1.setCell (p := ⟨w.heap.size + 1 + 1, 4, none⟩) (by show _ ≤ w.heap.size + 1 + 1; omega) (.slice B4 X4.length d4)).setCell (p := ⟨w.heap.size + 1, 0, none⟩) (by show _ ≤ w.heap.size + 1; omega) (.int .i64 X0)).setCell (p := ⟨w.heap.size + 1, 1, none⟩) (by show _ ≤ w.heap.size + 1; omega) (.int .i64 X1)).setCell (p := ⟨w.heap.size + 1, 2, none⟩) (by show _ ≤ w.heap.size + 1; omega) (.bool X2)).setCell (p := ⟨w.heap.size + 1, 3, none⟩) (by show _ ≤ w.heap.size + 1; omega) (.int .i64 X3)).setCell (p := ⟨w.heap.size + 1, 4, none⟩) (by show _ ≤ w.heap.size + 1; omega) (.slice B4 X4.length d4))

def sizeMark (x : MarkP) : Nat := x.clock.length
theorem mark_sz {x : MarkP} {vs : List Value} {S : Nat → Prop} {w : World} {left : Int} (hI : markShape.I w S vs x) (h0 : 0 ≤ left) (h1 : left ≤ 1048576) :
    Calls Try.prog 19 #[.agg vs.toArray, .int .i64 left] w fun e w' => e = .returned (.int .i64 (szI (sizeMark x) left)) ∧ Below w.heap.size w w' := by
  obtain ⟨A4, c4, rfl, f4⟩ := hI
  exact szMark_ (Nat.le_trans f4.le f4.top) h0 h1
theorem mark_eq {x : MarkP} {vs us : List Value} {S T : Nat → Prop} {w : World} (hI : markShape.I w S vs x) (hJ : markShape.I w T us x) :
    Calls Try.prog 23 #[.agg vs.toArray, .agg us.toArray] w fun e w' => e = .returned (.bool true) ∧ Below w.heap.size w w' := by
  obtain ⟨A4, c4, rfl, f4⟩ := hI
  obtain ⟨B4, d4, rfl, g4⟩ := hJ
  exact eqMark_ f4 g4
theorem mark_to {x : MarkP} {vs : List Value} {S : Nat → Prop} {w : World} (hI : markShape.I w S vs x) (hS : sizeMark x ≤ 1048576) :
    Calls Try.prog 21 #[.agg vs.toArray] w fun e w' => ∃ us : List Value, e = .returned (.agg us.toArray) ∧ markShape.I w' (Born w w') us x ∧ Below w.heap.size w w' := by
  obtain ⟨A4, c4, rfl, f4⟩ := hI
  exact (toMark_ f4 hS).mono fun e w' ⟨B4, d4, h, hf, hb⟩ => ⟨_, h, ⟨B4, d4, rfl, hf⟩, hb⟩
end Go.Proofs.Ytoinagefhbpakaa
