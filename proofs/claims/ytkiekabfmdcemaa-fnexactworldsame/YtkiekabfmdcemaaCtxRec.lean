/- Ctx: its shape, and the laws' count, copy and comparison of it (written by tools/gen_rec.py). -/
import Derived.Test.YtkiekabfmdcemaaKinds
namespace Go.Proofs.Ytkiekabfmdcemaa
open Go.ChangeShapes Go.WideShapes Go.ChangeAt Go.RowKit

structure CtxP where
  regs : List Int
  pc : Int
  mode : Int
  on : Int
  room : Int
  deriving DecidableEq

def ctxShape : Shape CtxP where
  z := 5
  I w S vs x := ∃ (A0 : Option Addr) (c0 : Nat), vs = [.slice A0 x.regs.length c0, .int .i64 x.pc, .int .i64 x.mode, .int .i64 x.on, .int .i64 x.room] ∧ Fl w S 1 x.regs A0 x.regs.length c0
  len := by rintro w S vs x ⟨_, _, rfl, _⟩; rfl
  keep := by rintro w w' S vs x ⟨A0, c0, rfl, f0⟩ hc; exact ⟨A0, c0, rfl, f0.keep hc⟩
  mono := by rintro w S T vs x ⟨A0, c0, rfl, f0⟩ hT; exact ⟨A0, c0, rfl, f0.mono hT⟩
  real := by rintro w S vs x ⟨A0, c0, rfl, f0⟩; exact ⟨A0, c0, rfl, f0.real⟩

def sizeCtx (x : CtxP) : Nat := x.regs.length

set_option maxRecDepth 100000 in
theorem szCtx_ {X0 : List Int} {X1 : Int} {X2 : Int} {X3 : Int} {X4 : Int} {A0 : Option Addr} {c0 : Nat} {S : Nat → Prop} {w : World} {left : Int} (f0 : Fl w S 1 X0 A0 X0.length c0) (h0 : 0 ≤ left) (h1 : left ≤ 1048576) :
    Calls Try.prog 60 #[.agg #[.slice A0 X0.length c0, .int .i64 X1, .int .i64 X2, .int .i64 X3, .int .i64 X4], .int .i64 left] w fun e w' => e = .returned (.int .i64 (szI (X0.length) left)) ∧ Below w.heap.size w w' := by
  have b0 : Below w.heap.size w (w.alloc (.cells #[.slice A0 X0.length c0, .int .i64 X1, .int .i64 X2, .int .i64 X3, .int .i64 X4] 93)) := (Below.refl _ _).alloc (Nat.le_refl _) _
  have R0 := Lib.hid (new_row w #[.slice A0 X0.length c0, .int .i64 X1, .int .i64 X2, .int .i64 X3, .int .i64 X4] 93)
  go_enter Try.func60, Try.ntmps60
  go_wp2_with fail
  refine (ints_sz (f0.later b0) h0 h1).mono ?_
  rintro e w1 ⟨rfl, hb⟩
  have b1 := b0.trans (hb.mono b0.size)
  have R1 := Lib.hid (rowk hb R0.out)
  clear hb b0 R0 f0
  by_cases t : ¬ ((X0.length : Nat) : Int) ≤ left
  · have H := Lib.hid (szI_no t)
    have HT := Lib.hid (show szI (X0.length) left = -1 from by unfold szI; split <;> omega)
    rw [H.out]
    go_wp2_with fail
    go_ret
    exact ⟨by rw [HT.out]; rfl, b1⟩
  obtain ⟨L1, E1, p1, q1⟩ : ∃ z : Int, Go.RowKit.Hid (szI (X0.length) left = z ∧ z = left - ((X0.length : Nat) : Int)) ∧ 0 ≤ z ∧ z ≤ 1048576 := ⟨left - ((X0.length : Nat) : Int), Lib.hid ⟨szI_yes (Decidable.not_not.1 t), rfl⟩, by omega, by omega⟩
  rw [E1.out.1]
  clear t
  have HT := Lib.hid (show szI (X0.length) left = L1 from by have := E1.out.2; unfold szI; split <;> omega)
  go_wp2_with fail
  go_ret
  exact ⟨by rw [HT.out]; rfl, b1⟩

theorem ctx_sz {x : CtxP} {vs : List Value} {S : Nat → Prop} {w : World} {left : Int} (hI : ctxShape.I w S vs x) (h0 : 0 ≤ left) (h1 : left ≤ 1048576) :
    Calls Try.prog 60 #[.agg vs.toArray, .int .i64 left] w fun e w' => e = .returned (.int .i64 (szI (sizeCtx x) left)) ∧ Below w.heap.size w w' := by
  obtain ⟨A0, c0, rfl, f0⟩ := hI
  exact szCtx_ f0 h0 h1

set_option maxRecDepth 100000 in
theorem eqCtx_ {X0 : List Int} {X1 : Int} {X2 : Int} {X3 : Int} {X4 : Int} {A0 : Option Addr} {c0 : Nat} {B0 : Option Addr} {d0 : Nat} {S T : Nat → Prop} {w : World} (f0 : Fl w S 1 X0 A0 X0.length c0) (g0 : Fl w T 1 X0 B0 X0.length d0) :
    Calls Try.prog 63 #[.agg #[.slice A0 X0.length c0, .int .i64 X1, .int .i64 X2, .int .i64 X3, .int .i64 X4], .agg #[.slice B0 X0.length d0, .int .i64 X1, .int .i64 X2, .int .i64 X3, .int .i64 X4]] w fun e w' => e = .returned (.bool true) ∧ Below w.heap.size w w' := by
  have b0 : Below w.heap.size w ((w.alloc (.cells #[.slice A0 X0.length c0, .int .i64 X1, .int .i64 X2, .int .i64 X3, .int .i64 X4] 60)).alloc (.cells #[.slice B0 X0.length d0, .int .i64 X1, .int .i64 X2, .int .i64 X3, .int .i64 X4] 60)) := ((Below.refl _ _).alloc (Nat.le_refl _) _).alloc (by simp) _
  have P0 := Lib.hid (row_first w #[.slice A0 X0.length c0, .int .i64 X1, .int .i64 X2, .int .i64 X3, .int .i64 X4] #[.slice B0 X0.length d0, .int .i64 X1, .int .i64 X2, .int .i64 X3, .int .i64 X4] 60 60)
  have Q0 := Lib.hid (row_second w #[.slice A0 X0.length c0, .int .i64 X1, .int .i64 X2, .int .i64 X3, .int .i64 X4] #[.slice B0 X0.length d0, .int .i64 X1, .int .i64 X2, .int .i64 X3, .int .i64 X4] 60 60)
  go_enter Try.func63, Try.ntmps63
  go_wp2_with fail
  refine (eqIntS (f0.later b0) (g0.later b0)).mono ?_
  rintro e w1 ⟨rfl, hb⟩
  have b1 := b0.trans (hb.mono b0.size)
  have P1 := Lib.hid (rowk hb P0.out)
  have Q1 := Lib.hid (rowk hb Q0.out)
  clear hb b0 P0 Q0 f0 g0
  have cp1 : w1.cell? ⟨w.heap.size, 1, none⟩ = some (.int .i64 X1) := by rw [row_cell P1.out]; rfl
  have cq1 : w1.cell? ⟨w.heap.size + 1, 1, none⟩ = some (.int .i64 X1) := by rw [row_cell Q1.out]; rfl
  have cp2 : w1.cell? ⟨w.heap.size, 2, none⟩ = some (.int .i64 X2) := by rw [row_cell P1.out]; rfl
  have cq2 : w1.cell? ⟨w.heap.size + 1, 2, none⟩ = some (.int .i64 X2) := by rw [row_cell Q1.out]; rfl
  have cp3 : w1.cell? ⟨w.heap.size, 3, none⟩ = some (.int .i64 X3) := by rw [row_cell P1.out]; rfl
  have cq3 : w1.cell? ⟨w.heap.size + 1, 3, none⟩ = some (.int .i64 X3) := by rw [row_cell Q1.out]; rfl
  have cp4 : w1.cell? ⟨w.heap.size, 4, none⟩ = some (.int .i64 X4) := by rw [row_cell P1.out]; rfl
  have cq4 : w1.cell? ⟨w.heap.size + 1, 4, none⟩ = some (.int .i64 X4) := by rw [row_cell Q1.out]; rfl
  go_wp2_with fail
  go_ret
  exact ⟨rfl, b1⟩

theorem ctx_eq {x : CtxP} {vs us : List Value} {S T : Nat → Prop} {w : World} (hI : ctxShape.I w S vs x) (hJ : ctxShape.I w T us x) :
    Calls Try.prog 63 #[.agg vs.toArray, .agg us.toArray] w fun e w' => e = .returned (.bool true) ∧ Below w.heap.size w w' := by
  obtain ⟨A0, c0, rfl, f0⟩ := hI
  obtain ⟨B0, d0, rfl, g0⟩ := hJ
  exact eqCtx_ f0 g0

set_option maxRecDepth 100000 in
set_option maxHeartbeats 4000000 in
theorem toCtx_ {X0 : List Int} {X1 : Int} {X2 : Int} {X3 : Int} {X4 : Int} {A0 : Option Addr} {c0 : Nat} {S : Nat → Prop} {w : World} (f0 : Fl w S 1 X0 A0 X0.length c0) (hS : X0.length ≤ 1048576) :
    Calls Try.prog 61 #[.agg #[.slice A0 X0.length c0, .int .i64 X1, .int .i64 X2, .int .i64 X3, .int .i64 X4]] w fun e w' => ∃ vs : List Value, e = .returned (.agg vs.toArray) ∧ ctxShape.I w' (Born w w') vs ⟨X0, X1, X2, X3, X4⟩ ∧ Below w.heap.size w w' := by
  have b0 : Below w.heap.size w (((w.alloc (.cells #[.slice A0 X0.length c0, .int .i64 X1, .int .i64 X2, .int .i64 X3, .int .i64 X4] 93)).alloc (.cells #[.slice none 0 0, .int .i64 0, .int .i64 0, .int .i64 0, .int .i64 0] 60)).alloc (.cells #[.slice none 0 0, .int .i64 0, .int .i64 0, .int .i64 0, .int .i64 0] 60)) := (((Below.refl _ _).alloc (Nat.le_refl _) _).alloc (by simp) _).alloc (by simp; omega) _
  have P0 := Lib.hid (row3_first w #[.slice A0 X0.length c0, .int .i64 X1, .int .i64 X2, .int .i64 X3, .int .i64 X4] #[.slice none 0 0, .int .i64 0, .int .i64 0, .int .i64 0, .int .i64 0] #[.slice none 0 0, .int .i64 0, .int .i64 0, .int .i64 0, .int .i64 0] 93 60 60)
  have Q0 := Lib.hid (row3_second w #[.slice A0 X0.length c0, .int .i64 X1, .int .i64 X2, .int .i64 X3, .int .i64 X4] #[.slice none 0 0, .int .i64 0, .int .i64 0, .int .i64 0, .int .i64 0] #[.slice none 0 0, .int .i64 0, .int .i64 0, .int .i64 0, .int .i64 0] 93 60 60)
  have O0 := Lib.hid (row3_third w #[.slice A0 X0.length c0, .int .i64 X1, .int .i64 X2, .int .i64 X3, .int .i64 X4] #[.slice none 0 0, .int .i64 0, .int .i64 0, .int .i64 0, .int .i64 0] #[.slice none 0 0, .int .i64 0, .int .i64 0, .int .i64 0, .int .i64 0] 93 60 60)
  have z0 : w.heap.size + 3 ≤ (((w.alloc (.cells #[.slice A0 X0.length c0, .int .i64 X1, .int .i64 X2, .int .i64 X3, .int .i64 X4] 93)).alloc (.cells #[.slice none 0 0, .int .i64 0, .int .i64 0, .int .i64 0, .int .i64 0] 60)).alloc (.cells #[.slice none 0 0, .int .i64 0, .int .i64 0, .int .i64 0, .int .i64 0] 60)).heap.size := by simp
  go_enter Try.func61, Try.ntmps61
  go_wp2_with fail
  refine (ints_to (f0.later b0) (by omega)).mono ?_
  rintro e w1 ⟨B0, d0, rfl, g0, hb⟩
  have P1 := Lib.hid (rowk hb P0.out)
  have Q1 := Lib.hid (rowk hb Q0.out)
  have O1 := Lib.hid (rowk hb O0.out)
  have hz := hb.size
  replace g0 := g0.mono (T := fun b => w.heap.size + 3 ≤ b ∧ b < w1.heap.size) fun b hp => ⟨by have := hp.1; omega, hp.2⟩
  have b1 := b0.trans (hb.mono b0.size)
  have z1 : w.heap.size + 3 ≤ w1.heap.size := Nat.le_trans z0 hz
  clear hb hz b0 P0 Q0 O0 z0 f0
  have cp1 : w1.cell? ⟨w.heap.size, 1, none⟩ = some (.int .i64 X1) := by rw [row_cell P1.out]; rfl
  have cp2 : w1.cell? ⟨w.heap.size, 2, none⟩ = some (.int .i64 X2) := by rw [row_cell P1.out]; rfl
  have cp3 : w1.cell? ⟨w.heap.size, 3, none⟩ = some (.int .i64 X3) := by rw [row_cell P1.out]; rfl
  have cp4 : w1.cell? ⟨w.heap.size, 4, none⟩ = some (.int .i64 X4) := by rw [row_cell P1.out]; rfl
  have co0 : w1.cell? ⟨w.heap.size + 1 + 1, 0, none⟩ = some (.slice none 0 0) := by rw [row_cell O1.out]; rfl
  have cf0 := row_frozen O1.out 0
  have co1 : w1.cell? ⟨w.heap.size + 1 + 1, 1, none⟩ = some (.int .i64 0) := by rw [row_cell O1.out]; rfl
  have cf1 := row_frozen O1.out 1
  have co2 : w1.cell? ⟨w.heap.size + 1 + 1, 2, none⟩ = some (.int .i64 0) := by rw [row_cell O1.out]; rfl
  have cf2 := row_frozen O1.out 2
  have co3 : w1.cell? ⟨w.heap.size + 1 + 1, 3, none⟩ = some (.int .i64 0) := by rw [row_cell O1.out]; rfl
  have cf3 := row_frozen O1.out 3
  have co4 : w1.cell? ⟨w.heap.size + 1 + 1, 4, none⟩ = some (.int .i64 0) := by rw [row_cell O1.out]; rfl
  have cf4 := row_frozen O1.out 4
  have ct0 : w1.cell? ⟨w.heap.size + 1, 0, none⟩ = some (.slice none 0 0) := by rw [row_cell Q1.out]; rfl
  have ch0 := row_frozen Q1.out 0
  have ct1 : w1.cell? ⟨w.heap.size + 1, 1, none⟩ = some (.int .i64 0) := by rw [row_cell Q1.out]; rfl
  have ch1 := row_frozen Q1.out 1
  have ct2 : w1.cell? ⟨w.heap.size + 1, 2, none⟩ = some (.int .i64 0) := by rw [row_cell Q1.out]; rfl
  have ch2 := row_frozen Q1.out 2
  have ct3 : w1.cell? ⟨w.heap.size + 1, 3, none⟩ = some (.int .i64 0) := by rw [row_cell Q1.out]; rfl
  have ch3 := row_frozen Q1.out 3
  have ct4 : w1.cell? ⟨w.heap.size + 1, 4, none⟩ = some (.int .i64 0) := by rw [row_cell Q1.out]; rfl
  have ch4 := row_frozen Q1.out 4
  go_wp2_with fail
  refine bodyPost_ret (v := .agg #[.slice B0 X0.length d0, .int .i64 X1, .int .i64 X2, .int .i64 X3, .int .i64 X4]) (by simp [results, Try.results61, go_sem, *]) rfl ⟨[.slice B0 X0.length d0, .int .i64 X1, .int .i64 X2, .int .i64 X3, .int .i64 X4], rfl, ?_, ?_⟩
  · exact ⟨B0, d0, rfl, ((((((((((g0.keep (keepO (j := 0) (.slice B0 X0.length d0))).keep (keepO (j := 1) (.int .i64 X1))).keep (keepO (j := 2) (.int .i64 X2))).keep (keepO (j := 3) (.int .i64 X3))).keep (keepO (j := 4) (.int .i64 X4))).keep (keepR (j := 0) (.slice B0 X0.length d0))).keep (keepR (j := 1) (.int .i64 X1))).keep (keepR (j := 2) (.int .i64 X2))).keep (keepR (j := 3) (.int .i64 X3))).keep (keepR (j := 4) (.int .i64 X4))).mono (fun b hb => ⟨by have := hb.1; omega, by simp only [size_set]; exact hb.2⟩)⟩
  · exact ((((((((((b1.setCell (p := ⟨w.heap.size + 1 + 1, 0, none⟩) (by show _ ≤ w.heap.size + 1 + 1; omega) (.slice B0 X0.length d0)).setCell (p := ⟨w.heap.size + 1 + 1, 1, none⟩) (by show _ ≤ w.heap.size + 1 + 1; omega) (.int .i64 X1)).setCell (p := ⟨w.heap.size + 1 + 1, 2, none⟩) (by show _ ≤ w.heap.size + 1 + 1; omega) (.int .i64 X2)).setCell (p := ⟨w.heap.size + 1 + 1, 3, none⟩) (by show _ ≤ w.heap.size + 1 + 1; omega) (.int .i64 X3)).setCell (p := ⟨w.heap.size + 1 + 1, 4, none⟩) (by show _ ≤ w.heap.size + 1 + 1; omega) (.int .i64 X4)).setCell (p := ⟨w.heap.size + 1, 0, none⟩) (by show _ ≤ w.heap.size + 1; omega) (.slice B0 X0.length d0)).setCell (p := ⟨w.heap.size + 1, 1, none⟩) (by show _ ≤ w.heap.size + 1; omega) (.int .i64 X1)).setCell (p := ⟨w.heap.size + 1, 2, none⟩) (by show _ ≤ w.heap.size + 1; omega) (.int .i64 X2)).setCell (p := ⟨w.heap.size + 1, 3, none⟩) (by show _ ≤ w.heap.size + 1; omega) (.int .i64 X3)).setCell (p := ⟨w.heap.size + 1, 4, none⟩) (by show _ ≤ w.heap.size + 1; omega) (.int .i64 X4))

theorem ctx_to {x : CtxP} {vs : List Value} {S : Nat → Prop} {w : World} (hI : ctxShape.I w S vs x) (hS : sizeCtx x ≤ 1048576) :
    Calls Try.prog 61 #[.agg vs.toArray] w fun e w' => ∃ us : List Value, e = .returned (.agg us.toArray) ∧ ctxShape.I w' (Born w w') us x ∧ Below w.heap.size w w' := by
  obtain ⟨A0, c0, rfl, f0⟩ := hI
  exact toCtx_ f0 hS

/-- How much they hold. -/
def innerCtxS : List CtxP → Nat
  | [] => 0
  | L :: Ls => sizeCtx L + innerCtxS Ls
def sizeCtxS (Ls : List CtxP) : Nat := Ls.length + innerCtxS Ls
theorem innerCtxS_drop {Ls : List CtxP} {i : Nat} (h : i < Ls.length) : innerCtxS (Ls.drop i) = sizeCtx (Ls[i]) + innerCtxS (Ls.drop (i + 1)) := by
  rw [List.drop_eq_getElem_cons h]; rfl
theorem innerCtxS_get {Ls : List CtxP} : ∀ {i : Nat} (h : i < Ls.length), sizeCtx (Ls[i]) ≤ innerCtxS Ls := by
  induction Ls with
  | nil => intro i h; simp at h
  | cons L Ls ih =>
    intro i h
    cases i with
    | zero => simp only [List.getElem_cons_zero, innerCtxS]; omega
    | succ i => simp only [List.getElem_cons_succ, innerCtxS]; have := ih (i := i) (by simpa using h); omega

/-- The k-th of a slice, cell by cell. -/
theorem ctx_at {w : World} {S : Nat → Prop} {Ls : List CtxP} {A : Option Addr} {n c : Nat} (h : Recs ctxShape w S Ls A n c) (k : Nat) (hk : k < Ls.length) :
    ∃ (a : Addr) (x : CtxP) (A0 : Option Addr) (c0 : Nat), Ls[k] = x ∧ A = some a ∧ w.cell? (a.add (k * 5)) = some (.slice A0 x.regs.length c0) ∧ w.cell? ⟨(a.add (k * 5)).block, (a.add (k * 5)).off + 1, none⟩ = some (.int .i64 x.pc) ∧ w.cell? ⟨(a.add (k * 5)).block, (a.add (k * 5)).off + 2, none⟩ = some (.int .i64 x.mode) ∧ w.cell? ⟨(a.add (k * 5)).block, (a.add (k * 5)).off + 3, none⟩ = some (.int .i64 x.on) ∧ w.cell? ⟨(a.add (k * 5)).block, (a.add (k * 5)).off + 4, none⟩ = some (.int .i64 x.room) ∧ ctxShape.I w S [.slice A0 x.regs.length c0, .int .i64 x.pc, .int .i64 x.mode, .int .i64 x.on, .int .i64 x.room] x := by
  obtain ⟨a, vs, rfl, _, hq, hI⟩ := h.at_ k hk
  have hI' := hI
  obtain ⟨A0, c0, rfl, f0⟩ := hI'
  exact ⟨a, Ls[k], A0, c0, rfl, rfl, hq 0 (by decide), hq 1 (by decide), hq 2 (by decide), hq 3 (by decide), hq 4 (by decide), hI⟩

def SzCtxRel (Ls : List CtxP) (w : World) (left : Int) (l i : Value) (wr : World) : Prop :=
  ∃ (k : Nat) (z : Int), k ≤ Ls.length ∧ i = .int .i64 k ∧ l = .int .i64 z ∧ 0 ≤ z ∧ z ≤ 1048576 ∧ szI (innerCtxS (Ls.drop k)) z = szI (sizeCtxS Ls) left ∧ Below w.heap.size w wr

set_option maxRecDepth 100000 in
theorem ctxs_sz {Ls : List CtxP} {A : Option Addr} {c : Nat} {S : Nat → Prop} {w : World} {left : Int} (hs : Recs ctxShape w S Ls A Ls.length c) (h0 : 0 ≤ left) (h1 : left ≤ 1048576) :
    Calls Try.prog 24 #[.slice A Ls.length c, .int .i64 left] w fun e w' => e = .returned (.int .i64 (szI (sizeCtxS Ls) left)) ∧ Below w.heap.size w w' := by
  have hmax := hs.max
  generalize hn : Ls.length = n at *
  have HN := Lib.hid hn
  have hlen : n ≤ Ls.length := Nat.le_of_eq hn.symm
  have hlen' : Ls.length ≤ n := Nat.le_of_eq hn
  clear hn
  by_cases hl : (n : Int) ≤ left
  · have g1 : 0 ≤ left - (n : Int) := by omega
    go_enter Try.func24, Try.ntmps24
    go_wp2_with fail
    go_loopw [1, 5] (fun l i wr => SzCtxRel Ls w left l i wr) (fun _ i _ => n - (intOf i).toNat)
    case atStart => exact ⟨0, left - n, Nat.zero_le _, rfl, rfl, g1, by omega, by rw [List.drop_zero, sizeCtxS, HN.out]; exact (szI_step _ _ _).symm, Below.refl _ _⟩
    case round =>
      obtain ⟨k, z, hk, rfl, rfl, z0, z1, hz, hb⟩ := hrel
      have HZ := Lib.hid hz
      clear hz
      by_cases hlt : k < n
      · have hk' : k < Ls.length := by omega
        have HI := Lib.hid (innerCtxS_drop hk')
        obtain ⟨a, x, A0, c0, hx, rfl, q0, q1, q2, q3, q4, hI⟩ := ctx_at (hs.later (by decide) hb) k hk'
        rw [hx] at HI
        have hsz := hb.size
        clear hx
        by_cases hfit : (sizeCtx x : Int) ≤ z
        · have H1 := Lib.hid (szI_yes hfit)
          have g2 : 0 ≤ z - (sizeCtx x : Int) := by omega
          have HJ := Lib.hid hI
          clear hI
          go_wp2_with fail
          refine (ctx_sz HJ.out z0 z1).mono ?_
          rintro e w1 ⟨rfl, hb1⟩
          rw [H1.out]
          go_wp2_with fail
          go_roundw
          case rel => exact ⟨k + 1, z - sizeCtx x, by omega, by go_num, rfl, g2, by omega, by rw [← HZ.out, HI.out]; exact (szI_step _ _ _).symm, hb.trans (hb1.mono hsz)⟩
          case measure => simp [intOf]; omega
        · have H1 := Lib.hid (szI_no hfit)
          have H2 := Lib.hid (show szI (sizeCtxS Ls) left = -1 from by rw [← HZ.out, HI.out]; exact szI_stop hfit)
          have HJ := Lib.hid hI
          clear hI
          go_wp2_with fail
          refine (ctx_sz HJ.out z0 z1).mono ?_
          rintro e w1 ⟨rfl, hb1⟩
          rw [H1.out]
          go_wp2_with fail
          go_ret
          exact ⟨by rw [H2.out]; rfl, hb.trans (hb1.mono hsz)⟩
      · have hend : Ls.drop k = [] := List.drop_of_length_le (by omega)
        have H2 := Lib.hid (show szI (sizeCtxS Ls) left = z from by rw [← HZ.out, hend, innerCtxS, szI, if_pos (by simpa using z0)]; simp)
        clear hend
        go_wp2_with fail
        go_ret
        exact ⟨by rw [H2.out]; rfl, hb⟩
  · have H2 := Lib.hid (show szI (sizeCtxS Ls) left = -1 from by unfold sizeCtxS; exact szI_stop (by omega))
    go_enter Try.func24, Try.ntmps24
    go_wp2_with fail
    go_ret
    exact ⟨by rw [H2.out]; rfl, Below.refl _ _⟩

set_option maxRecDepth 100000 in
theorem ctxs_eq {Ls : List CtxP} {A A' : Option Addr} {c c' : Nat} {S T : Nat → Prop} {w : World} (hs : Recs ctxShape w S Ls A Ls.length c) (ht : Recs ctxShape w T Ls A' Ls.length c') :
    Calls Try.prog 40 #[.slice A Ls.length c, .slice A' Ls.length c'] w fun e w' => e = .returned (.bool true) ∧ Below w.heap.size w w' := by
  have hmax := hs.max
  generalize hn : Ls.length = n at *
  have hlen : n ≤ Ls.length := Nat.le_of_eq hn.symm
  clear hn
  go_enter Try.func40, Try.ntmps40
  go_wp2_with fail
  go_loopw [5] (fun i wr => ∃ k : Nat, k ≤ n ∧ i = .int .i64 k ∧ Below w.heap.size w wr) (fun i _ => n - (intOf i).toNat)
  case atStart => exact ⟨0, Nat.zero_le _, rfl, Below.refl _ _⟩
  case round =>
    obtain ⟨k, hk, rfl, hb⟩ := hrel
    by_cases hlt : k < n
    · have hk' : k < Ls.length := by omega
      obtain ⟨a, x, A0, c0, hx, rfl, q0, q1, q2, q3, q4, hI⟩ := ctx_at (hs.later (by decide) hb) k hk'
      obtain ⟨b, y, B0, d0, hy, rfl, r0, r1, r2, r3, r4, hJ⟩ := ctx_at (ht.later (by decide) hb) k hk'
      rw [hx] at hy
      subst hy
      have hsz := hb.size
      have HI := Lib.hid hI
      have HJ := Lib.hid hJ
      clear hI hJ hx
      go_wp2_with fail
      go_still_tail 8, (by kernel_rfl)
      change wpList _ _ _ _ _ wr.drew
      have hdr : Below wr.heap.size wr wr.drew := (Below.refl _ _).drew
      go_wp2_with fail
      refine (ctx_eq (ctxShape.keep (w' := wr.drew) HI.out fun p _ => rfl) (ctxShape.keep (w' := wr.drew) HJ.out fun p _ => rfl)).mono ?_
      rintro e w1 ⟨rfl, hb1⟩
      have hb1' : Below wr.heap.size wr w1 := hdr.trans hb1
      clear hb1 hdr
      go_wp2_with fail
      go_roundw
      case rel => exact ⟨k + 1, by omega, by go_num, hb.trans (hb1'.mono hsz)⟩
      case measure => simp [intOf]; omega
    · go_wp2_with fail
      go_ret
      exact ⟨rfl, hb⟩

theorem info_Ctx : (Try.prog.info? 60).map (fun i => (i.zero, i.size, i.bytes)) = some (some (.agg #[.slice none 0 0, .int .i64 0, .int .i64 0, .int .i64 0, .int .i64 0]), 5, 56) := by kernel_rfl

theorem make_Ctx (n : Nat) (hn : n ≤ 1048576) (w : World) : (Instr.makeSlice 30 (.int .i64 (n : Int)) (.int .i64 (n : Int))).run Try.prog w =
    .ok (.slice (some ⟨w.heap.size, 0, none⟩) n n) (w.alloc (.cells (madeCells #[.slice none 0 0, .int .i64 0, .int .i64 0, .int .i64 0, .int .i64 0] (n * 5)) 60)) := by
  have hi := info_Ctx
  obtain ⟨i, hi0, hi1⟩ := Option.map_eq_some_iff.1 hi
  simp only [Prod.mk.injEq] at hi1
  obtain ⟨e0, e1, e2⟩ := hi1
  have h := run_make (P := Try.prog) w 30 60 i _ Try.underlying30 hi0 e0 .i64 .i64 (n : Int) (n : Int) (by omega) (by omega) (by rw [e2]; omega) (by omega)
  rw [e1] at h
  simp only [Int.toNat_natCast] at h
  exact h

set_option maxRecDepth 100000 in
theorem ctxs_to {Ls : List CtxP} {A : Option Addr} {c : Nat} {S : Nat → Prop} {w : World} (hs : Recs ctxShape w S Ls A Ls.length c) (hS : sizeCtxS Ls ≤ 1048576) :
    Calls Try.prog 31 #[.slice A Ls.length c] w fun e w' => ∃ (A' : Option Addr) (c' : Nat), e = .returned (.slice A' Ls.length c') ∧ Recs ctxShape w' (Born w w') Ls A' Ls.length c' ∧ Below w.heap.size w w' := by
  have hll : Ls.length + innerCtxS Ls ≤ 1048576 := hS
  have hmk := fun W => make_Ctx Ls.length (by omega) W
  generalize hn : Ls.length = n at *
  have HN := Lib.hid hn
  have hn1 : n ≤ Ls.length := Nat.le_of_eq hn.symm
  have hn2 : Ls.length ≤ n := Nat.le_of_eq hn
  clear hn
  go_enter Try.func31, Try.ntmps31
  go_wp2_with fail
  go_loopw [4] (fun i wr => ∃ k : Nat, k ≤ n ∧ i = .int .i64 k ∧ Making ctxShape w 60 Ls k wr) (fun i _ => n - (intOf i).toNat)
  case atStart => exact ⟨0, Nat.zero_le _, rfl, Making.start ctxShape w 60 Ls #[.slice none 0 0, .int .i64 0, .int .i64 0, .int .i64 0, .int .i64 0] HN.out.symm⟩
  case round =>
    clear hmk
    obtain ⟨k, hk, rfl, hm⟩ := hrel
    by_cases hlt : k < n
    · have hk' : k < Ls.length := by omega
      have hsg := innerCtxS_get hk'
      obtain ⟨a, x, A0, c0, hx, rfl, q0, q1, q2, q3, q4, hI⟩ := ctx_at (hs.later (by decide) hm.below) k hk'
      rw [hx] at hsg
      have HX := Lib.hid hx
      have HI := Lib.hid hI
      have HM := Lib.hid hm
      clear hx hI hm
      go_wp2_with fail
      refine (ctx_to HI.out (by omega)).mono ?_
      rintro e w1 ⟨us, rfl, s2, hb1⟩
      obtain ⟨B0, d0, rfl, _⟩ := id s2
      obtain ⟨⟨v0, r0⟩, z0⟩ := HM.out.place hk' hb1 0 (by decide)
      obtain ⟨⟨v1, r1⟩, z1⟩ := HM.out.place hk' hb1 1 (by decide)
      obtain ⟨⟨v2, r2⟩, z2⟩ := HM.out.place hk' hb1 2 (by decide)
      obtain ⟨⟨v3, r3⟩, z3⟩ := HM.out.place hk' hb1 3 (by decide)
      obtain ⟨⟨v4, r4⟩, z4⟩ := HM.out.place hk' hb1 4 (by decide)
      rw [show k * ctxShape.z + 0 = k * 5 from rfl] at r0 z0
      rw [show k * ctxShape.z + 1 = k * 5 + 1 from rfl] at r1 z1
      rw [show k * ctxShape.z + 2 = k * 5 + 2 from rfl] at r2 z2
      rw [show k * ctxShape.z + 3 = k * 5 + 3 from rfl] at r3 z3
      rw [show k * ctxShape.z + 4 = k * 5 + 4 from rfl] at r4 z4
      have HB := Lib.hid hb1
      have HS := Lib.hid s2
      clear hb1 s2
      go_wp2_with fail
      go_roundw
      case rel =>
        refine ⟨k + 1, by omega, by go_num, ?_⟩
        have h := HM.out.next' hk' HX.out HB.out HS.out (m := k * 5) rfl
        simp only [setCells] at h
        exact h
      case measure => simp [intOf]; omega
    · go_wp2_with fail
      go_ret
      obtain rfl : k = n := by omega
      have h := HN.out
      subst h
      exact ⟨_, _, rfl, hm.done (by unfold maxLen; omega), hm.below⟩
end Go.Proofs.Ytkiekabfmdcemaa
