/- The program's StmtOk, given what it says of what is within. -/
import Derived.Test.YtnfnjhbaaefbpaaGreatDoorOkFits
import Derived.Test.YtnfnjhbaaefbpaaGreatDoorOkClos
namespace Go.Proofs.YtnfnjhbaaefbpaaGreatDoor
open Go.ChangeShapes Go.WideShapes Go.ChangeAt Go.RowKit

def roomB (r : Int) : Bool := decide (0 ≤ r ∧ r < 2)
theorem isRoom (r : Int) (w : World) : Calls Tryz.prog 44 #[.int .i64 r] w fun e w' => e = .returned (.bool (roomB r)) ∧ w = w' := by
  by_cases h1 : 0 ≤ r
  · by_cases h2 : r < 2
    · rw [show roomB r = true from decide_eq_true ⟨h1, h2⟩]
      go_enter Tryz.func44, Tryz.ntmps44
      go_wp2
      go_ret
      exact ⟨rfl, rfl⟩
    · rw [show roomB r = false from decide_eq_false (by omega)]
      go_enter Tryz.func44, Tryz.ntmps44
      go_wp2
      go_ret
      exact ⟨rfl, rfl⟩
  · rw [show roomB r = false from decide_eq_false (by omega)]
    go_enter Tryz.func44, Tryz.ntmps44
    go_wp2
    go_ret
    exact ⟨rfl, rfl⟩

theorem okS_fit {k x y n : Int} {B E : SL} {d r : Int} (h : fitB k x y n B.len E.len r = false) : okS k x y n B E d r = false := okS_head (by rw [headB_fit, h, Bool.and_false])
theorem okS_fits {k x y n : Int} {B E : SL} {d r : Int} (hd : 1 ≤ d) (h : fitB k x y n B.len E.len r = true) : okS k x y n B E d r = (okL B (d - 1) (inR k x r) && okL E (d - 1) (inR k x r)) := by
  rw [okS, headB_fit, h, decide_eq_true hd]; rfl

theorem kindOf_none (k x y n : Int) (vB vE : Value) (w : World) (h : ¬ (1 ≤ k ∧ k ≤ 11)) :
    Calls Tryz.prog 61 #[.agg #[.int .i64 k, .int .i64 x, .int .i64 y, .int .i64 n, vB, vE]] w fun e w' => e = .returned (.tuple #[.nilIface, .bool false]) ∧ Below w.heap.size w w' := by
  have h1 : k ≠ 1 := by omega
  have h2 : k ≠ 2 := by omega
  have h3 : k ≠ 3 := by omega
  have h4 : k ≠ 4 := by omega
  have h5 : k ≠ 5 := by omega
  have h6 : k ≠ 6 := by omega
  have h7 : k ≠ 7 := by omega
  have h8 : k ≠ 8 := by omega
  have h9 : k ≠ 9 := by omega
  have h10 : k ≠ 10 := by omega
  have h11 : k ≠ 11 := by omega
  clear h
  go_enter Tryz.func61, Tryz.ntmps61
  go_wp2
  go_ret2
  exact ⟨rfl, (Below.refl _ _).alloc (Nat.le_refl _) _⟩

set_option maxRecDepth 100000 in
theorem kindOf_num (x y n : Int) (vB vE : Value) (w : World) :
    Calls Tryz.prog 61 #[.agg #[.int .i64 1, .int .i64 x, .int .i64 y, .int .i64 n, vB, vE]] w fun e w' => e = .returned (.tuple #[.iface 106 (.agg #[.int .i64 1, .int .i64 x, .int .i64 y, .int .i64 n, vB, vE]), .bool true]) ∧ Below w.heap.size w w' := by
  go_enter Tryz.func61, Tryz.ntmps61
  go_wp2
  go_ret2
  refine ⟨rfl, ?_⟩
  repeat' (first | exact Below.refl _ _ | (refine Below.alloc ?_ (by first | exact Nat.le_refl _ | (simp; done) | (simp; omega)) _) | (refine Below.setCell ?_ (by first | exact Nat.le_refl _ | (simp; done) | (simp; omega)) _))

set_option maxRecDepth 100000 in
theorem kindOf_do (x y n : Int) (vB vE : Value) (w : World) :
    Calls Tryz.prog 61 #[.agg #[.int .i64 2, .int .i64 x, .int .i64 y, .int .i64 n, vB, vE]] w fun e w' => e = .returned (.tuple #[.iface 107 (.agg #[.int .i64 2, .int .i64 x, .int .i64 y, .int .i64 n, vB, vE]), .bool true]) ∧ Below w.heap.size w w' := by
  go_enter Tryz.func61, Tryz.ntmps61
  go_wp2
  go_ret2
  refine ⟨rfl, ?_⟩
  repeat' (first | exact Below.refl _ _ | (refine Below.alloc ?_ (by first | exact Nat.le_refl _ | (simp; done) | (simp; omega)) _) | (refine Below.setCell ?_ (by first | exact Nat.le_refl _ | (simp; done) | (simp; omega)) _))

set_option maxRecDepth 100000 in
theorem kindOf_load (x y n : Int) (vB vE : Value) (w : World) :
    Calls Tryz.prog 61 #[.agg #[.int .i64 3, .int .i64 x, .int .i64 y, .int .i64 n, vB, vE]] w fun e w' => e = .returned (.tuple #[.iface 108 (.agg #[.int .i64 3, .int .i64 x, .int .i64 y, .int .i64 n, vB, vE]), .bool true]) ∧ Below w.heap.size w w' := by
  go_enter Tryz.func61, Tryz.ntmps61
  go_wp2
  go_ret2
  refine ⟨rfl, ?_⟩
  repeat' (first | exact Below.refl _ _ | (refine Below.alloc ?_ (by first | exact Nat.le_refl _ | (simp; done) | (simp; omega)) _) | (refine Below.setCell ?_ (by first | exact Nat.le_refl _ | (simp; done) | (simp; omega)) _))

set_option maxRecDepth 100000 in
theorem kindOf_store (x y n : Int) (vB vE : Value) (w : World) :
    Calls Tryz.prog 61 #[.agg #[.int .i64 4, .int .i64 x, .int .i64 y, .int .i64 n, vB, vE]] w fun e w' => e = .returned (.tuple #[.iface 109 (.agg #[.int .i64 4, .int .i64 x, .int .i64 y, .int .i64 n, vB, vE]), .bool true]) ∧ Below w.heap.size w w' := by
  go_enter Tryz.func61, Tryz.ntmps61
  go_wp2
  go_ret2
  refine ⟨rfl, ?_⟩
  repeat' (first | exact Below.refl _ _ | (refine Below.alloc ?_ (by first | exact Nat.le_refl _ | (simp; done) | (simp; omega)) _) | (refine Below.setCell ?_ (by first | exact Nat.le_refl _ | (simp; done) | (simp; omega)) _))

set_option maxRecDepth 100000 in
theorem kindOf_say (x y n : Int) (vB vE : Value) (w : World) :
    Calls Tryz.prog 61 #[.agg #[.int .i64 5, .int .i64 x, .int .i64 y, .int .i64 n, vB, vE]] w fun e w' => e = .returned (.tuple #[.iface 110 (.agg #[.int .i64 5, .int .i64 x, .int .i64 y, .int .i64 n, vB, vE]), .bool true]) ∧ Below w.heap.size w w' := by
  go_enter Tryz.func61, Tryz.ntmps61
  go_wp2
  go_ret2
  refine ⟨rfl, ?_⟩
  repeat' (first | exact Below.refl _ _ | (refine Below.alloc ?_ (by first | exact Nat.le_refl _ | (simp; done) | (simp; omega)) _) | (refine Below.setCell ?_ (by first | exact Nat.le_refl _ | (simp; done) | (simp; omega)) _))

set_option maxRecDepth 100000 in
theorem kindOf_if (x y n : Int) (vB vE : Value) (w : World) :
    Calls Tryz.prog 61 #[.agg #[.int .i64 6, .int .i64 x, .int .i64 y, .int .i64 n, vB, vE]] w fun e w' => e = .returned (.tuple #[.iface 111 (.agg #[.int .i64 6, .int .i64 x, .int .i64 y, .int .i64 n, vB, vE]), .bool true]) ∧ Below w.heap.size w w' := by
  go_enter Tryz.func61, Tryz.ntmps61
  go_wp2
  go_ret2
  refine ⟨rfl, ?_⟩
  repeat' (first | exact Below.refl _ _ | (refine Below.alloc ?_ (by first | exact Nat.le_refl _ | (simp; done) | (simp; omega)) _) | (refine Below.setCell ?_ (by first | exact Nat.le_refl _ | (simp; done) | (simp; omega)) _))

set_option maxRecDepth 100000 in
theorem kindOf_while (x y n : Int) (vB vE : Value) (w : World) :
    Calls Tryz.prog 61 #[.agg #[.int .i64 7, .int .i64 x, .int .i64 y, .int .i64 n, vB, vE]] w fun e w' => e = .returned (.tuple #[.iface 112 (.agg #[.int .i64 7, .int .i64 x, .int .i64 y, .int .i64 n, vB, vE]), .bool true]) ∧ Below w.heap.size w w' := by
  go_enter Tryz.func61, Tryz.ntmps61
  go_wp2
  go_ret2
  refine ⟨rfl, ?_⟩
  repeat' (first | exact Below.refl _ _ | (refine Below.alloc ?_ (by first | exact Nat.le_refl _ | (simp; done) | (simp; omega)) _) | (refine Below.setCell ?_ (by first | exact Nat.le_refl _ | (simp; done) | (simp; omega)) _))

set_option maxRecDepth 100000 in
theorem kindOf_in (x y n : Int) (vB vE : Value) (w : World) :
    Calls Tryz.prog 61 #[.agg #[.int .i64 8, .int .i64 x, .int .i64 y, .int .i64 n, vB, vE]] w fun e w' => e = .returned (.tuple #[.iface 113 (.agg #[.int .i64 8, .int .i64 x, .int .i64 y, .int .i64 n, vB, vE]), .bool true]) ∧ Below w.heap.size w w' := by
  go_enter Tryz.func61, Tryz.ntmps61
  go_wp2
  go_ret2
  refine ⟨rfl, ?_⟩
  repeat' (first | exact Below.refl _ _ | (refine Below.alloc ?_ (by first | exact Nat.le_refl _ | (simp; done) | (simp; omega)) _) | (refine Below.setCell ?_ (by first | exact Nat.le_refl _ | (simp; done) | (simp; omega)) _))

set_option maxRecDepth 100000 in
theorem kindOf_wait (x y n : Int) (vB vE : Value) (w : World) :
    Calls Tryz.prog 61 #[.agg #[.int .i64 9, .int .i64 x, .int .i64 y, .int .i64 n, vB, vE]] w fun e w' => e = .returned (.tuple #[.iface 114 (.agg #[.int .i64 9, .int .i64 x, .int .i64 y, .int .i64 n, vB, vE]), .bool true]) ∧ Below w.heap.size w w' := by
  go_enter Tryz.func61, Tryz.ntmps61
  go_wp2
  go_ret2
  refine ⟨rfl, ?_⟩
  repeat' (first | exact Below.refl _ _ | (refine Below.alloc ?_ (by first | exact Nat.le_refl _ | (simp; done) | (simp; omega)) _) | (refine Below.setCell ?_ (by first | exact Nat.le_refl _ | (simp; done) | (simp; omega)) _))

set_option maxRecDepth 100000 in
theorem kindOf_signal (x y n : Int) (vB vE : Value) (w : World) :
    Calls Tryz.prog 61 #[.agg #[.int .i64 10, .int .i64 x, .int .i64 y, .int .i64 n, vB, vE]] w fun e w' => e = .returned (.tuple #[.iface 115 (.agg #[.int .i64 10, .int .i64 x, .int .i64 y, .int .i64 n, vB, vE]), .bool true]) ∧ Below w.heap.size w w' := by
  go_enter Tryz.func61, Tryz.ntmps61
  go_wp2
  go_ret2
  refine ⟨rfl, ?_⟩
  repeat' (first | exact Below.refl _ _ | (refine Below.alloc ?_ (by first | exact Nat.le_refl _ | (simp; done) | (simp; omega)) _) | (refine Below.setCell ?_ (by first | exact Nat.le_refl _ | (simp; done) | (simp; omega)) _))

set_option maxRecDepth 100000 in
theorem kindOf_yield (x y n : Int) (vB vE : Value) (w : World) :
    Calls Tryz.prog 61 #[.agg #[.int .i64 11, .int .i64 x, .int .i64 y, .int .i64 n, vB, vE]] w fun e w' => e = .returned (.tuple #[.iface 116 (.agg #[.int .i64 11, .int .i64 x, .int .i64 y, .int .i64 n, vB, vE]), .bool true]) ∧ Below w.heap.size w w' := by
  go_enter Tryz.func61, Tryz.ntmps61
  go_wp2
  go_ret2
  refine ⟨rfl, ?_⟩
  repeat' (first | exact Below.refl _ _ | (refine Below.alloc ?_ (by first | exact Nat.le_refl _ | (simp; done) | (simp; omega)) _) | (refine Below.setCell ?_ (by first | exact Nat.le_refl _ | (simp; done) | (simp; omega)) _))

end Go.Proofs.YtnfnjhbaaefbpaaGreatDoor
