/- The program's checks of a statement's own fields, kind by kind. -/
import Derived.Test.YtnfnjhbaaefbpaaGreatDoorOkPure
namespace Go.Proofs.YtnfnjhbaaefbpaaGreatDoor
open Go.ChangeShapes Go.WideShapes Go.ChangeAt Go.RowKit

/-- Whether the fields are as the kind has them, in a room or in none. -/
def fitB (k x y n : Int) (lb le : Nat) (r : Int) : Bool := headB k x y n lb le 1 r

theorem headB_fit (k x y n : Int) (lb le : Nat) (d r : Int) : headB k x y n lb le d r = (decide (1 ≤ d) && fitB k x y n lb le r) := by simp [fitB, headB]

set_option maxRecDepth 100000 in
set_option maxHeartbeats 4000000 in
theorem fits_num (x y n r : Int) (A A' : Option Addr) (lb c le c' : Nat) (w : World) (_hr0 : -1 ≤ r) (_hr1 : r ≤ 1) :
    Calls Tryz.prog 97 #[.agg #[.int .i64 1, .int .i64 x, .int .i64 y, .int .i64 n, .slice A lb c, .slice A' le c'], .int .i64 r] w fun e w' => e = .returned (.bool (fitB 1 x y n lb le r)) ∧ Below w.heap.size w w' := by
  go_enter Tryz.func97, Tryz.ntmps97
  go_wp2
  all_goals
    go_ret
    refine ⟨retB ?_, ?_⟩
    · rw [Bool.eq_iff_iff]
      simp [fitB, headB, leafB, *] <;> omega
    · repeat' (first | exact Below.refl _ _ | (refine Below.alloc ?_ (by first | exact Nat.le_refl _ | (simp; done) | (simp; omega)) _))

set_option maxRecDepth 100000 in
set_option maxHeartbeats 4000000 in
theorem fits_do (x y n r : Int) (A A' : Option Addr) (lb c le c' : Nat) (w : World) (_hr0 : -1 ≤ r) (_hr1 : r ≤ 1) :
    Calls Tryz.prog 101 #[.agg #[.int .i64 2, .int .i64 x, .int .i64 y, .int .i64 n, .slice A lb c, .slice A' le c'], .int .i64 r] w fun e w' => e = .returned (.bool (fitB 2 x y n lb le r)) ∧ Below w.heap.size w w' := by
  go_enter Tryz.func101, Tryz.ntmps101
  go_wp2
  all_goals
    go_ret
    refine ⟨retB ?_, ?_⟩
    · rw [Bool.eq_iff_iff]
      simp [fitB, headB, leafB, *] <;> omega
    · repeat' (first | exact Below.refl _ _ | (refine Below.alloc ?_ (by first | exact Nat.le_refl _ | (simp; done) | (simp; omega)) _))

set_option maxRecDepth 100000 in
set_option maxHeartbeats 4000000 in
theorem fits_load (x y n r : Int) (A A' : Option Addr) (lb c le c' : Nat) (w : World) (_hr0 : -1 ≤ r) (_hr1 : r ≤ 1) :
    Calls Tryz.prog 104 #[.agg #[.int .i64 3, .int .i64 x, .int .i64 y, .int .i64 n, .slice A lb c, .slice A' le c'], .int .i64 r] w fun e w' => e = .returned (.bool (fitB 3 x y n lb le r)) ∧ Below w.heap.size w w' := by
  go_enter Tryz.func104, Tryz.ntmps104
  go_wp2
  all_goals
    go_ret
    refine ⟨retB ?_, ?_⟩
    · rw [Bool.eq_iff_iff]
      simp [fitB, headB, leafB, *] <;> omega
    · repeat' (first | exact Below.refl _ _ | (refine Below.alloc ?_ (by first | exact Nat.le_refl _ | (simp; done) | (simp; omega)) _))

set_option maxRecDepth 100000 in
set_option maxHeartbeats 4000000 in
theorem fits_store (x y n r : Int) (A A' : Option Addr) (lb c le c' : Nat) (w : World) (_hr0 : -1 ≤ r) (_hr1 : r ≤ 1) :
    Calls Tryz.prog 107 #[.agg #[.int .i64 4, .int .i64 x, .int .i64 y, .int .i64 n, .slice A lb c, .slice A' le c'], .int .i64 r] w fun e w' => e = .returned (.bool (fitB 4 x y n lb le r)) ∧ Below w.heap.size w w' := by
  go_enter Tryz.func107, Tryz.ntmps107
  go_wp2
  all_goals
    go_ret
    refine ⟨retB ?_, ?_⟩
    · rw [Bool.eq_iff_iff]
      simp [fitB, headB, leafB, *] <;> omega
    · repeat' (first | exact Below.refl _ _ | (refine Below.alloc ?_ (by first | exact Nat.le_refl _ | (simp; done) | (simp; omega)) _))

set_option maxRecDepth 100000 in
set_option maxHeartbeats 4000000 in
theorem fits_say (x y n r : Int) (A A' : Option Addr) (lb c le c' : Nat) (w : World) (_hr0 : -1 ≤ r) (_hr1 : r ≤ 1) :
    Calls Tryz.prog 110 #[.agg #[.int .i64 5, .int .i64 x, .int .i64 y, .int .i64 n, .slice A lb c, .slice A' le c'], .int .i64 r] w fun e w' => e = .returned (.bool (fitB 5 x y n lb le r)) ∧ Below w.heap.size w w' := by
  go_enter Tryz.func110, Tryz.ntmps110
  go_wp2
  all_goals
    go_ret
    refine ⟨retB ?_, ?_⟩
    · rw [Bool.eq_iff_iff]
      simp [fitB, headB, leafB, *] <;> omega
    · repeat' (first | exact Below.refl _ _ | (refine Below.alloc ?_ (by first | exact Nat.le_refl _ | (simp; done) | (simp; omega)) _))

set_option maxRecDepth 100000 in
set_option maxHeartbeats 4000000 in
theorem fits_if (x y n r : Int) (A A' : Option Addr) (lb c le c' : Nat) (w : World) (_hr0 : -1 ≤ r) (_hr1 : r ≤ 1) :
    Calls Tryz.prog 113 #[.agg #[.int .i64 6, .int .i64 x, .int .i64 y, .int .i64 n, .slice A lb c, .slice A' le c'], .int .i64 r] w fun e w' => e = .returned (.bool (fitB 6 x y n lb le r)) ∧ Below w.heap.size w w' := by
  go_enter Tryz.func113, Tryz.ntmps113
  go_wp2
  all_goals
    go_ret
    refine ⟨retB ?_, ?_⟩
    · rw [Bool.eq_iff_iff]
      simp [fitB, headB, *] <;> omega
    · repeat' (first | exact Below.refl _ _ | (refine Below.alloc ?_ (by first | exact Nat.le_refl _ | (simp; done) | (simp; omega)) _))

set_option maxRecDepth 100000 in
set_option maxHeartbeats 4000000 in
theorem fits_while (x y n r : Int) (A A' : Option Addr) (lb c le c' : Nat) (w : World) (_hr0 : -1 ≤ r) (_hr1 : r ≤ 1) :
    Calls Tryz.prog 116 #[.agg #[.int .i64 7, .int .i64 x, .int .i64 y, .int .i64 n, .slice A lb c, .slice A' le c'], .int .i64 r] w fun e w' => e = .returned (.bool (fitB 7 x y n lb le r)) ∧ Below w.heap.size w w' := by
  go_enter Tryz.func116, Tryz.ntmps116
  go_wp2
  all_goals
    go_ret
    refine ⟨retB ?_, ?_⟩
    · rw [Bool.eq_iff_iff]
      simp [fitB, headB, *] <;> omega
    · repeat' (first | exact Below.refl _ _ | (refine Below.alloc ?_ (by first | exact Nat.le_refl _ | (simp; done) | (simp; omega)) _))

set_option maxRecDepth 100000 in
set_option maxHeartbeats 4000000 in
theorem fits_in (x y n r : Int) (A A' : Option Addr) (lb c le c' : Nat) (w : World) (_hr0 : -1 ≤ r) (_hr1 : r ≤ 1) :
    Calls Tryz.prog 119 #[.agg #[.int .i64 8, .int .i64 x, .int .i64 y, .int .i64 n, .slice A lb c, .slice A' le c'], .int .i64 r] w fun e w' => e = .returned (.bool (fitB 8 x y n lb le r)) ∧ Below w.heap.size w w' := by
  go_enter Tryz.func119, Tryz.ntmps119
  go_wp2
  all_goals
    go_ret
    refine ⟨retB ?_, ?_⟩
    · rw [Bool.eq_iff_iff]
      simp [fitB, headB, *] <;> omega
    · repeat' (first | exact Below.refl _ _ | (refine Below.alloc ?_ (by first | exact Nat.le_refl _ | (simp; done) | (simp; omega)) _))

set_option maxRecDepth 100000 in
set_option maxHeartbeats 4000000 in
theorem fits_wait (x y n r : Int) (A A' : Option Addr) (lb c le c' : Nat) (w : World) (_hr0 : -1 ≤ r) (_hr1 : r ≤ 1) :
    Calls Tryz.prog 122 #[.agg #[.int .i64 9, .int .i64 x, .int .i64 y, .int .i64 n, .slice A lb c, .slice A' le c'], .int .i64 r] w fun e w' => e = .returned (.bool (fitB 9 x y n lb le r)) ∧ Below w.heap.size w w' := by
  go_enter Tryz.func122, Tryz.ntmps122
  go_wp2
  all_goals
    go_ret
    refine ⟨retB ?_, ?_⟩
    · rw [Bool.eq_iff_iff]
      simp [fitB, headB, leafB, *] <;> omega
    · repeat' (first | exact Below.refl _ _ | (refine Below.alloc ?_ (by first | exact Nat.le_refl _ | (simp; done) | (simp; omega)) _))

set_option maxRecDepth 100000 in
set_option maxHeartbeats 4000000 in
theorem fits_signal (x y n r : Int) (A A' : Option Addr) (lb c le c' : Nat) (w : World) (_hr0 : -1 ≤ r) (_hr1 : r ≤ 1) :
    Calls Tryz.prog 125 #[.agg #[.int .i64 10, .int .i64 x, .int .i64 y, .int .i64 n, .slice A lb c, .slice A' le c'], .int .i64 r] w fun e w' => e = .returned (.bool (fitB 10 x y n lb le r)) ∧ Below w.heap.size w w' := by
  go_enter Tryz.func125, Tryz.ntmps125
  go_wp2
  all_goals
    go_ret
    refine ⟨retB ?_, ?_⟩
    · rw [Bool.eq_iff_iff]
      simp [fitB, headB, leafB, *] <;> omega
    · repeat' (first | exact Below.refl _ _ | (refine Below.alloc ?_ (by first | exact Nat.le_refl _ | (simp; done) | (simp; omega)) _))

set_option maxRecDepth 100000 in
set_option maxHeartbeats 4000000 in
theorem fits_yield (x y n r : Int) (A A' : Option Addr) (lb c le c' : Nat) (w : World) (_hr0 : -1 ≤ r) (_hr1 : r ≤ 1) :
    Calls Tryz.prog 128 #[.agg #[.int .i64 11, .int .i64 x, .int .i64 y, .int .i64 n, .slice A lb c, .slice A' le c'], .int .i64 r] w fun e w' => e = .returned (.bool (fitB 11 x y n lb le r)) ∧ Below w.heap.size w w' := by
  go_enter Tryz.func128, Tryz.ntmps128
  go_wp2
  all_goals
    go_ret
    refine ⟨retB ?_, ?_⟩
    · rw [Bool.eq_iff_iff]
      simp [fitB, headB, leafB, *] <;> omega
    · repeat' (first | exact Below.refl _ _ | (refine Below.alloc ?_ (by first | exact Nat.le_refl _ | (simp; done) | (simp; omega)) _))

end Go.Proofs.YtnfnjhbaaefbpaaGreatDoor
