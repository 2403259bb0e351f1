/- The program's checks of a statement's own fields, kind by kind. -/
import Derived.Test.YthamehcfenncaaaOkPure
namespace Go.Proofs.Ythamehcfenncaaa
open Go.ChangeShapes Go.WideShapes Go.ChangeAt Go.RowKit

/-- Whether the fields are as the kind has them, in a room or in none. -/
def fitB (k x y n : Int) (lb le : Nat) (r : Int) : Bool := headB k x y n lb le 1 r

theorem headB_fit (k x y n : Int) (lb le : Nat) (d r : Int) : headB k x y n lb le d r = (decide (1 ≤ d) && fitB k x y n lb le r) := by simp [fitB, headB]

set_option maxRecDepth 100000 in
set_option maxHeartbeats 4000000 in
theorem fits_num (x y n r : Int) (A A' : Option Addr) (lb c le c' : Nat) (w : World) (_hr0 : -1 ≤ r) (_hr1 : r ≤ 1) :
    Calls Try.prog 109 #[.agg #[.int .i64 1, .int .i64 x, .int .i64 y, .int .i64 n, .slice A lb c, .slice A' le c'], .int .i64 r] w fun e w' => e = .returned (.bool (fitB 1 x y n lb le r)) ∧ Below w.heap.size w w' := by
  go_enter Try.func109, Try.ntmps109
  go_wp2
  all_goals
    go_ret
    refine ⟨retB ?_, ?_⟩
    · rw [Bool.eq_iff_iff]
      simp [fitB, headB, leafB, *] <;> omega
    · repeat' (first | exact Below.refl _ _ | (refine Below.alloc ?_ (by first | exact Nat.le_refl _ | (simp; done) | (simp; omega)) _))

set_option maxRecDepth 100000 in
set_option maxHeartbeats 4000000 in
theorem fits_do (x y n r : Int) (A A' : Option Addr) (lb c le c' : Nat) (w : World) (_hr0 : -1 ≤ r) (_hr1 : r ≤ 1) :
    Calls Try.prog 116 #[.agg #[.int .i64 2, .int .i64 x, .int .i64 y, .int .i64 n, .slice A lb c, .slice A' le c'], .int .i64 r] w fun e w' => e = .returned (.bool (fitB 2 x y n lb le r)) ∧ Below w.heap.size w w' := by
  go_enter Try.func116, Try.ntmps116
  go_wp2
  all_goals
    go_ret
    refine ⟨retB ?_, ?_⟩
    · rw [Bool.eq_iff_iff]
      simp [fitB, headB, leafB, *] <;> omega
    · repeat' (first | exact Below.refl _ _ | (refine Below.alloc ?_ (by first | exact Nat.le_refl _ | (simp; done) | (simp; omega)) _))

set_option maxRecDepth 100000 in
set_option maxHeartbeats 4000000 in
theorem fits_load (x y n r : Int) (A A' : Option Addr) (lb c le c' : Nat) (w : World) (_hr0 : -1 ≤ r) (_hr1 : r ≤ 1) :
    Calls Try.prog 120 #[.agg #[.int .i64 3, .int .i64 x, .int .i64 y, .int .i64 n, .slice A lb c, .slice A' le c'], .int .i64 r] w fun e w' => e = .returned (.bool (fitB 3 x y n lb le r)) ∧ Below w.heap.size w w' := by
  go_enter Try.func120, Try.ntmps120
  go_wp2
  all_goals
    go_ret
    refine ⟨retB ?_, ?_⟩
    · rw [Bool.eq_iff_iff]
      simp [fitB, headB, leafB, *] <;> omega
    · repeat' (first | exact Below.refl _ _ | (refine Below.alloc ?_ (by first | exact Nat.le_refl _ | (simp; done) | (simp; omega)) _))

set_option maxRecDepth 100000 in
set_option maxHeartbeats 4000000 in
theorem fits_store (x y n r : Int) (A A' : Option Addr) (lb c le c' : Nat) (w : World) (_hr0 : -1 ≤ r) (_hr1 : r ≤ 1) :
    Calls Try.prog 124 #[.agg #[.int .i64 4, .int .i64 x, .int .i64 y, .int .i64 n, .slice A lb c, .slice A' le c'], .int .i64 r] w fun e w' => e = .returned (.bool (fitB 4 x y n lb le r)) ∧ Below w.heap.size w w' := by
  go_enter Try.func124, Try.ntmps124
  go_wp2
  all_goals
    go_ret
    refine ⟨retB ?_, ?_⟩
    · rw [Bool.eq_iff_iff]
      simp [fitB, headB, leafB, *] <;> omega
    · repeat' (first | exact Below.refl _ _ | (refine Below.alloc ?_ (by first | exact Nat.le_refl _ | (simp; done) | (simp; omega)) _))

set_option maxRecDepth 100000 in
set_option maxHeartbeats 4000000 in
theorem fits_say (x y n r : Int) (A A' : Option Addr) (lb c le c' : Nat) (w : World) (_hr0 : -1 ≤ r) (_hr1 : r ≤ 1) :
    Calls Try.prog 127 #[.agg #[.int .i64 5, .int .i64 x, .int .i64 y, .int .i64 n, .slice A lb c, .slice A' le c'], .int .i64 r] w fun e w' => e = .returned (.bool (fitB 5 x y n lb le r)) ∧ Below w.heap.size w w' := by
  go_enter Try.func127, Try.ntmps127
  go_wp2
  all_goals
    go_ret
    refine ⟨retB ?_, ?_⟩
    · rw [Bool.eq_iff_iff]
      simp [fitB, headB, leafB, *] <;> omega
    · repeat' (first | exact Below.refl _ _ | (refine Below.alloc ?_ (by first | exact Nat.le_refl _ | (simp; done) | (simp; omega)) _))

set_option maxRecDepth 100000 in
set_option maxHeartbeats 4000000 in
theorem fits_if (x y n r : Int) (A A' : Option Addr) (lb c le c' : Nat) (w : World) (_hr0 : -1 ≤ r) (_hr1 : r ≤ 1) :
    Calls Try.prog 130 #[.agg #[.int .i64 6, .int .i64 x, .int .i64 y, .int .i64 n, .slice A lb c, .slice A' le c'], .int .i64 r] w fun e w' => e = .returned (.bool (fitB 6 x y n lb le r)) ∧ Below w.heap.size w w' := by
  go_enter Try.func130, Try.ntmps130
  go_wp2
  all_goals
    go_ret
    refine ⟨retB ?_, ?_⟩
    · rw [Bool.eq_iff_iff]
      simp [fitB, headB, *] <;> omega
    · repeat' (first | exact Below.refl _ _ | (refine Below.alloc ?_ (by first | exact Nat.le_refl _ | (simp; done) | (simp; omega)) _))

set_option maxRecDepth 100000 in
set_option maxHeartbeats 4000000 in
theorem fits_while (x y n r : Int) (A A' : Option Addr) (lb c le c' : Nat) (w : World) (_hr0 : -1 ≤ r) (_hr1 : r ≤ 1) :
    Calls Try.prog 133 #[.agg #[.int .i64 7, .int .i64 x, .int .i64 y, .int .i64 n, .slice A lb c, .slice A' le c'], .int .i64 r] w fun e w' => e = .returned (.bool (fitB 7 x y n lb le r)) ∧ Below w.heap.size w w' := by
  go_enter Try.func133, Try.ntmps133
  go_wp2
  all_goals
    go_ret
    refine ⟨retB ?_, ?_⟩
    · rw [Bool.eq_iff_iff]
      simp [fitB, headB, *] <;> omega
    · repeat' (first | exact Below.refl _ _ | (refine Below.alloc ?_ (by first | exact Nat.le_refl _ | (simp; done) | (simp; omega)) _))

set_option maxRecDepth 100000 in
set_option maxHeartbeats 4000000 in
theorem fits_in (x y n r : Int) (A A' : Option Addr) (lb c le c' : Nat) (w : World) (_hr0 : -1 ≤ r) (_hr1 : r ≤ 1) :
    Calls Try.prog 136 #[.agg #[.int .i64 8, .int .i64 x, .int .i64 y, .int .i64 n, .slice A lb c, .slice A' le c'], .int .i64 r] w fun e w' => e = .returned (.bool (fitB 8 x y n lb le r)) ∧ Below w.heap.size w w' := by
  go_enter Try.func136, Try.ntmps136
  go_wp2
  all_goals
    go_ret
    refine ⟨retB ?_, ?_⟩
    · rw [Bool.eq_iff_iff]
      simp [fitB, headB, *] <;> omega
    · repeat' (first | exact Below.refl _ _ | (refine Below.alloc ?_ (by first | exact Nat.le_refl _ | (simp; done) | (simp; omega)) _))

set_option maxRecDepth 100000 in
set_option maxHeartbeats 4000000 in
theorem fits_wait (x y n r : Int) (A A' : Option Addr) (lb c le c' : Nat) (w : World) (_hr0 : -1 ≤ r) (_hr1 : r ≤ 1) :
    Calls Try.prog 139 #[.agg #[.int .i64 9, .int .i64 x, .int .i64 y, .int .i64 n, .slice A lb c, .slice A' le c'], .int .i64 r] w fun e w' => e = .returned (.bool (fitB 9 x y n lb le r)) ∧ Below w.heap.size w w' := by
  go_enter Try.func139, Try.ntmps139
  go_wp2
  all_goals
    go_ret
    refine ⟨retB ?_, ?_⟩
    · rw [Bool.eq_iff_iff]
      simp [fitB, headB, leafB, *] <;> omega
    · repeat' (first | exact Below.refl _ _ | (refine Below.alloc ?_ (by first | exact Nat.le_refl _ | (simp; done) | (simp; omega)) _))

set_option maxRecDepth 100000 in
set_option maxHeartbeats 4000000 in
theorem fits_signal (x y n r : Int) (A A' : Option Addr) (lb c le c' : Nat) (w : World) (_hr0 : -1 ≤ r) (_hr1 : r ≤ 1) :
    Calls Try.prog 143 #[.agg #[.int .i64 10, .int .i64 x, .int .i64 y, .int .i64 n, .slice A lb c, .slice A' le c'], .int .i64 r] w fun e w' => e = .returned (.bool (fitB 10 x y n lb le r)) ∧ Below w.heap.size w w' := by
  go_enter Try.func143, Try.ntmps143
  go_wp2
  all_goals
    go_ret
    refine ⟨retB ?_, ?_⟩
    · rw [Bool.eq_iff_iff]
      simp [fitB, headB, leafB, *] <;> omega
    · repeat' (first | exact Below.refl _ _ | (refine Below.alloc ?_ (by first | exact Nat.le_refl _ | (simp; done) | (simp; omega)) _))

set_option maxRecDepth 100000 in
set_option maxHeartbeats 4000000 in
theorem fits_yield (x y n r : Int) (A A' : Option Addr) (lb c le c' : Nat) (w : World) (_hr0 : -1 ≤ r) (_hr1 : r ≤ 1) :
    Calls Try.prog 146 #[.agg #[.int .i64 11, .int .i64 x, .int .i64 y, .int .i64 n, .slice A lb c, .slice A' le c'], .int .i64 r] w fun e w' => e = .returned (.bool (fitB 11 x y n lb le r)) ∧ Below w.heap.size w w' := by
  go_enter Try.func146, Try.ntmps146
  go_wp2
  all_goals
    go_ret
    refine ⟨retB ?_, ?_⟩
    · rw [Bool.eq_iff_iff]
      simp [fitB, headB, leafB, *] <;> omega
    · repeat' (first | exact Below.refl _ _ | (refine Below.alloc ?_ (by first | exact Nat.le_refl _ | (simp; done) | (simp; omega)) _))

end Go.Proofs.Ythamehcfenncaaa
