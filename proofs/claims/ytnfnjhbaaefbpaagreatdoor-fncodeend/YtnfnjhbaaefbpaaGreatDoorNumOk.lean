/- The contracts of chapter 1's NumOk, of the program and of the model: each returns what the function named beside it computes and leaves memory as it was (the table of operations is new memory). -/
import Derived.Test.YtnfnjhbaaefbpaaGreatDoorRows
import Derived.WalkKit
import Derived.ProofKit
import Derived.OpenShut
import Derived.BigQuiet
import Derived.Deep.QuietTactic
namespace Go.Proofs.YtnfnjhbaaefbpaaGreatDoor
open Go.ChangeShapes Go.WideShapes Go.ChangeAt Go.RowKit

def okB (n : Int) : Bool := decide (-999 ≤ n ∧ n ≤ 999)
def cutI (n : Int) : Int := if 999 < n then 999 else if n < -999 then -999 else n

theorem okB_true {n : Int} (h : -999 ≤ n ∧ n ≤ 999) : okB n = true := by simp [okB, h]
theorem okB_false {n : Int} (h : ¬ (-999 ≤ n ∧ n ≤ 999)) : okB n = false := by simp only [okB, decide_eq_false_iff_not]; exact h
theorem cutI_in {n : Int} (h : -999 ≤ n ∧ n ≤ 999) : cutI n = n := by unfold cutI; rw [if_neg (by omega), if_neg (by omega)]
theorem cutI_lo {n : Int} (h : n < -999) : cutI n = -999 := by unfold cutI; rw [if_neg (by omega), if_pos h]
theorem cutI_hi {n : Int} (h : 999 < n) : cutI n = 999 := by unfold cutI; rw [if_pos h]
theorem cutI_bd (n : Int) : -999 ≤ cutI n ∧ cutI n ≤ 999 := by unfold cutI; split <;> (try split) <;> omega

theorem within (n : Int) (w : World) : Calls Tryz.prog 67 #[.int .i64 n] w fun e w' => e = .returned (.bool (okB n)) ∧ w = w' := by
  by_cases h1 : -999 ≤ n
  · by_cases h2 : n ≤ 999
    · rw [okB_true ⟨h1, h2⟩]
      go_enter Tryz.func67, Tryz.ntmps67
      go_wp2
      go_ret
      exact ⟨rfl, rfl⟩
    · rw [okB_false (by omega)]
      go_enter Tryz.func67, Tryz.ntmps67
      go_wp2
      go_ret
      exact ⟨rfl, rfl⟩
  · rw [okB_false (by omega)]
    go_enter Tryz.func67, Tryz.ntmps67
    go_wp2
    go_ret
    exact ⟨rfl, rfl⟩

theorem numOk (n : Int) (w : World) : Calls Tryz.prog 41 #[.int .i64 n] w fun e w' => e = .returned (.bool (okB n)) ∧ w = w' := by
  go_enter Tryz.func41, Tryz.ntmps41
  go_wp2_with fail
  refine (within _ _).mono ?_
  rintro e w' ⟨rfl, rfl⟩
  go_wp2
  go_ret
  exact ⟨rfl, rfl⟩

theorem specNumOk (n : Int) (w : World) : Calls Tryz.prog 72 #[.int .i64 n] w fun e w' => e = .returned (.bool (okB n)) ∧ w = w' := by
  by_cases h1 : -999 ≤ n
  · by_cases h2 : n ≤ 999
    · rw [okB_true ⟨h1, h2⟩]
      go_enter Tryz.func72, Tryz.ntmps72
      go_wp2
      go_ret
      exact ⟨rfl, rfl⟩
    · rw [okB_false (by omega)]
      go_enter Tryz.func72, Tryz.ntmps72
      go_wp2
      go_ret
      exact ⟨rfl, rfl⟩
  · rw [okB_false (by omega)]
    go_enter Tryz.func72, Tryz.ntmps72
    go_wp2
    go_ret
    exact ⟨rfl, rfl⟩

end Go.Proofs.YtnfnjhbaaefbpaaGreatDoor
