/- The contracts of chapter 1's functions, of the program and of the model: each returns what the Lean function of its name computes and leaves memory as it was (the table of operations is new memory). -/
import Derived.Test.YtgnahgppojehnaaRows
import Derived.WalkKit
import Derived.ProofKit
import Derived.OpenShut
import Derived.BigQuiet
import Derived.Deep.QuietTactic
namespace Go.Proofs.Ytgnahgppojehnaa
open Go.ChangeShapes Go.WideShapes Go.ChangeAt Go.RowKit

def okB (n : Int) : Bool := decide (-999 ≤ n ∧ n ≤ 999)
def cutI (n : Int) : Int := if 999 < n then 999 else if n < -999 then -999 else n

theorem okB_true {n : Int} (h : -999 ≤ n ∧ n ≤ 999) : okB n = true := by simp [okB, h]
theorem okB_false {n : Int} (h : ¬ (-999 ≤ n ∧ n ≤ 999)) : okB n = false := by simp only [okB, decide_eq_false_iff_not]; exact h
theorem cutI_in {n : Int} (h : -999 ≤ n ∧ n ≤ 999) : cutI n = n := by unfold cutI; rw [if_neg (by omega), if_neg (by omega)]
theorem cutI_lo {n : Int} (h : n < -999) : cutI n = -999 := by unfold cutI; rw [if_neg (by omega), if_pos h]
theorem cutI_hi {n : Int} (h : 999 < n) : cutI n = 999 := by unfold cutI; rw [if_pos h]
theorem cutI_bd (n : Int) : -999 ≤ cutI n ∧ cutI n ≤ 999 := by unfold cutI; split <;> (try split) <;> omega

theorem within (n : Int) (w : World) : Calls Try.prog 26 #[.int .i64 n] w fun e w' => e = .returned (.bool (okB n)) ∧ w = w' := by
  by_cases h1 : -999 ≤ n
  · by_cases h2 : n ≤ 999
    · rw [okB_true ⟨h1, h2⟩]
      go_enter Try.func26, Try.ntmps26
      go_wp2
      go_ret
      exact ⟨rfl, rfl⟩
    · rw [okB_false (by omega)]
      go_enter Try.func26, Try.ntmps26
      go_wp2
      go_ret
      exact ⟨rfl, rfl⟩
  · rw [okB_false (by omega)]
    go_enter Try.func26, Try.ntmps26
    go_wp2
    go_ret
    exact ⟨rfl, rfl⟩

theorem numOk (n : Int) (w : World) : Calls Try.prog 15 #[.int .i64 n] w fun e w' => e = .returned (.bool (okB n)) ∧ w = w' := by
  go_enter Try.func15, Try.ntmps15
  go_wp2_with fail
  refine (within _ _).mono ?_
  rintro e w' ⟨rfl, rfl⟩
  go_wp2
  go_ret
  exact ⟨rfl, rfl⟩

theorem specNumOk (n : Int) (w : World) : Calls Try.prog 16 #[.int .i64 n] w fun e w' => e = .returned (.bool (okB n)) ∧ w = w' := by
  by_cases h1 : -999 ≤ n
  · by_cases h2 : n ≤ 999
    · rw [okB_true ⟨h1, h2⟩]
      go_enter Try.func16, Try.ntmps16
      go_wp2
      go_ret
      exact ⟨rfl, rfl⟩
    · rw [okB_false (by omega)]
      go_enter Try.func16, Try.ntmps16
      go_wp2
      go_ret
      exact ⟨rfl, rfl⟩
  · rw [okB_false (by omega)]
    go_enter Try.func16, Try.ntmps16
    go_wp2
    go_ret
    exact ⟨rfl, rfl⟩

theorem cut (n : Int) (w : World) : Calls Try.prog 27 #[.int .i64 n] w fun e w' => e = .returned (.int .i64 (cutI n)) ∧ w = w' := by
  by_cases h1 : 999 < n
  · rw [cutI_hi h1]
    go_enter Try.func27, Try.ntmps27
    go_wp2
    go_ret
    exact ⟨rfl, rfl⟩
  · by_cases h2 : n < -999
    · rw [cutI_lo h2]
      go_enter Try.func27, Try.ntmps27
      go_wp2
      go_ret
      exact ⟨rfl, rfl⟩
    · rw [cutI_in (by omega)]
      go_enter Try.func27, Try.ntmps27
      go_wp2
      go_ret
      exact ⟨rfl, rfl⟩

theorem numCut (n : Int) (w : World) : Calls Try.prog 17 #[.int .i64 n] w fun e w' => e = .returned (.int .i64 (cutI n)) ∧ w = w' := by
  go_enter Try.func17, Try.ntmps17
  go_wp2_with fail
  refine (cut _ _).mono ?_
  rintro e w' ⟨rfl, rfl⟩
  go_wp2
  go_ret
  exact ⟨rfl, rfl⟩

theorem specNumCut (n : Int) (w : World) : Calls Try.prog 20 #[.int .i64 n] w fun e w' => e = .returned (.int .i64 (cutI n)) ∧ w = w' := by
  by_cases h1 : 999 < n
  · rw [cutI_hi h1]
    go_enter Try.func20, Try.ntmps20
    go_wp2
    go_ret
    exact ⟨rfl, rfl⟩
  · by_cases h2 : n < -999
    · rw [cutI_lo h2]
      go_enter Try.func20, Try.ntmps20
      go_wp2
      go_ret
      exact ⟨rfl, rfl⟩
    · rw [cutI_in (by omega)]
      go_enter Try.func20, Try.ntmps20
      go_wp2
      go_ret
      exact ⟨rfl, rfl⟩

def oneI (b : Bool) : Int := if b then 1 else 0

theorem oneIf (b : Bool) (w : World) : Calls Try.prog 34 #[.bool b] w fun e w' => e = .returned (.int .i64 (oneI b)) ∧ w = w' := by
  cases b
  all_goals
    go_enter Try.func34, Try.ntmps34
    go_wp2
    go_ret
    exact ⟨rfl, rfl⟩

theorem l1If (b : Bool) (w : World) : Calls Try.prog 25 #[.bool b] w fun e w' => e = .returned (.int .i64 (oneI b)) ∧ w = w' := by
  cases b
  all_goals
    go_enter Try.func25, Try.ntmps25
    go_wp2
    go_ret
    exact ⟨rfl, rfl⟩

theorem mul_bd {a b : Int} (ha : -999 ≤ a) (ha' : a ≤ 999) (hb : -999 ≤ b) (hb' : b ≤ 999) : -998001 ≤ a * b ∧ a * b ≤ 998001 := by
  have key : ∀ x y : Int, 0 ≤ x → x ≤ 999 → 0 ≤ y → y ≤ 999 → 0 ≤ x * y ∧ x * y ≤ 998001 := fun x y h1 h2 h3 h4 =>
    ⟨Int.mul_nonneg h1 h3, by have := Int.mul_le_mul h2 h4 h3 (by omega); omega⟩
  rcases Int.le_total 0 a with h | h <;> rcases Int.le_total 0 b with g | g
  · have := key a b h ha' g hb'; omega
  · have := key a (-b) h ha' (by omega) (by omega); rw [Int.mul_neg] at this; omega
  · have := key (-a) b (by omega) (by omega) g hb'; rw [Int.neg_mul] at this; omega
  · have := key (-a) (-b) (by omega) (by omega) (by omega) (by omega); rw [Int.neg_mul_neg] at this; omega

theorem plus (a b : Int) (ha : -999 ≤ a) (ha' : a ≤ 999) (hb : -999 ≤ b) (hb' : b ≤ 999) (w : World) : Calls Try.prog 29 #[.int .i64 a, .int .i64 b] w fun e w' => e = .returned (.int .i64 (cutI (a + b))) ∧ w = w' := by
  go_enter Try.func29, Try.ntmps29
  go_wp2_with fail
  refine (cut _ _).mono ?_
  rintro e w' ⟨rfl, rfl⟩
  go_wp2
  go_ret
  exact ⟨rfl, rfl⟩

theorem minus (a b : Int) (ha : -999 ≤ a) (ha' : a ≤ 999) (hb : -999 ≤ b) (hb' : b ≤ 999) (w : World) : Calls Try.prog 30 #[.int .i64 a, .int .i64 b] w fun e w' => e = .returned (.int .i64 (cutI (a - b))) ∧ w = w' := by
  go_enter Try.func30, Try.ntmps30
  go_wp2_with fail
  refine (cut _ _).mono ?_
  rintro e w' ⟨rfl, rfl⟩
  go_wp2
  go_ret
  exact ⟨rfl, rfl⟩

theorem times (a b : Int) (ha : -999 ≤ a) (ha' : a ≤ 999) (hb : -999 ≤ b) (hb' : b ≤ 999) (w : World) : Calls Try.prog 31 #[.int .i64 a, .int .i64 b] w fun e w' => e = .returned (.int .i64 (cutI (a * b))) ∧ w = w' := by
  obtain ⟨m1, m2⟩ := mul_bd ha ha' hb hb'
  go_enter Try.func31, Try.ntmps31
  go_wp2_with fail
  refine (cut _ _).mono ?_
  rintro e w' ⟨rfl, rfl⟩
  go_wp2
  go_ret
  exact ⟨rfl, rfl⟩

theorem less (a b : Int) (w : World) : Calls Try.prog 32 #[.int .i64 a, .int .i64 b] w fun e w' => e = .returned (.int .i64 (oneI (decide (a < b)))) ∧ w = w' := by
  go_enter Try.func32, Try.ntmps32
  go_wp2_with fail
  refine (oneIf _ _).mono ?_
  rintro e w' ⟨rfl, rfl⟩
  go_wp2
  go_ret
  exact ⟨rfl, rfl⟩

theorem same (a b : Int) (w : World) : Calls Try.prog 33 #[.int .i64 a, .int .i64 b] w fun e w' => e = .returned (.int .i64 (oneI (a == b))) ∧ w = w' := by
  go_enter Try.func33, Try.ntmps33
  go_wp2_with fail
  refine (oneIf _ _).mono ?_
  rintro e w' ⟨rfl, rfl⟩
  go_wp2
  go_ret
  exact ⟨rfl, rfl⟩

end Go.Proofs.Ytgnahgppojehnaa
