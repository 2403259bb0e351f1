/- Clocks as lists of numbers: their join, and which is under which; both sides. -/
import Derived.Test.YtoinagefhbpakaaIntsTo
namespace Go.Proofs.Ytoinagefhbpakaa
open Go.ChangeShapes Go.WideShapes Go.ChangeAt Go.RowKit

/-- What a clock has for one. -/
def nAt (xs : List Int) (i : Nat) : Int := max (xs.getD i 0) 0
theorem nAt_of {xs : List Int} {i : Nat} (_ : i < xs.length) : nAt xs i = max (xs.getD i 0) 0 := rfl
theorem nAt_out {xs : List Int} {i : Nat} (h : xs.length ≤ i) : nAt xs i = 0 := by
  unfold nAt
  rw [List.getD_eq_getElem?_getD, List.getElem?_eq_none h]
  rfl
theorem nAt_nonneg (xs : List Int) (i : Nat) : 0 ≤ nAt xs i := Int.le_max_right _ _

/-- The first k of the join of two clocks. -/
def joinK (xs ys : List Int) : Nat → List Int
  | 0 => []
  | k + 1 => joinK xs ys k ++ [max (nAt xs k) (nAt ys k)]
theorem joinK_len (xs ys : List Int) (k : Nat) : (joinK xs ys k).length = k := by
  induction k with
  | zero => rfl
  | succ k ih => simp [joinK, ih]
def joinL (xs ys : List Int) : List Int := joinK xs ys (max xs.length ys.length)

/-- Whether the first k of one are under another's. -/
def underK (xs ys : List Int) : Nat → Bool
  | 0 => true
  | k + 1 => underK xs ys k && decide (xs.getD k 0 ≤ nAt ys k)
def underB (xs ys : List Int) : Bool := underK xs ys xs.length
theorem underK_false {xs ys : List Int} {k n : Nat} (hk : k < n) (h : nAt ys k < xs.getD k 0) : underK xs ys n = false := by
  induction n with
  | zero => omega
  | succ n ih =>
    unfold underK
    by_cases e : k = n
    · subst e
      rw [decide_eq_false (by omega), Bool.and_false]
    · rw [ih (by omega), Bool.false_and]

theorem l1Max (a b : Int) (w : World) : Calls Try.prog 34 #[.int .i64 a, .int .i64 b] w fun e w' => e = .returned (.int .i64 (max a b)) ∧ w' = w := by
  by_cases h : b < a
  · have HM := Lib.hid (show max a b = a by omega)
    go_enter Try.func34, Try.ntmps34
    go_wp2
    go_ret
    exact ⟨by rw [HM.out]; rfl, rfl⟩
  · have HM := Lib.hid (show max a b = b by omega)
    go_enter Try.func34, Try.ntmps34
    go_wp2
    go_ret
    exact ⟨by rw [HM.out]; rfl, rfl⟩
theorem below_drewK {B : Nat} {a w : World} (h : Below B a w) (n : Nat) : Below B a (w.drewN n) := ⟨h.os, h.tape, h.output, h.size, h.block⟩
end Go.Proofs.Ytoinagefhbpakaa
