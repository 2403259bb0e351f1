/- Which statements are right: the plain function, and the model's l2Leaf. -/
import Derived.Test.YtnfnjhbaaefbpaaGreatDoorSl
import Derived.Test.YtnfnjhbaaefbpaaGreatDoorNumOk
namespace Go.Proofs.YtnfnjhbaaefbpaaGreatDoor
open Go.ChangeShapes Go.WideShapes Go.ChangeAt Go.RowKit

/-- Whether a statement without bodies is right in a room or in none. -/
def leafB (k x y n r : Int) : Bool :=
  if k = 1 then decide (0 ≤ x ∧ x < 3 ∧ y = 0 ∧ -999 ≤ n ∧ n ≤ 999) else
  if k = 2 then decide (0 ≤ x ∧ x < 3 ∧ 0 ≤ y ∧ y < 3 ∧ 1 ≤ n ∧ n ≤ 5) else
  if k = 3 then decide (0 ≤ x ∧ x < 3 ∧ 0 ≤ y ∧ y < 3 ∧ n = 0) else
  if k = 4 then decide (0 ≤ x ∧ x < 3 ∧ 0 ≤ y ∧ y < 3 ∧ n = 0) else
  if k = 5 then decide (0 ≤ x ∧ x < 3 ∧ y = 0 ∧ n = 0) else
  if k = 9 then decide (0 ≤ r ∧ 0 ≤ x ∧ x < 2 ∧ y = 0 ∧ n = 0) else
  if k = 10 then decide (0 ≤ x ∧ x < 2 ∧ y = 0 ∧ n = 0) else
  if k = 11 then decide (x = 0 ∧ y = 0 ∧ n = 0) else false

theorem retB {a b : Bool} (h : a = b) : Ending.returned (.bool a) = .returned (.bool b) := by rw [h]

set_option maxRecDepth 100000 in
set_option maxHeartbeats 8000000 in
theorem specLeaf (k x y n r : Int) (vB vE : Value) (w : World) :
    Calls Tryz.prog 58 #[.agg #[.int .i64 k, .int .i64 x, .int .i64 y, .int .i64 n, vB, vE], .int .i64 r] w fun e w' => e = .returned (.bool (leafB k x y n r)) ∧ Below w.heap.size w w' := by
  have hk : k = 1 ∨ k = 2 ∨ k = 3 ∨ k = 4 ∨ k = 5 ∨ k = 9 ∨ k = 10 ∨ k = 11 ∨ (k ≠ 1 ∧ k ≠ 2 ∧ k ≠ 3 ∧ k ≠ 4 ∧ k ≠ 5 ∧ k ≠ 9 ∧ k ≠ 10 ∧ k ≠ 11) := by omega
  rcases hk with rfl | rfl | rfl | rfl | rfl | rfl | rfl | rfl | ⟨h1, h2, h3, h4, h5, h9, h10, h11⟩
  all_goals
    go_enter Tryz.func58, Tryz.ntmps58
    go_wp2_with (go_at_call 72; refine (specNumOk _ _).mono ?_; rintro e w' ⟨rfl, rfl⟩)
    all_goals
      go_ret
      refine ⟨retB ?_, (Below.refl _ _).alloc (Nat.le_refl _) _⟩
      rw [Bool.eq_iff_iff]
      simp [leafB, okB, *] <;> omega
end Go.Proofs.YtnfnjhbaaefbpaaGreatDoor
