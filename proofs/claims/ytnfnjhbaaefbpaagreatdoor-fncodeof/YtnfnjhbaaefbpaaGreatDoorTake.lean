/- The first of a list, and the rest. -/
import Derived.Test.YtnfnjhbaaefbpaaGreatDoorTakeL
import Derived.Test.YtnfnjhbaaefbpaaGreatDoorOkMore
import Derived.Test.YtnfnjhbaaefbpaaGreatDoorStmtsOk
namespace Go.Proofs.YtnfnjhbaaefbpaaGreatDoor
open Go.ChangeShapes Go.WideShapes Go.ChangeAt Go.RowKit

theorem okL_take {L : SL} {d r : Int} (h : okL L d r = true) (i : Nat) : okL (L.take i) d r = true := by
  induction L generalizing i with
  | nil => cases i <;> rfl
  | cons k x y n B E R _ _ ih => cases i with
    | zero => rfl
    | succ i =>
      rw [okL_cons, Bool.and_eq_true] at h
      rw [SL.take, okL_cons, h.1, ih h.2 i]; rfl
theorem okL_drop {L : SL} {d r : Int} (h : okL L d r = true) (i : Nat) : okL (L.drop i) d r = true := by
  induction L generalizing i with
  | nil => cases i <;> rfl
  | cons k x y n B E R _ _ ih => cases i with
    | zero => rw [SL.drop_zero]; exact h
    | succ i =>
      rw [okL_cons, Bool.and_eq_true] at h
      rw [SL.drop]; exact ih h.2 i
theorem okP_both {L : SL} (h : okP L = true) (i : Nat) : okP (L.take i) = true ∧ okP (L.drop i) = true := by
  unfold okP at h ⊢
  rw [Bool.and_eq_true] at h
  have h1 := of_decide_eq_true h.1
  have h2 := L.take_drop_size i
  exact ⟨by rw [Bool.and_eq_true]; exact ⟨decide_eq_true (by omega), okL_take h.2 i⟩, by rw [Bool.and_eq_true]; exact ⟨decide_eq_true (by omega), okL_drop h.2 i⟩⟩
theorem okP_parts {L : SL} (h : okP L = true) : L.size ≤ 14 ∧ okL L 3 (-1) = true := by
  unfold okP at h
  rw [Bool.and_eq_true] at h
  exact ⟨of_decide_eq_true h.1, h.2⟩
end Go.Proofs.YtnfnjhbaaefbpaaGreatDoor
