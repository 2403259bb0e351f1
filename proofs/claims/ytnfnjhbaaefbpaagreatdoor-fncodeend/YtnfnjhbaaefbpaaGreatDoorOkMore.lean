/- More on which statements and lists are right. -/
import Derived.Test.YtnfnjhbaaefbpaaGreatDoorOkPure
import Derived.Test.YtnfnjhbaaefbpaaGreatDoorStmtOk
namespace Go.Proofs.YtnfnjhbaaefbpaaGreatDoor
open Go.ChangeShapes Go.WideShapes Go.ChangeAt Go.RowKit

/-- Each statement of a list that is right is right. -/
theorem okL_at {L : SL} {d r : Int} (h : okL L d r = true) : ∀ {i : Nat} {k x y n : Int} {B E R : SL}, L.drop i = .cons k x y n B E R → okS k x y n B E d r = true := by
  induction L with
  | nil => intro i k x y n B E R hd; cases i <;> simp [SL.drop] at hd
  | cons k' x' y' n' B' E' R' _ _ ih =>
    intro i k x y n B E R hd
    rw [okL_cons, Bool.and_eq_true] at h
    cases i with
    | zero =>
      rw [SL.drop_zero] at hd
      injection hd with h1 h2 h3 h4 h5 h6 h7
      subst h1 h2 h3 h4 h5 h6 h7
      exact h.1
    | succ i => exact ih h.2 hd

theorem okS_parts {k x y n : Int} {B E : SL} {d r : Int} (h : okS k x y n B E d r = true) : headB k x y n B.len E.len d r = true ∧ okL B (d - 1) (inR k x r) = true ∧ okL E (d - 1) (inR k x r) = true := by
  unfold okS at h
  rw [Bool.and_eq_true, Bool.and_eq_true] at h
  exact ⟨h.1.1, h.1.2, h.2⟩
theorem headB_one {k x y n : Int} {lb le : Nat} {d r : Int} (h : headB k x y n lb le d r = true) : 1 ≤ d := by
  unfold headB at h
  rw [Bool.and_eq_true] at h
  exact of_decide_eq_true h.1
theorem inB_iff {d r : Int} : inB d r = true ↔ 0 ≤ d ∧ d ≤ 3 ∧ -1 ≤ r ∧ r ≤ 1 := by
  unfold inB
  exact decide_eq_true_iff
/-- The room of what is within is one, or none. -/
theorem inR_in {k x y n : Int} {B E : SL} {d r : Int} (hi : inB d r = true) (h : okS k x y n B E d r = true) : inB (d - 1) (inR k x r) = true := by
  obtain ⟨h1, h2, h3, h4⟩ := inB_iff.1 hi
  have hh := (okS_parts h).1
  have hd := headB_one hh
  unfold inR
  split
  · rename_i hk
    subst hk
    unfold headB at hh
    simp at hh
    exact inB_iff.2 ⟨by omega, by omega, by omega, by omega⟩
  · exact inB_iff.2 ⟨by omega, by omega, by omega, by omega⟩
end Go.Proofs.YtnfnjhbaaefbpaaGreatDoor
