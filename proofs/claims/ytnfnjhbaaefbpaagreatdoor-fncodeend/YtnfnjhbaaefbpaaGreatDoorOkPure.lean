/- Which statements and lists are right, as plain functions. -/
import Derived.Test.YtnfnjhbaaefbpaaGreatDoorOkLeaf
namespace Go.Proofs.YtnfnjhbaaefbpaaGreatDoor
open Go.ChangeShapes Go.WideShapes Go.ChangeAt Go.RowKit

/-- The room of what is within. -/
def inR (k x r : Int) : Int := if k = 8 then x else r

/-- Whether a statement's own fields are right, with bodies of so many, so deep, in a room or in none. -/
def headB (k x y n : Int) (lb le : Nat) (d r : Int) : Bool :=
  decide (1 ≤ d) &&
    (if k = 6 then decide (0 ≤ x ∧ x < 3 ∧ y = 0 ∧ n = 0) else
     if k = 7 then decide (le = 0 ∧ 0 ≤ x ∧ x < 3 ∧ y = 0 ∧ n = 0) else
     if k = 8 then decide (le = 0 ∧ r < 0 ∧ 0 ≤ x ∧ x < 2 ∧ y = 0 ∧ n = 0) else
     decide (lb = 0 ∧ le = 0) && leafB k x y n r)

/-- Whether a list is right, so deep, in a room or in none. -/
def okL : SL → Int → Int → Bool
  | .nil, _, _ => true
  | .cons k x y n B E R, d, r => headB k x y n B.len E.len d r && okL B (d - 1) (inR k x r) && okL E (d - 1) (inR k x r) && okL R d r

/-- Whether one is. -/
def okS (k x y n : Int) (B E : SL) (d r : Int) : Bool := headB k x y n B.len E.len d r && okL B (d - 1) (inR k x r) && okL E (d - 1) (inR k x r)

theorem okL_cons (k x y n : Int) (B E R : SL) (d r : Int) : okL (.cons k x y n B E R) d r = (okS k x y n B E d r && okL R d r) := rfl
theorem okL_nil (d r : Int) : okL .nil d r = true := rfl
theorem okS_head {k x y n : Int} {B E : SL} {d r : Int} (h : headB k x y n B.len E.len d r = false) : okS k x y n B E d r = false := by simp [okS, h]
theorem headB_deep {k x y n : Int} {lb le : Nat} {d r : Int} (h : ¬ 1 ≤ d) : headB k x y n lb le d r = false := by simp [headB, h]
theorem headB_7 {x y n : Int} {lb le : Nat} {d r : Int} (h : ¬ (0 ≤ x ∧ x < 3 ∧ y = 0 ∧ n = 0)) : headB 7 x y n lb le d r = false := by
  have h' : ¬ (le = 0 ∧ 0 ≤ x ∧ x < 3 ∧ y = 0 ∧ n = 0) := fun q => h q.2
  unfold headB
  rw [if_neg (by decide), if_pos rfl, decide_eq_false h', Bool.and_false]
theorem headB_8 {x y n : Int} {lb le : Nat} {d r : Int} (h : ¬ (r < 0 ∧ 0 ≤ x ∧ x < 2 ∧ y = 0 ∧ n = 0)) : headB 8 x y n lb le d r = false := by
  have h' : ¬ (le = 0 ∧ r < 0 ∧ 0 ≤ x ∧ x < 2 ∧ y = 0 ∧ n = 0) := fun q => h q.2
  unfold headB
  rw [if_neg (by decide), if_neg (by decide), if_pos rfl, decide_eq_false h', Bool.and_false]
/-- Statements without bodies. -/
theorem okS_leaf {k x y n : Int} {B E : SL} {d r : Int} (h6 : k ≠ 6) (h7 : k ≠ 7) (h8 : k ≠ 8) (hd : 1 ≤ d) (hB : B.len = 0) (hE : E.len = 0) : okS k x y n B E d r = leafB k x y n r := by
  rw [SL.nil_of_len hB, SL.nil_of_len hE]
  simp [okS, okL, headB, h6, h7, h8, hd, SL.len]
theorem okS_leaf_not {k x y n : Int} {B E : SL} {d r : Int} (h6 : k ≠ 6) (h7 : k ≠ 7) (h8 : k ≠ 8) (h : ¬ (B.len = 0 ∧ E.len = 0)) : okS k x y n B E d r = false := by
  apply okS_head
  simp only [headB, h6, h7, h8, if_false, h, decide_false, Bool.false_and, Bool.and_false]
end Go.Proofs.YtnfnjhbaaefbpaaGreatDoor
