/- The first of a list. -/
import Derived.Test.YtnfnjhbaaefbpaaGreatDoorSl
namespace Go.Proofs.YtnfnjhbaaefbpaaGreatDoor
open Go.ChangeShapes Go.WideShapes Go.ChangeAt Go.RowKit

def SL.take : SL → Nat → SL
  | _, 0 => .nil
  | .nil, _ + 1 => .nil
  | .cons k x y n B E R, i + 1 => .cons k x y n B E (R.take i)

theorem SL.take_len (L : SL) (i : Nat) (h : i ≤ L.len) : (L.take i).len = i := by
  induction L generalizing i with
  | nil => simp [SL.len] at h; subst h; rfl
  | cons k x y n B E R _ _ ih => cases i with
    | zero => rfl
    | succ i => simp only [SL.take, SL.len, ih i (by simp only [SL.len] at h; omega)]
theorem SL.take_drop_size (L : SL) (i : Nat) : (L.take i).size + (L.drop i).size = L.size := by
  induction L generalizing i with
  | nil => cases i <;> rfl
  | cons k x y n B E R _ _ ih => cases i with
    | zero => simp [SL.take, SL.drop, SL.size]
    | succ i => have := ih i; simp only [SL.take, SL.drop, SL.size]; omega
theorem At.take {w : World} {N : Nat} {L : SL} : ∀ {a : Addr} (i : Nat), At w N L a → At w N (L.take i) a := by
  induction L with
  | nil => intro a i _; cases i <;> trivial
  | cons k x y n B E R _ _ hR =>
    intro a i h
    cases i with
    | zero => trivial
    | succ i =>
      obtain ⟨ha, h0, h1, h2, h3, h4, h5, h6⟩ := h
      exact ⟨ha, h0, h1, h2, h3, h4, h5, hR i h6⟩
end Go.Proofs.YtnfnjhbaaefbpaaGreatDoor
