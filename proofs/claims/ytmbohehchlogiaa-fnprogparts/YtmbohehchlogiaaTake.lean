/- The first of a list, and the rest. -/
import Derived.Test.YtmbohehchlogiaaOkMore
import Derived.Test.YtmbohehchlogiaaStmtsMany
namespace Go.Proofs.Ytmbohehchlogiaa
open Go.ChangeShapes Go.WideShapes Go.ChangeAt Go.RowKit

def SL.take : SL → Nat → SL
  | _, 0 => .nil
  | .nil, _ + 1 => .nil
  | .cons k x y n B E R, i + 1 => .cons k x y n B E (R.take i)

theorem SL.take_len (L : SL) (i : Nat) (h : i ≤ L.len) : (L.take i).len = i := by
  induction L generalizing i with
  | nil => simp [SL.len] at h; subst h; rfl
  | cons k x y n B E R _ _ ih => cases i with
    | zero => rfl
    | succ i => simp only [SL.take, SL.len, ih i (by simp only [SL.len] at h; omega)]
theorem SL.take_drop_size (L : SL) (i : Nat) : (L.take i).size + (L.drop i).size = L.size := by
  induction L generalizing i with
  | nil => cases i <;> rfl
  | cons k x y n B E R _ _ ih => cases i with
    | zero => simp [SL.take, SL.drop, SL.size]
    | succ i => have := ih i; simp only [SL.take, SL.drop, SL.size]; omega
theorem At.take {w : World} {N : Nat} {L : SL} : ∀ {a : Addr} (i : Nat), At w N L a → At w N (L.take i) a := by
  induction L with
  | nil => intro a i _; cases i <;> trivial
  | cons k x y n B E R _ _ hR =>
    intro a i h
    cases i with
    | zero => trivial
    | succ i =>
      obtain ⟨ha, h0, h1, h2, h3, h4, h5, h6⟩ := h
      exact ⟨ha, h0, h1, h2, h3, h4, h5, hR i h6⟩
theorem okL_take {L : SL} {d r : Int} (h : okL L d r = true) (i : Nat) : okL (L.take i) d r = true := by
  induction L generalizing i with
  | nil => cases i <;> rfl
  | cons k x y n B E R _ _ ih => cases i with
    | zero => rfl
    | succ i =>
      rw [okL_cons, Bool.and_eq_true] at h
      rw [SL.take, okL_cons, h.1, ih h.2 i]; rfl
theorem okL_drop {L : SL} {d r : Int} (h : okL L d r = true) (i : Nat) : okL (L.drop i) d r = true := by
  induction L generalizing i with
  | nil => cases i <;> rfl
  | cons k x y n B E R _ _ ih => cases i with
    | zero => rw [SL.drop_zero]; exact h
    | succ i =>
      rw [okL_cons, Bool.and_eq_true] at h
      rw [SL.drop]; exact ih h.2 i
theorem okP_both {L : SL} (h : okP L = true) (i : Nat) : okP (L.take i) = true ∧ okP (L.drop i) = true := by
  unfold okP at h ⊢
  rw [Bool.and_eq_true] at h
  have h1 := of_decide_eq_true h.1
  have h2 := L.take_drop_size i
  exact ⟨by rw [Bool.and_eq_true]; exact ⟨decide_eq_true (by omega), okL_take h.2 i⟩, by rw [Bool.and_eq_true]; exact ⟨decide_eq_true (by omega), okL_drop h.2 i⟩⟩
theorem okP_parts {L : SL} (h : okP L = true) : L.size ≤ 14 ∧ okL L 3 (-1) = true := by
  unfold okP at h
  rw [Bool.and_eq_true] at h
  exact ⟨of_decide_eq_true h.1, h.2⟩
end Go.Proofs.Ytmbohehchlogiaa
