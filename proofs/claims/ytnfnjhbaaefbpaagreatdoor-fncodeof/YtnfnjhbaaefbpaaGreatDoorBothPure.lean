/- The code of two lists, one behind the other; code moved on: as plain data. -/
import Derived.Test.YtnfnjhbaaefbpaaGreatDoorJumpPure
namespace Go.Proofs.YtnfnjhbaaefbpaaGreatDoor

/-- Code moved on by m places. -/
def moved (m : Nat) : List Int → List Int
  | o :: a :: b :: n :: r => o :: a :: b :: (if o = 6 ∨ o = 7 then n + m else n) :: moved m r
  | r => r
theorem moved_append (m : Nat) : ∀ (n : Nat) (X Y : List Int), X.length = n * 4 → moved m (X ++ Y) = moved m X ++ moved m Y := by
  intro n
  induction n with
  | zero => intro X Y h; obtain rfl := List.length_eq_zero_iff.1 (by omega : X.length = 0); rfl
  | succ n ih =>
    intro X Y h
    match X, h with
    | a :: b :: c :: d :: r, h =>
      have hr : r.length = n * 4 := by simp at h; omega
      show moved m (a :: b :: c :: d :: (r ++ Y)) = _
      simp only [moved, ih r Y hr, List.cons_append]
    | [], h => simp at h
    | [_], h => simp at h; omega
    | [_, _], h => simp at h; omega
    | [_, _, _], h => simp at h; omega
theorem moved_jump (m : Nat) (o a b c : Int) (h : o = 6 ∨ o = 7) (r : List Int) : moved m (o :: a :: b :: c :: r) = o :: a :: b :: (c + m) :: moved m r := by simp only [moved, h, if_true]
theorem moved_other (m : Nat) (o a b c : Int) (h : ¬ (o = 6 ∨ o = 7)) (r : List Int) : moved m (o :: a :: b :: c :: r) = o :: a :: b :: c :: moved m r := by simp only [moved, h, if_false]
theorem moved_nil (m : Nat) : moved m [] = [] := rfl

theorem code_moved (m : Nat) (L : SL) : ∀ p, codeL L (p + m) = moved m (codeL L p) := by
  induction L with
  | nil => intro p; rfl
  | cons k x y n B E R hB hE hR =>
    intro p
    have fst : codeS k x y n B E (p + m) = moved m (codeS k x y n B E p) := by
      unfold codeS
      by_cases h6 : k = 6
      · rw [if_pos h6, if_pos h6]
        rw [moved_append m (1 + B.lenC) _ _ (by rw [List.length_append, codeL_len]; simp; omega), moved_append m 1 _ _ rfl, moved_append m 1 _ _ rfl, ← hB, ← hE, moved_jump _ _ _ _ _ (.inl rfl), moved_jump _ _ _ _ _ (.inr rfl), moved_nil,
          show p + m + 1 = p + 1 + m from by omega, show p + m + 2 + B.lenC = p + 2 + B.lenC + m from by omega, show p + 2 + B.lenC + m + E.lenC = p + 2 + B.lenC + E.lenC + m from by omega]
        simp only [Int.natCast_add]
      · rw [if_neg h6, if_neg h6]
        by_cases h7 : k = 7
        · rw [if_pos h7, if_pos h7]
          rw [moved_append m (1 + B.lenC) _ _ (by rw [List.length_append, codeL_len]; simp; omega), moved_append m 1 _ _ rfl, ← hB, moved_jump _ _ _ _ _ (.inl rfl), moved_jump _ _ _ _ _ (.inr rfl), moved_nil,
            show p + m + 1 = p + 1 + m from by omega, show p + m + 2 + B.lenC = p + 2 + B.lenC + m from by omega]
          simp only [Int.natCast_add]
        · rw [if_neg h7, if_neg h7]
          by_cases h8 : k = 8
          · rw [if_pos h8, if_pos h8]
            rw [moved_append m (1 + B.lenC) _ _ (by rw [List.length_append, codeL_len]; simp; omega), moved_append m 1 _ _ rfl, ← hB, moved_other _ _ _ _ _ (by omega), moved_other _ _ _ _ _ (by omega), moved_nil, show p + m + 1 = p + 1 + m from by omega]
          · rw [if_neg h8, if_neg h8]
            unfold leafC
            repeat' split
            all_goals (rw [moved_other _ _ _ _ _ (by omega)]; rfl)
    rw [codeL_cons, codeL_cons, moved_append m _ _ _ (codeS_len k x y n B E p), fst, ← hR, show p + m + lenS k B E = p + lenS k B E + m from by omega]

theorem code_split (L : SL) (i : Nat) : ∀ p, codeL L p = codeL (L.take i) p ++ codeL (L.drop i) (p + (L.take i).lenC) ∧ L.lenC = (L.take i).lenC + (L.drop i).lenC := by
  induction L generalizing i with
  | nil => intro p; cases i <;> exact ⟨rfl, rfl⟩
  | cons k x y n B E R _ _ ih =>
    intro p
    cases i with
    | zero => rw [SL.take_zero, SL.drop_zero]; exact ⟨rfl, by simp [SL.lenC]⟩
    | succ i =>
      have h := ih i (p + lenS k B E)
      have e1 : (SL.cons k x y n B E R).take (i + 1) = .cons k x y n B E (R.take i) := rfl
      have e2 : (SL.cons k x y n B E R).drop (i + 1) = R.drop i := rfl
      rw [e1, e2, codeL_cons, codeL_cons, lenC_cons, lenC_cons, h.1, h.2]
      refine ⟨?_, by omega⟩
      rw [List.append_assoc, show p + lenS k B E + (R.take i).lenC = p + (lenS k B E + (R.take i).lenC) from by omega]

theorem codeP_split (L : SL) (i : Nat) : codeP L = codeL (L.take i) 0 ++ moved (L.take i).lenC (codeP (L.drop i)) := by
  unfold codeP
  rw [moved_append _ _ _ _ (codeL_len _ 0), ← code_moved, (code_split L i 0).1, List.append_assoc, moved_other _ _ _ _ _ (by omega), moved_nil]

theorem moved_len (m : Nat) : ∀ (n : Nat) (X : List Int), X.length = n * 4 → (moved m X).length = n * 4 := by
  intro n
  induction n with
  | zero => intro X h; obtain rfl := List.length_eq_zero_iff.1 (by omega : X.length = 0); rfl
  | succ n ih =>
    intro X h
    match X, h with
    | a :: b :: c :: d :: r, h =>
      have := ih r (by simp at h; omega)
      simp only [moved, List.length_cons, this]; omega
    | [], h => simp at h
    | [_], h => simp at h; omega
    | [_, _], h => simp at h; omega
    | [_, _, _], h => simp at h; omega
/-- Instruction j of code that is moved. -/
theorem moved_get (m : Nat) : ∀ (n : Nat) (X : List Int), X.length = n * 4 → ∀ j, j < n →
    (moved m X).getD (j * 4) 0 = X.getD (j * 4) 0 ∧ (moved m X).getD (j * 4 + 1) 0 = X.getD (j * 4 + 1) 0 ∧ (moved m X).getD (j * 4 + 2) 0 = X.getD (j * 4 + 2) 0 ∧
    (moved m X).getD (j * 4 + 3) 0 = (if X.getD (j * 4) 0 = 6 ∨ X.getD (j * 4) 0 = 7 then X.getD (j * 4 + 3) 0 + m else X.getD (j * 4 + 3) 0) := by
  intro n
  induction n with
  | zero => intro X h j hj; omega
  | succ n ih =>
    intro X h j hj
    match X, h with
    | a :: b :: c :: d :: r, h =>
      have hr : r.length = n * 4 := by simp at h; omega
      cases j with
      | zero => exact ⟨rfl, rfl, rfl, rfl⟩
      | succ j =>
        have := ih r hr j (by omega)
        have e : (j + 1) * 4 = j * 4 + 1 + 1 + 1 + 1 := by omega
        simp only [e, moved, List.getD_cons_succ]
        simpa only [Nat.add_assoc, Nat.reduceAdd, List.getD_cons_succ] using this
    | [], h => simp at h
    | [_], h => simp at h; omega
    | [_, _], h => simp at h; omega
    | [_, _, _], h => simp at h; omega
end Go.Proofs.YtnfnjhbaaefbpaaGreatDoor
