/- The code of a process that is two lists, one behind the other. -/
import Derived.Test.YtnfnjhbaaefbpaaGreatDoorJumpX
import Derived.Test.YtnfnjhbaaefbpaaGreatDoorBothPure
import Derived.Test.YtnfnjhbaaefbpaaGreatDoorTake
namespace Go.Proofs.YtnfnjhbaaefbpaaGreatDoor

theorem codeX_of {L : SL} (h : okP L = true) : codeN L = L.lenC + 1 ∧ codeX L = codeP L := by
  unfold codeN codeX
  rw [h]
  exact ⟨rfl, rfl⟩

structure BothX (m mT mD : Nat) (xs ys zs : List Int) : Prop where
  many : m + 1 = mT + mD
  one : 1 ≤ mT
  left : ∀ k r, k + 1 < mT → r < 4 → xs.getD (k * 4 + r) 0 = ys.getD (k * 4 + r) 0
  right : ∀ k, k < m → mT ≤ k + 1 → xs.getD (k * 4) 0 = zs.getD ((k + 1 - mT) * 4) 0 ∧ xs.getD (k * 4 + 1) 0 = zs.getD ((k + 1 - mT) * 4 + 1) 0 ∧ xs.getD (k * 4 + 2) 0 = zs.getD ((k + 1 - mT) * 4 + 2) 0 ∧
    xs.getD (k * 4 + 3) 0 = (if zs.getD ((k + 1 - mT) * 4) 0 = 6 ∨ zs.getD ((k + 1 - mT) * 4) 0 = 7 then zs.getD ((k + 1 - mT) * 4 + 3) 0 + ((mT : Int) - 1) else zs.getD ((k + 1 - mT) * 4 + 3) 0)
  small : ∀ j, j < mD → zs.getD (j * 4) 0 = 6 ∨ zs.getD (j * 4) 0 = 7 → 0 ≤ zs.getD (j * 4 + 3) 0 ∧ zs.getD (j * 4 + 3) 0 ≤ 29

theorem bothX {L : SL} (h : okP L = true) (q : Nat) : BothX (codeN L) (codeN (L.take q)) (codeN (L.drop q)) (codeX L) (codeX (L.take q)) (codeX (L.drop q)) := by
  obtain ⟨hT, hD⟩ := okP_both h q
  obtain ⟨l1, l2⟩ := codeX_of h
  obtain ⟨t1, t2⟩ := codeX_of hT
  obtain ⟨d1, d2⟩ := codeX_of hD
  have hs := (code_split L q 0).2
  have lT := codeL_len (L.take q) 0
  refine ⟨by omega, by omega, fun k r hk hr => ?_, fun k hk h1 => ?_, fun j hj ho => ?_⟩
  · rw [l2, t2, codeP_split L q]
    unfold codeP
    rw [getD_left _ _ _ (by omega), getD_left _ _ _ (by omega)]
  · obtain ⟨j, rfl⟩ : ∃ j, k = (L.take q).lenC + j := ⟨k - (L.take q).lenC, by omega⟩
    have e : (L.take q).lenC + j + 1 - codeN (L.take q) = j := by omega
    have em : ((codeN (L.take q) : Nat) : Int) - 1 = ((L.take q).lenC : Int) := by omega
    rw [e, em, l2, d2, codeP_split L q]
    have g := moved_get (L.take q).lenC _ _ (codeP_len (L.drop q)) j (by omega)
    rw [getD_right _ _ _ (by omega), getD_right _ _ _ (by omega), getD_right _ _ _ (by omega), getD_right _ _ _ (by omega), lT,
      show ((L.take q).lenC + j) * 4 - (L.take q).lenC * 4 = j * 4 from by omega, show ((L.take q).lenC + j) * 4 + 1 - (L.take q).lenC * 4 = j * 4 + 1 from by omega,
      show ((L.take q).lenC + j) * 4 + 2 - (L.take q).lenC * 4 = j * 4 + 2 from by omega, show ((L.take q).lenC + j) * 4 + 3 - (L.take q).lenC * 4 = j * 4 + 3 from by omega]
    exact g
  · have h29 := codeN_le (L.drop q)
    rcases ho with ho | ho
    · obtain ⟨i, e, _, _, _⟩ := skipX (L.drop q) j hj ho
      have : toC (codeX (L.drop q)) j = (codeX (L.drop q)).getD (j * 4 + 3) 0 := rfl
      rw [← this, e]; omega
    · have : toC (codeX (L.drop q)) j = (codeX (L.drop q)).getD (j * 4 + 3) 0 := rfl
      rw [← this]
      rcases jumpX (L.drop q) j hj ho with ⟨i, e, _, _⟩ | ⟨i, e, _, _⟩ <;> rw [e] <;> omega
end Go.Proofs.YtnfnjhbaaefbpaaGreatDoor
