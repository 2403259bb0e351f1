/- Where the jumps of the code of a process go. -/
import Derived.Test.YtnfnjhbaaefbpaaGreatDoorCodeBoth2
import Derived.Test.YtnfnjhbaaefbpaaGreatDoorJumpPure
namespace Go.Proofs.YtnfnjhbaaefbpaaGreatDoor

theorem codeX_ok {L : SL} {i : Nat} (h : i < codeN L) : codeN L = L.lenC + 1 ∧ codeX L = codeP L := by
  unfold codeN codeX at *
  cases hb : okP L
  · rw [hb] at h; simp at h
  · exact ⟨rfl, rfl⟩
theorem codeP_op (L : SL) {i : Nat} (h : i < L.lenC) : opC (codeP L) i = opC (codeL L 0) i ∧ toC (codeP L) i = toC (codeL L 0) i := ⟨opC_left (codeL_len L 0) h, toC_left (codeL_len L 0) h⟩
theorem codeP_end (L : SL) : opC (codeP L) L.lenC = 13 := (opC_right (Y := [13, 0, 0, 0]) (i := 0) (codeL_len L 0)).trans rfl
theorem skipX (L : SL) : ∀ i, i < codeN L → opC (codeX L) i = 6 → ∃ j : Nat, toC (codeX L) i = ((j + 1 : Nat) : Int) ∧ i ≤ j ∧ j + 1 < codeN L ∧ opC (codeX L) j = 7 := by
  intro i hi ho
  obtain ⟨e1, e2⟩ := codeX_ok hi
  rw [e2] at ho ⊢
  rw [e1] at hi ⊢
  by_cases h : i < L.lenC
  · obtain ⟨p1, p2⟩ := codeP_op L h
    rw [p1] at ho
    obtain ⟨j, q1, q2, q3, q4⟩ := (JP.code L 0).skip i h ho
    exact ⟨j, by rw [p2, q1, Nat.zero_add], q2, by omega, by rw [(codeP_op L q3).1]; exact q4⟩
  · obtain rfl : i = L.lenC := by omega
    rw [codeP_end] at ho; cases ho
theorem jumpX (L : SL) : ∀ i, i < codeN L → opC (codeX L) i = 7 → (∃ j : Nat, toC (codeX L) i = (j : Int) ∧ i < j ∧ j < codeN L) ∨ ∃ j : Nat, toC (codeX L) i = (j : Int) ∧ j < i ∧ opC (codeX L) j = 6 := by
  intro i hi ho
  obtain ⟨e1, e2⟩ := codeX_ok hi
  rw [e2] at ho ⊢
  rw [e1] at hi ⊢
  by_cases h : i < L.lenC
  · obtain ⟨p1, p2⟩ := codeP_op L h
    rw [p1] at ho
    rcases (JP.code L 0).jump i h ho with ⟨j, q1, q2, q3⟩ | ⟨j, q1, q2, q3⟩
    · exact .inl ⟨j, by rw [p2, q1, Nat.zero_add], q2, by omega⟩
    · exact .inr ⟨j, by rw [p2, q1, Nat.zero_add], q2, by rw [(codeP_op L (by omega)).1]; exact q3⟩
  · obtain rfl : i = L.lenC := by omega
    rw [codeP_end] at ho; cases ho
theorem cntX (L : SL) : cntC 6 (codeX L) = cntC 7 (codeX L) := by
  unfold codeX
  cases okP L
  · rfl
  · exact cnt_whole L
end Go.Proofs.YtnfnjhbaaefbpaaGreatDoor
