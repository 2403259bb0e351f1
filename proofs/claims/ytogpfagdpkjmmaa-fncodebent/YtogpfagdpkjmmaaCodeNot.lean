/- Code that is refused: as plain data. -/
import Derived.Test.YtogpfagdpkjmmaaCodeOkPure
namespace Go.Proofs.Ytogpfagdpkjmmaa

theorem codeB_parts {xs : List Int} {n : Nat} (h : codeB xs n = true) : (1 ≤ n ∧ n ≤ 60) ∧ ∀ i, i < n → insB (opC xs i) (aC xs i) (bC xs i) (toC xs i) n = true ∧ (opC xs i = 13 ↔ i + 1 = n) := by
  unfold codeB at h
  rw [Bool.and_eq_true, Bool.and_eq_true] at h
  exact ⟨of_decide_eq_true h.1.1, of_decide_eq_true h.1.2⟩
theorem codeB_rooms {xs : List Int} {n : Nat} (h : ∀ ρ, Lab xs n ρ → False) : codeB xs n = false := by
  unfold codeB
  rw [roomsB_false h, Bool.and_false]

/-- Without its end. -/
theorem not_less {xs : List Int} {n : Nat} (h : codeB xs n = true) : codeB (xs.take ((n - 1) * 4)) (n - 1) = false := by
  obtain ⟨⟨h1, h60⟩, hall⟩ := codeB_parts h
  by_cases h2 : n - 1 = 0
  · rw [h2]; exact codeB_few (by omega)
  · refine codeB_not (i := n - 2) (by omega) fun hq => ?_
    have e : opC (xs.take ((n - 1) * 4)) (n - 2) = opC xs (n - 2) := by
      unfold opC
      simp only [List.getD_eq_getElem?_getD]
      rw [List.getElem?_take_of_lt (by omega)]
    have h3 := (hall (n - 2) (by omega)).2
    have h4 := hq.2.2 (by omega)
    rw [e] at h4
    have := h3.1 h4
    omega
/-- With an end more. -/
theorem not_more {xs : List Int} {n : Nat} (hl : xs.length = n * 4) (h : codeB xs n = true) : codeB (xs ++ [13, 0, 0, 0]) (n + 1) = false := by
  obtain ⟨⟨h1, h60⟩, hall⟩ := codeB_parts h
  refine codeB_not (i := n - 1) (by omega) fun hq => ?_
  have e : opC (xs ++ [13, 0, 0, 0]) (n - 1) = opC xs (n - 1) := opC_left hl (by omega)
  have h3 := (hall (n - 1) (by omega)).2.2 (by omega)
  rw [e] at hq
  have := hq.2.1 h3
  omega
theorem not_leave : codeB [9, 0, 0, 0, 13, 0, 0, 0] 2 = false := codeB_rooms fun ρ h => by
  obtain ⟨r', h1, _⟩ := h.step 0 (-1) (by omega) h.start
  simp [heldX, opC, aC, heldO] at h1
theorem not_enter : codeB [8, 0, 0, 0, 13, 0, 0, 0] 2 = false := codeB_rooms fun ρ h => by
  obtain ⟨r', h1, h2⟩ := h.step 0 (-1) (by omega) h.start
  simp [heldX, opC, aC, heldO] at h1
  subst h1
  have h3 := h2 1 (by simp [nextX, nextO, opC])
  obtain ⟨r2, h4, _⟩ := h.step 1 0 (by omega) h3
  simp [heldX, opC, heldO] at h4
theorem not_nil : codeB [] 0 = false := codeB_few (by omega)
theorem not_same (xs : List Int) : decide (xs = xs ++ [13, 0, 0, 0]) = false := decide_eq_false fun h => by
  have := congrArg List.length h
  simp at this
end Go.Proofs.Ytogpfagdpkjmmaa
