/- Where one may come, place by place: as plain data. -/
import Derived.Test.YtogpfagdpkjmmaaJumpsP
namespace Go.Proofs.Ytogpfagdpkjmmaa

theorem come_iff {xs : List Int} {n : Nat} (hr : Right xs n) {i : Nat} (h1 : 1 ≤ i) : Come xs i ↔ (Come xs (i - 1) ∧ opC xs (i - 1) ≠ 7 ∧ opC xs (i - 1) ≠ 13) ∨ ∃ k, k < n ∧ Come xs k ∧ isT xs k = true ∧ toC xs k = i := by
  constructor
  · intro h
    cases h with
    | zero => omega
    | @step k _ hk hj =>
      have hkn := hk.lt hr
      unfold nextX nextO at hj
      by_cases h6 : opC xs k = 6
      · rw [if_pos h6] at hj
        have ht := insB_to (hr.ins k hkn) (.inl h6)
        rcases List.mem_cons.1 hj with e | hj
        · left
          subst e
          exact ⟨hk, by rw [show k + 1 - 1 = k from by omega, h6]; decide, by rw [show k + 1 - 1 = k from by omega, h6]; decide⟩
        · right
          rcases List.mem_cons.1 hj with e | hj
          · exact ⟨k, hkn, hk, by unfold isT; rw [decide_eq_true (.inl h6)], by omega⟩
          · cases hj
      · rw [if_neg h6] at hj
        by_cases h7 : opC xs k = 7
        · rw [if_pos h7] at hj
          have ht := insB_to (hr.ins k hkn) (.inr h7)
          right
          rcases List.mem_cons.1 hj with e | hj
          · exact ⟨k, hkn, hk, by unfold isT; rw [decide_eq_true (.inr h7)], by omega⟩
          · cases hj
        · rw [if_neg h7] at hj
          by_cases h13 : opC xs k = 13
          · rw [if_pos h13] at hj; cases hj
          · rw [if_neg h13] at hj
            left
            rcases List.mem_cons.1 hj with e | hj
            · subst e
              exact ⟨hk, by rw [show k + 1 - 1 = k from by omega]; exact h7, by rw [show k + 1 - 1 = k from by omega]; exact h13⟩
            · cases hj
  · rintro (⟨hk, h7, h13⟩ | ⟨k, hkn, hk, hT, ht⟩)
    · refine .step hk ?_
      unfold nextX nextO
      by_cases h6 : opC xs (i - 1) = 6
      · rw [if_pos h6, show i - 1 + 1 = i from by omega]; exact List.mem_cons_self ..
      · rw [if_neg h6, if_neg h7, if_neg h13, show i - 1 + 1 = i from by omega]; exact List.mem_cons_self ..
    · refine .step hk ?_
      have ho : opC xs k = 6 ∨ opC xs k = 7 := by unfold isT at hT; exact of_decide_eq_true hT
      have e : (toC xs k).toNat = i := by omega
      unfold nextX nextO
      rcases ho with h6 | h7
      · rw [if_pos h6, e]; simp
      · rw [if_neg (by omega), if_pos h7, e]; simp

/-- Whether one comes there by going on, or out of one of the first k by its number. -/
noncomputable def fromB (xs : List Int) (n i : Nat) : Nat → Bool
  | 0 => (comeL xs n).getD (i - 1) false && !(decide (opC xs (i - 1) = 7) || decide (opC xs (i - 1) = 13))
  | k + 1 => fromB xs n i k || ((comeL xs n).getD k false && (isT xs k && decide (toC xs k = (i : Int))))
theorem fromB_iff {xs : List Int} {n i : Nat} : ∀ k, fromB xs n i k = true ↔ fromB xs n i 0 = true ∨ ∃ q, q < k ∧ (comeL xs n).getD q false = true ∧ isT xs q = true ∧ toC xs q = i := by
  intro k
  induction k with
  | zero => simp
  | succ k ih =>
    rw [show fromB xs n i (k + 1) = (fromB xs n i k || ((comeL xs n).getD k false && (isT xs k && decide (toC xs k = (i : Int))))) from rfl, Bool.or_eq_true, ih]
    simp only [Bool.and_eq_true, decide_eq_true_eq]
    constructor
    · rintro ((h | ⟨q, h1, h2⟩) | h)
      · exact .inl h
      · exact .inr ⟨q, by omega, h2⟩
      · exact .inr ⟨k, by omega, h⟩
    · rintro (h | ⟨q, h1, h2⟩)
      · exact .inl (.inl h)
      · by_cases e : q = k
        · subst e; exact .inr h2
        · exact .inl (.inr ⟨q, by omega, h2⟩)
theorem fromB_come {xs : List Int} {n : Nat} (hr : Right xs n) {i : Nat} (h1 : 1 ≤ i) (hi : i < n) : fromB xs n i n = (comeL xs n).getD i false := by
  classical
  rw [Bool.eq_iff_iff, fromB_iff, comeL_get hi, decide_eq_true_eq, come_iff hr h1]
  have h0 : fromB xs n i 0 = true ↔ Come xs (i - 1) ∧ opC xs (i - 1) ≠ 7 ∧ opC xs (i - 1) ≠ 13 := by
    rw [fromB, comeL_get (by omega)]
    simp
  rw [h0]
  have h2 : (∃ q, q < n ∧ (comeL xs n).getD q false = true ∧ isT xs q = true ∧ toC xs q = i) ↔ ∃ k, k < n ∧ Come xs k ∧ isT xs k = true ∧ toC xs k = i := by
    constructor
    · rintro ⟨q, hq, hc, hT, ht⟩
      rw [comeL_get hq, decide_eq_true_eq] at hc
      exact ⟨q, hq, hc, hT, ht⟩
    · rintro ⟨q, hq, hc, hT, ht⟩
      exact ⟨q, hq, by rw [comeL_get hq]; exact decide_eq_true hc, hT, ht⟩
  rw [h2]
theorem come_zero {xs : List Int} {n : Nat} (h : 0 < n) : (comeL xs n).getD 0 false = true := by
  classical
  rw [comeL_get h]; exact decide_eq_true .zero
end Go.Proofs.Ytogpfagdpkjmmaa
