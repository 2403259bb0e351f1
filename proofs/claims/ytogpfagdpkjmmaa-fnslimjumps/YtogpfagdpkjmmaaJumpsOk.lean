/- Code whose jumps go to the ends of their chains is right: as plain data. -/
import Derived.Test.YtogpfagdpkjmmaaDeadP
namespace Go.Proofs.Ytogpfagdpkjmmaa

theorem insB_jump {o a b t t' : Int} {m : Nat} (h : insB o a b t m = true) (ho : o = 6 ∨ o = 7) (h0 : 0 ≤ t') (h1 : t' < m) : insB o a b t' m = true := by
  unfold insB at h ⊢
  rw [if_neg (by omega)] at h ⊢
  rcases ho with rfl | rfl
  · rw [if_pos rfl] at h ⊢
    have := of_decide_eq_true h
    exact decide_eq_true (by omega)
  · rw [if_neg (by decide), if_pos rfl] at h ⊢
    have := of_decide_eq_true h
    exact decide_eq_true (by omega)

abbrev jumpsL (xs : List Int) (n : Nat) : List Int := turnK xs (jumpF xs n) n
theorem jumps_right {xs : List Int} {n : Nat} (hr : Right xs n) : Right (jumpsL xs n) n := by
  refine ⟨by rw [turnK_len]; exact hr.len, hr.lo, hr.hi, fun i hi => ?_, fun i hi => by rw [turnK_op]; exact hr.last i hi⟩
  rw [turnK_op, turnK_a, turnK_b, turnK_to hr.len _ _ _ hi]
  by_cases hT : isT xs i = true
  · rw [if_pos ⟨hi, hT⟩]
    have h67 : opC xs i = 6 ∨ opC xs i = 7 := by unfold isT at hT; exact of_decide_eq_true hT
    have ht := insB_to (hr.ins i hi) h67
    have := endTo_lt hr (i := (toC xs i).toNat) (by omega)
    exact insB_jump (hr.ins i hi) h67 (by unfold jumpF; omega) (by unfold jumpF; omega)
  · rw [if_neg (fun h => hT h.2)]
    exact hr.ins i hi

theorem lab_chase {xs : List Int} {n : Nat} (hr : Right xs n) {ρ : Nat → Option Int} (hρ : Lab xs n ρ) {r : Int} : ∀ k i, i < n → ρ i = some r → ρ (chase xs k i) = some r := by
  intro k
  induction k with
  | zero => intro i _ h; exact h
  | succ k ih =>
    intro i hi h
    rw [chase]
    split
    · rename_i h7
      have ht := insB_to (hr.ins i hi) (.inr h7)
      obtain ⟨r', h1, h2⟩ := hρ.step i r hi h
      have e : r = r' := by
        unfold heldX heldO at h1
        rw [h7, if_neg (by decide), if_neg (by decide), if_neg (by decide), if_neg (by decide)] at h1
        injection h1
      subst e
      exact ih _ (by omega) (h2 _ (by unfold nextX nextO; rw [h7, if_neg (by decide), if_pos rfl]; exact List.mem_cons_self ..))
    · exact h
theorem jumps_lab {xs : List Int} {n : Nat} (hr : Right xs n) {ρ : Nat → Option Int} (hρ : Lab xs n ρ) : Lab (jumpsL xs n) n ρ := by
  refine ⟨hρ.start, fun i r hi h => ?_⟩
  obtain ⟨r', h1, h2⟩ := hρ.step i r hi h
  refine ⟨r', by unfold heldX; rw [turnK_op, turnK_a]; exact h1, fun j hj => ?_⟩
  have go : ∀ t : Nat, t < n → ρ t = some r' → ρ (endTo xs n t) = some r' := fun t ht hr' => by
    unfold endTo
    split
    · exact hr'
    · exact lab_chase hr hρ n t ht hr'
  unfold nextX nextO at hj h2
  rw [turnK_op] at hj
  by_cases h6 : opC xs i = 6
  · have hT : isT xs i = true := by unfold isT; exact decide_eq_true (.inl h6)
    have ht := insB_to (hr.ins i hi) (.inl h6)
    rw [if_pos h6] at hj h2
    rw [turnK_to hr.len _ _ _ hi, if_pos ⟨hi, hT⟩] at hj
    rcases List.mem_cons.1 hj with e | hj
    · exact h2 _ (by rw [e]; exact List.mem_cons_self ..)
    · rcases List.mem_cons.1 hj with e | hj
      · rw [e]
        unfold jumpF
        rw [Int.toNat_natCast]
        exact go _ (by omega) (h2 _ (by simp))
      · cases hj
  · rw [if_neg h6] at hj h2
    by_cases h7 : opC xs i = 7
    · have hT : isT xs i = true := by unfold isT; exact decide_eq_true (.inr h7)
      have ht := insB_to (hr.ins i hi) (.inr h7)
      rw [if_pos h7] at hj h2
      rw [turnK_to hr.len _ _ _ hi, if_pos ⟨hi, hT⟩] at hj
      rcases List.mem_cons.1 hj with e | hj
      · rw [e]
        unfold jumpF
        rw [Int.toNat_natCast]
        exact go _ (by omega) (h2 _ (by simp))
      · cases hj
    · rw [if_neg h7] at hj h2
      exact h2 j hj
theorem jumps_ok {xs : List Int} {n : Nat} (hr : Right xs n) (hc : codeB xs n = true) : codeB (jumpsL xs n) n = true := by
  rw [codeB_right (jumps_right hr)]
  rw [codeB_right hr] at hc
  apply Classical.byContradiction
  intro hno
  have hl : ∀ ρ, Lab xs n ρ → False := fun ρ hρ => hno (roomsB_true (jumps_lab hr hρ))
  rw [roomsB_false hl] at hc
  cases hc

/-- One that goes to no jump but round for ever stays. -/
theorem endTo_op {xs : List Int} {n i : Nat} (h : endTo xs n i ≠ i) : opC xs (endTo xs n i) ≠ 7 := by
  unfold endTo at h ⊢
  split
  · rename_i h7
    rw [if_pos h7] at h
    exact absurd rfl h
  · rename_i h7; exact h7
/-- A chain without an end is in the turned code what it was. -/
theorem chase_turn {xs : List Int} {n : Nat} (hr : Right xs n) {i : Nat} (hi : i < n) (h : ∀ k, opC xs (chase xs k i) = 7) : ∀ k, chase (jumpsL xs n) k i = chase xs k i := by
  intro k
  induction k generalizing i with
  | zero => rfl
  | succ k ih =>
    have h7 : opC xs i = 7 := h 0
    have ht := insB_to (hr.ins i hi) (.inr h7)
    have hT : isT xs i = true := by unfold isT; exact decide_eq_true (.inr h7)
    have hn : ∀ q, opC xs (chase xs q (toC xs i).toNat) = 7 := fun q => by
      have := h (q + 1)
      rwa [chase, if_pos h7] at this
    have he : endTo xs n (toC xs i).toNat = (toC xs i).toNat := by unfold endTo; rw [if_pos (hn n)]
    have hto : toC (jumpsL xs n) i = toC xs i := by
      rw [turnK_to hr.len _ _ _ hi, if_pos ⟨hi, hT⟩]
      unfold jumpF
      rw [he]; omega
    rw [chase, chase, if_pos h7, turnK_op, if_pos h7, hto]
    exact ih (by omega) hn
theorem chase_ever {xs : List Int} {n : Nat} (hr : Right xs n) {t : Nat} (ht : t < n) (h : ∀ q, q < n → opC xs (chase xs q t) = 7) : ∀ k, opC xs (chase xs k t) = 7 := by
  intro k
  induction k generalizing t with
  | zero => exact h 0 (by omega)
  | succ k ih =>
    have hs : ∀ q, chase xs q (chase xs 1 t) = chase xs (q + 1) t := fun q => by rw [Nat.add_comm q 1, chase_add]
    rw [← hs k]
    refine ih (chase_lt hr ht 1) fun q hq => ?_
    rw [hs q]
    by_cases e : q + 1 = n
    · rw [e]; exact chase_round hr ht h
    · exact h _ (by omega)
/-- Done once more nothing turns. -/
theorem endTo_twice {xs : List Int} {n : Nat} (hr : Right xs n) {t : Nat} (ht : t < n) : endTo (jumpsL xs n) n (endTo xs n t) = endTo xs n t := by
  by_cases h7 : opC xs (chase xs n t) = 7
  · have he : endTo xs n t = t := by unfold endTo; rw [if_pos h7]
    rw [he]
    have hall : ∀ k, opC xs (chase xs k t) = 7 := fun k => by
      apply Classical.byContradiction
      intro hk
      by_cases hkn : k ≤ n
      · have := endTo_at hkn hk
        rw [show n = k + (n - k) from by omega, chase_add, chase_stop hk] at h7
        exact hk h7
      · -- all of the first n are jumps: then all are
        have hfirst : ∀ q, q < n → opC xs (chase xs q t) = 7 := fun q hq => by
          apply Classical.byContradiction
          intro hne
          rw [show n = q + (n - q) from by omega, chase_add, chase_stop hne] at h7
          exact hne h7
        exact hk (chase_ever hr ht hfirst k)
    unfold endTo
    rw [chase_turn hr ht hall, turnK_op, if_pos h7]
  · have he : endTo xs n t = chase xs n t := by unfold endTo; rw [if_neg h7]
    rw [he]
    have hs : opC (jumpsL xs n) (chase xs n t) ≠ 7 := by rw [turnK_op]; exact h7
    unfold endTo
    rw [chase_stop hs, if_neg hs]
theorem jumps_twice {xs : List Int} {n : Nat} (hr : Right xs n) : jumpsL (jumpsL xs n) n = jumpsL xs n := by
  refine ext4 (m := n) (by rw [turnK_len, turnK_len]; exact hr.len) (by rw [turnK_len]; exact hr.len) fun j hj => ⟨turnK_op _ _ _ _, turnK_a _ _ _ _, turnK_b _ _ _ _, ?_⟩
  rw [turnK_to (by rw [turnK_len]; exact hr.len) _ _ _ hj, turnK_isT]
  by_cases hT : isT xs j = true
  · have h67 : opC xs j = 6 ∨ opC xs j = 7 := by unfold isT at hT; exact of_decide_eq_true hT
    have ht := insB_to (hr.ins j hj) h67
    have e1 : toC (jumpsL xs n) j = jumpF xs n j := by rw [turnK_to hr.len _ _ _ hj, if_pos ⟨hj, hT⟩]
    rw [if_pos ⟨hj, hT⟩, e1]
    have e2 : jumpF (jumpsL xs n) n j = (endTo (jumpsL xs n) n (toC (jumpsL xs n) j).toNat : Nat) := rfl
    rw [e2, e1]
    unfold jumpF
    rw [Int.toNat_natCast, endTo_twice hr (by omega)]
  · rw [if_neg (fun h => hT h.2)]
end Go.Proofs.Ytogpfagdpkjmmaa
