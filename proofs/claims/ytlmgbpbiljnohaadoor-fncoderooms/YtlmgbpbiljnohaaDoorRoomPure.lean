/- In code of what is right, entering and leaving a room take turns: as plain data. -/
import Derived.Test.YtlmgbpbiljnohaaDoorCodePure
import Derived.Test.YtlmgbpbiljnohaaDoorOkMore
namespace Go.Proofs.YtlmgbpbiljnohaaDoor

/-- Whether one is in room m behind the code, if one is so ahead of it; none if one enters it from within or leaves it from without. -/
def roomScan (m : Int) : Bool → List Int → Option Bool
  | b, o :: a :: _ :: _ :: r => if a = m then (if o = 8 then (if b then none else roomScan m true r) else if o = 9 then (if b then roomScan m false r else none) else roomScan m b r) else roomScan m b r
  | b, _ => some b

theorem scan_other (m : Int) (b : Bool) (o a x y : Int) (r : List Int) (h : a ≠ m ∨ (o ≠ 8 ∧ o ≠ 9)) : roomScan m b (o :: a :: x :: y :: r) = roomScan m b r := by
  rcases h with h | ⟨h8, h9⟩
  · simp [roomScan, h]
  · by_cases h : a = m <;> simp [roomScan, h, h8, h9]

theorem scan_leaf (m : Int) (b : Bool) (k x y n : Int) (r : List Int) : roomScan m b (leafC k x y n ++ r) = roomScan m b r := by
  unfold leafC
  split
  · exact scan_other m b k x y n r (.inr (by omega))
  split
  · exact scan_other m b 10 x 0 0 r (.inr (by omega))
  split
  · exact scan_other m b 11 x 0 0 r (.inr (by omega))
  · exact scan_other m b 12 0 0 0 r (.inr (by omega))

theorem scan_code (m : Int) (L : SL) : ∀ (d r : Int) (p : Nat) (b : Bool) (ys : List Int), okL L d r = true → (b = true → 0 ≤ r) → roomScan m b (codeL L p ++ ys) = roomScan m b ys := by
  induction L with
  | nil => intro d r p b ys _ _; rfl
  | cons k x y n B E R hB hE hR =>
    intro d r p b ys hok hb
    rw [okL_cons, Bool.and_eq_true] at hok
    obtain ⟨hh, okB, okE⟩ := okS_parts hok.1
    rw [codeL_cons, List.append_assoc]
    have tail : roomScan m b (codeL R (p + lenS k B E) ++ ys) = roomScan m b ys := hR d r _ b ys hok.2 hb
    rw [← tail]
    generalize codeL R (p + lenS k B E) ++ ys = zs
    unfold codeS
    by_cases h6 : k = 6
    · rw [if_pos h6]
      have e : inR k x r = r := by unfold inR; rw [if_neg (by omega)]
      rw [e] at okB okE
      rw [List.append_assoc, List.append_assoc]
      show roomScan m b (6 :: x :: 0 :: _ :: (codeL B (p + 1) ++ _)) = _
      rw [scan_other _ _ _ _ _ _ _ (.inr (by omega)), hB _ _ _ _ _ okB hb, List.append_assoc]
      show roomScan m b (7 :: 0 :: 0 :: _ :: (codeL E _ ++ zs)) = _
      rw [scan_other _ _ _ _ _ _ _ (.inr (by omega)), hE _ _ _ _ _ okE hb]
    · rw [if_neg h6]
      by_cases h7 : k = 7
      · rw [if_pos h7]
        have e : inR k x r = r := by unfold inR; rw [if_neg (by omega)]
        rw [e] at okB
        rw [List.append_assoc, List.append_assoc]
        show roomScan m b (6 :: x :: 0 :: _ :: (codeL B (p + 1) ++ _)) = _
        rw [scan_other _ _ _ _ _ _ _ (.inr (by omega)), hB _ _ _ _ _ okB hb]
        show roomScan m b (7 :: 0 :: 0 :: _ :: zs) = _
        rw [scan_other _ _ _ _ _ _ _ (.inr (by omega))]
      · rw [if_neg h7]
        by_cases h8 : k = 8
        · rw [if_pos h8]
          have e : inR k x r = x := by unfold inR; rw [if_pos h8]
          rw [e] at okB
          have hr : r < 0 ∧ 0 ≤ x ∧ x < 2 ∧ y = 0 ∧ n = 0 := by
            apply Classical.byContradiction
            intro hn
            rw [h8, headB_8 hn] at hh
            cases hh
          have hb0 : b = false := by cases b with
            | false => rfl
            | true => have := hb rfl; omega
          subst hb0
          rw [List.append_assoc, List.append_assoc]
          show roomScan m false (8 :: x :: 0 :: 0 :: (codeL B (p + 1) ++ (9 :: x :: 0 :: 0 :: zs))) = _
          by_cases hx : x = m
          · subst hx
            have e1 : ∀ t, roomScan x false (8 :: x :: 0 :: 0 :: t) = roomScan x true t := fun t => by simp [roomScan]
            have e2 : ∀ t, roomScan x true (9 :: x :: 0 :: 0 :: t) = roomScan x false t := fun t => by simp [roomScan]
            rw [e1, hB _ _ _ _ _ okB (fun _ => by omega), e2]
          · rw [scan_other _ _ _ _ _ _ _ (.inl hx), hB _ _ _ _ _ okB (fun h => by cases h), scan_other _ _ _ _ _ _ _ (.inl hx)]
        · rw [if_neg h8, scan_leaf]

/-- Of the whole code of a process. -/
theorem scan_whole (m : Int) {L : SL} (h : okL L 3 (-1) = true) : roomScan m false (codeP L) = some false := by
  unfold codeP
  rw [scan_code m L 3 (-1) 0 false _ h (fun h => by cases h)]
  exact scan_other m false 13 0 0 0 [] (.inr (by omega))

/-- Four numbers of a list, and the rest. -/
theorem four_cons {xs : List Int} {n k : Nat} (hl : xs.length = n * 4) (hk : k < n) : xs.drop (k * 4) = xs.getD (k * 4) 0 :: xs.getD (k * 4 + 1) 0 :: xs.getD (k * 4 + 2) 0 :: xs.getD (k * 4 + 3) 0 :: xs.drop ((k + 1) * 4) := by
  have g : ∀ j (h : j < xs.length), xs[j] = xs.getD j 0 := fun j h => by simp [List.getD, h]
  rw [List.drop_eq_getElem_cons (by omega : k * 4 < xs.length), List.drop_eq_getElem_cons (by omega : k * 4 + 1 < xs.length), List.drop_eq_getElem_cons (by omega : k * 4 + 1 + 1 < xs.length), List.drop_eq_getElem_cons (by omega : k * 4 + 1 + 1 + 1 < xs.length), g, g, g, g,
    show k * 4 + 1 + 1 + 1 + 1 = (k + 1) * 4 from by omega, show k * 4 + 1 + 1 = k * 4 + 2 from rfl, show k * 4 + 2 + 1 = k * 4 + 3 from rfl]

/-- One instruction further. -/
theorem scan_in {m o : Int} {a : Int} {b : Bool} {x y : Int} {r : List Int} (h : roomScan m b (o :: a :: x :: y :: r) = some false) :
    (a ≠ m → roomScan m b r = some false) ∧ (a = m → o = 8 → b = false ∧ roomScan m true r = some false) ∧ (a = m → o = 9 → b = true ∧ roomScan m false r = some false) ∧ (o ≠ 8 → o ≠ 9 → roomScan m b r = some false) := by
  refine ⟨fun ha => ?_, fun ha ho => ?_, fun ha ho => ?_, fun h8 h9 => ?_⟩
  · rwa [scan_other _ _ _ _ _ _ _ (.inl ha)] at h
  · subst ha ho
    cases b <;> simp [roomScan] at h ⊢
    exact h
  · subst ha ho
    cases b <;> simp [roomScan] at h ⊢
    exact h
  · rwa [scan_other _ _ _ _ _ _ _ (.inr ⟨h8, h9⟩)] at h
end Go.Proofs.YtlmgbpbiljnohaaDoor
