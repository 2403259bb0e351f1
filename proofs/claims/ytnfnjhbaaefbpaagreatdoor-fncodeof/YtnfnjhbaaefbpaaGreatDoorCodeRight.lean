/- Code of what is right is right: as plain data. -/
import Derived.Test.YtnfnjhbaaefbpaaGreatDoorCodeOkPure
import Derived.Test.YtnfnjhbaaefbpaaGreatDoorOkMore
import Derived.Test.YtnfnjhbaaefbpaaGreatDoorBothPure
namespace Go.Proofs.YtnfnjhbaaefbpaaGreatDoor

theorem aC_left {X Y : List Int} {a i : Nat} (hX : X.length = a * 4) (h : i < a) : aC (X ++ Y) i = aC X i := getD_left X Y _ (by omega)
theorem bC_left {X Y : List Int} {a i : Nat} (hX : X.length = a * 4) (h : i < a) : bC (X ++ Y) i = bC X i := getD_left X Y _ (by omega)
theorem aC_right {X Y : List Int} {a i : Nat} (hX : X.length = a * 4) : aC (X ++ Y) (a + i) = aC Y i := by
  unfold aC
  rw [getD_right X Y _ (by omega), hX, show (a + i) * 4 + 1 - a * 4 = i * 4 + 1 from by omega]
theorem bC_right {X Y : List Int} {a i : Nat} (hX : X.length = a * 4) : bC (X ++ Y) (a + i) = bC Y i := by
  unfold bC
  rw [getD_right X Y _ (by omega), hX, show (a + i) * 4 + 2 - a * 4 = i * 4 + 2 from by omega]

/-- Each instruction of code is right, in code of m, and none is an end. -/
structure InsAll (m n : Nat) (xs : List Int) : Prop where
  len : xs.length = n * 4
  ins : ∀ i, i < n → insB (opC xs i) (aC xs i) (bC xs i) (toC xs i) m = true ∧ opC xs i ≠ 13
theorem InsAll.nil (m : Nat) : InsAll m 0 [] := ⟨rfl, fun i hi => by omega⟩
theorem InsAll.append {m a b : Nat} {X Y : List Int} (hX : InsAll m a X) (hY : InsAll m b Y) : InsAll m (a + b) (X ++ Y) := by
  have l := hX.len
  refine ⟨by rw [List.length_append, l, hY.len]; omega, fun i hi => ?_⟩
  by_cases h : i < a
  · rw [opC_left l h, aC_left l h, bC_left l h, toC_left l h]; exact hX.ins i h
  · obtain ⟨q, rfl⟩ : ∃ q, i = a + q := ⟨i - a, by omega⟩
    rw [opC_right l, aC_right l, bC_right l, toC_right l]; exact hY.ins q (by omega)
theorem InsAll.one {m : Nat} {o a b t : Int} (h : insB o a b t m = true) (h13 : o ≠ 13) : InsAll m 1 [o, a, b, t] :=
  ⟨rfl, fun i hi => by obtain rfl : i = 0 := by omega
                       exact ⟨h, h13⟩⟩

theorem leaf_ins {k x y n r : Int} {m : Nat} (h : leafB k x y n r = true) : InsAll m 1 (leafC k x y n) := by
  have hk : k = 1 ∨ k = 2 ∨ k = 3 ∨ k = 4 ∨ k = 5 ∨ k = 9 ∨ k = 10 ∨ k = 11 ∨ (k ≠ 1 ∧ k ≠ 2 ∧ k ≠ 3 ∧ k ≠ 4 ∧ k ≠ 5 ∧ k ≠ 9 ∧ k ≠ 10 ∧ k ≠ 11) := by omega
  rcases hk with rfl | rfl | rfl | rfl | rfl | rfl | rfl | rfl | ⟨h1, h2, h3, h4, h5, h9, h10, h11⟩
  · exact InsAll.one (by simpa [insB, leafB] using h) (by decide)
  · exact InsAll.one (by simpa [insB, leafB] using h) (by decide)
  · exact InsAll.one (by simpa [insB, leafB] using h) (by decide)
  · exact InsAll.one (by simpa [insB, leafB] using h) (by decide)
  · exact InsAll.one (by simpa [insB, leafB] using h) (by decide)
  · exact InsAll.one (by simp [leafB] at h; simp [insB]; omega) (by decide)
  · exact InsAll.one (by simp [leafB] at h; simp [insB]; omega) (by decide)
  · exact InsAll.one (by simp [insB]) (by decide)
  · simp [leafB, h1, h2, h3, h4, h5, h9, h10, h11] at h

theorem code_ins (m : Nat) (L : SL) : ∀ (d r : Int) (p : Nat), okL L d r = true → p + L.lenC < m → InsAll m L.lenC (codeL L p) := by
  induction L with
  | nil => intro d r p _ _; exact InsAll.nil m
  | cons k x y n B E R hB hE hR =>
    intro d r p hok hp
    rw [okL_cons, Bool.and_eq_true] at hok
    obtain ⟨hh, okB, okE⟩ := okS_parts hok.1
    rw [lenC_cons] at hp
    have hd := headB_one hh
    have fst : InsAll m (lenS k B E) (codeS k x y n B E p) := by
      unfold headB at hh
      rw [decide_eq_true hd, Bool.true_and] at hh
      unfold lenS at hp
      unfold codeS lenS
      by_cases h6 : k = 6
      · rw [if_pos h6] at hh hp ⊢
        rw [if_pos h6]
        have hx := of_decide_eq_true hh
        have a := ((InsAll.one (m := m) (o := 6) (a := x) (b := 0) (t := ((p + 2 + B.lenC : Nat) : Int)) (by simp [insB]; omega) (by decide)).append (hB _ _ (p + 1) okB (by omega))).append
          ((InsAll.one (m := m) (o := 7) (a := 0) (b := 0) (t := ((p + 2 + B.lenC + E.lenC : Nat) : Int)) (by simp [insB]; omega) (by decide)).append (hE _ _ (p + 2 + B.lenC) okE (by omega)))
        rw [show 1 + B.lenC + (1 + E.lenC) = 2 + B.lenC + E.lenC from by omega] at a
        exact a
      · rw [if_neg h6] at hh hp ⊢
        rw [if_neg h6]
        by_cases h7 : k = 7
        · rw [if_pos h7] at hh hp ⊢
          rw [if_pos h7]
          have hx := of_decide_eq_true hh
          have a := ((InsAll.one (m := m) (o := 6) (a := x) (b := 0) (t := ((p + 2 + B.lenC : Nat) : Int)) (by simp [insB]; omega) (by decide)).append (hB _ _ (p + 1) okB (by omega))).append
            (InsAll.one (m := m) (o := 7) (a := 0) (b := 0) (t := (p : Int)) (by simp [insB]; omega) (by decide))
          rw [show 1 + B.lenC + 1 = 2 + B.lenC from by omega] at a
          exact a
        · rw [if_neg h7] at hh hp ⊢
          rw [if_neg h7]
          by_cases h8 : k = 8
          · rw [if_pos h8] at hh hp ⊢
            rw [if_pos h8]
            have hx := of_decide_eq_true hh
            have a := ((InsAll.one (m := m) (o := 8) (a := x) (b := 0) (t := 0) (by simp [insB]; omega) (by decide)).append (hB _ _ (p + 1) okB (by omega))).append
              (InsAll.one (m := m) (o := 9) (a := x) (b := 0) (t := 0) (by simp [insB]; omega) (by decide))
            rw [show 1 + B.lenC + 1 = 2 + B.lenC from by omega] at a
            exact a
          · rw [if_neg h8] at hh ⊢
            rw [if_neg h8]
            rw [Bool.and_eq_true] at hh
            exact leaf_ins hh.2
    rw [codeL_cons, lenC_cons]
    exact fst.append (hR _ _ _ hok.2 (by omega))

theorem code_right {L : SL} (h : okL L 3 (-1) = true) (h14 : L.size ≤ 14) : Right (codeP L) (L.lenC + 1) := by
  have hl := lenC_le L
  have a := code_ins (L.lenC + 1) L 3 (-1) 0 h (by omega)
  have l := codeL_len L 0
  have e : ∀ (P : Int → Int → Int → Int → Prop), P 13 0 0 0 → P (opC (codeP L) L.lenC) (aC (codeP L) L.lenC) (bC (codeP L) L.lenC) (toC (codeP L) L.lenC) := fun P hP => by
    have e0 := opC_right (Y := [13, 0, 0, 0]) (i := 0) l
    have e1 := aC_right (Y := [13, 0, 0, 0]) (i := 0) l
    have e2 := bC_right (Y := [13, 0, 0, 0]) (i := 0) l
    have e3 := toC_right (Y := [13, 0, 0, 0]) (i := 0) l
    rw [Nat.add_zero] at e0 e1 e2 e3
    show P (opC (codeL L 0 ++ _) _) (aC (codeL L 0 ++ _) _) (bC (codeL L 0 ++ _) _) (toC (codeL L 0 ++ _) _)
    rw [e0, e1, e2, e3]; exact hP
  refine ⟨codeP_len L, by omega, by omega, fun i hi => ?_, fun i hi => ?_⟩
  · by_cases hlt : i < L.lenC
    · have := (a.ins i hlt).1
      unfold codeP
      rw [opC_left l hlt, aC_left l hlt, bC_left l hlt, toC_left l hlt]; exact this
    · obtain rfl : i = L.lenC := by omega
      exact e (fun o x y t => insB o x y t (L.lenC + 1) = true) (by simp [insB])
  · by_cases hlt : i < L.lenC
    · have := (a.ins i hlt).2
      unfold codeP
      rw [opC_left l hlt]
      exact ⟨fun h => absurd h this, fun h => by omega⟩
    · obtain rfl : i = L.lenC := by omega
      exact ⟨fun _ => rfl, fun _ => e (fun o _ _ _ => o = 13) rfl⟩
end Go.Proofs.YtnfnjhbaaefbpaaGreatDoor
