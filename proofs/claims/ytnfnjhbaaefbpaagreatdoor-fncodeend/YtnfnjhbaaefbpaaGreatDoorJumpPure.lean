/- Where the jumps of code go: as plain data. -/
import Derived.Test.YtnfnjhbaaefbpaaGreatDoorCodePure
namespace Go.Proofs.YtnfnjhbaaefbpaaGreatDoor

/-- Of an instruction what it does, and its last number. -/
def opC (xs : List Int) (i : Nat) : Int := xs.getD (i * 4) 0
def toC (xs : List Int) (i : Nat) : Int := xs.getD (i * 4 + 3) 0

theorem getD_left (X Y : List Int) (j : Nat) (h : j < X.length) : (X ++ Y).getD j 0 = X.getD j 0 := by simp [List.getD, List.getElem?_append_left h]
theorem getD_right (X Y : List Int) (j : Nat) (h : X.length ≤ j) : (X ++ Y).getD j 0 = Y.getD (j - X.length) 0 := by simp [List.getD, List.getElem?_append_right h]

theorem opC_left {X Y : List Int} {a i : Nat} (hX : X.length = a * 4) (h : i < a) : opC (X ++ Y) i = opC X i := getD_left X Y _ (by omega)
theorem toC_left {X Y : List Int} {a i : Nat} (hX : X.length = a * 4) (h : i < a) : toC (X ++ Y) i = toC X i := getD_left X Y _ (by omega)
theorem opC_right {X Y : List Int} {a i : Nat} (hX : X.length = a * 4) : opC (X ++ Y) (a + i) = opC Y i := by
  unfold opC
  rw [getD_right X Y _ (by omega), hX, show (a + i) * 4 - a * 4 = i * 4 from by omega]
theorem toC_right {X Y : List Int} {a i : Nat} (hX : X.length = a * 4) : toC (X ++ Y) (a + i) = toC Y i := by
  unfold toC
  rw [getD_right X Y _ (by omega), hX, show (a + i) * 4 + 3 - a * 4 = i * 4 + 3 from by omega]

/-- Code of n instructions from place p on: each skip goes just behind a jump of it; each jump ahead, at most m places from the first, or back to a skip of it. -/
structure JP (p n m : Nat) (xs : List Int) : Prop where
  len : xs.length = n * 4
  skip : ∀ i, i < n → opC xs i = 6 → ∃ j : Nat, toC xs i = ((p + j + 1 : Nat) : Int) ∧ i ≤ j ∧ j < n ∧ opC xs j = 7
  jump : ∀ i, i < n → opC xs i = 7 → (∃ j : Nat, toC xs i = ((p + j : Nat) : Int) ∧ i < j ∧ j ≤ m) ∨ ∃ j : Nat, toC xs i = ((p + j : Nat) : Int) ∧ j < i ∧ opC xs j = 6

theorem JP.nil (p m : Nat) : JP p 0 m [] := ⟨rfl, fun i hi => by omega, fun i hi => by omega⟩
theorem JP.mono {p n m m' : Nat} {xs : List Int} (h : JP p n m xs) (hm : m ≤ m') : JP p n m' xs :=
  ⟨h.len, h.skip, fun i hi ho => (h.jump i hi ho).imp (fun ⟨j, a, b, c⟩ => ⟨j, a, b, by omega⟩) id⟩

theorem JP.append {p a b m m' : Nat} {X Y : List Int} (hX : JP p a m X) (hY : JP (p + a) b m' Y) : JP p (a + b) (max m (a + m')) (X ++ Y) := by
  have l := hX.len
  refine ⟨by rw [List.length_append, l, hY.len]; omega, fun i hi ho => ?_, fun i hi ho => ?_⟩
  · by_cases h : i < a
    · rw [opC_left l h] at ho
      obtain ⟨j, e, h1, h2, h3⟩ := hX.skip i h ho
      exact ⟨j, by rw [toC_left l h]; exact e, h1, by omega, by rw [opC_left l h2]; exact h3⟩
    · obtain ⟨q, rfl⟩ : ∃ q, i = a + q := ⟨i - a, by omega⟩
      rw [opC_right l] at ho
      obtain ⟨j, e, h1, h2, h3⟩ := hY.skip q (by omega) ho
      exact ⟨a + j, by rw [toC_right l, e, show p + a + j + 1 = p + (a + j) + 1 from by omega], by omega, by omega, by rw [opC_right l]; exact h3⟩
  · by_cases h : i < a
    · rw [opC_left l h] at ho
      rcases hX.jump i h ho with ⟨j, e, h1, h2⟩ | ⟨j, e, h1, h2⟩
      · exact .inl ⟨j, by rw [toC_left l h]; exact e, h1, Nat.le_trans h2 (Nat.le_max_left _ _)⟩
      · exact .inr ⟨j, by rw [toC_left l h]; exact e, h1, by rw [opC_left l (by omega)]; exact h2⟩
    · obtain ⟨q, rfl⟩ : ∃ q, i = a + q := ⟨i - a, by omega⟩
      rw [opC_right l] at ho
      rcases hY.jump q (by omega) ho with ⟨j, e, h1, h2⟩ | ⟨j, e, h1, h2⟩
      · exact .inl ⟨a + j, by rw [toC_right l, e, show p + a + j = p + (a + j) from by omega], by omega, Nat.le_trans (by omega) (Nat.le_max_right _ _)⟩
      · exact .inr ⟨a + j, by rw [toC_right l, e, show p + a + j = p + (a + j) from by omega], by omega, by rw [opC_right l]; exact h2⟩

/-- A single instruction that neither skips nor jumps. -/
theorem JP.one (p m : Nat) (o a b c : Int) (h6 : o ≠ 6) (h7 : o ≠ 7) : JP p 1 m [o, a, b, c] := by
  refine ⟨rfl, fun i hi ho => ?_, fun i hi ho => ?_⟩
  · obtain rfl : i = 0 := by omega
    exact absurd ho h6
  · obtain rfl : i = 0 := by omega
    exact absurd ho h7

theorem part3 {i b : Nat} (h : i < b + 2) : i = 0 ∨ i = 1 + b ∨ (∃ q, i = 1 + q ∧ q < b) := by
  by_cases h0 : i = 0
  · exact .inl h0
  · by_cases h1 : i = 1 + b
    · exact .inr (.inl h1)
    · exact .inr (.inr ⟨i - 1, by omega, by omega⟩)
/-- A skip, code, and a jump: the skip goes behind the jump; the jump to t. -/
theorem JP.wrap {p b m : Nat} {X : List Int} (hX : JP (p + 1) b b X) (x : Int) (t : Nat) (ht : t = p ∨ (∃ j, t = p + j ∧ b + 1 < j ∧ j ≤ m)) (hm : b + 1 ≤ m) :
    JP p (b + 2) m ([6, x, 0, ((p + 2 + b : Nat) : Int)] ++ X ++ [7, 0, 0, (t : Int)]) := by
  have l := hX.len
  have l1 : ([6, x, 0, ((p + 2 + b : Nat) : Int)] : List Int).length = 1 * 4 := rfl
  have l2 : ([6, x, 0, ((p + 2 + b : Nat) : Int)] ++ X).length = (1 + b) * 4 := by rw [List.length_append, l, l1]; omega
  have oz : opC ([6, x, 0, ((p + 2 + b : Nat) : Int)] ++ X ++ [7, 0, 0, (t : Int)]) 0 = 6 := by
    rw [opC_left l2 (by omega), opC_left l1 (by omega)]; rfl
  have tz : toC ([6, x, 0, ((p + 2 + b : Nat) : Int)] ++ X ++ [7, 0, 0, (t : Int)]) 0 = ((p + 2 + b : Nat) : Int) := by
    rw [toC_left l2 (by omega), toC_left l1 (by omega)]; rfl
  have oe : opC ([6, x, 0, ((p + 2 + b : Nat) : Int)] ++ X ++ [7, 0, 0, (t : Int)]) (1 + b) = 7 := by
    exact (opC_right (Y := [7, 0, 0, (t : Int)]) (i := 0) l2).trans rfl
  have te : toC ([6, x, 0, ((p + 2 + b : Nat) : Int)] ++ X ++ [7, 0, 0, (t : Int)]) (1 + b) = (t : Int) := by
    exact (toC_right (Y := [7, 0, 0, (t : Int)]) (i := 0) l2).trans rfl
  have om : ∀ i, i < b → opC ([6, x, 0, ((p + 2 + b : Nat) : Int)] ++ X ++ [7, 0, 0, (t : Int)]) (1 + i) = opC X i := fun i hi => by
    rw [opC_left l2 (by omega), opC_right l1]
  have tm : ∀ i, i < b → toC ([6, x, 0, ((p + 2 + b : Nat) : Int)] ++ X ++ [7, 0, 0, (t : Int)]) (1 + i) = toC X i := fun i hi => by
    rw [toC_left l2 (by omega), toC_right l1]
  refine ⟨by rw [List.length_append, l2]; simp; omega, fun i hi ho => ?_, fun i hi ho => ?_⟩
  · rcases part3 hi with rfl | rfl | ⟨q, rfl, hq⟩
    · exact ⟨1 + b, by rw [tz, show p + (1 + b) + 1 = p + 2 + b from by omega], by omega, by omega, oe⟩
    · rw [oe] at ho; cases ho
    · rw [om q hq] at ho
      obtain ⟨j, e, h1, h2, h3⟩ := hX.skip q hq ho
      exact ⟨1 + j, by rw [tm q hq, e, show p + 1 + j + 1 = p + (1 + j) + 1 from by omega], by omega, by omega, by rw [om j h2]; exact h3⟩
  · rcases part3 hi with rfl | rfl | ⟨q, rfl, hq⟩
    · rw [oz] at ho; cases ho
    · rcases ht with rfl | ⟨j, rfl, h1, h2⟩
      · exact .inr ⟨0, by rw [te]; rfl, by omega, oz⟩
      · exact .inl ⟨j, te, by omega, h2⟩
    · rw [om q hq] at ho
      rcases hX.jump q hq ho with ⟨j, e, h1, h2⟩ | ⟨j, e, h1, h2⟩
      · exact .inl ⟨1 + j, by rw [tm q hq, e, show p + 1 + j = p + (1 + j) from by omega], by omega, by omega⟩
      · exact .inr ⟨1 + j, by rw [tm q hq, e, show p + 1 + j = p + (1 + j) from by omega], by omega, by rw [om j (by omega)]; exact h2⟩

theorem JP.code (L : SL) : ∀ p, JP p L.lenC L.lenC (codeL L p) := by
  induction L with
  | nil => intro p; exact JP.nil p _
  | cons k x y n B E R hB hE hR =>
    intro p
    have fst : JP p (lenS k B E) (lenS k B E) (codeS k x y n B E p) := by
      unfold codeS lenS
      by_cases h6 : k = 6
      · rw [if_pos h6, if_pos h6]
        have a := JP.wrap (m := 2 + B.lenC + E.lenC) (hB (p + 1)) x (p + 2 + B.lenC + E.lenC) (.inr ⟨2 + B.lenC + E.lenC, by omega, by omega, Nat.le_refl _⟩) (by omega)
        have e := JP.append a (show JP (p + (B.lenC + 2)) E.lenC E.lenC _ from hE _)
        rw [show p + (B.lenC + 2) = p + 2 + B.lenC from by omega, show B.lenC + 2 + E.lenC = 2 + B.lenC + E.lenC from by omega, Nat.max_self] at e
        rw [List.append_assoc] at e
        exact e
      · rw [if_neg h6, if_neg h6]
        by_cases h7 : k = 7
        · rw [if_pos h7, if_pos h7]
          have a := JP.wrap (m := 2 + B.lenC) (hB (p + 1)) x p (.inl rfl) (by omega)
          rw [show B.lenC + 2 = 2 + B.lenC from by omega] at a
          exact a
        · rw [if_neg h7, if_neg h7]
          by_cases h8 : k = 8
          · rw [if_pos h8, if_pos h8]
            have a := JP.append (JP.append (JP.one p 1 8 x 0 0 (by decide) (by decide)) (hB (p + 1))) (JP.one (p + (1 + B.lenC)) 1 9 x 0 0 (by decide) (by decide))
            rw [show 1 + B.lenC + 1 = 2 + B.lenC from by omega] at a
            exact a.mono (by omega)
          · rw [if_neg h8, if_neg h8]
            unfold leafC
            repeat' split
            all_goals exact JP.one _ _ _ _ _ _ (by omega) (by omega)
    rw [codeL_cons, lenC_cons]
    exact (JP.append fst (hR _)).mono (by omega)

theorem JP.whole (L : SL) : JP 0 (L.lenC + 1) L.lenC (codeP L) := by
  have a := JP.append (JP.code L 0) (JP.one (0 + L.lenC) 0 13 0 0 0 (by decide) (by decide))
  exact a.mono (by omega)

/-- How many do so. -/
def cntC (o : Int) : List Int → Nat
  | a :: _ :: _ :: _ :: r => (if a = o then 1 else 0) + cntC o r
  | _ => 0
theorem cnt_step (o a b c d : Int) (r : List Int) : cntC o (a :: b :: c :: d :: r) = (if a = o then 1 else 0) + cntC o r := rfl
theorem cnt_append (o : Int) : ∀ (n : Nat) (X Y : List Int), X.length = n * 4 → cntC o (X ++ Y) = cntC o X + cntC o Y := by
  intro n
  induction n with
  | zero => intro X Y h; obtain rfl := List.length_eq_zero_iff.1 (by omega : X.length = 0); simp [cntC]
  | succ n ih =>
    intro X Y h
    match X, h with
    | a :: b :: c :: d :: r, h =>
      have hr : r.length = n * 4 := by simp at h; omega
      show cntC o (a :: b :: c :: d :: (r ++ Y)) = _
      rw [cnt_step, cnt_step, ih r Y hr]; omega
    | [], h => simp at h
    | [_], h => simp at h; omega
    | [_, _], h => simp at h; omega
    | [_, _, _], h => simp at h; omega
theorem cnt_code (L : SL) : ∀ p, cntC 6 (codeL L p) = cntC 7 (codeL L p) := by
  induction L with
  | nil => intro p; rfl
  | cons k x y n B E R hB hE hR =>
    intro p
    have fst : cntC 6 (codeS k x y n B E p) = cntC 7 (codeS k x y n B E p) := by
      unfold codeS
      by_cases h6 : k = 6
      · rw [if_pos h6]
        have e : ∀ o, cntC o ([6, x, 0, ((p + 2 + B.lenC : Nat) : Int)] ++ codeL B (p + 1) ++ ([7, 0, 0, ((p + 2 + B.lenC + E.lenC : Nat) : Int)] ++ codeL E (p + 2 + B.lenC))) = (if 6 = o then 1 else 0) + cntC o (codeL B (p + 1)) + ((if 7 = o then 1 else 0) + cntC o (codeL E (p + 2 + B.lenC))) := by
          intro o
          rw [cnt_append o (1 + B.lenC) _ _ (by rw [List.length_append, codeL_len]; simp; omega), cnt_append o 1 _ _ rfl, cnt_append o 1 _ _ rfl, cnt_step, cnt_step]
          simp [cntC]
        rw [e, e, hB, hE]; simp; omega
      · rw [if_neg h6]
        by_cases h7 : k = 7
        · rw [if_pos h7]
          have e : ∀ o, cntC o ([6, x, 0, ((p + 2 + B.lenC : Nat) : Int)] ++ codeL B (p + 1) ++ [7, 0, 0, (p : Int)]) = (if 6 = o then 1 else 0) + cntC o (codeL B (p + 1)) + (if 7 = o then 1 else 0) := by
            intro o
            rw [cnt_append o (1 + B.lenC) _ _ (by rw [List.length_append, codeL_len]; simp; omega), cnt_append o 1 _ _ rfl, cnt_step, cnt_step]
            simp [cntC]
          rw [e, e, hB]; simp; omega
        · rw [if_neg h7]
          by_cases h8 : k = 8
          · rw [if_pos h8]
            have e : ∀ o, o = 6 ∨ o = 7 → cntC o ([8, x, 0, 0] ++ codeL B (p + 1) ++ [9, x, 0, 0]) = cntC o (codeL B (p + 1)) := by
              intro o ho
              rw [cnt_append o (1 + B.lenC) _ _ (by rw [List.length_append, codeL_len]; simp; omega), cnt_append o 1 _ _ rfl, cnt_step, cnt_step, if_neg (by omega), if_neg (by omega)]
              simp [cntC]
            rw [e 6 (.inl rfl), e 7 (.inr rfl), hB]
          · rw [if_neg h8]
            unfold leafC
            repeat' split
            all_goals (rw [cnt_step, cnt_step, if_neg (by omega), if_neg (by omega)]; rfl)
    rw [codeL_cons, cnt_append 6 _ _ _ (codeS_len k x y n B E p), cnt_append 7 _ _ _ (codeS_len k x y n B E p), fst, hR]
theorem cnt_whole (L : SL) : cntC 6 (codeP L) = cntC 7 (codeP L) := by
  unfold codeP
  rw [cnt_append 6 _ _ _ (codeL_len L 0), cnt_append 7 _ _ _ (codeL_len L 0), cnt_code]; rfl
end Go.Proofs.YtnfnjhbaaefbpaaGreatDoor
