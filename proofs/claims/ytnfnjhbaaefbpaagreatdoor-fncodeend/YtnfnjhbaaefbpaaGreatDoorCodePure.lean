/- The code of a list of statements, as plain data: four numbers an instruction. -/
import Derived.Test.YtnfnjhbaaefbpaaGreatDoorTakeL
namespace Go.Proofs.YtnfnjhbaaefbpaaGreatDoor

/-- How many instructions a list has. -/
def SL.lenC : SL → Nat
  | .nil => 0
  | .cons k _ _ _ B E R => (if k = 6 then 2 + B.lenC + E.lenC else if k = 7 then 2 + B.lenC else if k = 8 then 2 + B.lenC else 1) + R.lenC

/-- Of one statement. -/
def lenS (k : Int) (B E : SL) : Nat := if k = 6 then 2 + B.lenC + E.lenC else if k = 7 then 2 + B.lenC else if k = 8 then 2 + B.lenC else 1

theorem lenC_cons (k x y n : Int) (B E R : SL) : (SL.cons k x y n B E R).lenC = lenS k B E + R.lenC := rfl

/-- What stands alone. -/
def leafC (k x y n : Int) : List Int :=
  if 1 ≤ k ∧ k ≤ 5 then [k, x, y, n] else if k = 9 then [10, x, 0, 0] else if k = 10 then [11, x, 0, 0] else [12, 0, 0, 0]

/-- The code of a list from place p on. -/
def codeL : SL → Nat → List Int
  | .nil, _ => []
  | .cons k x y n B E R, p =>
    (if k = 6 then [6, x, 0, ((p + 2 + B.lenC : Nat) : Int)] ++ codeL B (p + 1) ++ ([7, 0, 0, ((p + 2 + B.lenC + E.lenC : Nat) : Int)] ++ codeL E (p + 2 + B.lenC))
     else if k = 7 then [6, x, 0, ((p + 2 + B.lenC : Nat) : Int)] ++ codeL B (p + 1) ++ [7, 0, 0, (p : Int)]
     else if k = 8 then [8, x, 0, 0] ++ codeL B (p + 1) ++ [9, x, 0, 0]
     else leafC k x y n) ++ codeL R (p + lenS k B E)

/-- The code of one statement. -/
def codeS (k x y n : Int) (B E : SL) (p : Nat) : List Int :=
  if k = 6 then [6, x, 0, ((p + 2 + B.lenC : Nat) : Int)] ++ codeL B (p + 1) ++ ([7, 0, 0, ((p + 2 + B.lenC + E.lenC : Nat) : Int)] ++ codeL E (p + 2 + B.lenC))
  else if k = 7 then [6, x, 0, ((p + 2 + B.lenC : Nat) : Int)] ++ codeL B (p + 1) ++ [7, 0, 0, (p : Int)]
  else if k = 8 then [8, x, 0, 0] ++ codeL B (p + 1) ++ [9, x, 0, 0]
  else leafC k x y n

theorem codeL_cons (k x y n : Int) (B E R : SL) (p : Nat) : codeL (.cons k x y n B E R) p = codeS k x y n B E p ++ codeL R (p + lenS k B E) := rfl
theorem codeL_nil (p : Nat) : codeL .nil p = [] := rfl

theorem leafC_len (k x y n : Int) : (leafC k x y n).length = 4 := by
  unfold leafC; repeat' split
  all_goals rfl

theorem codeL_len (L : SL) : ∀ p, (codeL L p).length = L.lenC * 4 := by
  induction L with
  | nil => intro p; rfl
  | cons k x y n B E R hB hE hR =>
    intro p
    rw [codeL_cons, lenC_cons, List.length_append, hR]
    unfold codeS lenS
    by_cases h6 : k = 6
    · rw [if_pos h6, if_pos h6]; simp only [List.length_append, List.length_cons, List.length_nil, hB, hE]; omega
    · rw [if_neg h6, if_neg h6]
      by_cases h7 : k = 7
      · rw [if_pos h7, if_pos h7]; simp only [List.length_append, List.length_cons, List.length_nil, hB]; omega
      · rw [if_neg h7, if_neg h7]
        by_cases h8 : k = 8
        · rw [if_pos h8, if_pos h8]; simp only [List.length_append, List.length_cons, List.length_nil, hB]; omega
        · rw [if_neg h8, if_neg h8, leafC_len]; omega

theorem codeS_len (k x y n : Int) (B E : SL) (p : Nat) : (codeS k x y n B E p).length = lenS k B E * 4 := by
  have := codeL_len (.cons k x y n B E .nil) p
  rw [codeL_cons, lenC_cons, codeL_nil, List.append_nil] at this
  simpa [SL.lenC] using this

theorem lenC_le (L : SL) : L.lenC ≤ 2 * L.size := by
  induction L with
  | nil => simp [SL.lenC, SL.size]
  | cons k x y n B E R hB hE hR =>
    simp only [SL.lenC, SL.size]
    repeat' split
    all_goals omega

theorem lenS_le (k : Int) (B E : SL) : lenS k B E ≤ 2 + 2 * B.size + 2 * E.size := by
  have := lenC_le B
  have := lenC_le E
  unfold lenS
  repeat' split
  all_goals omega

theorem lenC_ge (L : SL) : L.len ≤ L.lenC := by
  induction L with
  | nil => simp [SL.lenC, SL.len]
  | cons k x y n B E R hB hE hR =>
    simp only [SL.lenC, SL.len]
    repeat' split
    all_goals omega

theorem codeL_step {L : SL} {i : Nat} {k x y n : Int} {B E R : SL} (h : L.drop i = .cons k x y n B E R) (p : Nat) :
    codeL (L.take (i + 1)) p = codeL (L.take i) p ++ codeS k x y n B E (p + (L.take i).lenC) ∧ (L.take (i + 1)).lenC = (L.take i).lenC + lenS k B E := by
  induction i generalizing L p with
  | zero =>
    rw [SL.drop_zero] at h
    subst h
    simp only [SL.take, codeL_cons, codeL_nil, List.append_nil, List.nil_append, SL.lenC, Nat.add_zero, Nat.zero_add]
    exact ⟨trivial, rfl⟩
  | succ i ih =>
    cases L with
    | nil => simp [SL.drop] at h
    | cons k' x' y' n' B' E' R' =>
      have hd : R'.drop i = .cons k x y n B E R := h
      have h1 := ih hd (p + lenS k' B' E')
      have e1 : (SL.cons k' x' y' n' B' E' R').take (i + 1 + 1) = .cons k' x' y' n' B' E' (R'.take (i + 1)) := rfl
      have e2 : (SL.cons k' x' y' n' B' E' R').take (i + 1) = .cons k' x' y' n' B' E' (R'.take i) := rfl
      rw [e1, e2, codeL_cons, codeL_cons, lenC_cons, lenC_cons, h1.1, h1.2]
      refine ⟨?_, by omega⟩
      rw [List.append_assoc, show p + lenS k' B' E' + (R'.take i).lenC = p + (lenS k' B' E' + (R'.take i).lenC) from by omega]

theorem SL.take_all (L : SL) {i : Nat} (h : L.len ≤ i) : L.take i = L := by
  induction L generalizing i with
  | nil => cases i <;> rfl
  | cons k x y n B E R _ _ ih => cases i with
    | zero => simp [SL.len] at h
    | succ i => simp only [SL.take]; rw [ih (by simp only [SL.len] at h; omega)]
theorem SL.take_zero (L : SL) : L.take 0 = .nil := by cases L <;> rfl

/-- The whole code of a process. -/
def codeP (L : SL) : List Int := codeL L 0 ++ [13, 0, 0, 0]
theorem codeP_len (L : SL) : (codeP L).length = (L.lenC + 1) * 4 := by rw [codeP, List.length_append, codeL_len]; simp; omega
end Go.Proofs.YtnfnjhbaaefbpaaGreatDoor
