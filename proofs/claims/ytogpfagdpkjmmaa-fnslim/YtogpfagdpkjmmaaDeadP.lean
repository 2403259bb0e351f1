/- Code without what nobody comes to and without jumps to what comes next anyway: as plain data. -/
import Derived.Test.YtogpfagdpkjmmaaJumpsP
namespace Go.Proofs.Ytogpfagdpkjmmaa

/-- How far the first yes is. -/
def idxT : List Bool → Nat
  | [] => 0
  | b :: r => if b = true then 0 else idxT r + 1
theorem idxT_le (l : List Bool) : idxT l ≤ l.length := by
  induction l with
  | nil => simp [idxT]
  | cons b r ih => rw [idxT]; split <;> simp <;> omega
theorem idxT_no {l : List Bool} {j : Nat} (h : j < idxT l) : l.getD j false = false := by
  induction l generalizing j with
  | nil => simp [idxT] at h
  | cons b r ih =>
    rw [idxT] at h
    split at h
    · omega
    · rename_i hb
      cases j with
      | zero => simpa using hb
      | succ j => simpa using ih (by omega)
theorem idxT_yes {l : List Bool} {j : Nat} (h1 : ∀ i, i < j → l.getD i false = false) (h2 : l.getD j false = true) : idxT l = j := by
  induction l generalizing j with
  | nil => simp at h2
  | cons b r ih =>
    cases j with
    | zero => simp at h2; simp [idxT, h2]
    | succ j =>
      have hb := h1 0 (by omega)
      simp at hb
      rw [idxT, hb, if_neg (by simp), ih (j := j) (fun i hi => by simpa using h1 (i + 1) (by omega)) (by simpa using h2)]

/-- What stands: those to which one may come, and the last one. -/
noncomputable def standL (xs : List Int) (n : Nat) : List Bool := (comeL xs n).set (n - 1) true
theorem standL_len (xs : List Int) (n : Nat) : (standL xs n).length = n := by simp [standL, comeL_len]
theorem standL_get (xs : List Int) {n i : Nat} (hi : i < n) : (standL xs n).getD i false = if i = n - 1 then true else (comeL xs n).getD i false := by
  unfold standL
  rw [getD_set _ _ _ _ _ (by rw [comeL_len]; omega)]
/-- The next one that stands. -/
noncomputable def nxt (xs : List Int) (n i : Nat) : Nat := i + 1 + idxT ((standL xs n).drop (i + 1))
theorem getD_drop (l : List Bool) (a j : Nat) : (l.drop a).getD j false = l.getD (a + j) false := by simp [List.getD]
theorem nxt_eq {xs : List Int} {n i k : Nat} (hk : i + 1 ≤ k) (h1 : ∀ j, i + 1 ≤ j → j < k → (standL xs n).getD j false = false) (h2 : (standL xs n).getD k false = true) : nxt xs n i = k := by
  unfold nxt
  rw [idxT_yes (j := k - (i + 1)) (fun j hj => by rw [getD_drop]; exact h1 _ (by omega) (by omega)) (by rw [getD_drop, show i + 1 + (k - (i + 1)) = k from by omega]; exact h2)]
  omega

/-- A jump to the next one that stands. -/
noncomputable def idleB (xs : List Int) (n i : Nat) : Bool := decide (opC xs i = 7 ∧ toC xs i = (nxt xs n i : Nat))
/-- What is kept. -/
noncomputable def keepB (xs : List Int) (n i : Nat) : Bool := (standL xs n).getD i false && !idleB xs n i
/-- How many of the first k are. -/
noncomputable def cntK (xs : List Int) (n : Nat) : Nat → Nat
  | 0 => 0
  | k + 1 => cntK xs n k + if keepB xs n k = true then 1 else 0
theorem cntK_le (xs : List Int) (n k : Nat) : cntK xs n k ≤ k := by
  induction k with
  | zero => simp [cntK]
  | succ k ih => rw [cntK]; split <;> omega
theorem cntK_mono (xs : List Int) (n : Nat) {a b : Nat} (h : a ≤ b) : cntK xs n a ≤ cntK xs n b := by
  induction b with
  | zero => rw [show a = 0 from by omega]; exact Nat.le_refl _
  | succ b ih =>
    by_cases e : a = b + 1
    · rw [e]; exact Nat.le_refl _
    · have := ih (by omega); rw [cntK]; split <;> omega

def insL (xs : List Int) (i : Nat) (t : Int) : List Int := [opC xs i, aC xs i, bC xs i, t]
/-- The kept ones among the first k. -/
noncomputable def keptK (xs : List Int) (n : Nat) : Nat → List Int
  | 0 => []
  | k + 1 => if keepB xs n k = true then keptK xs n k ++ insL xs k (toC xs k) else keptK xs n k
/-- Where a jump to that place goes then. -/
noncomputable def deadT (xs : List Int) (n i : Nat) : Int := if isT xs i = true then ((cntK xs n (toC xs i).toNat : Nat) : Int) else toC xs i
/-- .. with their numbers turned. -/
noncomputable def deadK (xs : List Int) (n : Nat) : Nat → List Int
  | 0 => []
  | k + 1 => if keepB xs n k = true then deadK xs n k ++ insL xs k (deadT xs n k) else deadK xs n k
theorem keptK_len (xs : List Int) (n k : Nat) : (keptK xs n k).length = cntK xs n k * 4 := by
  induction k with
  | zero => rfl
  | succ k ih => rw [keptK, cntK]; split <;> simp [ih, insL] <;> omega
theorem deadK_len (xs : List Int) (n k : Nat) : (deadK xs n k).length = cntK xs n k * 4 := by
  induction k with
  | zero => rfl
  | succ k ih => rw [deadK, cntK]; split <;> simp [ih, insL] <;> omega

/-- Instruction by instruction, what one has to do with the other. -/
theorem dead_kept {xs : List Int} {n : Nat} (hr : Right xs n) : ∀ k, k ≤ n → ∀ j, j < cntK xs n k →
    opC (deadK xs n k) j = opC (keptK xs n k) j ∧ aC (deadK xs n k) j = aC (keptK xs n k) j ∧ bC (deadK xs n k) j = bC (keptK xs n k) j ∧
    toC (deadK xs n k) j = (if isT (keptK xs n k) j = true then ((cntK xs n (toC (keptK xs n k) j).toNat : Nat) : Int) else toC (keptK xs n k) j) ∧
    (isT (keptK xs n k) j = true → 0 ≤ toC (keptK xs n k) j ∧ toC (keptK xs n k) j < n) := by
  intro k
  induction k with
  | zero => intro _ j hj; simp [cntK] at hj
  | succ k ih =>
    intro hk j hj
    have ih := ih (by omega)
    by_cases hkp : keepB xs n k = true
    · rw [deadK, keptK, if_pos hkp, if_pos hkp]
      rw [cntK, if_pos hkp] at hj
      have l1 := deadK_len xs n k
      have l2 := keptK_len xs n k
      by_cases e : j < cntK xs n k
      · have h := ih j e
        have q : ∀ (X Y : List Int) (r : Nat), X.length = cntK xs n k * 4 → r < 4 → (X ++ Y).getD (j * 4 + r) 0 = X.getD (j * 4 + r) 0 := fun X Y r hX hr => getD_left X Y _ (by omega)
        have o1 : opC (deadK xs n k ++ insL xs k (deadT xs n k)) j = opC (deadK xs n k) j := q _ _ 0 l1 (by omega)
        have o2 : opC (keptK xs n k ++ insL xs k (toC xs k)) j = opC (keptK xs n k) j := q _ _ 0 l2 (by omega)
        have a1 : aC (deadK xs n k ++ insL xs k (deadT xs n k)) j = aC (deadK xs n k) j := q _ _ 1 l1 (by omega)
        have a2 : aC (keptK xs n k ++ insL xs k (toC xs k)) j = aC (keptK xs n k) j := q _ _ 1 l2 (by omega)
        have b1 : bC (deadK xs n k ++ insL xs k (deadT xs n k)) j = bC (deadK xs n k) j := q _ _ 2 l1 (by omega)
        have b2 : bC (keptK xs n k ++ insL xs k (toC xs k)) j = bC (keptK xs n k) j := q _ _ 2 l2 (by omega)
        have t1 : toC (deadK xs n k ++ insL xs k (deadT xs n k)) j = toC (deadK xs n k) j := q _ _ 3 l1 (by omega)
        have t2 : toC (keptK xs n k ++ insL xs k (toC xs k)) j = toC (keptK xs n k) j := q _ _ 3 l2 (by omega)
        have s2 : isT (keptK xs n k ++ insL xs k (toC xs k)) j = isT (keptK xs n k) j := by unfold isT; rw [o2]
        rw [o1, o2, a1, a2, b1, b2, t1, t2, s2]
        exact h
      · obtain rfl : j = cntK xs n k := by omega
        have q : ∀ (X : List Int) (t : Int) (r : Nat), X.length = cntK xs n k * 4 → (X ++ insL xs k t).getD (cntK xs n k * 4 + r) 0 = (insL xs k t).getD r 0 := fun X t r hX => by
          rw [getD_right X _ _ (by omega)]; congr 1; omega
        have o1 : opC (deadK xs n k ++ insL xs k (deadT xs n k)) (cntK xs n k) = opC xs k := q _ _ 0 l1
        have o2 : opC (keptK xs n k ++ insL xs k (toC xs k)) (cntK xs n k) = opC xs k := q _ _ 0 l2
        have a1 : aC (deadK xs n k ++ insL xs k (deadT xs n k)) (cntK xs n k) = aC xs k := q _ _ 1 l1
        have a2 : aC (keptK xs n k ++ insL xs k (toC xs k)) (cntK xs n k) = aC xs k := q _ _ 1 l2
        have b1 : bC (deadK xs n k ++ insL xs k (deadT xs n k)) (cntK xs n k) = bC xs k := q _ _ 2 l1
        have b2 : bC (keptK xs n k ++ insL xs k (toC xs k)) (cntK xs n k) = bC xs k := q _ _ 2 l2
        have t1 : toC (deadK xs n k ++ insL xs k (deadT xs n k)) (cntK xs n k) = deadT xs n k := q _ _ 3 l1
        have t2 : toC (keptK xs n k ++ insL xs k (toC xs k)) (cntK xs n k) = toC xs k := q _ _ 3 l2
        have s2 : isT (keptK xs n k ++ insL xs k (toC xs k)) (cntK xs n k) = isT xs k := by unfold isT; rw [o2]
        rw [o1, o2, a1, a2, b1, b2, t1, t2, s2]
        refine ⟨rfl, rfl, rfl, rfl, fun h => ?_⟩
        exact insB_to (hr.ins k (by omega)) (by unfold isT at h; exact of_decide_eq_true h)
    · rw [deadK, keptK, if_neg hkp, if_neg hkp]
      rw [cntK, if_neg hkp] at hj
      exact ih j hj

theorem ext4 {X Y : List Int} {m : Nat} (hX : X.length = m * 4) (hY : Y.length = m * 4) (h : ∀ j, j < m → opC X j = opC Y j ∧ aC X j = aC Y j ∧ bC X j = bC Y j ∧ toC X j = toC Y j) : X = Y := by
  apply List.ext_getElem?
  intro i
  by_cases hi : i < m * 4
  · have hj := h (i / 4) (by omega)
    have hm : i % 4 = 0 ∨ i % 4 = 1 ∨ i % 4 = 2 ∨ i % 4 = 3 := by omega
    have key : X.getD i 0 = Y.getD i 0 := by
      rcases hm with e | e | e | e
      · have := hj.1; unfold opC at this; rwa [show i / 4 * 4 = i from by omega] at this
      · have := hj.2.1; unfold aC at this; rwa [show i / 4 * 4 + 1 = i from by omega] at this
      · have := hj.2.2.1; unfold bC at this; rwa [show i / 4 * 4 + 2 = i from by omega] at this
      · have := hj.2.2.2; unfold toC at this; rwa [show i / 4 * 4 + 3 = i from by omega] at this
    have a1 : X[i]? = some (X.getD i 0) := by simp [List.getD, hX, hi]
    have a2 : Y[i]? = some (Y.getD i 0) := by simp [List.getD, hY, hi]
    rw [a1, a2, key]
  · rw [List.getElem?_eq_none (by omega), List.getElem?_eq_none (by omega)]

/-- The two ways to it. -/
noncomputable def movedF (xs : List Int) (n : Nat) (j : Nat) : Int := (cntK xs n (toC (keptK xs n n) j).toNat : Nat)
theorem dead_turn {xs : List Int} {n : Nat} (hr : Right xs n) : turnK (keptK xs n n) (movedF xs n) (cntK xs n n) = deadK xs n n := by
  have hl := keptK_len xs n n
  refine ext4 (m := cntK xs n n) (by rw [turnK_len]; exact hl) (deadK_len xs n n) fun j hj => ?_
  obtain ⟨h1, h2, h3, h4, _⟩ := dead_kept hr n (Nat.le_refl _) j hj
  refine ⟨by rw [turnK_op, h1], by rw [turnK_a, h2], by rw [turnK_b, h3], ?_⟩
  rw [turnK_to hl _ _ _ hj, h4]
  by_cases hT : isT (keptK xs n n) j = true
  · rw [if_pos ⟨hj, hT⟩, if_pos hT]; rfl
  · rw [if_neg (fun h => hT h.2), if_neg hT]

open Classical in
/-- What SlimDead answers. -/
noncomputable def deadR (xs : List Int) (n : Nat) : List Int := if codeB xs n = true then deadK xs n n else []
open Classical in
noncomputable def deadN (xs : List Int) (n : Nat) : Nat := if codeB xs n = true then cntK xs n n else 0
theorem deadN_le (xs : List Int) (n : Nat) : deadN xs n ≤ n := by
  unfold deadN
  split
  · exact cntK_le xs n n
  · omega
end Go.Proofs.Ytogpfagdpkjmmaa
