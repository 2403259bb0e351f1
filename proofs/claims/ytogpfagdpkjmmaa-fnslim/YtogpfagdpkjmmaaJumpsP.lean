/- Where a chain of jumps ends: as plain data. -/
import Derived.Test.YtogpfagdpkjmmaaReachP
namespace Go.Proofs.Ytogpfagdpkjmmaa

/-- Along the jumps, so many steps at most. -/
def chase (xs : List Int) : Nat → Nat → Nat
  | 0, i => i
  | k + 1, i => if opC xs i = 7 then chase xs k (toC xs i).toNat else i

theorem chase_stop {xs : List Int} {i : Nat} (h : opC xs i ≠ 7) (k : Nat) : chase xs k i = i := by
  cases k with
  | zero => rfl
  | succ k => simp [chase, h]
theorem chase_succ (xs : List Int) (k : Nat) : ∀ i, chase xs (k + 1) i = if opC xs (chase xs k i) = 7 then (toC xs (chase xs k i)).toNat else chase xs k i := by
  induction k with
  | zero => intro i; rfl
  | succ k ih =>
    intro i
    by_cases h : opC xs i = 7
    · have e1 : chase xs (k + 1 + 1) i = chase xs (k + 1) (toC xs i).toNat := by rw [chase, if_pos h]
      have e2 : chase xs (k + 1) i = chase xs k (toC xs i).toNat := by rw [chase, if_pos h]
      rw [e1, e2]; exact ih _
    · rw [chase_stop h, chase_stop h, if_neg h]
theorem chase_add (xs : List Int) (a b i : Nat) : chase xs (a + b) i = chase xs b (chase xs a i) := by
  induction b with
  | zero => rfl
  | succ b ih => rw [← Nat.add_assoc, chase_succ, chase_succ, ih]
theorem chase_lt {xs : List Int} {n : Nat} (hr : Right xs n) {i : Nat} (hi : i < n) (k : Nat) : chase xs k i < n := by
  induction k generalizing i with
  | zero => exact hi
  | succ k ih =>
    rw [chase]
    split
    · rename_i h
      have := insB_to (hr.ins i hi) (.inr h)
      exact ih (by omega)
    · exact hi

theorem nodup_le : ∀ (m : Nat) (l : List Nat), l.Nodup → (∀ x ∈ l, x < m) → l.length ≤ m := by
  intro m
  induction m with
  | zero =>
    intro l _ h
    cases l with
    | nil => simp
    | cons x l => exact absurd (h x (by simp)) (by omega)
  | succ m ih =>
    intro l hn h
    by_cases hm : m ∈ l
    · have h1 := ih (l.erase m) (hn.erase m) fun x hx => by
        have hx' := List.mem_of_mem_erase hx
        have := h x hx'
        have hne : x ≠ m := fun e => by
          subst e
          exact (List.Nodup.not_mem_erase hn) hx
        omega
      rw [List.length_erase_of_mem hm] at h1
      omega
    · have h1 := ih l hn fun x hx => by
        have := h x hx
        have : x ≠ m := fun e => hm (e ▸ hx)
        omega
      omega

/-- A chain that has met a jump as many times as there are instructions goes round for ever. -/
theorem chase_round {xs : List Int} {n : Nat} (hr : Right xs n) {i : Nat} (hi : i < n) (h : ∀ k, k < n → opC xs (chase xs k i) = 7) : opC xs (chase xs n i) = 7 := by
  apply Classical.byContradiction
  intro hne
  have lo := hr.lo
  -- all of them are different: else it would go round
  have hinj : ∀ a b, a < b → b < n → chase xs a i ≠ chase xs b i := fun a b hab hb e => by
    apply hne
    have e1 : chase xs (a + (n - b)) i = chase xs (b + (n - b)) i := by rw [chase_add, chase_add, e]
    rw [show b + (n - b) = n from by omega] at e1
    rw [← e1]
    exact h _ (by omega)
  have hnod : ((List.range n).map fun k => chase xs k i).Nodup := by
    rw [List.Nodup, List.pairwise_map]
    exact List.Pairwise.imp_of_mem (fun {a b} ha hb hab => hinj a b hab (List.mem_range.1 hb)) List.pairwise_lt_range
  have := nodup_le (n - 1) _ hnod fun x hx => by
    obtain ⟨k, hk, rfl⟩ := List.mem_map.1 hx
    have hk := List.mem_range.1 hk
    have h1 := chase_lt hr hi k
    have h2 := h k hk
    have h3 := hr.last _ h1
    omega
  simp at this
  omega

/-- Where a jump to that place goes: to the end of its chain; there, if it has none. -/
def endTo (xs : List Int) (n i : Nat) : Nat := if opC xs (chase xs n i) = 7 then i else chase xs n i
theorem endTo_lt {xs : List Int} {n : Nat} (hr : Right xs n) {i : Nat} (hi : i < n) : endTo xs n i < n := by
  unfold endTo
  split
  · exact hi
  · exact chase_lt hr hi n
/-- Met on the way: an instruction that is no jump. -/
theorem endTo_at {xs : List Int} {n i k : Nat} (hk : k ≤ n) (h : opC xs (chase xs k i) ≠ 7) : endTo xs n i = chase xs k i := by
  have e : chase xs n i = chase xs k i := by
    rw [show n = k + (n - k) from by omega, chase_add, chase_stop h]
  unfold endTo
  rw [e, if_neg h]
theorem endTo_none {xs : List Int} {n : Nat} (hr : Right xs n) {i : Nat} (hi : i < n) (h : ∀ k, k < n → opC xs (chase xs k i) = 7) : endTo xs n i = i := by
  unfold endTo
  rw [if_pos (chase_round hr hi h)]

/-- Whether an instruction goes somewhere by its number. -/
def isT (xs : List Int) (i : Nat) : Bool := decide (opC xs i = 6 ∨ opC xs i = 7)
/-- Those of the first k that do. -/
def tgs (xs : List Int) (k : Nat) : List Nat := (List.range k).filter (isT xs)
theorem tgs_succ (xs : List Int) (k : Nat) : tgs xs (k + 1) = tgs xs k ++ if isT xs k then [k] else [] := by
  unfold tgs
  rw [List.range_succ, List.filter_append]
  congr 1
  cases h : isT xs k <;> simp [h]
theorem tgs_mem {xs : List Int} {k i : Nat} : i ∈ tgs xs k ↔ i < k ∧ isT xs i = true := by simp [tgs]

/-- The code with the numbers of its first k jumps turned by f. -/
def turnK (xs : List Int) (f : Nat → Int) : Nat → List Int
  | 0 => xs
  | k + 1 => if isT xs k = true then (turnK xs f k).set (k * 4 + 3) (f k) else turnK xs f k
theorem turnK_len (xs : List Int) (f : Nat → Int) (n : Nat) : (turnK xs f n).length = xs.length := by
  induction n with
  | zero => rfl
  | succ n ih => rw [turnK]; split <;> simp [ih]
theorem getD_set' (R : List Int) (i j : Nat) (v : Int) (h : i ≠ j) : (R.set j v).getD i 0 = R.getD i 0 := by simp [List.getD, Ne.symm h]
theorem turnK_at (xs : List Int) (f : Nat → Int) (n j : Nat) (h : j % 4 ≠ 3) : (turnK xs f n).getD j 0 = xs.getD j 0 := by
  induction n with
  | zero => rfl
  | succ n ih =>
    rw [turnK]
    split
    · rw [getD_set' _ _ _ _ (by omega), ih]
    · exact ih
theorem turnK_op (xs : List Int) (f : Nat → Int) (n i : Nat) : opC (turnK xs f n) i = opC xs i := turnK_at xs f n _ (by omega)
theorem turnK_a (xs : List Int) (f : Nat → Int) (n i : Nat) : aC (turnK xs f n) i = aC xs i := turnK_at xs f n _ (by omega)
theorem turnK_b (xs : List Int) (f : Nat → Int) (n i : Nat) : bC (turnK xs f n) i = bC xs i := turnK_at xs f n _ (by omega)
theorem turnK_isT (xs : List Int) (f : Nat → Int) (n i : Nat) : isT (turnK xs f n) i = isT xs i := by unfold isT; rw [turnK_op]
theorem turnK_to {xs : List Int} {m : Nat} (hl : xs.length = m * 4) (f : Nat → Int) (n i : Nat) (hi : i < m) : toC (turnK xs f n) i = if i < n ∧ isT xs i = true then f i else toC xs i := by
  induction n with
  | zero => simp [turnK]
  | succ n ih =>
    rw [turnK]
    by_cases hT : isT xs n = true
    · rw [if_pos hT]
      by_cases e : i = n
      · subst e
        rw [if_pos ⟨by omega, hT⟩]
        unfold toC
        rw [getD_set _ _ _ _ _ (by rw [turnK_len]; omega), if_pos rfl]
      · have : toC ((turnK xs f n).set (n * 4 + 3) (f n)) i = toC (turnK xs f n) i := getD_set' _ _ _ _ (by omega)
        rw [this, ih]
        by_cases h : i < n ∧ isT xs i = true
        · rw [if_pos h, if_pos ⟨by omega, h.2⟩]
        · rw [if_neg h, if_neg (fun h' => h ⟨by omega, h'.2⟩)]
    · rw [if_neg hT, ih]
      by_cases h : i < n ∧ isT xs i = true
      · rw [if_pos h, if_pos ⟨by omega, h.2⟩]
      · rw [if_neg h, if_neg (fun h' => h ⟨by
          rcases Nat.lt_or_ge i n with h1 | h1
          · exact h1
          · have : i = n := by omega
            subst this; exact absurd h'.2 hT, h'.2⟩)]

/-- Where SlimJumps lets the jump at a place go. -/
def jumpF (xs : List Int) (n : Nat) (k : Nat) : Int := (endTo xs n (toC xs k).toNat : Nat)
open Classical in
/-- What SlimJumps answers. -/
noncomputable def jumpsR (xs : List Int) (n : Nat) : List Int := if codeB xs n = true then turnK xs (jumpF xs n) n else []
open Classical in
noncomputable def jumpsN (xs : List Int) (n : Nat) : Nat := if codeB xs n = true then n else 0
theorem jumpsN_le (xs : List Int) (n : Nat) : jumpsN xs n ≤ n := by unfold jumpsN; split <;> omega
end Go.Proofs.Ytogpfagdpkjmmaa
