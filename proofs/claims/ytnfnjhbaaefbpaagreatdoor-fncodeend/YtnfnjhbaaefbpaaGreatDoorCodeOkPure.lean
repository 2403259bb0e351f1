/- When code is right: instruction by instruction, and that each is reached in one room: as plain data. -/
import Derived.Test.YtnfnjhbaaefbpaaGreatDoorJumpPure
import Derived.Test.YtnfnjhbaaefbpaaGreatDoorOkLeaf
namespace Go.Proofs.YtnfnjhbaaefbpaaGreatDoor

def aC (xs : List Int) (i : Nat) : Int := xs.getD (i * 4 + 1) 0
def bC (xs : List Int) (i : Nat) : Int := xs.getD (i * 4 + 2) 0

/-- Whether an instruction's own numbers are right, in code of so many. -/
def insB (o a b t : Int) (m : Nat) : Bool :=
  if 1 ≤ o ∧ o ≤ 5 then leafB o a b t (-1) else
  if o = 6 then decide (0 ≤ a ∧ a < 3 ∧ b = 0 ∧ 0 ≤ t ∧ t < m) else
  if o = 7 then decide (a = 0 ∧ b = 0 ∧ 0 ≤ t ∧ t < m) else
  if 8 ≤ o ∧ o ≤ 11 then decide (0 ≤ a ∧ a < 2 ∧ b = 0 ∧ t = 0) else
  if 12 ≤ o ∧ o ≤ 13 then decide (a = 0 ∧ b = 0 ∧ t = 0) else false

/-- The room behind an instruction (-1: none); none if it must not be reached in that one. -/
def heldO (o a r : Int) : Option Int :=
  if o = 8 then (if r = -1 then some a else none) else
  if o = 9 then (if r = a then some (-1) else none) else
  if o = 10 then (if r = -1 then none else some r) else
  if o = 13 then (if r = -1 then some (-1) else none) else some r
/-- Where one goes from an instruction. -/
def nextO (o t : Int) (i : Nat) : List Nat := if o = 6 then [i + 1, t.toNat] else if o = 7 then [t.toNat] else if o = 13 then [] else [i + 1]

def heldX (xs : List Int) (i : Nat) (r : Int) : Option Int := heldO (opC xs i) (aC xs i) r
def nextX (xs : List Int) (i : Nat) : List Nat := nextO (opC xs i) (toC xs i) i

/-- Rooms that fit: of each place the room in which one comes there, by all ways. -/
structure Lab (xs : List Int) (n : Nat) (ρ : Nat → Option Int) : Prop where
  start : ρ 0 = some (-1)
  step : ∀ i r, i < n → ρ i = some r → ∃ r', heldX xs i r = some r' ∧ ∀ j ∈ nextX xs i, ρ j = some r'

open Classical in
/-- Whether there are such. -/
noncomputable def roomsB (xs : List Int) (n : Nat) : Bool := decide (∃ ρ, Lab xs n ρ)

open Classical in
theorem roomsB_false {xs : List Int} {n : Nat} (h : ∀ ρ, Lab xs n ρ → False) : roomsB xs n = false := by
  unfold roomsB
  exact decide_eq_false fun ⟨ρ, hρ⟩ => h ρ hρ
open Classical in
theorem roomsB_true {xs : List Int} {n : Nat} {ρ : Nat → Option Int} (h : Lab xs n ρ) : roomsB xs n = true := by
  unfold roomsB
  exact decide_eq_true ⟨ρ, h⟩

/-- Each instruction is right, and the last one alone is an end. -/
structure Right (xs : List Int) (n : Nat) : Prop where
  len : xs.length = n * 4
  lo : 1 ≤ n
  hi : n ≤ 60
  ins : ∀ i, i < n → insB (opC xs i) (aC xs i) (bC xs i) (toC xs i) n = true
  last : ∀ i, i < n → (opC xs i = 13 ↔ i + 1 = n)

theorem insB_op {o a b t : Int} {m : Nat} (h : insB o a b t m = true) : 1 ≤ o ∧ o ≤ 13 := by
  unfold insB at h
  split at h; · omega
  split at h; · omega
  split at h; · omega
  split at h; · omega
  split at h; · omega
  cases h
theorem insB_to {o a b t : Int} {m : Nat} (h : insB o a b t m = true) (ho : o = 6 ∨ o = 7) : 0 ≤ t ∧ t < m := by
  unfold insB at h
  rw [if_neg (by omega)] at h
  rcases ho with rfl | rfl
  · rw [if_pos rfl] at h; have := of_decide_eq_true h; omega
  · rw [if_neg (by decide), if_pos rfl] at h; have := of_decide_eq_true h; omega
theorem insB_room {o a b t : Int} {m : Nat} (h : insB o a b t m = true) (ho : 8 ≤ o ∧ o ≤ 11) : 0 ≤ a ∧ a < 2 := by
  unfold insB at h
  rw [if_neg (by omega), if_neg (by omega), if_neg (by omega), if_pos ho] at h
  have := of_decide_eq_true h; omega

theorem Right.op {xs : List Int} {n : Nat} (h : Right xs n) {i : Nat} (hi : i < n) : 1 ≤ opC xs i ∧ opC xs i ≤ 13 := insB_op (h.ins i hi)
theorem Right.next {xs : List Int} {n : Nat} (h : Right xs n) {i : Nat} (hi : i < n) : ∀ j ∈ nextX xs i, j < n := by
  intro j hj
  have hl := h.last i hi
  have ht := fun ho => insB_to (h.ins i hi) ho
  unfold nextX nextO at hj
  by_cases h6 : opC xs i = 6
  · rw [if_pos h6] at hj
    have := ht (.inl h6)
    rcases List.mem_cons.1 hj with rfl | hj
    · omega
    · rcases List.mem_cons.1 hj with rfl | hj
      · omega
      · cases hj
  · rw [if_neg h6] at hj
    by_cases h7 : opC xs i = 7
    · rw [if_pos h7] at hj
      have := ht (.inr h7)
      rcases List.mem_cons.1 hj with rfl | hj
      · omega
      · cases hj
    · rw [if_neg h7] at hj
      by_cases h13 : opC xs i = 13
      · rw [if_pos h13] at hj; cases hj
      · rw [if_neg h13] at hj
        rcases List.mem_cons.1 hj with rfl | hj
        · omega
        · cases hj
theorem Right.held {xs : List Int} {n : Nat} (h : Right xs n) {i : Nat} (hi : i < n) {r r' : Int} (h0 : -1 ≤ r) (h1 : r ≤ 1) (hh : heldX xs i r = some r') : -1 ≤ r' ∧ r' ≤ 1 := by
  have hr := fun ho => insB_room (h.ins i hi) ho
  unfold heldX heldO at hh
  by_cases h8 : opC xs i = 8
  · rw [if_pos h8] at hh
    have := hr (by omega)
    split at hh
    · injection hh with hh; omega
    · cases hh
  · rw [if_neg h8] at hh
    by_cases h9 : opC xs i = 9
    · rw [if_pos h9] at hh
      split at hh
      · injection hh with hh; omega
      · cases hh
    · rw [if_neg h9] at hh
      split at hh
      · split at hh
        · cases hh
        · injection hh with hh; omega
      · split at hh
        · split at hh
          · injection hh with hh; omega
          · cases hh
        · injection hh with hh; omega

/-- How many are below nought. -/
def negs : List Int → Nat
  | [] => 0
  | x :: r => (if x < 0 then 1 else 0) + negs r
theorem negs_set {R : List Int} : ∀ {i : Nat} {v : Int}, i < R.length → R.getD i 0 < 0 → 0 ≤ v → negs (R.set i v) + 1 = negs R := by
  induction R with
  | nil => intro i v h; simp at h
  | cons x r ih =>
    intro i v h hn hv
    cases i with
    | zero =>
      have hx : x < 0 := hn
      simp only [List.set_cons_zero, negs, hx, if_true]
      rw [if_neg (by omega)]; omega
    | succ i =>
      have := ih (i := i) (v := v) (by simpa using h) (by simpa using hn) hv
      simp only [List.set_cons_succ, negs]; omega
theorem negs_rep (n : Nat) : negs (List.replicate n (-1)) = n := by
  induction n with
  | zero => rfl
  | succ n ih => rw [List.replicate_succ]; simp only [negs, ih]; simp; omega

theorem getD_set {α : Type} (R : List α) (i j : Nat) (v d : α) (h : j < R.length) : (R.set j v).getD i d = if i = j then v else R.getD i d := by
  by_cases e : i = j
  · subst e; rw [if_pos rfl]; simp [List.getD, h]
  · rw [if_neg e]; simp [List.getD, Ne.symm e]

/-- The model's search: rooms so far (and 1 more; -1: none), places in the order met, those up to k done. -/
structure Bfs (xs : List Int) (n : Nat) (R : List Int) (T : List Nat) (k : Nat) : Prop where
  rlen : R.length = n
  bd : ∀ i, i < n → -1 ≤ R.getD i 0 ∧ R.getD i 0 ≤ 2
  cnt : T.length + negs R = n
  mem : ∀ i ∈ T, i < n ∧ 0 ≤ R.getD i 0
  all : ∀ i, i < n → 0 ≤ R.getD i 0 → i ∈ T
  zero : R.getD 0 0 = 0
  forced : ∀ ρ, Lab xs n ρ → ∀ i, i < n → 0 ≤ R.getD i 0 → ρ i = some (R.getD i 0 - 1)
  done : ∀ p, p < k → p < T.length → ∃ r', heldX xs (T.getD p 0) (R.getD (T.getD p 0) 0 - 1) = some r' ∧ ∀ j ∈ nextX xs (T.getD p 0), R.getD j 0 = r' + 1

theorem mem_getD {T : List Nat} {p : Nat} (h : p < T.length) : T.getD p 0 ∈ T := by
  have : T.getD p 0 = T[p] := by simp [List.getD, h]
  rw [this]; exact List.getElem_mem h

theorem Bfs.start {xs : List Int} {n : Nat} (hr : Right xs n) : Bfs xs n ((List.replicate n (-1)).set 0 0) [0] 0 := by
  have lo := hr.lo
  have hl : 0 < (List.replicate n (-1 : Int)).length := by simp; omega
  have g : ∀ i, i < n → ((List.replicate n (-1 : Int)).set 0 0).getD i 0 = if i = 0 then 0 else -1 := fun i hi => by
    rw [getD_set _ _ _ _ _ hl]
    by_cases e : i = 0
    · rw [if_pos e, if_pos e]
    · rw [if_neg e, if_neg e]; simp [List.getD, hi]
  have only : ∀ i, i < n → 0 ≤ ((List.replicate n (-1 : Int)).set 0 0).getD i 0 → i = 0 := fun i hi h => by
    rw [g i hi] at h
    apply Classical.byContradiction
    intro e
    rw [if_neg e] at h; omega
  refine ⟨by simp, fun i hi => ?_, ?_, fun i hi => ?_, fun i hi h => ?_, ?_, fun ρ hρ i hi h => ?_, fun p hp => by omega⟩
  · rw [g i hi]; split <;> omega
  · have := negs_set (R := List.replicate n (-1)) (i := 0) (v := 0) hl (by rw [show (List.replicate n (-1 : Int)).getD 0 0 = -1 from by simp [List.getD, show 0 < n from by omega]]; omega) (by omega)
    rw [negs_rep] at this
    simp; omega
  · simp at hi; subst hi; exact ⟨by omega, by rw [g 0 (by omega)]; simp⟩
  · have := only i hi h; simp [this]
  · rw [g 0 (by omega)]; simp
  · obtain rfl := only i hi h
    rw [g 0 hi, if_pos rfl]; exact hρ.start

theorem Bfs.at {xs : List Int} {n : Nat} {R : List Int} {T : List Nat} {k : Nat} (h : Bfs xs n R T k) (hk : k < T.length) : T.getD k 0 < n ∧ 0 ≤ R.getD (T.getD k 0) 0 := h.mem _ (mem_getD hk)
theorem Bfs.few {xs : List Int} {n : Nat} {R : List Int} {T : List Nat} {k : Nat} (h : Bfs xs n R T k) : T.length ≤ n := by have := h.cnt; omega

/-- Where one goes from place k of those met, the room is forced. -/
theorem Bfs.push {xs : List Int} {n : Nat} {R : List Int} {T : List Nat} {k : Nat} (h : Bfs xs n R T k) (hk : k < T.length) {r' : Int} (hh : heldX xs (T.getD k 0) (R.getD (T.getD k 0) 0 - 1) = some r') {j : Nat} (hj : j ∈ nextX xs (T.getD k 0)) :
    ∀ ρ, Lab xs n ρ → ρ j = some r' := by
  intro ρ hρ
  obtain ⟨a1, a2⟩ := h.at hk
  obtain ⟨q, q1, q2⟩ := hρ.step _ _ a1 (h.forced ρ hρ _ a1 a2)
  rw [hh] at q1
  injection q1 with q1
  subst q1
  exact q2 j hj

theorem Bfs.set {xs : List Int} {n : Nat} {R : List Int} {T : List Nat} {k : Nat} (hr : Right xs n) (h : Bfs xs n R T k) {j : Nat} (hj : j < n) (hn : R.getD j 0 < 0) {r' : Int} (h0 : -1 ≤ r') (h1 : r' ≤ 1) (hf : ∀ ρ, Lab xs n ρ → ρ j = some r') (hk : k ≤ T.length) :
    Bfs xs n (R.set j (r' + 1)) (T ++ [j]) k := by
  have hl := h.rlen
  have g : ∀ i, (R.set j (r' + 1)).getD i 0 = if i = j then r' + 1 else R.getD i 0 := fun i => getD_set R i j _ 0 (by omega)
  refine ⟨by simp [hl], fun i hi => ?_, ?_, fun i hi => ?_, fun i hi hp => ?_, ?_, fun ρ hρ i hi hp => ?_, fun p hp hp' => ?_⟩
  · rw [g]; split
    · omega
    · exact h.bd i hi
  · have := negs_set (R := R) (i := j) (v := r' + 1) (by omega) hn (by omega)
    have := h.cnt
    simp; omega
  · rw [g]
    rcases List.mem_append.1 hi with hi | hi
    · obtain ⟨m1, m2⟩ := h.mem i hi
      exact ⟨m1, by split <;> omega⟩
    · simp at hi; subst hi; exact ⟨hj, by rw [if_pos rfl]; omega⟩
  · rw [g] at hp
    by_cases e : i = j
    · subst e; simp
    · rw [if_neg e] at hp; exact List.mem_append_left _ (h.all i hi hp)
  · rw [g, if_neg (fun e => by subst e; rw [h.zero] at hn; omega)]; exact h.zero
  · rw [g] at hp ⊢
    by_cases e : i = j
    · subst e; rw [if_pos rfl, hf ρ hρ]; congr 1; omega
    · rw [if_neg e] at hp ⊢; exact h.forced ρ hρ i hi hp
  · have hpT : p < T.length := by omega
    have e : (T ++ [j]).getD p 0 = T.getD p 0 := by simp [List.getD, List.getElem?_append_left hpT]
    rw [e]
    obtain ⟨m1, m2⟩ := h.mem _ (mem_getD hpT)
    obtain ⟨q, q1, q2⟩ := h.done p hp hpT
    rw [g, if_neg (fun e => by rw [e] at m2; omega)]
    refine ⟨q, q1, fun i hi => ?_⟩
    have := q2 i hi
    rw [g]
    by_cases e : i = j
    · subst e
      rw [if_pos rfl]
      rw [this] at hn
      have hb := h.bd _ m1
      have hq := hr.held m1 (by omega) (by omega) q1
      omega
    · rw [if_neg e]; exact this

theorem Bfs.step {xs : List Int} {n : Nat} {R : List Int} {T : List Nat} {k : Nat} (h : Bfs xs n R T k) {r' : Int} (hh : heldX xs (T.getD k 0) (R.getD (T.getD k 0) 0 - 1) = some r') (hn : ∀ j ∈ nextX xs (T.getD k 0), R.getD j 0 = r' + 1) : Bfs xs n R T (k + 1) :=
  ⟨h.rlen, h.bd, h.cnt, h.mem, h.all, h.zero, h.forced, fun p hp hp' => by
    by_cases e : p = k
    · subst e; exact ⟨r', hh, hn⟩
    · exact h.done p (by omega) hp'⟩
theorem Bfs.fail {xs : List Int} {n : Nat} {R : List Int} {T : List Nat} {k : Nat} (h : Bfs xs n R T k) (hk : k < T.length) (hh : heldX xs (T.getD k 0) (R.getD (T.getD k 0) 0 - 1) = none) : roomsB xs n = false :=
  roomsB_false fun ρ hρ => by
    obtain ⟨a1, a2⟩ := h.at hk
    obtain ⟨q, q1, _⟩ := hρ.step _ _ a1 (h.forced ρ hρ _ a1 a2)
    rw [hh] at q1; cases q1
theorem Bfs.other {xs : List Int} {n : Nat} {R : List Int} {T : List Nat} {k : Nat} (h : Bfs xs n R T k) {j : Nat} (hj : j < n) (hp : 0 ≤ R.getD j 0) {r' : Int} (hf : ∀ ρ, Lab xs n ρ → ρ j = some r') (hne : R.getD j 0 ≠ r' + 1) : roomsB xs n = false :=
  roomsB_false fun ρ hρ => by
    have a := h.forced ρ hρ j hj hp
    rw [hf ρ hρ] at a
    injection a with a
    omega
theorem Bfs.end {xs : List Int} {n : Nat} {R : List Int} {T : List Nat} {k : Nat} (hr : Right xs n) (h : Bfs xs n R T k) (hk : T.length ≤ k) : roomsB xs n = true := by
  refine roomsB_true (ρ := fun i => if i < n ∧ 0 ≤ R.getD i 0 then some (R.getD i 0 - 1) else none) ⟨?_, fun i r hi hρ => ?_⟩
  · have := hr.lo
    rw [if_pos ⟨by omega, by rw [h.zero]; omega⟩, h.zero]; rfl
  · by_cases hp : 0 ≤ R.getD i 0
    · rw [if_pos ⟨hi, hp⟩] at hρ
      injection hρ with hρ
      subst hρ
      obtain ⟨p, hp1, hp2⟩ := List.getElem_of_mem (h.all i hi hp)
      have e : T.getD p 0 = i := by simp [List.getD, hp1, hp2]
      obtain ⟨q, q1, q2⟩ := h.done p (by omega) hp1
      rw [e] at q1 q2
      refine ⟨q, q1, fun j hj => ?_⟩
      have hb := h.bd i hi
      have hq := hr.held hi (by omega) (by omega) q1
      have := q2 j hj
      rw [if_pos ⟨hr.next hi j hj, by omega⟩, this]; congr 1; omega
    · rw [if_neg (fun h => hp h.2)] at hρ; cases hρ

/-- How many are not met. -/
def unm : List Bool → Nat
  | [] => 0
  | x :: r => (if x then 0 else 1) + unm r
theorem unm_set {M : List Bool} : ∀ {i : Nat}, i < M.length → M.getD i false = false → unm (M.set i true) + 1 = unm M := by
  induction M with
  | nil => intro i h; simp at h
  | cons x r ih =>
    intro i h hn
    cases i with
    | zero =>
      have hx : x = false := hn
      subst hx
      simp only [List.set_cons_zero, unm]; simp; omega
    | succ i =>
      have := ih (i := i) (by simpa using h) (by simpa using hn)
      simp only [List.set_cons_succ, unm]; omega
theorem unm_rep (n : Nat) : unm (List.replicate n false) = n := by
  induction n with
  | zero => rfl
  | succ n ih => rw [List.replicate_succ]; simp only [unm, ih]; simp; omega

/-- The program's search: which places are met, their rooms, and the visits that are left. -/
structure Dfs (xs : List Int) (n : Nat) (M : List Bool) (R : List Int) (V : List (Nat × Int)) : Prop where
  mlen : M.length = n
  rlen : R.length = n
  bd : ∀ i, i < n → -1 ≤ R.getD i 0 ∧ R.getD i 0 ≤ 1
  vis : ∀ v ∈ V, v.1 < n ∧ -1 ≤ v.2 ∧ v.2 ≤ 1 ∧ ∀ ρ, Lab xs n ρ → ρ v.1 = some v.2
  met : ∀ i, i < n → M.getD i false = true → (∀ ρ, Lab xs n ρ → ρ i = some (R.getD i 0)) ∧ ∃ r', heldX xs i (R.getD i 0) = some r' ∧ ∀ j ∈ nextX xs i, (M.getD j false = true ∧ R.getD j 0 = r') ∨ (j, r') ∈ V
  zero : (M.getD 0 false = true ∧ R.getD 0 0 = -1) ∨ (0, -1) ∈ V

theorem Dfs.start {xs : List Int} {n : Nat} (hr : Right xs n) : Dfs xs n (List.replicate n false) (List.replicate n 0) [(0, -1)] := by
  have lo := hr.lo
  have g : ∀ i, (List.replicate n (0 : Int)).getD i 0 = 0 := fun i => by
    by_cases h : i < n <;> simp [List.getD, h]
  have f : ∀ i, (List.replicate n false).getD i false = false := fun i => by
    by_cases h : i < n <;> simp [List.getD, h]
  refine ⟨by simp, by simp, fun i hi => by rw [g]; omega, fun v hv => ?_, fun i hi h => ?_, .inr (by simp)⟩
  · simp at hv; subst hv
    exact ⟨by omega, by omega, by omega, fun ρ hρ => hρ.start⟩
  · rw [f] at h; cases h

/-- A visit to a place that is met, in its room. -/
theorem Dfs.skip {xs : List Int} {n : Nat} {M : List Bool} {R : List Int} {V : List (Nat × Int)} {v : Nat} {r : Int} (h : Dfs xs n M R (V ++ [(v, r)])) (hm : M.getD v false = true) (hr : R.getD v 0 = r) : Dfs xs n M R V := by
  have back : ∀ j q, (j, q) ∈ V ++ [(v, r)] → (M.getD j false = true ∧ R.getD j 0 = q) ∨ (j, q) ∈ V := fun j q hq => by
    rcases List.mem_append.1 hq with hq | hq
    · exact .inr hq
    · simp at hq; obtain ⟨rfl, rfl⟩ := hq; exact .inl ⟨hm, hr⟩
  refine ⟨h.mlen, h.rlen, h.bd, fun u hu => h.vis u (List.mem_append_left _ hu), fun i hi hi' => ?_, h.zero.elim .inl (back 0 (-1))⟩
  obtain ⟨a, q, q1, q2⟩ := h.met i hi hi'
  exact ⟨a, q, q1, fun j hj => (q2 j hj).elim .inl (back j q)⟩
theorem Dfs.fail0 {xs : List Int} {n : Nat} {M : List Bool} {R : List Int} {V : List (Nat × Int)} {v : Nat} {r : Int} (h : Dfs xs n M R (V ++ [(v, r)])) (hm : M.getD v false = true) (hr : R.getD v 0 ≠ r) : roomsB xs n = false :=
  roomsB_false fun ρ hρ => by
    obtain ⟨v1, _, _, v4⟩ := h.vis (v, r) (by simp)
    have a := (h.met v v1 hm).1 ρ hρ
    rw [v4 ρ hρ] at a
    injection a with a
    exact hr a.symm
theorem Dfs.fail1 {xs : List Int} {n : Nat} {M : List Bool} {R : List Int} {V : List (Nat × Int)} {v : Nat} {r : Int} (h : Dfs xs n M R (V ++ [(v, r)])) (hh : heldX xs v r = none) : roomsB xs n = false :=
  roomsB_false fun ρ hρ => by
    obtain ⟨v1, _, _, v4⟩ := h.vis (v, r) (by simp)
    obtain ⟨q, q1, _⟩ := hρ.step v r v1 (v4 ρ hρ)
    rw [hh] at q1; cases q1
/-- A visit to a place that is not met. -/
theorem Dfs.push {xs : List Int} {n : Nat} {M : List Bool} {R : List Int} {V : List (Nat × Int)} {v : Nat} {r : Int} (hR : Right xs n) (h : Dfs xs n M R (V ++ [(v, r)])) (hm : M.getD v false = false) {r' : Int} (hh : heldX xs v r = some r') :
    Dfs xs n (M.set v true) (R.set v r) (V ++ (nextX xs v).map fun j => (j, r')) := by
  obtain ⟨v1, v2, v3, v4⟩ := h.vis (v, r) (by simp)
  have hq := hR.held v1 v2 v3 hh
  have gm : ∀ i, (M.set v true).getD i false = if i = v then true else M.getD i false := fun i => getD_set M i v _ false (by rw [h.mlen]; exact v1)
  have gr : ∀ i, (R.set v r).getD i 0 = if i = v then r else R.getD i 0 := fun i => getD_set R i v _ 0 (by rw [h.rlen]; exact v1)
  have back : ∀ j q, (M.getD j false = true ∧ R.getD j 0 = q) ∨ (j, q) ∈ V ++ [(v, r)] → ((M.set v true).getD j false = true ∧ (R.set v r).getD j 0 = q) ∨ (j, q) ∈ V ++ (nextX xs v).map fun j => (j, r') := fun j q hq => by
    rcases hq with ⟨m1, m2⟩ | hq
    · have : j ≠ v := fun e => by subst e; rw [hm] at m1; cases m1
      exact .inl ⟨by rw [gm, if_neg this]; exact m1, by rw [gr, if_neg this]; exact m2⟩
    · rcases List.mem_append.1 hq with hq | hq
      · exact .inr (List.mem_append_left _ hq)
      · simp at hq; obtain ⟨rfl, rfl⟩ := hq; exact .inl ⟨by rw [gm, if_pos rfl], by rw [gr, if_pos rfl]⟩
  refine ⟨by simp [h.mlen], by simp [h.rlen], fun i hi => ?_, fun u hu => ?_, fun i hi hi' => ?_, back 0 (-1) h.zero⟩
  · rw [gr]; split
    · omega
    · exact h.bd i hi
  · rcases List.mem_append.1 hu with hu | hu
    · exact h.vis u (List.mem_append_left _ hu)
    · obtain ⟨j, hj, rfl⟩ := List.mem_map.1 hu
      refine ⟨hR.next v1 j hj, hq.1, hq.2, fun ρ hρ => ?_⟩
      obtain ⟨q, q1, q2⟩ := hρ.step v r v1 (v4 ρ hρ)
      rw [hh] at q1
      injection q1 with q1
      subst q1
      exact q2 j hj
  · by_cases e : i = v
    · subst e
      rw [gr, if_pos rfl]
      exact ⟨v4, r', hh, fun j hj => .inr (List.mem_append_right _ (List.mem_map.2 ⟨j, hj, rfl⟩))⟩
    · rw [gm, if_neg e] at hi'
      rw [gr, if_neg e]
      obtain ⟨a, q, q1, q2⟩ := h.met i hi hi'
      exact ⟨a, q, q1, fun j hj => back j q (q2 j hj)⟩
theorem Dfs.end {xs : List Int} {n : Nat} {M : List Bool} {R : List Int} (hR : Right xs n) (h : Dfs xs n M R []) : roomsB xs n = true := by
  refine roomsB_true (ρ := fun i => if i < n ∧ M.getD i false = true then some (R.getD i 0) else none) ⟨?_, fun i r hi hρ => ?_⟩
  · have := hR.lo
    rcases h.zero with ⟨z1, z2⟩ | z
    · rw [if_pos ⟨by omega, z1⟩, z2]
    · cases z
  · by_cases hp : M.getD i false = true
    · rw [if_pos ⟨hi, hp⟩] at hρ
      injection hρ with hρ
      subst hρ
      obtain ⟨_, q, q1, q2⟩ := h.met i hi hp
      refine ⟨q, q1, fun j hj => ?_⟩
      rcases q2 j hj with ⟨m1, m2⟩ | m
      · rw [if_pos ⟨hR.next hi j hj, m1⟩, m2]
      · cases m
    · rw [if_neg (fun h => hp h.2)] at hρ; cases hρ

/-- Whether code is right. -/
noncomputable def codeB (xs : List Int) (n : Nat) : Bool :=
  decide (1 ≤ n ∧ n ≤ 60) && decide (∀ i, i < n → insB (opC xs i) (aC xs i) (bC xs i) (toC xs i) n = true ∧ (opC xs i = 13 ↔ i + 1 = n)) && roomsB xs n
theorem codeB_right {xs : List Int} {n : Nat} (h : Right xs n) : codeB xs n = roomsB xs n := by
  unfold codeB
  rw [decide_eq_true ⟨h.lo, h.hi⟩, decide_eq_true (fun i hi => ⟨h.ins i hi, h.last i hi⟩), Bool.true_and, Bool.true_and]
theorem codeB_few {xs : List Int} {n : Nat} (h : ¬ (1 ≤ n ∧ n ≤ 60)) : codeB xs n = false := by
  unfold codeB
  rw [decide_eq_false h, Bool.false_and, Bool.false_and]
theorem codeB_not {xs : List Int} {n : Nat} {i : Nat} (hi : i < n) (h : ¬ (insB (opC xs i) (aC xs i) (bC xs i) (toC xs i) n = true ∧ (opC xs i = 13 ↔ i + 1 = n))) : codeB xs n = false := by
  have hn : ¬ ∀ i, i < n → insB (opC xs i) (aC xs i) (bC xs i) (toC xs i) n = true ∧ (opC xs i = 13 ↔ i + 1 = n) := fun q => h (q i hi)
  unfold codeB
  rw [decide_eq_false hn, Bool.and_false, Bool.false_and]
end Go.Proofs.YtnfnjhbaaefbpaaGreatDoor
