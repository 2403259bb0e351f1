/- Where one may come in code, and what is known of the rooms on the way: as plain data. -/
import Derived.Test.YtnfnjhbaaefbpaaGreatDoorCodeOkPure
namespace Go.Proofs.YtnfnjhbaaefbpaaGreatDoor

/-- The places to which one may come. -/
inductive Come (xs : List Int) : Nat → Prop
  | zero : Come xs 0
  | step {i j : Nat} : Come xs i → j ∈ nextX xs i → Come xs j
theorem Come.lt {xs : List Int} {n : Nat} (hr : Right xs n) {i : Nat} (h : Come xs i) : i < n := by
  induction h with
  | zero => have := hr.lo; omega
  | step _ hj ih => exact hr.next ih _ hj

open Classical in
/-- Place by place. -/
noncomputable def comeL (xs : List Int) (n : Nat) : List Bool := (List.range n).map fun i => decide (Come xs i)
theorem comeL_len (xs : List Int) (n : Nat) : (comeL xs n).length = n := by simp [comeL]
open Classical in
theorem comeL_get {xs : List Int} {n i : Nat} (h : i < n) : (comeL xs n).getD i false = decide (Come xs i) := by
  simp [comeL, List.getD, h]
open Classical in
theorem comeL_of {xs : List Int} {n : Nat} {M : List Bool} (hl : M.length = n) (h : ∀ i, i < n → (M.getD i false = true ↔ Come xs i)) : M = comeL xs n := by
  apply List.ext_getElem?
  intro j
  by_cases hj : j < n
  · have h1 : M.getD j false = (comeL xs n).getD j false := by
      rw [comeL_get hj]
      have := h j hj
      cases hm : M.getD j false
      · rw [hm] at this; exact (decide_eq_false fun hc => by simpa using this.2 hc).symm
      · rw [hm] at this; exact (decide_eq_true (this.1 rfl)).symm
    have a1 : M[j]? = some (M.getD j false) := by simp [List.getD, hl, hj]
    have a2 : (comeL xs n)[j]? = some ((comeL xs n).getD j false) := by simp [List.getD, comeL_len, hj]
    rw [a1, a2, h1]
  · rw [List.getElem?_eq_none (by omega), List.getElem?_eq_none (by rw [comeL_len]; omega)]

/-- The walk so far: the places visited, which are met, and those left. -/
structure RS (xs : List Int) (n : Nat) (pre : List Nat) (M : List Bool) (L : List Nat) : Prop where
  mlen : M.length = n
  cnt : pre.length + unm M = n
  met : ∀ i, i < n → (M.getD i false = true ↔ i ∈ pre)
  stk : ∀ v ∈ L, v < n ∧ (v = 0 ∨ ∃ u ∈ pre, v ∈ nextX xs u)
  vis : ∀ i ∈ pre, Come xs i
  closed : ∀ i ∈ pre, ∀ j ∈ nextX xs i, j ∈ pre ∨ j ∈ L
  zero : 0 ∈ pre ∨ 0 ∈ L

/-- What is known of the next one. -/
def ROk (xs : List Int) (n : Nat) (pre : List Nat) (x : Nat) : Prop := x < n ∧ x ∉ pre ∧ (x = 0 ∨ ∃ u ∈ pre, x ∈ nextX xs u) ∧ pre.length < n
def RAll (xs : List Int) (pre : List Nat) : Prop := ∀ i, Come xs i ↔ i ∈ pre

theorem RS.start {xs : List Int} {n : Nat} (hr : Right xs n) : RS xs n [] (List.replicate n false) [0] := by
  have lo := hr.lo
  refine ⟨by simp, by rw [unm_rep]; simp, fun i hi => by simp [List.getD, hi], fun v hv => ?_, fun i hi => by simp at hi, fun i hi => by simp at hi, .inr (by simp)⟩
  simp at hv; subst hv; exact ⟨by omega, .inl rfl⟩
/-- One that is met already is passed over. -/
theorem RS.skip {xs : List Int} {n : Nat} {pre : List Nat} {M : List Bool} {L : List Nat} {v : Nat} (h : RS xs n pre M (L ++ [v])) (hm : M.getD v false = true) : RS xs n pre M L := by
  have hv := h.stk v (by simp)
  have hin := (h.met v hv.1).1 hm
  refine ⟨h.mlen, h.cnt, h.met, fun u hu => h.stk u (by simp [hu]), h.vis, fun i hi j hj => ?_, ?_⟩
  · rcases h.closed i hi j hj with h1 | h1
    · exact .inl h1
    · rcases List.mem_append.1 h1 with h1 | h1
      · exact .inr h1
      · simp at h1; subst h1; exact .inl hin
  · rcases h.zero with h1 | h1
    · exact .inl h1
    · rcases List.mem_append.1 h1 with h1 | h1
      · exact .inr h1
      · simp at h1; subst h1; exact .inl hin
theorem RS.ok {xs : List Int} {n : Nat} {pre : List Nat} {M : List Bool} {L : List Nat} {v : Nat} (h : RS xs n pre M (L ++ [v])) (hm : M.getD v false = false) : ROk xs n pre v := by
  have hv := h.stk v (by simp)
  have hu := unm_set (M := M) (i := v) (by rw [h.mlen]; exact hv.1) hm
  have hc := h.cnt
  exact ⟨hv.1, fun hi => (by rw [(h.met v hv.1).2 hi] at hm; cases hm), hv.2, by omega⟩
theorem RS.go {xs : List Int} {n : Nat} (hr : Right xs n) {pre : List Nat} {M : List Bool} {L : List Nat} {v : Nat} (h : RS xs n pre M (L ++ [v])) (hm : M.getD v false = false) : RS xs n (pre ++ [v]) (M.set v true) (L ++ nextX xs v) := by
  have hv := h.stk v (by simp)
  have hu := unm_set (M := M) (i := v) (by rw [h.mlen]; exact hv.1) hm
  have hc := h.cnt
  have hcv : Come xs v := by
    rcases hv.2 with rfl | ⟨u, hu1, hu2⟩
    · exact .zero
    · exact .step (h.vis u hu1) hu2
  refine ⟨by simp [h.mlen], by simp; omega, fun i hi => ?_, fun u hu' => ?_, fun i hi => ?_, fun i hi j hj => ?_, ?_⟩
  · rw [getD_set _ _ _ _ _ (by rw [h.mlen]; exact hv.1)]
    by_cases e : i = v
    · subst e; simp
    · rw [if_neg e, h.met i hi]; simp [e]
  · rcases List.mem_append.1 hu' with h1 | h1
    · obtain ⟨s1, s2⟩ := h.stk u (by simp [h1])
      refine ⟨s1, ?_⟩
      exact s2.imp id fun ⟨q, hq1, hq2⟩ => ⟨q, by simp [hq1], hq2⟩
    · exact ⟨hr.next hv.1 u h1, .inr ⟨v, by simp, h1⟩⟩
  · rcases List.mem_append.1 hi with h1 | h1
    · exact h.vis i h1
    · simp at h1; subst h1; exact hcv
  · rcases List.mem_append.1 hi with h1 | h1
    · rcases h.closed i h1 j hj with h2 | h2
      · exact .inl (by simp [h2])
      · rcases List.mem_append.1 h2 with h2 | h2
        · exact .inr (by simp [h2])
        · simp at h2; subst h2; exact .inl (by simp)
    · simp at h1; subst h1; exact .inr (by simp [hj])
  · rcases h.zero with h1 | h1
    · exact .inl (by simp [h1])
    · rcases List.mem_append.1 h1 with h2 | h2
      · exact .inr (by simp [h2])
      · simp at h2; subst h2; exact .inl (by simp)
theorem RS.all {xs : List Int} {n : Nat} {pre : List Nat} {M : List Bool} (h : RS xs n pre M []) : RAll xs pre := by
  intro i
  constructor
  · intro hc
    induction hc with
    | zero => exact h.zero.elim id (fun h => by simp at h)
    | step _ hj ih => exact (h.closed _ ih _ hj).elim id (fun h => by simp at h)
  · exact h.vis i
theorem RAll.mem {xs : List Int} {n : Nat} {pre : List Nat} {M : List Bool} (h : RS xs n pre M []) {i : Nat} (hi : i < n) : M.getD i false = true ↔ Come xs i := (h.met i hi).trans (h.all i).symm

/-- What the program knows of the rooms: of each place that it has come to or from the room in which one is there. -/
structure RInv (xs : List Int) (n : Nat) (pre : List Nat) (ρ : Nat → Option Int) : Prop where
  zero : ρ 0 = some (-1)
  bd : ∀ i r, ρ i = some r → i < n ∧ -1 ≤ r ∧ r ≤ 1
  forced : ∀ ρ', Lab xs n ρ' → ∀ i r, ρ i = some r → ρ' i = some r
  done : ∀ u ∈ pre, ∃ r r', ρ u = some r ∧ heldX xs u r = some r' ∧ ∀ j ∈ nextX xs u, ρ j = some r'

def upd (ρ : Nat → Option Int) (j : Nat) (r : Int) : Nat → Option Int := fun i => if i = j then some r else ρ i

theorem RInv.start {xs : List Int} {n : Nat} (hr : Right xs n) : RInv xs n [] (upd (fun _ => none) 0 (-1)) := by
  have lo := hr.lo
  refine ⟨rfl, fun i r h => ?_, fun ρ' hρ i r h => ?_, fun u hu => by simp at hu⟩
  · unfold upd at h
    split at h
    · injection h with h; omega
    · cases h
  · unfold upd at h
    split at h
    · injection h with h; subst h; rename_i e; subst e; exact hρ.start
    · cases h
/-- The room in which one comes to the next place. -/
theorem RInv.at {xs : List Int} {n : Nat} {pre : List Nat} {ρ : Nat → Option Int} (h : RInv xs n pre ρ) {x : Nat} (hx : ROk xs n pre x) : ∃ r, ρ x = some r ∧ -1 ≤ r ∧ r ≤ 1 := by
  rcases hx.2.2.1 with rfl | ⟨u, hu, hj⟩
  · exact ⟨-1, h.zero, by omega, by omega⟩
  · obtain ⟨_, r', _, _, hn⟩ := h.done u hu
    have := h.bd _ _ (hn x hj)
    exact ⟨r', hn x hj, this.2⟩
theorem RInv.fail {xs : List Int} {n : Nat} {pre : List Nat} {ρ : Nat → Option Int} (h : RInv xs n pre ρ) {x : Nat} (hx : x < n) {r : Int} (h1 : ρ x = some r) (h2 : heldX xs x r = none) : roomsB xs n = false :=
  roomsB_false fun ρ' hρ => by
    obtain ⟨q, q1, _⟩ := hρ.step x r hx (h.forced ρ' hρ _ _ h1)
    rw [h2] at q1; cases q1
/-- Behind an instruction the room is forced. -/
theorem RInv.push {xs : List Int} {n : Nat} {pre : List Nat} {ρ : Nat → Option Int} (h : RInv xs n pre ρ) {x : Nat} (hx : x < n) {r r' : Int} (h1 : ρ x = some r) (h2 : heldX xs x r = some r') {j : Nat} (hj : j ∈ nextX xs x) : ∀ ρ', Lab xs n ρ' → ρ' j = some r' := by
  intro ρ' hρ
  obtain ⟨q, q1, q2⟩ := hρ.step x r hx (h.forced ρ' hρ _ _ h1)
  rw [h2] at q1; injection q1 with q1; subst q1
  exact q2 j hj
theorem RInv.other {xs : List Int} {n : Nat} {pre : List Nat} {ρ : Nat → Option Int} (h : RInv xs n pre ρ) {j : Nat} {r r' : Int} (h1 : ρ j = some r) (hf : ∀ ρ', Lab xs n ρ' → ρ' j = some r') (hne : r ≠ r') : roomsB xs n = false :=
  roomsB_false fun ρ' hρ => by
    have a := h.forced ρ' hρ j r h1
    rw [hf ρ' hρ] at a
    injection a with a
    exact hne a.symm
theorem upd_same {ρ : Nat → Option Int} {j : Nat} {r : Int} (h : ρ j = some r) : upd ρ j r = ρ := by
  funext i
  unfold upd
  split
  · rename_i e; subst e; exact h.symm
  · rfl
theorem RInv.put {xs : List Int} {n : Nat} {pre : List Nat} {ρ : Nat → Option Int} (h : RInv xs n pre ρ) {j : Nat} (hj : j < n) {r' : Int} (h0 : -1 ≤ r') (h1 : r' ≤ 1) (hf : ∀ ρ', Lab xs n ρ' → ρ' j = some r') (hk : ρ j = none ∨ ρ j = some r') : RInv xs n pre (upd ρ j r') := by
  rcases hk with hk | hk
  · have keep : ∀ i r, ρ i = some r → upd ρ j r' i = some r := fun i r hi => by
      unfold upd
      rw [if_neg (fun e => by subst e; rw [hk] at hi; cases hi)]; exact hi
    refine ⟨keep _ _ h.zero, fun i r hi => ?_, fun ρ' hρ i r hi => ?_, fun u hu => ?_⟩
    · unfold upd at hi
      split at hi
      · injection hi with hi; omega
      · exact h.bd i r hi
    · unfold upd at hi
      split at hi
      · injection hi with hi; subst hi; rename_i e; subst e; exact hf ρ' hρ
      · exact h.forced ρ' hρ i r hi
    · obtain ⟨r, q, a1, a2, a3⟩ := h.done u hu
      exact ⟨r, q, keep _ _ a1, a2, fun i hi => keep _ _ (a3 i hi)⟩
  · rw [upd_same hk]; exact h
theorem upd_at (ρ : Nat → Option Int) (j : Nat) (r : Int) : upd ρ j r j = some r := by unfold upd; rw [if_pos rfl]
theorem upd_keep {ρ : Nat → Option Int} {j i : Nat} {r r' : Int} (hk : ρ j = none ∨ ρ j = some r') (h : ρ i = some r) : upd ρ j r' i = some r := by
  unfold upd
  split
  · rename_i e; subst e
    rcases hk with hk | hk
    · rw [hk] at h; cases h
    · rw [hk] at h; exact h
  · exact h
theorem RInv.more {xs : List Int} {n : Nat} {pre : List Nat} {ρ : Nat → Option Int} (h : RInv xs n pre ρ) {x : Nat} {r r' : Int} (h1 : ρ x = some r) (h2 : heldX xs x r = some r') (h3 : ∀ j ∈ nextX xs x, ρ j = some r') : RInv xs n (pre ++ [x]) ρ :=
  ⟨h.zero, h.bd, h.forced, fun u hu => by
    rcases List.mem_append.1 hu with hu | hu
    · exact h.done u hu
    · simp at hu; subst hu; exact ⟨r, r', h1, h2, h3⟩⟩
open Classical in
theorem RInv.end {xs : List Int} {n : Nat} {pre : List Nat} {ρ : Nat → Option Int} (h : RInv xs n pre ρ) (ha : RAll xs pre) : roomsB xs n = true := by
  refine roomsB_true (ρ := fun i => if Come xs i then ρ i else none) ⟨by rw [if_pos .zero]; exact h.zero, fun i r hi hρ => ?_⟩
  by_cases hc : Come xs i
  · rw [if_pos hc] at hρ
    obtain ⟨q, q', a1, a2, a3⟩ := h.done i ((ha i).1 hc)
    rw [hρ] at a1; injection a1 with a1; subst a1
    exact ⟨q', a2, fun j hj => by rw [if_pos (.step hc hj)]; exact a3 j hj⟩
  · rw [if_neg hc] at hρ; cases hρ

/-- The model's rooms, where they fit: a place has one just where one may come to it. -/
theorem Bfs.come {xs : List Int} {n : Nat} {R : List Int} {T : List Nat} {k : Nat} (hr : Right xs n) (h : Bfs xs n R T k) (hk : T.length ≤ k) : ∀ i, i < n → (0 ≤ R.getD i 0 ↔ Come xs i) := by
  classical
  have hlab := h.end hr hk
  have he : ∃ ρ, Lab xs n ρ := by
    apply Classical.byContradiction
    intro hno
    have := roomsB_false (xs := xs) (n := n) fun ρ hρ => hno ⟨ρ, hρ⟩
    rw [this] at hlab; cases hlab
  obtain ⟨ρ, hρ⟩ := he
  have hcome : ∀ i, Come xs i → (ρ i).isSome = true := fun i hc => by
    have hlt := fun i (hc : Come xs i) => hc.lt hr
    have : ∃ r, ρ i = some r := by
      induction hc with
      | zero => exact ⟨_, hρ.start⟩
      | step hci hj ih =>
        obtain ⟨r, hr'⟩ := ih
        obtain ⟨q, _, q2⟩ := hρ.step _ _ (hlt _ hci) hr'
        exact ⟨q, q2 _ hj⟩
    obtain ⟨r, e⟩ := this
    rw [e]; rfl
  have hl' : Lab xs n (fun i => if Come xs i then ρ i else none) := ⟨by rw [if_pos .zero]; exact hρ.start, fun i r hi hr' => by
    by_cases hc : Come xs i
    · rw [if_pos hc] at hr'
      obtain ⟨q, q1, q2⟩ := hρ.step i r hi hr'
      exact ⟨q, q1, fun j hj => by rw [if_pos (.step hc hj)]; exact q2 j hj⟩
    · rw [if_neg hc] at hr'; cases hr'⟩
  intro i hi
  constructor
  · intro hp
    have := h.forced _ hl' i hi hp
    apply Classical.byContradiction
    intro hc
    rw [if_neg hc] at this; cases this
  · intro hc
    clear hi
    induction hc with
    | zero => rw [h.zero]; omega
    | step hci hj ih =>
      have hin := h.all _ (hci.lt hr) ih
      obtain ⟨p, hp1, hp2⟩ := List.getElem_of_mem hin
      obtain ⟨q, q1, q2⟩ := h.done p (by omega) hp1
      have e : T.getD p 0 = T[p] := by simp [List.getD, hp1]
      rw [e, hp2] at q1 q2
      have hb := h.bd _ (hci.lt hr)
      have hq := hr.held (hci.lt hr) (by omega) (by omega) q1
      have := q2 _ hj
      omega
end Go.Proofs.YtnfnjhbaaefbpaaGreatDoor
