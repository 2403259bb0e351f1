/- Code of what is right has rooms that fit: as plain data. -/
import Derived.Test.YtnfnjhbaaefbpaaGreatDoorCodeRight
namespace Go.Proofs.YtnfnjhbaaefbpaaGreatDoor

/-- Code of n instructions from place p on, come to in room r and left in it behind its last one: its places have rooms that fit. -/
def RoomP (p n : Nat) (r : Int) (xs : List Int) : Prop :=
  xs.length = n * 4 ∧ ∃ lam : Nat → Int, lam p = r ∧ lam (p + n) = r ∧ ∀ i, i < n → ∃ r', heldO (opC xs i) (aC xs i) (lam (p + i)) = some r' ∧ ∀ j ∈ nextO (opC xs i) (toC xs i) (p + i), lam j = r' ∧ p ≤ j ∧ j ≤ p + n

theorem RoomP.nil (p : Nat) (r : Int) : RoomP p 0 r [] := ⟨rfl, fun _ => r, rfl, rfl, fun i hi => by omega⟩
theorem RoomP.append {p a b : Nat} {r : Int} {X Y : List Int} (hX : RoomP p a r X) (hY : RoomP (p + a) b r Y) : RoomP p (a + b) r (X ++ Y) := by
  obtain ⟨l, f, f0, f1, fs⟩ := hX
  obtain ⟨l', g, g0, g1, gs⟩ := hY
  refine ⟨by rw [List.length_append, l, l']; omega, fun i => if i < p + a then f i else g i, ?_, ?_, fun i hi => ?_⟩
  · by_cases h : p < p + a
    · show (if _ then _ else _) = _
      rw [if_pos h]; exact f0
    · show (if _ then _ else _) = _
      rw [if_neg h]
      obtain rfl : a = 0 := by omega
      exact g0
  · show (if _ then _ else _) = _
    rw [if_neg (by omega), ← Nat.add_assoc]; exact g1
  · by_cases h : i < a
    · obtain ⟨r', h1, h2⟩ := fs i h
      refine ⟨r', ?_, fun j hj => ?_⟩
      · show heldO _ _ (if _ then _ else _) = _
        rw [if_pos (by omega), opC_left l h, aC_left l h]; exact h1
      · rw [opC_left l h, toC_left l h] at hj
        obtain ⟨q1, q2, q3⟩ := h2 j hj
        refine ⟨?_, q2, by omega⟩
        show (if _ then _ else _) = _
        by_cases e : j < p + a
        · rw [if_pos e]; exact q1
        · obtain rfl : j = p + a := by omega
          rw [if_neg e, g0, ← q1, f1]
    · obtain ⟨q, rfl⟩ : ∃ q, i = a + q := ⟨i - a, by omega⟩
      obtain ⟨r', h1, h2⟩ := gs q (by omega)
      refine ⟨r', ?_, fun j hj => ?_⟩
      · show heldO _ _ (if _ then _ else _) = _
        rw [if_neg (by omega), opC_right l, aC_right l, ← Nat.add_assoc]; exact h1
      · rw [opC_right l, toC_right l, ← Nat.add_assoc] at hj
        obtain ⟨q1, q2, q3⟩ := h2 j hj
        refine ⟨?_, by omega, by omega⟩
        show (if _ then _ else _) = _
        rw [if_neg (by omega)]; exact q1

/-- One instruction that passes its room on. -/
theorem RoomP.one (p : Nat) (r o a b t : Int) (hh : heldO o a r = some r) (hn : nextO o t p = [p + 1]) : RoomP p 1 r [o, a, b, t] := by
  refine ⟨rfl, fun _ => r, rfl, rfl, fun i hi => ?_⟩
  obtain rfl : i = 0 := by omega
  refine ⟨r, hh, fun j hj => ?_⟩
  have : j ∈ nextO o t p := hj
  rw [hn] at this
  simp at this
  subst this
  exact ⟨rfl, by omega, by omega⟩

/-- All places of one room: code whose instructions pass it on, each going no further than its end. -/
theorem RoomP.wrap {p b m : Nat} {r : Int} {X : List Int} (hX : RoomP (p + 1) b r X) (x : Int) (t : Nat) {Y : List Int} {c : Nat} (hY : RoomP (p + 2 + b) c r Y) (ht : p ≤ t ∧ t ≤ p + 2 + b + c) (htr : t = p ∨ t = p + 2 + b + c) (hm : m = 2 + b + c) :
    RoomP p m r ([6, x, 0, ((p + 2 + b : Nat) : Int)] ++ X ++ ([7, 0, 0, (t : Int)] ++ Y)) := by
  subst hm
  obtain ⟨l, f, f0, f1, fs⟩ := hX
  obtain ⟨l', g, g0, g1, gs⟩ := hY
  have l1 : ([6, x, 0, ((p + 2 + b : Nat) : Int)] : List Int).length = 1 * 4 := rfl
  have l2 : ([6, x, 0, ((p + 2 + b : Nat) : Int)] ++ X).length = (1 + b) * 4 := by rw [List.length_append, l, l1]; omega
  have l3 : ([7, 0, 0, (t : Int)] : List Int).length = 1 * 4 := rfl
  let lam : Nat → Int := fun i => if i = p then r else if i < p + 2 + b then f i else g i
  have lamp : lam p = r := if_pos rfl
  have lamf : ∀ i, p < i → i < p + 2 + b → lam i = f i := fun i h1 h2 => by
    show (if _ then _ else if _ then _ else _) = _
    rw [if_neg (by omega), if_pos h2]
  have lamg : ∀ i, p + 2 + b ≤ i → lam i = g i := fun i h => by
    show (if _ then _ else if _ then _ else _) = _
    rw [if_neg (by omega), if_neg (by omega)]
  have lame : lam (p + (2 + b + c)) = r := by rw [lamg _ (by omega), show p + (2 + b + c) = p + 2 + b + c from by omega]; exact g1
  have laml : lam (p + 1 + b) = r := by rw [lamf _ (by omega) (by omega)]; exact f1
  refine ⟨by rw [List.length_append, l2, List.length_append, l3, l']; omega, lam, lamp, lame, fun i hi => ?_⟩
  rcases (by omega : i = 0 ∨ (1 ≤ i ∧ i < 1 + b) ∨ i = 1 + b ∨ (2 + b ≤ i ∧ i < 2 + b + c)) with rfl | h | rfl | h
  · rw [opC_left l2 (by omega), opC_left l1 (by omega), aC_left l2 (by omega), aC_left l1 (by omega), toC_left l2 (by omega), toC_left l1 (by omega)]
    refine ⟨r, by show heldO 6 x (lam p) = some r; rw [lamp]; rfl, fun j hj => ?_⟩
    have hj' : j ∈ [p + 0 + 1, ((p + 2 + b : Nat) : Int).toNat] := hj
    simp only [List.mem_cons, List.not_mem_nil, or_false, Int.toNat_natCast] at hj'
    rcases hj' with rfl | rfl
    · refine ⟨?_, by omega, by omega⟩
      by_cases hb : b = 0
      · subst hb; exact laml
      · rw [lamf _ (by omega) (by omega)]; exact f0
    · exact ⟨by rw [lamg _ (by omega)]; exact g0, by omega, by omega⟩
  · obtain ⟨q, rfl⟩ : ∃ q, i = 1 + q := ⟨i - 1, by omega⟩
    rw [opC_left l2 (by omega), opC_right l1, aC_left l2 (by omega), aC_right l1, toC_left l2 (by omega), toC_right l1]
    obtain ⟨r', h1, h2⟩ := fs q (by omega)
    refine ⟨r', by rw [lamf _ (by omega) (by omega), ← Nat.add_assoc]; exact h1, fun j hj => ?_⟩
    rw [← Nat.add_assoc] at hj
    obtain ⟨q1, q2, q3⟩ := h2 j hj
    exact ⟨by rw [lamf _ (by omega) (by omega)]; exact q1, by omega, by omega⟩
  · have eo := (opC_right (X := [6, x, 0, ((p + 2 + b : Nat) : Int)] ++ X) (Y := [7, 0, 0, (t : Int)] ++ Y) (i := 0) l2)
    have ea := (aC_right (X := [6, x, 0, ((p + 2 + b : Nat) : Int)] ++ X) (Y := [7, 0, 0, (t : Int)] ++ Y) (i := 0) l2)
    have et := (toC_right (X := [6, x, 0, ((p + 2 + b : Nat) : Int)] ++ X) (Y := [7, 0, 0, (t : Int)] ++ Y) (i := 0) l2)
    rw [show 1 + b + 0 = 1 + b from rfl] at eo ea et
    rw [eo, ea, et]
    refine ⟨r, by rw [← Nat.add_assoc, laml]; rfl, fun j hj => ?_⟩
    have hj' : j ∈ [(t : Int).toNat] := hj
    simp only [List.mem_cons, List.not_mem_nil, or_false, Int.toNat_natCast] at hj'
    subst hj'
    refine ⟨?_, by omega, by omega⟩
    rcases htr with rfl | e
    · exact lamp
    · rw [e, show p + 2 + b + c = p + (2 + b + c) from by omega]; exact lame
  · obtain ⟨q, rfl⟩ : ∃ q, i = 1 + b + (1 + q) := ⟨i - (2 + b), by omega⟩
    rw [opC_right l2, opC_right l3, aC_right l2, aC_right l3, toC_right l2, toC_right l3]
    obtain ⟨r', h1, h2⟩ := gs q (by omega)
    refine ⟨r', by rw [lamg _ (by omega), show p + (1 + b + (1 + q)) = p + 2 + b + q from by omega]; exact h1, fun j hj => ?_⟩
    rw [show p + (1 + b + (1 + q)) = p + 2 + b + q from by omega] at hj
    obtain ⟨q1, q2, q3⟩ := h2 j hj
    exact ⟨by rw [lamg _ (by omega)]; exact q1, by omega, by omega⟩

/-- A room entered, code in it, and left. -/
theorem RoomP.inside {p b : Nat} {x : Int} {X : List Int} (hX : RoomP (p + 1) b x X) : RoomP p (2 + b) (-1) ([8, x, 0, 0] ++ X ++ [9, x, 0, 0]) := by
  obtain ⟨l, f, f0, f1, fs⟩ := hX
  have l1 : ([8, x, 0, 0] : List Int).length = 1 * 4 := rfl
  have l2 : ([8, x, 0, 0] ++ X).length = (1 + b) * 4 := by rw [List.length_append, l, l1]; omega
  let lam : Nat → Int := fun i => if i = p then -1 else if i < p + 2 + b then f i else -1
  have lamp : lam p = -1 := if_pos rfl
  have lamf : ∀ i, p < i → i < p + 2 + b → lam i = f i := fun i h1 h2 => by
    show (if _ then _ else if _ then _ else _) = _
    rw [if_neg (by omega), if_pos h2]
  have lame : lam (p + (2 + b)) = -1 := by
    show (if _ then _ else if _ then _ else _) = _
    rw [if_neg (by omega), if_neg (by omega)]
  refine ⟨by rw [List.length_append, l2]; simp; omega, lam, lamp, lame, fun i hi => ?_⟩
  rcases (by omega : i = 0 ∨ (1 ≤ i ∧ i < 1 + b) ∨ i = 1 + b) with rfl | h | rfl
  · rw [opC_left l2 (by omega), opC_left l1 (by omega), aC_left l2 (by omega), aC_left l1 (by omega), toC_left l2 (by omega), toC_left l1 (by omega)]
    refine ⟨x, by show heldO 8 x (lam p) = some x; rw [lamp]; rfl, fun j hj => ?_⟩
    have hj' : j ∈ [p + 0 + 1] := hj
    simp only [List.mem_cons, List.not_mem_nil, or_false] at hj'
    subst hj'
    exact ⟨by rw [lamf _ (by omega) (by omega)]; exact f0, by omega, by omega⟩
  · obtain ⟨q, rfl⟩ : ∃ q, i = 1 + q := ⟨i - 1, by omega⟩
    rw [opC_left l2 (by omega), opC_right l1, aC_left l2 (by omega), aC_right l1, toC_left l2 (by omega), toC_right l1]
    obtain ⟨r', h1, h2⟩ := fs q (by omega)
    refine ⟨r', by rw [lamf _ (by omega) (by omega), ← Nat.add_assoc]; exact h1, fun j hj => ?_⟩
    rw [← Nat.add_assoc] at hj
    obtain ⟨q1, q2, q3⟩ := h2 j hj
    exact ⟨by rw [lamf _ (by omega) (by omega)]; exact q1, by omega, by omega⟩
  · have eo := (opC_right (X := [8, x, 0, 0] ++ X) (Y := [9, x, 0, 0]) (i := 0) l2)
    have ea := (aC_right (X := [8, x, 0, 0] ++ X) (Y := [9, x, 0, 0]) (i := 0) l2)
    have et := (toC_right (X := [8, x, 0, 0] ++ X) (Y := [9, x, 0, 0]) (i := 0) l2)
    rw [show 1 + b + 0 = 1 + b from rfl] at eo ea et
    rw [eo, ea, et]
    refine ⟨-1, ?_, fun j hj => ?_⟩
    · rw [← Nat.add_assoc, lamf _ (by omega) (by omega), f1]
      show heldO 9 x x = some (-1)
      unfold heldO
      rw [if_neg (by decide), if_pos rfl, if_pos rfl]
    · have hj' : j ∈ [p + (1 + b) + 1] := hj
      simp only [List.mem_cons, List.not_mem_nil, or_false] at hj'
      subst hj'
      exact ⟨by rw [show p + (1 + b) + 1 = p + (2 + b) from by omega]; exact lame, by omega, by omega⟩

theorem leaf_room {k x y n r : Int} (p : Nat) (h : leafB k x y n r = true) : RoomP p 1 r (leafC k x y n) := by
  have hk : k = 1 ∨ k = 2 ∨ k = 3 ∨ k = 4 ∨ k = 5 ∨ k = 9 ∨ k = 10 ∨ k = 11 ∨ (k ≠ 1 ∧ k ≠ 2 ∧ k ≠ 3 ∧ k ≠ 4 ∧ k ≠ 5 ∧ k ≠ 9 ∧ k ≠ 10 ∧ k ≠ 11) := by omega
  rcases hk with rfl | rfl | rfl | rfl | rfl | rfl | rfl | rfl | ⟨h1, h2, h3, h4, h5, h9, h10, h11⟩
  · exact RoomP.one p r 1 x y n rfl rfl
  · exact RoomP.one p r 2 x y n rfl rfl
  · exact RoomP.one p r 3 x y n rfl rfl
  · exact RoomP.one p r 4 x y n rfl rfl
  · exact RoomP.one p r 5 x y n rfl rfl
  · have hr : ¬ r = -1 := by simp [leafB] at h; omega
    exact RoomP.one p r 10 x 0 0 (by unfold heldO; rw [if_neg (by decide), if_neg (by decide), if_pos rfl, if_neg hr]) rfl
  · exact RoomP.one p r 11 x 0 0 rfl rfl
  · exact RoomP.one p r 12 0 0 0 rfl rfl
  · simp [leafB, h1, h2, h3, h4, h5, h9, h10, h11] at h

theorem code_rooms (L : SL) : ∀ (d r : Int) (p : Nat), -1 ≤ r → okL L d r = true → RoomP p L.lenC r (codeL L p) := by
  induction L with
  | nil => intro d r p _ _; exact RoomP.nil p r
  | cons k x y n B E R hB hE hR =>
    intro d r p hr hok
    rw [okL_cons, Bool.and_eq_true] at hok
    obtain ⟨hh, okB, okE⟩ := okS_parts hok.1
    have hd := headB_one hh
    have fst : RoomP p (lenS k B E) r (codeS k x y n B E p) := by
      unfold headB at hh
      rw [decide_eq_true hd, Bool.true_and] at hh
      unfold codeS lenS
      by_cases h6 : k = 6
      · rw [if_pos h6, if_pos h6]
        have e : inR k x r = r := by unfold inR; rw [if_neg (by omega)]
        rw [e] at okB okE
        exact RoomP.wrap (hB _ _ (p + 1) hr okB) x (p + 2 + B.lenC + E.lenC) (hE _ _ (p + 2 + B.lenC) hr okE) (by omega) (.inr rfl) rfl
      · rw [if_neg h6] at hh
        rw [if_neg h6, if_neg h6]
        by_cases h7 : k = 7
        · rw [if_pos h7, if_pos h7]
          have e : inR k x r = r := by unfold inR; rw [if_neg (by omega)]
          rw [e] at okB
          exact RoomP.wrap (hB _ _ (p + 1) hr okB) x p (RoomP.nil (p + 2 + B.lenC) r) (by omega) (.inl rfl) (by omega)
        · rw [if_neg h7] at hh
          rw [if_neg h7, if_neg h7]
          by_cases h8 : k = 8
          · rw [if_pos h8] at hh
            rw [if_pos h8, if_pos h8]
            have hx := of_decide_eq_true hh
            have e : inR k x r = x := by unfold inR; rw [if_pos h8]
            rw [e] at okB
            obtain rfl : r = -1 := by omega
            exact RoomP.inside (hB _ _ (p + 1) (by omega) okB)
          · rw [if_neg h8] at hh
            rw [if_neg h8, if_neg h8]
            rw [Bool.and_eq_true] at hh
            exact leaf_room p hh.2
    rw [codeL_cons, lenC_cons]
    exact fst.append (hR _ _ _ hr hok.2)

/-- Code of what is right is right. -/
theorem code_ok {L : SL} (h : okL L 3 (-1) = true) (h14 : L.size ≤ 14) : codeB (codeP L) (L.lenC + 1) = true := by
  rw [codeB_right (code_right h h14)]
  obtain ⟨l, lam, f0, f1, fs⟩ := code_rooms L 3 (-1) 0 (by omega) h
  rw [Nat.zero_add] at f1
  refine roomsB_true (ρ := fun i => some (lam i)) ⟨by rw [f0], fun i r hi hρ => ?_⟩
  injection hρ with hρ
  subst hρ
  by_cases hlt : i < L.lenC
  · obtain ⟨r', h1, h2⟩ := fs i hlt
    rw [Nat.zero_add] at h1 h2
    refine ⟨r', ?_, fun j hj => ?_⟩
    · unfold heldX codeP
      rw [opC_left l hlt, aC_left l hlt]; exact h1
    · unfold nextX codeP at hj
      rw [opC_left l hlt, toC_left l hlt] at hj
      rw [(h2 j hj).1]
  · obtain rfl : i = L.lenC := by omega
    have e0 : opC (codeP L) L.lenC = 13 := (opC_right (Y := [13, 0, 0, 0]) (i := 0) l).trans rfl
    refine ⟨-1, ?_, fun j hj => ?_⟩
    · unfold heldX
      rw [e0, f1]
      unfold heldO
      rw [if_neg (by decide), if_neg (by decide), if_neg (by decide), if_pos rfl, if_pos rfl]
    · unfold nextX at hj
      rw [e0] at hj
      exact absurd hj (by unfold nextO; rw [if_neg (by decide), if_neg (by decide), if_pos rfl]; simp)
end Go.Proofs.YtnfnjhbaaefbpaaGreatDoor
