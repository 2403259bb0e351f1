/- PROVED: laws.FnCodeIn returns true for every input, and its argument and the table that it reads read as before, where the table holds what the program's text lays there (the card ties it). -/
import Derived.Test.YtlmgbpbiljnohaaGreatDoorCodeOkPure
import Derived.Test.YtlmgbpbiljnohaaGreatDoorOkMore
import Derived.Test.YtlmgbpbiljnohaaGreatDoorBothPure
import Derived.Test.YtlmgbpbiljnohaaGreatDoorCodeBoth2
import Derived.Test.YtlmgbpbiljnohaaGreatDoorJumpPure
import Derived.Test.YtlmgbpbiljnohaaGreatDoorTakeL
import Derived.Test.YtlmgbpbiljnohaaGreatDoorStmtsOk
import Derived.Test.YtlmgbpbiljnohaaGreatDoorHasRooms
import Derived.Test.YtlmgbpbiljnohaaGreatDoorDrawCode
import Derived.Deep.RegionHeld3
import Derived.Test.YtlmgbpbiljnohaaGreatDoorRows
import Derived.WalkKit
import Derived.ProofKit
import Derived.OpenShut
import Derived.Below
import Derived.Carry
import Derived.Test.YtlmgbpbiljnohaaGreatDoorOpen
import Derived.Test.YtlmgbpbiljnohaaGreatDoorEmitStmts
import Derived.LaidMore
import Derived.ChangeVars
import Derived.Stop.Joined
import Derived.Test.YtlmgbpbiljnohaaGreatDoorTie
import Derived.Test.YtlmgbpbiljnohaaGreatDoorCards
import Derived.SevenTiedAt
/- Code of what is right is right: as plain data. -/
namespace Go.Proofs.YtlmgbpbiljnohaaGreatDoor

theorem aC_left {X Y : List Int} {a i : Nat} (hX : X.length = a * 4) (h : i < a) : aC (X ++ Y) i = aC X i := getD_left X Y _ (by omega)
theorem bC_left {X Y : List Int} {a i : Nat} (hX : X.length = a * 4) (h : i < a) : bC (X ++ Y) i = bC X i := getD_left X Y _ (by omega)
theorem aC_right {X Y : List Int} {a i : Nat} (hX : X.length = a * 4) : aC (X ++ Y) (a + i) = aC Y i := by
  unfold aC
  rw [getD_right X Y _ (by omega), hX, show (a + i) * 4 + 1 - a * 4 = i * 4 + 1 from by omega]
theorem bC_right {X Y : List Int} {a i : Nat} (hX : X.length = a * 4) : bC (X ++ Y) (a + i) = bC Y i := by
  unfold bC
  rw [getD_right X Y _ (by omega), hX, show (a + i) * 4 + 2 - a * 4 = i * 4 + 2 from by omega]

/-- Each instruction of code is right, in code of m, and none is an end. -/
structure InsAll (m n : Nat) (xs : List Int) : Prop where
  len : xs.length = n * 4
  ins : ∀ i, i < n → insB (opC xs i) (aC xs i) (bC xs i) (toC xs i) m = true ∧ opC xs i ≠ 13
theorem InsAll.nil (m : Nat) : InsAll m 0 [] := ⟨rfl, fun i hi => by omega⟩
theorem InsAll.append {m a b : Nat} {X Y : List Int} (hX : InsAll m a X) (hY : InsAll m b Y) : InsAll m (a + b) (X ++ Y) := by
  have l := hX.len
  refine ⟨by rw [List.length_append, l, hY.len]; omega, fun i hi => ?_⟩
  by_cases h : i < a
  · rw [opC_left l h, aC_left l h, bC_left l h, toC_left l h]; exact hX.ins i h
  · obtain ⟨q, rfl⟩ : ∃ q, i = a + q := ⟨i - a, by omega⟩
    rw [opC_right l, aC_right l, bC_right l, toC_right l]; exact hY.ins q (by omega)
theorem InsAll.one {m : Nat} {o a b t : Int} (h : insB o a b t m = true) (h13 : o ≠ 13) : InsAll m 1 [o, a, b, t] :=
  ⟨rfl, fun i hi => by obtain rfl : i = 0 := by omega
                       exact ⟨h, h13⟩⟩

theorem leaf_ins {k x y n r : Int} {m : Nat} (h : leafB k x y n r = true) : InsAll m 1 (leafC k x y n) := by
  have hk : k = 1 ∨ k = 2 ∨ k = 3 ∨ k = 4 ∨ k = 5 ∨ k = 9 ∨ k = 10 ∨ k = 11 ∨ (k ≠ 1 ∧ k ≠ 2 ∧ k ≠ 3 ∧ k ≠ 4 ∧ k ≠ 5 ∧ k ≠ 9 ∧ k ≠ 10 ∧ k ≠ 11) := by omega
  rcases hk with rfl | rfl | rfl | rfl | rfl | rfl | rfl | rfl | ⟨h1, h2, h3, h4, h5, h9, h10, h11⟩
  · exact InsAll.one (by simpa [insB, leafB] using h) (by decide)
  · exact InsAll.one (by simpa [insB, leafB] using h) (by decide)
  · exact InsAll.one (by simpa [insB, leafB] using h) (by decide)
  · exact InsAll.one (by simpa [insB, leafB] using h) (by decide)
  · exact InsAll.one (by simpa [insB, leafB] using h) (by decide)
  · exact InsAll.one (by simp [leafB] at h; simp [insB]; omega) (by decide)
  · exact InsAll.one (by simp [leafB] at h; simp [insB]; omega) (by decide)
  · exact InsAll.one (by simp [insB]) (by decide)
  · simp [leafB, h1, h2, h3, h4, h5, h9, h10, h11] at h

theorem code_ins (m : Nat) (L : SL) : ∀ (d r : Int) (p : Nat), okL L d r = true → p + L.lenC < m → InsAll m L.lenC (codeL L p) := by
  induction L with
  | nil => intro d r p _ _; exact InsAll.nil m
  | cons k x y n B E R hB hE hR =>
    intro d r p hok hp
    rw [okL_cons, Bool.and_eq_true] at hok
    obtain ⟨hh, okB, okE⟩ := okS_parts hok.1
    rw [lenC_cons] at hp
    have hd := headB_one hh
    have fst : InsAll m (lenS k B E) (codeS k x y n B E p) := by
      unfold headB at hh
      rw [decide_eq_true hd, Bool.true_and] at hh
      unfold lenS at hp
      unfold codeS lenS
      by_cases h6 : k = 6
      · rw [if_pos h6] at hh hp ⊢
        rw [if_pos h6]
        have hx := of_decide_eq_true hh
        have a := ((InsAll.one (m := m) (o := 6) (a := x) (b := 0) (t := ((p + 2 + B.lenC : Nat) : Int)) (by simp [insB]; omega) (by decide)).append (hB _ _ (p + 1) okB (by omega))).append
          ((InsAll.one (m := m) (o := 7) (a := 0) (b := 0) (t := ((p + 2 + B.lenC + E.lenC : Nat) : Int)) (by simp [insB]; omega) (by decide)).append (hE _ _ (p + 2 + B.lenC) okE (by omega)))
        rw [show 1 + B.lenC + (1 + E.lenC) = 2 + B.lenC + E.lenC from by omega] at a
        exact a
      · rw [if_neg h6] at hh hp ⊢
        rw [if_neg h6]
        by_cases h7 : k = 7
        · rw [if_pos h7] at hh hp ⊢
          rw [if_pos h7]
          have hx := of_decide_eq_true hh
          have a := ((InsAll.one (m := m) (o := 6) (a := x) (b := 0) (t := ((p + 2 + B.lenC : Nat) : Int)) (by simp [insB]; omega) (by decide)).append (hB _ _ (p + 1) okB (by omega))).append
            (InsAll.one (m := m) (o := 7) (a := 0) (b := 0) (t := (p : Int)) (by simp [insB]; omega) (by decide))
          rw [show 1 + B.lenC + 1 = 2 + B.lenC from by omega] at a
          exact a
        · rw [if_neg h7] at hh hp ⊢
          rw [if_neg h7]
          by_cases h8 : k = 8
          · rw [if_pos h8] at hh hp ⊢
            rw [if_pos h8]
            have hx := of_decide_eq_true hh
            have a := ((InsAll.one (m := m) (o := 8) (a := x) (b := 0) (t := 0) (by simp [insB]; omega) (by decide)).append (hB _ _ (p + 1) okB (by omega))).append
              (InsAll.one (m := m) (o := 9) (a := x) (b := 0) (t := 0) (by simp [insB]; omega) (by decide))
            rw [show 1 + B.lenC + 1 = 2 + B.lenC from by omega] at a
            exact a
          · rw [if_neg h8] at hh ⊢
            rw [if_neg h8]
            rw [Bool.and_eq_true] at hh
            exact leaf_ins hh.2
    rw [codeL_cons, lenC_cons]
    exact fst.append (hR _ _ _ hok.2 (by omega))

theorem code_right {L : SL} (h : okL L 3 (-1) = true) (h14 : L.size ≤ 14) : Right (codeP L) (L.lenC + 1) := by
  have hl := lenC_le L
  have a := code_ins (L.lenC + 1) L 3 (-1) 0 h (by omega)
  have l := codeL_len L 0
  have e : ∀ (P : Int → Int → Int → Int → Prop), P 13 0 0 0 → P (opC (codeP L) L.lenC) (aC (codeP L) L.lenC) (bC (codeP L) L.lenC) (toC (codeP L) L.lenC) := fun P hP => by
    have e0 := opC_right (Y := [13, 0, 0, 0]) (i := 0) l
    have e1 := aC_right (Y := [13, 0, 0, 0]) (i := 0) l
    have e2 := bC_right (Y := [13, 0, 0, 0]) (i := 0) l
    have e3 := toC_right (Y := [13, 0, 0, 0]) (i := 0) l
    rw [Nat.add_zero] at e0 e1 e2 e3
    show P (opC (codeL L 0 ++ _) _) (aC (codeL L 0 ++ _) _) (bC (codeL L 0 ++ _) _) (toC (codeL L 0 ++ _) _)
    rw [e0, e1, e2, e3]; exact hP
  refine ⟨codeP_len L, by omega, by omega, fun i hi => ?_, fun i hi => ?_⟩
  · by_cases hlt : i < L.lenC
    · have := (a.ins i hlt).1
      unfold codeP
      rw [opC_left l hlt, aC_left l hlt, bC_left l hlt, toC_left l hlt]; exact this
    · obtain rfl : i = L.lenC := by omega
      exact e (fun o x y t => insB o x y t (L.lenC + 1) = true) (by simp [insB])
  · by_cases hlt : i < L.lenC
    · have := (a.ins i hlt).2
      unfold codeP
      rw [opC_left l hlt]
      exact ⟨fun h => absurd h this, fun h => by omega⟩
    · obtain rfl : i = L.lenC := by omega
      exact ⟨fun _ => rfl, fun _ => e (fun o _ _ _ => o = 13) rfl⟩
end Go.Proofs.YtlmgbpbiljnohaaGreatDoor

/- Code of what is right has rooms that fit: as plain data. -/
namespace Go.Proofs.YtlmgbpbiljnohaaGreatDoor

/-- Code of n instructions from place p on, come to in room r and left in it behind its last one: its places have rooms that fit. -/
def RoomP (p n : Nat) (r : Int) (xs : List Int) : Prop :=
  xs.length = n * 4 ∧ ∃ lam : Nat → Int, lam p = r ∧ lam (p + n) = r ∧ ∀ i, i < n → ∃ r', heldO (opC xs i) (aC xs i) (lam (p + i)) = some r' ∧ ∀ j ∈ nextO (opC xs i) (toC xs i) (p + i), lam j = r' ∧ p ≤ j ∧ j ≤ p + n

theorem RoomP.nil (p : Nat) (r : Int) : RoomP p 0 r [] := ⟨rfl, fun _ => r, rfl, rfl, fun i hi => by omega⟩
theorem RoomP.append {p a b : Nat} {r : Int} {X Y : List Int} (hX : RoomP p a r X) (hY : RoomP (p + a) b r Y) : RoomP p (a + b) r (X ++ Y) := by
  obtain ⟨l, f, f0, f1, fs⟩ := hX
  obtain ⟨l', g, g0, g1, gs⟩ := hY
  refine ⟨by rw [List.length_append, l, l']; omega, fun i => if i < p + a then f i else g i, ?_, ?_, fun i hi => ?_⟩
  · by_cases h : p < p + a
    · show (if _ then _ else _) = _
      rw [if_pos h]; exact f0
    · show (if _ then _ else _) = _
      rw [if_neg h]
      obtain rfl : a = 0 := by omega
      exact g0
  · show (if _ then _ else _) = _
    rw [if_neg (by omega), ← Nat.add_assoc]; exact g1
  · by_cases h : i < a
    · obtain ⟨r', h1, h2⟩ := fs i h
      refine ⟨r', ?_, fun j hj => ?_⟩
      · show heldO _ _ (if _ then _ else _) = _
        rw [if_pos (by omega), opC_left l h, aC_left l h]; exact h1
      · rw [opC_left l h, toC_left l h] at hj
        obtain ⟨q1, q2, q3⟩ := h2 j hj
        refine ⟨?_, q2, by omega⟩
        show (if _ then _ else _) = _
        by_cases e : j < p + a
        · rw [if_pos e]; exact q1
        · obtain rfl : j = p + a := by omega
          rw [if_neg e, g0, ← q1, f1]
    · obtain ⟨q, rfl⟩ : ∃ q, i = a + q := ⟨i - a, by omega⟩
      obtain ⟨r', h1, h2⟩ := gs q (by omega)
      refine ⟨r', ?_, fun j hj => ?_⟩
      · show heldO _ _ (if _ then _ else _) = _
        rw [if_neg (by omega), opC_right l, aC_right l, ← Nat.add_assoc]; exact h1
      · rw [opC_right l, toC_right l, ← Nat.add_assoc] at hj
        obtain ⟨q1, q2, q3⟩ := h2 j hj
        refine ⟨?_, by omega, by omega⟩
        show (if _ then _ else _) = _
        rw [if_neg (by omega)]; exact q1

/-- One instruction that passes its room on. -/
theorem RoomP.one (p : Nat) (r o a b t : Int) (hh : heldO o a r = some r) (hn : nextO o t p = [p + 1]) : RoomP p 1 r [o, a, b, t] := by
  refine ⟨rfl, fun _ => r, rfl, rfl, fun i hi => ?_⟩
  obtain rfl : i = 0 := by omega
  refine ⟨r, hh, fun j hj => ?_⟩
  have : j ∈ nextO o t p := hj
  rw [hn] at this
  simp at this
  subst this
  exact ⟨rfl, by omega, by omega⟩

/-- All places of one room: code whose instructions pass it on, each going no further than its end. -/
theorem RoomP.wrap {p b m : Nat} {r : Int} {X : List Int} (hX : RoomP (p + 1) b r X) (x : Int) (t : Nat) {Y : List Int} {c : Nat} (hY : RoomP (p + 2 + b) c r Y) (ht : p ≤ t ∧ t ≤ p + 2 + b + c) (htr : t = p ∨ t = p + 2 + b + c) (hm : m = 2 + b + c) :
    RoomP p m r ([6, x, 0, ((p + 2 + b : Nat) : Int)] ++ X ++ ([7, 0, 0, (t : Int)] ++ Y)) := by
  subst hm
  obtain ⟨l, f, f0, f1, fs⟩ := hX
  obtain ⟨l', g, g0, g1, gs⟩ := hY
  have l1 : ([6, x, 0, ((p + 2 + b : Nat) : Int)] : List Int).length = 1 * 4 := rfl
  have l2 : ([6, x, 0, ((p + 2 + b : Nat) : Int)] ++ X).length = (1 + b) * 4 := by rw [List.length_append, l, l1]; omega
  have l3 : ([7, 0, 0, (t : Int)] : List Int).length = 1 * 4 := rfl
  let lam : Nat → Int := fun i => if i = p then r else if i < p + 2 + b then f i else g i
  have lamp : lam p = r := if_pos rfl
  have lamf : ∀ i, p < i → i < p + 2 + b → lam i = f i := fun i h1 h2 => by
    show (if _ then _ else if _ then _ else _) = _
    rw [if_neg (by omega), if_pos h2]
  have lamg : ∀ i, p + 2 + b ≤ i → lam i = g i := fun i h => by
    show (if _ then _ else if _ then _ else _) = _
    rw [if_neg (by omega), if_neg (by omega)]
  have lame : lam (p + (2 + b + c)) = r := by rw [lamg _ (by omega), show p + (2 + b + c) = p + 2 + b + c from by omega]; exact g1
  have laml : lam (p + 1 + b) = r := by rw [lamf _ (by omega) (by omega)]; exact f1
  refine ⟨by rw [List.length_append, l2, List.length_append, l3, l']; omega, lam, lamp, lame, fun i hi => ?_⟩
  rcases (by omega : i = 0 ∨ (1 ≤ i ∧ i < 1 + b) ∨ i = 1 + b ∨ (2 + b ≤ i ∧ i < 2 + b + c)) with rfl | h | rfl | h
  · rw [opC_left l2 (by omega), opC_left l1 (by omega), aC_left l2 (by omega), aC_left l1 (by omega), toC_left l2 (by omega), toC_left l1 (by omega)]
    refine ⟨r, by show heldO 6 x (lam p) = some r; rw [lamp]; rfl, fun j hj => ?_⟩
    have hj' : j ∈ [p + 0 + 1, ((p + 2 + b : Nat) : Int).toNat] := hj
    simp only [List.mem_cons, List.not_mem_nil, or_false, Int.toNat_natCast] at hj'
    rcases hj' with rfl | rfl
    · refine ⟨?_, by omega, by omega⟩
      by_cases hb : b = 0
      · subst hb; exact laml
      · rw [lamf _ (by omega) (by omega)]; exact f0
    · exact ⟨by rw [lamg _ (by omega)]; exact g0, by omega, by omega⟩
  · obtain ⟨q, rfl⟩ : ∃ q, i = 1 + q := ⟨i - 1, by omega⟩
    rw [opC_left l2 (by omega), opC_right l1, aC_left l2 (by omega), aC_right l1, toC_left l2 (by omega), toC_right l1]
    obtain ⟨r', h1, h2⟩ := fs q (by omega)
    refine ⟨r', by rw [lamf _ (by omega) (by omega), ← Nat.add_assoc]; exact h1, fun j hj => ?_⟩
    rw [← Nat.add_assoc] at hj
    obtain ⟨q1, q2, q3⟩ := h2 j hj
    exact ⟨by rw [lamf _ (by omega) (by omega)]; exact q1, by omega, by omega⟩
  · have eo := (opC_right (X := [6, x, 0, ((p + 2 + b : Nat) : Int)] ++ X) (Y := [7, 0, 0, (t : Int)] ++ Y) (i := 0) l2)
    have ea := (aC_right (X := [6, x, 0, ((p + 2 + b : Nat) : Int)] ++ X) (Y := [7, 0, 0, (t : Int)] ++ Y) (i := 0) l2)
    have et := (toC_right (X := [6, x, 0, ((p + 2 + b : Nat) : Int)] ++ X) (Y := [7, 0, 0, (t : Int)] ++ Y) (i := 0) l2)
    rw [show 1 + b + 0 = 1 + b from rfl] at eo ea et
    rw [eo, ea, et]
    refine ⟨r, by rw [← Nat.add_assoc, laml]; rfl, fun j hj => ?_⟩
    have hj' : j ∈ [(t : Int).toNat] := hj
    simp only [List.mem_cons, List.not_mem_nil, or_false, Int.toNat_natCast] at hj'
    subst hj'
    refine ⟨?_, by omega, by omega⟩
    rcases htr with rfl | e
    · exact lamp
    · rw [e, show p + 2 + b + c = p + (2 + b + c) from by omega]; exact lame
  · obtain ⟨q, rfl⟩ : ∃ q, i = 1 + b + (1 + q) := ⟨i - (2 + b), by omega⟩
    rw [opC_right l2, opC_right l3, aC_right l2, aC_right l3, toC_right l2, toC_right l3]
    obtain ⟨r', h1, h2⟩ := gs q (by omega)
    refine ⟨r', by rw [lamg _ (by omega), show p + (1 + b + (1 + q)) = p + 2 + b + q from by omega]; exact h1, fun j hj => ?_⟩
    rw [show p + (1 + b + (1 + q)) = p + 2 + b + q from by omega] at hj
    obtain ⟨q1, q2, q3⟩ := h2 j hj
    exact ⟨by rw [lamg _ (by omega)]; exact q1, by omega, by omega⟩

/-- A room entered, code in it, and left. -/
theorem RoomP.inside {p b : Nat} {x : Int} {X : List Int} (hX : RoomP (p + 1) b x X) : RoomP p (2 + b) (-1) ([8, x, 0, 0] ++ X ++ [9, x, 0, 0]) := by
  obtain ⟨l, f, f0, f1, fs⟩ := hX
  have l1 : ([8, x, 0, 0] : List Int).length = 1 * 4 := rfl
  have l2 : ([8, x, 0, 0] ++ X).length = (1 + b) * 4 := by rw [List.length_append, l, l1]; omega
  let lam : Nat → Int := fun i => if i = p then -1 else if i < p + 2 + b then f i else -1
  have lamp : lam p = -1 := if_pos rfl
  have lamf : ∀ i, p < i → i < p + 2 + b → lam i = f i := fun i h1 h2 => by
    show (if _ then _ else if _ then _ else _) = _
    rw [if_neg (by omega), if_pos h2]
  have lame : lam (p + (2 + b)) = -1 := by
    show (if _ then _ else if _ then _ else _) = _
    rw [if_neg (by omega), if_neg (by omega)]
  refine ⟨by rw [List.length_append, l2]; simp; omega, lam, lamp, lame, fun i hi => ?_⟩
  rcases (by omega : i = 0 ∨ (1 ≤ i ∧ i < 1 + b) ∨ i = 1 + b) with rfl | h | rfl
  · rw [opC_left l2 (by omega), opC_left l1 (by omega), aC_left l2 (by omega), aC_left l1 (by omega), toC_left l2 (by omega), toC_left l1 (by omega)]
    refine ⟨x, by show heldO 8 x (lam p) = some x; rw [lamp]; rfl, fun j hj => ?_⟩
    have hj' : j ∈ [p + 0 + 1] := hj
    simp only [List.mem_cons, List.not_mem_nil, or_false] at hj'
    subst hj'
    exact ⟨by rw [lamf _ (by omega) (by omega)]; exact f0, by omega, by omega⟩
  · obtain ⟨q, rfl⟩ : ∃ q, i = 1 + q := ⟨i - 1, by omega⟩
    rw [opC_left l2 (by omega), opC_right l1, aC_left l2 (by omega), aC_right l1, toC_left l2 (by omega), toC_right l1]
    obtain ⟨r', h1, h2⟩ := fs q (by omega)
    refine ⟨r', by rw [lamf _ (by omega) (by omega), ← Nat.add_assoc]; exact h1, fun j hj => ?_⟩
    rw [← Nat.add_assoc] at hj
    obtain ⟨q1, q2, q3⟩ := h2 j hj
    exact ⟨by rw [lamf _ (by omega) (by omega)]; exact q1, by omega, by omega⟩
  · have eo := (opC_right (X := [8, x, 0, 0] ++ X) (Y := [9, x, 0, 0]) (i := 0) l2)
    have ea := (aC_right (X := [8, x, 0, 0] ++ X) (Y := [9, x, 0, 0]) (i := 0) l2)
    have et := (toC_right (X := [8, x, 0, 0] ++ X) (Y := [9, x, 0, 0]) (i := 0) l2)
    rw [show 1 + b + 0 = 1 + b from rfl] at eo ea et
    rw [eo, ea, et]
    refine ⟨-1, ?_, fun j hj => ?_⟩
    · rw [← Nat.add_assoc, lamf _ (by omega) (by omega), f1]
      show heldO 9 x x = some (-1)
      unfold heldO
      rw [if_neg (by decide), if_pos rfl, if_pos rfl]
    · have hj' : j ∈ [p + (1 + b) + 1] := hj
      simp only [List.mem_cons, List.not_mem_nil, or_false] at hj'
      subst hj'
      exact ⟨by rw [show p + (1 + b) + 1 = p + (2 + b) from by omega]; exact lame, by omega, by omega⟩

theorem leaf_room {k x y n r : Int} (p : Nat) (h : leafB k x y n r = true) : RoomP p 1 r (leafC k x y n) := by
  have hk : k = 1 ∨ k = 2 ∨ k = 3 ∨ k = 4 ∨ k = 5 ∨ k = 9 ∨ k = 10 ∨ k = 11 ∨ (k ≠ 1 ∧ k ≠ 2 ∧ k ≠ 3 ∧ k ≠ 4 ∧ k ≠ 5 ∧ k ≠ 9 ∧ k ≠ 10 ∧ k ≠ 11) := by omega
  rcases hk with rfl | rfl | rfl | rfl | rfl | rfl | rfl | rfl | ⟨h1, h2, h3, h4, h5, h9, h10, h11⟩
  · exact RoomP.one p r 1 x y n rfl rfl
  · exact RoomP.one p r 2 x y n rfl rfl
  · exact RoomP.one p r 3 x y n rfl rfl
  · exact RoomP.one p r 4 x y n rfl rfl
  · exact RoomP.one p r 5 x y n rfl rfl
  · have hr : ¬ r = -1 := by simp [leafB] at h; omega
    exact RoomP.one p r 10 x 0 0 (by unfold heldO; rw [if_neg (by decide), if_neg (by decide), if_pos rfl, if_neg hr]) rfl
  · exact RoomP.one p r 11 x 0 0 rfl rfl
  · exact RoomP.one p r 12 0 0 0 rfl rfl
  · simp [leafB, h1, h2, h3, h4, h5, h9, h10, h11] at h

theorem code_rooms (L : SL) : ∀ (d r : Int) (p : Nat), -1 ≤ r → okL L d r = true → RoomP p L.lenC r (codeL L p) := by
  induction L with
  | nil => intro d r p _ _; exact RoomP.nil p r
  | cons k x y n B E R hB hE hR =>
    intro d r p hr hok
    rw [okL_cons, Bool.and_eq_true] at hok
    obtain ⟨hh, okB, okE⟩ := okS_parts hok.1
    have hd := headB_one hh
    have fst : RoomP p (lenS k B E) r (codeS k x y n B E p) := by
      unfold headB at hh
      rw [decide_eq_true hd, Bool.true_and] at hh
      unfold codeS lenS
      by_cases h6 : k = 6
      · rw [if_pos h6, if_pos h6]
        have e : inR k x r = r := by unfold inR; rw [if_neg (by omega)]
        rw [e] at okB okE
        exact RoomP.wrap (hB _ _ (p + 1) hr okB) x (p + 2 + B.lenC + E.lenC) (hE _ _ (p + 2 + B.lenC) hr okE) (by omega) (.inr rfl) rfl
      · rw [if_neg h6] at hh
        rw [if_neg h6, if_neg h6]
        by_cases h7 : k = 7
        · rw [if_pos h7, if_pos h7]
          have e : inR k x r = r := by unfold inR; rw [if_neg (by omega)]
          rw [e] at okB
          exact RoomP.wrap (hB _ _ (p + 1) hr okB) x p (RoomP.nil (p + 2 + B.lenC) r) (by omega) (.inl rfl) (by omega)
        · rw [if_neg h7] at hh
          rw [if_neg h7, if_neg h7]
          by_cases h8 : k = 8
          · rw [if_pos h8] at hh
            rw [if_pos h8, if_pos h8]
            have hx := of_decide_eq_true hh
            have e : inR k x r = x := by unfold inR; rw [if_pos h8]
            rw [e] at okB
            obtain rfl : r = -1 := by omega
            exact RoomP.inside (hB _ _ (p + 1) (by omega) okB)
          · rw [if_neg h8] at hh
            rw [if_neg h8, if_neg h8]
            rw [Bool.and_eq_true] at hh
            exact leaf_room p hh.2
    rw [codeL_cons, lenC_cons]
    exact fst.append (hR _ _ _ hr hok.2)

/-- Code of what is right is right. -/
theorem code_ok {L : SL} (h : okL L 3 (-1) = true) (h14 : L.size ≤ 14) : codeB (codeP L) (L.lenC + 1) = true := by
  rw [codeB_right (code_right h h14)]
  obtain ⟨l, lam, f0, f1, fs⟩ := code_rooms L 3 (-1) 0 (by omega) h
  rw [Nat.zero_add] at f1
  refine roomsB_true (ρ := fun i => some (lam i)) ⟨by rw [f0], fun i r hi hρ => ?_⟩
  injection hρ with hρ
  subst hρ
  by_cases hlt : i < L.lenC
  · obtain ⟨r', h1, h2⟩ := fs i hlt
    rw [Nat.zero_add] at h1 h2
    refine ⟨r', ?_, fun j hj => ?_⟩
    · unfold heldX codeP
      rw [opC_left l hlt, aC_left l hlt]; exact h1
    · unfold nextX codeP at hj
      rw [opC_left l hlt, toC_left l hlt] at hj
      rw [(h2 j hj).1]
  · obtain rfl : i = L.lenC := by omega
    have e0 : opC (codeP L) L.lenC = 13 := (opC_right (Y := [13, 0, 0, 0]) (i := 0) l).trans rfl
    refine ⟨-1, ?_, fun j hj => ?_⟩
    · unfold heldX
      rw [e0, f1]
      unfold heldO
      rw [if_neg (by decide), if_neg (by decide), if_neg (by decide), if_pos rfl, if_pos rfl]
    · unfold nextX at hj
      rw [e0] at hj
      exact absurd hj (by unfold nextO; rw [if_neg (by decide), if_neg (by decide), if_pos rfl]; simp)
end Go.Proofs.YtlmgbpbiljnohaaGreatDoor

/- Where the jumps of the code of a process go. -/
namespace Go.Proofs.YtlmgbpbiljnohaaGreatDoor

theorem codeX_ok {L : SL} {i : Nat} (h : i < codeN L) : codeN L = L.lenC + 1 ∧ codeX L = codeP L := by
  unfold codeN codeX at *
  cases hb : okP L
  · rw [hb] at h; simp at h
  · exact ⟨rfl, rfl⟩
theorem codeP_op (L : SL) {i : Nat} (h : i < L.lenC) : opC (codeP L) i = opC (codeL L 0) i ∧ toC (codeP L) i = toC (codeL L 0) i := ⟨opC_left (codeL_len L 0) h, toC_left (codeL_len L 0) h⟩
theorem codeP_end (L : SL) : opC (codeP L) L.lenC = 13 := (opC_right (Y := [13, 0, 0, 0]) (i := 0) (codeL_len L 0)).trans rfl
theorem skipX (L : SL) : ∀ i, i < codeN L → opC (codeX L) i = 6 → ∃ j : Nat, toC (codeX L) i = ((j + 1 : Nat) : Int) ∧ i ≤ j ∧ j + 1 < codeN L ∧ opC (codeX L) j = 7 := by
  intro i hi ho
  obtain ⟨e1, e2⟩ := codeX_ok hi
  rw [e2] at ho ⊢
  rw [e1] at hi ⊢
  by_cases h : i < L.lenC
  · obtain ⟨p1, p2⟩ := codeP_op L h
    rw [p1] at ho
    obtain ⟨j, q1, q2, q3, q4⟩ := (JP.code L 0).skip i h ho
    exact ⟨j, by rw [p2, q1, Nat.zero_add], q2, by omega, by rw [(codeP_op L q3).1]; exact q4⟩
  · obtain rfl : i = L.lenC := by omega
    rw [codeP_end] at ho; cases ho
theorem jumpX (L : SL) : ∀ i, i < codeN L → opC (codeX L) i = 7 → (∃ j : Nat, toC (codeX L) i = (j : Int) ∧ i < j ∧ j < codeN L) ∨ ∃ j : Nat, toC (codeX L) i = (j : Int) ∧ j < i ∧ opC (codeX L) j = 6 := by
  intro i hi ho
  obtain ⟨e1, e2⟩ := codeX_ok hi
  rw [e2] at ho ⊢
  rw [e1] at hi ⊢
  by_cases h : i < L.lenC
  · obtain ⟨p1, p2⟩ := codeP_op L h
    rw [p1] at ho
    rcases (JP.code L 0).jump i h ho with ⟨j, q1, q2, q3⟩ | ⟨j, q1, q2, q3⟩
    · exact .inl ⟨j, by rw [p2, q1, Nat.zero_add], q2, by omega⟩
    · exact .inr ⟨j, by rw [p2, q1, Nat.zero_add], q2, by rw [(codeP_op L (by omega)).1]; exact q3⟩
  · obtain rfl : i = L.lenC := by omega
    rw [codeP_end] at ho; cases ho
theorem cntX (L : SL) : cntC 6 (codeX L) = cntC 7 (codeX L) := by
  unfold codeX
  cases okP L
  · rfl
  · exact cnt_whole L
end Go.Proofs.YtlmgbpbiljnohaaGreatDoor

/- The first of a list, and the rest. -/
namespace Go.Proofs.YtlmgbpbiljnohaaGreatDoor
open Go.ChangeShapes Go.WideShapes Go.ChangeAt Go.RowKit

theorem okL_take {L : SL} {d r : Int} (h : okL L d r = true) (i : Nat) : okL (L.take i) d r = true := by
  induction L generalizing i with
  | nil => cases i <;> rfl
  | cons k x y n B E R _ _ ih => cases i with
    | zero => rfl
    | succ i =>
      rw [okL_cons, Bool.and_eq_true] at h
      rw [SL.take, okL_cons, h.1, ih h.2 i]; rfl
theorem okL_drop {L : SL} {d r : Int} (h : okL L d r = true) (i : Nat) : okL (L.drop i) d r = true := by
  induction L generalizing i with
  | nil => cases i <;> rfl
  | cons k x y n B E R _ _ ih => cases i with
    | zero => rw [SL.drop_zero]; exact h
    | succ i =>
      rw [okL_cons, Bool.and_eq_true] at h
      rw [SL.drop]; exact ih h.2 i
theorem okP_both {L : SL} (h : okP L = true) (i : Nat) : okP (L.take i) = true ∧ okP (L.drop i) = true := by
  unfold okP at h ⊢
  rw [Bool.and_eq_true] at h
  have h1 := of_decide_eq_true h.1
  have h2 := L.take_drop_size i
  exact ⟨by rw [Bool.and_eq_true]; exact ⟨decide_eq_true (by omega), okL_take h.2 i⟩, by rw [Bool.and_eq_true]; exact ⟨decide_eq_true (by omega), okL_drop h.2 i⟩⟩
theorem okP_parts {L : SL} (h : okP L = true) : L.size ≤ 14 ∧ okL L 3 (-1) = true := by
  unfold okP at h
  rw [Bool.and_eq_true] at h
  exact ⟨of_decide_eq_true h.1, h.2⟩
end Go.Proofs.YtlmgbpbiljnohaaGreatDoor

/- The code of a process that is two lists, one behind the other. -/
namespace Go.Proofs.YtlmgbpbiljnohaaGreatDoor

theorem codeX_of {L : SL} (h : okP L = true) : codeN L = L.lenC + 1 ∧ codeX L = codeP L := by
  unfold codeN codeX
  rw [h]
  exact ⟨rfl, rfl⟩

structure BothX (m mT mD : Nat) (xs ys zs : List Int) : Prop where
  many : m + 1 = mT + mD
  one : 1 ≤ mT
  left : ∀ k r, k + 1 < mT → r < 4 → xs.getD (k * 4 + r) 0 = ys.getD (k * 4 + r) 0
  right : ∀ k, k < m → mT ≤ k + 1 → xs.getD (k * 4) 0 = zs.getD ((k + 1 - mT) * 4) 0 ∧ xs.getD (k * 4 + 1) 0 = zs.getD ((k + 1 - mT) * 4 + 1) 0 ∧ xs.getD (k * 4 + 2) 0 = zs.getD ((k + 1 - mT) * 4 + 2) 0 ∧
    xs.getD (k * 4 + 3) 0 = (if zs.getD ((k + 1 - mT) * 4) 0 = 6 ∨ zs.getD ((k + 1 - mT) * 4) 0 = 7 then zs.getD ((k + 1 - mT) * 4 + 3) 0 + ((mT : Int) - 1) else zs.getD ((k + 1 - mT) * 4 + 3) 0)
  small : ∀ j, j < mD → zs.getD (j * 4) 0 = 6 ∨ zs.getD (j * 4) 0 = 7 → 0 ≤ zs.getD (j * 4 + 3) 0 ∧ zs.getD (j * 4 + 3) 0 ≤ 29

theorem bothX {L : SL} (h : okP L = true) (q : Nat) : BothX (codeN L) (codeN (L.take q)) (codeN (L.drop q)) (codeX L) (codeX (L.take q)) (codeX (L.drop q)) := by
  obtain ⟨hT, hD⟩ := okP_both h q
  obtain ⟨l1, l2⟩ := codeX_of h
  obtain ⟨t1, t2⟩ := codeX_of hT
  obtain ⟨d1, d2⟩ := codeX_of hD
  have hs := (code_split L q 0).2
  have lT := codeL_len (L.take q) 0
  refine ⟨by omega, by omega, fun k r hk hr => ?_, fun k hk h1 => ?_, fun j hj ho => ?_⟩
  · rw [l2, t2, codeP_split L q]
    unfold codeP
    rw [getD_left _ _ _ (by omega), getD_left _ _ _ (by omega)]
  · obtain ⟨j, rfl⟩ : ∃ j, k = (L.take q).lenC + j := ⟨k - (L.take q).lenC, by omega⟩
    have e : (L.take q).lenC + j + 1 - codeN (L.take q) = j := by omega
    have em : ((codeN (L.take q) : Nat) : Int) - 1 = ((L.take q).lenC : Int) := by omega
    rw [e, em, l2, d2, codeP_split L q]
    have g := moved_get (L.take q).lenC _ _ (codeP_len (L.drop q)) j (by omega)
    rw [getD_right _ _ _ (by omega), getD_right _ _ _ (by omega), getD_right _ _ _ (by omega), getD_right _ _ _ (by omega), lT,
      show ((L.take q).lenC + j) * 4 - (L.take q).lenC * 4 = j * 4 from by omega, show ((L.take q).lenC + j) * 4 + 1 - (L.take q).lenC * 4 = j * 4 + 1 from by omega,
      show ((L.take q).lenC + j) * 4 + 2 - (L.take q).lenC * 4 = j * 4 + 2 from by omega, show ((L.take q).lenC + j) * 4 + 3 - (L.take q).lenC * 4 = j * 4 + 3 from by omega]
    exact g
  · have h29 := codeN_le (L.drop q)
    rcases ho with ho | ho
    · obtain ⟨i, e, _, _, _⟩ := skipX (L.drop q) j hj ho
      have : toC (codeX (L.drop q)) j = (codeX (L.drop q)).getD (j * 4 + 3) 0 := rfl
      rw [← this, e]; omega
    · have : toC (codeX (L.drop q)) j = (codeX (L.drop q)).getD (j * 4 + 3) 0 := rfl
      rw [← this]
      rcases jumpX (L.drop q) j hj ho with ⟨i, e, _, _⟩ | ⟨i, e, _, _⟩ <;> rw [e] <;> omega
end Go.Proofs.YtlmgbpbiljnohaaGreatDoor

/- Code of what is right: how long it is, that it passes, and what a room's is like. -/
namespace Go.Proofs.YtlmgbpbiljnohaaGreatDoor

theorem size_le_lenC (L : SL) : ∀ d r : Int, okL L d r = true → L.size ≤ L.lenC := by
  induction L with
  | nil => intro d r _; exact Nat.le_refl _
  | cons k x y n B E R hB hE hR =>
    intro d r hok
    rw [okL_cons, Bool.and_eq_true] at hok
    obtain ⟨hh, okB, okE⟩ := okS_parts hok.1
    have h1 := hB _ _ okB
    have h2 := hE _ _ okE
    have h3 := hR _ _ hok.2
    have hd := headB_one hh
    rw [lenC_cons]
    simp only [SL.size]
    unfold headB at hh
    rw [decide_eq_true hd, Bool.true_and] at hh
    unfold lenS
    by_cases h6 : k = 6
    · rw [if_pos h6]; omega
    · rw [if_neg h6] at hh ⊢
      by_cases h7 : k = 7
      · rw [if_pos h7] at hh ⊢
        have hx := of_decide_eq_true hh
        rw [SL.nil_of_len hx.1]; simp only [SL.size]; omega
      · rw [if_neg h7] at hh ⊢
        by_cases h8 : k = 8
        · rw [if_pos h8] at hh ⊢
          have hx := of_decide_eq_true hh
          rw [SL.nil_of_len hx.1]; simp only [SL.size]; omega
        · rw [if_neg h8] at hh ⊢
          rw [Bool.and_eq_true] at hh
          have hx := of_decide_eq_true hh.1
          rw [SL.nil_of_len hx.1, SL.nil_of_len hx.2]; simp only [SL.size]; omega

theorem code_pass {L : SL} (h : okP L = true) : codeB (codeX L) (codeN L) = true := by
  obtain ⟨e1, e2⟩ := codeX_of h
  rw [e1, e2]
  exact code_ok (okP_parts h).2 (okP_parts h).1

theorem codeN_many {L : SL} (h : okP L = true) : L.size + 1 ≤ codeN L ∧ codeN L ≤ 2 * L.size + 1 := by
  obtain ⟨e1, _⟩ := codeX_of h
  have h1 := size_le_lenC L 3 (-1) (okP_parts h).2
  have h2 := lenC_le L
  rw [e1]; omega

/-- One alone. -/
theorem drop_one {L : SL} {i : Nat} {k x y n : Int} {B E R : SL} (h : L.drop i = .cons k x y n B E R) : (L.drop i).take 1 = .cons k x y n B E .nil := by
  rw [h]
  show SL.cons k x y n B E (R.take 0) = _
  cases R <;> rfl

/-- The code of a room alone. -/
theorem room_code {x y n : Int} {B E : SL} (h : okP (.cons 8 x y n B E .nil) = true) : ∃ m, codeN (.cons 8 x y n B E .nil) = m + 3 ∧ (codeX (.cons 8 x y n B E .nil)).getD (0 * 4) 0 = 8 ∧ (codeX (.cons 8 x y n B E .nil)).getD (0 * 4 + 1) 0 = x ∧ (codeX (.cons 8 x y n B E .nil)).getD ((m + 1) * 4) 0 = 9 := by
  obtain ⟨e1, e2⟩ := codeX_of h
  refine ⟨B.lenC, by rw [e1]; simp [SL.lenC]; omega, ?_, ?_, ?_⟩
  · rw [e2]; rfl
  · rw [e2]; rfl
  · rw [e2]
    have hl := codeL_len B 1
    show ((codeS 8 x y n B E 0 ++ codeL .nil _) ++ [13, 0, 0, 0]).getD _ 0 = 9
    rw [codeL_nil, List.append_nil]
    show (([8, x, 0, 0] ++ codeL B (0 + 1) ++ [9, x, 0, 0]) ++ [13, 0, 0, 0]).getD _ 0 = 9
    rw [getD_left _ _ _ (by simp [hl]; omega), getD_right _ _ _ (by simp [hl]; omega)]
    simp only [List.length_append, hl, List.length_cons, List.length_nil]
    rw [show (B.lenC + 1) * 4 - (0 + 1 + 1 + 1 + 1 + B.lenC * 4) = 0 from by omega]
    rfl
end Go.Proofs.YtlmgbpbiljnohaaGreatDoor

/- CodeOk of the program. -/
namespace Go.Proofs.YtlmgbpbiljnohaaGreatDoor
open Go.ChangeShapes Go.WideShapes Go.ChangeAt Go.RowKit

set_option maxRecDepth 100000 in
set_option maxHeartbeats 4000000 in
theorem codeOk {xs : List Int} {A : Option Addr} {n c : Nat} {S : Nat → Prop} {w : World} (hs : Fl w S 4 xs A n c) :
    Calls Tryz.prog 9 #[.slice A n c] w fun e w' => e = .returned (.bool (codeB xs n)) ∧ Below w.heap.size w w' := by
  have hmax : n ≤ 9223372036854775807 := by have := hs.le; have := hs.top; unfold maxLen at this; omega
  by_cases hn : 1 ≤ n ∧ n ≤ 60
  · obtain ⟨hn1, hn60⟩ := hn
    have HL := Lib.hid hs.len
    go_enter Tryz.func9, Tryz.ntmps9
    go_wp2_with fail
    refine (formsOf n w).mono ?_
    rintro e w1 ⟨⟨g, b, rfl, hg, hbb, hf⟩, hb1⟩
    have HF := Lib.hid hf
    have z1 := hb1.size
    have hgl : g < w1.heap.size := (Array.getElem?_eq_some_iff.1 hf.1).1
    clear hf
    go_wp2_with fail
    go_loopw [19] (fun i wr => ∃ k : Nat, k ≤ n ∧ i = .int .i64 k ∧ (∀ j, j < k → insB (opC xs j) (aC xs j) (bC xs j) (toC xs j) n = true ∧ (opC xs j = 13 ↔ j + 1 = n)) ∧ Below w1.heap.size w1 wr) (fun i _ => n - (intOf i).toNat)
    case atStart => exact ⟨0, Nat.zero_le _, rfl, fun j hj => by omega, Below.refl _ _⟩
    case round =>
      obtain ⟨k, hk, rfl, hd, hb⟩ := hrel
      have HD := Lib.hid hd
      have hsz := hb.size
      clear hd
      by_cases hlt : k < n
      · obtain ⟨a, rfl⟩ := hs.some (by omega)
        obtain ⟨c0, c1, c2, c3⟩ := ((hs.later hb1).later hb).four k hlt
        have hin := fun (W : World) (hW : Below wr.heap.size wr W) => fits (xs.getD (k * 4) 0) (xs.getD (k * 4 + 1) 0) (xs.getD (k * 4 + 2) 0) (xs.getD (k * 4 + 3) 0) n g b W ((HF.out.below hb hgl HF.out.2.2).below hW (by omega) (by have := HF.out.2.2; omega))
        have e0 : opC xs k = xs.getD (k * 4) 0 := rfl
        have e1 : insB (opC xs k) (aC xs k) (bC xs k) (toC xs k) n = insB (xs.getD (k * 4) 0) (xs.getD (k * 4 + 1) 0) (xs.getD (k * 4 + 2) 0) (xs.getD (k * 4 + 3) 0) n := rfl
        generalize hbb' : insB (xs.getD (k * 4) 0) (xs.getD (k * 4 + 1) 0) (xs.getD (k * 4 + 2) 0) (xs.getD (k * 4 + 3) 0) n = bb at hin e1
        clear hbb'
        generalize xs.getD (k * 4) 0 = x0 at c0 hin e0
        generalize xs.getD (k * 4 + 1) 0 = x1 at c1 hin
        generalize xs.getD (k * 4 + 2) 0 = x2 at c2 hin
        generalize xs.getD (k * 4 + 3) 0 = x3 at c3 hin
        cases bb
        · have hf : codeB xs n = false := codeB_not hlt (fun h => by rw [e1] at h; cases h.1)
          have HFL := Lib.hid hf
          have HI := Lib.hid hin
          clear hf hin e0 e1
          go_wp2_with fail
          refine (HI.out _ ((Below.refl _ _).alloc (Nat.le_refl _) _)).mono ?_
          rintro e w2 ⟨rfl, hb2⟩
          have b2 : Below wr.heap.size wr w2 := ((Below.refl _ _).alloc (Nat.le_refl _) _).trans (hb2.mono (by simp))
          have d0 : w2.cell? ⟨wr.heap.size, 0, none⟩ = some (.int .i64 x0) := by
            rw [hb2.cell (p := ⟨wr.heap.size, 0, none⟩) (by simp)]
            simp
          have bz : Below w.heap.size w w2 := (hb1.trans (hb.mono (by omega))).trans (b2.mono (by omega))
          have bz1 : Below w1.heap.size w1 w2 := hb.trans (b2.mono hsz)
          clear c0 c1 c2 c3 hb2
          go_wp2_with fail
          go_ret
          exact ⟨by rw [HFL.out]; rfl, bz⟩
        · have HI := Lib.hid hin
          have E1 := Lib.hid e1
          clear hin e1
          by_cases hiff : (opC xs k = 13 ↔ k + 1 = n)
          · have hnn : ∀ j, j < k + 1 → insB (opC xs j) (aC xs j) (bC xs j) (toC xs j) n = true ∧ (opC xs j = 13 ↔ j + 1 = n) := fun j hj => by
              by_cases e : j = k
              · subst e; exact ⟨E1.out, hiff⟩
              · exact HD.out j (by omega)
            have HN := Lib.hid hnn
            have hq : (x0 == 13) = ((k : Int) == (n : Int) - 1) := by
              rw [Bool.eq_iff_iff]
              simp only [beq_iff_eq]
              rw [← e0, hiff]; omega
            generalize hx : (x0 == 13) = p at *
            have hq' : ((k : Int) == (n : Int) - 1) = p := hq.symm
            clear hnn e0 hiff hq
            go_wp2_with fail
            refine (HI.out _ ((Below.refl _ _).alloc (Nat.le_refl _) _)).mono ?_
            rintro e w2 ⟨rfl, hb2⟩
            have b2 : Below wr.heap.size wr w2 := ((Below.refl _ _).alloc (Nat.le_refl _) _).trans (hb2.mono (by simp))
            have d0 : w2.cell? ⟨wr.heap.size, 0, none⟩ = some (.int .i64 x0) := by
              rw [hb2.cell (p := ⟨wr.heap.size, 0, none⟩) (by simp)]
              simp
            have bz : Below w.heap.size w w2 := (hb1.trans (hb.mono (by omega))).trans (b2.mono (by omega))
            have bz1 : Below w1.heap.size w1 w2 := hb.trans (b2.mono hsz)
            clear c0 c1 c2 c3 hb2
            go_wp2_with fail
            go_roundw
            case rel => exact ⟨k + 1, by omega, by go_num, HN.out, bz1⟩
            case measure => simp [intOf]; omega
          · have hf : codeB xs n = false := codeB_not hlt (fun h => hiff h.2)
            have HFL := Lib.hid hf
            have hq : (x0 == 13) = !((k : Int) == (n : Int) - 1) := by
              rw [e0] at hiff
              cases hp : (x0 == 13) <;> cases hp' : ((k : Int) == (n : Int) - 1) <;> simp only [beq_iff_eq, beq_eq_false_iff_ne, ne_eq] at hp hp' <;> first | rfl | (exfalso; apply hiff; constructor <;> intro h <;> omega)
            generalize hx : ((k : Int) == (n : Int) - 1) = p at *
            clear hf e0 hiff
            go_wp2_with fail
            refine (HI.out _ ((Below.refl _ _).alloc (Nat.le_refl _) _)).mono ?_
            rintro e w2 ⟨rfl, hb2⟩
            have b2 : Below wr.heap.size wr w2 := ((Below.refl _ _).alloc (Nat.le_refl _) _).trans (hb2.mono (by simp))
            have d0 : w2.cell? ⟨wr.heap.size, 0, none⟩ = some (.int .i64 x0) := by
              rw [hb2.cell (p := ⟨wr.heap.size, 0, none⟩) (by simp)]
              simp
            have bz : Below w.heap.size w w2 := (hb1.trans (hb.mono (by omega))).trans (b2.mono (by omega))
            have bz1 : Below w1.heap.size w1 w2 := hb.trans (b2.mono hsz)
            clear c0 c1 c2 c3 hb2
            go_wp2_with fail
            go_ret
            exact ⟨by rw [HFL.out]; rfl, bz⟩
      · have hright : Right xs n := ⟨HL.out, hn1, hn60, fun i hi => (HD.out i (by omega)).1, fun i hi => (HD.out i (by omega)).2⟩
        have hc := codeB_right hright
        have hro := hasRooms ((hs.later hb1).later hb) hright (HF.out.below hb hgl HF.out.2.2)
        have HC := Lib.hid hc
        have HRO := Lib.hid hro
        have bw : Below w.heap.size w wr := hb1.trans (hb.mono (by omega))
        clear hc hro hright
        go_wp2_with fail
        refine HRO.out.mono ?_
        rintro e w2 ⟨rfl, hb2⟩
        go_wp2_with fail
        go_ret
        exact ⟨by rw [HC.out]; rfl, bw.trans (hb2.mono (by omega))⟩
  · rw [codeB_few hn]
    have hn' : n < 1 ∨ 60 < n := by omega
    clear hn
    rcases hn' with h | h
    · obtain rfl : n = 0 := by omega
      go_enter Tryz.func9, Tryz.ntmps9
      go_wp2
      go_ret
      exact ⟨rfl, Below.refl _ _⟩
    · go_enter Tryz.func9, Tryz.ntmps9
      go_wp2
      go_ret
      exact ⟨rfl, Below.refl _ _⟩
end Go.Proofs.YtlmgbpbiljnohaaGreatDoor

/- The walk of laws.FnCodeIn. -/
namespace Go.Proofs.YtlmgbpbiljnohaaGreatDoor
open Go.ChangeShapes Go.WideShapes Go.ChangeAt Go.RowKit

theorem okP_one {L : SL} {i : Nat} {k x y n : Int} {B E R : SL} (h : okP L = true) (hd : L.drop i = .cons k x y n B E R) : okP (.cons k x y n B E .nil) = true := by
  have h1 := (okP_both (okP_both h i).2 1).1
  rw [drop_one hd] at h1
  exact h1

theorem wrapIn (x : Int) (h0 : 0 ≤ x) (h1 : x ≤ 9223372036854775807) : IntKind.i64.wrap x = x := by
  rw [IntKind.wrap_i64]
  omega

set_option maxRecDepth 100000 in
set_option maxHeartbeats 4000000 in
theorem wFnCodeIn (A : Option Addr) (n c : Nat) (w : World) (h : Bytes w A n) (hn : n ≤ c) (hc : c ≤ maxLen) (h0 : 0 < w.heap.size) (hop : Ops w) :
    Calls Tryz.prog 3 #[.slice A n c] w fun e w' => e = .returned (.bool true) ∧ Below w.heap.size w w' := by
  have HOP := Lib.hid hop
  clear hop
  by_cases hl : 1048576 < n
  · go_enter Tryz.func3, Tryz.ntmps3
    go_wp2
    go_ret
    exact ⟨rfl, Below.refl _ _⟩
  · go_enter Tryz.func3, Tryz.ntmps3
    go_wp2_with fail
    refine (drawCodeOf A n c _ h hn hc).mono ?_
    rintro e w1 ⟨L, a, c1, rfl, s1, hL, b1⟩
    have z1 := b1.size
    have lL : L.size ≤ 1048576 := by omega
    have s1' : Sl w1 w1.heap.size L (some a) L.len c1 := s1.sl fun b hb => hb.2
    clear s1
    obtain ⟨m, hm⟩ : ∃ m, codeN L = m := ⟨_, rfl⟩
    obtain ⟨xs, hx⟩ : ∃ xs, codeX L = xs := ⟨_, rfl⟩
    have hm29 : m ≤ 29 := hm ▸ codeN_le L
    have hSC := fun (A : Option Addr) (n c M : Nat) (w : World) (hs : Sl w M L A n c) (hM : M ≤ w.heap.size) => specCode hs hM lL
    have hIC := fun (A : Option Addr) (n c M : Nat) (w : World) (hs : Sl w M L A n c) (hM : M ≤ w.heap.size) (h0 : 0 < w.heap.size) (hop : Ops w) => implCode hs hM h0 hop
    rw [hm, hx] at hSC hIC
    have HSC := Lib.hid hSC
    have HIC := Lib.hid hIC
    clear hSC hIC hm hx
    have HST := Lib.hid (fun (W : World) (hs : Sl W W.heap.size L (some a) L.len c1) => specStmtsOk L lL (some a) L.len c1 W.heap.size W hs (Nat.le_refl _))
    go_wp2_with fail
    refine (HIC.out _ _ _ w1.heap.size w1 s1' (Nat.le_refl _) (by omega) (HOP.out.below b1 h0)).mono ?_
    rintro e w2 ⟨vc, rfl, oc2, hb2⟩
    have z2 := hb2.size
    have b2 := b1.trans (hb2.mono z1)
    have s2 := s1'.later hb2 hb2.size
    clear s1' hb2
    obtain ⟨AC, cC, rfl⟩ := own_slice oc2
    go_wp2_with fail
    refine (HSC.out _ _ _ w2.heap.size w2 s2 (Nat.le_refl _)).mono ?_
    rintro e w3 ⟨vw, rfl, ow3, hb3⟩
    have z3 := hb3.size
    have b3 := b2.trans (hb3.mono (by omega))
    have oc3 := own_below oc2 hb3
    have s3 := s2.later hb3 hb3.size
    clear oc2 s2 hb3
    obtain ⟨AW, cW, rfl⟩ := own_slice ow3
    go_wp2_with fail
    refine (codeSame (own_flat oc3) (own_flat ow3)).mono ?_
    rintro e w4 ⟨rfl, hb4⟩
    have z4 := hb4.size
    have b4 := b3.trans (hb4.mono (by omega))
    have oc4 := own_below oc3 hb4
    have s4 := s3.later hb4 hb4.size
    clear oc3 ow3 hb4 s3 HIC
    rw [decide_eq_true rfl]
    go_wp2_with fail
    refine (HST.out w4 s4).mono ?_
    rintro e w5 ⟨rfl, hb5⟩
    have z5 := hb5.size
    have b5 := b4.trans (hb5.mono (by omega))
    have oc5 := own_below oc4 hb5
    have s5 := s4.later hb5 hb5.size
    clear oc4 s4 hb5 HST
    cases hok : okP L
    · clear hok
      go_wp2_with fail
      refine (HSC.out _ _ _ w5.heap.size w5 s5 (Nat.le_refl _)).mono ?_
      rintro e w6 ⟨vw, rfl, ow6, hb6⟩
      have z6 := hb6.size
      have b6 := b5.trans (hb6.mono (by omega))
      have oc6 := own_below oc5 hb6
      clear oc5 s5 hb6
      obtain ⟨AV, cV, rfl⟩ := own_slice ow6
      go_wp2_with fail
      refine (codeSame (own_flat oc6) (own_flat ow6)).mono ?_
      rintro e w7 ⟨rfl, hb7⟩
      have b7 := b6.trans (hb7.mono (by omega))
      clear oc6 ow6 hb7
      rw [decide_eq_true rfl]
      go_wp2_with fail
      go_ret
      exact ⟨rfl, b7⟩
    · have HOK := Lib.hid hok
      clear hok oc5 HSC
      have hlen := L.len_le
      have hle := s5.le
      have htop := s5.top
      unfold maxLen at htop
      go_wp2_with fail
      go_loopw [5] (fun i wr => ∃ k : Nat, k ≤ L.len ∧ i = .int .i64 k ∧ Below w5.heap.size w5 wr) (fun i _ => L.len - (intOf i).toNat)
      case atStart => exact ⟨0, Nat.zero_le _, rfl, Below.refl _ _⟩
      case round =>
        obtain ⟨k, hk, rfl, hb⟩ := hrel
        have hzr := hb.size
        have bw := b5.trans (hb.mono (by omega))
        by_cases hkm : k < L.len
        · obtain ⟨o, x, y, v, B, E, R, hd⟩ := SL.drop_cons hkm
          have sr := s5.later hb hzr
          have hA := (sr.at_ a rfl).drop k
          have hone := okP_one HOK.out hd
          have ht1 := drop_one hd
          rw [hd] at hA ht1
          have hT := hA.take 1
          rw [ht1] at hT
          obtain ⟨p0, c0, ca, cb, cn, AB, cB, AE, cE, c4, c5, sB, sE, _⟩ := hA.first
          have sX : Sl wr wr.heap.size (.cons o x y v B E .nil) (some (a.add (k * 6))) 1 (c1 - k) := ⟨rfl, by omega, by unfold maxLen; omega, (fun h => by cases h), fun p hp => by injection hp with hp; subst hp; exact hT⟩
          have HBO := Lib.hid (fun (h : okP B = true) => code_pass h)
          clear hd ht1 hA hT sr cb cn c5 sE
          by_cases h8 : o = 8
          · subst h8
            obtain ⟨q, hq, g0, g1, g2⟩ := room_code hone
            have hps := code_pass hone
            obtain ⟨zs, hzs⟩ : ∃ zs, codeX (.cons 8 x y v B E .nil) = zs := ⟨_, rfl⟩
            have HIX := Lib.hid (implCode sX (Nat.le_refl _) (by omega) (HOP.out.below bw h0))
            rw [hzs] at g0 g1 g2 hps HIX
            rw [hq] at hps HIX
            have hq29 : q + 3 ≤ 29 := hq ▸ codeN_le _
            have HPS := Lib.hid hps
            have HG := Lib.hid (And.intro g0 (And.intro g1 g2))
            clear hps hzs hq g0 g1 g2 hone sX
            go_wp2_with fail
            refine HIX.out.mono ?_
            rintro e w6 ⟨vx, rfl, ox6, hb6⟩
            have z6 := hb6.size
            have da := (hb6.cell (p := ⟨(a.add (k * 6)).block, (a.add (k * 6)).off + 1, none⟩) p0).trans ca
            have d4 := (hb6.cell (p := ⟨(a.add (k * 6)).block, (a.add (k * 6)).off + 4, none⟩) p0).trans c4
            have t6 := sB.later hb6 z6
            have b6 := bw.trans (hb6.mono (by omega))
            have bb6 : Below w5.heap.size w5 w6 := hb.trans (hb6.mono hzr)
            obtain ⟨AX, cX, rfl⟩ := own_slice ox6
            have f6 := own_flat ox6
            obtain ⟨ax, rfl⟩ := f6.some (by omega)
            obtain ⟨x0, x1, _, _⟩ := f6.four 0 (by omega)
            obtain ⟨x2, _, _, _⟩ := f6.four (q + 1) (by omega)
            rw [HG.out.1] at x0
            rw [HG.out.2.1] at x1
            have eax : ax.add (0 * 4) = ax := by unfold Addr.add; split <;> simp_all
            rw [eax] at x0 x1
            rw [HG.out.2.2] at x2
            have q0 := World.block_lt_of_cell? _ _ x0
            have ks : ∀ W, Below w6.heap.size w6 W → (W.cell? ax = some (.int .i64 8) ∧ W.cell? ⟨ax.block, ax.off + 1, none⟩ = some (.int .i64 x) ∧ W.cell? (ax.add ((q + 1) * 4)) = some (.int .i64 9) ∧ W.cell? ⟨(a.add (k * 6)).block, (a.add (k * 6)).off + 1, none⟩ = some (.int .i64 x) ∧ Below w6.heap.size w6 W) := fun W hW =>
              ⟨(hW.cell q0).trans x0, (hW.cell (p := ⟨ax.block, _, none⟩) q0).trans x1, (hW.cell (World.block_lt_of_cell? _ _ x2)).trans x2, (hW.cell (p := ⟨(a.add (k * 6)).block, _, none⟩) (by show (a.add (k * 6)).block < _; omega)).trans da, hW⟩
            have KS := Lib.hid ks
            have HCO := Lib.hid (show ∀ W, Below w6.heap.size w6 W → Calls Tryz.prog 9 #[.slice (some ax) (q + 3) cX] W fun e w' => e = .returned (.bool true) ∧ Below w6.heap.size w6 w' from fun W hW =>
              (codeOk (f6.later hW)).mono fun e w' ⟨he, hb⟩ => ⟨by rw [he, HPS.out], hW.trans (hb.mono hW.size)⟩)
            have g1 : decide (((q + 3 : Nat) : Int) < 3) = false := decide_eq_false (by omega)
            have g2 : decide ((q : Int) + 3 < 3) = false := decide_eq_false (by omega)
            have g3 : IntKind.i64.wrap (((q + 3 : Nat) : Int) - 2) = ((q + 1 : Nat) : Int) := by rw [show ((q + 3 : Nat) : Int) - 2 = ((q + 1 : Nat) : Int) by omega]; exact wrapIn _ (by omega) (by omega)
            have g4 : IntKind.i64.wrap ((q : Int) + 3 - 2) = ((q + 1 : Nat) : Int) := by rw [show (q : Int) + 3 - 2 = ((q + 1 : Nat) : Int) by omega]; exact wrapIn _ (by omega) (by omega)
            have g5 : (0 : Int) < ((q + 3 : Nat) : Int) := by omega
            have g6 : (0 : Int) < (q : Int) + 3 := by omega
            have g7 : ((q + 1 : Nat) : Int) < ((q + 3 : Nat) : Int) := by omega
            have g8 : (0 : Int) ≤ ((q + 1 : Nat) : Int) := by omega
            have g9 : (q : Int) + 1 < (q : Int) + 3 := by omega
            have g10 : (0 : Int) ≤ (q : Int) + 1 := by omega
            have g11 : (k : Int) < (L.len : Int) := by omega
            have g12 : (0 : Int) ≤ (k : Int) := by omega
            clear HIX HG ca c0 c4 sB hb6 ks eax
            go_wp2_with fail
            go_region_held3 (fun W => W.cell? ax = some (.int .i64 8) ∧ W.cell? ⟨ax.block, ax.off + 1, none⟩ = some (.int .i64 x) ∧ W.cell? (ax.add ((q + 1) * 4)) = some (.int .i64 9) ∧ W.cell? ⟨(a.add (k * 6)).block, (a.add (k * 6)).off + 1, none⟩ = some (.int .i64 x) ∧ Below w6.heap.size w6 W)
              (first | exact KS.out _ (by assumption) | exact KS.out _ (Below.refl _ _) | exact KS.out _ (Below.refl _ _).drew)
              (first
                | (go_at_call 9; refine (HCO.out _ (Below.refl w6.heap.size w6).drew).mono ?_; rintro e w7 ⟨rfl, b7⟩))
            have z7 := b7.size
            have d7 := (b7.cell (p := ⟨(a.add (k * 6)).block, (a.add (k * 6)).off + 4, none⟩) (by show (a.add (k * 6)).block < _; omega)).trans d4
            have t7 := t6.later b7 z7
            have bw7 := b6.trans (b7.mono (by omega))
            have bb7 : Below w5.heap.size w5 w7 := bb6.trans (b7.mono (by omega))
            clear b7 d4 t6 KS HCO HPS x0 x1 x2 da ox6 f6 g1 g2 g3 g4 g5 g6 g7 g8 g9 g10
            go_wp2_with fail
            refine (stmtsOk B _ _ _ w7.heap.size w7 t7 (Nat.le_refl _)).mono ?_
            rintro e w8 ⟨rfl, b8⟩
            have z8 := b8.size
            have d8 := (b8.cell (p := ⟨(a.add (k * 6)).block, (a.add (k * 6)).off + 4, none⟩) (by show (a.add (k * 6)).block < _; omega)).trans d7
            have t8 := t7.later b8 z8
            have bw8 := bw7.trans (b8.mono (by omega))
            have bb8 : Below w5.heap.size w5 w8 := bb7.trans (b8.mono (by omega))
            clear b8 d7 t7
            cases hoB : okP B
            · clear hoB
              go_wp2_with fail
              go_roundw
              case rel => exact ⟨k + 1, by omega, by go_num, bb8⟩
              case measure => simp [intOf]; omega
            · have HPB := Lib.hid (HBO.out hoB)
              clear hoB HBO
              go_wp2_with fail
              refine (implCode t8 (Nat.le_refl _) (by omega) (HOP.out.below bw8 h0)).mono ?_
              rintro e w9 ⟨vb, rfl, ob9, b9⟩
              have z9 := b9.size
              have bw9 := bw8.trans (b9.mono (by omega))
              have bb9 : Below w5.heap.size w5 w9 := bb8.trans (b9.mono (by omega))
              obtain ⟨AZ, cZ, rfl⟩ := own_slice ob9
              have f9 := own_flat ob9
              clear b9 d8 t8 ob9
              go_wp2_with fail
              refine (codeOk f9).mono ?_
              rintro e w10 ⟨rfl, b10⟩
              rw [HPB.out]
              have bb10 : Below w5.heap.size w5 w10 := bb9.trans (b10.mono (by omega))
              clear f9 b10
              go_wp2_with fail
              go_roundw
              case rel => exact ⟨k + 1, by omega, by go_num, bb10⟩
              case measure => simp [intOf]; omega
          · go_wp2_with fail
            go_roundw
            case rel => exact ⟨k + 1, by omega, by go_num, hb⟩
            case measure => simp [intOf]; omega
        · go_wp2_with fail
          go_ret
          exact ⟨rfl, bw⟩
end Go.Proofs.YtlmgbpbiljnohaaGreatDoor

/- From a walk to the statement: the row's last step where nothing old has turned, whatever came in. -/
namespace Go.Proofs.YtlmgbpbiljnohaaGreatDoor
open Go.ChangeShapes Go.WideShapes Go.ChangeAt Go.RowKit

theorem own : ownKnob Tryz.prog.godebug = none := by kernel_rfl
theorem laidOut : laidOutB Tryz.prog = true := by kernel_rfl

section
variable {H : Type} {enc : TypeId × Value → H}

variable {P : Program}
/-- The row's last step where below the heap's old size nothing has turned. -/
theorem post_below {f : Func} {s : ChangeSpec} {apart fresh handsOn again : Bool} {W W' : World} {args : Array Value} {v : Value} {ds gs : List (DataW H)} {before pa pv : List MemPlace}
    (hW : DataW.Whole enc P f.params.toList s.vars apart W args.toList ds gs before)
    (hres : ∀ (b : Nat) (sp : Nat → Bool) (hd : Bool), DataW.TrodAll enc P W' b sp hd f.resultTypes.toList (v.resultList f.resultTypes.size) (s.fn H (ds ++ gs)).results [])
    (hargs : ∀ sp : Nat → Bool, (∀ p ∈ before, sp p.block = true) → DataW.TrodAll enc P W' 0 sp true f.params.toList args.toList (s.fn H (ds ++ gs)).args pa)
    (hvars : ∀ sp : Nat → Bool, (∀ p ∈ before, sp p.block = true) → DataW.TrodVars enc P W' sp s.vars (s.fn H (ds ++ gs)).vars pv)
    (hps : before = pa ++ pv) (hb : Below W.heap.size W W')
    (hok : ∀ (j : Nat) (t : TypeId) (r : Value), f.resultTypes[j]? = some t → (v.resultList f.resultTypes.size)[j]? = some r → Value.okWide P W' .any 0 t r) :
    s.post enc P f apart fresh handsOn again W args v W' := by
  have lt : ∀ p ∈ before, p.block < W.heap.size := fun p hp => hW.lt p hp
  have old : ∀ p ∈ before, (fun b => decide (b < W.heap.size)) p.block = true := fun p hp => decide_eq_true (lt p hp)
  have frame : W.keptBut W' (fun p => p ∈ before ∧ (p ∈ ([] : List MemPlace) ∨ p ∈ pa ∨ p ∈ pv)) :=
    World.keptBut_mono (fun p hp => ⟨hp, Or.inr (by rw [hps] at hp; simpa using hp)⟩) (hb.frame (· ∈ before))
  obtain ⟨_, _, _, _, _, hz, hn⟩ := id hW
  refine ⟨ds, gs, before, [], pa, pv, hW, hres _ _ _, hargs _ old, hvars _ old, by simpa using frame, fun _ => ?_⟩
  refine ⟨hok, _, _, ([] ++ pa) ++ pv, ⟨[] ++ pa, pv, trodAll_append (hargs _ (fun _ _ => rfl)) (hres _ _ _), hvars _ (fun _ _ => rfl), rfl, fun b off hp => ?_, fun ha => ?_⟩, fun p hp _ => ?_⟩
  · have hin : MemPlace.cell b off ∈ before := by rw [hps]; simpa using hp
    rw [hb.frozen (lt _ hin)]
    exact hz b off hin
  · have := hn ha
    rw [hps] at this
    simpa using this
  · rw [hps]
    simpa using hp

/-- An argument reads behind the call as it did, whatever counts as spare. -/
theorem arg_kept {t : TypeId} (hl : laidOutB P = true) (hr : P.readableRec t = true) (hrow : t < P.types.size) {W W' : World} {v : Value} {d : DataW H} {ps : List MemPlace} {sp : Nat → Bool}
    (h : DataW.Trod enc P W 0 (fun _ => true) true t v d ps) (hb : Below W.heap.size W W') (hlt : ∀ x ∈ ps, x.block < W.heap.size) (hsp : ∀ x ∈ ps, sp x.block = true) : DataW.Trod enc P W' 0 sp true t v d ps :=
  WideElems.Trod_stays hl hr hrow h (fun x hx => hb.same (hlt x hx)) (fun x hx => hsp x hx)
end
end Go.Proofs.YtlmgbpbiljnohaaGreatDoor

/- From a walk to the statement: what a slice of bytes that comes in gives a walk, and the row's last step where nothing old has turned. -/
namespace Go.Proofs.YtlmgbpbiljnohaaGreatDoor
open Go.ChangeShapes Go.WideShapes Go.ChangeAt Go.RowKit

theorem cellsU8 : Tryz.prog.cellsOf 5 = 1 := by kernel_rfl

section
variable {H : Type} {enc : TypeId × Value → H}

set_option maxRecDepth 100000 in
/-- A slice of bytes that came in: its length fits, and each of its bytes can be read. -/
theorem open_code {W : World} {base : Nat} {v : Value} {d : DataW H} {ps : List MemPlace} (hval : Value.okWide Tryz.prog W .any base 22 v) (h : DataW.Trod enc Tryz.prog W 0 (fun _ => true) true 22 v d ps) :
    ∃ (A : Option Addr) (n c : Nat), v = .slice A n c ∧ n ≤ c ∧ c ≤ maxLen ∧ Bytes W A n := by
  obtain ⟨A, n, c, rfl⟩ := okWide_slice Tryz.underlying22 hval
  obtain ⟨fuel, hf⟩ := h
  rcases open_ints Tryz.underlying22 Tryz.underlying5 cellsU8 hf with ⟨hcs, _⟩ | ⟨a, n', c', zs, hcs, _, hl, hm, hz, _, hcell, hwz⟩
  · simp [Value.cells] at hcs
    obtain ⟨rfl, rfl, rfl⟩ := hcs
    exact ⟨none, 0, 0, rfl, Nat.le_refl _, Nat.zero_le _, fun h => absurd h (by omega)⟩
  · simp [Value.cells] at hcs
    obtain ⟨rfl, rfl, rfl⟩ := hcs
    simp only [if_true] at hz
    refine ⟨_, _, _, rfl, hl, hm, fun h0 => ⟨a, rfl, ?_, fun i hi => ?_⟩⟩
    · have := World.block_lt_of_cell? _ _ (hcell 0 (by omega))
      rwa [add_block] at this
    · have hb := range_u8 hwz i
      exact ⟨zs.getD i 0, by simpa [List.getD] using hb.1, by simpa [List.getD] using hb.2, hcell i (by omega)⟩

end
end Go.Proofs.YtlmgbpbiljnohaaGreatDoor

/- The table of the ops of plain statements: what the row's condition on it gives a walk; a start that fits; that it reads behind the call as before. -/
namespace Go.Proofs.YtlmgbpbiljnohaaGreatDoor
open Go.ChangeShapes Go.WideShapes Go.ChangeAt Go.WideMaps Go.WideElems Go.RowKit

abbrev opsName : String := "loop.example/changeringer/impl.plainOps"
theorem gOps : Tryz.prog.globalNamed opsName = some 0 := by kernel_rfl
theorem tOps : (Tryz.prog.globals[0]?).map (·.type) = some 92 := by kernel_rfl

theorem cellsI : Tryz.prog.cellsOf 3 = 1 := by kernel_rfl

/-- What the condition gives: the table's cells. -/
theorem ops_of_laid {W : World} (h : laidMetH Tryz.prog [(opsName, Rows.laid_loop_example_changeringer_impl_plainOps)] W) : Ops W ∧ 0 < W.heap.size := by
  rw [MakeChecks.laidMetH_plain _ _ _ (by kernel_rfl)] at h
  obtain ⟨ps, ⟨g0, t0, cs0, f0, p0, q0, hg0, ht0, hv0, hd0, _, _⟩, _, _⟩ := h
  obtain rfl := Option.some.inj (gOps.symm.trans hg0)
  obtain rfl := Option.some.inj (tOps.symm.trans ht0)
  obtain ⟨xs, m1, rfl, hx1, hlen, hn3, hel⟩ := DataW.trod_array Tryz.underlying92 hd0
  simp only [Prod.mk.injEq, Rows.laid_loop_example_changeringer_impl_plainOps, DataW.agg.injEq] at hx1
  have key : ∀ (j : Nat) (v : Int), j < 12 → (xs.map (·.1))[j]? = some (.lit (.int .i64 v)) → W.cell? ⟨0, j, none⟩ = some (.int .i64 v) := by
    intro j v hj hv
    have h0 := hel j hj
    rw [cellsI, Nat.mul_one] at h0
    rw [List.getElem?_map] at hv
    obtain ⟨x, hx, hxv⟩ := Option.map_eq_some_iff.1 hv
    rw [hx] at h0
    obtain ⟨k, e1, e2, _⟩ := DataW.trod_int Tryz.underlying3 h0
    have hk : k = v := by rw [e2] at hxv; simpa using hxv
    subst hk
    rw [World.var?_cell hg0 hv0]
    have e3 := congrArg (·[0]?) e1
    simpa [List.getElem?_take, List.getElem?_drop] using e3
  rw [← hx1.1] at key
  have k1 := key 1 1 (by omega) rfl
  refine ⟨⟨k1, key 2 2 (by omega) rfl, key 3 3 (by omega) rfl, key 4 4 (by omega) rfl, key 5 5 (by omega) rfl, key 9 10 (by omega) rfl, key 10 11 (by omega) rfl, key 11 12 (by omega) rfl⟩, ?_⟩
  apply Classical.byContradiction
  intro hn
  have : W.heap[0]? = none := Array.getElem?_eq_none (by omega)
  simp [World.cell?, this] at k1

theorem opsRead : Tryz.prog.readableRec 92 = true := by kernel_rfl
theorem opsRow : 92 < Tryz.prog.types.size := of_decide_eq_true (by kernel_rfl)

/-- The table reads behind the call as before. -/
theorem ops_kept {H : Type} {enc : TypeId × Value → H} {W W' : World} {gs : List (DataW H)} {ps : List MemPlace} {sp : Nat → Bool} (h : DataW.TrodVars enc Tryz.prog W (fun _ => true) [opsName] gs ps)
    (hb : Below W.heap.size W W') (hlt : ∀ x ∈ ps, x.block < W.heap.size) (hsp : ∀ x ∈ ps, sp x.block = true) : DataW.TrodVars enc Tryz.prog W' sp [opsName] gs ps := by
  obtain ⟨g, t, cs, fuel, d, p, rfl, h1, h2, h3, h4, rfl⟩ := trodVars_one h
  obtain rfl := Option.some.inj (gOps.symm.trans h1)
  obtain rfl := Option.some.inj (tOps.symm.trans h2)
  have h3' : W'.var? Tryz.prog opsName = some cs := by
    unfold World.var? at h3 ⊢
    rw [h1] at h3 ⊢
    simp only [Option.bind_some] at h3 ⊢
    have hg : 0 < W.heap.size := by
      apply Classical.byContradiction
      intro hn
      have : W.heap[0]? = none := Array.getElem?_eq_none (by omega)
      rw [this] at h3; cases h3
    rw [hb.block 0 hg]; exact h3
  exact trodVars_mk1 h1 h2 h3' (DataW.trod_stays (kids_book laidOut opsRead) (book_sized opsRead) (fun h => by cases h) ⟨opsRow, book_self _⟩ h4 (fun x hx => hb.same (hlt x (by simp [hx]))) (fun x hx => hsp x (by simp [hx])))
end Go.Proofs.YtlmgbpbiljnohaaGreatDoor

namespace Go.Proofs.YtlmgbpbiljnohaaGreatDoor.pFnCodeIn
open Go.ChangeShapes Go.WideShapes Go.ChangeAt Go.RowKit

theorem door_met (os : Os) (args : Array Value) : laidMetH Tryz.prog Rows.fnCodeInRow.laid ((World.doorLaid Tryz.prog 400 os).forCall (fun _ _ => 0) ⟨#[], args, []⟩).memory :=
  laidMetH_of_parts3 (fuel := 8) (laidMet_of_run' 8 (by kernel_rfl) (by kernel_rfl)) (by kernel_rfl) (by kernel_rfl)

set_option maxRecDepth 100000 in
theorem lifted (os : Os) (started : os.Started) (H : Type) (enc : TypeId × Value → H) :
    ReturnsInHanded {} Tryz.checked os 3 .any (fun w args => (Rows.fnCodeInSpec.pre enc Tryz.prog Tryz.f3 [] false w args ∧ laidMetH Tryz.prog Rows.fnCodeInRow.laid w) ∧ sizedMet enc Tryz.prog Tryz.f3 (OpenSpec.ofChange Rows.fnCodeInSpec) false w args) (Rows.fnCodeInSpec.post enc Tryz.prog Tryz.f3 false true false false) := by
  refine returnsInHanded_of_change_and (C := Tryz.checked) (X := fun w _ => laidMetH Tryz.prog Rows.fnCodeInRow.laid w) (fun _ _ _ hh h => h.of_heap hh) own started (by kernel_rfl) Tryz.func3
    (ChangeSpec.witness_shaped (enc := enc) (C := Tryz.checked) (os := os) (X := fun w _ => laidMetH Tryz.prog Rows.fnCodeInRow.laid w) false (World.doorLaid Tryz.prog 400 os) #[.slice none 0 0] 8 rfl (World.shaped_of_RefB (by kernel_rfl) (by kernel_rfl)) (by kernel_rfl) (by kernel_rfl) (by kernel_rfl) (door_met os _)) ?_
  intro W base args ds gs before hval0 hW _ _ hL _
  have hval : ∀ (j : Nat) t v, Tryz.f3.params[j]? = some t → args[j]? = some v → Value.okWide Tryz.prog W .any base t v := hval0
  have hW' := hW
  obtain ⟨p, q, hA0, hV, rfl, _, _⟩ := hW
  have hA : DataW.TrodAll enc Tryz.prog W 0 (fun _ => true) true Tryz.f3.params.toList args.toList ds p := hA0
  rw [Tryz.params3] at hA hval
  obtain ⟨v0, vs0, d0, ds0, p0, q0, hargs, rfl, rfl, h0, r0⟩ := trodAll_cons hA
  obtain ⟨rfl, rfl, rfl⟩ := trodAll_nil r0
  obtain rfl : args = #[v0] := by cases args; simp_all
  obtain ⟨_, _, _, _, g, _, rfl, _, _, _, _, _⟩ := trodVars_one hV
  obtain ⟨A0, n0, c0, rfl, l0, m0, b0⟩ := open_code (hval 0 22 v0 rfl rfl) h0
  obtain ⟨hop, hpos⟩ := ops_of_laid hL
  clear hA0 hval0
  simp only [List.append_nil] at hW'
  refine (wFnCodeIn A0 n0 c0 W b0 l0 m0 hpos hop).mono fun e W' ⟨he, hb⟩ => ?_
  subst he
  have lt0 : ∀ x ∈ p0 ++ q, x.block < W.heap.size := fun x hx => hW'.lt x (hx)
  have hargs' : ∀ sp : Nat → Bool, (∀ x ∈ p0, sp x.block = true) → DataW.TrodAll enc Tryz.prog W' 0 sp true [22] [.slice A0 n0 c0] [d0] (p0) := fun sp hsp => by
    have h : DataW.TrodAll enc Tryz.prog W' 0 sp true _ _ _ _ := (trodAll_cons_mk (arg_kept laidOut (by kernel_rfl) (of_decide_eq_true (by kernel_rfl)) h0 hb (fun x hx => lt0 x (by simp [hx])) (fun x hx => hsp x (hx))) trodAll_mk0)
    simpa only [List.append_nil] using h
  exact ⟨_, rfl, post_below (pa := p0) (pv := q) hW' (fun _ _ _ => (trodAll_cons_mk (shut_bool Tryz.underlying4 _) trodAll_mk0)) (fun sp hsp => hargs' sp (fun x hx => hsp x (by simp [hx]))) (fun sp hsp => ops_kept hV hb (fun x hx => lt0 x (by simp [hx])) (fun x hx => hsp x (by simp [hx]))) rfl
    hb (ok_one (by kernel_rfl) rfl (okWide_bool_mk Tryz.underlying4 _))⟩

theorem row : Rows.FnCodeInSaid :=
  OpenClaim.holds_of_wide 3 Tryz.f3 rfl rfl rfl rfl rfl rfl rfl ⟨rfl, rfl, rfl, rfl, rfl⟩ rfl rfl rfl rfl rfl (by kernel_rfl) Tryz.func3 (by kernel_rfl)
    (of_decide_eq_true (by kernel_rfl)) (by unfold Func.isWrapper; first | (rw [if_pos (by decide +kernel)]; kernel_rfl) | (rw [if_neg (by decide +kernel)]; exact ⟨rfl, rfl⟩))
    (fun os started H enc _ => lifted os started H enc)

/-- THE STATEMENT: the tied card. -/
theorem proved : Rows.FnCodeInCardSaid :=
  Claim7.holds_tied_plain_at .later [] [.data] true Rows.fnCodeInCard.stood.harness false
    row (fun _ h => by cases h) (by kernel_rfl) (fun _ h => by cases h) fnCodeIn_row_tie rfl ⟨rfl, rfl⟩ (by kernel_rfl) rfl
    (fun f fn hf hfn => by
      obtain rfl : f = 3 := Option.some.inj ((show Tryz.prog.funcNamed "loop.example/changeringer/laws.FnCodeIn" = some 3 by kernel_rfl).symm.trans hf) |>.symm
      obtain rfl : fn = Tryz.f3 := (Option.some.inj (Tryz.func3.symm.trans hfn)).symm
      exact ⟨by kernel_rfl, fun j t ht => by
        rw [Tryz.params3] at ht
        have hm : t ∈ [22] := by simpa using Array.mem_of_getElem? ht
        have hall : ([22].all fun u => !Tryz.prog.wantsStandIn u) = true := by kernel_rfl
        exact (show Tryz.prog.wantsStandIn t = false by simpa using List.all_eq_true.1 hall t hm)⟩)
    (by kernel_rfl)
#print axioms proved
end Go.Proofs.YtlmgbpbiljnohaaGreatDoor.pFnCodeIn
