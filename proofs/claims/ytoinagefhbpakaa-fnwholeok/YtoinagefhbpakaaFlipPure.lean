/- Where one cell or signal has another room, a program keeps to the rooms just if nobody uses it. -/
import Derived.Test.YtoinagefhbpakaaWpCell
namespace Go.Proofs.Ytoinagefhbpakaa
open Go.ChangeShapes Go.WideShapes Go.ChangeAt Go.RowKit

theorem touchS_thing (i k x y : Int) (hi : 0 ≤ i) : touchS i k x y = decide (thing k x y = i) := by
  unfold touchS thing
  by_cases h3 : k = 3
  · subst h3; simp
  · by_cases h4 : k = 4
    · subst h4; simp
    · by_cases h9 : k = 9 ∨ k = 10
      · rw [if_neg h3, if_neg h4, if_pos h9]; simp [h3, h4, h9]
      · rw [if_neg h3, if_neg h4, if_neg h9]; simp only [h3, h4, h9, false_and, or_self]
        rw [decide_eq_false (by simp), decide_eq_false (by omega)]

theorem getD_set {o : List Int} {j t : Nat} {z : Int} (hj : j < o.length) : (o.set j z).getD t 0 = if t = j then z else o.getD t 0 := by
  rw [List.getD_eq_getElem?_getD, List.getElem?_set]
  by_cases e : j = t
  · subst e; rw [if_pos rfl, if_pos rfl, if_pos hj]; rfl
  · rw [if_neg e, if_neg (fun h => e h.symm), List.getD_eq_getElem?_getD]

theorem flipS {o : List Int} {j : Nat} (hj : j < o.length) {k x y r : Int} (h : ownS o k x y r = true) (hr : r = o.getD j 0 → 1 - o.getD j 0 ≠ r) : ownS (o.set j (1 - o.getD j 0)) k x y r = !touchS (j : Int) k x y := by
  rw [touchS_thing _ _ _ _ (by omega)]
  unfold ownS at h ⊢
  by_cases ht : thing k x y < 0
  · rw [decide_eq_true ht, Bool.true_or, decide_eq_false (by omega)]; rfl
  · rw [decide_eq_false ht, Bool.false_or] at h ⊢
    have h1 := of_decide_eq_true h
    rw [getD_set hj]
    by_cases e : (thing k x y).toNat = j
    · rw [if_pos e, decide_eq_true (p := thing k x y = (j : Int)) (by omega)]
      rw [e] at h1
      rw [decide_eq_false (hr h1.symm)]; rfl
    · rw [if_neg e, decide_eq_false (p := thing k x y = (j : Int)) (by omega), h]; rfl

theorem flipL {o : List Int} {j : Nat} (hj : j < o.length) (L : SL) : ∀ r : Int, ownL o L r = true → ownL (o.set j (1 - o.getD j 0)) L r = !touchL (j : Int) L := by
  induction L with
  | nil => intro r _; rfl
  | cons k x y n B E R hB hE hR =>
    intro r h
    simp only [ownL, Bool.and_eq_true] at h
    obtain ⟨⟨⟨h1, h2⟩, h3⟩, h4⟩ := h
    rw [ownL, touchL, flipS hj h1 (fun e => by omega), hB _ h2, hE _ h3, hR _ h4]
    cases touchS (j : Int) k x y <;> cases touchL (j : Int) B <;> cases touchL (j : Int) E <;> cases touchL (j : Int) R <;> rfl

theorem whole_parts {Ls : List SL} {o : List Int} (h : wholeB Ls o = true) : okPr Ls = true ∧ roomsB o = true ∧ (Ls.all fun L => ownL o L (-1)) = true := by
  unfold wholeB at h
  simp only [Bool.and_eq_true] at h
  exact ⟨h.1.1, h.1.2, h.2⟩

theorem rooms_flip {o : List Int} (h : roomsB o = true) {j : Nat} (hj : j < 5) : roomsB (o.set j (1 - o.getD j 0)) = true := by
  unfold roomsB at h ⊢
  rw [Bool.and_eq_true] at h ⊢
  have h5 := of_decide_eq_true h.1
  refine ⟨decide_eq_true (by rw [List.length_set]; exact h5), ?_⟩
  rw [List.all_eq_true]
  intro z hz
  have hall := List.all_eq_true.1 h.2
  rcases List.mem_or_eq_of_mem_set hz with hm | rfl
  · exact hall z hm
  · have h1 := rmB_true (hall (o.getD j 0) (by rw [List.getD_eq_getElem?_getD, List.getElem?_eq_getElem (by omega)]; exact List.getElem_mem _))
    exact decide_eq_true (by omega)

theorem whole_flip {Ls : List SL} {o : List Int} (h : wholeB Ls o = true) {j : Nat} (hj : j < 5) : wholeB Ls (o.set j (1 - o.getD j 0)) = !touchP (j : Int) Ls := by
  obtain ⟨h1, h2, h3⟩ := whole_parts h
  have h5 : o.length = 5 := by unfold roomsB at h2; rw [Bool.and_eq_true] at h2; exact of_decide_eq_true h2.1
  unfold wholeB
  rw [h1, rooms_flip h2 hj, Bool.true_and, Bool.true_and]
  unfold touchP
  clear h h1 h2
  induction Ls with
  | nil => rfl
  | cons L Ls ih =>
    simp only [List.all_cons, Bool.and_eq_true] at h3
    rw [List.all_cons, List.any_cons, flipL (by omega) L _ h3.1, ih h3.2]
    cases touchL (j : Int) L <;> rfl

theorem whole_short (Ls : List SL) {o : List Int} (h : o.length ≠ 5) : wholeB Ls o = false := by
  unfold wholeB roomsB
  rw [decide_eq_false h]
  simp
end Go.Proofs.Ytoinagefhbpakaa
