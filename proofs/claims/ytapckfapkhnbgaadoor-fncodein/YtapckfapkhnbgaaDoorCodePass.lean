/- Code of what is right: how long it is, that it passes, and what a room's is like. -/
import Derived.Test.YtapckfapkhnbgaaDoorCodeLab
import Derived.Test.YtapckfapkhnbgaaDoorBothX
namespace Go.Proofs.YtapckfapkhnbgaaDoor

theorem size_le_lenC (L : SL) : ∀ d r : Int, okL L d r = true → L.size ≤ L.lenC := by
  induction L with
  | nil => intro d r _; exact Nat.le_refl _
  | cons k x y n B E R hB hE hR =>
    intro d r hok
    rw [okL_cons, Bool.and_eq_true] at hok
    obtain ⟨hh, okB, okE⟩ := okS_parts hok.1
    have h1 := hB _ _ okB
    have h2 := hE _ _ okE
    have h3 := hR _ _ hok.2
    have hd := headB_one hh
    rw [lenC_cons]
    simp only [SL.size]
    unfold headB at hh
    rw [decide_eq_true hd, Bool.true_and] at hh
    unfold lenS
    by_cases h6 : k = 6
    · rw [if_pos h6]; omega
    · rw [if_neg h6] at hh ⊢
      by_cases h7 : k = 7
      · rw [if_pos h7] at hh ⊢
        have hx := of_decide_eq_true hh
        rw [SL.nil_of_len hx.1]; simp only [SL.size]; omega
      · rw [if_neg h7] at hh ⊢
        by_cases h8 : k = 8
        · rw [if_pos h8] at hh ⊢
          have hx := of_decide_eq_true hh
          rw [SL.nil_of_len hx.1]; simp only [SL.size]; omega
        · rw [if_neg h8] at hh ⊢
          rw [Bool.and_eq_true] at hh
          have hx := of_decide_eq_true hh.1
          rw [SL.nil_of_len hx.1, SL.nil_of_len hx.2]; simp only [SL.size]; omega

theorem code_pass {L : SL} (h : okP L = true) : codeB (codeX L) (codeN L) = true := by
  obtain ⟨e1, e2⟩ := codeX_of h
  rw [e1, e2]
  exact code_ok (okP_parts h).2 (okP_parts h).1

theorem codeN_many {L : SL} (h : okP L = true) : L.size + 1 ≤ codeN L ∧ codeN L ≤ 2 * L.size + 1 := by
  obtain ⟨e1, _⟩ := codeX_of h
  have h1 := size_le_lenC L 3 (-1) (okP_parts h).2
  have h2 := lenC_le L
  rw [e1]; omega

/-- One alone. -/
theorem drop_one {L : SL} {i : Nat} {k x y n : Int} {B E R : SL} (h : L.drop i = .cons k x y n B E R) : (L.drop i).take 1 = .cons k x y n B E .nil := by
  rw [h]
  show SL.cons k x y n B E (R.take 0) = _
  cases R <;> rfl

/-- The code of a room alone. -/
theorem room_code {x y n : Int} {B E : SL} (h : okP (.cons 8 x y n B E .nil) = true) : ∃ m, codeN (.cons 8 x y n B E .nil) = m + 3 ∧ (codeX (.cons 8 x y n B E .nil)).getD (0 * 4) 0 = 8 ∧ (codeX (.cons 8 x y n B E .nil)).getD (0 * 4 + 1) 0 = x ∧ (codeX (.cons 8 x y n B E .nil)).getD ((m + 1) * 4) 0 = 9 := by
  obtain ⟨e1, e2⟩ := codeX_of h
  refine ⟨B.lenC, by rw [e1]; simp [SL.lenC]; omega, ?_, ?_, ?_⟩
  · rw [e2]; rfl
  · rw [e2]; rfl
  · rw [e2]
    have hl := codeL_len B 1
    show ((codeS 8 x y n B E 0 ++ codeL .nil _) ++ [13, 0, 0, 0]).getD _ 0 = 9
    rw [codeL_nil, List.append_nil]
    show (([8, x, 0, 0] ++ codeL B (0 + 1) ++ [9, x, 0, 0]) ++ [13, 0, 0, 0]).getD _ 0 = 9
    rw [getD_left _ _ _ (by simp [hl]; omega), getD_right _ _ _ (by simp [hl]; omega)]
    simp only [List.length_append, hl, List.length_cons, List.length_nil]
    rw [show (B.lenC + 1) * 4 - (0 + 1 + 1 + 1 + 1 + B.lenC * 4) = 0 from by omega]
    rfl
end Go.Proofs.YtapckfapkhnbgaaDoor
