/- Whether each cell and each signal is used only inside of the monitor that it is assigned to, as plain functions. -/
import Derived.Test.YtoinagefhbpakaaStmtsOk
import Derived.Test.YtoinagefhbpakaaPs
import Derived.Test.YtoinagefhbpakaaProgOk
namespace Go.Proofs.Ytoinagefhbpakaa
open Go.ChangeShapes Go.WideShapes Go.ChangeAt Go.RowKit

/-- What a statement uses: a cell, or behind all cells a signal; -1 if nothing. -/
def thing (k x y : Int) : Int := if k = 3 then y else if k = 4 then x else if k = 9 ∨ k = 10 then 3 + x else -1
/-- Whether a statement that is in r uses only what is assigned to r. -/
def ownS (o : List Int) (k x y r : Int) : Bool := decide (thing k x y < 0) || decide (o.getD (thing k x y).toNat 0 = r)
def ownL (o : List Int) : SL → Int → Bool
  | .nil, _ => true
  | .cons k x y _ B E R, r => ownS o k x y r && ownL o B (inR k x r) && ownL o E (inR k x r) && ownL o R r

theorem thing_in {k x y n : Int} {lb le : Nat} {d r : Int} (h : headB k x y n lb le d r = true) : thing k x y = -1 ∨ (0 ≤ thing k x y ∧ thing k x y < 5) := by
  unfold headB leafB at h
  unfold thing
  by_cases h3 : k = 3
  · subst h3; simp at h; right; simp; omega
  · by_cases h4 : k = 4
    · subst h4; simp at h; right; simp; omega
    · by_cases h9 : k = 9
      · subst h9; simp at h; right; simp; omega
      · by_cases h10 : k = 10
        · subst h10; simp at h; right; simp; omega
        · left; simp [h3, h4, h9, h10]

theorem thing_ops {k x y n : Int} {lb le : Nat} {d r : Int} (h : headB k x y n lb le d r = true) : (k = 3 → 0 ≤ y ∧ y < 5) ∧ (k = 4 → 0 ≤ x ∧ x < 5) ∧ (k = 9 ∨ k = 10 → 0 ≤ x ∧ x < 2) := by
  unfold headB leafB at h
  refine ⟨fun e => ?_, fun e => ?_, fun e => ?_⟩
  · subst e; simp at h; omega
  · subst e; simp at h; omega
  · rcases e with rfl | rfl <;> (simp at h; omega)

theorem ownL_flat (o : List Int) (L : SL) : ∀ r : Int, ownL o L r = (flatL L r).all fun q => ownS o q.1 q.2.1 q.2.2.1 q.2.2.2.2 := by
  induction L with
  | nil => intro r; rfl
  | cons k x y n B E R hB hE hR =>
    intro r
    simp only [ownL, flatL, List.all_cons, List.all_append, hB, hE, hR, Bool.and_assoc]

theorem okL_flat (L : SL) : ∀ d r : Int, okL L d r = true → AllG (fun k x y _ _ => thing k x y = -1 ∨ (0 ≤ thing k x y ∧ thing k x y < 5)) L r := by
  induction L with
  | nil => intro d r _ q hq; cases hq
  | cons k x y n B E R hB hE hR =>
    intro d r h q hq
    simp only [okL, Bool.and_eq_true] at h
    obtain ⟨⟨⟨h1, h2⟩, h3⟩, h4⟩ := h
    rcases List.mem_cons.1 hq with rfl | hq
    · exact thing_in h1
    · rcases List.mem_append.1 hq with hq | hq
      · rcases List.mem_append.1 hq with hq | hq
        · exact hB _ _ h2 q hq
        · exact hE _ _ h3 q hq
      · exact hR _ _ h4 q hq

/-- Whether there is a monitor for each cell and each signal. -/
def rmB (x : Int) : Bool := decide (0 ≤ x ∧ x < 2)
def roomsB (o : List Int) : Bool := decide (o.length = 5) && o.all rmB
def wholeB (Ls : List SL) (o : List Int) : Bool := okPr Ls && roomsB o && Ls.all fun L => ownL o L (-1)
theorem rmB_true {x : Int} (h : rmB x = true) : 0 ≤ x ∧ x < 2 := of_decide_eq_true h
theorem rmB_false {x : Int} (h : rmB x = false) : x < 0 ∨ (0 ≤ x ∧ 2 ≤ x) := by
  have := of_decide_eq_false h
  omega
theorem all_notR {xs : List Int} {k : Nat} (hk : k < xs.length) (h : rmB (xs.getD k 0) = false) : xs.all rmB = false := by
  rw [List.all_eq_false]
  refine ⟨xs.getD k 0, ?_, by rw [h]; decide⟩
  rw [List.getD_eq_getElem?_getD, List.getElem?_eq_getElem hk]
  exact List.getElem_mem hk
theorem take_allR {xs : List Int} {k : Nat} (hk : k < xs.length) (h : (xs.take k).all rmB = true) (h1 : rmB (xs.getD k 0) = true) : (xs.take (k + 1)).all rmB = true := by
  rw [List.take_add_one, List.all_append, h, Bool.true_and, List.getElem?_eq_getElem hk]
  rw [List.getD_eq_getElem?_getD, List.getElem?_eq_getElem hk] at h1
  simpa using h1
end Go.Proofs.Ytoinagefhbpakaa
