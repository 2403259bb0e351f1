/- The comparison of two lists by a worklist and a list of what was met: why what it says is right. -/
import Derived.Test.YtlmgbpbiljnohaaFp
namespace Go.Proofs.Ytlmgbpbiljnohaa
open Go.ChangeShapes Go.WideShapes Go.ChangeAt Go.RowKit

/-- Two lists with the same numbers, whose bodies are pairs of C. -/
def Numb (C : SL → SL → Prop) : SL → SL → Prop
  | .nil, .nil => True
  | .cons k x y n B E R, .cons k' x' y' n' B' E' R' => (k = k' ∧ x = x' ∧ y = y' ∧ n = n') ∧ C B B' ∧ C E E' ∧ Numb C R R'
  | .nil, .cons .. => False
  | .cons .., .nil => False

theorem Numb.mono {C D : SL → SL → Prop} (h : ∀ X Y, C X Y → D X Y) : ∀ {X Y : SL}, Numb C X Y → Numb D X Y := by
  intro X
  induction X with
  | nil => intro Y hN; cases Y <;> exact hN
  | cons k x y n B E R _ _ ih =>
    intro Y hN
    cases Y with
    | nil => exact hN
    | cons k' x' y' n' B' E' R' => exact ⟨hN.1, h _ _ hN.2.1, h _ _ hN.2.2.1, ih hN.2.2.2⟩
/-- One more pair behind. -/
theorem Numb.snoc {C : SL → SL → Prop} {k x y n : Int} {B E B' E' : SL} (hB : C B B') (hE : C E E') : ∀ {X Y : SL}, Numb C X Y → Numb C (X.plus (.cons k x y n B E .nil)) (Y.plus (.cons k x y n B' E' .nil)) := by
  intro X
  induction X with
  | nil =>
    intro Y hN
    cases Y with
    | nil => exact ⟨⟨rfl, rfl, rfl, rfl⟩, hB, hE, trivial⟩
    | cons => exact hN.elim
  | cons k x y n B E R _ _ ih =>
    intro Y hN
    cases Y with
    | nil => exact hN.elim
    | cons k' x' y' n' B' E' R' => exact ⟨hN.1, hN.2.1, hN.2.2.1, ih hN.2.2.2⟩

/-- Where each pair that was met has the same numbers, and its bodies are empty or were met, each is a pair of one list. -/
theorem met_same {ms : List (SL × SL)} (h : ∀ p ∈ ms, Numb (fun X Y => (X = .nil ∧ Y = .nil) ∨ (X, Y) ∈ ms) p.1 p.2) : ∀ (m : Nat) (X Y : SL), X.size < m → (X, Y) ∈ ms → X = Y := by
  intro m
  induction m with
  | zero => intro X Y hX; omega
  | succ m ih =>
    intro X Y hX hm
    have key : ∀ (X' Y' : SL), X'.size ≤ X.size → Numb (fun X Y => (X = .nil ∧ Y = .nil) ∨ (X, Y) ∈ ms) X' Y' → X' = Y' := by
      intro X'
      induction X' with
      | nil => intro Y' _ hN; cases Y' with
        | nil => rfl
        | cons => exact hN.elim
      | cons k x y n B E R _ _ ihR =>
        intro Y' hs hN
        cases Y' with
        | nil => exact hN.elim
        | cons k' x' y' n' B' E' R' =>
          simp only [SL.size] at hs
          obtain ⟨⟨rfl, rfl, rfl, rfl⟩, hB, hE, hR⟩ := hN
          have eB : B = B' := by
            rcases hB with ⟨rfl, rfl⟩ | hB
            · rfl
            · exact ih B B' (by omega) hB
          have eE : E = E' := by
            rcases hE with ⟨rfl, rfl⟩ | hE
            · rfl
            · exact ih E E' (by omega) hE
          rw [eB, eE, ihR R' (by omega) hR]
    exact key X Y (Nat.le_refl _) (h _ hm)

/-- What lies at one address, so many, is one list. -/
theorem At.one {w : World} {N M : Nat} {X : SL} : ∀ {Y : SL} {a : Addr}, At w N X a → At w M Y a → X.len = Y.len → X = Y := by
  induction X with
  | nil => intro Y a _ _ h; exact (SL.nil_of_len h.symm).symm
  | cons k x y n B E R hB hE hR =>
    intro Y a h g hl
    cases Y with
    | nil => simp [SL.len] at hl
    | cons k' x' y' n' B' E' R' =>
      obtain ⟨_, h0, h1, h2, h3, ⟨A, c, h4, l4, m4, n4, p4⟩, ⟨A', c', h5, l5, m5, n5, p5⟩, h6⟩ := h
      obtain ⟨_, g0, g1, g2, g3, ⟨Q, d, g4, _, _, q4, r4⟩, ⟨Q', d', g5, _, _, q5, r5⟩, g6⟩ := g
      rw [h0] at g0
      rw [h1] at g1
      rw [h2] at g2
      rw [h3] at g3
      rw [h4] at g4
      rw [h5] at g5
      simp only [Option.some.injEq, Value.int.injEq, true_and, Value.slice.injEq] at g0 g1 g2 g3 g4 g5
      obtain ⟨rfl, e4, _⟩ := g4
      obtain ⟨rfl, e5, _⟩ := g5
      subst g0 g1 g2 g3
      have eB : B = B' := by
        cases A with
        | none => rw [n4 rfl, q4 rfl]
        | some p => exact hB (p4 p rfl) (r4 p rfl) e4
      have eE : E = E' := by
        cases A' with
        | none => rw [n5 rfl, q5 rfl]
        | some p => exact hE (p5 p rfl) (r5 p rfl) e5
      rw [eB, eE, hR h6 g6 (by simpa [SL.len] using hl)]

theorem atP_one {w : World} {S : Nat → Prop} {X : SL} : ∀ {Y : SL} {a : Addr}, AtP w S X a → AtP w S Y a → X.len = Y.len → X = Y := by
  induction X with
  | nil => intro Y a _ _ h; exact (SL.nil_of_len h.symm).symm
  | cons k x y n B E R hB hE hR =>
    intro Y a h g hl
    cases Y with
    | nil => simp [SL.len] at hl
    | cons k' x' y' n' B' E' R' =>
      obtain ⟨_, h0, h1, h2, h3, ⟨A, c, h4, l4, m4, n4, p4⟩, ⟨A', c', h5, l5, m5, n5, p5⟩, h6⟩ := h
      obtain ⟨_, g0, g1, g2, g3, ⟨Q, d, g4, _, _, q4, r4⟩, ⟨Q', d', g5, _, _, q5, r5⟩, g6⟩ := g
      rw [h0] at g0
      rw [h1] at g1
      rw [h2] at g2
      rw [h3] at g3
      rw [h4] at g4
      rw [h5] at g5
      simp only [Option.some.injEq, Value.int.injEq, true_and, Value.slice.injEq] at g0 g1 g2 g3 g4 g5
      obtain ⟨rfl, e4, _⟩ := g4
      obtain ⟨rfl, e5, _⟩ := g5
      subst g0 g1 g2 g3
      have eB : B = B' := by
        cases A with
        | none => rw [n4 rfl, q4 rfl]
        | some p => exact hB (p4 p rfl) (r4 p rfl) e4
      have eE : E = E' := by
        cases A' with
        | none => rw [n5 rfl, q5 rfl]
        | some p => exact hE (p5 p rfl) (r5 p rfl) e5
      rw [eB, eE, hR h6 g6 (by simpa [SL.len] using hl)]
end Go.Proofs.Ytlmgbpbiljnohaa
