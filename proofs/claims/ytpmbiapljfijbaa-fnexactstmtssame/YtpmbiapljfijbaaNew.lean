/- Lists of statements in new memory: every block that they lie in is one of a kind. -/
import Derived.Test.YtpmbiapljfijbaaSz
namespace Go.Proofs.Ytpmbiapljfijbaa
open Go.ChangeShapes Go.WideShapes Go.ChangeAt Go.RowKit

/-- As At, each block being one of S. -/
def AtP (w : World) (S : Nat → Prop) : SL → Addr → Prop
  | .nil, _ => True
  | .cons k x y n B E R, a => S a.block ∧ w.cell? a = some (.int .i64 k) ∧ w.cell? (a.add 1) = some (.int .i64 x) ∧ w.cell? (a.add 2) = some (.int .i64 y) ∧ w.cell? (a.add 3) = some (.int .i64 n) ∧
      (∃ (A : Option Addr) (c : Nat), w.cell? (a.add 4) = some (.slice A B.len c) ∧ B.len ≤ c ∧ c ≤ maxLen ∧ (A = none → B = .nil) ∧ ∀ p, A = some p → AtP w S B p) ∧
      (∃ (A : Option Addr) (c : Nat), w.cell? (a.add 5) = some (.slice A E.len c) ∧ E.len ≤ c ∧ c ≤ maxLen ∧ (A = none → E = .nil) ∧ ∀ p, A = some p → AtP w S E p) ∧
      AtP w S R (a.add 6)

structure SlP (w : World) (S : Nat → Prop) (L : SL) (A : Option Addr) (n c : Nat) : Prop where
  len : n = L.len
  le : n ≤ c
  top : c ≤ maxLen
  nil : A = none → L = .nil
  at_ : ∀ p, A = some p → AtP w S L p

theorem AtP.keep {S : Nat → Prop} {w w' : World} (hc : ∀ p : Addr, S p.block → w'.cell? p = w.cell? p) {L : SL} : ∀ {a : Addr}, AtP w S L a → AtP w' S L a := by
  induction L with
  | nil => intro a _; trivial
  | cons k x y n B E R hB hE hR =>
    rintro a ⟨ha, h0, h1, h2, h3, ⟨A, c, h4, l4, m4, n4, p4⟩, ⟨A', c', h5, l5, m5, n5, p5⟩, h6⟩
    have hk : ∀ j, w'.cell? (a.add j) = w.cell? (a.add j) := fun j => hc _ (by rw [show (a.add j).block = a.block from by unfold Addr.add; split <;> rfl]; exact ha)
    exact ⟨ha, by rw [hc _ ha]; exact h0, by rw [hk]; exact h1, by rw [hk]; exact h2, by rw [hk]; exact h3, ⟨A, c, by rw [hk]; exact h4, l4, m4, n4, fun p hp => hB (p4 p hp)⟩,
      ⟨A', c', by rw [hk]; exact h5, l5, m5, n5, fun p hp => hE (p5 p hp)⟩, hR h6⟩

theorem AtP.mono {S T : Nat → Prop} {w : World} (h : ∀ b, S b → T b) {L : SL} : ∀ {a : Addr}, AtP w S L a → AtP w T L a := by
  induction L with
  | nil => intro a _; trivial
  | cons k x y n B E R hB hE hR =>
    rintro a ⟨ha, h0, h1, h2, h3, ⟨A, c, h4, l4, m4, n4, p4⟩, ⟨A', c', h5, l5, m5, n5, p5⟩, h6⟩
    exact ⟨h _ ha, h0, h1, h2, h3, ⟨A, c, h4, l4, m4, n4, fun p hp => hB (p4 p hp)⟩, ⟨A', c', h5, l5, m5, n5, fun p hp => hE (p5 p hp)⟩, hR h6⟩

theorem AtP.at_ {S : Nat → Prop} {N : Nat} {w : World} (h : ∀ b, S b → b < N) {L : SL} : ∀ {a : Addr}, AtP w S L a → At w N L a := by
  induction L with
  | nil => intro a _; trivial
  | cons k x y n B E R hB hE hR =>
    rintro a ⟨ha, h0, h1, h2, h3, ⟨A, c, h4, l4, m4, n4, p4⟩, ⟨A', c', h5, l5, m5, n5, p5⟩, h6⟩
    exact ⟨h _ ha, h0, h1, h2, h3, ⟨A, c, h4, l4, m4, n4, fun p hp => hB (p4 p hp)⟩, ⟨A', c', h5, l5, m5, n5, fun p hp => hE (p5 p hp)⟩, hR h6⟩

theorem SlP.keep {S : Nat → Prop} {w w' : World} {L : SL} {A : Option Addr} {n c : Nat} (h : SlP w S L A n c) (hc : ∀ p : Addr, S p.block → w'.cell? p = w.cell? p) : SlP w' S L A n c := ⟨h.len, h.le, h.top, h.nil, fun p hp => (h.at_ p hp).keep hc⟩
theorem SlP.mono {S T : Nat → Prop} {w : World} {L : SL} {A : Option Addr} {n c : Nat} (h : SlP w S L A n c) (hT : ∀ b, S b → T b) : SlP w T L A n c := ⟨h.len, h.le, h.top, h.nil, fun p hp => (h.at_ p hp).mono hT⟩
theorem SlP.sl {S : Nat → Prop} {N : Nat} {w : World} {L : SL} {A : Option Addr} {n c : Nat} (h : SlP w S L A n c) (hN : ∀ b, S b → b < N) : Sl w N L A n c := ⟨h.len, h.le, h.top, h.nil, fun p hp => (h.at_ p hp).at_ hN⟩

/-- The blocks that came into being between two worlds. -/
def Born (w w' : World) (b : Nat) : Prop := w.heap.size ≤ b ∧ b < w'.heap.size

theorem Born.keep {w w1 w2 : World} (h : Below w1.heap.size w1 w2) : ∀ p : Addr, Born w w1 p.block → w2.cell? p = w1.cell? p := fun _ hp => h.cell hp.2

/-- One statement's six cells in block g from offset o on; its bodies lie in blocks of S. -/
def Elem (w : World) (S : Nat → Prop) (g o : Nat) : SL → Prop
  | .nil => True
  | .cons k x y n B E _ => w.cell? ⟨g, o, none⟩ = some (.int .i64 k) ∧ w.cell? ⟨g, o + 1, none⟩ = some (.int .i64 x) ∧ w.cell? ⟨g, o + 2, none⟩ = some (.int .i64 y) ∧ w.cell? ⟨g, o + 3, none⟩ = some (.int .i64 n) ∧
      ∃ (A : Option Addr) (c : Nat) (A' : Option Addr) (c' : Nat), w.cell? ⟨g, o + 4, none⟩ = some (.slice A B.len c) ∧ w.cell? ⟨g, o + 5, none⟩ = some (.slice A' E.len c') ∧ SlP w S B A B.len c ∧ SlP w S E A' E.len c'

theorem Elem.keep {w w' : World} {S : Nat → Prop} {g o : Nat} {L : SL} (h : Elem w S g o L) (hg : ∀ j, j < 6 → w'.cell? ⟨g, o + j, none⟩ = w.cell? ⟨g, o + j, none⟩) (hc : ∀ p : Addr, S p.block → w'.cell? p = w.cell? p) : Elem w' S g o L := by
  cases L with
  | nil => trivial
  | cons k x y n B E R =>
    obtain ⟨h0, h1, h2, h3, A, c, A', c', h4, h5, sB, sE⟩ := h
    exact ⟨by rw [show o = o + 0 from rfl, hg 0 (by omega)]; exact h0, by rw [hg 1 (by omega)]; exact h1, by rw [hg 2 (by omega)]; exact h2, by rw [hg 3 (by omega)]; exact h3, A, c, A', c', by rw [hg 4 (by omega)]; exact h4, by rw [hg 5 (by omega)]; exact h5, sB.keep hc, sE.keep hc⟩

theorem Elem.mono {w : World} {S T : Nat → Prop} {g o : Nat} {L : SL} (h : Elem w S g o L) (hT : ∀ b, S b → T b) : Elem w T g o L := by
  cases L with
  | nil => trivial
  | cons k x y n B E R =>
    obtain ⟨h0, h1, h2, h3, A, c, A', c', h4, h5, sB, sE⟩ := h
    exact ⟨h0, h1, h2, h3, A, c, A', c', h4, h5, sB.mono hT, sE.mono hT⟩

/-- Where each statement lies in its place, the list lies there. -/
theorem AtP.of_elems {w : World} {S : Nat → Prop} {g : Nat} (hg : S g) {L : SL} : ∀ {o : Nat}, (∀ j, j < L.len → Elem w S g (o + j * 6) (L.drop j)) → AtP w S L ⟨g, o, none⟩ := by
  induction L with
  | nil => intro o _; trivial
  | cons k x y n B E R hB hE hR =>
    intro o h
    obtain ⟨h0, h1, h2, h3, A, c, A', c', h4, h5, sB, sE⟩ : Elem w S g o (.cons k x y n B E R) := by have := h 0 (by simp [SL.len]); simpa [SL.drop] using this
    refine ⟨hg, h0, h1, h2, h3, ⟨A, c, h4, sB.le, sB.top, sB.nil, sB.at_⟩, ⟨A', c', h5, sE.le, sE.top, sE.nil, sE.at_⟩, ?_⟩
    exact hR (o := o + 6) fun j hj => by
      have := h (j + 1) (by simp only [SL.len]; omega)
      rw [show o + (j + 1) * 6 = o + 6 + j * 6 from by omega] at this
      exact this
end Go.Proofs.Ytpmbiapljfijbaa
