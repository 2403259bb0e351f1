/- The laws' copy and comparison of lists of statements, in the form that records ask. -/
import Derived.Test.YtlmgbpbiljnohaaCopy
import Derived.Test.YtlmgbpbiljnohaaEq
namespace Go.Proofs.Ytlmgbpbiljnohaa
open Go.ChangeShapes Go.WideShapes Go.ChangeAt Go.RowKit

theorem AtP.real {S : Nat → Prop} {w : World} {L : SL} : ∀ {a : Addr}, AtP w S L a → AtP w (fun b => S b ∧ b < w.heap.size) L a := by
  induction L with
  | nil => intro a _; trivial
  | cons k x y n B E R hB hE hR =>
    rintro a ⟨ha, h0, h1, h2, h3, ⟨A, c, h4, l4, m4, n4, p4⟩, ⟨A', c', h5, l5, m5, n5, p5⟩, h6⟩
    exact ⟨⟨ha, World.block_lt_of_cell? _ _ h0⟩, h0, h1, h2, h3, ⟨A, c, h4, l4, m4, n4, fun p hp => hB (p4 p hp)⟩, ⟨A', c', h5, l5, m5, n5, fun p hp => hE (p5 p hp)⟩, hR h6⟩
theorem SlP.real {S : Nat → Prop} {w : World} {L : SL} {A : Option Addr} {n c : Nat} (h : SlP w S L A n c) : SlP w (fun b => S b ∧ b < w.heap.size) L A n c := ⟨h.len, h.le, h.top, h.nil, fun p hp => (h.at_ p hp).real⟩
theorem SlP.later {S : Nat → Prop} {w w' : World} {L : SL} {A : Option Addr} {n c : Nat} (h : SlP w S L A n c) (hb : Below w.heap.size w w') : SlP w' S L A n c :=
  (h.real.keep fun _ hp => hb.cell hp.2).mono fun _ h => h.1
theorem SlP.there {S : Nat → Prop} {w : World} {L : SL} {A : Option Addr} {n c : Nat} (h : SlP w S L A n c) : Sl w w.heap.size L A n c := h.real.sl fun _ h => h.2

theorem stmts_to {L : SL} {A : Option Addr} {c : Nat} {S : Nat → Prop} {w : World} (hs : SlP w S L A L.len c) (hn : L.size ≤ 1048576) :
    Calls Try.prog 25 #[.slice A L.len c] w fun e w' => ∃ (A' : Option Addr) (c' : Nat), e = .returned (.slice A' L.len c') ∧ SlP w' (Born w w') L A' L.len c' ∧ Below w.heap.size w w' :=
  toStmtS L hn A _ c _ w hs.there (Nat.le_refl _)
theorem stmts_eq {L : SL} {A A' : Option Addr} {c c' : Nat} {S T : Nat → Prop} {w : World} (hs : SlP w S L A L.len c) (ht : SlP w T L A' L.len c') :
    Calls Try.prog 27 #[.slice A L.len c, .slice A' L.len c'] w fun e w' => e = .returned (.bool true) ∧ Below w.heap.size w w' :=
  eqStmtS L A A' _ c _ c' _ _ w hs.there ht.there (Nat.le_refl _) (Nat.le_refl _)

theorem boolOf (P : Prop) : ∃ d : Bool, d = true ↔ P := by
  by_cases h : P
  · exact ⟨true, by simp [h]⟩
  · exact ⟨false, by simp [h]⟩
end Go.Proofs.Ytlmgbpbiljnohaa
