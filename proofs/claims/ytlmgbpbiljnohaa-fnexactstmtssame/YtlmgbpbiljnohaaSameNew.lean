/- StmtsSame of the program (its comparison by a list of what is left and a map of what was met) and of the model. -/
import Derived.Test.YtlmgbpbiljnohaaSame
import Derived.Test.YtlmgbpbiljnohaaSameWalk
import Derived.Test.YtlmgbpbiljnohaaCopyN
import Derived.Test.YtlmgbpbiljnohaaKindS0
namespace Go.Proofs.Ytlmgbpbiljnohaa
open Go.ChangeShapes Go.WideShapes Go.ChangeAt Go.RowKit

theorem sameL_iff {L : SL} : ∀ {L' : SL}, sameL L L' = true ↔ L = L' := by
  induction L with
  | nil => intro L'; cases L' with
    | nil => simp [sameL]
    | cons => simp [sameL]
  | cons k x y n B E R hB hE hR => intro L'; cases L' with
    | nil => simp [sameL]
    | cons k' x' y' n' B' E' R' =>
      simp only [sameL, Bool.and_eq_true, beq_iff_eq, hB, hE, hR, SL.cons.injEq]
      constructor
      · rintro ⟨⟨⟨⟨⟨⟨h1, h2⟩, h3⟩, h4⟩, h5⟩, h6⟩, h7⟩; exact ⟨h1, h2, h3, h4, h5, h6, h7⟩
      · rintro ⟨h1, h2, h3, h4, h5, h6, h7⟩; exact ⟨⟨⟨⟨⟨⟨h1, h2⟩, h3⟩, h4⟩, h5⟩, h6⟩, h7⟩

/-- Every block of S is a plain row. -/
def AllPl (w : World) (S : Nat → Prop) : Prop := ∀ b, S b → Pl w b
theorem AllPl.later {w w' : World} {S : Nat → Prop} (h : AllPl w S) (hb : Below w.heap.size w w') : AllPl w' S := fun b hS => (h b hS).below hb

open Classical in
theorem implSameStmts {S T : Nat → Prop} {L L' : SL} {A A' : Option Addr} {c c' : Nat} {w : World} (hs : SlP w S L A L.len c) (ht : SlP w T L' A' L'.len c') (pS : AllPl w S) (pT : AllPl w T) (hz : L.size ≤ 1048576) :
    Calls Try.prog 47 #[.slice A L.len c, .slice A' L'.len c'] w fun e w' => e = .returned (.bool (sameL L L')) ∧ Below w.heap.size w w' := by
  refine (sameStmts (fun b => S b ∨ T b) L L' A A' c c' w (hs.mono fun _ h => .inl h) (ht.mono fun _ h => .inr h) (fun b h => h.elim (pS b) (pT b)) hz).mono fun e w' he => ⟨?_, he.2⟩
  rw [he.1]
  congr 2
  cases h : sameL L L' with
  | true => exact decide_eq_true (sameL_iff.1 h)
  | false => exact decide_eq_false (fun e => by rw [sameL_iff.2 e] at h; cases h)

def sameP (L L' : SL) : Bool := okP L && okP L' && sameL L L'

theorem stmtsSameN {S T : Nat → Prop} {L L' : SL} {A A' : Option Addr} {c c' : Nat} {w : World} (ps : SlP w S L A L.len c) (pt : SlP w T L' A' L'.len c') (pS : AllPl w S) (pT : AllPl w T) (hz : L.size ≤ 1048576) :
    Calls Try.prog 26 #[.slice A L.len c, .slice A' L'.len c'] w fun e w' => e = .returned (.bool (sameP L L')) ∧ Below w.heap.size w w' := by
  have hs := ps.there
  have ht := pt.there
  have PS := Lib.hid (And.intro ps (And.intro pt (And.intro pS pT)))
  clear ps pt pS pT
  cases h1 : okP L
  · have H := Lib.hid (show sameP L L' = false from by rw [sameP, h1]; rfl)
    have H1 := Lib.hid h1
    clear h1
    go_enter Try.func26, Try.ntmps26
    go_wp2_with fail
    refine (stmtsOk L A _ c _ w hs (Nat.le_refl _)).mono ?_
    rintro e w1 ⟨rfl, hb1⟩
    rw [H1.out]
    go_wp2_with fail
    go_ret
    exact ⟨by rw [H.out]; rfl, hb1⟩
  · cases h2 : okP L'
    · have H := Lib.hid (show sameP L L' = false from by rw [sameP, h1, h2]; rfl)
      have H1 := Lib.hid h1
      have H2 := Lib.hid h2
      clear h1 h2
      go_enter Try.func26, Try.ntmps26
      go_wp2_with fail
      refine (stmtsOk L A _ c _ w hs (Nat.le_refl _)).mono ?_
      rintro e w1 ⟨rfl, hb1⟩
      rw [H1.out]
      have z1 := hb1.size
      go_wp2_with fail
      refine (stmtsOk L' A' _ c' _ w1 (ht.below hb1) z1).mono ?_
      rintro e w2 ⟨rfl, hb2⟩
      rw [H2.out]
      go_wp2_with fail
      go_ret
      exact ⟨by rw [H.out]; rfl, hb1.trans (hb2.mono z1)⟩
    · have H := Lib.hid (show sameP L L' = sameL L L' from by rw [sameP, h1, h2]; rfl)
      have H1 := Lib.hid h1
      have H2 := Lib.hid h2
      clear h1 h2
      go_enter Try.func26, Try.ntmps26
      go_wp2_with fail
      refine (stmtsOk L A _ c _ w hs (Nat.le_refl _)).mono ?_
      rintro e w1 ⟨rfl, hb1⟩
      rw [H1.out]
      have z1 := hb1.size
      go_wp2_with fail
      refine (stmtsOk L' A' _ c' _ w1 (ht.below hb1) z1).mono ?_
      rintro e w2 ⟨rfl, hb2⟩
      rw [H2.out]
      have b2 := hb1.trans (hb2.mono z1)
      have z2 := b2.size
      clear hb2
      go_wp2_with fail
      obtain ⟨ps, pt, pS, pT⟩ := PS.out
      refine (implSameStmts (ps.later b2) (pt.later b2) (pS.later b2) (pT.later b2) hz).mono ?_
      rintro e w3 ⟨rfl, hb3⟩
      go_wp2_with fail
      go_ret
      exact ⟨by rw [H.out]; rfl, b2.trans (hb3.mono z2)⟩

theorem specStmtsSame (L L' : SL) (hL : L.size ≤ 1048576) (hL' : L'.size ≤ 1048576) (A A' : Option Addr) (n c n' c' N N' : Nat) (w : World) (hs : Sl w N L A n c) (ht : Sl w N' L' A' n' c') (hN : N ≤ w.heap.size) (hN' : N' ≤ w.heap.size) :
    Calls Try.prog 24 #[.slice A n c, .slice A' n' c'] w fun e w' => e = .returned (.bool (sameP L L')) ∧ Below w.heap.size w w' := by
  cases h1 : okP L
  · have H := Lib.hid (show sameP L L' = false from by rw [sameP, h1]; rfl)
    have H1 := Lib.hid h1
    clear h1
    go_enter Try.func24, Try.ntmps24
    go_wp2_with fail
    refine (specStmtsOk L hL A n c N w hs hN).mono ?_
    rintro e w1 ⟨rfl, hb1⟩
    rw [H1.out]
    go_wp2_with fail
    go_ret
    exact ⟨by rw [H.out]; rfl, hb1⟩
  · cases h2 : okP L'
    · have H := Lib.hid (show sameP L L' = false from by rw [sameP, h1, h2]; rfl)
      have H1 := Lib.hid h1
      have H2 := Lib.hid h2
      clear h1 h2
      go_enter Try.func24, Try.ntmps24
      go_wp2_with fail
      refine (specStmtsOk L hL A n c N w hs hN).mono ?_
      rintro e w1 ⟨rfl, hb1⟩
      rw [H1.out]
      have z1 := hb1.size
      go_wp2_with fail
      refine (specStmtsOk L' hL' A' n' c' N' w1 (ht.below (hb1.mono hN')) (by omega)).mono ?_
      rintro e w2 ⟨rfl, hb2⟩
      rw [H2.out]
      go_wp2_with fail
      go_ret
      exact ⟨by rw [H.out]; rfl, hb1.trans (hb2.mono z1)⟩
    · have H := Lib.hid (show sameP L L' = sameL L L' from by rw [sameP, h1, h2]; rfl)
      have H1 := Lib.hid h1
      have H2 := Lib.hid h2
      clear h1 h2
      go_enter Try.func24, Try.ntmps24
      go_wp2_with fail
      refine (specStmtsOk L hL A n c N w hs hN).mono ?_
      rintro e w1 ⟨rfl, hb1⟩
      rw [H1.out]
      have z1 := hb1.size
      go_wp2_with fail
      refine (specStmtsOk L' hL' A' n' c' N' w1 (ht.below (hb1.mono hN')) (by omega)).mono ?_
      rintro e w2 ⟨rfl, hb2⟩
      rw [H2.out]
      have b2 := hb1.trans (hb2.mono z1)
      have z2 := b2.size
      clear hb2
      go_wp2_with fail
      refine (specSame_any (L.size + 1) L L' (by omega) 4 (by have := deepL_ok (by omega) (okP_size H1.out).2; omega) (by omega) A A' n c n' c' N N' w2 (hs.below (b2.mono hN)) (ht.below (b2.mono hN')) (by omega) (by omega)).mono ?_
      rintro e w3 ⟨rfl, hb3⟩
      go_wp2_with fail
      go_ret
      exact ⟨by rw [H.out]; rfl, b2.trans (hb3.mono z2)⟩

end Go.Proofs.Ytlmgbpbiljnohaa
