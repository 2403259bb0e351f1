/-
  DERIVED. GIVEN WITH THE SEED: THE CARDS: each row of YtapckfapkhnbgaaGreatDoorRows.lean that lists a variable, with what it lists TIED to the program's text (the seventh form; the later family's looks); each row that meets fmt, with fmt's text TOLD by the authors' own Lean function (tested against real Go, not proved from fmt's source: count such statements apart). THE CARD IS WHAT COUNTS. Prove the row's statement (the work); the ties are given (YtapckfapkhnbgaaGreatDoorTie.lean); close each card by the builder's one call (the guide's Derived/Test/ToyasCard.lean, 'card_holds'). Laid BY PROGRAM, IN A SANDBOX (cutbox-door.mjs). By AI agents, Wed Nov 11 2026. No macro, syntax, notation, axiom, sorry.
-/
import Derived.Test.YtapckfapkhnbgaaGreatDoorRows
import GoSem.ClaimSeven
namespace Go.Proofs.YtapckfapkhnbgaaGreatDoor
namespace Rows

/-- THE TIED CARD OF 'laws.FnCodeEnd'. -/
def fnCodeEndCard : Claim7 := { stood := { row := fnCodeEndRow, standIns := [], harness := (true, "65e996122f819466f68e9fcddc356c410e0d09275c3a0f032f30f8d041ef4d89"), looks := false }, kinds := [], alts := [], laidByText := true, laidKinds := [.data], laidTests := true, laidLooks := .later }
def FnCodeEndCardSaid : Prop := Claim7.holds Tryz.pinned (.plain (OpenSpec.ofChange fnCodeEndSpec)) fnCodeEndCard

/-- THE TIED CARD OF 'laws.FnCodeOf'. -/
def fnCodeOfCard : Claim7 := { stood := { row := fnCodeOfRow, standIns := [], harness := (true, "65e996122f819466f68e9fcddc356c410e0d09275c3a0f032f30f8d041ef4d89"), looks := false }, kinds := [], alts := [], laidByText := true, laidKinds := [.data], laidTests := true, laidLooks := .later }
def FnCodeOfCardSaid : Prop := Claim7.holds Tryz.pinned (.plain (OpenSpec.ofChange fnCodeOfSpec)) fnCodeOfCard

/-- THE SECOND FORM's CARD OF 'laws.FnCodeEnd'. -/
def fnCodeEndUptoCard : Claim7 := { stood := { row := fnCodeEndUptoRow, standIns := [], harness := (true, "65e996122f819466f68e9fcddc356c410e0d09275c3a0f032f30f8d041ef4d89"), looks := false }, kinds := [], alts := [], laidByText := true, laidKinds := [.data], laidTests := true, laidLooks := .later }
def FnCodeEndUptoCardSaid : Prop := Claim7.holds Tryz.pinned (.plain (OpenSpec.upto fnCodeEndSpec)) fnCodeEndUptoCard

/-- THE SECOND FORM's CARD OF 'laws.FnCodeOf'. -/
def fnCodeOfUptoCard : Claim7 := { stood := { row := fnCodeOfUptoRow, standIns := [], harness := (true, "65e996122f819466f68e9fcddc356c410e0d09275c3a0f032f30f8d041ef4d89"), looks := false }, kinds := [], alts := [], laidByText := true, laidKinds := [.data], laidTests := true, laidLooks := .later }
def FnCodeOfUptoCardSaid : Prop := Claim7.holds Tryz.pinned (.plain (OpenSpec.upto fnCodeOfSpec)) fnCodeOfUptoCard
end Rows
end Go.Proofs.YtapckfapkhnbgaaGreatDoor
