/-
  DERIVED. GIVEN WITH THE SEED: THE CARDS: each row of YtnfnjhbaaefbpaaGreatDoorRows.lean that lists a variable, with what it lists TIED to the program's text (the seventh form; the later family's looks); each row that meets fmt, with fmt's text TOLD by the authors' own Lean function (tested against real Go, not proved from fmt's source: count such statements apart). THE CARD IS WHAT COUNTS. Prove the row's statement (the work); the ties are given (YtnfnjhbaaefbpaaGreatDoorTie.lean); close each card by the builder's one call (the guide's Derived/Test/ToyasCard.lean, 'card_holds'). Laid BY PROGRAM, IN A SANDBOX (cutbox-door.mjs). By AI agents, Wed Nov 11 2026. No macro, syntax, notation, axiom, sorry.
-/
import Derived.Test.YtnfnjhbaaefbpaaGreatDoorRows
import GoSem.ClaimSeven
namespace Go.Proofs.YtnfnjhbaaefbpaaGreatDoor
namespace Rows

/-- THE TIED CARD OF 'laws.FnCodeOf'. -/
def fnCodeOfCard : Claim7 := { stood := { row := fnCodeOfRow, standIns := [], harness := (true, "555b1c53ceda2216fa9c764b5bb16755d8dbdd7f559bcab28e4c494c9b540ace"), looks := false }, kinds := [], alts := [], laidByText := true, laidKinds := [.data], laidTests := true, laidLooks := .later }
def FnCodeOfCardSaid : Prop := Claim7.holds Tryz.pinned (.plain (OpenSpec.ofChange fnCodeOfSpec)) fnCodeOfCard

/-- THE TIED CARD OF 'laws.FnCodeEnd'. -/
def fnCodeEndCard : Claim7 := { stood := { row := fnCodeEndRow, standIns := [], harness := (true, "555b1c53ceda2216fa9c764b5bb16755d8dbdd7f559bcab28e4c494c9b540ace"), looks := false }, kinds := [], alts := [], laidByText := true, laidKinds := [.data], laidTests := true, laidLooks := .later }
def FnCodeEndCardSaid : Prop := Claim7.holds Tryz.pinned (.plain (OpenSpec.ofChange fnCodeEndSpec)) fnCodeEndCard

/-- THE TIED CARD OF 'laws.FnCodeIn'. -/
def fnCodeInCard : Claim7 := { stood := { row := fnCodeInRow, standIns := [], harness := (true, "555b1c53ceda2216fa9c764b5bb16755d8dbdd7f559bcab28e4c494c9b540ace"), looks := false }, kinds := [], alts := [], laidByText := true, laidKinds := [.data], laidTests := true, laidLooks := .later }
def FnCodeInCardSaid : Prop := Claim7.holds Tryz.pinned (.plain (OpenSpec.ofChange fnCodeInSpec)) fnCodeInCard

/-- THE SECOND FORM's CARD OF 'laws.FnCodeOf'. -/
def fnCodeOfUptoCard : Claim7 := { stood := { row := fnCodeOfUptoRow, standIns := [], harness := (true, "555b1c53ceda2216fa9c764b5bb16755d8dbdd7f559bcab28e4c494c9b540ace"), looks := false }, kinds := [], alts := [], laidByText := true, laidKinds := [.data], laidTests := true, laidLooks := .later }
def FnCodeOfUptoCardSaid : Prop := Claim7.holds Tryz.pinned (.plain (OpenSpec.upto fnCodeOfSpec)) fnCodeOfUptoCard

/-- THE SECOND FORM's CARD OF 'laws.FnCodeEnd'. -/
def fnCodeEndUptoCard : Claim7 := { stood := { row := fnCodeEndUptoRow, standIns := [], harness := (true, "555b1c53ceda2216fa9c764b5bb16755d8dbdd7f559bcab28e4c494c9b540ace"), looks := false }, kinds := [], alts := [], laidByText := true, laidKinds := [.data], laidTests := true, laidLooks := .later }
def FnCodeEndUptoCardSaid : Prop := Claim7.holds Tryz.pinned (.plain (OpenSpec.upto fnCodeEndSpec)) fnCodeEndUptoCard

/-- THE SECOND FORM's CARD OF 'laws.FnCodeIn'. -/
def fnCodeInUptoCard : Claim7 := { stood := { row := fnCodeInUptoRow, standIns := [], harness := (true, "555b1c53ceda2216fa9c764b5bb16755d8dbdd7f559bcab28e4c494c9b540ace"), looks := false }, kinds := [], alts := [], laidByText := true, laidKinds := [.data], laidTests := true, laidLooks := .later }
def FnCodeInUptoCardSaid : Prop := Claim7.holds Tryz.pinned (.plain (OpenSpec.upto fnCodeInSpec)) fnCodeInUptoCard
end Rows
end Go.Proofs.YtnfnjhbaaefbpaaGreatDoor
