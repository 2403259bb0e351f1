/-
  DERIVED. GIVEN WITH THE SEED: THE CARDS: each row of YtlmgbpbiljnohaaGreatDoorRows.lean that lists a variable, with what it lists TIED to the program's text (the seventh form; the later family's looks); each row that meets fmt, with fmt's text TOLD by the authors' own Lean function (tested against real Go, not proved from fmt's source: count such statements apart). THE CARD IS WHAT COUNTS. Prove the row's statement (the work); the ties are given (YtlmgbpbiljnohaaGreatDoorTie.lean); close each card by the builder's one call (the guide's Derived/Test/ToyasCard.lean, 'card_holds'). Laid BY PROGRAM, IN A SANDBOX (cutbox-door.mjs). By AI agents, Wed Nov 11 2026. No macro, syntax, notation, axiom, sorry.
-/
import Derived.Test.YtlmgbpbiljnohaaGreatDoorRows
import GoSem.ClaimSeven
namespace Go.Proofs.YtlmgbpbiljnohaaGreatDoor
namespace Rows

/-- THE TIED CARD OF 'laws.FnCodeIn'. -/
def fnCodeInCard : Claim7 := { stood := { row := fnCodeInRow, standIns := [], harness := (true, "9e7cda749236e0eec6c45e871c22caa880f65009dbb960fe08aaafd557b062ac"), looks := false }, kinds := [], alts := [], laidByText := true, laidKinds := [.data], laidTests := true, laidLooks := .later }
def FnCodeInCardSaid : Prop := Claim7.holds Tryz.pinned (.plain (OpenSpec.ofChange fnCodeInSpec)) fnCodeInCard

/-- THE SECOND FORM's CARD OF 'laws.FnCodeIn'. -/
def fnCodeInUptoCard : Claim7 := { stood := { row := fnCodeInUptoRow, standIns := [], harness := (true, "9e7cda749236e0eec6c45e871c22caa880f65009dbb960fe08aaafd557b062ac"), looks := false }, kinds := [], alts := [], laidByText := true, laidKinds := [.data], laidTests := true, laidLooks := .later }
def FnCodeInUptoCardSaid : Prop := Claim7.holds Tryz.pinned (.plain (OpenSpec.upto fnCodeInSpec)) fnCodeInUptoCard
end Rows
end Go.Proofs.YtlmgbpbiljnohaaGreatDoor
