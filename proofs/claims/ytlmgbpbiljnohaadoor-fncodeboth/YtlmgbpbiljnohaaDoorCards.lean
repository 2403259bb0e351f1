/-
  DERIVED. GIVEN WITH THE SEED: THE CARDS: each row of YtlmgbpbiljnohaaDoorRows.lean that lists a variable, with what it lists TIED to the program's text (the seventh form; the later family's looks); each row that meets fmt, with fmt's text TOLD by the authors' own Lean function (tested against real Go, not proved from fmt's source: count such statements apart). THE CARD IS WHAT COUNTS. Prove the row's statement (the work); the ties are given (YtlmgbpbiljnohaaDoorTie.lean); close each card by the builder's one call (the guide's Derived/Test/ToyasCard.lean, 'card_holds'). Laid BY PROGRAM, IN A SANDBOX (cutbox-door.mjs). By AI agents, Wed Nov 11 2026. No macro, syntax, notation, axiom, sorry.
-/
import Derived.Test.YtlmgbpbiljnohaaDoorRows
import GoSem.ClaimSeven
namespace Go.Proofs.YtlmgbpbiljnohaaDoor
namespace Rows

/-- THE TIED CARD OF 'laws.FnExactCodeOf'. -/
def fnExactCodeOfCard : Claim7 := { stood := { row := fnExactCodeOfRow, standIns := [], harness := (true, "2e9bb46ccac4d3fa27faeca27707efd20d8141047d9c705b878f97d2215d4092"), looks := false }, kinds := [], alts := [], laidByText := true, laidKinds := [.data], laidTests := true, laidLooks := .later }
def FnExactCodeOfCardSaid : Prop := Claim7.holds Tryd.pinned (.plain (OpenSpec.ofChange fnExactCodeOfSpec)) fnExactCodeOfCard

/-- THE TIED CARD OF 'laws.FnCodeBoth'. -/
def fnCodeBothCard : Claim7 := { stood := { row := fnCodeBothRow, standIns := [], harness := (true, "2e9bb46ccac4d3fa27faeca27707efd20d8141047d9c705b878f97d2215d4092"), looks := false }, kinds := [], alts := [], laidByText := true, laidKinds := [.data], laidTests := true, laidLooks := .later }
def FnCodeBothCardSaid : Prop := Claim7.holds Tryd.pinned (.plain (OpenSpec.ofChange fnCodeBothSpec)) fnCodeBothCard

/-- THE TIED CARD OF 'laws.FnCodeJump'. -/
def fnCodeJumpCard : Claim7 := { stood := { row := fnCodeJumpRow, standIns := [], harness := (true, "2e9bb46ccac4d3fa27faeca27707efd20d8141047d9c705b878f97d2215d4092"), looks := false }, kinds := [], alts := [], laidByText := true, laidKinds := [.data], laidTests := true, laidLooks := .later }
def FnCodeJumpCardSaid : Prop := Claim7.holds Tryd.pinned (.plain (OpenSpec.ofChange fnCodeJumpSpec)) fnCodeJumpCard

/-- THE TIED CARD OF 'laws.FnCodeRooms'. -/
def fnCodeRoomsCard : Claim7 := { stood := { row := fnCodeRoomsRow, standIns := [], harness := (true, "2e9bb46ccac4d3fa27faeca27707efd20d8141047d9c705b878f97d2215d4092"), looks := false }, kinds := [], alts := [], laidByText := true, laidKinds := [.data], laidTests := true, laidLooks := .later }
def FnCodeRoomsCardSaid : Prop := Claim7.holds Tryd.pinned (.plain (OpenSpec.ofChange fnCodeRoomsSpec)) fnCodeRoomsCard

/-- THE SECOND FORM's CARD OF 'laws.FnExactCodeOf'. -/
def fnExactCodeOfUptoCard : Claim7 := { stood := { row := fnExactCodeOfUptoRow, standIns := [], harness := (true, "2e9bb46ccac4d3fa27faeca27707efd20d8141047d9c705b878f97d2215d4092"), looks := false }, kinds := [], alts := [], laidByText := true, laidKinds := [.data], laidTests := true, laidLooks := .later }
def FnExactCodeOfUptoCardSaid : Prop := Claim7.holds Tryd.pinned (.plain (OpenSpec.upto fnExactCodeOfSpec)) fnExactCodeOfUptoCard

/-- THE SECOND FORM's CARD OF 'laws.FnCodeBoth'. -/
def fnCodeBothUptoCard : Claim7 := { stood := { row := fnCodeBothUptoRow, standIns := [], harness := (true, "2e9bb46ccac4d3fa27faeca27707efd20d8141047d9c705b878f97d2215d4092"), looks := false }, kinds := [], alts := [], laidByText := true, laidKinds := [.data], laidTests := true, laidLooks := .later }
def FnCodeBothUptoCardSaid : Prop := Claim7.holds Tryd.pinned (.plain (OpenSpec.upto fnCodeBothSpec)) fnCodeBothUptoCard

/-- THE SECOND FORM's CARD OF 'laws.FnCodeJump'. -/
def fnCodeJumpUptoCard : Claim7 := { stood := { row := fnCodeJumpUptoRow, standIns := [], harness := (true, "2e9bb46ccac4d3fa27faeca27707efd20d8141047d9c705b878f97d2215d4092"), looks := false }, kinds := [], alts := [], laidByText := true, laidKinds := [.data], laidTests := true, laidLooks := .later }
def FnCodeJumpUptoCardSaid : Prop := Claim7.holds Tryd.pinned (.plain (OpenSpec.upto fnCodeJumpSpec)) fnCodeJumpUptoCard

/-- THE SECOND FORM's CARD OF 'laws.FnCodeRooms'. -/
def fnCodeRoomsUptoCard : Claim7 := { stood := { row := fnCodeRoomsUptoRow, standIns := [], harness := (true, "2e9bb46ccac4d3fa27faeca27707efd20d8141047d9c705b878f97d2215d4092"), looks := false }, kinds := [], alts := [], laidByText := true, laidKinds := [.data], laidTests := true, laidLooks := .later }
def FnCodeRoomsUptoCardSaid : Prop := Claim7.holds Tryd.pinned (.plain (OpenSpec.upto fnCodeRoomsSpec)) fnCodeRoomsUptoCard
end Rows
end Go.Proofs.YtlmgbpbiljnohaaDoor
