/-
  NARROWER THAN 'FOR EVERY INPUT', by the rows' own cells (each row's printed sentence says how): FnCodeOf: laid · FnCodeEnd: laid · FnCodeIn: laid.
  DERIVED. THE GIVEN ROWS OF THIS SEAT. 3 by the template 'for every input the law returns true; each argument reads behind the call as it read before'; 0 by the template 'total and deterministic' (their statements: YtnfnjhbaaefbpaaGreatDoorTotals.lean).
  GIVEN WITH THE SEED: the statements are not yours to turn. If you find one false, say at which input.
  Laid BY PROGRAM, IN A SANDBOX (cutbox-rows.mjs): the forced cells as the released guide's own fill.sh prints them over the translation 8fcc9080eb7e1f6b… (all of the seat's roots in one cut). By AI agents, Wed Nov 11 2026. No macro, syntax, notation, axiom, sorry.
-/
import Derived.Test.YtnfnjhbaaefbpaaGreatDoorChecked
import GoSem.Claim
import GoSem.ClaimJoined
import GoSem.ClaimMapViews
import Derived.JoinedTies
import Derived.KernelRfl
namespace Go.Proofs.YtnfnjhbaaefbpaaGreatDoor
/- THE CELL 'sum', in the pinned program and in every row, IS THE sha256 OF THE DUMP (.gsa) THAT YtnfnjhbaaefbpaaGreatDoorProg.lean LOADS. Nothing in Lean hashes anything: it is a label: what it is worth is what the hold of that sum in a sandbox is worth. -/
noncomputable def Tryz.pinned : Pinned := { name := "ytnfnjhbaaefbpaagreatdoor", sum := "8fcc9080eb7e1f6b23d8b8d8f54268222a9d6dd3b5143796f9d753331da3c69d", checked := Tryz.checked }
namespace Rows
def none {H : Type} : Left H := { results := [], args := [] }

/- WHAT THE LISTED PACKAGE-LEVEL VARIABLES READ AS WHEN THE CALL BEGINS. Each datum BY PROGRAM (the guide's laid-datum.mjs) off the statement by which the dump's own 'gosem.cut.vars' lays the variable. In a bare row this is a premise. The card (YtnfnjhbaaefbpaaGreatDoorCards.lean) ties it to the program's text. -/
def laid_loop_example_changeringer_impl_plainOps {H : Type} : DataW H := .agg [.lit (.int .i64 0), .lit (.int .i64 1), .lit (.int .i64 2), .lit (.int .i64 3), .lit (.int .i64 4), .lit (.int .i64 5), .lit (.int .i64 0), .lit (.int .i64 0), .lit (.int .i64 0), .lit (.int .i64 10), .lit (.int .i64 11), .lit (.int .i64 12)]

/-- 'laws.FnCodeOf': WHATEVER THE INPUT: true; the input reads as it did. -/
def fnCodeOfSpec : ChangeSpec := { name := "fnCodeOf", vars := ["loop.example/changeringer/impl.plainOps"], fn := fun _ => fun
  | [d, g1] => { results := [.lit (.bool true)], args := [d], vars := [g1] }
  | _ => none }
def fnCodeOfRow : OpenClaim := { program := "ytnfnjhbaaefbpaagreatdoor", sum := "8fcc9080eb7e1f6b23d8b8d8f54268222a9d6dd3b5143796f9d753331da3c69d", func := "loop.example/changeringer/laws.FnCodeOf", spec := "fnCodeOf", unfollowed := true, recurses := true, named := ["loop.example/changeringer/impl.plainOps"], apart := false, laid := [("loop.example/changeringer/impl.plainOps", laid_loop_example_changeringer_impl_plainOps)] }
def FnCodeOfSaid : Prop := fnCodeOfRow.holds Tryz.pinned (OpenSpec.ofChange fnCodeOfSpec)

/-- ITS FALSE NEIGHBOUR: 'it returns false'. Refute it at one input. -/
def fnCodeOfWrong : ChangeSpec := { name := "fnCodeOf", vars := ["loop.example/changeringer/impl.plainOps"], fn := fun _ => fun
  | [d, g1] => { results := [.lit (.bool false)], args := [d], vars := [g1] }
  | _ => none }
def FnCodeOfWrongFalsely : Prop := fnCodeOfRow.holds Tryz.pinned (OpenSpec.ofChange fnCodeOfWrong)

/-- 'laws.FnCodeEnd': WHATEVER THE INPUT: true; the input reads as it did. -/
def fnCodeEndSpec : ChangeSpec := { name := "fnCodeEnd", vars := ["loop.example/changeringer/impl.plainOps"], fn := fun _ => fun
  | [d, g1] => { results := [.lit (.bool true)], args := [d], vars := [g1] }
  | _ => none }
def fnCodeEndRow : OpenClaim := { program := "ytnfnjhbaaefbpaagreatdoor", sum := "8fcc9080eb7e1f6b23d8b8d8f54268222a9d6dd3b5143796f9d753331da3c69d", func := "loop.example/changeringer/laws.FnCodeEnd", spec := "fnCodeEnd", unfollowed := true, recurses := true, named := ["loop.example/changeringer/impl.plainOps"], apart := false, laid := [("loop.example/changeringer/impl.plainOps", laid_loop_example_changeringer_impl_plainOps)] }
def FnCodeEndSaid : Prop := fnCodeEndRow.holds Tryz.pinned (OpenSpec.ofChange fnCodeEndSpec)

/-- ITS FALSE NEIGHBOUR: 'it returns false'. Refute it at one input. -/
def fnCodeEndWrong : ChangeSpec := { name := "fnCodeEnd", vars := ["loop.example/changeringer/impl.plainOps"], fn := fun _ => fun
  | [d, g1] => { results := [.lit (.bool false)], args := [d], vars := [g1] }
  | _ => none }
def FnCodeEndWrongFalsely : Prop := fnCodeEndRow.holds Tryz.pinned (OpenSpec.ofChange fnCodeEndWrong)

/-- 'laws.FnCodeIn': WHATEVER THE INPUT: true; the input reads as it did. -/
def fnCodeInSpec : ChangeSpec := { name := "fnCodeIn", vars := ["loop.example/changeringer/impl.plainOps"], fn := fun _ => fun
  | [d, g1] => { results := [.lit (.bool true)], args := [d], vars := [g1] }
  | _ => none }
def fnCodeInRow : OpenClaim := { program := "ytnfnjhbaaefbpaagreatdoor", sum := "8fcc9080eb7e1f6b23d8b8d8f54268222a9d6dd3b5143796f9d753331da3c69d", func := "loop.example/changeringer/laws.FnCodeIn", spec := "fnCodeIn", unfollowed := true, recurses := true, named := ["loop.example/changeringer/impl.plainOps"], apart := false, laid := [("loop.example/changeringer/impl.plainOps", laid_loop_example_changeringer_impl_plainOps)] }
def FnCodeInSaid : Prop := fnCodeInRow.holds Tryz.pinned (OpenSpec.ofChange fnCodeInSpec)

/-- ITS FALSE NEIGHBOUR: 'it returns false'. Refute it at one input. -/
def fnCodeInWrong : ChangeSpec := { name := "fnCodeIn", vars := ["loop.example/changeringer/impl.plainOps"], fn := fun _ => fun
  | [d, g1] => { results := [.lit (.bool false)], args := [d], vars := [g1] }
  | _ => none }
def FnCodeInWrongFalsely : Prop := fnCodeInRow.holds Tryz.pinned (OpenSpec.ofChange fnCodeInWrong)

/- THE SECOND FORM. 'bulk': how many values and letters a reading holds, each counted each time it is reached (what is shared counts as often as it is met; a slice's spare places count too). A statement '..UptoSaid' is the law's where the arguments, and the package variables that the reading takes, are together of bulk at most 1048576: NARROWER than '..Said'. Prove '..Said' where nothing that the law and all that it calls make is longer than what came in: it says more and counts as full. Else prove '..UptoSaid'. A law counts once. -/
mutual
def uptoBulk {H : Type} : DataW H → Nat
  | .lit (.string bytes) => bytes.length + 1
  | .lit _ => 1
  | .nil => 1
  | .ptr d => uptoBulk d + 1
  | .slice elems spare => uptoBulkAll elems + uptoBulkAll spare + 1
  | .agg parts => uptoBulkAll parts + 1
  | .iface _ d => uptoBulk d + 1
  | .map entries => uptoBulkEntries entries + 1
  | .held _ => 1
def uptoBulkAll {H : Type} : List (DataW H) → Nat
  | [] => 0
  | d :: r => uptoBulk d + uptoBulkAll r
def uptoBulkEntries {H : Type} : List (Lit × DataW H) → Nat
  | [] => 0
  | x :: r => uptoBulkEntry x + uptoBulkEntries r
def uptoBulkEntry {H : Type} : Lit × DataW H → Nat
  | (.string bytes, d) => bytes.length + uptoBulk d + 1
  | (_, d) => uptoBulk d + 1
 end
def uptoSmall : (H : Type) → List (DataW H) → Bool := fun _ ds => decide (uptoBulkAll ds ≤ 1048576)
def OpenSpec.upto (s : _root_.Go.ChangeSpec) : _root_.Go.OpenSpec := { _root_.Go.OpenSpec.ofChange s with cond := some uptoSmall }

/-- 'laws.FnCodeOf', WHERE WHAT IT READS IS OF BULK AT MOST 1048576: true; the input reads as it did. -/
def fnCodeOfUptoRow : OpenClaim := { program := "ytnfnjhbaaefbpaagreatdoor", sum := "8fcc9080eb7e1f6b23d8b8d8f54268222a9d6dd3b5143796f9d753331da3c69d", func := "loop.example/changeringer/laws.FnCodeOf", spec := "fnCodeOf", unfollowed := true, recurses := true, named := ["loop.example/changeringer/impl.plainOps"], apart := false, laid := [("loop.example/changeringer/impl.plainOps", laid_loop_example_changeringer_impl_plainOps)], narrowed := true }
def FnCodeOfUptoSaid : Prop := fnCodeOfUptoRow.holds Tryz.pinned (OpenSpec.upto fnCodeOfSpec)

/-- 'laws.FnCodeEnd', WHERE WHAT IT READS IS OF BULK AT MOST 1048576: true; the input reads as it did. -/
def fnCodeEndUptoRow : OpenClaim := { program := "ytnfnjhbaaefbpaagreatdoor", sum := "8fcc9080eb7e1f6b23d8b8d8f54268222a9d6dd3b5143796f9d753331da3c69d", func := "loop.example/changeringer/laws.FnCodeEnd", spec := "fnCodeEnd", unfollowed := true, recurses := true, named := ["loop.example/changeringer/impl.plainOps"], apart := false, laid := [("loop.example/changeringer/impl.plainOps", laid_loop_example_changeringer_impl_plainOps)], narrowed := true }
def FnCodeEndUptoSaid : Prop := fnCodeEndUptoRow.holds Tryz.pinned (OpenSpec.upto fnCodeEndSpec)

/-- 'laws.FnCodeIn', WHERE WHAT IT READS IS OF BULK AT MOST 1048576: true; the input reads as it did. -/
def fnCodeInUptoRow : OpenClaim := { program := "ytnfnjhbaaefbpaagreatdoor", sum := "8fcc9080eb7e1f6b23d8b8d8f54268222a9d6dd3b5143796f9d753331da3c69d", func := "loop.example/changeringer/laws.FnCodeIn", spec := "fnCodeIn", unfollowed := true, recurses := true, named := ["loop.example/changeringer/impl.plainOps"], apart := false, laid := [("loop.example/changeringer/impl.plainOps", laid_loop_example_changeringer_impl_plainOps)], narrowed := true }
def FnCodeInUptoSaid : Prop := fnCodeInUptoRow.holds Tryz.pinned (OpenSpec.upto fnCodeInSpec)

end Rows
end Go.Proofs.YtnfnjhbaaefbpaaGreatDoor
