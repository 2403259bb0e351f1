/-
  NARROWER THAN 'FOR EVERY INPUT', by the rows' own cells (each row's printed sentence says how): FnExactStmtOk: loops · FnExactStmtsOk: loops · FnExactProgOk: loops · FnExactStmtsMany: loops · FnExactWholeOk: loops · FnExactWholeLike: loops.
  DERIVED. THE GIVEN ROWS OF THIS SEAT. 7 by the template 'for every input the law returns true; each argument reads behind the call as it read before'; 0 by the template 'total and deterministic' (their statements: YthamehcfenncaaaTotals.lean).
  GIVEN WITH THE SEED: the statements are not yours to turn. If you find one false, say at which input.
  Laid BY PROGRAM, IN A SANDBOX (cutbox-rows.mjs): the forced cells as the released guide's own fill.sh prints them over the translation 4a56e9f56b35c499… (all of the seat's roots in one cut). By AI agents, Wed Nov 11 2026. No macro, syntax, notation, axiom, sorry.
-/
import Derived.Test.YthamehcfenncaaaChecked
import GoSem.Claim
import GoSem.ClaimJoined
import GoSem.ClaimMapViews
import Derived.JoinedTies
import Derived.KernelRfl
namespace Go.Proofs.Ythamehcfenncaaa
/- THE CELL 'sum', in the pinned program and in every row, IS THE sha256 OF THE DUMP (.gsa) THAT YthamehcfenncaaaProg.lean LOADS. Nothing in Lean hashes anything: it is a label: what it is worth is what the hold of that sum in a sandbox is worth. -/
noncomputable def Try.pinned : Pinned := { name := "ythamehcfenncaaa", sum := "4a56e9f56b35c499f260a971390277d926bf44e0fbe35ad24d593fb51213669d", checked := Try.checked }
namespace Rows
def none {H : Type} : Left H := { results := [], args := [] }

/-- 'laws.FnWholeOk': WHATEVER THE INPUT: true; the input reads as it did. -/
def fnWholeOkSpec : ChangeSpec := { name := "fnWholeOk", fn := fun _ => fun
  | [d] => { results := [.lit (.bool true)], args := [d] }
  | _ => none }
def fnWholeOkRow : OpenClaim := { program := "ythamehcfenncaaa", sum := "4a56e9f56b35c499f260a971390277d926bf44e0fbe35ad24d593fb51213669d", func := "loop.example/changeringer/laws.FnWholeOk", spec := "fnWholeOk", unfollowed := true, recurses := true, apart := false }
def FnWholeOkSaid : Prop := fnWholeOkRow.holds Try.pinned (OpenSpec.ofChange fnWholeOkSpec)

/-- ITS FALSE NEIGHBOUR: 'it returns false'. Refute it at one input. -/
def fnWholeOkWrong : ChangeSpec := { name := "fnWholeOk", fn := fun _ => fun
  | [d] => { results := [.lit (.bool false)], args := [d] }
  | _ => none }
def FnWholeOkWrongFalsely : Prop := fnWholeOkRow.holds Try.pinned (OpenSpec.ofChange fnWholeOkWrong)

/-- 'laws.FnExactStmtOk': WHATEVER THE INPUT: true; the input reads as it did. -/
def fnExactStmtOkSpec : ChangeSpec := { name := "fnExactStmtOk", fn := fun _ => fun
  | [d1, d2, d3] => { results := [.lit (.bool true)], args := [d1, d2, d3] }
  | _ => none }
def fnExactStmtOkRow : OpenClaim := { program := "ythamehcfenncaaa", sum := "4a56e9f56b35c499f260a971390277d926bf44e0fbe35ad24d593fb51213669d", func := "loop.example/changeringer/laws.FnExactStmtOk", spec := "fnExactStmtOk", unfollowed := true, recurses := true, loops := true, apart := false }
def FnExactStmtOkSaid : Prop := fnExactStmtOkRow.holds Try.pinned (OpenSpec.ofChange fnExactStmtOkSpec)

/-- ITS FALSE NEIGHBOUR: 'it returns false'. Refute it at one input. -/
def fnExactStmtOkWrong : ChangeSpec := { name := "fnExactStmtOk", fn := fun _ => fun
  | [d1, d2, d3] => { results := [.lit (.bool false)], args := [d1, d2, d3] }
  | _ => none }
def FnExactStmtOkWrongFalsely : Prop := fnExactStmtOkRow.holds Try.pinned (OpenSpec.ofChange fnExactStmtOkWrong)

/-- 'laws.FnExactStmtsOk': WHATEVER THE INPUT: true; the input reads as it did. -/
def fnExactStmtsOkSpec : ChangeSpec := { name := "fnExactStmtsOk", fn := fun _ => fun
  | [d] => { results := [.lit (.bool true)], args := [d] }
  | _ => none }
def fnExactStmtsOkRow : OpenClaim := { program := "ythamehcfenncaaa", sum := "4a56e9f56b35c499f260a971390277d926bf44e0fbe35ad24d593fb51213669d", func := "loop.example/changeringer/laws.FnExactStmtsOk", spec := "fnExactStmtsOk", unfollowed := true, recurses := true, loops := true, apart := false }
def FnExactStmtsOkSaid : Prop := fnExactStmtsOkRow.holds Try.pinned (OpenSpec.ofChange fnExactStmtsOkSpec)

/-- ITS FALSE NEIGHBOUR: 'it returns false'. Refute it at one input. -/
def fnExactStmtsOkWrong : ChangeSpec := { name := "fnExactStmtsOk", fn := fun _ => fun
  | [d] => { results := [.lit (.bool false)], args := [d] }
  | _ => none }
def FnExactStmtsOkWrongFalsely : Prop := fnExactStmtsOkRow.holds Try.pinned (OpenSpec.ofChange fnExactStmtsOkWrong)

/-- 'laws.FnExactProgOk': WHATEVER THE INPUT: true; the input reads as it did. -/
def fnExactProgOkSpec : ChangeSpec := { name := "fnExactProgOk", fn := fun _ => fun
  | [d] => { results := [.lit (.bool true)], args := [d] }
  | _ => none }
def fnExactProgOkRow : OpenClaim := { program := "ythamehcfenncaaa", sum := "4a56e9f56b35c499f260a971390277d926bf44e0fbe35ad24d593fb51213669d", func := "loop.example/changeringer/laws.FnExactProgOk", spec := "fnExactProgOk", unfollowed := true, recurses := true, loops := true, apart := false }
def FnExactProgOkSaid : Prop := fnExactProgOkRow.holds Try.pinned (OpenSpec.ofChange fnExactProgOkSpec)

/-- ITS FALSE NEIGHBOUR: 'it returns false'. Refute it at one input. -/
def fnExactProgOkWrong : ChangeSpec := { name := "fnExactProgOk", fn := fun _ => fun
  | [d] => { results := [.lit (.bool false)], args := [d] }
  | _ => none }
def FnExactProgOkWrongFalsely : Prop := fnExactProgOkRow.holds Try.pinned (OpenSpec.ofChange fnExactProgOkWrong)

/-- 'laws.FnExactStmtsMany': WHATEVER THE INPUT: true; the input reads as it did. -/
def fnExactStmtsManySpec : ChangeSpec := { name := "fnExactStmtsMany", fn := fun _ => fun
  | [d] => { results := [.lit (.bool true)], args := [d] }
  | _ => none }
def fnExactStmtsManyRow : OpenClaim := { program := "ythamehcfenncaaa", sum := "4a56e9f56b35c499f260a971390277d926bf44e0fbe35ad24d593fb51213669d", func := "loop.example/changeringer/laws.FnExactStmtsMany", spec := "fnExactStmtsMany", unfollowed := true, recurses := true, loops := true, apart := false }
def FnExactStmtsManySaid : Prop := fnExactStmtsManyRow.holds Try.pinned (OpenSpec.ofChange fnExactStmtsManySpec)

/-- ITS FALSE NEIGHBOUR: 'it returns false'. Refute it at one input. -/
def fnExactStmtsManyWrong : ChangeSpec := { name := "fnExactStmtsMany", fn := fun _ => fun
  | [d] => { results := [.lit (.bool false)], args := [d] }
  | _ => none }
def FnExactStmtsManyWrongFalsely : Prop := fnExactStmtsManyRow.holds Try.pinned (OpenSpec.ofChange fnExactStmtsManyWrong)

/-- 'laws.FnExactWholeOk': WHATEVER THE INPUT: true; the input reads as it did. -/
def fnExactWholeOkSpec : ChangeSpec := { name := "fnExactWholeOk", fn := fun _ => fun
  | [d1, d2] => { results := [.lit (.bool true)], args := [d1, d2] }
  | _ => none }
def fnExactWholeOkRow : OpenClaim := { program := "ythamehcfenncaaa", sum := "4a56e9f56b35c499f260a971390277d926bf44e0fbe35ad24d593fb51213669d", func := "loop.example/changeringer/laws.FnExactWholeOk", spec := "fnExactWholeOk", unfollowed := true, recurses := true, loops := true, apart := false }
def FnExactWholeOkSaid : Prop := fnExactWholeOkRow.holds Try.pinned (OpenSpec.ofChange fnExactWholeOkSpec)

/-- ITS FALSE NEIGHBOUR: 'it returns false'. Refute it at one input. -/
def fnExactWholeOkWrong : ChangeSpec := { name := "fnExactWholeOk", fn := fun _ => fun
  | [d1, d2] => { results := [.lit (.bool false)], args := [d1, d2] }
  | _ => none }
def FnExactWholeOkWrongFalsely : Prop := fnExactWholeOkRow.holds Try.pinned (OpenSpec.ofChange fnExactWholeOkWrong)

/-- 'laws.FnExactWholeLike': WHATEVER THE INPUT: true; the input reads as it did. -/
def fnExactWholeLikeSpec : ChangeSpec := { name := "fnExactWholeLike", fn := fun _ => fun
  | [d1, d2] => { results := [.lit (.bool true)], args := [d1, d2] }
  | _ => none }
def fnExactWholeLikeRow : OpenClaim := { program := "ythamehcfenncaaa", sum := "4a56e9f56b35c499f260a971390277d926bf44e0fbe35ad24d593fb51213669d", func := "loop.example/changeringer/laws.FnExactWholeLike", spec := "fnExactWholeLike", recurses := true, loops := true, apart := false }
def FnExactWholeLikeSaid : Prop := fnExactWholeLikeRow.holds Try.pinned (OpenSpec.ofChange fnExactWholeLikeSpec)

/-- ITS FALSE NEIGHBOUR: 'it returns false'. Refute it at one input. -/
def fnExactWholeLikeWrong : ChangeSpec := { name := "fnExactWholeLike", fn := fun _ => fun
  | [d1, d2] => { results := [.lit (.bool false)], args := [d1, d2] }
  | _ => none }
def FnExactWholeLikeWrongFalsely : Prop := fnExactWholeLikeRow.holds Try.pinned (OpenSpec.ofChange fnExactWholeLikeWrong)

/- THE SECOND FORM. 'bulk': how many values and letters a reading holds, each counted each time it is reached (what is shared counts as often as it is met; a slice's spare places count too). A statement '..UptoSaid' is the law's where the arguments, and the package variables that the reading takes, are together of bulk at most 1048576: NARROWER than '..Said'. Prove '..Said' where nothing that the law and all that it calls make is longer than what came in: it says more and counts as full. Else prove '..UptoSaid'. A law counts once. -/
mutual
def uptoBulk {H : Type} : DataW H → Nat
  | .lit (.string bytes) => bytes.length + 1
  | .lit _ => 1
  | .nil => 1
  | .ptr d => uptoBulk d + 1
  | .slice elems spare => uptoBulkAll elems + uptoBulkAll spare + 1
  | .agg parts => uptoBulkAll parts + 1
  | .iface _ d => uptoBulk d + 1
  | .map entries => uptoBulkEntries entries + 1
  | .held _ => 1
def uptoBulkAll {H : Type} : List (DataW H) → Nat
  | [] => 0
  | d :: r => uptoBulk d + uptoBulkAll r
def uptoBulkEntries {H : Type} : List (Lit × DataW H) → Nat
  | [] => 0
  | x :: r => uptoBulkEntry x + uptoBulkEntries r
def uptoBulkEntry {H : Type} : Lit × DataW H → Nat
  | (.string bytes, d) => bytes.length + uptoBulk d + 1
  | (_, d) => uptoBulk d + 1
 end
def uptoSmall : (H : Type) → List (DataW H) → Bool := fun _ ds => decide (uptoBulkAll ds ≤ 1048576)
def OpenSpec.upto (s : _root_.Go.ChangeSpec) : _root_.Go.OpenSpec := { _root_.Go.OpenSpec.ofChange s with cond := some uptoSmall }

/-- 'laws.FnWholeOk', WHERE WHAT IT READS IS OF BULK AT MOST 1048576: true; the input reads as it did. -/
def fnWholeOkUptoRow : OpenClaim := { program := "ythamehcfenncaaa", sum := "4a56e9f56b35c499f260a971390277d926bf44e0fbe35ad24d593fb51213669d", func := "loop.example/changeringer/laws.FnWholeOk", spec := "fnWholeOk", unfollowed := true, recurses := true, apart := false, narrowed := true }
def FnWholeOkUptoSaid : Prop := fnWholeOkUptoRow.holds Try.pinned (OpenSpec.upto fnWholeOkSpec)

/-- 'laws.FnExactStmtOk', WHERE WHAT IT READS IS OF BULK AT MOST 1048576: true; the input reads as it did. -/
def fnExactStmtOkUptoRow : OpenClaim := { program := "ythamehcfenncaaa", sum := "4a56e9f56b35c499f260a971390277d926bf44e0fbe35ad24d593fb51213669d", func := "loop.example/changeringer/laws.FnExactStmtOk", spec := "fnExactStmtOk", unfollowed := true, recurses := true, loops := true, apart := false, narrowed := true }
def FnExactStmtOkUptoSaid : Prop := fnExactStmtOkUptoRow.holds Try.pinned (OpenSpec.upto fnExactStmtOkSpec)

/-- 'laws.FnExactStmtsOk', WHERE WHAT IT READS IS OF BULK AT MOST 1048576: true; the input reads as it did. -/
def fnExactStmtsOkUptoRow : OpenClaim := { program := "ythamehcfenncaaa", sum := "4a56e9f56b35c499f260a971390277d926bf44e0fbe35ad24d593fb51213669d", func := "loop.example/changeringer/laws.FnExactStmtsOk", spec := "fnExactStmtsOk", unfollowed := true, recurses := true, loops := true, apart := false, narrowed := true }
def FnExactStmtsOkUptoSaid : Prop := fnExactStmtsOkUptoRow.holds Try.pinned (OpenSpec.upto fnExactStmtsOkSpec)

/-- 'laws.FnExactProgOk', WHERE WHAT IT READS IS OF BULK AT MOST 1048576: true; the input reads as it did. -/
def fnExactProgOkUptoRow : OpenClaim := { program := "ythamehcfenncaaa", sum := "4a56e9f56b35c499f260a971390277d926bf44e0fbe35ad24d593fb51213669d", func := "loop.example/changeringer/laws.FnExactProgOk", spec := "fnExactProgOk", unfollowed := true, recurses := true, loops := true, apart := false, narrowed := true }
def FnExactProgOkUptoSaid : Prop := fnExactProgOkUptoRow.holds Try.pinned (OpenSpec.upto fnExactProgOkSpec)

/-- 'laws.FnExactStmtsMany', WHERE WHAT IT READS IS OF BULK AT MOST 1048576: true; the input reads as it did. -/
def fnExactStmtsManyUptoRow : OpenClaim := { program := "ythamehcfenncaaa", sum := "4a56e9f56b35c499f260a971390277d926bf44e0fbe35ad24d593fb51213669d", func := "loop.example/changeringer/laws.FnExactStmtsMany", spec := "fnExactStmtsMany", unfollowed := true, recurses := true, loops := true, apart := false, narrowed := true }
def FnExactStmtsManyUptoSaid : Prop := fnExactStmtsManyUptoRow.holds Try.pinned (OpenSpec.upto fnExactStmtsManySpec)

/-- 'laws.FnExactWholeOk', WHERE WHAT IT READS IS OF BULK AT MOST 1048576: true; the input reads as it did. -/
def fnExactWholeOkUptoRow : OpenClaim := { program := "ythamehcfenncaaa", sum := "4a56e9f56b35c499f260a971390277d926bf44e0fbe35ad24d593fb51213669d", func := "loop.example/changeringer/laws.FnExactWholeOk", spec := "fnExactWholeOk", unfollowed := true, recurses := true, loops := true, apart := false, narrowed := true }
def FnExactWholeOkUptoSaid : Prop := fnExactWholeOkUptoRow.holds Try.pinned (OpenSpec.upto fnExactWholeOkSpec)

/-- 'laws.FnExactWholeLike', WHERE WHAT IT READS IS OF BULK AT MOST 1048576: true; the input reads as it did. -/
def fnExactWholeLikeUptoRow : OpenClaim := { program := "ythamehcfenncaaa", sum := "4a56e9f56b35c499f260a971390277d926bf44e0fbe35ad24d593fb51213669d", func := "loop.example/changeringer/laws.FnExactWholeLike", spec := "fnExactWholeLike", recurses := true, loops := true, apart := false, narrowed := true }
def FnExactWholeLikeUptoSaid : Prop := fnExactWholeLikeUptoRow.holds Try.pinned (OpenSpec.upto fnExactWholeLikeSpec)

end Rows
end Go.Proofs.Ythamehcfenncaaa
