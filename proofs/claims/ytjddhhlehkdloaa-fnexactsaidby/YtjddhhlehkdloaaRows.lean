/-
  NARROWER THAN 'FOR EVERY INPUT', by the rows' own cells (each row's printed sentence says how): FnExactWorldSame: loops.
  DERIVED. THE GIVEN ROWS OF THIS SEAT. 3 by the template 'for every input the law returns true; each argument reads behind the call as it read before'; 0 by the template 'total and deterministic' (their statements: YtjddhhlehkdloaaTotals.lean).
  GIVEN WITH THE SEED: the statements are not yours to turn. If you find one false, say at which input.
  Laid BY PROGRAM, IN A SANDBOX (cutbox-rows.mjs): the forced cells as the released guide's own fill.sh prints them over the translation 853579e19b3789eb… (all of the seat's roots in one cut). By AI agents, Wed Nov 11 2026. No macro, syntax, notation, axiom, sorry.
-/
import Derived.Test.YtjddhhlehkdloaaChecked
import GoSem.Claim
import GoSem.ClaimJoined
import GoSem.ClaimMapViews
import Derived.JoinedTies
import Derived.KernelRfl
namespace Go.Proofs.Ytjddhhlehkdloaa
/- THE CELL 'sum', in the pinned program and in every row, IS THE sha256 OF THE DUMP (.gsa) THAT YtjddhhlehkdloaaProg.lean LOADS. Nothing in Lean hashes anything: it is a label: what it is worth is what the hold of that sum in a sandbox is worth. -/
noncomputable def Try.pinned : Pinned := { name := "ytjddhhlehkdloaa", sum := "853579e19b3789eb3954dc176034ef5b6103cd3f8c535f8b114bedb8466e1340", checked := Try.checked }
namespace Rows
def none {H : Type} : Left H := { results := [], args := [] }

/-- 'laws.FnMeanSaid': WHATEVER THE INPUT: true; the input reads as it did. -/
def fnMeanSaidSpec : ChangeSpec := { name := "fnMeanSaid", fn := fun _ => fun
  | [d] => { results := [.lit (.bool true)], args := [d] }
  | _ => none }
def fnMeanSaidRow : OpenClaim := { program := "ytjddhhlehkdloaa", sum := "853579e19b3789eb3954dc176034ef5b6103cd3f8c535f8b114bedb8466e1340", func := "loop.example/changeringer/laws.FnMeanSaid", spec := "fnMeanSaid", recurses := true, plainKeys := false, apart := false }
def FnMeanSaidSaid : Prop := fnMeanSaidRow.holds Try.pinned (OpenSpec.ofChange fnMeanSaidSpec)

/-- ITS FALSE NEIGHBOUR: 'it returns false'. Refute it at one input. -/
def fnMeanSaidWrong : ChangeSpec := { name := "fnMeanSaid", fn := fun _ => fun
  | [d] => { results := [.lit (.bool false)], args := [d] }
  | _ => none }
def FnMeanSaidWrongFalsely : Prop := fnMeanSaidRow.holds Try.pinned (OpenSpec.ofChange fnMeanSaidWrong)

/-- 'laws.FnExactWorldSame': WHATEVER THE INPUT: true; the input reads as it did. -/
def fnExactWorldSameSpec : ChangeSpec := { name := "fnExactWorldSame", fn := fun _ => fun
  | [d1, d2] => { results := [.lit (.bool true)], args := [d1, d2] }
  | _ => none }
def fnExactWorldSameRow : OpenClaim := { program := "ytjddhhlehkdloaa", sum := "853579e19b3789eb3954dc176034ef5b6103cd3f8c535f8b114bedb8466e1340", func := "loop.example/changeringer/laws.FnExactWorldSame", spec := "fnExactWorldSame", unfollowed := true, recurses := true, loops := true, plainKeys := false, apart := false }
def FnExactWorldSameSaid : Prop := fnExactWorldSameRow.holds Try.pinned (OpenSpec.ofChange fnExactWorldSameSpec)

/-- ITS FALSE NEIGHBOUR: 'it returns false'. Refute it at one input. -/
def fnExactWorldSameWrong : ChangeSpec := { name := "fnExactWorldSame", fn := fun _ => fun
  | [d1, d2] => { results := [.lit (.bool false)], args := [d1, d2] }
  | _ => none }
def FnExactWorldSameWrongFalsely : Prop := fnExactWorldSameRow.holds Try.pinned (OpenSpec.ofChange fnExactWorldSameWrong)

/-- 'laws.FnExactSaidBy': WHATEVER THE INPUT: true; the input reads as it did. -/
def fnExactSaidBySpec : ChangeSpec := { name := "fnExactSaidBy", fn := fun _ => fun
  | [d1, d2] => { results := [.lit (.bool true)], args := [d1, d2] }
  | _ => none }
def fnExactSaidByRow : OpenClaim := { program := "ytjddhhlehkdloaa", sum := "853579e19b3789eb3954dc176034ef5b6103cd3f8c535f8b114bedb8466e1340", func := "loop.example/changeringer/laws.FnExactSaidBy", spec := "fnExactSaidBy", plainKeys := false, apart := false }
def FnExactSaidBySaid : Prop := fnExactSaidByRow.holds Try.pinned (OpenSpec.ofChange fnExactSaidBySpec)

/-- ITS FALSE NEIGHBOUR: 'it returns false'. Refute it at one input. -/
def fnExactSaidByWrong : ChangeSpec := { name := "fnExactSaidBy", fn := fun _ => fun
  | [d1, d2] => { results := [.lit (.bool false)], args := [d1, d2] }
  | _ => none }
def FnExactSaidByWrongFalsely : Prop := fnExactSaidByRow.holds Try.pinned (OpenSpec.ofChange fnExactSaidByWrong)

/- THE SECOND FORM. 'bulk': how many values and letters a reading holds, each counted each time it is reached (what is shared counts as often as it is met; a slice's spare places count too). A statement '..UptoSaid' is the law's where the arguments, and the package variables that the reading takes, are together of bulk at most 1048576: NARROWER than '..Said'. Prove '..Said' where nothing that the law and all that it calls make is longer than what came in: it says more and counts as full. Else prove '..UptoSaid'. A law counts once. -/
mutual
def uptoBulk {H : Type} : DataW H → Nat
  | .lit (.string bytes) => bytes.length + 1
  | .lit _ => 1
  | .nil => 1
  | .ptr d => uptoBulk d + 1
  | .slice elems spare => uptoBulkAll elems + uptoBulkAll spare + 1
  | .agg parts => uptoBulkAll parts + 1
  | .iface _ d => uptoBulk d + 1
  | .map entries => uptoBulkEntries entries + 1
  | .held _ => 1
def uptoBulkAll {H : Type} : List (DataW H) → Nat
  | [] => 0
  | d :: r => uptoBulk d + uptoBulkAll r
def uptoBulkEntries {H : Type} : List (Lit × DataW H) → Nat
  | [] => 0
  | x :: r => uptoBulkEntry x + uptoBulkEntries r
def uptoBulkEntry {H : Type} : Lit × DataW H → Nat
  | (.string bytes, d) => bytes.length + uptoBulk d + 1
  | (_, d) => uptoBulk d + 1
 end
def uptoSmall : (H : Type) → List (DataW H) → Bool := fun _ ds => decide (uptoBulkAll ds ≤ 1048576)
def OpenSpec.upto (s : _root_.Go.ChangeSpec) : _root_.Go.OpenSpec := { _root_.Go.OpenSpec.ofChange s with cond := some uptoSmall }

/-- 'laws.FnMeanSaid', WHERE WHAT IT READS IS OF BULK AT MOST 1048576: true; the input reads as it did. -/
def fnMeanSaidUptoRow : OpenClaim := { program := "ytjddhhlehkdloaa", sum := "853579e19b3789eb3954dc176034ef5b6103cd3f8c535f8b114bedb8466e1340", func := "loop.example/changeringer/laws.FnMeanSaid", spec := "fnMeanSaid", recurses := true, plainKeys := false, apart := false, narrowed := true }
def FnMeanSaidUptoSaid : Prop := fnMeanSaidUptoRow.holds Try.pinned (OpenSpec.upto fnMeanSaidSpec)

/-- 'laws.FnExactWorldSame', WHERE WHAT IT READS IS OF BULK AT MOST 1048576: true; the input reads as it did. -/
def fnExactWorldSameUptoRow : OpenClaim := { program := "ytjddhhlehkdloaa", sum := "853579e19b3789eb3954dc176034ef5b6103cd3f8c535f8b114bedb8466e1340", func := "loop.example/changeringer/laws.FnExactWorldSame", spec := "fnExactWorldSame", unfollowed := true, recurses := true, loops := true, plainKeys := false, apart := false, narrowed := true }
def FnExactWorldSameUptoSaid : Prop := fnExactWorldSameUptoRow.holds Try.pinned (OpenSpec.upto fnExactWorldSameSpec)

/-- 'laws.FnExactSaidBy', WHERE WHAT IT READS IS OF BULK AT MOST 1048576: true; the input reads as it did. -/
def fnExactSaidByUptoRow : OpenClaim := { program := "ytjddhhlehkdloaa", sum := "853579e19b3789eb3954dc176034ef5b6103cd3f8c535f8b114bedb8466e1340", func := "loop.example/changeringer/laws.FnExactSaidBy", spec := "fnExactSaidBy", plainKeys := false, apart := false, narrowed := true }
def FnExactSaidByUptoSaid : Prop := fnExactSaidByUptoRow.holds Try.pinned (OpenSpec.upto fnExactSaidBySpec)

end Rows
end Go.Proofs.Ytjddhhlehkdloaa
