/-
  NARROWER THAN 'FOR EVERY INPUT', by the rows' own cells (each row's printed sentence says how): FnExactWholeOk: loops.
  DERIVED. THE GIVEN ROWS OF THIS SEAT. 8 by the template 'for every input the law returns true; each argument reads behind the call as it read before'; 0 by the template 'total and deterministic' (their statements: YtoinagefhbpakaaTotals.lean).
  GIVEN WITH THE SEED: the statements are not yours to turn. If you find one false, say at which input.
  Laid BY PROGRAM, IN A SANDBOX (cutbox-rows.mjs): the forced cells as the released guide's own fill.sh prints them over the translation 8bacb4578664b0f5… (all of the seat's roots in one cut). By AI agents, Wed Nov 11 2026. No macro, syntax, notation, axiom, sorry.
-/
import Derived.Test.YtoinagefhbpakaaChecked
import GoSem.Claim
import GoSem.ClaimJoined
import GoSem.ClaimMapViews
import Derived.JoinedTies
import Derived.KernelRfl
namespace Go.Proofs.Ytoinagefhbpakaa
/- THE CELL 'sum', in the pinned program and in every row, IS THE sha256 OF THE DUMP (.gsa) THAT YtoinagefhbpakaaProg.lean LOADS. Nothing in Lean hashes anything: it is a label: what it is worth is what the hold of that sum in a sandbox is worth. -/
noncomputable def Try.pinned : Pinned := { name := "ytoinagefhbpakaa", sum := "8bacb4578664b0f5815d5d8c801c51bf71856013925d98b18c646cac0264598c", checked := Try.checked }
namespace Rows
def none {H : Type} : Left H := { results := [], args := [] }

/-- 'laws.FnExactClockJoin': WHATEVER THE INPUT: true; the input reads as it did. -/
def fnExactClockJoinSpec : ChangeSpec := { name := "fnExactClockJoin", fn := fun _ => fun
  | [d1, d2] => { results := [.lit (.bool true)], args := [d1, d2] }
  | _ => none }
def fnExactClockJoinRow : OpenClaim := { program := "ytoinagefhbpakaa", sum := "8bacb4578664b0f5815d5d8c801c51bf71856013925d98b18c646cac0264598c", func := "loop.example/changeringer/laws.FnExactClockJoin", spec := "fnExactClockJoin", apart := false }
def FnExactClockJoinSaid : Prop := fnExactClockJoinRow.holds Try.pinned (OpenSpec.ofChange fnExactClockJoinSpec)

/-- ITS FALSE NEIGHBOUR: 'it returns false'. Refute it at one input. -/
def fnExactClockJoinWrong : ChangeSpec := { name := "fnExactClockJoin", fn := fun _ => fun
  | [d1, d2] => { results := [.lit (.bool false)], args := [d1, d2] }
  | _ => none }
def FnExactClockJoinWrongFalsely : Prop := fnExactClockJoinRow.holds Try.pinned (OpenSpec.ofChange fnExactClockJoinWrong)

/-- 'laws.FnExactClockUnder': WHATEVER THE INPUT: true; the input reads as it did. -/
def fnExactClockUnderSpec : ChangeSpec := { name := "fnExactClockUnder", fn := fun _ => fun
  | [d1, d2] => { results := [.lit (.bool true)], args := [d1, d2] }
  | _ => none }
def fnExactClockUnderRow : OpenClaim := { program := "ytoinagefhbpakaa", sum := "8bacb4578664b0f5815d5d8c801c51bf71856013925d98b18c646cac0264598c", func := "loop.example/changeringer/laws.FnExactClockUnder", spec := "fnExactClockUnder", apart := false }
def FnExactClockUnderSaid : Prop := fnExactClockUnderRow.holds Try.pinned (OpenSpec.ofChange fnExactClockUnderSpec)

/-- ITS FALSE NEIGHBOUR: 'it returns false'. Refute it at one input. -/
def fnExactClockUnderWrong : ChangeSpec := { name := "fnExactClockUnder", fn := fun _ => fun
  | [d1, d2] => { results := [.lit (.bool false)], args := [d1, d2] }
  | _ => none }
def FnExactClockUnderWrongFalsely : Prop := fnExactClockUnderRow.holds Try.pinned (OpenSpec.ofChange fnExactClockUnderWrong)

/-- 'laws.FnExactMarkAhead': WHATEVER THE INPUT: true; the input reads as it did. -/
def fnExactMarkAheadSpec : ChangeSpec := { name := "fnExactMarkAhead", fn := fun _ => fun
  | [d1, d2] => { results := [.lit (.bool true)], args := [d1, d2] }
  | _ => none }
def fnExactMarkAheadRow : OpenClaim := { program := "ytoinagefhbpakaa", sum := "8bacb4578664b0f5815d5d8c801c51bf71856013925d98b18c646cac0264598c", func := "loop.example/changeringer/laws.FnExactMarkAhead", spec := "fnExactMarkAhead", apart := false }
def FnExactMarkAheadSaid : Prop := fnExactMarkAheadRow.holds Try.pinned (OpenSpec.ofChange fnExactMarkAheadSpec)

/-- ITS FALSE NEIGHBOUR: 'it returns false'. Refute it at one input. -/
def fnExactMarkAheadWrong : ChangeSpec := { name := "fnExactMarkAhead", fn := fun _ => fun
  | [d1, d2] => { results := [.lit (.bool false)], args := [d1, d2] }
  | _ => none }
def FnExactMarkAheadWrongFalsely : Prop := fnExactMarkAheadRow.holds Try.pinned (OpenSpec.ofChange fnExactMarkAheadWrong)

/-- 'laws.FnClockJoin': WHATEVER THE INPUT: true; the input reads as it did. -/
def fnClockJoinSpec : ChangeSpec := { name := "fnClockJoin", fn := fun _ => fun
  | [d1, d2] => { results := [.lit (.bool true)], args := [d1, d2] }
  | _ => none }
def fnClockJoinRow : OpenClaim := { program := "ytoinagefhbpakaa", sum := "8bacb4578664b0f5815d5d8c801c51bf71856013925d98b18c646cac0264598c", func := "loop.example/changeringer/laws.FnClockJoin", spec := "fnClockJoin", apart := false }
def FnClockJoinSaid : Prop := fnClockJoinRow.holds Try.pinned (OpenSpec.ofChange fnClockJoinSpec)

/-- ITS FALSE NEIGHBOUR: 'it returns false'. Refute it at one input. -/
def fnClockJoinWrong : ChangeSpec := { name := "fnClockJoin", fn := fun _ => fun
  | [d1, d2] => { results := [.lit (.bool false)], args := [d1, d2] }
  | _ => none }
def FnClockJoinWrongFalsely : Prop := fnClockJoinRow.holds Try.pinned (OpenSpec.ofChange fnClockJoinWrong)

/-- 'laws.FnClockUnder': WHATEVER THE INPUT: true; the input reads as it did. -/
def fnClockUnderSpec : ChangeSpec := { name := "fnClockUnder", fn := fun _ => fun
  | [d1, d2] => { results := [.lit (.bool true)], args := [d1, d2] }
  | _ => none }
def fnClockUnderRow : OpenClaim := { program := "ytoinagefhbpakaa", sum := "8bacb4578664b0f5815d5d8c801c51bf71856013925d98b18c646cac0264598c", func := "loop.example/changeringer/laws.FnClockUnder", spec := "fnClockUnder", apart := false }
def FnClockUnderSaid : Prop := fnClockUnderRow.holds Try.pinned (OpenSpec.ofChange fnClockUnderSpec)

/-- ITS FALSE NEIGHBOUR: 'it returns false'. Refute it at one input. -/
def fnClockUnderWrong : ChangeSpec := { name := "fnClockUnder", fn := fun _ => fun
  | [d1, d2] => { results := [.lit (.bool false)], args := [d1, d2] }
  | _ => none }
def FnClockUnderWrongFalsely : Prop := fnClockUnderRow.holds Try.pinned (OpenSpec.ofChange fnClockUnderWrong)

/-- 'laws.FnClockSelf': WHATEVER THE INPUT: true; the input reads as it did. -/
def fnClockSelfSpec : ChangeSpec := { name := "fnClockSelf", fn := fun _ => fun
  | [d] => { results := [.lit (.bool true)], args := [d] }
  | _ => none }
def fnClockSelfRow : OpenClaim := { program := "ytoinagefhbpakaa", sum := "8bacb4578664b0f5815d5d8c801c51bf71856013925d98b18c646cac0264598c", func := "loop.example/changeringer/laws.FnClockSelf", spec := "fnClockSelf", apart := false }
def FnClockSelfSaid : Prop := fnClockSelfRow.holds Try.pinned (OpenSpec.ofChange fnClockSelfSpec)

/-- ITS FALSE NEIGHBOUR: 'it returns false'. Refute it at one input. -/
def fnClockSelfWrong : ChangeSpec := { name := "fnClockSelf", fn := fun _ => fun
  | [d] => { results := [.lit (.bool false)], args := [d] }
  | _ => none }
def FnClockSelfWrongFalsely : Prop := fnClockSelfRow.holds Try.pinned (OpenSpec.ofChange fnClockSelfWrong)

/-- 'laws.FnExactWholeOk': WHATEVER THE INPUT: true; the input reads as it did. -/
def fnExactWholeOkSpec : ChangeSpec := { name := "fnExactWholeOk", fn := fun _ => fun
  | [d1, d2] => { results := [.lit (.bool true)], args := [d1, d2] }
  | _ => none }
def fnExactWholeOkRow : OpenClaim := { program := "ytoinagefhbpakaa", sum := "8bacb4578664b0f5815d5d8c801c51bf71856013925d98b18c646cac0264598c", func := "loop.example/changeringer/laws.FnExactWholeOk", spec := "fnExactWholeOk", unfollowed := true, recurses := true, loops := true, apart := false }
def FnExactWholeOkSaid : Prop := fnExactWholeOkRow.holds Try.pinned (OpenSpec.ofChange fnExactWholeOkSpec)

/-- ITS FALSE NEIGHBOUR: 'it returns false'. Refute it at one input. -/
def fnExactWholeOkWrong : ChangeSpec := { name := "fnExactWholeOk", fn := fun _ => fun
  | [d1, d2] => { results := [.lit (.bool false)], args := [d1, d2] }
  | _ => none }
def FnExactWholeOkWrongFalsely : Prop := fnExactWholeOkRow.holds Try.pinned (OpenSpec.ofChange fnExactWholeOkWrong)

/-- 'laws.FnWholeOk': WHATEVER THE INPUT: true; the input reads as it did. -/
def fnWholeOkSpec : ChangeSpec := { name := "fnWholeOk", fn := fun _ => fun
  | [d] => { results := [.lit (.bool true)], args := [d] }
  | _ => none }
def fnWholeOkRow : OpenClaim := { program := "ytoinagefhbpakaa", sum := "8bacb4578664b0f5815d5d8c801c51bf71856013925d98b18c646cac0264598c", func := "loop.example/changeringer/laws.FnWholeOk", spec := "fnWholeOk", unfollowed := true, recurses := true, apart := false }
def FnWholeOkSaid : Prop := fnWholeOkRow.holds Try.pinned (OpenSpec.ofChange fnWholeOkSpec)

/-- ITS FALSE NEIGHBOUR: 'it returns false'. Refute it at one input. -/
def fnWholeOkWrong : ChangeSpec := { name := "fnWholeOk", fn := fun _ => fun
  | [d] => { results := [.lit (.bool false)], args := [d] }
  | _ => none }
def FnWholeOkWrongFalsely : Prop := fnWholeOkRow.holds Try.pinned (OpenSpec.ofChange fnWholeOkWrong)

/- THE SECOND FORM. 'bulk': how many values and letters a reading holds, each counted each time it is reached (what is shared counts as often as it is met; a slice's spare places count too). A statement '..UptoSaid' is the law's where the arguments, and the package variables that the reading takes, are together of bulk at most 1048576: NARROWER than '..Said'. Prove '..Said' where nothing that the law and all that it calls make is longer than what came in: it says more and counts as full. Else prove '..UptoSaid'. A law counts once. -/
mutual
def uptoBulk {H : Type} : DataW H → Nat
  | .lit (.string bytes) => bytes.length + 1
  | .lit _ => 1
  | .nil => 1
  | .ptr d => uptoBulk d + 1
  | .slice elems spare => uptoBulkAll elems + uptoBulkAll spare + 1
  | .agg parts => uptoBulkAll parts + 1
  | .iface _ d => uptoBulk d + 1
  | .map entries => uptoBulkEntries entries + 1
  | .held _ => 1
def uptoBulkAll {H : Type} : List (DataW H) → Nat
  | [] => 0
  | d :: r => uptoBulk d + uptoBulkAll r
def uptoBulkEntries {H : Type} : List (Lit × DataW H) → Nat
  | [] => 0
  | x :: r => uptoBulkEntry x + uptoBulkEntries r
def uptoBulkEntry {H : Type} : Lit × DataW H → Nat
  | (.string bytes, d) => bytes.length + uptoBulk d + 1
  | (_, d) => uptoBulk d + 1
 end
def uptoSmall : (H : Type) → List (DataW H) → Bool := fun _ ds => decide (uptoBulkAll ds ≤ 1048576)
def OpenSpec.upto (s : _root_.Go.ChangeSpec) : _root_.Go.OpenSpec := { _root_.Go.OpenSpec.ofChange s with cond := some uptoSmall }

/-- 'laws.FnExactClockJoin', WHERE WHAT IT READS IS OF BULK AT MOST 1048576: true; the input reads as it did. -/
def fnExactClockJoinUptoRow : OpenClaim := { program := "ytoinagefhbpakaa", sum := "8bacb4578664b0f5815d5d8c801c51bf71856013925d98b18c646cac0264598c", func := "loop.example/changeringer/laws.FnExactClockJoin", spec := "fnExactClockJoin", apart := false, narrowed := true }
def FnExactClockJoinUptoSaid : Prop := fnExactClockJoinUptoRow.holds Try.pinned (OpenSpec.upto fnExactClockJoinSpec)

/-- 'laws.FnExactClockUnder', WHERE WHAT IT READS IS OF BULK AT MOST 1048576: true; the input reads as it did. -/
def fnExactClockUnderUptoRow : OpenClaim := { program := "ytoinagefhbpakaa", sum := "8bacb4578664b0f5815d5d8c801c51bf71856013925d98b18c646cac0264598c", func := "loop.example/changeringer/laws.FnExactClockUnder", spec := "fnExactClockUnder", apart := false, narrowed := true }
def FnExactClockUnderUptoSaid : Prop := fnExactClockUnderUptoRow.holds Try.pinned (OpenSpec.upto fnExactClockUnderSpec)

/-- 'laws.FnExactMarkAhead', WHERE WHAT IT READS IS OF BULK AT MOST 1048576: true; the input reads as it did. -/
def fnExactMarkAheadUptoRow : OpenClaim := { program := "ytoinagefhbpakaa", sum := "8bacb4578664b0f5815d5d8c801c51bf71856013925d98b18c646cac0264598c", func := "loop.example/changeringer/laws.FnExactMarkAhead", spec := "fnExactMarkAhead", apart := false, narrowed := true }
def FnExactMarkAheadUptoSaid : Prop := fnExactMarkAheadUptoRow.holds Try.pinned (OpenSpec.upto fnExactMarkAheadSpec)

/-- 'laws.FnClockJoin', WHERE WHAT IT READS IS OF BULK AT MOST 1048576: true; the input reads as it did. -/
def fnClockJoinUptoRow : OpenClaim := { program := "ytoinagefhbpakaa", sum := "8bacb4578664b0f5815d5d8c801c51bf71856013925d98b18c646cac0264598c", func := "loop.example/changeringer/laws.FnClockJoin", spec := "fnClockJoin", apart := false, narrowed := true }
def FnClockJoinUptoSaid : Prop := fnClockJoinUptoRow.holds Try.pinned (OpenSpec.upto fnClockJoinSpec)

/-- 'laws.FnClockUnder', WHERE WHAT IT READS IS OF BULK AT MOST 1048576: true; the input reads as it did. -/
def fnClockUnderUptoRow : OpenClaim := { program := "ytoinagefhbpakaa", sum := "8bacb4578664b0f5815d5d8c801c51bf71856013925d98b18c646cac0264598c", func := "loop.example/changeringer/laws.FnClockUnder", spec := "fnClockUnder", apart := false, narrowed := true }
def FnClockUnderUptoSaid : Prop := fnClockUnderUptoRow.holds Try.pinned (OpenSpec.upto fnClockUnderSpec)

/-- 'laws.FnClockSelf', WHERE WHAT IT READS IS OF BULK AT MOST 1048576: true; the input reads as it did. -/
def fnClockSelfUptoRow : OpenClaim := { program := "ytoinagefhbpakaa", sum := "8bacb4578664b0f5815d5d8c801c51bf71856013925d98b18c646cac0264598c", func := "loop.example/changeringer/laws.FnClockSelf", spec := "fnClockSelf", apart := false, narrowed := true }
def FnClockSelfUptoSaid : Prop := fnClockSelfUptoRow.holds Try.pinned (OpenSpec.upto fnClockSelfSpec)

/-- 'laws.FnExactWholeOk', WHERE WHAT IT READS IS OF BULK AT MOST 1048576: true; the input reads as it did. -/
def fnExactWholeOkUptoRow : OpenClaim := { program := "ytoinagefhbpakaa", sum := "8bacb4578664b0f5815d5d8c801c51bf71856013925d98b18c646cac0264598c", func := "loop.example/changeringer/laws.FnExactWholeOk", spec := "fnExactWholeOk", unfollowed := true, recurses := true, loops := true, apart := false, narrowed := true }
def FnExactWholeOkUptoSaid : Prop := fnExactWholeOkUptoRow.holds Try.pinned (OpenSpec.upto fnExactWholeOkSpec)

/-- 'laws.FnWholeOk', WHERE WHAT IT READS IS OF BULK AT MOST 1048576: true; the input reads as it did. -/
def fnWholeOkUptoRow : OpenClaim := { program := "ytoinagefhbpakaa", sum := "8bacb4578664b0f5815d5d8c801c51bf71856013925d98b18c646cac0264598c", func := "loop.example/changeringer/laws.FnWholeOk", spec := "fnWholeOk", unfollowed := true, recurses := true, apart := false, narrowed := true }
def FnWholeOkUptoSaid : Prop := fnWholeOkUptoRow.holds Try.pinned (OpenSpec.upto fnWholeOkSpec)

end Rows
end Go.Proofs.Ytoinagefhbpakaa
