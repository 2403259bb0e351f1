/-
  NARROWER THAN 'FOR EVERY INPUT', by the rows' own cells (each row's printed sentence says how): FnExactCpuTwin: loops · FnExactWorldSame: loops · FnExactStmtsSame: loops.
  DERIVED. THE GIVEN ROWS OF THIS SEAT. 4 by the template 'for every input the law returns true; each argument reads behind the call as it read before'; 0 by the template 'total and deterministic' (their statements: YtkiekabfmdcemaaTotals.lean).
  GIVEN WITH THE SEED: the statements are not yours to turn. If you find one false, say at which input.
  Laid BY PROGRAM, IN A SANDBOX (cutbox-rows.mjs): the forced cells as the released guide's own fill.sh prints them over the translation 3359d05945f2abf3… (all of the seat's roots in one cut). By AI agents, Wed Nov 11 2026. No macro, syntax, notation, axiom, sorry.
-/
import Derived.Test.YtkiekabfmdcemaaChecked
import GoSem.Claim
import GoSem.ClaimJoined
import GoSem.ClaimMapViews
import Derived.JoinedTies
import Derived.KernelRfl
namespace Go.Proofs.Ytkiekabfmdcemaa
/- THE CELL 'sum', in the pinned program and in every row, IS THE sha256 OF THE DUMP (.gsa) THAT YtkiekabfmdcemaaProg.lean LOADS. Nothing in Lean hashes anything: it is a label: what it is worth is what the hold of that sum in a sandbox is worth. -/
noncomputable def Try.pinned : Pinned := { name := "ytkiekabfmdcemaa", sum := "3359d05945f2abf33784f813ce879e89df7e059295be47de33298180ae84c2f6", checked := Try.checked }
namespace Rows
def none {H : Type} : Left H := { results := [], args := [] }

/-- 'laws.FnExactCpuSame': WHATEVER THE INPUT: true; the input reads as it did. -/
def fnExactCpuSameSpec : ChangeSpec := { name := "fnExactCpuSame", fn := fun _ => fun
  | [d1, d2] => { results := [.lit (.bool true)], args := [d1, d2] }
  | _ => none }
def fnExactCpuSameRow : OpenClaim := { program := "ytkiekabfmdcemaa", sum := "3359d05945f2abf33784f813ce879e89df7e059295be47de33298180ae84c2f6", func := "loop.example/changeringer/laws.FnExactCpuSame", spec := "fnExactCpuSame", unfollowed := true, recurses := true, plainKeys := false, apart := false }
def FnExactCpuSameSaid : Prop := fnExactCpuSameRow.holds Try.pinned (OpenSpec.ofChange fnExactCpuSameSpec)

/-- ITS FALSE NEIGHBOUR: 'it returns false'. Refute it at one input. -/
def fnExactCpuSameWrong : ChangeSpec := { name := "fnExactCpuSame", fn := fun _ => fun
  | [d1, d2] => { results := [.lit (.bool false)], args := [d1, d2] }
  | _ => none }
def FnExactCpuSameWrongFalsely : Prop := fnExactCpuSameRow.holds Try.pinned (OpenSpec.ofChange fnExactCpuSameWrong)

/-- 'laws.FnExactCpuTwin': WHATEVER THE INPUT: true; the input reads as it did. -/
def fnExactCpuTwinSpec : ChangeSpec := { name := "fnExactCpuTwin", fn := fun _ => fun
  | [d1, d2] => { results := [.lit (.bool true)], args := [d1, d2] }
  | _ => none }
def fnExactCpuTwinRow : OpenClaim := { program := "ytkiekabfmdcemaa", sum := "3359d05945f2abf33784f813ce879e89df7e059295be47de33298180ae84c2f6", func := "loop.example/changeringer/laws.FnExactCpuTwin", spec := "fnExactCpuTwin", unfollowed := true, recurses := true, loops := true, plainKeys := false, apart := false }
def FnExactCpuTwinSaid : Prop := fnExactCpuTwinRow.holds Try.pinned (OpenSpec.ofChange fnExactCpuTwinSpec)

/-- ITS FALSE NEIGHBOUR: 'it returns false'. Refute it at one input. -/
def fnExactCpuTwinWrong : ChangeSpec := { name := "fnExactCpuTwin", fn := fun _ => fun
  | [d1, d2] => { results := [.lit (.bool false)], args := [d1, d2] }
  | _ => none }
def FnExactCpuTwinWrongFalsely : Prop := fnExactCpuTwinRow.holds Try.pinned (OpenSpec.ofChange fnExactCpuTwinWrong)

/-- 'laws.FnExactWorldSame': WHATEVER THE INPUT: true; the input reads as it did. -/
def fnExactWorldSameSpec : ChangeSpec := { name := "fnExactWorldSame", fn := fun _ => fun
  | [d1, d2] => { results := [.lit (.bool true)], args := [d1, d2] }
  | _ => none }
def fnExactWorldSameRow : OpenClaim := { program := "ytkiekabfmdcemaa", sum := "3359d05945f2abf33784f813ce879e89df7e059295be47de33298180ae84c2f6", func := "loop.example/changeringer/laws.FnExactWorldSame", spec := "fnExactWorldSame", unfollowed := true, recurses := true, loops := true, plainKeys := false, apart := false }
def FnExactWorldSameSaid : Prop := fnExactWorldSameRow.holds Try.pinned (OpenSpec.ofChange fnExactWorldSameSpec)

/-- ITS FALSE NEIGHBOUR: 'it returns false'. Refute it at one input. -/
def fnExactWorldSameWrong : ChangeSpec := { name := "fnExactWorldSame", fn := fun _ => fun
  | [d1, d2] => { results := [.lit (.bool false)], args := [d1, d2] }
  | _ => none }
def FnExactWorldSameWrongFalsely : Prop := fnExactWorldSameRow.holds Try.pinned (OpenSpec.ofChange fnExactWorldSameWrong)

/-- 'laws.FnExactStmtsSame': WHATEVER THE INPUT: true; the input reads as it did. -/
def fnExactStmtsSameSpec : ChangeSpec := { name := "fnExactStmtsSame", fn := fun _ => fun
  | [d1, d2] => { results := [.lit (.bool true)], args := [d1, d2] }
  | _ => none }
def fnExactStmtsSameRow : OpenClaim := { program := "ytkiekabfmdcemaa", sum := "3359d05945f2abf33784f813ce879e89df7e059295be47de33298180ae84c2f6", func := "loop.example/changeringer/laws.FnExactStmtsSame", spec := "fnExactStmtsSame", unfollowed := true, recurses := true, loops := true, plainKeys := false, apart := false }
def FnExactStmtsSameSaid : Prop := fnExactStmtsSameRow.holds Try.pinned (OpenSpec.ofChange fnExactStmtsSameSpec)

/-- ITS FALSE NEIGHBOUR: 'it returns false'. Refute it at one input. -/
def fnExactStmtsSameWrong : ChangeSpec := { name := "fnExactStmtsSame", fn := fun _ => fun
  | [d1, d2] => { results := [.lit (.bool false)], args := [d1, d2] }
  | _ => none }
def FnExactStmtsSameWrongFalsely : Prop := fnExactStmtsSameRow.holds Try.pinned (OpenSpec.ofChange fnExactStmtsSameWrong)

/- THE SECOND FORM. 'bulk': how many values and letters a reading holds, each counted each time it is reached (what is shared counts as often as it is met; a slice's spare places count too). A statement '..UptoSaid' is the law's where the arguments, and the package variables that the reading takes, are together of bulk at most 1048576: NARROWER than '..Said'. Prove '..Said' where nothing that the law and all that it calls make is longer than what came in: it says more and counts as full. Else prove '..UptoSaid'. A law counts once. -/
mutual
def uptoBulk {H : Type} : DataW H → Nat
  | .lit (.string bytes) => bytes.length + 1
  | .lit _ => 1
  | .nil => 1
  | .ptr d => uptoBulk d + 1
  | .slice elems spare => uptoBulkAll elems + uptoBulkAll spare + 1
  | .agg parts => uptoBulkAll parts + 1
  | .iface _ d => uptoBulk d + 1
  | .map entries => uptoBulkEntries entries + 1
  | .held _ => 1
def uptoBulkAll {H : Type} : List (DataW H) → Nat
  | [] => 0
  | d :: r => uptoBulk d + uptoBulkAll r
def uptoBulkEntries {H : Type} : List (Lit × DataW H) → Nat
  | [] => 0
  | x :: r => uptoBulkEntry x + uptoBulkEntries r
def uptoBulkEntry {H : Type} : Lit × DataW H → Nat
  | (.string bytes, d) => bytes.length + uptoBulk d + 1
  | (_, d) => uptoBulk d + 1
 end
def uptoSmall : (H : Type) → List (DataW H) → Bool := fun _ ds => decide (uptoBulkAll ds ≤ 1048576)
def OpenSpec.upto (s : _root_.Go.ChangeSpec) : _root_.Go.OpenSpec := { _root_.Go.OpenSpec.ofChange s with cond := some uptoSmall }

/-- 'laws.FnExactCpuSame', WHERE WHAT IT READS IS OF BULK AT MOST 1048576: true; the input reads as it did. -/
def fnExactCpuSameUptoRow : OpenClaim := { program := "ytkiekabfmdcemaa", sum := "3359d05945f2abf33784f813ce879e89df7e059295be47de33298180ae84c2f6", func := "loop.example/changeringer/laws.FnExactCpuSame", spec := "fnExactCpuSame", unfollowed := true, recurses := true, plainKeys := false, apart := false, narrowed := true }
def FnExactCpuSameUptoSaid : Prop := fnExactCpuSameUptoRow.holds Try.pinned (OpenSpec.upto fnExactCpuSameSpec)

/-- 'laws.FnExactCpuTwin', WHERE WHAT IT READS IS OF BULK AT MOST 1048576: true; the input reads as it did. -/
def fnExactCpuTwinUptoRow : OpenClaim := { program := "ytkiekabfmdcemaa", sum := "3359d05945f2abf33784f813ce879e89df7e059295be47de33298180ae84c2f6", func := "loop.example/changeringer/laws.FnExactCpuTwin", spec := "fnExactCpuTwin", unfollowed := true, recurses := true, loops := true, plainKeys := false, apart := false, narrowed := true }
def FnExactCpuTwinUptoSaid : Prop := fnExactCpuTwinUptoRow.holds Try.pinned (OpenSpec.upto fnExactCpuTwinSpec)

/-- 'laws.FnExactWorldSame', WHERE WHAT IT READS IS OF BULK AT MOST 1048576: true; the input reads as it did. -/
def fnExactWorldSameUptoRow : OpenClaim := { program := "ytkiekabfmdcemaa", sum := "3359d05945f2abf33784f813ce879e89df7e059295be47de33298180ae84c2f6", func := "loop.example/changeringer/laws.FnExactWorldSame", spec := "fnExactWorldSame", unfollowed := true, recurses := true, loops := true, plainKeys := false, apart := false, narrowed := true }
def FnExactWorldSameUptoSaid : Prop := fnExactWorldSameUptoRow.holds Try.pinned (OpenSpec.upto fnExactWorldSameSpec)

/-- 'laws.FnExactStmtsSame', WHERE WHAT IT READS IS OF BULK AT MOST 1048576: true; the input reads as it did. -/
def fnExactStmtsSameUptoRow : OpenClaim := { program := "ytkiekabfmdcemaa", sum := "3359d05945f2abf33784f813ce879e89df7e059295be47de33298180ae84c2f6", func := "loop.example/changeringer/laws.FnExactStmtsSame", spec := "fnExactStmtsSame", unfollowed := true, recurses := true, loops := true, plainKeys := false, apart := false, narrowed := true }
def FnExactStmtsSameUptoSaid : Prop := fnExactStmtsSameUptoRow.holds Try.pinned (OpenSpec.upto fnExactStmtsSameSpec)

end Rows
end Go.Proofs.Ytkiekabfmdcemaa
