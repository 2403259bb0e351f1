/-
  No cell of these rows narrows 'for every input' (looked for: loops, veiled, ifaces, maps, wideKeys, modest, calm, conditions, laid).
  DERIVED. THE GIVEN ROWS OF THIS SEAT. 9 by the template 'for every input the law returns true; each argument reads behind the call as it read before'; 0 by the template 'total and deterministic' (their statements: YtgnahgppojehnaaTotals.lean).
  GIVEN WITH THE SEED: the statements are not yours to turn. If you find one false, say at which input.
  Laid BY PROGRAM, IN A SANDBOX (cutbox-rows.mjs): the forced cells as the released guide's own fill.sh prints them over the translation f0ef33948de821bf… (all of the seat's roots in one cut). By AI agents, Wed Nov 11 2026. No macro, syntax, notation, axiom, sorry.
-/
import Derived.Test.YtgnahgppojehnaaChecked
import GoSem.Claim
import GoSem.ClaimJoined
import GoSem.ClaimMapViews
import Derived.JoinedTies
import Derived.KernelRfl
namespace Go.Proofs.Ytgnahgppojehnaa
/- THE CELL 'sum', in the pinned program and in every row, IS THE sha256 OF THE DUMP (.gsa) THAT YtgnahgppojehnaaProg.lean LOADS. Nothing in Lean hashes anything: it is a label: what it is worth is what the hold of that sum in a sandbox is worth. -/
noncomputable def Try.pinned : Pinned := { name := "ytgnahgppojehnaa", sum := "f0ef33948de821bf144bc570b33de096b1aa13750c27f7e6c5d7c771ba051fd4", checked := Try.checked }
namespace Rows
def none {H : Type} : Left H := { results := [], args := [] }

/-- 'laws.FnNumDo': WHATEVER THE INPUT: true; the input reads as it did. -/
def fnNumDoSpec : ChangeSpec := { name := "fnNumDo", fn := fun _ => fun
  | [d] => { results := [.lit (.bool true)], args := [d] }
  | _ => none }
def fnNumDoRow : OpenClaim := { program := "ytgnahgppojehnaa", sum := "f0ef33948de821bf144bc570b33de096b1aa13750c27f7e6c5d7c771ba051fd4", func := "loop.example/changeringer/laws.FnNumDo", spec := "fnNumDo", unfollowed := true, recurses := true, apart := false }
def FnNumDoSaid : Prop := fnNumDoRow.holds Try.pinned (OpenSpec.ofChange fnNumDoSpec)

/-- ITS FALSE NEIGHBOUR: 'it returns false'. Refute it at one input. -/
def fnNumDoWrong : ChangeSpec := { name := "fnNumDo", fn := fun _ => fun
  | [d] => { results := [.lit (.bool false)], args := [d] }
  | _ => none }
def FnNumDoWrongFalsely : Prop := fnNumDoRow.holds Try.pinned (OpenSpec.ofChange fnNumDoWrong)

/-- 'laws.FnNumTurn': WHATEVER THE INPUT: true; the input reads as it did. -/
def fnNumTurnSpec : ChangeSpec := { name := "fnNumTurn", fn := fun _ => fun
  | [d] => { results := [.lit (.bool true)], args := [d] }
  | _ => none }
def fnNumTurnRow : OpenClaim := { program := "ytgnahgppojehnaa", sum := "f0ef33948de821bf144bc570b33de096b1aa13750c27f7e6c5d7c771ba051fd4", func := "loop.example/changeringer/laws.FnNumTurn", spec := "fnNumTurn", unfollowed := true, recurses := true, apart := false }
def FnNumTurnSaid : Prop := fnNumTurnRow.holds Try.pinned (OpenSpec.ofChange fnNumTurnSpec)

/-- ITS FALSE NEIGHBOUR: 'it returns false'. Refute it at one input. -/
def fnNumTurnWrong : ChangeSpec := { name := "fnNumTurn", fn := fun _ => fun
  | [d] => { results := [.lit (.bool false)], args := [d] }
  | _ => none }
def FnNumTurnWrongFalsely : Prop := fnNumTurnRow.holds Try.pinned (OpenSpec.ofChange fnNumTurnWrong)

/-- 'laws.FnNumCut': WHATEVER THE INPUT: true; the input reads as it did. -/
def fnNumCutSpec : ChangeSpec := { name := "fnNumCut", fn := fun _ => fun
  | [d1, d2] => { results := [.lit (.bool true)], args := [d1, d2] }
  | _ => none }
def fnNumCutRow : OpenClaim := { program := "ytgnahgppojehnaa", sum := "f0ef33948de821bf144bc570b33de096b1aa13750c27f7e6c5d7c771ba051fd4", func := "loop.example/changeringer/laws.FnNumCut", spec := "fnNumCut", apart := false }
def FnNumCutSaid : Prop := fnNumCutRow.holds Try.pinned (OpenSpec.ofChange fnNumCutSpec)

/-- ITS FALSE NEIGHBOUR: 'it returns false'. Refute it at one input. -/
def fnNumCutWrong : ChangeSpec := { name := "fnNumCut", fn := fun _ => fun
  | [d1, d2] => { results := [.lit (.bool false)], args := [d1, d2] }
  | _ => none }
def FnNumCutWrongFalsely : Prop := fnNumCutRow.holds Try.pinned (OpenSpec.ofChange fnNumCutWrong)

/-- 'laws.FnNumOrder': WHATEVER THE INPUT: true; the input reads as it did. -/
def fnNumOrderSpec : ChangeSpec := { name := "fnNumOrder", fn := fun _ => fun
  | [d1, d2] => { results := [.lit (.bool true)], args := [d1, d2] }
  | _ => none }
def fnNumOrderRow : OpenClaim := { program := "ytgnahgppojehnaa", sum := "f0ef33948de821bf144bc570b33de096b1aa13750c27f7e6c5d7c771ba051fd4", func := "loop.example/changeringer/laws.FnNumOrder", spec := "fnNumOrder", unfollowed := true, recurses := true, apart := false }
def FnNumOrderSaid : Prop := fnNumOrderRow.holds Try.pinned (OpenSpec.ofChange fnNumOrderSpec)

/-- ITS FALSE NEIGHBOUR: 'it returns false'. Refute it at one input. -/
def fnNumOrderWrong : ChangeSpec := { name := "fnNumOrder", fn := fun _ => fun
  | [d1, d2] => { results := [.lit (.bool false)], args := [d1, d2] }
  | _ => none }
def FnNumOrderWrongFalsely : Prop := fnNumOrderRow.holds Try.pinned (OpenSpec.ofChange fnNumOrderWrong)

/-- 'laws.FnNumNought': WHATEVER THE INPUT: true; the input reads as it did. -/
def fnNumNoughtSpec : ChangeSpec := { name := "fnNumNought", fn := fun _ => fun
  | [d] => { results := [.lit (.bool true)], args := [d] }
  | _ => none }
def fnNumNoughtRow : OpenClaim := { program := "ytgnahgppojehnaa", sum := "f0ef33948de821bf144bc570b33de096b1aa13750c27f7e6c5d7c771ba051fd4", func := "loop.example/changeringer/laws.FnNumNought", spec := "fnNumNought", unfollowed := true, recurses := true, apart := false }
def FnNumNoughtSaid : Prop := fnNumNoughtRow.holds Try.pinned (OpenSpec.ofChange fnNumNoughtSpec)

/-- ITS FALSE NEIGHBOUR: 'it returns false'. Refute it at one input. -/
def fnNumNoughtWrong : ChangeSpec := { name := "fnNumNought", fn := fun _ => fun
  | [d] => { results := [.lit (.bool false)], args := [d] }
  | _ => none }
def FnNumNoughtWrongFalsely : Prop := fnNumNoughtRow.holds Try.pinned (OpenSpec.ofChange fnNumNoughtWrong)

/-- 'laws.FnNumFar': WHATEVER THE INPUT: true; the input reads as it did. -/
def fnNumFarSpec : ChangeSpec := { name := "fnNumFar", fn := fun _ => fun
  | [d] => { results := [.lit (.bool true)], args := [d] }
  | _ => none }
def fnNumFarRow : OpenClaim := { program := "ytgnahgppojehnaa", sum := "f0ef33948de821bf144bc570b33de096b1aa13750c27f7e6c5d7c771ba051fd4", func := "loop.example/changeringer/laws.FnNumFar", spec := "fnNumFar", unfollowed := true, recurses := true, apart := false }
def FnNumFarSaid : Prop := fnNumFarRow.holds Try.pinned (OpenSpec.ofChange fnNumFarSpec)

/-- ITS FALSE NEIGHBOUR: 'it returns false'. Refute it at one input. -/
def fnNumFarWrong : ChangeSpec := { name := "fnNumFar", fn := fun _ => fun
  | [d] => { results := [.lit (.bool false)], args := [d] }
  | _ => none }
def FnNumFarWrongFalsely : Prop := fnNumFarRow.holds Try.pinned (OpenSpec.ofChange fnNumFarWrong)

/-- 'laws.FnExactNumOk': WHATEVER THE INPUT: true; the input reads as it did. -/
def fnExactNumOkSpec : ChangeSpec := { name := "fnExactNumOk", fn := fun _ => fun
  | [d] => { results := [.lit (.bool true)], args := [d] }
  | _ => none }
def fnExactNumOkRow : OpenClaim := { program := "ytgnahgppojehnaa", sum := "f0ef33948de821bf144bc570b33de096b1aa13750c27f7e6c5d7c771ba051fd4", func := "loop.example/changeringer/laws.FnExactNumOk", spec := "fnExactNumOk", apart := false }
def FnExactNumOkSaid : Prop := fnExactNumOkRow.holds Try.pinned (OpenSpec.ofChange fnExactNumOkSpec)

/-- ITS FALSE NEIGHBOUR: 'it returns false'. Refute it at one input. -/
def fnExactNumOkWrong : ChangeSpec := { name := "fnExactNumOk", fn := fun _ => fun
  | [d] => { results := [.lit (.bool false)], args := [d] }
  | _ => none }
def FnExactNumOkWrongFalsely : Prop := fnExactNumOkRow.holds Try.pinned (OpenSpec.ofChange fnExactNumOkWrong)

/-- 'laws.FnExactNumCut': WHATEVER THE INPUT: true; the input reads as it did. -/
def fnExactNumCutSpec : ChangeSpec := { name := "fnExactNumCut", fn := fun _ => fun
  | [d] => { results := [.lit (.bool true)], args := [d] }
  | _ => none }
def fnExactNumCutRow : OpenClaim := { program := "ytgnahgppojehnaa", sum := "f0ef33948de821bf144bc570b33de096b1aa13750c27f7e6c5d7c771ba051fd4", func := "loop.example/changeringer/laws.FnExactNumCut", spec := "fnExactNumCut", apart := false }
def FnExactNumCutSaid : Prop := fnExactNumCutRow.holds Try.pinned (OpenSpec.ofChange fnExactNumCutSpec)

/-- ITS FALSE NEIGHBOUR: 'it returns false'. Refute it at one input. -/
def fnExactNumCutWrong : ChangeSpec := { name := "fnExactNumCut", fn := fun _ => fun
  | [d] => { results := [.lit (.bool false)], args := [d] }
  | _ => none }
def FnExactNumCutWrongFalsely : Prop := fnExactNumCutRow.holds Try.pinned (OpenSpec.ofChange fnExactNumCutWrong)

/-- 'laws.FnExactNumDo': WHATEVER THE INPUT: true; the input reads as it did. -/
def fnExactNumDoSpec : ChangeSpec := { name := "fnExactNumDo", fn := fun _ => fun
  | [d1, d2, d3] => { results := [.lit (.bool true)], args := [d1, d2, d3] }
  | _ => none }
def fnExactNumDoRow : OpenClaim := { program := "ytgnahgppojehnaa", sum := "f0ef33948de821bf144bc570b33de096b1aa13750c27f7e6c5d7c771ba051fd4", func := "loop.example/changeringer/laws.FnExactNumDo", spec := "fnExactNumDo", unfollowed := true, recurses := true, apart := false }
def FnExactNumDoSaid : Prop := fnExactNumDoRow.holds Try.pinned (OpenSpec.ofChange fnExactNumDoSpec)

/-- ITS FALSE NEIGHBOUR: 'it returns false'. Refute it at one input. -/
def fnExactNumDoWrong : ChangeSpec := { name := "fnExactNumDo", fn := fun _ => fun
  | [d1, d2, d3] => { results := [.lit (.bool false)], args := [d1, d2, d3] }
  | _ => none }
def FnExactNumDoWrongFalsely : Prop := fnExactNumDoRow.holds Try.pinned (OpenSpec.ofChange fnExactNumDoWrong)

/- THE SECOND FORM. 'bulk': how many values and letters a reading holds, each counted each time it is reached (what is shared counts as often as it is met; a slice's spare places count too). A statement '..UptoSaid' is the law's where the arguments, and the package variables that the reading takes, are together of bulk at most 1048576: NARROWER than '..Said'. Prove '..Said' where nothing that the law and all that it calls make is longer than what came in: it says more and counts as full. Else prove '..UptoSaid'. A law counts once. -/
mutual
def uptoBulk {H : Type} : DataW H → Nat
  | .lit (.string bytes) => bytes.length + 1
  | .lit _ => 1
  | .nil => 1
  | .ptr d => uptoBulk d + 1
  | .slice elems spare => uptoBulkAll elems + uptoBulkAll spare + 1
  | .agg parts => uptoBulkAll parts + 1
  | .iface _ d => uptoBulk d + 1
  | .map entries => uptoBulkEntries entries + 1
  | .held _ => 1
def uptoBulkAll {H : Type} : List (DataW H) → Nat
  | [] => 0
  | d :: r => uptoBulk d + uptoBulkAll r
def uptoBulkEntries {H : Type} : List (Lit × DataW H) → Nat
  | [] => 0
  | x :: r => uptoBulkEntry x + uptoBulkEntries r
def uptoBulkEntry {H : Type} : Lit × DataW H → Nat
  | (.string bytes, d) => bytes.length + uptoBulk d + 1
  | (_, d) => uptoBulk d + 1
 end
def uptoSmall : (H : Type) → List (DataW H) → Bool := fun _ ds => decide (uptoBulkAll ds ≤ 1048576)
def OpenSpec.upto (s : _root_.Go.ChangeSpec) : _root_.Go.OpenSpec := { _root_.Go.OpenSpec.ofChange s with cond := some uptoSmall }

/-- 'laws.FnNumDo', WHERE WHAT IT READS IS OF BULK AT MOST 1048576: true; the input reads as it did. -/
def fnNumDoUptoRow : OpenClaim := { program := "ytgnahgppojehnaa", sum := "f0ef33948de821bf144bc570b33de096b1aa13750c27f7e6c5d7c771ba051fd4", func := "loop.example/changeringer/laws.FnNumDo", spec := "fnNumDo", unfollowed := true, recurses := true, apart := false, narrowed := true }
def FnNumDoUptoSaid : Prop := fnNumDoUptoRow.holds Try.pinned (OpenSpec.upto fnNumDoSpec)

/-- 'laws.FnNumTurn', WHERE WHAT IT READS IS OF BULK AT MOST 1048576: true; the input reads as it did. -/
def fnNumTurnUptoRow : OpenClaim := { program := "ytgnahgppojehnaa", sum := "f0ef33948de821bf144bc570b33de096b1aa13750c27f7e6c5d7c771ba051fd4", func := "loop.example/changeringer/laws.FnNumTurn", spec := "fnNumTurn", unfollowed := true, recurses := true, apart := false, narrowed := true }
def FnNumTurnUptoSaid : Prop := fnNumTurnUptoRow.holds Try.pinned (OpenSpec.upto fnNumTurnSpec)

/-- 'laws.FnNumCut', WHERE WHAT IT READS IS OF BULK AT MOST 1048576: true; the input reads as it did. -/
def fnNumCutUptoRow : OpenClaim := { program := "ytgnahgppojehnaa", sum := "f0ef33948de821bf144bc570b33de096b1aa13750c27f7e6c5d7c771ba051fd4", func := "loop.example/changeringer/laws.FnNumCut", spec := "fnNumCut", apart := false, narrowed := true }
def FnNumCutUptoSaid : Prop := fnNumCutUptoRow.holds Try.pinned (OpenSpec.upto fnNumCutSpec)

/-- 'laws.FnNumOrder', WHERE WHAT IT READS IS OF BULK AT MOST 1048576: true; the input reads as it did. -/
def fnNumOrderUptoRow : OpenClaim := { program := "ytgnahgppojehnaa", sum := "f0ef33948de821bf144bc570b33de096b1aa13750c27f7e6c5d7c771ba051fd4", func := "loop.example/changeringer/laws.FnNumOrder", spec := "fnNumOrder", unfollowed := true, recurses := true, apart := false, narrowed := true }
def FnNumOrderUptoSaid : Prop := fnNumOrderUptoRow.holds Try.pinned (OpenSpec.upto fnNumOrderSpec)

/-- 'laws.FnNumNought', WHERE WHAT IT READS IS OF BULK AT MOST 1048576: true; the input reads as it did. -/
def fnNumNoughtUptoRow : OpenClaim := { program := "ytgnahgppojehnaa", sum := "f0ef33948de821bf144bc570b33de096b1aa13750c27f7e6c5d7c771ba051fd4", func := "loop.example/changeringer/laws.FnNumNought", spec := "fnNumNought", unfollowed := true, recurses := true, apart := false, narrowed := true }
def FnNumNoughtUptoSaid : Prop := fnNumNoughtUptoRow.holds Try.pinned (OpenSpec.upto fnNumNoughtSpec)

/-- 'laws.FnNumFar', WHERE WHAT IT READS IS OF BULK AT MOST 1048576: true; the input reads as it did. -/
def fnNumFarUptoRow : OpenClaim := { program := "ytgnahgppojehnaa", sum := "f0ef33948de821bf144bc570b33de096b1aa13750c27f7e6c5d7c771ba051fd4", func := "loop.example/changeringer/laws.FnNumFar", spec := "fnNumFar", unfollowed := true, recurses := true, apart := false, narrowed := true }
def FnNumFarUptoSaid : Prop := fnNumFarUptoRow.holds Try.pinned (OpenSpec.upto fnNumFarSpec)

/-- 'laws.FnExactNumOk', WHERE WHAT IT READS IS OF BULK AT MOST 1048576: true; the input reads as it did. -/
def fnExactNumOkUptoRow : OpenClaim := { program := "ytgnahgppojehnaa", sum := "f0ef33948de821bf144bc570b33de096b1aa13750c27f7e6c5d7c771ba051fd4", func := "loop.example/changeringer/laws.FnExactNumOk", spec := "fnExactNumOk", apart := false, narrowed := true }
def FnExactNumOkUptoSaid : Prop := fnExactNumOkUptoRow.holds Try.pinned (OpenSpec.upto fnExactNumOkSpec)

/-- 'laws.FnExactNumCut', WHERE WHAT IT READS IS OF BULK AT MOST 1048576: true; the input reads as it did. -/
def fnExactNumCutUptoRow : OpenClaim := { program := "ytgnahgppojehnaa", sum := "f0ef33948de821bf144bc570b33de096b1aa13750c27f7e6c5d7c771ba051fd4", func := "loop.example/changeringer/laws.FnExactNumCut", spec := "fnExactNumCut", apart := false, narrowed := true }
def FnExactNumCutUptoSaid : Prop := fnExactNumCutUptoRow.holds Try.pinned (OpenSpec.upto fnExactNumCutSpec)

/-- 'laws.FnExactNumDo', WHERE WHAT IT READS IS OF BULK AT MOST 1048576: true; the input reads as it did. -/
def fnExactNumDoUptoRow : OpenClaim := { program := "ytgnahgppojehnaa", sum := "f0ef33948de821bf144bc570b33de096b1aa13750c27f7e6c5d7c771ba051fd4", func := "loop.example/changeringer/laws.FnExactNumDo", spec := "fnExactNumDo", unfollowed := true, recurses := true, apart := false, narrowed := true }
def FnExactNumDoUptoSaid : Prop := fnExactNumDoUptoRow.holds Try.pinned (OpenSpec.upto fnExactNumDoSpec)

end Rows
end Go.Proofs.Ytgnahgppojehnaa
