/-
  No cell of these rows narrows 'for every input' (looked for: loops, veiled, ifaces, maps, wideKeys, modest, calm, conditions, laid).
  DERIVED. THE GIVEN ROWS OF THIS SEAT. 11 by the template 'for every input the law returns true; each argument reads behind the call as it read before'; 0 by the template 'total and deterministic' (their statements: YtogpfagdpkjmmaaTotals.lean).
  GIVEN WITH THE SEED: the statements are not yours to turn. If you find one false, say at which input.
  Laid BY PROGRAM, IN A SANDBOX (cutbox-rows.mjs): the forced cells as the released guide's own fill.sh prints them over the translation 3e8636f5c637b8b0… (all of the seat's roots in one cut). By AI agents, Wed Nov 11 2026. No macro, syntax, notation, axiom, sorry.
-/
import Derived.Test.YtogpfagdpkjmmaaChecked
import GoSem.Claim
import GoSem.ClaimJoined
import GoSem.ClaimMapViews
import Derived.JoinedTies
import Derived.KernelRfl
namespace Go.Proofs.Ytogpfagdpkjmmaa
/- THE CELL 'sum', in the pinned program and in every row, IS THE sha256 OF THE DUMP (.gsa) THAT YtogpfagdpkjmmaaProg.lean LOADS. Nothing in Lean hashes anything: it is a label: what it is worth is what the hold of that sum in a sandbox is worth. -/
noncomputable def Try.pinned : Pinned := { name := "ytogpfagdpkjmmaa", sum := "3e8636f5c637b8b03a9a8e48a74ef1fd90b20dd9d8fce8a69f28ac9255b32a7c", checked := Try.checked }
namespace Rows
def none {H : Type} : Left H := { results := [], args := [] }

/-- 'laws.FnExactCodeOk': WHATEVER THE INPUT: true; the input reads as it did. -/
def fnExactCodeOkSpec : ChangeSpec := { name := "fnExactCodeOk", fn := fun _ => fun
  | [d] => { results := [.lit (.bool true)], args := [d] }
  | _ => none }
def fnExactCodeOkRow : OpenClaim := { program := "ytogpfagdpkjmmaa", sum := "3e8636f5c637b8b03a9a8e48a74ef1fd90b20dd9d8fce8a69f28ac9255b32a7c", func := "loop.example/changeringer/laws.FnExactCodeOk", spec := "fnExactCodeOk", unfollowed := true, recurses := true, apart := false }
def FnExactCodeOkSaid : Prop := fnExactCodeOkRow.holds Try.pinned (OpenSpec.ofChange fnExactCodeOkSpec)

/-- ITS FALSE NEIGHBOUR: 'it returns false'. Refute it at one input. -/
def fnExactCodeOkWrong : ChangeSpec := { name := "fnExactCodeOk", fn := fun _ => fun
  | [d] => { results := [.lit (.bool false)], args := [d] }
  | _ => none }
def FnExactCodeOkWrongFalsely : Prop := fnExactCodeOkRow.holds Try.pinned (OpenSpec.ofChange fnExactCodeOkWrong)

/-- 'laws.FnExactSlimReach': WHATEVER THE INPUT: true; the input reads as it did. -/
def fnExactSlimReachSpec : ChangeSpec := { name := "fnExactSlimReach", fn := fun _ => fun
  | [d] => { results := [.lit (.bool true)], args := [d] }
  | _ => none }
def fnExactSlimReachRow : OpenClaim := { program := "ytogpfagdpkjmmaa", sum := "3e8636f5c637b8b03a9a8e48a74ef1fd90b20dd9d8fce8a69f28ac9255b32a7c", func := "loop.example/changeringer/laws.FnExactSlimReach", spec := "fnExactSlimReach", unfollowed := true, recurses := true, apart := false }
def FnExactSlimReachSaid : Prop := fnExactSlimReachRow.holds Try.pinned (OpenSpec.ofChange fnExactSlimReachSpec)

/-- ITS FALSE NEIGHBOUR: 'it returns false'. Refute it at one input. -/
def fnExactSlimReachWrong : ChangeSpec := { name := "fnExactSlimReach", fn := fun _ => fun
  | [d] => { results := [.lit (.bool false)], args := [d] }
  | _ => none }
def FnExactSlimReachWrongFalsely : Prop := fnExactSlimReachRow.holds Try.pinned (OpenSpec.ofChange fnExactSlimReachWrong)

/-- 'laws.FnExactSlimJumps': WHATEVER THE INPUT: true; the input reads as it did. -/
def fnExactSlimJumpsSpec : ChangeSpec := { name := "fnExactSlimJumps", fn := fun _ => fun
  | [d] => { results := [.lit (.bool true)], args := [d] }
  | _ => none }
def fnExactSlimJumpsRow : OpenClaim := { program := "ytogpfagdpkjmmaa", sum := "3e8636f5c637b8b03a9a8e48a74ef1fd90b20dd9d8fce8a69f28ac9255b32a7c", func := "loop.example/changeringer/laws.FnExactSlimJumps", spec := "fnExactSlimJumps", unfollowed := true, recurses := true, apart := false }
def FnExactSlimJumpsSaid : Prop := fnExactSlimJumpsRow.holds Try.pinned (OpenSpec.ofChange fnExactSlimJumpsSpec)

/-- ITS FALSE NEIGHBOUR: 'it returns false'. Refute it at one input. -/
def fnExactSlimJumpsWrong : ChangeSpec := { name := "fnExactSlimJumps", fn := fun _ => fun
  | [d] => { results := [.lit (.bool false)], args := [d] }
  | _ => none }
def FnExactSlimJumpsWrongFalsely : Prop := fnExactSlimJumpsRow.holds Try.pinned (OpenSpec.ofChange fnExactSlimJumpsWrong)

/-- 'laws.FnExactSlimDead': WHATEVER THE INPUT: true; the input reads as it did. -/
def fnExactSlimDeadSpec : ChangeSpec := { name := "fnExactSlimDead", fn := fun _ => fun
  | [d] => { results := [.lit (.bool true)], args := [d] }
  | _ => none }
def fnExactSlimDeadRow : OpenClaim := { program := "ytogpfagdpkjmmaa", sum := "3e8636f5c637b8b03a9a8e48a74ef1fd90b20dd9d8fce8a69f28ac9255b32a7c", func := "loop.example/changeringer/laws.FnExactSlimDead", spec := "fnExactSlimDead", unfollowed := true, recurses := true, apart := false }
def FnExactSlimDeadSaid : Prop := fnExactSlimDeadRow.holds Try.pinned (OpenSpec.ofChange fnExactSlimDeadSpec)

/-- ITS FALSE NEIGHBOUR: 'it returns false'. Refute it at one input. -/
def fnExactSlimDeadWrong : ChangeSpec := { name := "fnExactSlimDead", fn := fun _ => fun
  | [d] => { results := [.lit (.bool false)], args := [d] }
  | _ => none }
def FnExactSlimDeadWrongFalsely : Prop := fnExactSlimDeadRow.holds Try.pinned (OpenSpec.ofChange fnExactSlimDeadWrong)

/-- 'laws.FnExactSlim': WHATEVER THE INPUT: true; the input reads as it did. -/
def fnExactSlimSpec : ChangeSpec := { name := "fnExactSlim", fn := fun _ => fun
  | [d] => { results := [.lit (.bool true)], args := [d] }
  | _ => none }
def fnExactSlimRow : OpenClaim := { program := "ytogpfagdpkjmmaa", sum := "3e8636f5c637b8b03a9a8e48a74ef1fd90b20dd9d8fce8a69f28ac9255b32a7c", func := "loop.example/changeringer/laws.FnExactSlim", spec := "fnExactSlim", unfollowed := true, recurses := true, apart := false }
def FnExactSlimSaid : Prop := fnExactSlimRow.holds Try.pinned (OpenSpec.ofChange fnExactSlimSpec)

/-- ITS FALSE NEIGHBOUR: 'it returns false'. Refute it at one input. -/
def fnExactSlimWrong : ChangeSpec := { name := "fnExactSlim", fn := fun _ => fun
  | [d] => { results := [.lit (.bool false)], args := [d] }
  | _ => none }
def FnExactSlimWrongFalsely : Prop := fnExactSlimRow.holds Try.pinned (OpenSpec.ofChange fnExactSlimWrong)

/-- 'laws.FnCodeBent': WHATEVER THE INPUT: true; the input reads as it did. -/
def fnCodeBentSpec : ChangeSpec := { name := "fnCodeBent", fn := fun _ => fun
  | [d] => { results := [.lit (.bool true)], args := [d] }
  | _ => none }
def fnCodeBentRow : OpenClaim := { program := "ytogpfagdpkjmmaa", sum := "3e8636f5c637b8b03a9a8e48a74ef1fd90b20dd9d8fce8a69f28ac9255b32a7c", func := "loop.example/changeringer/laws.FnCodeBent", spec := "fnCodeBent", unfollowed := true, recurses := true, apart := false }
def FnCodeBentSaid : Prop := fnCodeBentRow.holds Try.pinned (OpenSpec.ofChange fnCodeBentSpec)

/-- ITS FALSE NEIGHBOUR: 'it returns false'. Refute it at one input. -/
def fnCodeBentWrong : ChangeSpec := { name := "fnCodeBent", fn := fun _ => fun
  | [d] => { results := [.lit (.bool false)], args := [d] }
  | _ => none }
def FnCodeBentWrongFalsely : Prop := fnCodeBentRow.holds Try.pinned (OpenSpec.ofChange fnCodeBentWrong)

/-- 'laws.FnSlimReach': WHATEVER THE INPUT: true; the input reads as it did. -/
def fnSlimReachSpec : ChangeSpec := { name := "fnSlimReach", fn := fun _ => fun
  | [d] => { results := [.lit (.bool true)], args := [d] }
  | _ => none }
def fnSlimReachRow : OpenClaim := { program := "ytogpfagdpkjmmaa", sum := "3e8636f5c637b8b03a9a8e48a74ef1fd90b20dd9d8fce8a69f28ac9255b32a7c", func := "loop.example/changeringer/laws.FnSlimReach", spec := "fnSlimReach", unfollowed := true, recurses := true, apart := false }
def FnSlimReachSaid : Prop := fnSlimReachRow.holds Try.pinned (OpenSpec.ofChange fnSlimReachSpec)

/-- ITS FALSE NEIGHBOUR: 'it returns false'. Refute it at one input. -/
def fnSlimReachWrong : ChangeSpec := { name := "fnSlimReach", fn := fun _ => fun
  | [d] => { results := [.lit (.bool false)], args := [d] }
  | _ => none }
def FnSlimReachWrongFalsely : Prop := fnSlimReachRow.holds Try.pinned (OpenSpec.ofChange fnSlimReachWrong)

/-- 'laws.FnSlimJumps': WHATEVER THE INPUT: true; the input reads as it did. -/
def fnSlimJumpsSpec : ChangeSpec := { name := "fnSlimJumps", fn := fun _ => fun
  | [d] => { results := [.lit (.bool true)], args := [d] }
  | _ => none }
def fnSlimJumpsRow : OpenClaim := { program := "ytogpfagdpkjmmaa", sum := "3e8636f5c637b8b03a9a8e48a74ef1fd90b20dd9d8fce8a69f28ac9255b32a7c", func := "loop.example/changeringer/laws.FnSlimJumps", spec := "fnSlimJumps", unfollowed := true, recurses := true, apart := false }
def FnSlimJumpsSaid : Prop := fnSlimJumpsRow.holds Try.pinned (OpenSpec.ofChange fnSlimJumpsSpec)

/-- ITS FALSE NEIGHBOUR: 'it returns false'. Refute it at one input. -/
def fnSlimJumpsWrong : ChangeSpec := { name := "fnSlimJumps", fn := fun _ => fun
  | [d] => { results := [.lit (.bool false)], args := [d] }
  | _ => none }
def FnSlimJumpsWrongFalsely : Prop := fnSlimJumpsRow.holds Try.pinned (OpenSpec.ofChange fnSlimJumpsWrong)

/-- 'laws.FnSlimDead': WHATEVER THE INPUT: true; the input reads as it did. -/
def fnSlimDeadSpec : ChangeSpec := { name := "fnSlimDead", fn := fun _ => fun
  | [d] => { results := [.lit (.bool true)], args := [d] }
  | _ => none }
def fnSlimDeadRow : OpenClaim := { program := "ytogpfagdpkjmmaa", sum := "3e8636f5c637b8b03a9a8e48a74ef1fd90b20dd9d8fce8a69f28ac9255b32a7c", func := "loop.example/changeringer/laws.FnSlimDead", spec := "fnSlimDead", unfollowed := true, recurses := true, apart := false }
def FnSlimDeadSaid : Prop := fnSlimDeadRow.holds Try.pinned (OpenSpec.ofChange fnSlimDeadSpec)

/-- ITS FALSE NEIGHBOUR: 'it returns false'. Refute it at one input. -/
def fnSlimDeadWrong : ChangeSpec := { name := "fnSlimDead", fn := fun _ => fun
  | [d] => { results := [.lit (.bool false)], args := [d] }
  | _ => none }
def FnSlimDeadWrongFalsely : Prop := fnSlimDeadRow.holds Try.pinned (OpenSpec.ofChange fnSlimDeadWrong)

/-- 'laws.FnSlim': WHATEVER THE INPUT: true; the input reads as it did. -/
def fnSlimSpec : ChangeSpec := { name := "fnSlim", fn := fun _ => fun
  | [d] => { results := [.lit (.bool true)], args := [d] }
  | _ => none }
def fnSlimRow : OpenClaim := { program := "ytogpfagdpkjmmaa", sum := "3e8636f5c637b8b03a9a8e48a74ef1fd90b20dd9d8fce8a69f28ac9255b32a7c", func := "loop.example/changeringer/laws.FnSlim", spec := "fnSlim", unfollowed := true, recurses := true, apart := false }
def FnSlimSaid : Prop := fnSlimRow.holds Try.pinned (OpenSpec.ofChange fnSlimSpec)

/-- ITS FALSE NEIGHBOUR: 'it returns false'. Refute it at one input. -/
def fnSlimWrong : ChangeSpec := { name := "fnSlim", fn := fun _ => fun
  | [d] => { results := [.lit (.bool false)], args := [d] }
  | _ => none }
def FnSlimWrongFalsely : Prop := fnSlimRow.holds Try.pinned (OpenSpec.ofChange fnSlimWrong)

/-- 'laws.FnSlimPlaces': WHATEVER THE INPUT: true; the input reads as it did. -/
def fnSlimPlacesSpec : ChangeSpec := { name := "fnSlimPlaces", fn := fun _ => fun
  | [d] => { results := [.lit (.bool true)], args := [d] }
  | _ => none }
def fnSlimPlacesRow : OpenClaim := { program := "ytogpfagdpkjmmaa", sum := "3e8636f5c637b8b03a9a8e48a74ef1fd90b20dd9d8fce8a69f28ac9255b32a7c", func := "loop.example/changeringer/laws.FnSlimPlaces", spec := "fnSlimPlaces", unfollowed := true, recurses := true, apart := false }
def FnSlimPlacesSaid : Prop := fnSlimPlacesRow.holds Try.pinned (OpenSpec.ofChange fnSlimPlacesSpec)

/-- ITS FALSE NEIGHBOUR: 'it returns false'. Refute it at one input. -/
def fnSlimPlacesWrong : ChangeSpec := { name := "fnSlimPlaces", fn := fun _ => fun
  | [d] => { results := [.lit (.bool false)], args := [d] }
  | _ => none }
def FnSlimPlacesWrongFalsely : Prop := fnSlimPlacesRow.holds Try.pinned (OpenSpec.ofChange fnSlimPlacesWrong)

/- THE SECOND FORM. 'bulk': how many values and letters a reading holds, each counted each time it is reached (what is shared counts as often as it is met; a slice's spare places count too). A statement '..UptoSaid' is the law's where the arguments, and the package variables that the reading takes, are together of bulk at most 1048576: NARROWER than '..Said'. Prove '..Said' where nothing that the law and all that it calls make is longer than what came in: it says more and counts as full. Else prove '..UptoSaid'. A law counts once. -/
mutual
def uptoBulk {H : Type} : DataW H → Nat
  | .lit (.string bytes) => bytes.length + 1
  | .lit _ => 1
  | .nil => 1
  | .ptr d => uptoBulk d + 1
  | .slice elems spare => uptoBulkAll elems + uptoBulkAll spare + 1
  | .agg parts => uptoBulkAll parts + 1
  | .iface _ d => uptoBulk d + 1
  | .map entries => uptoBulkEntries entries + 1
  | .held _ => 1
def uptoBulkAll {H : Type} : List (DataW H) → Nat
  | [] => 0
  | d :: r => uptoBulk d + uptoBulkAll r
def uptoBulkEntries {H : Type} : List (Lit × DataW H) → Nat
  | [] => 0
  | x :: r => uptoBulkEntry x + uptoBulkEntries r
def uptoBulkEntry {H : Type} : Lit × DataW H → Nat
  | (.string bytes, d) => bytes.length + uptoBulk d + 1
  | (_, d) => uptoBulk d + 1
 end
def uptoSmall : (H : Type) → List (DataW H) → Bool := fun _ ds => decide (uptoBulkAll ds ≤ 1048576)
def OpenSpec.upto (s : _root_.Go.ChangeSpec) : _root_.Go.OpenSpec := { _root_.Go.OpenSpec.ofChange s with cond := some uptoSmall }

/-- 'laws.FnExactCodeOk', WHERE WHAT IT READS IS OF BULK AT MOST 1048576: true; the input reads as it did. -/
def fnExactCodeOkUptoRow : OpenClaim := { program := "ytogpfagdpkjmmaa", sum := "3e8636f5c637b8b03a9a8e48a74ef1fd90b20dd9d8fce8a69f28ac9255b32a7c", func := "loop.example/changeringer/laws.FnExactCodeOk", spec := "fnExactCodeOk", unfollowed := true, recurses := true, apart := false, narrowed := true }
def FnExactCodeOkUptoSaid : Prop := fnExactCodeOkUptoRow.holds Try.pinned (OpenSpec.upto fnExactCodeOkSpec)

/-- 'laws.FnExactSlimReach', WHERE WHAT IT READS IS OF BULK AT MOST 1048576: true; the input reads as it did. -/
def fnExactSlimReachUptoRow : OpenClaim := { program := "ytogpfagdpkjmmaa", sum := "3e8636f5c637b8b03a9a8e48a74ef1fd90b20dd9d8fce8a69f28ac9255b32a7c", func := "loop.example/changeringer/laws.FnExactSlimReach", spec := "fnExactSlimReach", unfollowed := true, recurses := true, apart := false, narrowed := true }
def FnExactSlimReachUptoSaid : Prop := fnExactSlimReachUptoRow.holds Try.pinned (OpenSpec.upto fnExactSlimReachSpec)

/-- 'laws.FnExactSlimJumps', WHERE WHAT IT READS IS OF BULK AT MOST 1048576: true; the input reads as it did. -/
def fnExactSlimJumpsUptoRow : OpenClaim := { program := "ytogpfagdpkjmmaa", sum := "3e8636f5c637b8b03a9a8e48a74ef1fd90b20dd9d8fce8a69f28ac9255b32a7c", func := "loop.example/changeringer/laws.FnExactSlimJumps", spec := "fnExactSlimJumps", unfollowed := true, recurses := true, apart := false, narrowed := true }
def FnExactSlimJumpsUptoSaid : Prop := fnExactSlimJumpsUptoRow.holds Try.pinned (OpenSpec.upto fnExactSlimJumpsSpec)

/-- 'laws.FnExactSlimDead', WHERE WHAT IT READS IS OF BULK AT MOST 1048576: true; the input reads as it did. -/
def fnExactSlimDeadUptoRow : OpenClaim := { program := "ytogpfagdpkjmmaa", sum := "3e8636f5c637b8b03a9a8e48a74ef1fd90b20dd9d8fce8a69f28ac9255b32a7c", func := "loop.example/changeringer/laws.FnExactSlimDead", spec := "fnExactSlimDead", unfollowed := true, recurses := true, apart := false, narrowed := true }
def FnExactSlimDeadUptoSaid : Prop := fnExactSlimDeadUptoRow.holds Try.pinned (OpenSpec.upto fnExactSlimDeadSpec)

/-- 'laws.FnExactSlim', WHERE WHAT IT READS IS OF BULK AT MOST 1048576: true; the input reads as it did. -/
def fnExactSlimUptoRow : OpenClaim := { program := "ytogpfagdpkjmmaa", sum := "3e8636f5c637b8b03a9a8e48a74ef1fd90b20dd9d8fce8a69f28ac9255b32a7c", func := "loop.example/changeringer/laws.FnExactSlim", spec := "fnExactSlim", unfollowed := true, recurses := true, apart := false, narrowed := true }
def FnExactSlimUptoSaid : Prop := fnExactSlimUptoRow.holds Try.pinned (OpenSpec.upto fnExactSlimSpec)

/-- 'laws.FnCodeBent', WHERE WHAT IT READS IS OF BULK AT MOST 1048576: true; the input reads as it did. -/
def fnCodeBentUptoRow : OpenClaim := { program := "ytogpfagdpkjmmaa", sum := "3e8636f5c637b8b03a9a8e48a74ef1fd90b20dd9d8fce8a69f28ac9255b32a7c", func := "loop.example/changeringer/laws.FnCodeBent", spec := "fnCodeBent", unfollowed := true, recurses := true, apart := false, narrowed := true }
def FnCodeBentUptoSaid : Prop := fnCodeBentUptoRow.holds Try.pinned (OpenSpec.upto fnCodeBentSpec)

/-- 'laws.FnSlimReach', WHERE WHAT IT READS IS OF BULK AT MOST 1048576: true; the input reads as it did. -/
def fnSlimReachUptoRow : OpenClaim := { program := "ytogpfagdpkjmmaa", sum := "3e8636f5c637b8b03a9a8e48a74ef1fd90b20dd9d8fce8a69f28ac9255b32a7c", func := "loop.example/changeringer/laws.FnSlimReach", spec := "fnSlimReach", unfollowed := true, recurses := true, apart := false, narrowed := true }
def FnSlimReachUptoSaid : Prop := fnSlimReachUptoRow.holds Try.pinned (OpenSpec.upto fnSlimReachSpec)

/-- 'laws.FnSlimJumps', WHERE WHAT IT READS IS OF BULK AT MOST 1048576: true; the input reads as it did. -/
def fnSlimJumpsUptoRow : OpenClaim := { program := "ytogpfagdpkjmmaa", sum := "3e8636f5c637b8b03a9a8e48a74ef1fd90b20dd9d8fce8a69f28ac9255b32a7c", func := "loop.example/changeringer/laws.FnSlimJumps", spec := "fnSlimJumps", unfollowed := true, recurses := true, apart := false, narrowed := true }
def FnSlimJumpsUptoSaid : Prop := fnSlimJumpsUptoRow.holds Try.pinned (OpenSpec.upto fnSlimJumpsSpec)

/-- 'laws.FnSlimDead', WHERE WHAT IT READS IS OF BULK AT MOST 1048576: true; the input reads as it did. -/
def fnSlimDeadUptoRow : OpenClaim := { program := "ytogpfagdpkjmmaa", sum := "3e8636f5c637b8b03a9a8e48a74ef1fd90b20dd9d8fce8a69f28ac9255b32a7c", func := "loop.example/changeringer/laws.FnSlimDead", spec := "fnSlimDead", unfollowed := true, recurses := true, apart := false, narrowed := true }
def FnSlimDeadUptoSaid : Prop := fnSlimDeadUptoRow.holds Try.pinned (OpenSpec.upto fnSlimDeadSpec)

/-- 'laws.FnSlim', WHERE WHAT IT READS IS OF BULK AT MOST 1048576: true; the input reads as it did. -/
def fnSlimUptoRow : OpenClaim := { program := "ytogpfagdpkjmmaa", sum := "3e8636f5c637b8b03a9a8e48a74ef1fd90b20dd9d8fce8a69f28ac9255b32a7c", func := "loop.example/changeringer/laws.FnSlim", spec := "fnSlim", unfollowed := true, recurses := true, apart := false, narrowed := true }
def FnSlimUptoSaid : Prop := fnSlimUptoRow.holds Try.pinned (OpenSpec.upto fnSlimSpec)

/-- 'laws.FnSlimPlaces', WHERE WHAT IT READS IS OF BULK AT MOST 1048576: true; the input reads as it did. -/
def fnSlimPlacesUptoRow : OpenClaim := { program := "ytogpfagdpkjmmaa", sum := "3e8636f5c637b8b03a9a8e48a74ef1fd90b20dd9d8fce8a69f28ac9255b32a7c", func := "loop.example/changeringer/laws.FnSlimPlaces", spec := "fnSlimPlaces", unfollowed := true, recurses := true, apart := false, narrowed := true }
def FnSlimPlacesUptoSaid : Prop := fnSlimPlacesUptoRow.holds Try.pinned (OpenSpec.upto fnSlimPlacesSpec)

end Rows
end Go.Proofs.Ytogpfagdpkjmmaa
