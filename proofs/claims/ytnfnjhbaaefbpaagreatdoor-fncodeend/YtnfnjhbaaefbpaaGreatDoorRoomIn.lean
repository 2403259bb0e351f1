/- The room of what is within a statement. -/
import Derived.Test.YtnfnjhbaaefbpaaGreatDoorOkPure
import Derived.RangeFuncNested
import Derived.RangeFuncBound
import Derived.RangeFuncCalls
import Derived.RangeFuncLeaves
import Derived.RangeFuncFrom
import Derived.Shelf.Abstract
import Derived.OwnWalkIn
import Derived.TacticsInMore
import Derived.LoopNIn
import Derived.LoopIn
namespace Go.Proofs.YtnfnjhbaaefbpaaGreatDoor
open Go.ChangeShapes Go.WideShapes Go.ChangeAt Go.RowKit Go.Shelf

attribute [local go_sem] Oper.semAt_some

theorem room_in (F : Fence) (n : Nat) (h : F.fn 62) (hro : F.round = none) (k x y v r : Int) (vB vE : Value) (w : World) :
    CallsIn F n Tryz.prog 62 #[.agg #[.int .i64 k, .int .i64 x, .int .i64 y, .int .i64 v, vB, vE], .int .i64 r] w fun e w' => e = .returned (.int .i64 (inR k x r)) ∧ w.alloc (.cells #[.int .i64 k, .int .i64 x, .int .i64 y, .int .i64 v, vB, vE] 36) = w' := by
  by_cases hk : k = 8
  · subst hk
    refine callsIn_of_wp Tryz.func62 rfl h ?_ hro
    simp only [Tryz.ntmps62, List.size_toArray, List.length_cons, List.length_nil, Nat.reduceAdd, Nat.reduceSub, Array.replicate_succ, Array.replicate_zero, List.push_toArray, List.append_toArray, List.nil_append, List.cons_append]
    gi_wp2
    go_ret
    exact ⟨rfl, rfl⟩
  · have e : inR k x r = r := if_neg hk
    have E := Lib.hid e
    clear e
    refine callsIn_of_wp Tryz.func62 rfl h ?_ hro
    simp only [Tryz.ntmps62, List.size_toArray, List.length_cons, List.length_nil, Nat.reduceAdd, Nat.reduceSub, Array.replicate_succ, Array.replicate_zero, List.push_toArray, List.append_toArray, List.nil_append, List.cons_append]
    gi_wp2
    go_ret
    exact ⟨by rw [E.out]; rfl, rfl⟩
theorem roomWithin (k x y v r : Int) (vB vE : Value) (w : World) :
    Calls Tryz.prog 62 #[.agg #[.int .i64 k, .int .i64 x, .int .i64 y, .int .i64 v, vB, vE], .int .i64 r] w fun e w' => e = .returned (.int .i64 (inR k x r)) ∧ w.alloc (.cells #[.int .i64 k, .int .i64 x, .int .i64 y, .int .i64 v, vB, vE] 36) = w' :=
  (callsIn_wide (n := 1)).1 (room_in Fence.wide 1 trivial rfl k x y v r vB vE w)

end Go.Proofs.YtnfnjhbaaefbpaaGreatDoor
