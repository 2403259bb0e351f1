/- The walk of laws.FnExactNumDo. -/
import Derived.Test.YtgnahgppojehnaaNumDo
import Derived.Below
namespace Go.Proofs.Ytgnahgppojehnaa
open Go.ChangeShapes Go.WideShapes Go.ChangeAt Go.RowKit

theorem wFnExactNumDo (op a b : Int) (w : World) :
    Calls Try.prog 11 #[.int .i64 op, .int .i64 a, .int .i64 b] w fun e w' => e = .returned (.bool true) ∧ Below w.heap.size w w' := by
  go_enter Try.func11, Try.ntmps11
  go_wp2_with fail
  refine (specNumDo _ _ _ _).mono ?_
  rintro e w1 ⟨rfl, rfl⟩
  go_wp2_with fail
  refine (numDo _ _ _ _).mono ?_
  rintro e w2 ⟨rfl, hb1⟩
  go_wp2_with fail
  go_ret
  exact ⟨rfl, hb1⟩
end Go.Proofs.Ytgnahgppojehnaa
