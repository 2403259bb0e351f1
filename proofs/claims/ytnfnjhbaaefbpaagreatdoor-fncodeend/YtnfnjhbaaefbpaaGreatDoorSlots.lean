/- The fields of an instruction with what they have to fulfil. -/
import Derived.Test.YtnfnjhbaaefbpaaGreatDoorForms
namespace Go.Proofs.YtnfnjhbaaefbpaaGreatDoor
open Go.ChangeShapes Go.WideShapes Go.ChangeAt Go.RowKit

set_option maxRecDepth 100000 in
set_option maxHeartbeats 4000000 in
theorem slots (o0 o1 o2 : Option (Nat × Array Value)) (f3 : Value) (p : Nat) (s : ByteArray) (w : World) : Calls Tryz.prog 50 #[.agg #[.string s, fo o0, fo o1, fo o2, f3], .pointer (some ⟨p, 0, none⟩)] w fun e w' =>
    e = .returned (.agg #[.pointer (some ⟨p, 1, none⟩), fo o0, .pointer (some ⟨p, 2, none⟩), fo o1, .pointer (some ⟨p, 3, none⟩), fo o2]) ∧ Below w.heap.size w w' := by
  rcases o0 with _ | ⟨F0, k0⟩ <;> rcases o1 with _ | ⟨F1, k1⟩ <;> rcases o2 with _ | ⟨F2, k2⟩
  all_goals
    simp only [fo]
    go_enter Tryz.func50, Tryz.ntmps50
    go_wp2_with fail
    go_region
    all_goals (try go_wp2)
    all_goals
      refine bodyPost_ret (by simp [results, Tryz.results50, go_sem]; exact rfl) rfl ?_
      exact ⟨rfl, (((Below.refl _ _).alloc (Nat.le_refl _) _).alloc (by simp) _).drew⟩
end Go.Proofs.YtnfnjhbaaefbpaaGreatDoor
