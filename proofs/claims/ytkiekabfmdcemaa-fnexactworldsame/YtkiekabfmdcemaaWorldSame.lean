/- impl.WorldSame. -/
import Derived.Test.YtkiekabfmdcemaaWorldPure
import Derived.Test.YtkiekabfmdcemaaWorldSameI
namespace Go.Proofs.Ytkiekabfmdcemaa
open Go.ChangeShapes Go.WideShapes Go.ChangeAt Go.RowKit

theorem implWorldSame {x y : WorldP} {vs us : List Value} {S T : Nat → Prop} {w : World} (hI : worldShape.I w S vs x) (hJ : worldShape.I w T us y) (pS : AllPl w S) (pT : AllPl w T) (hz : sizeProcS x.procs ≤ 1048576) :
    Calls Try.prog 18 #[.agg vs.toArray, .agg us.toArray] w fun e w' => e = .returned (.bool (worldB x y)) ∧ Below w.heap.size w w' := by
  obtain ⟨A0, c0, A1, c1, A2, c2, A3, c3, A4, c4, rfl, f0, f1, f2, f3, f4⟩ := hI
  obtain ⟨B0, d0, B1, d1, B2, d2, B3, d3, B4, d4, rfl, g0, g1, g2, g3, g4⟩ := hJ
  exact worldSame_ (b := procsB x.procs y.procs) f1 g1 f2 g2 f3 g3 f4 g4 (fun W hW => equalProcs (f0.later (by decide) hW) (g0.later (by decide) hW) (pS.later hW) (pT.later hW) hz)
end Go.Proofs.Ytkiekabfmdcemaa
