/- impl.CpuSame of two processors that read as x and y answers whether x = y. -/
import Derived.Test.YtkiekabfmdcemaaCpuSameJ
namespace Go.Proofs.Ytkiekabfmdcemaa
open Go.ChangeShapes Go.WideShapes Go.ChangeAt Go.RowKit

theorem cpu_and (x y : CpuP) : (decide (x.ctxs = y.ctxs) && (true && decide (x.cells = y.cells) && decide (x.rooms = y.rooms) && decide (x.signs = y.signs) && decide (x.said = y.said)) && decide (x.lines = y.lines) && decide (x.ready = y.ready) && (x.left == y.left) && (x.gap == y.gap) && decide (x.ran = y.ran) && decide (x.picks = y.picks)) = decide (x = y) := by
  by_cases h : x = y
  · subst h; simp
  · rw [decide_eq_false h]
    apply Bool.eq_false_iff.2
    intro e
    apply h
    cases x
    cases y
    simp at e
    simp [e]

theorem implCpuSame {x y : CpuP} {vs us : List Value} {S T : Nat → Prop} {w : World} (hI : cpuShape.I w S vs x) (hJ : cpuShape.I w T us y) :
    Calls Try.prog 10 #[.agg vs.toArray, .agg us.toArray] w fun e w' => e = .returned (.bool (decide (x = y))) ∧ Below w.heap.size w w' := by
  obtain ⟨A0, c0, A1, c1, A2, c2, A3, c3, A4, c4, A5, c5, A8, c8, A9, c9, A10, c10, rfl, f0, f1, f2, f3, f4, f5, f8, f9, f10⟩ := hI
  obtain ⟨B0, d0, B1, d1, B2, d2, B3, d3, B4, d4, B5, d5, B8, d8, B9, d9, B10, d10, rfl, g0, g1, g2, g3, g4, g5, g8, g9, g10⟩ := hJ
  rw [← cpu_and x y]
  exact cpuSame_
    (fun W hW => equalCtxs (f0.later (by decide) hW) (g0.later (by decide) hW))
    (fun W _ => common_ _ _ _ _ _ _ _ _ _ _ _ _ _ _ _ _ _ _ _ _ _ _ _ W rfl rfl rfl rfl)
    (fun W _ => common_ _ _ _ _ _ _ _ _ _ _ _ _ _ _ _ _ _ _ _ _ _ _ _ W rfl rfl rfl rfl)
    (fun W hW => worldSame_ (b := true) (f1.later hW) (g1.later hW) (f2.later hW) (g2.later hW) (f4.later (by decide) hW) (g4.later (by decide) hW) (f8.later hW) (g8.later hW) (fun V _ => equalNone 0 0 V))
    (fun W hW => equalLists (f3.later (by decide) hW) (g3.later (by decide) hW))
    (fun W hW => equalInt (f5.later hW) (g5.later hW))
    (fun W hW => equalInt (f9.later hW) (g9.later hW))
    (fun W hW => equalInt (f10.later hW) (g10.later hW))
    rfl rfl
end Go.Proofs.Ytkiekabfmdcemaa
