/- Whether a context and a process agree, and a processor and a configuration, as plain data. -/
import Derived.Test.YtkiekabfmdcemaaCpuRec
import Derived.Test.YtkiekabfmdcemaaWorldRec
namespace Go.Proofs.Ytkiekabfmdcemaa
open Go.ChangeShapes Go.WideShapes Go.ChangeAt Go.RowKit

/-- The mode that a process has in a configuration. -/
def modeP (m : Int) : Int := if m = 1 then 1 else if m = 2 then 2 else 0
def twin1 (a : CtxP) (p : ProcP) : Bool := decide (a.regs = p.regs) && (modeP a.mode == p.mode) && (a.on == p.on) && (a.room == p.room)
def twins (xs : List CtxP) (ys : List ProcP) : Bool := decide (xs.length = ys.length) && (xs.zip ys).all (fun q => twin1 q.1 q.2)
def twinB (x : CpuP) (y : WorldP) : Bool := twins x.ctxs y.procs && decide (x.cells = y.cells) && decide (x.rooms = y.rooms) && decide (x.signs = y.signs) && decide (x.said = y.said)

theorem twins_len {xs : List CtxP} {ys : List ProcP} (h : ¬ xs.length = ys.length) : twins xs ys = false := by
  unfold twins; rw [decide_eq_false h]; rfl
theorem twins_no {xs : List CtxP} {ys : List ProcP} {k : Nat} (hx : k < xs.length) (hy : k < ys.length) (h : twin1 xs[k] ys[k] = false) : twins xs ys = false := by
  unfold twins
  rw [Bool.and_eq_false_iff]
  right
  rw [List.all_eq_false]
  have hz : k < (xs.zip ys).length := by rw [List.length_zip]; omega
  exact ⟨(xs.zip ys)[k], List.getElem_mem hz, by rw [List.getElem_zip, h]; decide⟩
theorem twins_yes {xs : List CtxP} {ys : List ProcP} (hl : xs.length = ys.length) (h : ∀ j (hx : j < xs.length) (hy : j < ys.length), twin1 xs[j] ys[j] = true) : twins xs ys = true := by
  unfold twins
  rw [decide_eq_true hl, Bool.true_and, List.all_eq_true]
  intro q hq
  obtain ⟨j, hj, rfl⟩ := List.getElem_of_mem hq
  have hj' := hj
  rw [List.length_zip] at hj'
  rw [List.getElem_zip]
  exact h j (by omega) (by omega)
/-- The first k pairs agree. -/
def TwK (xs : List CtxP) (ys : List ProcP) (k : Nat) : Prop := ∀ j (hx : j < xs.length) (hy : j < ys.length), j < k → twin1 xs[j] ys[j] = true
theorem TwK.zero (xs : List CtxP) (ys : List ProcP) : TwK xs ys 0 := fun j _ _ h => by omega
theorem TwK.more {xs : List CtxP} {ys : List ProcP} {k : Nat} (h : TwK xs ys k) (hx : k < xs.length) (hy : k < ys.length) (h1 : twin1 xs[k] ys[k] = true) : TwK xs ys (k + 1) := fun j hj hj' hk => by
  by_cases e : j = k
  · subst e; exact h1
  · exact h j hj hj' (by omega)
theorem TwK.all {xs : List CtxP} {ys : List ProcP} {k : Nat} (h : TwK xs ys k) (hl : xs.length = ys.length) (hk : xs.length ≤ k) : twins xs ys = true := twins_yes hl fun j hx hy => h j hx hy (by omega)
end Go.Proofs.Ytkiekabfmdcemaa
