/- The program's WholeOk leaves with a mark for each range over a function that it went through. -/
import Derived.Test.YtoinagefhbpakaaOwnAt
namespace Go.Proofs.Ytoinagefhbpakaa
open Go.ChangeShapes Go.WideShapes Go.ChangeAt Go.RowKit Go.Shelf

attribute [local go_sem] Oper.semAt_some

/-- The marks on the activation's deferred calls. -/
def marks (Ds : List Nat) : List Deferred := Ds.map fun D => { target := .collected D, args := #[] }

theorem leave_marks {F : Fence} {n N g : Nat} {w0 : World} (tmps : Array Value) (ht : tmps[4]? = some (.pointer (some ⟨g, 0, none⟩))) (v : Bool) :
    ∀ (Ds : List Nat) (W : World), Ds.Nodup → (∀ D ∈ Ds, N ≤ D ∧ W.heap[D]? = some (.deferred (some []))) → W.heap[g]? = some (.cells #[.bool v] 4 (0, 0)) → Below N w0 W →
      LeavesInM F n Try.prog Try.f30 tmps (fun e W' => e = .returned (.bool v) ∧ Below N w0 W') (marks Ds) .returning W := by
  intro Ds
  induction Ds with
  | nil =>
    intro W _ _ hg hb
    have hc : W.cell? ⟨g, 0, none⟩ = some (.bool v) := by rw [row_cell hg]; rfl
    refine ⟨.bool v, ?_, rfl, hb⟩
    simp [results, Try.results30, ht, go_sem, hc]
  | cons D Ds ih =>
    intro W hn hD hg hb
    obtain ⟨hn1, hn2⟩ := List.nodup_cons.1 hn
    obtain ⟨hND, hDk⟩ := hD D (List.mem_cons_self ..)
    refine ⟨by simp, .inl ⟨D, _, rfl, run_takeDeferred hDk, ?_⟩⟩
    have hgD : g ≠ D := fun e => by subst e; rw [hDk] at hg; cases hg
    refine ih _ hn2 (fun E hE => ⟨(hD E (List.mem_cons_of_mem _ hE)).1, ?_⟩) ?_ ?_
    · rw [World.putObj_heap_other (fun e : E = D => hn1 (by rw [← e]; exact hE))]
      exact (hD E (List.mem_cons_of_mem _ hE)).2
    · rw [World.putObj_heap_other hgD]; exact hg
    · have hlt := (Array.getElem?_eq_some_iff.1 hDk).1
      exact hb.trans ((Below.refl N W).grown (grownBy_putObj' W D _) (by omega) (fun k e => by cases e; omega))
end Go.Proofs.Ytoinagefhbpakaa
