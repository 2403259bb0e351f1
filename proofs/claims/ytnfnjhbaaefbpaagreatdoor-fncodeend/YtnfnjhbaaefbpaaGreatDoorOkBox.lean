/- Small facts for the walk of StmtOk: what its boxed parameters hold. -/
import Derived.Test.YtnfnjhbaaefbpaaGreatDoorOkImpl
import Derived.Test.YtnfnjhbaaefbpaaGreatDoorRoomIn
import Derived.Test.YtnfnjhbaaefbpaaGreatDoorNew
namespace Go.Proofs.YtnfnjhbaaefbpaaGreatDoor
open Go.ChangeShapes Go.WideShapes Go.ChangeAt Go.RowKit

/-- Behind three new blocks and a call: what they hold. -/
theorem box3 {w w' : World} {vs : Array Value} {t u v : TypeId} {p q : Value} (hb : Below (((w.alloc (.cells vs t)).alloc (.cells #[p] u)).alloc (.cells #[q] v)).heap.size (((w.alloc (.cells vs t)).alloc (.cells #[p] u)).alloc (.cells #[q] v)) w') :
    w.heap.size + 3 ≤ w'.heap.size ∧ Below w.heap.size w w' ∧ (∀ j, w'.cell? ⟨w.heap.size, j, none⟩ = vs[j]?) ∧ w'.cell? ⟨w.heap.size + 1, 0, none⟩ = some p ∧ w'.cell? ⟨w.heap.size + 1 + 1, 0, none⟩ = some q ∧ w'.frozen? ⟨w.heap.size + 1 + 1, 0, none⟩ = false := by
  have hz := hb.size
  simp at hz
  have h0 : (((w.alloc (.cells vs t)).alloc (.cells #[p] u)).alloc (.cells #[q] v)).heap[w.heap.size]? = some (.cells vs t (0, 0)) := by
    show (((w.heap.push _).push _).push _)[w.heap.size]? = _
    rw [Array.getElem?_push, if_neg (by simp; omega), Array.getElem?_push, if_neg (by simp), Array.getElem?_push, if_pos rfl]
  have h1 : (((w.alloc (.cells vs t)).alloc (.cells #[p] u)).alloc (.cells #[q] v)).heap[w.heap.size + 1]? = some (.cells #[p] u (0, 0)) := by
    show (((w.heap.push _).push _).push _)[w.heap.size + 1]? = _
    rw [Array.getElem?_push, if_neg (by simp), Array.getElem?_push, if_pos (by simp)]
  have h2 : (((w.alloc (.cells vs t)).alloc (.cells #[p] u)).alloc (.cells #[q] v)).heap[w.heap.size + 1 + 1]? = some (.cells #[q] v (0, 0)) := by
    show (((w.heap.push _).push _).push _)[w.heap.size + 1 + 1]? = _
    rw [Array.getElem?_push, if_pos (by simp)]
  have h2' : w'.heap[w.heap.size + 1 + 1]? = some (.cells #[q] v (0, 0)) := by rw [hb.block _ (by simp)]; exact h2
  refine ⟨by omega, (((Below.refl _ _).alloc (Nat.le_refl _) _).alloc (by simp) _ |>.alloc (by simp; omega) _).trans (hb.mono (by simp; omega)), fun j => ?_, ?_, ?_, ?_⟩
  · rw [hb.cell (by simp; omega), cell_of_row _ _ j vs t (0, 0) h0]
  · rw [hb.cell (by simp), cell_of_row _ _ 0 #[p] u (0, 0) h1]; rfl
  · rw [cell_of_row _ _ 0 #[q] v (0, 0) h2']; rfl
  · simp [World.frozen?, h2']

/-- Behind two new blocks and a call: what they hold. -/
theorem box2 {w w' : World} {vs : Array Value} {t u : TypeId} {p : Value} (hb : Below ((w.alloc (.cells vs t)).alloc (.cells #[p] u)).heap.size ((w.alloc (.cells vs t)).alloc (.cells #[p] u)) w') :
    w.heap.size + 2 ≤ w'.heap.size ∧ Below w.heap.size w w' ∧ w'.heap[w.heap.size]? = some (.cells vs t (0, 0)) ∧ w'.heap[w.heap.size + 1]? = some (.cells #[p] u (0, 0)) := by
  have hz := hb.size
  simp at hz
  refine ⟨by omega, (((Below.refl _ _).alloc (Nat.le_refl _) _).alloc (by simp) _).trans (hb.mono (by simp; omega)), ?_, ?_⟩
  · rw [hb.block _ (by simp; omega)]
    show ((w.heap.push _).push _)[w.heap.size]? = _
    rw [Array.getElem?_push, if_neg (by simp), Array.getElem?_push, if_pos rfl]
  · rw [hb.block _ (by simp)]
    show ((w.heap.push _).push _)[w.heap.size + 1]? = _
    rw [Array.getElem?_push, if_pos (by simp)]

/-- The box of the room within, behind the call that tells it: what is there. -/
theorem boxR {w w2 : World} {vs us : Array Value} {t u v : TypeId} {p q : Value} (h0 : w2.heap[w.heap.size]? = some (.cells vs t (0, 0))) (h1 : w2.heap[w.heap.size + 1]? = some (.cells #[p] u (0, 0))) (hb : Below w.heap.size w w2) {w3 : World} (hw : (w2.alloc (.cells us t)).alloc (.cells #[q] v) = w3) :
    w3.heap.size = w2.heap.size + 2 ∧ Below w.heap.size w w3 ∧ w3.heap[w.heap.size]? = some (.cells vs t (0, 0)) ∧ w3.heap[w.heap.size + 1]? = some (.cells #[p] u (0, 0)) ∧ w3.cell? ⟨w2.heap.size + 1, 0, none⟩ = some q := by
  have l0 := (Array.getElem?_eq_some_iff.1 h0).1
  have l1 := (Array.getElem?_eq_some_iff.1 h1).1
  subst hw
  refine ⟨by simp, (hb.alloc hb.size _).alloc (by have := hb.size; simp; omega) _, ?_, ?_, ?_⟩
  · show ((w2.heap.push _).push _)[w.heap.size]? = _
    rw [Array.getElem?_push, if_neg (by simp; omega), Array.getElem?_push, if_neg (by omega)]; exact h0
  · show ((w2.heap.push _).push _)[w.heap.size + 1]? = _
    rw [Array.getElem?_push, if_neg (by simp; omega), Array.getElem?_push, if_neg (by omega)]; exact h1
  · have hr : ((w2.alloc (.cells us t)).alloc (.cells #[q] v)).heap[w2.heap.size + 1]? = some (.cells #[q] v (0, 0)) := by
      show ((w2.heap.push _).push _)[w2.heap.size + 1]? = _
      rw [Array.getElem?_push, if_pos (by simp)]
    rw [row_cell hr]; rfl

theorem cell_set_same {w : World} {a : Addr} {u : Value} (h : w.cell? a = some u) (v : Value) : (w.setCell a v).cell? a = some v := World.cell?_setCell_same' w a v (by rw [h]; rfl)

theorem fit_in {x y n : Int} {lb le : Nat} {r : Int} (h : fitB 8 x y n lb le r = true) : 0 ≤ x ∧ x ≤ 1 := by
  simp [fitB, headB] at h
  omega
end Go.Proofs.YtnfnjhbaaefbpaaGreatDoor
