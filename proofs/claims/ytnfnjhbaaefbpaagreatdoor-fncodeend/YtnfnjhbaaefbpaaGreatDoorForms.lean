/- The program's table of forms. -/
import Derived.Test.YtnfnjhbaaefbpaaGreatDoorCodeOkPure
import Derived.Test.YtnfnjhbaaefbpaaGreatDoorIns
import Derived.Laws.EntriesVeiled
namespace Go.Proofs.YtnfnjhbaaefbpaaGreatDoor
open Go.ChangeShapes Go.WideShapes Go.ChangeAt Go.RowKit

/-- The function value of a function. -/
abbrev fv (F : Nat) : Value := .func (Fn.func F) #[] #[]
/-- The form of an op: its word, what its three numbers have to fulfil, what passes. -/
def formV (b : Nat) : Nat → List Value
  | 1 => [.string ⟨#[110, 117, 109]⟩, fv 40, .nilFunc, fv 41, .nilFunc]
  | 2 => [.string ⟨#[100, 111]⟩, fv 40, fv 40, fv 42, .nilFunc]
  | 3 => [.string ⟨#[108, 111, 97, 100]⟩, fv 40, fv 43, .nilFunc, .nilFunc]
  | 4 => [.string ⟨#[115, 116, 111, 114, 101]⟩, fv 43, fv 40, .nilFunc, .nilFunc]
  | 5 => [.string ⟨#[115, 97, 121]⟩, fv 40, .nilFunc, .nilFunc, .nilFunc]
  | 6 => [.string ⟨#[115, 107, 105, 112]⟩, fv 40, .nilFunc, .func (Fn.func 39) #[] #[.pointer (some ⟨b, 0, none⟩)], .nilFunc]
  | 7 => [.string ⟨#[106, 117, 109, 112]⟩, .nilFunc, .nilFunc, .func (Fn.func 39) #[] #[.pointer (some ⟨b, 0, none⟩)], .nilFunc]
  | 8 => [.string ⟨#[101, 110, 116, 101, 114]⟩, fv 44, .nilFunc, .nilFunc, fv 45]
  | 9 => [.string ⟨#[108, 101, 97, 118, 101]⟩, fv 44, .nilFunc, .nilFunc, fv 46]
  | 10 => [.string ⟨#[119, 97, 105, 116]⟩, fv 47, .nilFunc, .nilFunc, fv 48]
  | 11 => [.string ⟨#[115, 105, 103, 110, 97, 108]⟩, fv 47, .nilFunc, .nilFunc, .nilFunc]
  | 12 => [.string ⟨#[121, 105, 101, 108, 100]⟩, .nilFunc, .nilFunc, .nilFunc, .nilFunc]
  | 13 => [.string ⟨#[101, 110, 100]⟩, .nilFunc, .nilFunc, .nilFunc, fv 49]
  | _ => [.string ⟨#[]⟩, .nilFunc, .nilFunc, .nilFunc, .nilFunc]
/-- All of them. -/
def formsA (b : Nat) : Array Value := (formV b 0 ++ formV b 1 ++ formV b 2 ++ formV b 3 ++ formV b 4 ++ formV b 5 ++ formV b 6 ++ formV b 7 ++ formV b 8 ++ formV b 9 ++ formV b 10 ++ formV b 11 ++ formV b 12 ++ formV b 13).toArray
/-- No form. -/
def formsZ : Array Value := (formV 0 0 ++ formV 0 0 ++ formV 0 0 ++ formV 0 0 ++ formV 0 0 ++ formV 0 0 ++ formV 0 0 ++ formV 0 0 ++ formV 0 0 ++ formV 0 0 ++ formV 0 0 ++ formV 0 0 ++ formV 0 0 ++ formV 0 0).toArray
theorem zeroForms (W : World) : (zeroValue 70).run Tryz.prog W = .ok (.agg formsZ) W := by kernel_rfl

/-- The table lies in block g, its number of instructions in block b. -/
def Forms (w : World) (n g b : Nat) : Prop := w.heap[g]? = some (.cells (formsA b) 70 (0, 0)) ∧ w.cell? ⟨b, 0, none⟩ = some (.int .i64 n) ∧ b < w.heap.size

set_option maxRecDepth 100000 in
set_option maxHeartbeats 4000000 in
theorem formsOf (n : Nat) (w : World) : Calls Tryz.prog 24 #[.int .i64 n] w fun e w' => (∃ g b, e = .returned (.pointer (some ⟨g, 0, none⟩)) ∧ w.heap.size ≤ g ∧ w.heap.size ≤ b ∧ Forms w' n g b) ∧ Below w.heap.size w w' := by
  have hz := fun W => zeroForms W
  simp only [formsZ, formV, List.cons_append, List.nil_append] at hz
  go_enter Tryz.func24, Tryz.ntmps24
  go_wp2_with fail
  go_ret
  refine ⟨⟨w.heap.size + 1, w.heap.size, rfl, by omega, Nat.le_refl _, ?_, ?_, by simp; omega⟩, ((Below.refl _ _).alloc (Nat.le_refl _) _).alloc (by simp) _⟩
  · have := (MapKept.heap_alloc (w.alloc (.cells #[.int .i64 n] 3)) (.cells (formsA w.heap.size) 70)).1
    rw [World.size_alloc] at this
    exact this
  · rw [World.cell?_of_block (Below.heap_alloc _ _ _ (by simp))]
    simp

/-- A function value, or none. -/
def fo : Option (Nat × Array Value) → Value
  | none => .nilFunc
  | some (F, cs) => .func (Fn.func F) #[] cs
end Go.Proofs.YtnfnjhbaaefbpaaGreatDoor
