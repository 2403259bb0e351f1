/- Slices of fours. -/
import Derived.Test.YtnfnjhbaaefbpaaGreatDoorFl
import Derived.StillTailTactics
namespace Go.Proofs.YtnfnjhbaaefbpaaGreatDoor
open Go.ChangeShapes Go.WideShapes Go.ChangeAt Go.RowKit

/-- Of a slice of fours the k-th. -/
theorem Fl.four {w : World} {S : Nat → Prop} {xs : List Int} {a : Addr} {n c : Nat} (h : Fl w S 4 xs (Option.some a) n c) (k : Nat) (hk : k < n) :
    w.cell? (a.add (k * 4)) = Option.some (.int .i64 (xs.getD (k * 4) 0)) ∧ w.cell? ⟨(a.add (k * 4)).block, (a.add (k * 4)).off + 1, none⟩ = Option.some (.int .i64 (xs.getD (k * 4 + 1) 0)) ∧
    w.cell? ⟨(a.add (k * 4)).block, (a.add (k * 4)).off + 2, none⟩ = Option.some (.int .i64 (xs.getD (k * 4 + 2) 0)) ∧ w.cell? ⟨(a.add (k * 4)).block, (a.add (k * 4)).off + 3, none⟩ = Option.some (.int .i64 (xs.getD (k * 4 + 3) 0)) := by
  have h1 := (h.at_ a rfl (k * 4 + 1) (by rw [h.len]; omega)).2
  have h2 := (h.at_ a rfl (k * 4 + 2) (by rw [h.len]; omega)).2
  have h3 := (h.at_ a rfl (k * 4 + 3) (by rw [h.len]; omega)).2
  rw [← add_ad] at h1 h2 h3
  exact ⟨(h.at_ a rfl (k * 4) (by rw [h.len]; omega)).2, h1, h2, h3⟩
end Go.Proofs.YtnfnjhbaaefbpaaGreatDoor
