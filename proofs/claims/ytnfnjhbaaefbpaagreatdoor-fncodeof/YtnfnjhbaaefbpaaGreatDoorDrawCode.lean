/- What the laws draw of chapter 4: some list, bent or not. -/
import Derived.Test.YtnfnjhbaaefbpaaGreatDoorDrawSome
import Derived.Test.YtnfnjhbaaefbpaaGreatDoorCodeBoth2
import Derived.Test.YtnfnjhbaaefbpaaGreatDoorCodeSame
namespace Go.Proofs.YtnfnjhbaaefbpaaGreatDoor
open Go.ChangeShapes Go.WideShapes Go.ChangeAt Go.RowKit

theorem drawCodeOf (A : Option Addr) (n c : Nat) (w : World) (h : Bytes w A n) (hn : n ≤ c) (hc : c ≤ maxLen) :
    Calls Tryz.prog 6 #[.slice A n c] w (DrawnPost w) := by
  go_enter Tryz.func6, Tryz.ntmps6
  go_wp2_with fail
  refine (drawStmtsOk A n c _ h hn hc).mono ?_
  rintro e w1 ⟨L, a, c1, rfl, s1, hL, b1⟩
  have HA := Lib.hid (show DrawnPost w (.returned (.slice (some a) L.len c1)) w1 from ⟨L, a, c1, rfl, s1, hL, b1⟩)
  clear s1
  go_wp2_with fail
  go_ret
  exact HA.out

/-- A row that is owned, read as a slice, at its own value. -/
theorem own_flat {w : World} {base : Nat} {e : TypeId} {z : Nat} {A : Option Addr} {c n : Nat} {xs : List Int} (ho : w.ownsRow base e z (.slice A n c) n (ints xs)) : Fl w (fun _ => True) z xs A n c := by
  obtain ⟨_, _, e, f⟩ := own_fl ho
  simp only [Value.slice.injEq, true_and] at e
  obtain ⟨rfl, rfl⟩ := e
  exact f.mono fun _ _ => trivial
end Go.Proofs.YtnfnjhbaaefbpaaGreatDoor
