/- What the laws draw of chapter 2: some list, bent or not. -/
import Derived.Test.YtnfnjhbaaefbpaaGreatDoorSome
import Derived.Test.YtnfnjhbaaefbpaaGreatDoorBentWalk
namespace Go.Proofs.YtnfnjhbaaefbpaaGreatDoor
open Go.ChangeShapes Go.WideShapes Go.ChangeAt Go.RowKit

def DrawnPost (w : World) (e : Ending) (w' : World) : Prop :=
  ∃ (L : SL) (a : Addr) (c : Nat), e = .returned (.slice (some a) L.len c) ∧ SlP w' (Born w w') L (some a) L.len c ∧ L.size ≤ 100000 ∧ Below w.heap.size w w'

theorem drawStmtsOk (A : Option Addr) (n c : Nat) (w : World) (h : Bytes w A n) (hn : n ≤ c) (hc : c ≤ maxLen) :
    Calls Tryz.prog 16 #[.slice A n c] w (DrawnPost w) := by
  go_enter Tryz.func16, Tryz.ntmps16
  go_wp2_with fail
  refine (l11Open A n c _ h hn hc).mono ?_
  rintro e w1 ⟨rfl, hR, hb⟩
  go_wp2_with fail
  refine (some_ _ 0 _ hR (by omega) (by omega)).mono ?_
  rintro e w2 ⟨L, a, c2, q, rfl, hs, _, hl, hz, q0, q1, hR2, hg2⟩
  go_wp2_with fail
  refine (bent (fun b => w.heap.size < b) L _ q a _ c2 _ ⟨fun b hb => Nat.ne_of_gt hb, fun b hb => Nat.lt_of_lt_of_le hR2.lt hb⟩ (hs.mono fun b hb => ⟨Nat.lt_of_lt_of_le hR.lt hb.1, hb.2⟩) hR2 (by omega) (by omega) (by omega)).mono ?_
  rintro e w3 ⟨L3, a3, c3, q3, rfl, hs3, hz3, hl3, q30, q31, hR3, hg3⟩
  go_wp2_with fail
  refine (bent (fun b => w.heap.size < b) L3 _ q3 a3 _ c3 _ ⟨fun b hb => Nat.ne_of_gt hb, fun b hb => Nat.lt_of_lt_of_le hR3.lt hb⟩ hs3 hR3 (by omega) (by omega) (by omega)).mono ?_
  rintro e w4 ⟨L4, a4, c4, q4, rfl, hs4, hz4, hl4, q40, q41, hR4, hg4⟩
  have H : DrawnPost w (.returned (.slice (some a4) L4.len c4)) w4 := ⟨L4, a4, c4, rfl, hs4.mono fun b hb => ⟨Nat.le_of_lt hb.1, hb.2⟩, by omega, hb.trans (Below.of_grown ((hg2.trans hg3).trans hg4) (Nat.le_refl _) hR.lt)⟩
  have HA := Lib.hid H
  clear H hs hs3 hs4
  go_wp2_with fail
  go_ret
  exact HA.out
end Go.Proofs.YtnfnjhbaaefbpaaGreatDoor
