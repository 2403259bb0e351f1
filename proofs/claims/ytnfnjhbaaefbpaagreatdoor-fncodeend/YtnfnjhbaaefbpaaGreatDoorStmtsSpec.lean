/- StmtsOk of the model. -/
import Derived.Test.YtnfnjhbaaefbpaaGreatDoorOkSpec
import Derived.Test.YtnfnjhbaaefbpaaGreatDoorMany
namespace Go.Proofs.YtnfnjhbaaefbpaaGreatDoor
open Go.ChangeShapes Go.WideShapes Go.ChangeAt Go.RowKit

/-- Whether a list is a process. -/
def okP (L : SL) : Bool := decide (L.size ≤ 14) && okL L 3 (-1)

theorem below_drewN {B : Nat} {a w : World} (h : Below B a w) (n : Nat) : Below B a (w.drewN n) := ⟨h.os, h.tape, h.output, h.size, h.block⟩

theorem specStmtsOk (L : SL) (hL : L.size ≤ 1048576) (A : Option Addr) (n c N : Nat) (w : World) (hs : Sl w N L A n c) (hN : N ≤ w.heap.size) :
    Calls Tryz.prog 10 #[.slice A n c] w fun e w' => e = .returned (.bool (okP L)) ∧ Below w.heap.size w w' := by
  cases hb : okL L 3 (-1)
  · have H := Lib.hid (show okP L = false from by rw [okP, hb, Bool.and_false])
    have HB := Lib.hid hb
    clear hb
    go_enter Tryz.func10, Tryz.ntmps10
    go_wp2_with fail
    refine ((specList L 3 (-1) (by omega) (by omega)).at HB.out hs hN).mono ?_
    rintro e w1 ⟨rfl, hb1⟩
    go_wp2_with fail
    go_ret
    exact ⟨by rw [H.out]; rfl, hb1⟩
  · have H := Lib.hid (show okP L = decide (L.size ≤ 14) from by rw [okP, hb, Bool.and_true])
    have HM := Lib.hid (show manyN L (3 : Int).toNat = L.size from manyN_ok (by omega) hb)
    have HB := Lib.hid hb
    clear hb
    go_enter Tryz.func10, Tryz.ntmps10
    go_wp2_with fail
    refine ((specList L 3 (-1) (by omega) (by omega)).at HB.out hs hN).mono ?_
    rintro e w1 ⟨rfl, hb1⟩
    go_wp2_with fail
    refine (specMany L hL 3 (by omega) (by omega) A n c N w1 (hs.below (hb1.mono hN))).mono ?_
    rintro e w2 ⟨rfl, j, rfl⟩
    rw [HM.out]
    go_wp2_with fail
    go_ret
    exact ⟨retB (by rw [H.out, decide_eq_decide]; omega), below_drewN hb1 j⟩


theorem okP_size {L : SL} (h : okP L = true) : L.size ≤ 14 ∧ okL L 3 (-1) = true := by
  rw [okP, Bool.and_eq_true, decide_eq_true_eq] at h; exact h
end Go.Proofs.YtnfnjhbaaefbpaaGreatDoor
