/- StmtsMany of the program. -/
import Derived.Test.YtlmgbpbiljnohaaStmtsOk
namespace Go.Proofs.Ytlmgbpbiljnohaa
open Go.ChangeShapes Go.WideShapes Go.ChangeAt Go.RowKit

/-- The number of statements of a process. -/
def manyI (L : SL) : Int := if okP L = true then L.size else 0

theorem stmtsMany (L : SL) (A : Option Addr) (n c N : Nat) (w : World) (hs : Sl w N L A n c) (hN : N ≤ w.heap.size) :
    Calls Try.prog 12 #[.slice A n c] w fun e w' => e = .returned (.int .i64 (manyI L)) ∧ Below w.heap.size w w' := by
  cases hb : okP L
  · have H := Lib.hid (show manyI L = 0 from if_neg (by rw [hb]; decide))
    have HB := Lib.hid hb
    clear hb
    go_enter Try.func12, Try.ntmps12
    go_wp2_with fail
    refine (stmtsOk L A n c N w hs hN).mono ?_
    rintro e w1 ⟨rfl, hb1⟩
    rw [HB.out]
    go_wp2_with fail
    go_ret
    exact ⟨by rw [H.out]; rfl, hb1⟩
  · have H := Lib.hid (show manyI L = cntI L.size from by rw [manyI, if_pos hb, cntI, if_pos (okP_size hb).1])
    have HB := Lib.hid hb
    clear hb
    go_enter Try.func12, Try.ntmps12
    go_wp2_with fail
    refine (stmtsOk L A n c N w hs hN).mono ?_
    rintro e w1 ⟨rfl, hb1⟩
    rw [HB.out]
    have hz1 := hb1.size
    go_wp2_with fail
    refine (countStmts L A n c N w1 (hs.below (hb1.mono hN)) (by omega)).mono ?_
    rintro e w2 ⟨rfl, hb2⟩
    go_wp2_with fail
    go_ret
    exact ⟨by rw [H.out]; rfl, hb1.trans (hb2.mono hz1)⟩
end Go.Proofs.Ytlmgbpbiljnohaa
