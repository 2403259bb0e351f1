/- StmtsMany of the program and of the model. -/
import Derived.Test.YtlmgbpbiljnohaaManyImpl
namespace Go.Proofs.Ytlmgbpbiljnohaa
open Go.ChangeShapes Go.WideShapes Go.ChangeAt Go.RowKit

theorem specStmtsMany (L : SL) (hL : L.size ≤ 1048576) (A : Option Addr) (n c N : Nat) (w : World) (hs : Sl w N L A n c) (hN : N ≤ w.heap.size) :
    Calls Try.prog 14 #[.slice A n c] w fun e w' => e = .returned (.int .i64 (manyI L)) ∧ Below w.heap.size w w' := by
  cases hb : okP L
  · have H := Lib.hid (show manyI L = 0 from if_neg (by rw [hb]; decide))
    have HB := Lib.hid hb
    clear hb
    go_enter Try.func14, Try.ntmps14
    go_wp2_with fail
    refine (specStmtsOk L hL A n c N w hs hN).mono ?_
    rintro e w1 ⟨rfl, hb1⟩
    rw [HB.out]
    go_wp2_with fail
    go_ret
    exact ⟨by rw [H.out]; rfl, hb1⟩
  · have H := Lib.hid (show manyI L = L.size from if_pos hb)
    have HM := Lib.hid (show manyN L (3 : Int).toNat = L.size from manyN_ok (by omega) (okP_size hb).2)
    have HB := Lib.hid hb
    clear hb
    go_enter Try.func14, Try.ntmps14
    go_wp2_with fail
    refine (specStmtsOk L hL A n c N w hs hN).mono ?_
    rintro e w1 ⟨rfl, hb1⟩
    rw [HB.out]
    go_wp2_with fail
    refine (specMany L hL 3 (by omega) (by omega) A n c N w1 (hs.below (hb1.mono hN))).mono ?_
    rintro e w2 ⟨rfl, j, rfl⟩
    rw [HM.out]
    go_wp2_with fail
    go_ret
    exact ⟨by rw [H.out]; rfl, below_drewN hb1 j⟩
end Go.Proofs.Ytlmgbpbiljnohaa
