/- The walk of laws.FnExactStmtsOk. -/
import Derived.Test.YthamehcfenncaaaStmtsOk
import Derived.Test.YthamehcfenncaaaCopy
import Derived.Test.YthamehcfenncaaaEq
namespace Go.Proofs.Ythamehcfenncaaa
open Go.ChangeShapes Go.WideShapes Go.ChangeAt Go.RowKit

set_option maxRecDepth 100000 in
theorem wFnExactStmtsOk (L : SL) (A : Option Addr) (n c : Nat) (w : World) (hs : Sl w w.heap.size L A n c) :
    Calls Try.prog 5 #[.slice A n c] w fun e w' => e = .returned (.bool true) ∧ Below w.heap.size w w' := by
  by_cases hfit : (L.size : Int) ≤ 1048576
  · have HS := Lib.hid (show szR L.size 1048576 = 1048576 - (L.size : Int) from if_pos hfit)
    have hpos : 0 ≤ (1048576 : Int) - L.size := by omega
    have lL : L.size ≤ 1048576 := by omega
    clear hfit
    go_enter Try.func5, Try.ntmps5
    go_wp2_with fail
    refine (szStmtS hs (Nat.le_refl _) (by omega) (by omega)).mono ?_
    rintro e w1 ⟨rfl, b1⟩
    rw [HS.out]
    have z1 := b1.size
    go_wp2_with fail
    refine (toStmtS L lL A n c w.heap.size w1 (hs.below b1) z1).mono ?_
    rintro e w2 ⟨A2, c2, rfl, s2, hb2⟩
    have z2 := hb2.size
    have b2 := b1.trans (hb2.mono z1)
    clear hb2
    go_wp2_with fail
    refine (specStmtsOk L lL A2 L.len c2 w2.heap.size w2 (s2.sl fun _ h => h.2) (Nat.le_refl _)).mono ?_
    rintro e w3 ⟨rfl, hb3⟩
    have z3 := hb3.size
    have b3 := b2.trans (hb3.mono (by omega))
    clear hb3 s2
    generalize hbe : okP L = b at *
    have HBE := Lib.hid hbe
    clear hbe
    go_wp2_with fail
    refine (toStmtS L lL A n c w.heap.size w3 (hs.below b3) (by omega)).mono ?_
    rintro e w4 ⟨A4, c4, rfl, s4, hb4⟩
    have z4 := hb4.size
    have b4 := b3.trans (hb4.mono (by omega))
    have t4 : Sl w4 w4.heap.size L A4 L.len c4 := s4.sl fun _ h => h.2
    clear hb4 s4
    go_wp2_with fail
    refine (stmtsOk L A4 L.len c4 w4.heap.size w4 t4 (Nat.le_refl _)).mono ?_
    rintro e w5 ⟨rfl, hb5⟩
    rw [HBE.out]
    have z5 := hb5.size
    have b5 := b4.trans (hb5.mono (by omega))
    have t5 := t4.below hb5
    clear hb5 t4
    go_wp2_with fail
    refine (toStmtS L lL A n c w.heap.size w5 (hs.below b5) (by omega)).mono ?_
    rintro e w6 ⟨A6, c6, rfl, s6, hb6⟩
    have z6 := hb6.size
    have b6 := b5.trans (hb6.mono (by omega))
    have t6 := t5.below (hb6.mono z5)
    clear hb6
    go_wp2_with fail
    refine (eqStmtS L A4 A6 L.len c4 L.len c6 w4.heap.size w6.heap.size w6 t6 (s6.sl fun _ h => h.2) (by omega) (Nat.le_refl _)).mono ?_
    rintro e w7 ⟨rfl, hb7⟩
    go_wp2_with fail
    go_ret
    exact ⟨rfl, b6.trans (hb7.mono (by omega))⟩
  · have HS := Lib.hid (show szR L.size 1048576 = -1 from if_neg hfit)
    clear hfit
    go_enter Try.func5, Try.ntmps5
    go_wp2_with fail
    refine (szStmtS hs (Nat.le_refl _) (by omega) (by omega)).mono ?_
    rintro e w1 ⟨rfl, hb1⟩
    rw [HS.out]
    go_wp2_with fail
    go_ret
    exact ⟨rfl, hb1⟩
end Go.Proofs.Ythamehcfenncaaa
