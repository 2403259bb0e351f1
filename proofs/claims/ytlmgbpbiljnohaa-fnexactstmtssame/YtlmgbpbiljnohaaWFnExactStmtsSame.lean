/- The walk of laws.FnExactStmtsSame. -/
import Derived.Test.YtlmgbpbiljnohaaSameNew
import Derived.Test.YtlmgbpbiljnohaaEq
namespace Go.Proofs.Ytlmgbpbiljnohaa
open Go.ChangeShapes Go.WideShapes Go.ChangeAt Go.RowKit

set_option maxRecDepth 100000 in
set_option maxHeartbeats 1000000 in
theorem wFnExactStmtsSame (L L' : SL) (A A' : Option Addr) (n c n' c' : Nat) (w : World) (hs : Sl w w.heap.size L A n c) (ht : Sl w w.heap.size L' A' n' c') :
    Calls Try.prog 9 #[.slice A n c, .slice A' n' c'] w fun e w' => e = .returned (.bool true) ∧ Below w.heap.size w w' := by
  by_cases hfit : (L.size : Int) ≤ 1048576
  · by_cases hfit' : (L'.size : Int) ≤ 1048576 - L.size
    · have HS := Lib.hid (show szR L.size 1048576 = 1048576 - (L.size : Int) from if_pos hfit)
      have HS' := Lib.hid (show szR L'.size (1048576 - (L.size : Int)) = 1048576 - (L.size : Int) - L'.size from if_pos hfit')
      have hpos : 0 ≤ (1048576 : Int) - L.size := by omega
      have hpos' : 0 ≤ (1048576 : Int) - L.size - L'.size := by omega
      have lL : L.size ≤ 1048576 := by omega
      have lL' : L'.size ≤ 1048576 := by omega
      clear hfit hfit'
      go_enter Try.func9, Try.ntmps9
      go_wp2_with fail
      refine (szStmtS hs (Nat.le_refl _) (by omega) (by omega)).mono ?_
      rintro e w0 ⟨rfl, b0⟩
      rw [HS.out]
      have z0 := b0.size
      go_wp2_with fail
      refine (szStmtS (ht.below b0) z0 hpos (by omega)).mono ?_
      rintro e w1 ⟨rfl, hb1⟩
      rw [HS'.out]
      have b1 := b0.trans (hb1.mono z0)
      have z1 := b1.size
      clear hb1
      go_wp2_with fail
      refine (toStmtS L lL A n c w.heap.size w1 (hs.below b1) z1).mono ?_
      rintro e w2 ⟨A2, c2, rfl, s2, hb2⟩
      have z2 := hb2.size
      have b2 := b1.trans (hb2.mono z1)
      have u2 : Sl w2 w2.heap.size L A2 L.len c2 := s2.sl fun _ h => h.2
      clear hb2 s2
      go_wp2_with fail
      refine (toStmtS L' lL' A' n' c' w.heap.size w2 (ht.below b2) (by omega)).mono ?_
      rintro e w3 ⟨A3, c3, rfl, s3, hb3⟩
      have z3 := hb3.size
      have b3 := b2.trans (hb3.mono (by omega))
      have u3 := u2.below hb3
      have v3 : Sl w3 w3.heap.size L' A3 L'.len c3 := s3.sl fun _ h => h.2
      clear hb3 s3 u2
      go_wp2_with fail
      refine (specStmtsSame L L' lL lL' A2 A3 L.len c2 L'.len c3 w2.heap.size w3.heap.size w3 u3 v3 z3 (Nat.le_refl _)).mono ?_
      rintro e w4 ⟨rfl, hb4⟩
      have z4 := hb4.size
      have b4 := b3.trans (hb4.mono (by omega))
      clear hb4 u3 v3
      generalize hbe : sameP L L' = b at *
      have HBE := Lib.hid hbe
      clear hbe
      go_wp2_with fail
      refine (toStmtSN L lL A n c w.heap.size w4 (hs.below b4) (by omega)).mono ?_
      rintro e w5 ⟨A5, c5, rfl, s5, hb5, hn5⟩
      have PL5 := Lib.hid (And.intro s5 (show AllPl w5 (Born w4 w5) from fun b h => hn5 b h.1 h.2))
      clear hn5
      have z5 := hb5.size
      have b5 := b4.trans (hb5.mono (by omega))
      have u5 : Sl w5 w5.heap.size L A5 L.len c5 := s5.sl fun _ h => h.2
      clear hb5 s5
      go_wp2_with fail
      refine (toStmtSN L' lL' A' n' c' w.heap.size w5 (ht.below b5) (by omega)).mono ?_
      rintro e w6 ⟨A6, c6, rfl, s6, hb6, hn6⟩
      have PL6 := Lib.hid (And.intro s6 (show AllPl w6 (Born w5 w6) from fun b h => hn6 b h.1 h.2))
      have PL5' := Lib.hid (And.intro (PL5.out.1.later hb6) (PL5.out.2.later hb6))
      clear hn6 PL5
      have z6 := hb6.size
      have b6 := b5.trans (hb6.mono (by omega))
      have u6 := u5.below hb6
      have v6 : Sl w6 w6.heap.size L' A6 L'.len c6 := s6.sl fun _ h => h.2
      clear hb6 s6 u5
      go_wp2_with fail
      refine (stmtsSameN PL5'.out.1 PL6.out.1 PL5'.out.2 PL6.out.2 lL).mono ?_
      clear PL5' PL6
      rintro e w7 ⟨rfl, hb7⟩
      rw [HBE.out]
      have z7 := hb7.size
      have b7 := b6.trans (hb7.mono (by omega))
      have u7 := u6.below (hb7.mono z6)
      have v7 := v6.below hb7
      clear hb7 u6 v6
      go_wp2_with fail
      refine (toStmtS L lL A n c w.heap.size w7 (hs.below b7) (by omega)).mono ?_
      rintro e w8 ⟨A8, c8, rfl, s8, hb8⟩
      have z8 := hb8.size
      have b8 := b7.trans (hb8.mono (by omega))
      have u8 := u7.below (hb8.mono (by omega))
      have v8 := v7.below (hb8.mono z7)
      clear hb8 u7 v7
      go_wp2_with fail
      refine (eqStmtS L A5 A8 L.len c5 L.len c8 w5.heap.size w8.heap.size w8 u8 (s8.sl fun _ h => h.2) (by omega) (Nat.le_refl _)).mono ?_
      rintro e w9 ⟨rfl, hb9⟩
      have z9 := hb9.size
      have b9 := b8.trans (hb9.mono (by omega))
      have v9 := v8.below (hb9.mono (by omega))
      clear hb9 u8 v8 s8
      go_wp2_with fail
      refine (toStmtS L' lL' A' n' c' w.heap.size w9 (ht.below b9) (by omega)).mono ?_
      rintro e w10 ⟨A10, c10, rfl, s10, hb10⟩
      have z10 := hb10.size
      have b10 := b9.trans (hb10.mono (by omega))
      have v10 := v9.below (hb10.mono (by omega))
      clear hb10 v9
      go_wp2_with fail
      refine (eqStmtS L' A6 A10 L'.len c6 L'.len c10 w6.heap.size w10.heap.size w10 v10 (s10.sl fun _ h => h.2) (by omega) (Nat.le_refl _)).mono ?_
      rintro e w11 ⟨rfl, hb11⟩
      go_wp2_with fail
      go_ret
      exact ⟨rfl, b10.trans (hb11.mono (by omega))⟩
    · have HS := Lib.hid (show szR L.size 1048576 = 1048576 - (L.size : Int) from if_pos hfit)
      have HS' := Lib.hid (show szR L'.size (1048576 - (L.size : Int)) = -1 from if_neg hfit')
      have hpos : 0 ≤ (1048576 : Int) - L.size := by omega
      clear hfit hfit'
      go_enter Try.func9, Try.ntmps9
      go_wp2_with fail
      refine (szStmtS hs (Nat.le_refl _) (by omega) (by omega)).mono ?_
      rintro e w0 ⟨rfl, b0⟩
      rw [HS.out]
      have z0 := b0.size
      go_wp2_with fail
      refine (szStmtS (ht.below b0) z0 hpos (by omega)).mono ?_
      rintro e w1 ⟨rfl, hb1⟩
      rw [HS'.out]
      go_wp2_with fail
      go_ret
      exact ⟨rfl, b0.trans (hb1.mono z0)⟩
  · have HS := Lib.hid (show szR L.size 1048576 = -1 from if_neg hfit)
    clear hfit
    go_enter Try.func9, Try.ntmps9
    go_wp2_with fail
    refine (szStmtS hs (Nat.le_refl _) (by omega) (by omega)).mono ?_
    rintro e w1 ⟨rfl, hb1⟩
    rw [HS.out]
    go_wp2_with fail
    go_ret
    exact ⟨rfl, hb1⟩
end Go.Proofs.Ytlmgbpbiljnohaa
