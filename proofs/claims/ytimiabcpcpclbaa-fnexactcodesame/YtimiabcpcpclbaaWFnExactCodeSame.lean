/- The walk of laws.FnExactCodeSame. -/
import Derived.Test.YtimiabcpcpclbaaCodeSame
import Derived.Test.YtimiabcpcpclbaaInsIn
namespace Go.Proofs.Ytimiabcpcpclbaa
open Go.ChangeShapes Go.WideShapes Go.ChangeAt Go.RowKit

set_option maxRecDepth 100000 in
set_option maxHeartbeats 1000000 in
theorem wFnExactCodeSame (xs ys : List Int) (A A' : Option Addr) (n c n' c' : Nat) (w : World) (hs : Fl w (fun _ => True) 4 xs A n c) (ht : Fl w (fun _ => True) 4 ys A' n' c') :
    Calls Try.prog 3 #[.slice A n c, .slice A' n' c'] w fun e w' => e = .returned (.bool true) ∧ Below w.heap.size w w' := by
  have hm : n ≤ maxLen := by have := hs.le; have := hs.top; omega
  have hm' : n' ≤ maxLen := by have := ht.le; have := ht.top; omega
  by_cases hfit : (n : Int) ≤ 1048576
  · have HS := Lib.hid (show (if (n : Int) ≤ 1048576 then 1048576 - (n : Int) else -1) = 1048576 - (n : Int) from if_pos hfit)
    by_cases hfit' : (n' : Int) ≤ 1048576 - n
    · have HT := Lib.hid (show (if (n' : Int) ≤ 1048576 - n then 1048576 - (n : Int) - n' else -1) = 1048576 - (n : Int) - n' from if_pos hfit')
      have hn : n ≤ 1048576 := by omega
      have hn' : n' ≤ 1048576 := by omega
      have hpos : 0 ≤ (1048576 : Int) - n := by omega
      have hpos' : 0 ≤ (1048576 : Int) - n - n' := by omega
      clear hfit hfit'
      obtain ⟨d, hd⟩ : ∃ d, decide (xs = ys) = d := ⟨_, rfl⟩
      have HD := Lib.hid hd
      clear hd
      go_enter Try.func3, Try.ntmps3
      go_wp2_with fail
      refine (szInsS A n c 1048576 w hm (by omega) (by omega)).mono ?_
      rintro e w ⟨rfl, rfl⟩
      rw [HS.out]
      clear HS hm
      go_wp2_with fail
      refine (szInsS A' n' c' _ w hm' (by omega) (by omega)).mono ?_
      rintro e w ⟨rfl, rfl⟩
      rw [HT.out]
      clear HT hm'
      go_wp2_with fail
      refine (toInsS hs hn).mono ?_
      rintro e w1 ⟨v1, rfl, o1, b1⟩
      obtain ⟨A1, c1, rfl, f1⟩ := own_fl o1
      have z1 := b1.size
      go_wp2_with fail
      refine (toInsS (ht.later b1) hn').mono ?_
      rintro e w2 ⟨v2, rfl, o2, hb2⟩
      obtain ⟨A2, c2, rfl, f2⟩ := own_fl o2
      have z2 := hb2.size
      have b2 := b1.trans (hb2.mono z1)
      have f1' := f1.later hb2
      clear o1 f1 o2 hb2
      go_wp2_with fail
      refine (specCodeSame f1' f2).mono ?_
      rintro e w3 ⟨rfl, hb3⟩
      rw [HD.out]
      have z3 := hb3.size
      have b3 := b2.trans (hb3.mono (by omega))
      clear hb3 f1' f2
      go_wp2_with fail
      refine (toInsS (hs.later b3) hn).mono ?_
      rintro e w4 ⟨v4, rfl, o4, hb4⟩
      obtain ⟨A4, c4, rfl, f4⟩ := own_fl o4
      have z4 := hb4.size
      have b4 := b3.trans (hb4.mono (by omega))
      clear o4 hb4
      go_wp2_with fail
      refine (toInsS (ht.later b4) hn').mono ?_
      rintro e w5 ⟨v5, rfl, o5, hb5⟩
      obtain ⟨A5, c5, rfl, f5⟩ := own_fl o5
      have z5 := hb5.size
      have b5 := b4.trans (hb5.mono (by omega))
      have f4' := f4.later hb5
      clear f4 o5 hb5
      go_wp2_with fail
      refine (codeSame f4' f5).mono ?_
      rintro e w6 ⟨rfl, hb6⟩
      rw [HD.out]
      have z6 := hb6.size
      have b6 := b5.trans (hb6.mono (by omega))
      have f4'' := f4'.later hb6
      have f5' := f5.later hb6
      clear f4' f5 hb6 HD
      go_wp2_with fail
      refine (toInsS (hs.later b6) hn).mono ?_
      rintro e w7 ⟨v7, rfl, o7, hb7⟩
      obtain ⟨A7, c7, rfl, f7⟩ := own_fl o7
      have z7 := hb7.size
      have b7 := b6.trans (hb7.mono (by omega))
      have g4 := f4''.later hb7
      have g5 := f5'.later hb7
      clear f4'' f5' hb7 o7
      go_wp2_with fail
      refine (eqInsS g4 f7).mono ?_
      rintro e w8 ⟨rfl, hb8⟩
      have z8 := hb8.size
      have b8 := b7.trans (hb8.mono (by omega))
      have k5 := g5.later hb8
      clear g4 g5 f7 hb8
      go_wp2_with fail
      refine (toInsS (ht.later b8) hn').mono ?_
      rintro e w9 ⟨v9, rfl, o9, hb9⟩
      obtain ⟨A9, c9, rfl, f9⟩ := own_fl o9
      have z9 := hb9.size
      have b9 := b8.trans (hb9.mono (by omega))
      have m5 := k5.later hb9
      clear k5 hb9 o9
      go_wp2_with fail
      refine (eqInsS m5 f9).mono ?_
      rintro e w10 ⟨rfl, hb10⟩
      have b10 := b9.trans (hb10.mono (by omega))
      clear m5 f9 hb10
      go_wp2_with fail
      go_ret
      exact ⟨rfl, b10⟩
    · have HT := Lib.hid (show (if (n' : Int) ≤ 1048576 - n then 1048576 - (n : Int) - n' else -1) = -1 from if_neg hfit')
      have hpos : 0 ≤ (1048576 : Int) - n := by omega
      clear hfit'
      go_enter Try.func3, Try.ntmps3
      go_wp2_with fail
      refine (szInsS A n c 1048576 w hm (by omega) (by omega)).mono ?_
      rintro e w ⟨rfl, rfl⟩
      rw [HS.out]
      clear HS hm
      go_wp2_with fail
      refine (szInsS A' n' c' _ w hm' (by omega) (by omega)).mono ?_
      rintro e w ⟨rfl, rfl⟩
      rw [HT.out]
      clear HT hm'
      go_wp2_with fail
      go_ret
      exact ⟨rfl, Below.refl _ _⟩
  · have HS := Lib.hid (show (if (n : Int) ≤ 1048576 then 1048576 - (n : Int) else -1) = -1 from if_neg hfit)
    clear hfit
    go_enter Try.func3, Try.ntmps3
    go_wp2_with fail
    refine (szInsS A n c 1048576 w hm (by omega) (by omega)).mono ?_
    rintro e w ⟨rfl, rfl⟩
    rw [HS.out]
    clear HS hm
    go_wp2_with fail
    go_ret
    exact ⟨rfl, Below.refl _ _⟩
end Go.Proofs.Ytimiabcpcpclbaa
