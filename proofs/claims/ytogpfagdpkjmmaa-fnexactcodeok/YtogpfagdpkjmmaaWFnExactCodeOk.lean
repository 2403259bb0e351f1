/- The walk of laws.FnExactCodeOk. -/
import Derived.Test.YtogpfagdpkjmmaaSpecCodeOk
import Derived.Test.YtogpfagdpkjmmaaImplCodeOk
import Derived.Test.YtogpfagdpkjmmaaInsIn
namespace Go.Proofs.Ytogpfagdpkjmmaa
open Go.ChangeShapes Go.WideShapes Go.ChangeAt Go.RowKit

set_option maxRecDepth 100000 in
set_option maxHeartbeats 1000000 in
theorem wFnExactCodeOk (xs : List Int) (A : Option Addr) (n c : Nat) (w : World) (hs : Fl w (fun _ => True) 4 xs A n c) :
    Calls Try.prog 3 #[.slice A n c] w fun e w' => e = .returned (.bool true) ∧ Below w.heap.size w w' := by
  have hm : n ≤ maxLen := by have := hs.le; have := hs.top; omega
  by_cases hfit : (n : Int) ≤ 1048576
  · have HS := Lib.hid (show (if (n : Int) ≤ 1048576 then 1048576 - (n : Int) else -1) = 1048576 - (n : Int) from if_pos hfit)
    have hn : n ≤ 1048576 := by omega
    have hpos : 0 ≤ (1048576 : Int) - n := by omega
    clear hfit
    obtain ⟨d, hd⟩ : ∃ d, codeB xs n = d := ⟨_, rfl⟩
    have HD := Lib.hid hd
    clear hd
    go_enter Try.func3, Try.ntmps3
    go_wp2_with fail
    refine (szInsS A n c 1048576 w hm (by omega) (by omega)).mono ?_
    rintro e w ⟨rfl, rfl⟩
    rw [HS.out]
    clear HS hm
    go_wp2_with fail
    refine (toInsS hs hn).mono ?_
    rintro e w1 ⟨v1, rfl, o1, b1⟩
    obtain ⟨A1, c1, rfl, f1⟩ := own_fl o1
    have z1 := b1.size
    clear o1
    go_wp2_with fail
    refine (specCodeOk f1).mono ?_
    rintro e w3 ⟨rfl, hb3⟩
    rw [HD.out]
    have z3 := hb3.size
    have b3 := b1.trans (hb3.mono (by omega))
    clear hb3 f1
    go_wp2_with fail
    refine (toInsS (hs.later b3) hn).mono ?_
    rintro e w4 ⟨v4, rfl, o4, hb4⟩
    obtain ⟨A4, c4, rfl, f4⟩ := own_fl o4
    have z4 := hb4.size
    have b4 := b3.trans (hb4.mono (by omega))
    clear o4 hb4
    go_wp2_with fail
    refine (codeOk f4).mono ?_
    rintro e w6 ⟨rfl, hb6⟩
    rw [HD.out]
    have z6 := hb6.size
    have b6 := b4.trans (hb6.mono (by omega))
    have g4 := f4.later hb6
    clear f4 hb6 HD
    go_wp2_with fail
    refine (toInsS (hs.later b6) hn).mono ?_
    rintro e w7 ⟨v7, rfl, o7, hb7⟩
    obtain ⟨A7, c7, rfl, f7⟩ := own_fl o7
    have z7 := hb7.size
    have b7 := b6.trans (hb7.mono (by omega))
    have k4 := g4.later hb7
    clear g4 hb7 o7
    go_wp2_with fail
    refine (eqInsS k4 f7).mono ?_
    rintro e w8 ⟨rfl, hb8⟩
    have b8 := b7.trans (hb8.mono (by omega))
    clear k4 f7 hb8
    go_wp2_with fail
    go_ret
    exact ⟨rfl, b8⟩
  · have HS := Lib.hid (show (if (n : Int) ≤ 1048576 then 1048576 - (n : Int) else -1) = -1 from if_neg hfit)
    clear hfit
    go_enter Try.func3, Try.ntmps3
    go_wp2_with fail
    refine (szInsS A n c 1048576 w hm (by omega) (by omega)).mono ?_
    rintro e w ⟨rfl, rfl⟩
    rw [HS.out]
    clear HS hm
    go_wp2_with fail
    go_ret
    exact ⟨rfl, Below.refl _ _⟩
end Go.Proofs.Ytogpfagdpkjmmaa
