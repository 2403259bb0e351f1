/- The walk of laws.FnExactWholeOk, given what the program's WholeOk says. -/
import Derived.Test.YtoinagefhbpakaaOwnSpecW
import Derived.Test.YtoinagefhbpakaaProgs
import Derived.Test.YtoinagefhbpakaaEq
import Derived.Test.YtoinagefhbpakaaIntEq
import Derived.Test.YtoinagefhbpakaaIntsTo
namespace Go.Proofs.Ytoinagefhbpakaa
open Go.ChangeShapes Go.WideShapes Go.ChangeAt Go.RowKit

/-- What the program's WholeOk says. -/
def WholeSays : Prop := ∀ (Ls : List SL) (A : Option Addr) (n c N : Nat) (o : List Int) (B : Option Addr) (b c' : Nat) (S : Nat → Prop) (w : World), Ps w N Ls A n c → N ≤ w.heap.size → Fl w S 1 o B b c' →
  Calls Try.prog 30 #[.slice A n c, .slice B b c'] w fun e w' => e = .returned (.bool (wholeB Ls o)) ∧ Below w.heap.size w w'

set_option maxRecDepth 100000 in
set_option maxHeartbeats 4000000 in
theorem walkWholeOk (hI : WholeSays) (L : List SL) (A : Option Addr) (n c : Nat) (xs : List Int) (B : Option Addr) (b c' : Nat) (w : World) (hs : Ps w w.heap.size L A n c) (ht : Fl w (fun _ => True) 1 xs B b c') :
    Calls Try.prog 9 #[.slice A n c, .slice B b c'] w fun e w' => e = .returned (.bool true) ∧ Below w.heap.size w w' := by
  have HI := Lib.hid hI
  clear hI
  have hmaxb : b ≤ 9223372036854775807 := by have := ht.le; have := ht.top; unfold maxLen at this; omega
  by_cases hfb : b ≤ 1048576
  rotate_left
  · go_enter Try.func9, Try.ntmps9
    go_wp2_with fail
    go_ret
    exact ⟨rfl, Below.refl _ _⟩
  by_cases hfit : (sizeP L : Int) ≤ 1048576
  · have HS := Lib.hid (show szR (sizeP L) 1048576 = 1048576 - (sizeP L : Int) from if_pos hfit)
    have hpos : 0 ≤ (1048576 : Int) - (sizeP L : Nat) := by omega
    have lL : sizeP L ≤ 1048576 := by omega
    clear hfit
    go_enter Try.func9, Try.ntmps9
    go_wp2_with fail
    refine (szStmtSS hs (Nat.le_refl _) (by omega) (by omega)).mono ?_
    rintro e w1 ⟨rfl, b1⟩
    rw [HS.out]
    have z1 := b1.size
    go_wp2_with fail
    refine (toStmtSS L lL A n c w.heap.size w1 (hs.below b1) z1).mono ?_
    rintro e w2 ⟨A2, c2, rfl, s2, hb2⟩
    have z2 := hb2.size
    have b2 := b1.trans (hb2.mono z1)
    clear hb2
    go_wp2_with fail
    refine (toIntS (ht.later b2) hfb).mono ?_
    rintro e w2b ⟨v2, rfl, o2, hb2b⟩
    obtain ⟨B2, d2, rfl, f2⟩ := own_fl o2
    have z2b := hb2b.size
    have b2b := b2.trans (hb2b.mono (by omega))
    have t2 : Ps w2b w2.heap.size L A2 L.length c2 := (s2.ps fun _ h => h.2).below hb2b
    clear hb2b s2 o2
    go_wp2_with fail
    refine (specWholeOk L lL A2 L.length c2 w2.heap.size xs B2 b d2 _ w2b t2 (by omega) f2).mono ?_
    rintro e w3 ⟨rfl, hb3⟩
    have z3 := hb3.size
    have b3 := b2b.trans (hb3.mono (by omega))
    clear hb3 t2 f2
    generalize hbe : wholeB L xs = β at *
    have HBE := Lib.hid hbe
    clear hbe
    go_wp2_with fail
    refine (toStmtSS L lL A n c w.heap.size w3 (hs.below b3) (by omega)).mono ?_
    rintro e w4 ⟨A4, c4, rfl, s4, hb4⟩
    have z4 := hb4.size
    have b4 := b3.trans (hb4.mono (by omega))
    have t4 : Ps w4 w4.heap.size L A4 L.length c4 := s4.ps fun _ h => h.2
    clear hb4 s4
    go_wp2_with fail
    refine (toIntS (ht.later b4) hfb).mono ?_
    rintro e w4b ⟨v4, rfl, o4, hb4b⟩
    obtain ⟨B4, d4, rfl, f4⟩ := own_fl o4
    have z4b := hb4b.size
    have b4b := b4.trans (hb4b.mono (by omega))
    have t4b := t4.below hb4b
    clear hb4b t4 o4
    go_wp2_with fail
    refine (HI.out L A4 L.length c4 w4.heap.size xs B4 b d4 _ w4b t4b (by omega) f4).mono ?_
    rintro e w5 ⟨rfl, hb5⟩
    rw [HBE.out]
    have z5 := hb5.size
    have b5 := b4b.trans (hb5.mono (by omega))
    have t5 := t4b.below (hb5.mono (by omega))
    have f5 := f4.later hb5
    clear hb5 t4b f4
    go_wp2_with fail
    refine (toStmtSS L lL A n c w.heap.size w5 (hs.below b5) (by omega)).mono ?_
    rintro e w6 ⟨A6, c6, rfl, s6, hb6⟩
    have z6 := hb6.size
    have b6 := b5.trans (hb6.mono (by omega))
    have t6 := t5.below (hb6.mono (by omega))
    have f6 := f5.later hb6
    clear hb6 t5 f5
    go_wp2_with fail
    refine (eqStmtSS L A4 A6 L.length c4 L.length c6 w4.heap.size w6.heap.size w6 t6 (s6.ps fun _ h => h.2) (by omega) (Nat.le_refl _)).mono ?_
    rintro e w7 ⟨rfl, hb7⟩
    have z7 := hb7.size
    have b7 := b6.trans (hb7.mono (by omega))
    have f7 := f6.later hb7
    clear hb7 t6 s6 f6
    go_wp2_with fail
    refine (toIntS (ht.later b7) hfb).mono ?_
    rintro e w8 ⟨v8, rfl, o8, hb8⟩
    obtain ⟨B8, d8, rfl, f8⟩ := own_fl o8
    have z8 := hb8.size
    have b8 := b7.trans (hb8.mono (by omega))
    have k8 := f7.later hb8
    clear hb8 f7 o8
    go_wp2_with fail
    refine (eqIntS k8 f8).mono ?_
    rintro e w9 ⟨rfl, hb9⟩
    have b9 := b8.trans (hb9.mono (by omega))
    clear k8 f8 hb9
    go_wp2_with fail
    go_ret
    exact ⟨rfl, b9⟩
  · have HS := Lib.hid (show szR (sizeP L) 1048576 = -1 from if_neg hfit)
    clear hfit
    go_enter Try.func9, Try.ntmps9
    go_wp2_with fail
    refine (szStmtSS hs (Nat.le_refl _) (by omega) (by omega)).mono ?_
    rintro e w1 ⟨rfl, hb1⟩
    rw [HS.out]
    go_wp2_with fail
    go_ret
    exact ⟨rfl, hb1⟩
end Go.Proofs.Ytoinagefhbpakaa
