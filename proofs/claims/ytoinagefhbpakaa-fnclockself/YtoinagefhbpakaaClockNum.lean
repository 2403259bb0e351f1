/- The program's numberAt: what a clock has for one. -/
import Derived.Test.YtoinagefhbpakaaClock
namespace Go.Proofs.Ytoinagefhbpakaa
open Go.ChangeShapes Go.WideShapes Go.ChangeAt Go.RowKit

set_option maxRecDepth 100000 in
theorem numberAt_ {xs : List Int} {A : Option Addr} {n c : Nat} {S : Nat → Prop} {w : World} (hs : Fl w S 1 xs A n c) (k : Nat) (hk : k ≤ 9223372036854775807) :
    Calls Try.prog 35 #[.slice A n c, .int .i64 k] w fun e w' => e = .returned (.int .i64 (nAt xs k)) ∧ w' = w := by
  have hl := hs.len
  rw [Nat.mul_one] at hl
  have hmax : n ≤ 9223372036854775807 := by have := hs.le; have := hs.top; unfold maxLen at this; omega
  by_cases hlt : k < n
  · obtain ⟨a, rfl⟩ := hs.some (by omega)
    have c0 := hs.one k hlt
    have H := Lib.hid (nAt_of (xs := xs) (i := k) (by omega))
    generalize xs.getD k 0 = x at *
    clear hl hs
    by_cases hx : x < 0
    · have HM := Lib.hid (show max x 0 = 0 by omega)
      go_enter Try.func35, Try.ntmps35
      go_wp2_with fail
      go_ret
      exact ⟨by rw [H.out, HM.out]; rfl, rfl⟩
    · have HM := Lib.hid (show max x 0 = x by omega)
      go_enter Try.func35, Try.ntmps35
      go_wp2_with fail
      go_ret
      exact ⟨by rw [H.out, HM.out]; rfl, rfl⟩
  · have H := Lib.hid (nAt_out (xs := xs) (i := k) (by omega))
    go_enter Try.func35, Try.ntmps35
    go_wp2_with fail
    go_ret
    exact ⟨by rw [H.out]; rfl, rfl⟩
end Go.Proofs.Ytoinagefhbpakaa
