/- Where a chain of jumps ends: the program's and the model's. -/
import Derived.Test.YtogpfagdpkjmmaaJumpsP
import Derived.Test.YtogpfagdpkjmmaaIns
namespace Go.Proofs.Ytogpfagdpkjmmaa
open Go.ChangeShapes Go.WideShapes Go.ChangeAt Go.RowKit

set_option maxRecDepth 100000 in
set_option maxHeartbeats 2000000 in
theorem chainEnd_ {xs : List Int} {A : Option Addr} {n c : Nat} {S : Nat → Prop} {w : World} (hs : Fl w S 4 xs A n c) (hr : Right xs n) (i : Nat) (hi : i < n) :
    Calls Try.prog 53 #[.slice A n c, .int .i64 i] w fun e w' => e = .returned (.int .i64 (endTo xs n i)) ∧ w' = w := by
  have hn60 := hr.hi
  obtain ⟨a, rfl⟩ := hs.some (by omega)
  have HR := Lib.hid hr
  have HS := Lib.hid hs
  clear hr hs
  go_enter Try.func53, Try.ntmps53
  go_wp2_with fail
  go_loopw [5, 9] (fun v q wr => ∃ k : Nat, k ≤ n ∧ q = .int .i64 k ∧ v = .int .i64 (chase xs k i) ∧ (∀ j, j < k → opC xs (chase xs j i) = 7) ∧ wr = w) (fun _ q _ => n - (intOf q).toNat)
  case atStart => exact ⟨0, Nat.zero_le _, rfl, rfl, fun j hj => by omega, rfl⟩
  case round =>
    obtain ⟨k, hk, rfl, rfl, hd, rfl⟩ := hrel
    have HD := Lib.hid hd
    clear hd
    by_cases hlt : k < n
    · have hc := chase_lt HR.out hi k
      obtain ⟨c0, _, _, c3⟩ := HS.out.four (chase xs k i) hc
      have h0 : xs.getD (chase xs k i * 4) 0 = opC xs (chase xs k i) := rfl
      have h3 : xs.getD (chase xs k i * 4 + 3) 0 = toC xs (chase xs k i) := rfl
      rw [h0] at c0
      rw [h3] at c3
      by_cases h7 : opC xs (chase xs k i) = 7
      · have hto := insB_to (HR.out.ins _ hc) (.inr h7)
        have hstep : (chase xs (k + 1) i : Int) = toC xs (chase xs k i) := by rw [chase_succ, if_pos h7]; omega
        have HST := Lib.hid hstep
        have HDD := Lib.hid (show ∀ j, j < k + 1 → opC xs (chase xs j i) = 7 from fun j hj => by
          by_cases e : j = k
          · subst e; exact h7
          · exact HD.out j (by omega))
        rw [h7] at c0
        generalize toC xs (chase xs k i) = t at *
        generalize chase xs k i = q at *
        clear h0 h3 h7 hstep
        go_wp2_with fail
        go_roundw
        case rel => exact ⟨k + 1, by omega, by go_num, by rw [HST.out], HDD.out, by first | rfl | trivial⟩
        case measure => simp [intOf]; omega
      · have HE := Lib.hid (endTo_at (by omega) h7 : endTo xs n i = chase xs k i)
        have hne : (opC xs (chase xs k i) != 7) = true := by simpa using h7
        generalize opC xs (chase xs k i) = o at *
        generalize hq : chase xs k i = q at *
        clear h0 h3 h7
        go_wp2_with fail
        go_ret
        exact ⟨by rw [HE.out]; rfl, rfl⟩
    · obtain rfl : k = n := by omega
      have HE := Lib.hid (endTo_none HR.out hi HD.out)
      clear HD
      go_wp2_with fail
      go_ret
      exact ⟨by rw [HE.out]; rfl, rfl⟩

set_option maxRecDepth 100000 in
set_option maxHeartbeats 2000000 in
theorem l9To_ {xs : List Int} {A : Option Addr} {n c : Nat} {S : Nat → Prop} {w : World} (hs : Fl w S 4 xs A n c) (hr : Right xs n) (i : Nat) (hi : i < n) :
    Calls Try.prog 50 #[.slice A n c, .int .i64 i] w fun e w' => e = .returned (.int .i64 (endTo xs n i)) ∧ w' = w := by
  have hn60 := hr.hi
  obtain ⟨a, rfl⟩ := hs.some (by omega)
  have HR := Lib.hid hr
  have HS := Lib.hid hs
  clear hr hs
  go_enter Try.func50, Try.ntmps50
  go_wp2_with fail
  go_loopw [5, 6] (fun v q wr => ∃ k : Nat, k ≤ n ∧ q = .int .i64 k ∧ v = .int .i64 (chase xs k i) ∧ (∀ j, j < k → opC xs (chase xs j i) = 7) ∧ wr = w) (fun _ q _ => n - (intOf q).toNat)
  case atStart => exact ⟨0, Nat.zero_le _, rfl, rfl, fun j hj => by omega, rfl⟩
  case round =>
    obtain ⟨k, hk, rfl, rfl, hd, rfl⟩ := hrel
    have HD := Lib.hid hd
    clear hd
    have hc := chase_lt HR.out hi k
    obtain ⟨c0, _, _, c3⟩ := HS.out.four (chase xs k i) hc
    have h0 : xs.getD (chase xs k i * 4) 0 = opC xs (chase xs k i) := rfl
    have h3 : xs.getD (chase xs k i * 4 + 3) 0 = toC xs (chase xs k i) := rfl
    rw [h0] at c0
    rw [h3] at c3
    by_cases hlt : k < n
    · by_cases h7 : opC xs (chase xs k i) = 7
      · have hto := insB_to (HR.out.ins _ hc) (.inr h7)
        have hstep : (chase xs (k + 1) i : Int) = toC xs (chase xs k i) := by rw [chase_succ, if_pos h7]; omega
        have HST := Lib.hid hstep
        have HDD := Lib.hid (show ∀ j, j < k + 1 → opC xs (chase xs j i) = 7 from fun j hj => by
          by_cases e : j = k
          · subst e; exact h7
          · exact HD.out j (by omega))
        rw [h7] at c0
        generalize toC xs (chase xs k i) = t at *
        generalize chase xs k i = q at *
        clear h0 h3 h7 hstep
        go_wp2_with fail
        go_roundw
        case rel => exact ⟨k + 1, by omega, by go_num, by rw [HST.out], HDD.out, by first | rfl | trivial⟩
        case measure => simp [intOf]; omega
      · have HE := Lib.hid (endTo_at (by omega) h7 : endTo xs n i = chase xs k i)
        have hne : (opC xs (chase xs k i) == 7) = false := by simpa using h7
        generalize opC xs (chase xs k i) = o at *
        generalize hq : chase xs k i = q at *
        clear h0 h3 h7
        go_wp2_with fail
        go_ret
        exact ⟨by rw [HE.out]; rfl, rfl⟩
    · obtain rfl : k = n := by omega
      have HE := Lib.hid (endTo_none HR.out hi HD.out)
      have h7 := chase_round HR.out hi HD.out
      rw [h7] at c0
      generalize chase xs k i = q at *
      clear HD h0 h3 h7
      go_wp2_with fail
      go_ret
      exact ⟨by rw [HE.out]; rfl, rfl⟩
end Go.Proofs.Ytogpfagdpkjmmaa
