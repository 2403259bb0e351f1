/- The laws' marks of code. -/
import Derived.Test.YtogpfagdpkjmmaaInsEq
namespace Go.Proofs.Ytogpfagdpkjmmaa
open Go.ChangeShapes Go.WideShapes Go.ChangeAt Go.RowKit

set_option maxRecDepth 100000 in
theorem markInsS {xs : List Int} {v : Value} {n base : Nat} {w : World} (ho : w.ownsRow base 40 4 v n (ints xs)) (k0 : Int) (hk0 : 0 ≤ k0) (hk1 : k0 ≤ 1099511627776) (hn : n ≤ 1099511627776) :
    Calls Try.prog 22 #[v, .int .i64 k0] w fun e w' => e = .returned (.int .i64 (k0 + (n * 4 : Nat))) ∧ w'.ownsRow base 40 4 v n (ints (put xs k0 (n * 4))) ∧ But w w' v.ownBlock := by
  have hl : xs.length = n * 4 := by have := ho.1; rw [ints_len] at this; omega
  obtain ⟨A, c, rfl, _⟩ := own_fl ho
  go_enter Try.func22, Try.ntmps22
  go_wp2_with fail
  go_loopw [1, 5] (fun q i wr => ∃ k : Nat, k ≤ n ∧ q = .int .i64 (k0 + (k * 4 : Nat)) ∧ i = .int .i64 k ∧ wr.ownsRow base 40 4 (.slice A n c) n (ints (put xs k0 (k * 4))) ∧ But w wr (Value.slice A n c).ownBlock) (fun _ i _ => n - (intOf i).toNat)
  case atStart => exact ⟨0, Nat.zero_le _, by simp, rfl, by rw [Nat.zero_mul, put_zero]; exact ho, But.refl _ _⟩
  case round =>
    obtain ⟨k, hk, rfl, rfl, hown, hb⟩ := hrel
    by_cases hlt : k < n
    · obtain ⟨g, cap, hv⟩ : ∃ g cap, Value.slice A n c = .slice (some ⟨g, 0, none⟩) n cap := by
        obtain ⟨_, ⟨h, h0⟩ | ⟨g, cap, cur, h, _⟩⟩ := id hown
        · omega
        · exact ⟨g, cap, h⟩
      simp only [Value.slice.injEq, true_and] at hv
      obtain ⟨rfl, rfl⟩ := hv
      have hpl := put_len xs k0 (k * 4) (by omega)
      have c0 := hown.cellAt (k * 4) (by omega)
      have c1 := hown.cellAt (k * 4 + 1) (by omega)
      have c2 := hown.cellAt (k * 4 + 2) (by omega)
      have c3 := hown.cellAt (k * 4 + 3) (by omega)
      rw [ints_get (by omega)] at c0 c1 c2 c3
      have z0 := hown.frozenAt (k * 4)
      have z1 := hown.frozenAt (k * 4 + 1)
      have z2 := hown.frozenAt (k * 4 + 2)
      have z3 := hown.frozenAt (k * 4 + 3)
      have s1 := hown.stored (k * 4) (.int .i64 (k0 + (k * 4 : Nat)))
      rw [ints_set, put_set xs k0 (k * 4) (by omega)] at s1
      have s2 := s1.1.stored (k * 4 + 1) (.int .i64 (k0 + (k * 4 + 1 : Nat)))
      rw [ints_set, put_set xs k0 (k * 4 + 1) (by omega)] at s2
      have s3 := s2.1.stored (k * 4 + 2) (.int .i64 (k0 + (k * 4 + 2 : Nat)))
      rw [ints_set, put_set xs k0 (k * 4 + 2) (by omega)] at s3
      have s4 := s3.1.stored (k * 4 + 3) (.int .i64 (k0 + (k * 4 + 3 : Nat)))
      rw [ints_set, put_set xs k0 (k * 4 + 3) (by omega)] at s4
      have e1 : (k0 + (k * 4 : Nat) : Int) = k0 + k * 4 := by omega
      have e2 : (k0 + (k * 4 + 1 : Nat) : Int) = k0 + k * 4 + 1 := by omega
      have e3 : (k0 + (k * 4 + 2 : Nat) : Int) = k0 + k * 4 + 1 + 1 := by omega
      have e4 : (k0 + (k * 4 + 3 : Nat) : Int) = k0 + k * 4 + 1 + 1 + 1 := by omega
      rw [e1] at s1 s2 s3 s4
      rw [e2] at s2 s3 s4
      rw [e3] at s3 s4
      rw [e4] at s4
      have S1 := Lib.hid s1
      have S2 := Lib.hid s2
      have S3 := Lib.hid s3
      have S4 := Lib.hid s4
      clear s1 s2 s3 s4 hown hpl ho e1 e2 e3 e4
      go_wp2
      go_roundw
      case rel => exact ⟨k + 1, by omega, by go_num, by go_num, (show (k + 1) * 4 = k * 4 + 3 + 1 by omega) ▸ S4.out.1, (((hb.trans (But.of_grown S1.out.2)).trans (But.of_grown S2.out.2)).trans (But.of_grown S3.out.2)).trans (But.of_grown S4.out.2)⟩
      case measure => simp [intOf]; omega
    · obtain rfl : k = n := by omega
      go_wp2_with fail
      go_ret
      exact ⟨rfl, hown, hb⟩

set_option maxRecDepth 100000 in
theorem heldInsS {xs : List Int} {A : Option Addr} {n c : Nat} {S : Nat → Prop} {w : World} (hs : Fl w S 4 xs A n c) (k0 : Int) (hk0 : 0 ≤ k0) (hk1 : k0 ≤ 1099511627776) (hn : n ≤ 1099511627776) (hx : ∀ j : Nat, j < n * 4 → xs.getD j 0 = k0 + j) :
    Calls Try.prog 27 #[.slice A n c, .int .i64 k0] w fun e w' => e = .returned (.int .i64 (k0 + (n * 4 : Nat))) ∧ Below w.heap.size w w' := by
  go_enter Try.func27, Try.ntmps27
  go_wp2_with fail
  go_loopw [1, 5] (fun q i wr => ∃ k : Nat, k ≤ n ∧ q = .int .i64 (k0 + (k * 4 : Nat)) ∧ i = .int .i64 k ∧ Below w.heap.size w wr) (fun _ i _ => n - (intOf i).toNat)
  case atStart => exact ⟨0, Nat.zero_le _, by simp, rfl, Below.refl _ _⟩
  case round =>
    obtain ⟨k, hk, rfl, rfl, hb⟩ := hrel
    by_cases hlt : k < n
    · obtain ⟨a, rfl⟩ := hs.some (by omega)
      obtain ⟨c0, c1, c2, c3⟩ := (hs.later hb).four k hlt
      rw [hx _ (by omega)] at c0 c1 c2 c3
      have e1 : (k0 + (k * 4 : Nat) : Int) = k0 + k * 4 := by omega
      have e2 : (k0 + (k * 4 + 1 : Nat) : Int) = k0 + k * 4 + 1 := by omega
      have e3 : (k0 + (k * 4 + 2 : Nat) : Int) = k0 + k * 4 + 1 + 1 := by omega
      have e4 : (k0 + (k * 4 + 3 : Nat) : Int) = k0 + k * 4 + 1 + 1 + 1 := by omega
      rw [e1] at c0
      rw [e2] at c1
      rw [e3] at c2
      rw [e4] at c3
      clear hx e1 e2 e3 e4
      go_wp2
      go_roundw
      case rel => exact ⟨k + 1, by omega, by go_num, by go_num, hb⟩
      case measure => simp [intOf]; omega
    · obtain rfl : k = n := by omega
      clear hx
      go_wp2_with fail
      go_ret
      exact ⟨rfl, hb⟩
end Go.Proofs.Ytogpfagdpkjmmaa
