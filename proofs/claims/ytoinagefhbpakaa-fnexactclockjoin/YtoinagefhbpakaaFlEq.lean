/- The laws' marks and held marks of slices of numbers. -/
import Derived.Test.YtoinagefhbpakaaIntEq
namespace Go.Proofs.Ytoinagefhbpakaa
open Go.ChangeShapes Go.WideShapes Go.ChangeAt Go.RowKit

set_option maxRecDepth 100000 in
/-- Marks that are still there. -/
theorem heldIntS {xs : List Int} {A : Option Addr} {n c : Nat} {S : Nat → Prop} {w : World} (hs : Fl w S 1 xs A n c) (k0 : Int) (hk0 : 0 ≤ k0) (hk1 : k0 ≤ 1099511627776) (hn : n ≤ 1099511627776) (hx : ∀ j : Nat, j < n → xs.getD j 0 = k0 + j) :
    Calls Try.prog 16 #[.slice A n c, .int .i64 k0] w fun e w' => e = .returned (.int .i64 (k0 + n)) ∧ Below w.heap.size w w' := by
  go_enter Try.func16, Try.ntmps16
  go_wp2_with fail
  go_loopw [1, 5] (fun q i wr => ∃ k : Nat, k ≤ n ∧ q = .int .i64 (k0 + k) ∧ i = .int .i64 k ∧ Below w.heap.size w wr) (fun _ i _ => n - (intOf i).toNat)
  case atStart => exact ⟨0, Nat.zero_le _, by simp, rfl, Below.refl _ _⟩
  case round =>
    obtain ⟨k, hk, rfl, rfl, hb⟩ := hrel
    by_cases hlt : k < n
    · obtain ⟨a, rfl⟩ := hs.some (by omega)
      have c0 := (hs.later hb).one k hlt
      rw [hx k hlt] at c0
      clear hx
      go_wp2
      go_roundw
      case rel => exact ⟨k + 1, by omega, by go_num, by go_num, hb⟩
      case measure => simp [intOf]; omega
    · obtain rfl : k = n := by omega
      clear hx
      go_wp2_with fail
      go_ret
      exact ⟨rfl, hb⟩

set_option maxRecDepth 100000 in
/-- Marks laid into a row that the caller owns. -/
theorem markIntS {xs : List Int} {v : Value} {n base : Nat} {w : World} (ho : w.ownsRow base 3 1 v n (ints xs)) (k0 : Int) (hk0 : 0 ≤ k0) (hk1 : k0 ≤ 1099511627776) (hn : n ≤ 1099511627776) :
    Calls Try.prog 15 #[v, .int .i64 k0] w fun e w' => e = .returned (.int .i64 (k0 + n)) ∧ w'.ownsRow base 3 1 v n (ints (put xs k0 n)) ∧ But w w' v.ownBlock := by
  have hl : xs.length = n := by have := ho.1; rw [ints_len] at this; omega
  obtain ⟨A, c, rfl, _⟩ := own_fl ho
  go_enter Try.func15, Try.ntmps15
  go_wp2_with fail
  go_loopw [1, 5] (fun q i wr => ∃ k : Nat, k ≤ n ∧ q = .int .i64 (k0 + k) ∧ i = .int .i64 k ∧ wr.ownsRow base 3 1 (.slice A n c) n (ints (put xs k0 k)) ∧ But w wr (Value.slice A n c).ownBlock) (fun _ i _ => n - (intOf i).toNat)
  case atStart => exact ⟨0, Nat.zero_le _, by simp, rfl, by rw [put_zero]; exact ho, But.refl _ _⟩
  case round =>
    obtain ⟨k, hk, rfl, rfl, hown, hb⟩ := hrel
    by_cases hlt : k < n
    · obtain ⟨g, cap, hv⟩ : ∃ g cap, Value.slice A n c = .slice (some ⟨g, 0, none⟩) n cap := by
        obtain ⟨_, ⟨h, h0⟩ | ⟨g, cap, cur, h, _⟩⟩ := id hown
        · omega
        · exact ⟨g, cap, h⟩
      simp only [Value.slice.injEq, true_and] at hv
      obtain ⟨rfl, rfl⟩ := hv
      have hpl := put_len xs k0 k (by omega)
      have c0 := hown.cellAt k (by omega)
      rw [ints_get (by omega)] at c0
      have z0 := hown.frozenAt k
      have hst := hown.stored k (.int .i64 (k0 + k))
      rw [ints_set, put_set xs k0 k (by omega)] at hst
      have HST := Lib.hid hst
      have HOWN := Lib.hid hown
      clear hst hown hpl ho
      go_wp2
      go_roundw
      case rel => exact ⟨k + 1, by omega, by go_num, by go_num, HST.out.1, hb.trans (But.of_grown HST.out.2)⟩
      case measure => simp [intOf]; omega
    · obtain rfl : k = n := by omega
      go_wp2_with fail
      go_ret
      exact ⟨rfl, hown, hb⟩
end Go.Proofs.Ytoinagefhbpakaa
