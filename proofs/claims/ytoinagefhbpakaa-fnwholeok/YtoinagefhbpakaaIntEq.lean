/- The laws' comparison of slices of numbers. -/
import Derived.Test.YtoinagefhbpakaaFl
namespace Go.Proofs.Ytoinagefhbpakaa
open Go.ChangeShapes Go.WideShapes Go.ChangeAt Go.RowKit

set_option maxRecDepth 100000 in
/-- Two slices of numbers that read as one: the comparison says yes. -/
theorem eqIntS {xs : List Int} {A A' : Option Addr} {n c n' c' : Nat} {S T : Nat → Prop} {w : World} (hs : Fl w S 1 xs A n c) (ht : Fl w T 1 xs A' n' c') :
    Calls Try.prog 14 #[.slice A n c, .slice A' n' c'] w fun e w' => e = .returned (.bool true) ∧ Below w.heap.size w w' := by
  obtain rfl : n = n' := by have := hs.len; have := ht.len; omega
  have hmax : n ≤ 9223372036854775807 := by have := hs.le; have := hs.top; unfold maxLen at this; omega
  go_enter Try.func14, Try.ntmps14
  go_wp2_with fail
  go_loopw [5] (fun i wr => ∃ k : Nat, k ≤ n ∧ i = .int .i64 k ∧ Below w.heap.size w wr) (fun i _ => n - (intOf i).toNat)
  case atStart => exact ⟨0, Nat.zero_le _, rfl, Below.refl _ _⟩
  case round =>
    obtain ⟨k, hk, rfl, hb⟩ := hrel
    by_cases hlt : k < n
    · obtain ⟨a, rfl⟩ := hs.some (by omega)
      obtain ⟨b, rfl⟩ := ht.some (by omega)
      have c0 := (hs.later hb).one k hlt
      have d0 := (ht.later hb).one k hlt
      go_wp2_with fail
      go_region
      all_goals (try go_wp2)
      go_roundw
      case rel => exact ⟨k + 1, by omega, by go_num, hb.drew⟩
      case measure => simp [intOf]; omega
    · go_wp2_with fail
      go_ret
      exact ⟨rfl, hb⟩
end Go.Proofs.Ytoinagefhbpakaa
