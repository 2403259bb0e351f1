/- The laws' other comparison of slices of yes and no. -/
import Derived.Test.YtogpfagdpkjmmaaBools
namespace Go.Proofs.Ytogpfagdpkjmmaa
open Go.ChangeShapes Go.WideShapes Go.ChangeAt Go.RowKit

set_option maxRecDepth 100000 in
/-- The laws' other comparison of such rows. -/
theorem wpBools {M : List Bool} {A A' : Option Addr} {n c c' N N' : Nat} {w : World} (hs : w.ownsRow N 4 1 (.slice A n c) n (bls M)) (ht : w.ownsRow N' 4 1 (.slice A' n c') n (bls M)) :
    Calls Try.prog 37 #[.slice A n c, .slice A' n c'] w fun e w' => e = .returned (.bool true) ∧ Below w.heap.size w w' := by
  have hl : M.length = n := by have := hs.1; simp [bls] at this; omega
  have hmax : n ≤ 9223372036854775807 := by
    by_cases h0 : 0 < n
    · obtain ⟨_, _, _, h1, h2⟩ := own_some' hs h0
      unfold maxLen at h2; omega
    · omega
  go_enter Try.func37, Try.ntmps37
  go_wp2_with fail
  go_loopw [5] (fun i wr => ∃ k : Nat, k ≤ n ∧ i = .int .i64 k ∧ Below w.heap.size w wr) (fun i _ => n - (intOf i).toNat)
  case atStart => exact ⟨0, Nat.zero_le _, rfl, Below.refl _ _⟩
  case round =>
    obtain ⟨k, hk, rfl, hb⟩ := hrel
    by_cases hlt : k < n
    · have hs' := own_below hs hb
      have ht' := own_below ht hb
      obtain ⟨g, cap, hv, _, _⟩ := own_some' hs' (by omega)
      simp only [Value.slice.injEq, true_and] at hv
      obtain ⟨rfl, rfl⟩ := hv
      obtain ⟨g', cap', hv, _, _⟩ := own_some' ht' (by omega)
      simp only [Value.slice.injEq, true_and] at hv
      obtain ⟨rfl, rfl⟩ := hv
      have c0 := hs'.cellAt k (by omega)
      have d0 := ht'.cellAt k (by omega)
      rw [bls_get (by omega)] at c0 d0
      generalize M.getD k false = x at *
      clear hs ht hs' ht'
      cases x
      all_goals
        go_wp2_with fail
        go_region
        all_goals (try go_wp2)
        go_roundw
        case rel => exact ⟨k + 1, by omega, by go_num, hb.drew⟩
        case measure => simp [intOf]; omega
    · go_wp2_with fail
      go_ret
      exact ⟨rfl, hb⟩

end Go.Proofs.Ytogpfagdpkjmmaa
