/- The laws' comparison, marks and held marks of slices of yes and no. -/
import Derived.Test.YtogpfagdpkjmmaaBools
namespace Go.Proofs.Ytogpfagdpkjmmaa
open Go.ChangeShapes Go.WideShapes Go.ChangeAt Go.RowKit

set_option maxRecDepth 100000 in
/-- Two rows that read as one: the comparison says yes. -/
theorem eqBoolS {M : List Bool} {A A' : Option Addr} {n c c' N N' : Nat} {w : World} (hs : w.ownsRow N 4 1 (.slice A n c) n (bls M)) (ht : w.ownsRow N' 4 1 (.slice A' n c') n (bls M)) :
    Calls Try.prog 21 #[.slice A n c, .slice A' n c'] w fun e w' => e = .returned (.bool true) ∧ Below w.heap.size w w' := by
  have hl : M.length = n := by have := hs.1; simp [bls] at this; omega
  have hmax : n ≤ 9223372036854775807 := by
    by_cases h0 : 0 < n
    · obtain ⟨_, _, _, h1, h2⟩ := own_some' hs h0
      unfold maxLen at h2; omega
    · omega
  go_enter Try.func21, Try.ntmps21
  go_wp2_with fail
  go_loopw [5] (fun i wr => ∃ k : Nat, k ≤ n ∧ i = .int .i64 k ∧ Below w.heap.size w wr) (fun i _ => n - (intOf i).toNat)
  case atStart => exact ⟨0, Nat.zero_le _, rfl, Below.refl _ _⟩
  case round =>
    obtain ⟨k, hk, rfl, hb⟩ := hrel
    by_cases hlt : k < n
    · have hs' := own_below hs hb
      have ht' := own_below ht hb
      obtain ⟨g, cap, hv, _, _⟩ := own_some' hs' (by omega)
      simp only [Value.slice.injEq, true_and] at hv
      obtain ⟨rfl, rfl⟩ := hv
      obtain ⟨g', cap', hv, _, _⟩ := own_some' ht' (by omega)
      simp only [Value.slice.injEq, true_and] at hv
      obtain ⟨rfl, rfl⟩ := hv
      have c0 := hs'.cellAt k (by omega)
      have d0 := ht'.cellAt k (by omega)
      rw [bls_get (by omega)] at c0 d0
      generalize M.getD k false = x at *
      clear hs ht hs' ht'
      cases x
      all_goals
        go_wp2_with fail
        go_region
        all_goals (try go_wp2)
        go_roundw
        case rel => exact ⟨k + 1, by omega, by go_num, hb.drew⟩
        case measure => simp [intOf]; omega
    · go_wp2_with fail
      go_ret
      exact ⟨rfl, hb⟩

/-- The mark of a number. -/
def pB (k : Int) : Bool := k % 3 == 0
def putB (M : List Bool) (k0 : Int) (m : Nat) : List Bool := (List.range m).map (fun (j : Nat) => pB (k0 + j)) ++ M.drop m
theorem putB_zero (M : List Bool) (k0 : Int) : putB M k0 0 = M := by simp [putB]
theorem putB_len (M : List Bool) (k0 : Int) (m : Nat) (h : m ≤ M.length) : (putB M k0 m).length = M.length := by simp [putB]; omega
theorem putB_set (M : List Bool) (k0 : Int) (m : Nat) (h : m < M.length) : (putB M k0 m).set m (pB (k0 + m)) = putB M k0 (m + 1) := by
  unfold putB
  rw [List.set_append_right _ _ (by simp)]
  simp only [List.length_map, List.length_range, Nat.sub_self, List.range_succ, List.map_append, List.append_assoc]
  congr 1
  simp only [List.map_cons, List.map_nil, List.cons_append, List.nil_append]
  rw [List.drop_eq_getElem_cons h]
  rfl
theorem putB_get (M : List Bool) (k0 : Int) {j m : Nat} (h : j < m) : (putB M k0 m).getD j false = pB (k0 + j) := by
  unfold putB
  simp [List.getD, List.getElem?_append_left, h]

set_option maxRecDepth 100000 in
/-- Marks laid into a row that the caller owns. -/
theorem markBoolS {M : List Bool} {A : Option Addr} {n c base : Nat} {w : World} (ho : w.ownsRow base 4 1 (.slice A n c) n (bls M)) (k0 : Int) (hk0 : 0 ≤ k0) (hk1 : k0 ≤ 1099511627776) (hn : n ≤ 1099511627776) :
    Calls Try.prog 23 #[.slice A n c, .int .i64 k0] w fun e w' => e = .returned (.int .i64 (k0 + n)) ∧ w'.ownsRow base 4 1 (.slice A n c) n (bls (putB M k0 n)) ∧ But w w' (Value.slice A n c).ownBlock := by
  have hl : M.length = n := by have := ho.1; simp [bls] at this; omega
  go_enter Try.func23, Try.ntmps23
  go_wp2_with fail
  go_loopw [1, 5] (fun q i wr => ∃ k : Nat, k ≤ n ∧ q = .int .i64 (k0 + k) ∧ i = .int .i64 k ∧ wr.ownsRow base 4 1 (.slice A n c) n (bls (putB M k0 k)) ∧ But w wr (Value.slice A n c).ownBlock) (fun _ i _ => n - (intOf i).toNat)
  case atStart => exact ⟨0, Nat.zero_le _, by simp, rfl, by rw [putB_zero]; exact ho, But.refl _ _⟩
  case round =>
    obtain ⟨k, hk, rfl, rfl, hown, hb⟩ := hrel
    by_cases hlt : k < n
    · obtain ⟨g, cap, hv, _, _⟩ := own_some' hown (by omega)
      simp only [Value.slice.injEq, true_and] at hv
      obtain ⟨rfl, rfl⟩ := hv
      have hpl := putB_len M k0 k (by omega)
      have c0 := hown.cellAt k (by omega)
      rw [bls_get (by omega)] at c0
      have z0 := hown.frozenAt k
      have hst := hown.stored k (.bool (pB (k0 + k)))
      rw [bls_set, putB_set M k0 k (by omega)] at hst
      have HST := Lib.hid hst
      have HOWN := Lib.hid hown
      have hp : ((k0 + (k : Int)) % 3 == 0) = pB (k0 + k) := rfl
      generalize pB (k0 + (k : Int)) = y at *
      clear hst hown hpl ho
      go_wp2_with fail
      go_roundw
      case rel => exact ⟨k + 1, by omega, by go_num, by go_num, HST.out.1, hb.trans (But.of_grown HST.out.2)⟩
      case measure => simp [intOf]; omega
    · obtain rfl : k = n := by omega
      go_wp2_with fail
      go_ret
      exact ⟨rfl, hown, hb⟩

set_option maxRecDepth 100000 in
/-- Marks that are still there. -/
theorem heldBoolS {M : List Bool} {A : Option Addr} {n c N : Nat} {w : World} (hs : w.ownsRow N 4 1 (.slice A n c) n (bls M)) (k0 : Int) (hk0 : 0 ≤ k0) (hk1 : k0 ≤ 1099511627776) (hn : n ≤ 1099511627776) (hx : ∀ j : Nat, j < n → M.getD j false = pB (k0 + j)) :
    Calls Try.prog 24 #[.slice A n c, .int .i64 k0] w fun e w' => e = .returned (.int .i64 (k0 + n)) ∧ Below w.heap.size w w' := by
  have hl : M.length = n := by have := hs.1; simp [bls] at this; omega
  go_enter Try.func24, Try.ntmps24
  go_wp2_with fail
  go_loopw [1, 5] (fun q i wr => ∃ k : Nat, k ≤ n ∧ q = .int .i64 (k0 + k) ∧ i = .int .i64 k ∧ Below w.heap.size w wr) (fun _ i _ => n - (intOf i).toNat)
  case atStart => exact ⟨0, Nat.zero_le _, by simp, rfl, Below.refl _ _⟩
  case round =>
    obtain ⟨k, hk, rfl, rfl, hb⟩ := hrel
    by_cases hlt : k < n
    · have hs' := own_below hs hb
      obtain ⟨g, cap, hv, _, _⟩ := own_some' hs' (by omega)
      simp only [Value.slice.injEq, true_and] at hv
      obtain ⟨rfl, rfl⟩ := hv
      have c0 := hs'.cellAt k (by omega)
      rw [bls_get (by omega), hx k hlt] at c0
      have hp : ((k0 + (k : Int)) % 3 == 0) = pB (k0 + k) := rfl
      clear hx hs hs'
      generalize pB (k0 + (k : Int)) = y at *
      cases y
      all_goals
        go_wp2
        go_roundw
        case rel => exact ⟨k + 1, by omega, by go_num, by go_num, hb⟩
        case measure => simp [intOf]; omega
    · obtain rfl : k = n := by omega
      clear hx
      go_wp2_with fail
      go_ret
      exact ⟨rfl, hb⟩
end Go.Proofs.Ytogpfagdpkjmmaa
