/- Clocks form a join semilattice: plain facts. -/
import Derived.Test.YtoinagefhbpakaaClockAll
namespace Go.Proofs.Ytoinagefhbpakaa
open Go.ChangeShapes Go.WideShapes Go.ChangeAt Go.RowKit

theorem joinL_len (xs ys : List Int) : (joinL xs ys).length = max xs.length ys.length := joinK_len ..
theorem joinK_get (xs ys : List Int) (n i : Nat) (h : i < n) : (joinK xs ys n).getD i 0 = max (nAt xs i) (nAt ys i) := by
  induction n with
  | zero => omega
  | succ n ih =>
    rw [joinK_succ, List.getD_eq_getElem?_getD]
    by_cases e : i < n
    · rw [List.getElem?_append_left (by rw [joinK_len]; exact e), ← List.getD_eq_getElem?_getD, ih e]
    · have : i = n := by omega
      subst this
      rw [List.getElem?_append_right (by rw [joinK_len]; omega), joinK_len, Nat.sub_self]
      rfl
theorem joinL_get (xs ys : List Int) (i : Nat) (h : i < max xs.length ys.length) : (joinL xs ys).getD i 0 = max (nAt xs i) (nAt ys i) := joinK_get xs ys _ i h
theorem joinL_at (xs ys : List Int) (i : Nat) : nAt (joinL xs ys) i = max (nAt xs i) (nAt ys i) := by
  have h1 := nAt_nonneg xs i
  have h2 := nAt_nonneg ys i
  by_cases h : i < max xs.length ys.length
  · rw [nAt_of (by rw [joinL_len]; exact h), joinL_get xs ys i h]; omega
  · rw [nAt_out (by rw [joinL_len]; omega), nAt_out (xs := xs) (by omega), nAt_out (xs := ys) (by omega)]; rfl
theorem ext_clock {us vs : List Int} (hl : us.length = vs.length) (h : ∀ i, i < us.length → us.getD i 0 = vs.getD i 0) : us = vs := by
  apply List.ext_getElem hl
  intro i h1 h2
  have := h i h1
  simpa [List.getD, h1, h2] using this
theorem joinL_comm (xs ys : List Int) : joinL xs ys = joinL ys xs := by
  apply ext_clock (by rw [joinL_len, joinL_len]; omega)
  intro i hi
  rw [joinL_len] at hi
  rw [joinL_get xs ys i hi, joinL_get ys xs i (by omega)]; omega
theorem joinL_assoc (xs ys zs : List Int) : joinL (joinL xs ys) zs = joinL xs (joinL ys zs) := by
  apply ext_clock (by rw [joinL_len, joinL_len, joinL_len, joinL_len]; omega)
  intro i hi
  rw [joinL_len, joinL_len] at hi
  rw [joinL_get _ _ i (by rw [joinL_len]; exact hi), joinL_get _ _ i (by rw [joinL_len]; omega), joinL_at, joinL_at]; omega
theorem joinL_self {xs : List Int} (h : ∀ i, i < xs.length → 0 ≤ xs.getD i 0) : joinL xs xs = xs := by
  apply ext_clock (by rw [joinL_len]; omega)
  intro i hi
  rw [joinL_len] at hi
  rw [joinL_get _ _ i hi, nAt_of (by omega)]
  have := h i (by omega)
  omega
theorem joinL_nil (xs ys : List Int) : joinL (joinL xs ys) [] = joinL xs ys := by
  apply ext_clock (by rw [joinL_len]; simp)
  intro i hi
  rw [joinL_len] at hi
  have hi' : i < max xs.length ys.length := by rw [joinL_len] at hi; simpa using hi
  rw [joinL_get _ _ i (by rw [joinL_len]; simpa using hi'), joinL_at, joinL_get _ _ i hi', nAt_out (xs := []) (by simp)]
  have h1 := nAt_nonneg xs i
  omega

theorem underK_iff (xs ys : List Int) (n : Nat) : underK xs ys n = true ↔ ∀ i, i < n → xs.getD i 0 ≤ nAt ys i := by
  induction n with
  | zero => simp [underK]
  | succ n ih =>
    unfold underK
    rw [Bool.and_eq_true, ih]
    constructor
    · rintro ⟨h1, h2⟩ i hi
      by_cases e : i = n
      · subst e; exact of_decide_eq_true h2
      · exact h1 i (by omega)
    · intro h
      exact ⟨fun i hi => h i (by omega), decide_eq_true (h n (by omega))⟩
theorem underB_iff (xs ys : List Int) : underB xs ys = true ↔ ∀ i, i < xs.length → xs.getD i 0 ≤ nAt ys i := underK_iff xs ys _
theorem nAt_ge (xs : List Int) (i : Nat) : xs.getD i 0 ≤ nAt xs i := Int.le_max_left _ _
theorem underB_self (xs : List Int) : underB xs xs = true := (underB_iff ..).2 fun i _ => nAt_ge xs i
theorem underB_nil (xs : List Int) : underB [] xs = true := rfl
theorem underB_left (xs ys : List Int) : underB xs (joinL xs ys) = true := (underB_iff ..).2 fun i _ => by
  rw [joinL_at]; have := nAt_ge xs i; omega
theorem underB_right (xs ys : List Int) : underB ys (joinL xs ys) = true := (underB_iff ..).2 fun i _ => by
  rw [joinL_at]; have := nAt_ge ys i; omega
theorem underB_trans {xs ys zs : List Int} (h : underB xs ys = true) (k : underB ys zs = true) : underB xs zs = true := by
  rw [underB_iff] at h k ⊢
  intro i hi
  have h1 := h i hi
  have h0 := nAt_nonneg zs i
  by_cases e : i < ys.length
  · have h2 := k i e
    rw [nAt_of e] at h1
    omega
  · rw [nAt_out (xs := ys) (by omega)] at h1
    omega
theorem underB_join (xs ys zs : List Int) : underB (joinL xs ys) zs = (underB xs zs && underB ys zs) := by
  rw [Bool.eq_iff_iff, Bool.and_eq_true, underB_iff, underB_iff, underB_iff]
  constructor
  · intro h
    refine ⟨fun i hi => ?_, fun i hi => ?_⟩
    · have := h i (by rw [joinL_len]; omega)
      rw [joinL_get xs ys i (by omega)] at this
      have := nAt_ge xs i
      omega
    · have := h i (by rw [joinL_len]; omega)
      rw [joinL_get xs ys i (by omega)] at this
      have := nAt_ge ys i
      omega
  · rintro ⟨h1, h2⟩ i hi
    rw [joinL_len] at hi
    rw [joinL_get xs ys i hi]
    have h0 := nAt_nonneg zs i
    have a1 : nAt xs i ≤ nAt zs i := by
      by_cases e : i < xs.length
      · have := h1 i e; rw [nAt_of e]; omega
      · rw [nAt_out (xs := xs) (by omega)]; omega
    have a2 : nAt ys i ≤ nAt zs i := by
      by_cases e : i < ys.length
      · have := h2 i e; rw [nAt_of e]; omega
      · rw [nAt_out (xs := ys) (by omega)]; omega
    omega

set_option maxRecDepth 100000 in
/-- Two slices of numbers that read as one: the laws' comparison says yes. -/
theorem wpInts_ {xs : List Int} {A A' : Option Addr} {n c n' c' : Nat} {S T : Nat → Prop} {w : World} (hs : Fl w S 1 xs A n c) (ht : Fl w T 1 xs A' n' c') :
    Calls Try.prog 25 #[.slice A n c, .slice A' n' c'] w fun e w' => e = .returned (.bool true) ∧ Below w.heap.size w w' := by
  obtain rfl : n = n' := by have := hs.len; have := ht.len; omega
  have hmax : n ≤ 9223372036854775807 := by have := hs.le; have := hs.top; unfold maxLen at this; omega
  go_enter Try.func25, Try.ntmps25
  go_wp2_with fail
  go_loopw [5] (fun i wr => ∃ k : Nat, k ≤ n ∧ i = .int .i64 k ∧ Below w.heap.size w wr) (fun i _ => n - (intOf i).toNat)
  case atStart => exact ⟨0, Nat.zero_le _, rfl, Below.refl _ _⟩
  case round =>
    obtain ⟨k, hk, rfl, hb⟩ := hrel
    by_cases hlt : k < n
    · obtain ⟨a, rfl⟩ := hs.some (by omega)
      obtain ⟨b, rfl⟩ := ht.some (by omega)
      have c0 := (hs.later hb).one k hlt
      have d0 := (ht.later hb).one k hlt
      go_wp2_with fail
      go_region
      all_goals (try go_wp2)
      go_roundw
      case rel => exact ⟨k + 1, by omega, by go_num, hb.drew⟩
      case measure => simp [intOf]; omega
    · go_wp2_with fail
      go_ret
      exact ⟨rfl, hb⟩
end Go.Proofs.Ytoinagefhbpakaa
