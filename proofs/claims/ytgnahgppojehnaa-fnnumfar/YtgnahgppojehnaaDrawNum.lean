/- What chapter 1's laws draw: some numbers. -/
import Derived.Test.YtgnahgppojehnaaOpen
namespace Go.Proofs.Ytgnahgppojehnaa
open Go.ChangeShapes Go.WideShapes Go.ChangeAt Go.RowKit

theorem l1Num (g : Nat) (p : Int) (w : World) (h : Rd w g p) (hp : 0 ≤ p) (hp' : p ≤ 100000000000) :
    Calls Try.prog 23 #[.pointer (some ⟨g, 0, none⟩)] w fun e w' => ∃ x : Int, e = .returned (.int .i64 x) ∧ Rd w' g (p + 2) ∧ w.grownBy w' (some g) := by
  go_enter Try.func23, Try.ntmps23
  go_wp2_with fail
  refine (pick g p _ _ h hp (by omega) (by omega)).mono ?_
  rintro e w1 ⟨k, k0, k1, rfl, hR, hg⟩
  by_cases hk : k = 0
  · subst hk
    go_wp2_with fail
    refine (num_new g (p + 1) w1 [1000, -1000, 9223372036854775807, -9223372036854775808] _ _ _ hR (by omega) (by omega) rfl rfl (by decide) (by decide)).mono ?_
    rintro e w2 ⟨x, _, rfl, hR2, hg2⟩
    go_wp2_with fail
    go_ret
    exact ⟨x, rfl, by rw [show p + 2 = p + 1 + 1 from by omega]; exact hR2, hg.trans hg2⟩
  · have hk' : (k == 0) = false := beq_eq_false_iff_ne.2 hk
    go_wp2_with fail
    refine (num_new g (p + 1) w1 [0, 1, 2, 3, -1, 7, 31, 32, -500, 500, 999, -999] _ _ _ hR (by omega) (by omega) rfl rfl (by decide) (by decide)).mono ?_
    rintro e w2 ⟨x, _, rfl, hR2, hg2⟩
    go_wp2_with fail
    go_ret
    exact ⟨x, rfl, by rw [show p + 2 = p + 1 + 1 from by omega]; exact hR2, hg.trans hg2⟩

theorem drawNumCut (A : Option Addr) (n c : Nat) (w : World) (h : Bytes w A n) (hn : n ≤ c) (hc : c ≤ maxLen) :
    Calls Try.prog 18 #[.slice A n c] w fun e w' => ∃ x : Int, e = .returned (.int .i64 x) ∧ Below w.heap.size w w' := by
  go_enter Try.func18, Try.ntmps18
  go_wp2_with fail
  refine (l11Open A n c _ h hn hc).mono ?_
  rintro e w1 ⟨rfl, hR, hb⟩
  go_wp2_with fail
  refine (l1Num _ 0 _ hR (by omega) (by omega)).mono ?_
  rintro e w2 ⟨x, rfl, hR2, hg2⟩
  go_wp2_with fail
  go_ret
  exact ⟨x, rfl, hb.trans (Below.of_grown hg2 (Nat.le_refl _) hR.lt)⟩

theorem drawNumOk (A : Option Addr) (n c : Nat) (w : World) (h : Bytes w A n) (hn : n ≤ c) (hc : c ≤ maxLen) :
    Calls Try.prog 19 #[.slice A n c] w fun e w' => ∃ x : Int, e = .returned (.int .i64 x) ∧ Below w.heap.size w w' := by
  go_enter Try.func19, Try.ntmps19
  go_wp2_with fail
  refine (l11Open A n c _ h hn hc).mono ?_
  rintro e w1 ⟨rfl, hR, hb⟩
  go_wp2_with fail
  refine (l1Num _ 0 _ hR (by omega) (by omega)).mono ?_
  rintro e w2 ⟨x, rfl, hR2, hg2⟩
  go_wp2_with fail
  go_ret
  exact ⟨x, rfl, hb.trans (Below.of_grown hg2 (Nat.le_refl _) hR.lt)⟩

theorem drawNumDo (A : Option Addr) (n c : Nat) (w : World) (h : Bytes w A n) (hn : n ≤ c) (hc : c ≤ maxLen) :
    Calls Try.prog 12 #[.slice A n c] w fun e w' => ∃ op a b : Int, e = .returned (.tuple #[.int .i64 op, .int .i64 a, .int .i64 b]) ∧ Below w.heap.size w w' := by
  go_enter Try.func12, Try.ntmps12
  go_wp2_with fail
  refine (l11Open A n c _ h hn hc).mono ?_
  rintro e w1 ⟨rfl, hR, hb⟩
  go_wp2_with fail
  refine (num_new _ 0 w1 [1, 2, 3, 4, 5, 1, 2, 3, 4, 5, 0, 6] _ _ _ hR (by omega) (by omega) rfl rfl (by decide) (by decide)).mono ?_
  rintro e w2 ⟨op, _, rfl, hR2, hg2⟩
  go_wp2_with fail
  refine (l1Num _ _ _ hR2 (by omega) (by omega)).mono ?_
  rintro e w3 ⟨x, rfl, hR3, hg3⟩
  go_wp2_with fail
  refine (l1Num _ _ _ hR3 (by omega) (by omega)).mono ?_
  rintro e w4 ⟨y, rfl, hR4, hg4⟩
  go_wp2_with fail
  go_ret3
  exact ⟨op, x, y, rfl, hb.trans (Below.of_grown ((hg2.trans hg3).trans hg4) (Nat.le_refl _) hR.lt)⟩
end Go.Proofs.Ytgnahgppojehnaa
