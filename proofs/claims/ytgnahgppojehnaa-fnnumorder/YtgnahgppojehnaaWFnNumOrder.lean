/- The walk of laws.FnNumOrder. -/
import Derived.Test.YtgnahgppojehnaaDoFacts
import Derived.Test.YtgnahgppojehnaaDrawNum
namespace Go.Proofs.Ytgnahgppojehnaa
open Go.ChangeShapes Go.WideShapes Go.ChangeAt Go.RowKit

theorem wFnNumOrder (A : Option Addr) (n c : Nat) (A' : Option Addr) (n' c' : Nat) (w : World) (h : Bytes w A n) (hn : n ≤ c) (hc : c ≤ maxLen) (h' : Bytes w A' n') (hn' : n' ≤ c') (hc' : c' ≤ maxLen) :
    Calls Try.prog 6 #[.slice A n c, .slice A' n' c'] w fun e w' => e = .returned (.bool true) ∧ Below w.heap.size w w' := by
  by_cases hl : 1048576 < n
  · go_enter Try.func6, Try.ntmps6
    go_wp2
    go_ret
    exact ⟨rfl, Below.refl _ _⟩
  by_cases hl' : 1048576 < n'
  · go_enter Try.func6, Try.ntmps6
    go_wp2
    go_ret
    exact ⟨rfl, Below.refl _ _⟩
  · go_enter Try.func6, Try.ntmps6
    go_wp2_with fail
    refine (drawNumDo A n c _ h hn hc).mono ?_
    rintro e w1 ⟨op, a, b, rfl, hb1⟩
    go_wp2_with fail
    refine (drawNumDo A' n' c' _ (h'.below hb1) hn' hc').mono ?_
    rintro e w2 ⟨op', k, d, rfl, hb2⟩
    have hbw2 := hb1.trans (hb2.mono hb1.size)
    go_wp2_with fail
    refine (numDo _ _ _ _).mono ?_
    rintro e w3 ⟨rfl, hb3⟩
    have hbw3 := hbw2.trans (hb3.mono hbw2.size)
    go_wp2_with fail
    refine (specNumDo _ _ _ _).mono ?_
    rintro e w4 ⟨rfl, rfl⟩
    cases hok : doOk 4 a b
    · go_wp2_with fail
      go_ret
      exact ⟨by simp, hbw3⟩
    · cases hk : okB k
      · go_wp2_with fail
        refine (specNumOk _ _).mono ?_
        rintro e w' ⟨rfl, rfl⟩
        go_wp2_with fail
        go_ret
        exact ⟨by simp, hbw3⟩
      · obtain ⟨ha, hb, hop⟩ := doOk_iff.1 hok
        have x1 : doI 4 a b = oneI (decide (a < b)) := doI_less ha hb
        have u1 : doI 4 b k = oneI (decide (b < k)) := doI_less hb hk
        have v1 : doI 4 a k = oneI (decide (a < k)) := doI_less ha hk
        have s1 : doI 5 a b = oneI (a == b) := doI_same ha hb
        by_cases hab : a < b
        · have x2 : doI 4 a b = 1 := by rw [x1]; simp [oneI, hab]
          have s2 : doI 5 a b = 0 := by rw [s1]; simp [oneI]; omega
          have e2 : (a == b) = false := beq_eq_false_iff_ne.2 (by omega)
          by_cases hbk : b < k
          · have u2 : doI 4 b k = 1 := by rw [u1]; simp [oneI, hbk]
            have v2 : doI 4 a k = 1 := by rw [v1]; simp [oneI]; omega
            clear x1 u1 v1 s1
            go_wp2_with fail
            refine (specNumOk _ _).mono ?_
            rintro e w' ⟨rfl, rfl⟩
            go_wp2_with fail
            refine (numDo _ _ _ _).mono ?_
            rintro e w5 ⟨rfl, hb5⟩
            have hbw5 := hbw3.trans (hb5.mono hbw3.size)
            go_wp2_with fail
            refine (numDo _ _ _ _).mono ?_
            rintro e w6 ⟨rfl, hb6⟩
            have hbw6 := hbw5.trans (hb6.mono hbw5.size)
            go_wp2_with fail
            refine (numDo _ _ _ _).mono ?_
            rintro e w7 ⟨rfl, hb7⟩
            have hbw7 := hbw6.trans (hb7.mono hbw6.size)
            go_wp2_with fail
            go_ret
            exact ⟨by simp, hbw7⟩
          · have u2 : doI 4 b k = 0 := by rw [u1]; simp [oneI]; omega
            clear x1 u1 v1 s1
            go_wp2_with fail
            refine (specNumOk _ _).mono ?_
            rintro e w' ⟨rfl, rfl⟩
            go_wp2_with fail
            refine (numDo _ _ _ _).mono ?_
            rintro e w5 ⟨rfl, hb5⟩
            have hbw5 := hbw3.trans (hb5.mono hbw3.size)
            go_wp2_with fail
            refine (numDo _ _ _ _).mono ?_
            rintro e w6 ⟨rfl, hb6⟩
            have hbw6 := hbw5.trans (hb6.mono hbw5.size)
            go_wp2_with fail
            refine (numDo _ _ _ _).mono ?_
            rintro e w7 ⟨rfl, hb7⟩
            have hbw7 := hbw6.trans (hb7.mono hbw6.size)
            go_wp2_with fail
            go_ret
            exact ⟨by simp, hbw7⟩
        · have x2 : doI 4 a b = 0 := by rw [x1]; simp [oneI]; omega
          by_cases e2 : a = b
          · have s2 : doI 5 a b = 1 := by rw [s1]; simp [oneI, e2]
            have e3 : (a == b) = true := beq_iff_eq.2 e2
            clear x1 u1 v1 s1 e2
            go_wp2_with fail
            refine (specNumOk _ _).mono ?_
            rintro e w' ⟨rfl, rfl⟩
            go_wp2_with fail
            refine (numDo _ _ _ _).mono ?_
            rintro e w5 ⟨rfl, hb5⟩
            have hbw5 := hbw3.trans (hb5.mono hbw3.size)
            go_wp2_with fail
            refine (numDo _ _ _ _).mono ?_
            rintro e w6 ⟨rfl, hb6⟩
            have hbw6 := hbw5.trans (hb6.mono hbw5.size)
            go_wp2_with fail
            refine (numDo _ _ _ _).mono ?_
            rintro e w7 ⟨rfl, hb7⟩
            have hbw7 := hbw6.trans (hb7.mono hbw6.size)
            go_wp2_with fail
            go_ret
            exact ⟨by simp, hbw7⟩
          · have s2 : doI 5 a b = 0 := by rw [s1]; simp [oneI, e2]
            have e3 : (a == b) = false := beq_eq_false_iff_ne.2 e2
            clear x1 u1 v1 s1 e2
            go_wp2_with fail
            refine (specNumOk _ _).mono ?_
            rintro e w' ⟨rfl, rfl⟩
            go_wp2_with fail
            refine (numDo _ _ _ _).mono ?_
            rintro e w5 ⟨rfl, hb5⟩
            have hbw5 := hbw3.trans (hb5.mono hbw3.size)
            go_wp2_with fail
            refine (numDo _ _ _ _).mono ?_
            rintro e w6 ⟨rfl, hb6⟩
            have hbw6 := hbw5.trans (hb6.mono hbw5.size)
            go_wp2_with fail
            refine (numDo _ _ _ _).mono ?_
            rintro e w7 ⟨rfl, hb7⟩
            have hbw7 := hbw6.trans (hb7.mono hbw6.size)
            go_wp2_with fail
            go_ret
            exact ⟨by simp, hbw7⟩
end Go.Proofs.Ytgnahgppojehnaa
