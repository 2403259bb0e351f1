/- The walk of laws.FnNumCut. -/
import Derived.Test.YtgnahgppojehnaaDoFacts
import Derived.Test.YtgnahgppojehnaaDrawNum
namespace Go.Proofs.Ytgnahgppojehnaa
open Go.ChangeShapes Go.WideShapes Go.ChangeAt Go.RowKit

theorem cutI_mono {a b : Int} (h : a ≤ b) : cutI a ≤ cutI b := by unfold cutI; split <;> split <;> (try split) <;> (try split) <;> omega

theorem wFnNumCut (A : Option Addr) (n c : Nat) (A' : Option Addr) (n' c' : Nat) (w : World) (h : Bytes w A n) (hn : n ≤ c) (hc : c ≤ maxLen) (h' : Bytes w A' n') (hn' : n' ≤ c') (hc' : c' ≤ maxLen) :
    Calls Try.prog 5 #[.slice A n c, .slice A' n' c'] w fun e w' => e = .returned (.bool true) ∧ Below w.heap.size w w' := by
  by_cases hl : 1048576 < n
  · go_enter Try.func5, Try.ntmps5
    go_wp2
    go_ret
    exact ⟨rfl, Below.refl _ _⟩
  by_cases hl' : 1048576 < n'
  · go_enter Try.func5, Try.ntmps5
    go_wp2
    go_ret
    exact ⟨rfl, Below.refl _ _⟩
  · go_enter Try.func5, Try.ntmps5
    go_wp2_with fail
    refine (drawNumCut A n c _ h hn hc).mono ?_
    rintro e w1 ⟨a, rfl, hb1⟩
    go_wp2_with fail
    refine (drawNumOk A' n' c' _ (h'.below hb1) hn' hc').mono ?_
    rintro e w2 ⟨b, rfl, hb2⟩
    have hbw := hb1.trans (hb2.mono hb1.size)
    have e1 : okB (cutI a) = true := okB_true (cutI_bd a)
    have e2 : cutI (cutI a) = cutI a := cutI_in (cutI_bd a)
    cases ha : okB a
    · by_cases hab : b < a
      · go_wp2_with (first | (go_at_call 15; refine (numOk _ _).mono ?_; rintro e w' ⟨rfl, rfl⟩) | (go_at_call 16; refine (specNumOk _ _).mono ?_; rintro e w' ⟨rfl, rfl⟩) | (go_at_call 17; refine (numCut _ _).mono ?_; rintro e w' ⟨rfl, rfl⟩) | (go_at_call 20; refine (specNumCut _ _).mono ?_; rintro e w' ⟨rfl, rfl⟩))
        all_goals
          go_ret
          exact ⟨by simp, hbw⟩
      · have hm : cutI a ≤ cutI b := cutI_mono (by omega)
        have hm' : decide (cutI a ≤ cutI b) = true := decide_eq_true hm
        go_wp2_with (first | (go_at_call 15; refine (numOk _ _).mono ?_; rintro e w' ⟨rfl, rfl⟩) | (go_at_call 16; refine (specNumOk _ _).mono ?_; rintro e w' ⟨rfl, rfl⟩) | (go_at_call 17; refine (numCut _ _).mono ?_; rintro e w' ⟨rfl, rfl⟩) | (go_at_call 20; refine (specNumCut _ _).mono ?_; rintro e w' ⟨rfl, rfl⟩))
        all_goals
          go_ret
          exact ⟨by simp, hbw⟩
    · have e3 : cutI a = a := cutI_in (okB_iff.1 ha)
      rw [e3] at e1 e2
      by_cases hab : b < a
      · go_wp2_with (first | (go_at_call 15; refine (numOk _ _).mono ?_; rintro e w' ⟨rfl, rfl⟩) | (go_at_call 16; refine (specNumOk _ _).mono ?_; rintro e w' ⟨rfl, rfl⟩) | (go_at_call 17; refine (numCut _ _).mono ?_; rintro e w' ⟨rfl, rfl⟩) | (go_at_call 20; refine (specNumCut _ _).mono ?_; rintro e w' ⟨rfl, rfl⟩))
        all_goals
          go_ret
          exact ⟨by simp, hbw⟩
      · have hm : a ≤ cutI b := by rw [← e3]; exact cutI_mono (by omega)
        have hm' : decide (a ≤ cutI b) = true := decide_eq_true hm
        go_wp2_with (first | (go_at_call 15; refine (numOk _ _).mono ?_; rintro e w' ⟨rfl, rfl⟩) | (go_at_call 16; refine (specNumOk _ _).mono ?_; rintro e w' ⟨rfl, rfl⟩) | (go_at_call 17; refine (numCut _ _).mono ?_; rintro e w' ⟨rfl, rfl⟩) | (go_at_call 20; refine (specNumCut _ _).mono ?_; rintro e w' ⟨rfl, rfl⟩))
        all_goals
          go_ret
          exact ⟨by simp, hbw⟩
end Go.Proofs.Ytgnahgppojehnaa
