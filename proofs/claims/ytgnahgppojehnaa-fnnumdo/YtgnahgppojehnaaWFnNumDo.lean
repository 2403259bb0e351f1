/- The walk of laws.FnNumDo. -/
import Derived.Test.YtgnahgppojehnaaDoFacts
import Derived.Test.YtgnahgppojehnaaDrawNum
namespace Go.Proofs.Ytgnahgppojehnaa
open Go.ChangeShapes Go.WideShapes Go.ChangeAt Go.RowKit

theorem wFnNumDo (A : Option Addr) (n c : Nat) (w : World) (h : Bytes w A n) (hn : n ≤ c) (hc : c ≤ maxLen) :
    Calls Try.prog 3 #[.slice A n c] w fun e w' => e = .returned (.bool true) ∧ Below w.heap.size w w' := by
  by_cases hl : 1048576 < n
  · go_enter Try.func3, Try.ntmps3
    go_wp2
    go_ret
    exact ⟨rfl, Below.refl _ _⟩
  · go_enter Try.func3, Try.ntmps3
    go_wp2_with fail
    refine (drawNumDo A n c _ h hn hc).mono ?_
    rintro e w1 ⟨op, a, b, rfl, hb1⟩
    go_wp2_with fail
    refine (numDo _ _ _ _).mono ?_
    rintro e w2 ⟨rfl, hb2⟩
    go_wp2_with fail
    refine (specNumDo _ _ _ _).mono ?_
    rintro e w3 ⟨rfl, rfl⟩
    have hbw := hb1.trans (hb2.mono hb1.size)
    have hx := doI_okB op a b
    cases hok : doOk op a b
    · have hz := doI_no hok
      have h00 : okB 0 = true := rfl
      cases ha : okB a
      · go_wp2_with (first | (go_at_call 15; refine (numOk _ _).mono ?_; rintro e w' ⟨rfl, rfl⟩) | (go_at_call 16; refine (specNumOk _ _).mono ?_; rintro e w' ⟨rfl, rfl⟩))
        go_ret
        exact ⟨rfl, hbw⟩
      · cases hb : okB b
        · go_wp2_with (first | (go_at_call 15; refine (numOk _ _).mono ?_; rintro e w' ⟨rfl, rfl⟩) | (go_at_call 16; refine (specNumOk _ _).mono ?_; rintro e w' ⟨rfl, rfl⟩))
          go_ret
          exact ⟨rfl, hbw⟩
        · have hop : ¬ (1 ≤ op ∧ op ≤ 5) := fun k => by rw [doOk_iff.2 ⟨ha, hb, k⟩] at hok; cases hok
          by_cases h1 : op < 1
          · clear hop
            go_wp2_with (first | (go_at_call 15; refine (numOk _ _).mono ?_; rintro e w' ⟨rfl, rfl⟩) | (go_at_call 16; refine (specNumOk _ _).mono ?_; rintro e w' ⟨rfl, rfl⟩))
            go_ret
            exact ⟨rfl, hbw⟩
          · have h5 : 5 < op := by omega
            clear hop
            go_wp2_with (first | (go_at_call 15; refine (numOk _ _).mono ?_; rintro e w' ⟨rfl, rfl⟩) | (go_at_call 16; refine (specNumOk _ _).mono ?_; rintro e w' ⟨rfl, rfl⟩))
            go_ret
            exact ⟨rfl, hbw⟩
    · obtain ⟨ha, hb, hop⟩ := doOk_iff.1 hok
      obtain ⟨a1, a2⟩ := okB_iff.1 ha
      obtain ⟨b1, b2⟩ := okB_iff.1 hb
      obtain ⟨m1, m2⟩ := mul_bd a1 a2 b1 b2
      obtain rfl | rfl | rfl | rfl | rfl : op = 1 ∨ op = 2 ∨ op = 3 ∨ op = 4 ∨ op = 5 := by omega
      · have hd := doI_add ha hb
        have hq : okB (cutI (a + b)) = true := okB_true (cutI_bd _)
        go_wp2_with (first | (go_at_call 15; refine (numOk _ _).mono ?_; rintro e w' ⟨rfl, rfl⟩) | (go_at_call 16; refine (specNumOk _ _).mono ?_; rintro e w' ⟨rfl, rfl⟩) | (go_at_call 17; refine (numCut _ _).mono ?_; rintro e w' ⟨rfl, rfl⟩))
        go_ret
        exact ⟨by simp, hbw⟩
      · have hd := doI_sub ha hb
        have hq : okB (cutI (a - b)) = true := okB_true (cutI_bd _)
        go_wp2_with (first | (go_at_call 15; refine (numOk _ _).mono ?_; rintro e w' ⟨rfl, rfl⟩) | (go_at_call 16; refine (specNumOk _ _).mono ?_; rintro e w' ⟨rfl, rfl⟩) | (go_at_call 17; refine (numCut _ _).mono ?_; rintro e w' ⟨rfl, rfl⟩))
        go_ret
        exact ⟨by simp, hbw⟩
      · have hd := doI_mul ha hb
        have hq : okB (cutI (a * b)) = true := okB_true (cutI_bd _)
        go_wp2_with (first | (go_at_call 15; refine (numOk _ _).mono ?_; rintro e w' ⟨rfl, rfl⟩) | (go_at_call 16; refine (specNumOk _ _).mono ?_; rintro e w' ⟨rfl, rfl⟩) | (go_at_call 17; refine (numCut _ _).mono ?_; rintro e w' ⟨rfl, rfl⟩))
        go_ret
        exact ⟨by simp, hbw⟩
      · have h01 : doI 4 a b = 0 ∨ doI 4 a b = 1 := by rw [doI_less ha hb]; exact oneI_01 _
        rcases h01 with h01 | h01
        · have h00 : okB 0 = true := rfl
          go_wp2_with (first | (go_at_call 15; refine (numOk _ _).mono ?_; rintro e w' ⟨rfl, rfl⟩) | (go_at_call 16; refine (specNumOk _ _).mono ?_; rintro e w' ⟨rfl, rfl⟩))
          go_ret
          exact ⟨rfl, hbw⟩
        · have h00 : okB 1 = true := rfl
          go_wp2_with (first | (go_at_call 15; refine (numOk _ _).mono ?_; rintro e w' ⟨rfl, rfl⟩) | (go_at_call 16; refine (specNumOk _ _).mono ?_; rintro e w' ⟨rfl, rfl⟩))
          go_ret
          exact ⟨rfl, hbw⟩
      · have h01 : doI 5 a b = 0 ∨ doI 5 a b = 1 := by rw [doI_same ha hb]; exact oneI_01 _
        rcases h01 with h01 | h01
        · have h00 : okB 0 = true := rfl
          go_wp2_with (first | (go_at_call 15; refine (numOk _ _).mono ?_; rintro e w' ⟨rfl, rfl⟩) | (go_at_call 16; refine (specNumOk _ _).mono ?_; rintro e w' ⟨rfl, rfl⟩))
          go_ret
          exact ⟨rfl, hbw⟩
        · have h00 : okB 1 = true := rfl
          go_wp2_with (first | (go_at_call 15; refine (numOk _ _).mono ?_; rintro e w' ⟨rfl, rfl⟩) | (go_at_call 16; refine (specNumOk _ _).mono ?_; rintro e w' ⟨rfl, rfl⟩))
          go_ret
          exact ⟨rfl, hbw⟩
end Go.Proofs.Ytgnahgppojehnaa
