/- The walk of laws.FnNumTurn. -/
import Derived.Test.YtgnahgppojehnaaDoFacts
import Derived.Test.YtgnahgppojehnaaDrawNum
namespace Go.Proofs.Ytgnahgppojehnaa
open Go.ChangeShapes Go.WideShapes Go.ChangeAt Go.RowKit

theorem wFnNumTurn (A : Option Addr) (n c : Nat) (w : World) (h : Bytes w A n) (hn : n ≤ c) (hc : c ≤ maxLen) :
    Calls Try.prog 4 #[.slice A n c] w fun e w' => e = .returned (.bool true) ∧ Below w.heap.size w w' := by
  by_cases hl : 1048576 < n
  · go_enter Try.func4, Try.ntmps4
    go_wp2
    go_ret
    exact ⟨rfl, Below.refl _ _⟩
  · go_enter Try.func4, Try.ntmps4
    go_wp2_with fail
    refine (drawNumDo A n c _ h hn hc).mono ?_
    rintro e w1 ⟨op, a, b, rfl, hb1⟩
    go_wp2_with fail
    refine (numDo _ _ _ _).mono ?_
    rintro e w2 ⟨rfl, hb2⟩
    go_wp2_with fail
    refine (numDo _ _ _ _).mono ?_
    rintro e w3 ⟨rfl, hb3⟩
    go_wp2_with fail
    refine (specNumDo _ _ _ _).mono ?_
    rintro e w4 ⟨rfl, rfl⟩
    have hbw2 := hb1.trans (hb2.mono hb1.size)
    have hbw := hbw2.trans (hb3.mono hbw2.size)
    have hcm := doOk_comm op b a
    have y1 := doI_bd op b a
    obtain ⟨y1, y2⟩ := y1
    obtain ⟨x1, x2⟩ := doI_bd op a b
    cases hok : doOk op a b
    · rw [hok] at hcm
      go_wp2_with fail
      go_ret
      exact ⟨rfl, hbw⟩
    · rw [hok] at hcm
      obtain ⟨ha, hb, hop⟩ := doOk_iff.1 hok
      obtain ⟨a1, a2⟩ := okB_iff.1 ha
      obtain ⟨b1, b2⟩ := okB_iff.1 hb
      obtain ⟨m1, m2⟩ := mul_bd a1 a2 b1 b2
      obtain rfl | rfl | rfl | rfl | rfl : op = 1 ∨ op = 2 ∨ op = 3 ∨ op = 4 ∨ op = 5 := by omega
      · have he : doI 1 a b = doI 1 b a := by rw [doI_add ha hb, doI_add hb ha, Int.add_comm]
        go_wp2_with fail
        go_ret
        exact ⟨by simp, hbw⟩
      · have he : doI 2 a b = -doI 2 b a := by rw [doI_sub ha hb, doI_sub hb ha, ← cutI_neg]; congr 1; omega
        go_wp2_with fail
        go_ret
        exact ⟨by simp, hbw⟩
      · have he : doI 3 a b = doI 3 b a := by rw [doI_mul ha hb, doI_mul hb ha, Int.mul_comm]
        go_wp2_with fail
        go_ret
        exact ⟨by simp, hbw⟩
      · have e1 := doI_less ha hb
        have e2 := doI_less hb ha
        rcases Int.lt_trichotomy a b with hab | hab | hab
        · have e3 : doI 4 a b = 1 := by rw [e1]; simp [oneI, hab]
          have e4 : doI 4 b a = 0 := by rw [e2]; simp [oneI]; omega
          have e5 : (a != b) = true := bne_iff_ne.2 (by omega)
          clear e1 e2
          go_wp2_with fail
          go_ret
          exact ⟨rfl, hbw⟩
        · have e3 : doI 4 a b = 0 := by rw [e1]; simp [oneI]; omega
          have e4 : doI 4 b a = 0 := by rw [e2]; simp [oneI]; omega
          have e5 : (a == b) = true := beq_iff_eq.2 hab
          clear e1 e2 hab
          go_wp2_with fail
          go_ret
          exact ⟨rfl, hbw⟩
        · have e3 : doI 4 a b = 0 := by rw [e1]; simp [oneI]; omega
          have e4 : doI 4 b a = 1 := by rw [e2]; simp [oneI, hab]
          have e5 : (a != b) = true := bne_iff_ne.2 (by omega)
          clear e1 e2
          go_wp2_with fail
          go_ret
          exact ⟨rfl, hbw⟩
      · have he : doI 5 a b = doI 5 b a := by
          rw [doI_same ha hb, doI_same hb ha]
          congr 1
          rw [Bool.eq_iff_iff, beq_iff_eq, beq_iff_eq]; exact ⟨fun k => k.symm, fun k => k.symm⟩
        go_wp2_with fail
        go_ret
        exact ⟨by simp, hbw⟩
end Go.Proofs.Ytgnahgppojehnaa
