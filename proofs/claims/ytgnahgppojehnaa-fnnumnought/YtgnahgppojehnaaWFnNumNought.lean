/- The walk of laws.FnNumNought. -/
import Derived.Test.YtgnahgppojehnaaDoFacts
import Derived.Test.YtgnahgppojehnaaDrawNum
namespace Go.Proofs.Ytgnahgppojehnaa
open Go.ChangeShapes Go.WideShapes Go.ChangeAt Go.RowKit

theorem wFnNumNought (A : Option Addr) (n c : Nat) (w : World) (h : Bytes w A n) (hn : n ≤ c) (hc : c ≤ maxLen) :
    Calls Try.prog 7 #[.slice A n c] w fun e w' => e = .returned (.bool true) ∧ Below w.heap.size w w' := by
  by_cases hl : 1048576 < n
  · go_enter Try.func7, Try.ntmps7
    go_wp2
    go_ret
    exact ⟨rfl, Below.refl _ _⟩
  · go_enter Try.func7, Try.ntmps7
    go_wp2_with fail
    refine (drawNumDo A n c _ h hn hc).mono ?_
    rintro e w1 ⟨op, a, b, rfl, hb1⟩
    go_wp2_with fail
    refine (numDo _ _ _ _).mono ?_
    rintro e w2 ⟨rfl, hb2⟩
    have hbw2 := hb1.trans (hb2.mono hb1.size)
    go_wp2_with fail
    refine (specNumDo _ _ _ _).mono ?_
    rintro e w3 ⟨rfl, rfl⟩
    cases ha : okB a
    · go_wp2_with fail
      refine (specNumOk _ _).mono ?_
      rintro e w' ⟨rfl, rfl⟩
      go_wp2_with fail
      go_ret
      exact ⟨by simp, hbw2⟩
    · have hz : okB 0 = true := rfl
      have h1 : okB 1 = true := rfl
      have ha' := okB_iff.1 ha
      have e1 : doI 1 a 0 = a := by rw [doI_add ha hz, Int.add_zero]; exact cutI_in ha'
      have e2 : doI 2 a 0 = a := by rw [doI_sub ha hz, Int.sub_zero]; exact cutI_in ha'
      have e3 : doI 3 a 1 = a := by rw [doI_mul ha h1, Int.mul_one]; exact cutI_in ha'
      have e4 : doI 3 a 0 = 0 := by rw [doI_mul ha hz, Int.mul_zero]; rfl
      have e5 : doI 2 a a = 0 := by rw [doI_sub ha ha, Int.sub_self]; rfl
      clear ha' hz h1
      go_wp2_with fail
      refine (specNumOk _ _).mono ?_
      rintro e w' ⟨rfl, rfl⟩
      go_wp2_with fail
      refine (numDo _ _ _ _).mono ?_
      rintro e u0 ⟨rfl, hc0⟩
      have hd0 := hbw2.trans (hc0.mono hbw2.size)
      go_wp2_with fail
      refine (numDo _ _ _ _).mono ?_
      rintro e u1 ⟨rfl, hc1⟩
      have hd1 := hd0.trans (hc1.mono hd0.size)
      go_wp2_with fail
      refine (numDo _ _ _ _).mono ?_
      rintro e u2 ⟨rfl, hc2⟩
      have hd2 := hd1.trans (hc2.mono hd1.size)
      go_wp2_with fail
      refine (numDo _ _ _ _).mono ?_
      rintro e u3 ⟨rfl, hc3⟩
      have hd3 := hd2.trans (hc3.mono hd2.size)
      go_wp2_with fail
      refine (numDo _ _ _ _).mono ?_
      rintro e u4 ⟨rfl, hc4⟩
      have hd4 := hd3.trans (hc4.mono hd3.size)
      go_wp2_with fail
      go_ret
      exact ⟨by simp, hd4⟩
end Go.Proofs.Ytgnahgppojehnaa
