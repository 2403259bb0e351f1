/- The walk of laws.FnNumFar. -/
import Derived.Test.YtgnahgppojehnaaDoFacts
import Derived.Test.YtgnahgppojehnaaDrawNum
namespace Go.Proofs.Ytgnahgppojehnaa
open Go.ChangeShapes Go.WideShapes Go.ChangeAt Go.RowKit

theorem wFnNumFar (A : Option Addr) (n c : Nat) (w : World) (h : Bytes w A n) (hn : n ≤ c) (hc : c ≤ maxLen) :
    Calls Try.prog 8 #[.slice A n c] w fun e w' => e = .returned (.bool true) ∧ Below w.heap.size w w' := by
  by_cases hl : 1048576 < n
  · go_enter Try.func8, Try.ntmps8
    go_wp2
    go_ret
    exact ⟨rfl, Below.refl _ _⟩
  · go_enter Try.func8, Try.ntmps8
    go_wp2_with fail
    refine (drawNumDo A n c _ h hn hc).mono ?_
    rintro e w1 ⟨op, a, b, rfl, hb1⟩
    go_wp2_with fail
    refine (numDo _ _ _ _).mono ?_
    rintro e w2 ⟨rfl, hb2⟩
    have hbw2 := hb1.trans (hb2.mono hb1.size)
    go_wp2_with fail
    refine (specNumDo _ _ _ _).mono ?_
    rintro e w3 ⟨rfl, rfl⟩
    cases ha : okB a
    · go_wp2_with fail
      refine (specNumOk _ _).mono ?_
      rintro e w' ⟨rfl, rfl⟩
      go_wp2_with fail
      go_ret
      exact ⟨by simp, hbw2⟩
    cases hb : okB b
    · go_wp2_with fail
      refine (specNumOk _ _).mono ?_
      rintro e w' ⟨rfl, rfl⟩
      go_wp2_with fail
      refine (specNumOk _ _).mono ?_
      rintro e w' ⟨rfl, rfl⟩
      go_wp2_with fail
      go_ret
      exact ⟨by simp, hbw2⟩
    obtain ⟨a1, a2⟩ := okB_iff.1 ha
    obtain ⟨b1, b2⟩ := okB_iff.1 hb
    have es := doI_add ha hb
    rcases (by omega : a + b < -999 ∨ (-999 ≤ a + b ∧ a + b ≤ 999) ∨ 999 < a + b) with hs | hs | hs
    · have e1 : doI 1 a b = -999 := by rw [es, cutI_lo hs]
      have e2 : (-999 == a + b) = false := beq_eq_false_iff_ne.2 (by omega)
      have e3 : decide (a + b < -999) = true := decide_eq_true hs
      clear es
      go_wp2_with fail
      refine (specNumOk _ _).mono ?_
      rintro e w' ⟨rfl, rfl⟩
      go_wp2_with fail
      refine (specNumOk _ _).mono ?_
      rintro e w' ⟨rfl, rfl⟩
      go_wp2_with fail
      refine (numDo _ _ _ _).mono ?_
      rintro e u0 ⟨rfl, hc0⟩
      have hd0 := hbw2.trans (hc0.mono hbw2.size)
      go_wp2_with fail
      refine (numDo _ _ _ _).mono ?_
      rintro e u1 ⟨rfl, hc1⟩
      have hd1 := hd0.trans (hc1.mono hd0.size)
      go_wp2_with fail
      go_ret
      exact ⟨by simp, hd1⟩
    · have e1 : doI 1 a b = a + b := by rw [es, cutI_in hs]
      have e4 : okB (a + b) = true := okB_true hs
      have e2 : doI 2 (a + b) b = a := by rw [doI_sub e4 hb, Int.add_sub_cancel]; exact cutI_in ⟨a1, a2⟩
      clear es hs
      go_wp2_with fail
      refine (specNumOk _ _).mono ?_
      rintro e w' ⟨rfl, rfl⟩
      go_wp2_with fail
      refine (specNumOk _ _).mono ?_
      rintro e w' ⟨rfl, rfl⟩
      go_wp2_with fail
      refine (numDo _ _ _ _).mono ?_
      rintro e u0 ⟨rfl, hc0⟩
      have hd0 := hbw2.trans (hc0.mono hbw2.size)
      go_wp2_with fail
      refine (numDo _ _ _ _).mono ?_
      rintro e u1 ⟨rfl, hc1⟩
      have hd1 := hd0.trans (hc1.mono hd0.size)
      go_wp2_with fail
      go_ret
      exact ⟨by simp, hd1⟩
    · have e1 : doI 1 a b = 999 := by rw [es, cutI_hi hs]
      have e2 : (999 == a + b) = false := beq_eq_false_iff_ne.2 (by omega)
      have e3 : decide (999 < a + b) = true := decide_eq_true hs
      clear es
      go_wp2_with fail
      refine (specNumOk _ _).mono ?_
      rintro e w' ⟨rfl, rfl⟩
      go_wp2_with fail
      refine (specNumOk _ _).mono ?_
      rintro e w' ⟨rfl, rfl⟩
      go_wp2_with fail
      refine (numDo _ _ _ _).mono ?_
      rintro e u0 ⟨rfl, hc0⟩
      have hd0 := hbw2.trans (hc0.mono hbw2.size)
      go_wp2_with fail
      refine (numDo _ _ _ _).mono ?_
      rintro e u1 ⟨rfl, hc1⟩
      have hd1 := hd0.trans (hc1.mono hd0.size)
      go_wp2_with fail
      go_ret
      exact ⟨by simp, hd1⟩
end Go.Proofs.Ytgnahgppojehnaa
