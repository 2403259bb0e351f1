/- The model's checks of one instruction: l4Ins. -/
import Derived.Test.YtogpfagdpkjmmaaCodeOkPure
import Derived.Test.YtogpfagdpkjmmaaIns
namespace Go.Proofs.Ytogpfagdpkjmmaa
open Go.ChangeShapes Go.WideShapes Go.ChangeAt Go.RowKit

set_option maxRecDepth 100000 in
set_option maxHeartbeats 8000000 in
theorem specIns (o a b t : Int) (m : Nat) (w : World) :
    Calls Try.prog 41 #[.agg #[.int .i64 o, .int .i64 a, .int .i64 b, .int .i64 t], .int .i64 m] w fun e w' => e = .returned (.bool (insB o a b t m)) ∧ Below w.heap.size w w' := by
  have hb : ∀ i : Int, o = i → (1 ≤ i ∧ i ≤ 5) → insB o a b t m = leafB o a b t (-1) := fun i h1 h2 => by unfold insB; rw [if_pos (by omega)]
  have hk : (o = 1 ∨ o = 2 ∨ o = 3 ∨ o = 4 ∨ o = 5) ∨ o = 6 ∨ o = 7 ∨ o = 8 ∨ o = 9 ∨ o = 10 ∨ o = 11 ∨ o = 12 ∨ o = 13 ∨ (o ≠ 1 ∧ o ≠ 2 ∧ o ≠ 3 ∧ o ≠ 4 ∧ o ≠ 5 ∧ o ≠ 6 ∧ o ≠ 7 ∧ o ≠ 8 ∧ o ≠ 9 ∧ o ≠ 10 ∧ o ≠ 11 ∧ o ≠ 12 ∧ o ≠ 13) := by omega
  rcases hk with h5 | hk
  · have hl : insB o a b t m = leafB o a b t (-1) := by unfold insB; rw [if_pos (by omega)]
    rw [hl]
    clear hb hl
    have HL := Lib.hid (fun W => specLeaf o a b t (-1) (.slice none 0 0) (.slice none 0 0) W)
    rcases h5 with rfl | rfl | rfl | rfl | rfl
    all_goals
      go_enter Try.func41, Try.ntmps41
      go_wp2_with (go_at_call 62; refine (HL.out _).mono ?_; rintro e w' ⟨rfl, hb1⟩)
      all_goals
        go_ret
        refine ⟨rfl, ?_⟩
        first
          | exact ((Below.refl _ _).alloc (Nat.le_refl _) _).trans (hb1.mono (by simp))
          | exact hb1
  · clear hb
    rcases hk with rfl | rfl | rfl | rfl | rfl | rfl | rfl | rfl | ⟨h1, h2, h3, h4, h5, h6, h7, h8, h9, h10, h11, h12, h13⟩
    case inr.inr.inr.inr.inr.inr.inr.inr =>
      have hf : insB o a b t m = false := by unfold insB; rw [if_neg (by omega), if_neg h6, if_neg h7, if_neg (by omega), if_neg (by omega)]
      rw [hf]
      clear hf
      go_enter Try.func41, Try.ntmps41
      go_wp2
      all_goals
        go_ret
        refine ⟨rfl, ?_⟩
        repeat' (first | exact Below.refl _ _ | (refine Below.alloc ?_ (by first | exact Nat.le_refl _ | (simp; done) | (simp; omega)) _))
    all_goals
      go_enter Try.func41, Try.ntmps41
      go_wp2
      all_goals
        go_ret
        refine ⟨retB ?_, ?_⟩
        · rw [Bool.eq_iff_iff]
          simp [insB, *] <;> omega
        · repeat' (first | exact Below.refl _ _ | (refine Below.alloc ?_ (by first | exact Nat.le_refl _ | (simp; done) | (simp; omega)) _))
end Go.Proofs.Ytogpfagdpkjmmaa
