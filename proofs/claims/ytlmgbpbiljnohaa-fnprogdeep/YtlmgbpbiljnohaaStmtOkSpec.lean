/- StmtOk of the model, for all arguments. -/
import Derived.Test.YtlmgbpbiljnohaaStmtOk
import Derived.Test.YtlmgbpbiljnohaaOkSpec
namespace Go.Proofs.Ytlmgbpbiljnohaa
open Go.ChangeShapes Go.WideShapes Go.ChangeAt Go.RowKit

/-- The model's StmtOk. -/
theorem specStmtOk (k x y n d r : Int) (B E : SL) (A A' : Option Addr) (c c' N : Nat) (w : World) (sB : Sl w N B A B.len c) (sE : Sl w N E A' E.len c') (hN : N ≤ w.heap.size) :
    Calls Try.prog 17 #[.agg #[.int .i64 k, .int .i64 x, .int .i64 y, .int .i64 n, .slice A B.len c, .slice A' E.len c'], .int .i64 d, .int .i64 r] w fun e w' => e = .returned (.bool (inB d r && okS k x y n B E d r)) ∧ Below w.heap.size w w' := by
  have hb0 : Below w.heap.size w (w.alloc (.cells #[.int .i64 k, .int .i64 x, .int .i64 y, .int .i64 n, .slice A B.len c, .slice A' E.len c'] 29)) := (Below.refl _ _).alloc (Nat.le_refl _) _
  by_cases h : 0 ≤ d ∧ d ≤ 3 ∧ -1 ≤ r ∧ r ≤ 1
  · have H := Lib.hid (show (inB d r && okS k x y n B E d r) = okS k x y n B E d r from by rw [show inB d r = true from decide_eq_true h, Bool.true_and])
    obtain ⟨h0, h1, h2, h3⟩ := h
    go_enter Try.func17, Try.ntmps17
    go_wp2_with fail
    refine (specStmt k x y n d r B E A A' c c' N _ (sB.below (hb0.mono hN)) (sE.below (hb0.mono hN)) (by simp; omega) h0 h1).mono ?_
    rintro e w1 ⟨rfl, hb1⟩
    go_wp2_with fail
    go_ret
    exact ⟨by rw [H.out]; rfl, hb0.trans (hb1.mono (by simp))⟩
  · have H := Lib.hid (show (inB d r && okS k x y n B E d r) = false from by rw [show inB d r = false from decide_eq_false h, Bool.false_and])
    go_enter Try.func17, Try.ntmps17
    go_wp2_with fail
    all_goals first
      | (exfalso; omega)
      | (go_ret; exact ⟨by rw [H.out]; rfl, hb0⟩)
end Go.Proofs.Ytlmgbpbiljnohaa
