/- StmtOk of the program and of the model, for all arguments. -/
import Derived.Test.YtnfnjhbaaefbpaaGreatDoorOkKindsA
import Derived.Test.YtnfnjhbaaefbpaaGreatDoorOkKindsB
import Derived.Test.YtnfnjhbaaefbpaaGreatDoorOkKindsC
import Derived.Test.YtnfnjhbaaefbpaaGreatDoorOkKindsD
namespace Go.Proofs.YtnfnjhbaaefbpaaGreatDoor
open Go.ChangeShapes Go.WideShapes Go.ChangeAt Go.RowKit

/-- Within the bounds of depth and room. -/
def inB (d r : Int) : Bool := decide (0 ≤ d ∧ d ≤ 3 ∧ -1 ≤ r ∧ r ≤ 1)

theorem okS_none {k x y n : Int} {B E : SL} {d r : Int} (h : ¬ (1 ≤ k ∧ k ≤ 11)) : okS k x y n B E d r = false := by
  apply okS_head
  unfold headB
  rw [if_neg (by omega), if_neg (by omega), if_neg (by omega)]
  unfold leafB
  rw [if_neg (by omega), if_neg (by omega), if_neg (by omega), if_neg (by omega), if_neg (by omega), if_neg (by omega), if_neg (by omega), if_neg (by omega), Bool.and_false, Bool.and_false]

/-- No such kind. -/
theorem stmtOk_none (k x y n d r : Int) (B E : SL) (A A' : Option Addr) (c c' : Nat) (w : World) (h : ¬ (1 ≤ k ∧ k ≤ 11)) (hd1 : 1 ≤ d) (hd3 : d ≤ 3) (hr0 : -1 ≤ r) (hr1 : r ≤ 1) :
    Calls Tryz.prog 33 #[.agg #[.int .i64 k, .int .i64 x, .int .i64 y, .int .i64 n, .slice A B.len c, .slice A' E.len c'], .int .i64 d, .int .i64 r] w fun e w' => e = .returned (.bool (okS k x y n B E d r)) ∧ Below w.heap.size w w' := by
  have H := Lib.hid (okS_none (x := x) (y := y) (n := n) (B := B) (E := E) (d := d) (r := r) h)
  by_cases hr : r = -1
  · subst hr
    go_enter Tryz.func33, Tryz.ntmps33
    go_wp2_with fail
    refine (kindOf_none k x y n _ _ _ h).mono ?_
    rintro e w1 ⟨rfl, hb1⟩
    obtain ⟨_, hbw1, _⟩ := box2 hb1
    go_wp2_with fail
    go_ret
    exact ⟨by rw [H.out]; rfl, hbw1⟩
  · have HR := Lib.hid (show roomB r = true from decide_eq_true (by omega))
    go_enter Tryz.func33, Tryz.ntmps33
    go_wp2_with fail
    refine (isRoom r _).mono ?_
    rintro e w' ⟨rfl, rfl⟩
    rw [HR.out]
    go_wp2_with fail
    refine (kindOf_none k x y n _ _ _ h).mono ?_
    rintro e w1 ⟨rfl, hb1⟩
    obtain ⟨_, hbw1, _⟩ := box2 hb1
    go_wp2_with fail
    go_ret
    exact ⟨by rw [H.out]; rfl, hbw1⟩

/-- Out of the bounds. -/
theorem stmtOk_out (k x y n d r : Int) (vB vE : Value) (w : World) (h : ¬ (1 ≤ d ∧ d ≤ 3 ∧ -1 ≤ r ∧ r ≤ 1)) :
    Calls Tryz.prog 33 #[.agg #[.int .i64 k, .int .i64 x, .int .i64 y, .int .i64 n, vB, vE], .int .i64 d, .int .i64 r] w fun e w' => e = .returned (.bool false) ∧ Below w.heap.size w w' := by
  have hb0 : Below w.heap.size w ((w.alloc (.cells #[.int .i64 k, .int .i64 x, .int .i64 y, .int .i64 n, vB, vE] 36)).alloc (.cells #[.int .i64 d] 3)) :=
    ((Below.refl _ _).alloc (Nat.le_refl _) _).alloc (by simp) _
  by_cases hd1 : 1 ≤ d
  · by_cases hd3 : d ≤ 3
    · have hr : (r != -1) = true := by rw [bne_iff_ne]; omega
      have HR := Lib.hid (show roomB r = false from decide_eq_false (by omega))
      go_enter Tryz.func33, Tryz.ntmps33
      go_wp2_with fail
      refine (isRoom r _).mono ?_
      rintro e w' ⟨rfl, rfl⟩
      rw [HR.out]
      go_wp2_with fail
      go_ret
      exact ⟨rfl, hb0⟩
    · clear h
      go_enter Tryz.func33, Tryz.ntmps33
      go_wp2_with fail
      go_ret
      exact ⟨rfl, hb0⟩
  · clear h
    go_enter Tryz.func33, Tryz.ntmps33
    go_wp2_with fail
    go_ret
    exact ⟨rfl, hb0⟩

theorem stmtSays (m : Nat) : StmtSays m := by
  induction m with
  | zero => intro k x y n d r B E A A' c c' N w h; omega
  | succ m ih =>
    intro k x y n d r B E A A' c c' N w hlt sB sE hN hd0 hd3 hr0 hr1
    by_cases hd1 : 1 ≤ d
    · by_cases hk : 1 ≤ k ∧ k ≤ 11
      · have hk' : k = 1 ∨ k = 2 ∨ k = 3 ∨ k = 4 ∨ k = 5 ∨ k = 6 ∨ k = 7 ∨ k = 8 ∨ k = 9 ∨ k = 10 ∨ k = 11 := by omega
        rcases hk' with rfl | rfl | rfl | rfl | rfl | rfl | rfl | rfl | rfl | rfl | rfl
        · exact stmtOk_num m ih x y n d r B E A A' c c' N w hlt sB sE hN hd1 hd3 hr0 hr1
        · exact stmtOk_do m ih x y n d r B E A A' c c' N w hlt sB sE hN hd1 hd3 hr0 hr1
        · exact stmtOk_load m ih x y n d r B E A A' c c' N w hlt sB sE hN hd1 hd3 hr0 hr1
        · exact stmtOk_store m ih x y n d r B E A A' c c' N w hlt sB sE hN hd1 hd3 hr0 hr1
        · exact stmtOk_say m ih x y n d r B E A A' c c' N w hlt sB sE hN hd1 hd3 hr0 hr1
        · exact stmtOk_if m ih x y n d r B E A A' c c' N w hlt sB sE hN hd1 hd3 hr0 hr1
        · exact stmtOk_while m ih x y n d r B E A A' c c' N w hlt sB sE hN hd1 hd3 hr0 hr1
        · exact stmtOk_in m ih x y n d r B E A A' c c' N w hlt sB sE hN hd1 hd3 hr0 hr1
        · exact stmtOk_wait m ih x y n d r B E A A' c c' N w hlt sB sE hN hd1 hd3 hr0 hr1
        · exact stmtOk_signal m ih x y n d r B E A A' c c' N w hlt sB sE hN hd1 hd3 hr0 hr1
        · exact stmtOk_yield m ih x y n d r B E A A' c c' N w hlt sB sE hN hd1 hd3 hr0 hr1
      · exact stmtOk_none k x y n d r B E A A' c c' w hk hd1 hd3 hr0 hr1
    · rw [okS_head (headB_deep hd1)]
      exact stmtOk_out k x y n d r _ _ w (by omega)

/-- The program's StmtOk. -/
theorem stmtOk (k x y n d r : Int) (B E : SL) (A A' : Option Addr) (c c' N : Nat) (w : World) (sB : Sl w N B A B.len c) (sE : Sl w N E A' E.len c') (hN : N ≤ w.heap.size) :
    Calls Tryz.prog 33 #[.agg #[.int .i64 k, .int .i64 x, .int .i64 y, .int .i64 n, .slice A B.len c, .slice A' E.len c'], .int .i64 d, .int .i64 r] w fun e w' => e = .returned (.bool (inB d r && okS k x y n B E d r)) ∧ Below w.heap.size w w' := by
  by_cases h : 0 ≤ d ∧ d ≤ 3 ∧ -1 ≤ r ∧ r ≤ 1
  · rw [show inB d r = true from decide_eq_true h, Bool.true_and]
    exact stmtSays (B.size + E.size + 1) k x y n d r B E A A' c c' N w (by omega) sB sE hN h.1 h.2.1 h.2.2.1 h.2.2.2
  · rw [show inB d r = false from decide_eq_false h, Bool.false_and]
    exact stmtOk_out k x y n d r _ _ w (by omega)
end Go.Proofs.YtnfnjhbaaefbpaaGreatDoor
