/- The walk of laws.FnExactStmtOk. -/
import Derived.Test.YthamehcfenncaaaStmtOkSpec
import Derived.Test.YthamehcfenncaaaCopy
import Derived.Test.YthamehcfenncaaaEq
import Derived.Deep.RegionHeld3
import Derived.Deep.RegionWith
namespace Go.Proofs.Ythamehcfenncaaa
open Go.ChangeShapes Go.WideShapes Go.ChangeAt Go.RowKit

set_option maxRecDepth 100000 in
set_option maxHeartbeats 1000000 in
theorem wFnExactStmtOk (k x y n d r : Int) (B E : SL) (A A' : Option Addr) (c c' : Nat) (w : World) (sB : Sl w w.heap.size B A B.len c) (sE : Sl w w.heap.size E A' E.len c') :
    Calls Try.prog 4 #[.agg #[.int .i64 k, .int .i64 x, .int .i64 y, .int .i64 n, .slice A B.len c, .slice A' E.len c'], .int .i64 d, .int .i64 r] w fun e w' => e = .returned (.bool true) ∧ Below w.heap.size w w' := by
  have hb0 : Below w.heap.size w (w.alloc (.cells #[.int .i64 k, .int .i64 x, .int .i64 y, .int .i64 n, .slice A B.len c, .slice A' E.len c'] 32)) := (Below.refl _ _).alloc (Nat.le_refl _) _
  by_cases hfit : ((B.size + E.size : Nat) : Int) ≤ 1048576
  · have HS := Lib.hid (show szR (B.size + E.size) 1048576 = 1048576 - (B.size + E.size : Nat) from if_pos hfit)
    have hpos : 0 ≤ (1048576 : Int) - (B.size + E.size : Nat) := by omega
    have lB : B.size ≤ 1048576 := by omega
    have lE : E.size ≤ 1048576 := by omega
    clear hfit
    go_enter Try.func4, Try.ntmps4
    go_wp2_with fail
    refine (szStmt (sB.below hb0) (sE.below hb0) (by simp) (by omega) (by omega)).mono ?_
    rintro e w1 ⟨rfl, hb1⟩
    rw [HS.out]
    have r1 : w1.heap[w.heap.size]? = some (.cells #[.int .i64 k, .int .i64 x, .int .i64 y, .int .i64 n, .slice A B.len c, .slice A' E.len c'] 32 (0, 0)) := by rw [hb1.block _ (by simp)]; exact new_row _ _ _
    have b1 := hb0.trans (hb1.mono (by simp))
    have z1 : w.heap.size + 1 ≤ w1.heap.size := by have := hb1.size; simpa using this
    clear hb1
    obtain ⟨p0, p1, p2, p3, p4, p5⟩ := cells6 r1
    have R1 := Lib.hid r1
    clear r1
    go_wp2_with fail
    refine (toStmt k x y n B E lB lE A A' c c' w.heap.size w1 (sB.below b1) (sE.below b1) (by omega)).mono ?_
    rintro e w2 ⟨A1, c1, A2, c2, rfl, sB2, sE2, hb2⟩
    have z2 := hb2.size
    have b2 := b1.trans (hb2.mono (by omega))
    have r2 : w2.heap[w.heap.size]? = some (.cells #[.int .i64 k, .int .i64 x, .int .i64 y, .int .i64 n, .slice A B.len c, .slice A' E.len c'] 32 (0, 0)) := by rw [hb2.block _ (by omega)]; exact R1.out
    clear hb2 p0 p1 p2 p3 p4 p5 R1
    have R2 := Lib.hid r2
    clear r2
    go_wp2_with fail
    refine (specStmtOk k x y n d r B E A1 A2 c1 c2 w2.heap.size w2 (sB2.sl fun _ h => h.2) (sE2.sl fun _ h => h.2) (Nat.le_refl _)).mono ?_
    rintro e w3 ⟨rfl, hb3⟩
    have z3 := hb3.size
    have b3 := b2.trans (hb3.mono (by omega))
    have r3 : w3.heap[w.heap.size]? = some (.cells #[.int .i64 k, .int .i64 x, .int .i64 y, .int .i64 n, .slice A B.len c, .slice A' E.len c'] 32 (0, 0)) := by rw [hb3.block _ (by omega)]; exact R2.out
    clear hb3 R2 sB2 sE2
    obtain ⟨p0, p1, p2, p3, p4, p5⟩ := cells6 r3
    have R3 := Lib.hid r3
    clear r3
    generalize hbe : (inB d r && okS k x y n B E d r) = b at *
    have HBE := Lib.hid hbe
    clear hbe
    go_wp2_with fail
    refine (toStmt k x y n B E lB lE A A' c c' w.heap.size w3 (sB.below b3) (sE.below b3) (by omega)).mono ?_
    rintro e w4 ⟨A3, c3, A4, c4, rfl, sB4, sE4, hb4⟩
    have z4 := hb4.size
    have b4 := b3.trans (hb4.mono (by omega))
    have r4 : w4.heap[w.heap.size]? = some (.cells #[.int .i64 k, .int .i64 x, .int .i64 y, .int .i64 n, .slice A B.len c, .slice A' E.len c'] 32 (0, 0)) := by rw [hb4.block _ (by omega)]; exact R3.out
    clear hb4 R3 p0 p1 p2 p3 p4 p5
    have R4 := Lib.hid r4
    clear r4
    go_wp2_with fail
    have ba : Below w4.heap.size w4 (w4.alloc (.cells #[.int .i64 k, .int .i64 x, .int .i64 y, .int .i64 n, .slice A3 B.len c3, .slice A4 E.len c4] 37)) := (Below.refl _ _).alloc (Nat.le_refl _) _
    refine (stmtOk k x y n d r B E A3 A4 c3 c4 w4.heap.size _ ((sB4.sl fun _ h => h.2).below ba) ((sE4.sl fun _ h => h.2).below ba) (by simp)).mono ?_
    rintro e w5 ⟨rfl, hb5⟩
    rw [HBE.out]
    have r5 : w5.heap[w.heap.size]? = some (.cells #[.int .i64 k, .int .i64 x, .int .i64 y, .int .i64 n, .slice A B.len c, .slice A' E.len c'] 32 (0, 0)) := by rw [hb5.block _ (by simp; omega), ba.block _ (by omega)]; exact R4.out
    have x5 : w5.heap[w4.heap.size]? = some (.cells #[.int .i64 k, .int .i64 x, .int .i64 y, .int .i64 n, .slice A3 B.len c3, .slice A4 E.len c4] 37 (0, 0)) := by rw [hb5.block _ (by simp)]; exact new_row _ _ _
    have z5 : w4.heap.size + 1 ≤ w5.heap.size := by have := hb5.size; simpa using this
    have ba5 : Below w4.heap.size w4 w5 := ba.trans (hb5.mono (by simp))
    have b5 := b4.trans (ba5.mono (by omega))
    have tB5 := (sB4.sl (N := w4.heap.size) fun _ h => h.2).below ba5
    have tE5 := (sE4.sl (N := w4.heap.size) fun _ h => h.2).below ba5
    have sB5 := sB.below b5
    have sE5 := sE.below b5
    clear hb5 ba R4 sB4 sE4 HBE
    obtain ⟨p0, p1, p2, p3, p4, p5⟩ := cells6 r5
    obtain ⟨q0, q1, q2, q3, q4, q5⟩ := cells6 x5
    have R5 := Lib.hid r5
    have X5 := Lib.hid x5
    clear r5 x5
    go_wp2_with fail
    go_region_with (first
      | (go_at_call 16; refine (toStmt k x y n B E lB lE A A' c c' w.heap.size _ (sB.below (b5.trans (Below.refl _ _).drew)) (sE.below (b5.trans (Below.refl _ _).drew)) (by show w.heap.size ≤ w5.heap.size; omega)).mono ?_; rintro e w6 ⟨A5, c5, A6, c6, rfl, sB6, sE6, hb6⟩
         have z6 : w5.heap.size ≤ w6.heap.size := hb6.size
         have b56 : Below w5.heap.size w5 w6 := (Below.refl _ _).drew.trans hb6
         have b6 := b5.trans (b56.mono (by omega))
         have X6 : w6.heap[w4.heap.size]? = some (.cells #[.int .i64 k, .int .i64 x, .int .i64 y, .int .i64 n, .slice A3 B.len c3, .slice A4 E.len c4] 37 (0, 0)) := by rw [b56.block _ (by omega)]; exact X5.out
         obtain ⟨s0, s1, s2, s3, s4, s5⟩ := cells6 X6
         have tB6 := tB5.below (b56.mono (by omega))
         have tE6 := tE5.below (b56.mono (by omega))
         have uB6 := sB6.sl (N := w6.heap.size) fun _ h => h.2
         have uE6 := sE6.sl (N := w6.heap.size) fun _ h => h.2
         clear hb6 b56 X6 sB6 sE6)
      | (go_at_call 18; refine (eqStmt k x y n B E A3 A4 A5 A6 c3 c4 c5 c6 w4.heap.size w6.heap.size w6 tB6 tE6 uB6 uE6 (by omega) (Nat.le_refl _)).mono ?_; rintro e w7 ⟨rfl, hb7⟩
         have b7 := b6.trans (hb7.mono (by omega))
         clear hb7))
    all_goals
      go_wp2_with fail
      go_ret
      exact ⟨rfl, b7⟩
  · have HS := Lib.hid (show szR (B.size + E.size) 1048576 = -1 from if_neg hfit)
    clear hfit
    go_enter Try.func4, Try.ntmps4
    go_wp2_with fail
    refine (szStmt (sB.below hb0) (sE.below hb0) (by simp) (by omega) (by omega)).mono ?_
    rintro e w1 ⟨rfl, hb1⟩
    rw [HS.out]
    go_wp2_with fail
    go_ret
    exact ⟨rfl, hb0.trans (hb1.mono (by simp))⟩
end Go.Proofs.Ythamehcfenncaaa
