/- The program's StmtOk, kind by kind, given what it says of what is within. -/
import Derived.Test.YtnfnjhbaaefbpaaGreatDoorOkBox
namespace Go.Proofs.YtnfnjhbaaefbpaaGreatDoor
open Go.ChangeShapes Go.WideShapes Go.ChangeAt Go.RowKit

set_option maxRecDepth 100000 in
set_option maxHeartbeats 4000000 in
theorem stmtOk_signal (m : Nat) (hm : StmtSays m) (x y n d r : Int) (B E : SL) (A A' : Option Addr) (c c' N : Nat) (w : World) (hlt : B.size + E.size < m + 1) (sB : Sl w N B A B.len c) (sE : Sl w N E A' E.len c') (hN : N ≤ w.heap.size) (hd1 : 1 ≤ d) (hd3 : d ≤ 3) (hr0 : -1 ≤ r) (hr1 : r ≤ 1) :
    Calls Tryz.prog 33 #[.agg #[.int .i64 10, .int .i64 x, .int .i64 y, .int .i64 n, .slice A B.len c, .slice A' E.len c'], .int .i64 d, .int .i64 r] w fun e w' => e = .returned (.bool (okS 10 x y n B E d r)) ∧ Below w.heap.size w w' := by
  have HM := Lib.hid hm
  clear hm
  cases hfit : fitB 10 x y n B.len E.len r
  · have H := Lib.hid (okS_fit (d := d) hfit)
    have HF := Lib.hid hfit
    clear hfit
    by_cases hr : r = -1
    · subst hr
      go_enter Tryz.func33, Tryz.ntmps33
      go_wp2_with fail
      refine (kindOf_signal x y n _ _ _).mono ?_
      rintro e w1 ⟨rfl, hb1⟩
      obtain ⟨hz1, hbw1, b0, b1⟩ := box2 hb1
      have B0 := Lib.hid b0
      have B1 := Lib.hid b1
      clear hb1 b0 b1
      go_wp2_with fail
      refine (fits_signal x y n (-1) A A' B.len c E.len c' _ (by omega) (by omega)).mono ?_
      rintro e w2 ⟨rfl, hb2⟩
      rw [HF.out]
      have hz2 := hb2.size
      have hbw2 := hbw1.trans (hb2.mono (by omega))
      go_wp2_with fail
      go_ret
      exact ⟨by rw [H.out]; rfl, hbw2⟩
    · have HR := Lib.hid (show roomB r = true from decide_eq_true (by omega))
      go_enter Tryz.func33, Tryz.ntmps33
      go_wp2_with fail
      refine (isRoom r _).mono ?_
      rintro e w' ⟨rfl, rfl⟩
      rw [HR.out]
      go_wp2_with fail
      refine (kindOf_signal x y n _ _ _).mono ?_
      rintro e w1 ⟨rfl, hb1⟩
      obtain ⟨hz1, hbw1, b0, b1⟩ := box2 hb1
      have B0 := Lib.hid b0
      have B1 := Lib.hid b1
      clear hb1 b0 b1
      go_wp2_with fail
      refine (fits_signal x y n r A A' B.len c E.len c' _ (by omega) (by omega)).mono ?_
      rintro e w2 ⟨rfl, hb2⟩
      rw [HF.out]
      have hz2 := hb2.size
      have hbw2 := hbw1.trans (hb2.mono (by omega))
      go_wp2_with fail
      go_ret
      exact ⟨by rw [H.out]; rfl, hbw2⟩
  · have HS := okS_fits hd1 hfit
    rw [show inR 10 x r = r from rfl] at HS
    have HF := Lib.hid hfit
    clear hfit
    cases hb1 : okL B (d - 1) r
    · have H := Lib.hid (show okS 10 x y n B E d r = false from by rw [HS, hb1]; rfl)
      have H1 := Lib.hid hb1
      clear HS hb1
      by_cases hr : r = -1
      · subst hr
        go_enter Tryz.func33, Tryz.ntmps33
        go_wp2_with fail
        refine (kindOf_signal x y n _ _ _).mono ?_
        rintro e w1 ⟨rfl, hb1⟩
        obtain ⟨hz1, hbw1, b0, b1⟩ := box2 hb1
        have B0 := Lib.hid b0
        have B1 := Lib.hid b1
        clear hb1 b0 b1
        go_wp2_with fail
        refine (fits_signal x y n (-1) A A' B.len c E.len c' _ (by omega) (by omega)).mono ?_
        rintro e w2 ⟨rfl, hb2⟩
        rw [HF.out]
        have hz2 := hb2.size
        have hbw2 := hbw1.trans (hb2.mono (by omega))
        have c0 : w2.heap[w.heap.size]? = _ := (hb2.block _ (by omega)).trans B0.out
        have c1 : w2.heap[w.heap.size + 1]? = _ := (hb2.block _ (by omega)).trans B1.out
        obtain ⟨q0, q1, q2, q3, q4, q5⟩ := cells6 c0
        have C0 := Lib.hid c0
        have C1 := Lib.hid c1
        clear hb2 c0 c1
        go_wp2_with fail
        refine (roomWithin 10 x y n (-1) _ _ _).mono ?_
        rintro e w3 ⟨rfl, hw3⟩
        rw [show inR 10 x (-1) = (-1) from rfl]
        subst hw3
        clear q0 q1 q2 q3 q4 q5
        obtain ⟨w3, hw3⟩ : ∃ w3, ((w2.alloc (.cells #[.int .i64 10, .int .i64 x, .int .i64 y, .int .i64 n, .slice A B.len c, .slice A' E.len c'] 36)).alloc (.cells #[.int .i64 (-1)] 3)) = w3 := ⟨_, rfl⟩
        obtain ⟨hz3, hbw3, r0, r1, f2⟩ := boxR C0.out C1.out hbw2 hw3
        have HW3 := Lib.hid hw3
        have f1 : w3.cell? ⟨w.heap.size + 1, 0, none⟩ = some (.int .i64 d) := by rw [row_cell r1]; rfl
        have f4 : w3.cell? ⟨w.heap.size, 4, none⟩ = some (.slice A B.len c) := by rw [row_cell r0]; rfl
        have f5 : w3.cell? ⟨w.heap.size, 5, none⟩ = some (.slice A' E.len c') := by rw [row_cell r0]; rfl
        have HZ3 := Lib.hid hz3
        have G1 := Lib.hid f1
        have G2 := Lib.hid f2
        have R0 := Lib.hid r0
        have R1 := Lib.hid r1
        have G4 := Lib.hid (show (((w2.alloc (.cells #[.int .i64 10, .int .i64 x, .int .i64 y, .int .i64 n, .slice A B.len c, .slice A' E.len c'] 36)).alloc (.cells #[.int .i64 (-1)] 3))).cell? ⟨w.heap.size, 4, none⟩ = some (.slice A B.len c) from by rw [hw3]; exact f4)
        clear r0 r1 hw3 hz3 f1 f2 f4
        have g4 := G4.out
        go_wp2_with fail
        clear g4 G4
        rw [HW3.out]
        have f1 := G1.out
        have f2 := G2.out
        refine (containsBad B (d - 1) (-1) A B.len c N (w.heap.size + 1) (w2.heap.size + 1) m w3 HM.out (by omega) (sB.below (hbw3.mono hN)) (by have := hbw3.size; omega) (by rw [f1, Int.sub_add_cancel]) f2 (by have := HZ3.out; omega) (by have := HZ3.out; omega) (by omega) (by omega) (by omega) (by omega)).mono ?_
        rintro e w4 ⟨rfl, hb4⟩
        rw [H1.out]
        have hz4 := hb4.size
        have hbw4 := hbw3.trans (hb4.mono hbw3.size)
        go_wp2_with fail
        go_ret
        exact ⟨by rw [H.out]; rfl, hbw4⟩
      · have HR := Lib.hid (show roomB r = true from decide_eq_true (by omega))
        go_enter Tryz.func33, Tryz.ntmps33
        go_wp2_with fail
        refine (isRoom r _).mono ?_
        rintro e w' ⟨rfl, rfl⟩
        rw [HR.out]
        go_wp2_with fail
        refine (kindOf_signal x y n _ _ _).mono ?_
        rintro e w1 ⟨rfl, hb1⟩
        obtain ⟨hz1, hbw1, b0, b1⟩ := box2 hb1
        have B0 := Lib.hid b0
        have B1 := Lib.hid b1
        clear hb1 b0 b1
        go_wp2_with fail
        refine (fits_signal x y n r A A' B.len c E.len c' _ (by omega) (by omega)).mono ?_
        rintro e w2 ⟨rfl, hb2⟩
        rw [HF.out]
        have hz2 := hb2.size
        have hbw2 := hbw1.trans (hb2.mono (by omega))
        have c0 : w2.heap[w.heap.size]? = _ := (hb2.block _ (by omega)).trans B0.out
        have c1 : w2.heap[w.heap.size + 1]? = _ := (hb2.block _ (by omega)).trans B1.out
        obtain ⟨q0, q1, q2, q3, q4, q5⟩ := cells6 c0
        have C0 := Lib.hid c0
        have C1 := Lib.hid c1
        clear hb2 c0 c1
        go_wp2_with fail
        refine (roomWithin 10 x y n r _ _ _).mono ?_
        rintro e w3 ⟨rfl, hw3⟩
        rw [show inR 10 x r = r from rfl]
        subst hw3
        clear q0 q1 q2 q3 q4 q5
        obtain ⟨w3, hw3⟩ : ∃ w3, ((w2.alloc (.cells #[.int .i64 10, .int .i64 x, .int .i64 y, .int .i64 n, .slice A B.len c, .slice A' E.len c'] 36)).alloc (.cells #[.int .i64 r] 3)) = w3 := ⟨_, rfl⟩
        obtain ⟨hz3, hbw3, r0, r1, f2⟩ := boxR C0.out C1.out hbw2 hw3
        have HW3 := Lib.hid hw3
        have f1 : w3.cell? ⟨w.heap.size + 1, 0, none⟩ = some (.int .i64 d) := by rw [row_cell r1]; rfl
        have f4 : w3.cell? ⟨w.heap.size, 4, none⟩ = some (.slice A B.len c) := by rw [row_cell r0]; rfl
        have f5 : w3.cell? ⟨w.heap.size, 5, none⟩ = some (.slice A' E.len c') := by rw [row_cell r0]; rfl
        have HZ3 := Lib.hid hz3
        have G1 := Lib.hid f1
        have G2 := Lib.hid f2
        have R0 := Lib.hid r0
        have R1 := Lib.hid r1
        have G4 := Lib.hid (show (((w2.alloc (.cells #[.int .i64 10, .int .i64 x, .int .i64 y, .int .i64 n, .slice A B.len c, .slice A' E.len c'] 36)).alloc (.cells #[.int .i64 r] 3))).cell? ⟨w.heap.size, 4, none⟩ = some (.slice A B.len c) from by rw [hw3]; exact f4)
        clear r0 r1 hw3 hz3 f1 f2 f4
        have g4 := G4.out
        go_wp2_with fail
        clear g4 G4
        rw [HW3.out]
        have f1 := G1.out
        have f2 := G2.out
        refine (containsBad B (d - 1) r A B.len c N (w.heap.size + 1) (w2.heap.size + 1) m w3 HM.out (by omega) (sB.below (hbw3.mono hN)) (by have := hbw3.size; omega) (by rw [f1, Int.sub_add_cancel]) f2 (by have := HZ3.out; omega) (by have := HZ3.out; omega) (by omega) (by omega) (by omega) (by omega)).mono ?_
        rintro e w4 ⟨rfl, hb4⟩
        rw [H1.out]
        have hz4 := hb4.size
        have hbw4 := hbw3.trans (hb4.mono hbw3.size)
        go_wp2_with fail
        go_ret
        exact ⟨by rw [H.out]; rfl, hbw4⟩
    · have H := Lib.hid (show okS 10 x y n B E d r = okL E (d - 1) r from by rw [HS, hb1]; rfl)
      have H1 := Lib.hid hb1
      clear HS hb1
      by_cases hr : r = -1
      · subst hr
        go_enter Tryz.func33, Tryz.ntmps33
        go_wp2_with fail
        refine (kindOf_signal x y n _ _ _).mono ?_
        rintro e w1 ⟨rfl, hb1⟩
        obtain ⟨hz1, hbw1, b0, b1⟩ := box2 hb1
        have B0 := Lib.hid b0
        have B1 := Lib.hid b1
        clear hb1 b0 b1
        go_wp2_with fail
        refine (fits_signal x y n (-1) A A' B.len c E.len c' _ (by omega) (by omega)).mono ?_
        rintro e w2 ⟨rfl, hb2⟩
        rw [HF.out]
        have hz2 := hb2.size
        have hbw2 := hbw1.trans (hb2.mono (by omega))
        have c0 : w2.heap[w.heap.size]? = _ := (hb2.block _ (by omega)).trans B0.out
        have c1 : w2.heap[w.heap.size + 1]? = _ := (hb2.block _ (by omega)).trans B1.out
        obtain ⟨q0, q1, q2, q3, q4, q5⟩ := cells6 c0
        have C0 := Lib.hid c0
        have C1 := Lib.hid c1
        clear hb2 c0 c1
        go_wp2_with fail
        refine (roomWithin 10 x y n (-1) _ _ _).mono ?_
        rintro e w3 ⟨rfl, hw3⟩
        rw [show inR 10 x (-1) = (-1) from rfl]
        subst hw3
        clear q0 q1 q2 q3 q4 q5
        obtain ⟨w3, hw3⟩ : ∃ w3, ((w2.alloc (.cells #[.int .i64 10, .int .i64 x, .int .i64 y, .int .i64 n, .slice A B.len c, .slice A' E.len c'] 36)).alloc (.cells #[.int .i64 (-1)] 3)) = w3 := ⟨_, rfl⟩
        obtain ⟨hz3, hbw3, r0, r1, f2⟩ := boxR C0.out C1.out hbw2 hw3
        have HW3 := Lib.hid hw3
        have f1 : w3.cell? ⟨w.heap.size + 1, 0, none⟩ = some (.int .i64 d) := by rw [row_cell r1]; rfl
        have f4 : w3.cell? ⟨w.heap.size, 4, none⟩ = some (.slice A B.len c) := by rw [row_cell r0]; rfl
        have f5 : w3.cell? ⟨w.heap.size, 5, none⟩ = some (.slice A' E.len c') := by rw [row_cell r0]; rfl
        have HZ3 := Lib.hid hz3
        have G1 := Lib.hid f1
        have G2 := Lib.hid f2
        have R0 := Lib.hid r0
        have R1 := Lib.hid r1
        have G4 := Lib.hid (show (((w2.alloc (.cells #[.int .i64 10, .int .i64 x, .int .i64 y, .int .i64 n, .slice A B.len c, .slice A' E.len c'] 36)).alloc (.cells #[.int .i64 (-1)] 3))).cell? ⟨w.heap.size, 4, none⟩ = some (.slice A B.len c) from by rw [hw3]; exact f4)
        clear r0 r1 hw3 hz3 f1 f2 f4
        have g4 := G4.out
        go_wp2_with fail
        clear g4 G4
        rw [HW3.out]
        have f1 := G1.out
        have f2 := G2.out
        refine (containsBad B (d - 1) (-1) A B.len c N (w.heap.size + 1) (w2.heap.size + 1) m w3 HM.out (by omega) (sB.below (hbw3.mono hN)) (by have := hbw3.size; omega) (by rw [f1, Int.sub_add_cancel]) f2 (by have := HZ3.out; omega) (by have := HZ3.out; omega) (by omega) (by omega) (by omega) (by omega)).mono ?_
        rintro e w4 ⟨rfl, hb4⟩
        rw [H1.out]
        have hz4 := hb4.size
        have hbw4 := hbw3.trans (hb4.mono hbw3.size)
        have g1 : w4.cell? ⟨w.heap.size + 1, 0, none⟩ = some (.int .i64 d) := by rw [hb4.cell (by have := HZ3.out; show w.heap.size + 1 < _; omega)]; exact f1
        have g2 : w4.cell? ⟨w2.heap.size + 1, 0, none⟩ = some (.int .i64 (-1)) := by rw [hb4.cell (by have := HZ3.out; show w2.heap.size + 1 < _; omega)]; exact f2
        have g5 : w4.cell? ⟨w.heap.size, 5, none⟩ = some (.slice A' E.len c') := by rw [hb4.cell (by have := HZ3.out; show w.heap.size < _; omega)]; exact f5
        clear hb4 f1 f2 f5
        go_wp2_with fail
        refine (containsBad E (d - 1) (-1) A' E.len c' N (w.heap.size + 1) (w2.heap.size + 1) m w4 HM.out (by omega) (sE.below (hbw4.mono hN)) (by have := hbw4.size; omega) (by rw [g1, Int.sub_add_cancel]) g2 (by have := HZ3.out; omega) (by have := HZ3.out; omega) (by omega) (by omega) (by omega) (by omega)).mono ?_
        rintro e w5 ⟨rfl, hb5⟩
        go_wp2_with fail
        go_ret
        exact ⟨retB H.out.symm, hbw4.trans (hb5.mono hbw4.size)⟩
      · have HR := Lib.hid (show roomB r = true from decide_eq_true (by omega))
        go_enter Tryz.func33, Tryz.ntmps33
        go_wp2_with fail
        refine (isRoom r _).mono ?_
        rintro e w' ⟨rfl, rfl⟩
        rw [HR.out]
        go_wp2_with fail
        refine (kindOf_signal x y n _ _ _).mono ?_
        rintro e w1 ⟨rfl, hb1⟩
        obtain ⟨hz1, hbw1, b0, b1⟩ := box2 hb1
        have B0 := Lib.hid b0
        have B1 := Lib.hid b1
        clear hb1 b0 b1
        go_wp2_with fail
        refine (fits_signal x y n r A A' B.len c E.len c' _ (by omega) (by omega)).mono ?_
        rintro e w2 ⟨rfl, hb2⟩
        rw [HF.out]
        have hz2 := hb2.size
        have hbw2 := hbw1.trans (hb2.mono (by omega))
        have c0 : w2.heap[w.heap.size]? = _ := (hb2.block _ (by omega)).trans B0.out
        have c1 : w2.heap[w.heap.size + 1]? = _ := (hb2.block _ (by omega)).trans B1.out
        obtain ⟨q0, q1, q2, q3, q4, q5⟩ := cells6 c0
        have C0 := Lib.hid c0
        have C1 := Lib.hid c1
        clear hb2 c0 c1
        go_wp2_with fail
        refine (roomWithin 10 x y n r _ _ _).mono ?_
        rintro e w3 ⟨rfl, hw3⟩
        rw [show inR 10 x r = r from rfl]
        subst hw3
        clear q0 q1 q2 q3 q4 q5
        obtain ⟨w3, hw3⟩ : ∃ w3, ((w2.alloc (.cells #[.int .i64 10, .int .i64 x, .int .i64 y, .int .i64 n, .slice A B.len c, .slice A' E.len c'] 36)).alloc (.cells #[.int .i64 r] 3)) = w3 := ⟨_, rfl⟩
        obtain ⟨hz3, hbw3, r0, r1, f2⟩ := boxR C0.out C1.out hbw2 hw3
        have HW3 := Lib.hid hw3
        have f1 : w3.cell? ⟨w.heap.size + 1, 0, none⟩ = some (.int .i64 d) := by rw [row_cell r1]; rfl
        have f4 : w3.cell? ⟨w.heap.size, 4, none⟩ = some (.slice A B.len c) := by rw [row_cell r0]; rfl
        have f5 : w3.cell? ⟨w.heap.size, 5, none⟩ = some (.slice A' E.len c') := by rw [row_cell r0]; rfl
        have HZ3 := Lib.hid hz3
        have G1 := Lib.hid f1
        have G2 := Lib.hid f2
        have R0 := Lib.hid r0
        have R1 := Lib.hid r1
        have G4 := Lib.hid (show (((w2.alloc (.cells #[.int .i64 10, .int .i64 x, .int .i64 y, .int .i64 n, .slice A B.len c, .slice A' E.len c'] 36)).alloc (.cells #[.int .i64 r] 3))).cell? ⟨w.heap.size, 4, none⟩ = some (.slice A B.len c) from by rw [hw3]; exact f4)
        clear r0 r1 hw3 hz3 f1 f2 f4
        have g4 := G4.out
        go_wp2_with fail
        clear g4 G4
        rw [HW3.out]
        have f1 := G1.out
        have f2 := G2.out
        refine (containsBad B (d - 1) r A B.len c N (w.heap.size + 1) (w2.heap.size + 1) m w3 HM.out (by omega) (sB.below (hbw3.mono hN)) (by have := hbw3.size; omega) (by rw [f1, Int.sub_add_cancel]) f2 (by have := HZ3.out; omega) (by have := HZ3.out; omega) (by omega) (by omega) (by omega) (by omega)).mono ?_
        rintro e w4 ⟨rfl, hb4⟩
        rw [H1.out]
        have hz4 := hb4.size
        have hbw4 := hbw3.trans (hb4.mono hbw3.size)
        have g1 : w4.cell? ⟨w.heap.size + 1, 0, none⟩ = some (.int .i64 d) := by rw [hb4.cell (by have := HZ3.out; show w.heap.size + 1 < _; omega)]; exact f1
        have g2 : w4.cell? ⟨w2.heap.size + 1, 0, none⟩ = some (.int .i64 r) := by rw [hb4.cell (by have := HZ3.out; show w2.heap.size + 1 < _; omega)]; exact f2
        have g5 : w4.cell? ⟨w.heap.size, 5, none⟩ = some (.slice A' E.len c') := by rw [hb4.cell (by have := HZ3.out; show w.heap.size < _; omega)]; exact f5
        clear hb4 f1 f2 f5
        go_wp2_with fail
        refine (containsBad E (d - 1) r A' E.len c' N (w.heap.size + 1) (w2.heap.size + 1) m w4 HM.out (by omega) (sE.below (hbw4.mono hN)) (by have := hbw4.size; omega) (by rw [g1, Int.sub_add_cancel]) g2 (by have := HZ3.out; omega) (by have := HZ3.out; omega) (by omega) (by omega) (by omega) (by omega)).mono ?_
        rintro e w5 ⟨rfl, hb5⟩
        go_wp2_with fail
        go_ret
        exact ⟨retB H.out.symm, hbw4.trans (hb5.mono hbw4.size)⟩

set_option maxRecDepth 100000 in
set_option maxHeartbeats 4000000 in
theorem stmtOk_yield (m : Nat) (hm : StmtSays m) (x y n d r : Int) (B E : SL) (A A' : Option Addr) (c c' N : Nat) (w : World) (hlt : B.size + E.size < m + 1) (sB : Sl w N B A B.len c) (sE : Sl w N E A' E.len c') (hN : N ≤ w.heap.size) (hd1 : 1 ≤ d) (hd3 : d ≤ 3) (hr0 : -1 ≤ r) (hr1 : r ≤ 1) :
    Calls Tryz.prog 33 #[.agg #[.int .i64 11, .int .i64 x, .int .i64 y, .int .i64 n, .slice A B.len c, .slice A' E.len c'], .int .i64 d, .int .i64 r] w fun e w' => e = .returned (.bool (okS 11 x y n B E d r)) ∧ Below w.heap.size w w' := by
  have HM := Lib.hid hm
  clear hm
  cases hfit : fitB 11 x y n B.len E.len r
  · have H := Lib.hid (okS_fit (d := d) hfit)
    have HF := Lib.hid hfit
    clear hfit
    by_cases hr : r = -1
    · subst hr
      go_enter Tryz.func33, Tryz.ntmps33
      go_wp2_with fail
      refine (kindOf_yield x y n _ _ _).mono ?_
      rintro e w1 ⟨rfl, hb1⟩
      obtain ⟨hz1, hbw1, b0, b1⟩ := box2 hb1
      have B0 := Lib.hid b0
      have B1 := Lib.hid b1
      clear hb1 b0 b1
      go_wp2_with fail
      refine (fits_yield x y n (-1) A A' B.len c E.len c' _ (by omega) (by omega)).mono ?_
      rintro e w2 ⟨rfl, hb2⟩
      rw [HF.out]
      have hz2 := hb2.size
      have hbw2 := hbw1.trans (hb2.mono (by omega))
      go_wp2_with fail
      go_ret
      exact ⟨by rw [H.out]; rfl, hbw2⟩
    · have HR := Lib.hid (show roomB r = true from decide_eq_true (by omega))
      go_enter Tryz.func33, Tryz.ntmps33
      go_wp2_with fail
      refine (isRoom r _).mono ?_
      rintro e w' ⟨rfl, rfl⟩
      rw [HR.out]
      go_wp2_with fail
      refine (kindOf_yield x y n _ _ _).mono ?_
      rintro e w1 ⟨rfl, hb1⟩
      obtain ⟨hz1, hbw1, b0, b1⟩ := box2 hb1
      have B0 := Lib.hid b0
      have B1 := Lib.hid b1
      clear hb1 b0 b1
      go_wp2_with fail
      refine (fits_yield x y n r A A' B.len c E.len c' _ (by omega) (by omega)).mono ?_
      rintro e w2 ⟨rfl, hb2⟩
      rw [HF.out]
      have hz2 := hb2.size
      have hbw2 := hbw1.trans (hb2.mono (by omega))
      go_wp2_with fail
      go_ret
      exact ⟨by rw [H.out]; rfl, hbw2⟩
  · have HS := okS_fits hd1 hfit
    rw [show inR 11 x r = r from rfl] at HS
    have HF := Lib.hid hfit
    clear hfit
    cases hb1 : okL B (d - 1) r
    · have H := Lib.hid (show okS 11 x y n B E d r = false from by rw [HS, hb1]; rfl)
      have H1 := Lib.hid hb1
      clear HS hb1
      by_cases hr : r = -1
      · subst hr
        go_enter Tryz.func33, Tryz.ntmps33
        go_wp2_with fail
        refine (kindOf_yield x y n _ _ _).mono ?_
        rintro e w1 ⟨rfl, hb1⟩
        obtain ⟨hz1, hbw1, b0, b1⟩ := box2 hb1
        have B0 := Lib.hid b0
        have B1 := Lib.hid b1
        clear hb1 b0 b1
        go_wp2_with fail
        refine (fits_yield x y n (-1) A A' B.len c E.len c' _ (by omega) (by omega)).mono ?_
        rintro e w2 ⟨rfl, hb2⟩
        rw [HF.out]
        have hz2 := hb2.size
        have hbw2 := hbw1.trans (hb2.mono (by omega))
        have c0 : w2.heap[w.heap.size]? = _ := (hb2.block _ (by omega)).trans B0.out
        have c1 : w2.heap[w.heap.size + 1]? = _ := (hb2.block _ (by omega)).trans B1.out
        obtain ⟨q0, q1, q2, q3, q4, q5⟩ := cells6 c0
        have C0 := Lib.hid c0
        have C1 := Lib.hid c1
        clear hb2 c0 c1
        go_wp2_with fail
        refine (roomWithin 11 x y n (-1) _ _ _).mono ?_
        rintro e w3 ⟨rfl, hw3⟩
        rw [show inR 11 x (-1) = (-1) from rfl]
        subst hw3
        clear q0 q1 q2 q3 q4 q5
        obtain ⟨w3, hw3⟩ : ∃ w3, ((w2.alloc (.cells #[.int .i64 11, .int .i64 x, .int .i64 y, .int .i64 n, .slice A B.len c, .slice A' E.len c'] 36)).alloc (.cells #[.int .i64 (-1)] 3)) = w3 := ⟨_, rfl⟩
        obtain ⟨hz3, hbw3, r0, r1, f2⟩ := boxR C0.out C1.out hbw2 hw3
        have HW3 := Lib.hid hw3
        have f1 : w3.cell? ⟨w.heap.size + 1, 0, none⟩ = some (.int .i64 d) := by rw [row_cell r1]; rfl
        have f4 : w3.cell? ⟨w.heap.size, 4, none⟩ = some (.slice A B.len c) := by rw [row_cell r0]; rfl
        have f5 : w3.cell? ⟨w.heap.size, 5, none⟩ = some (.slice A' E.len c') := by rw [row_cell r0]; rfl
        have HZ3 := Lib.hid hz3
        have G1 := Lib.hid f1
        have G2 := Lib.hid f2
        have R0 := Lib.hid r0
        have R1 := Lib.hid r1
        have G4 := Lib.hid (show (((w2.alloc (.cells #[.int .i64 11, .int .i64 x, .int .i64 y, .int .i64 n, .slice A B.len c, .slice A' E.len c'] 36)).alloc (.cells #[.int .i64 (-1)] 3))).cell? ⟨w.heap.size, 4, none⟩ = some (.slice A B.len c) from by rw [hw3]; exact f4)
        clear r0 r1 hw3 hz3 f1 f2 f4
        have g4 := G4.out
        go_wp2_with fail
        clear g4 G4
        rw [HW3.out]
        have f1 := G1.out
        have f2 := G2.out
        refine (containsBad B (d - 1) (-1) A B.len c N (w.heap.size + 1) (w2.heap.size + 1) m w3 HM.out (by omega) (sB.below (hbw3.mono hN)) (by have := hbw3.size; omega) (by rw [f1, Int.sub_add_cancel]) f2 (by have := HZ3.out; omega) (by have := HZ3.out; omega) (by omega) (by omega) (by omega) (by omega)).mono ?_
        rintro e w4 ⟨rfl, hb4⟩
        rw [H1.out]
        have hz4 := hb4.size
        have hbw4 := hbw3.trans (hb4.mono hbw3.size)
        go_wp2_with fail
        go_ret
        exact ⟨by rw [H.out]; rfl, hbw4⟩
      · have HR := Lib.hid (show roomB r = true from decide_eq_true (by omega))
        go_enter Tryz.func33, Tryz.ntmps33
        go_wp2_with fail
        refine (isRoom r _).mono ?_
        rintro e w' ⟨rfl, rfl⟩
        rw [HR.out]
        go_wp2_with fail
        refine (kindOf_yield x y n _ _ _).mono ?_
        rintro e w1 ⟨rfl, hb1⟩
        obtain ⟨hz1, hbw1, b0, b1⟩ := box2 hb1
        have B0 := Lib.hid b0
        have B1 := Lib.hid b1
        clear hb1 b0 b1
        go_wp2_with fail
        refine (fits_yield x y n r A A' B.len c E.len c' _ (by omega) (by omega)).mono ?_
        rintro e w2 ⟨rfl, hb2⟩
        rw [HF.out]
        have hz2 := hb2.size
        have hbw2 := hbw1.trans (hb2.mono (by omega))
        have c0 : w2.heap[w.heap.size]? = _ := (hb2.block _ (by omega)).trans B0.out
        have c1 : w2.heap[w.heap.size + 1]? = _ := (hb2.block _ (by omega)).trans B1.out
        obtain ⟨q0, q1, q2, q3, q4, q5⟩ := cells6 c0
        have C0 := Lib.hid c0
        have C1 := Lib.hid c1
        clear hb2 c0 c1
        go_wp2_with fail
        refine (roomWithin 11 x y n r _ _ _).mono ?_
        rintro e w3 ⟨rfl, hw3⟩
        rw [show inR 11 x r = r from rfl]
        subst hw3
        clear q0 q1 q2 q3 q4 q5
        obtain ⟨w3, hw3⟩ : ∃ w3, ((w2.alloc (.cells #[.int .i64 11, .int .i64 x, .int .i64 y, .int .i64 n, .slice A B.len c, .slice A' E.len c'] 36)).alloc (.cells #[.int .i64 r] 3)) = w3 := ⟨_, rfl⟩
        obtain ⟨hz3, hbw3, r0, r1, f2⟩ := boxR C0.out C1.out hbw2 hw3
        have HW3 := Lib.hid hw3
        have f1 : w3.cell? ⟨w.heap.size + 1, 0, none⟩ = some (.int .i64 d) := by rw [row_cell r1]; rfl
        have f4 : w3.cell? ⟨w.heap.size, 4, none⟩ = some (.slice A B.len c) := by rw [row_cell r0]; rfl
        have f5 : w3.cell? ⟨w.heap.size, 5, none⟩ = some (.slice A' E.len c') := by rw [row_cell r0]; rfl
        have HZ3 := Lib.hid hz3
        have G1 := Lib.hid f1
        have G2 := Lib.hid f2
        have R0 := Lib.hid r0
        have R1 := Lib.hid r1
        have G4 := Lib.hid (show (((w2.alloc (.cells #[.int .i64 11, .int .i64 x, .int .i64 y, .int .i64 n, .slice A B.len c, .slice A' E.len c'] 36)).alloc (.cells #[.int .i64 r] 3))).cell? ⟨w.heap.size, 4, none⟩ = some (.slice A B.len c) from by rw [hw3]; exact f4)
        clear r0 r1 hw3 hz3 f1 f2 f4
        have g4 := G4.out
        go_wp2_with fail
        clear g4 G4
        rw [HW3.out]
        have f1 := G1.out
        have f2 := G2.out
        refine (containsBad B (d - 1) r A B.len c N (w.heap.size + 1) (w2.heap.size + 1) m w3 HM.out (by omega) (sB.below (hbw3.mono hN)) (by have := hbw3.size; omega) (by rw [f1, Int.sub_add_cancel]) f2 (by have := HZ3.out; omega) (by have := HZ3.out; omega) (by omega) (by omega) (by omega) (by omega)).mono ?_
        rintro e w4 ⟨rfl, hb4⟩
        rw [H1.out]
        have hz4 := hb4.size
        have hbw4 := hbw3.trans (hb4.mono hbw3.size)
        go_wp2_with fail
        go_ret
        exact ⟨by rw [H.out]; rfl, hbw4⟩
    · have H := Lib.hid (show okS 11 x y n B E d r = okL E (d - 1) r from by rw [HS, hb1]; rfl)
      have H1 := Lib.hid hb1
      clear HS hb1
      by_cases hr : r = -1
      · subst hr
        go_enter Tryz.func33, Tryz.ntmps33
        go_wp2_with fail
        refine (kindOf_yield x y n _ _ _).mono ?_
        rintro e w1 ⟨rfl, hb1⟩
        obtain ⟨hz1, hbw1, b0, b1⟩ := box2 hb1
        have B0 := Lib.hid b0
        have B1 := Lib.hid b1
        clear hb1 b0 b1
        go_wp2_with fail
        refine (fits_yield x y n (-1) A A' B.len c E.len c' _ (by omega) (by omega)).mono ?_
        rintro e w2 ⟨rfl, hb2⟩
        rw [HF.out]
        have hz2 := hb2.size
        have hbw2 := hbw1.trans (hb2.mono (by omega))
        have c0 : w2.heap[w.heap.size]? = _ := (hb2.block _ (by omega)).trans B0.out
        have c1 : w2.heap[w.heap.size + 1]? = _ := (hb2.block _ (by omega)).trans B1.out
        obtain ⟨q0, q1, q2, q3, q4, q5⟩ := cells6 c0
        have C0 := Lib.hid c0
        have C1 := Lib.hid c1
        clear hb2 c0 c1
        go_wp2_with fail
        refine (roomWithin 11 x y n (-1) _ _ _).mono ?_
        rintro e w3 ⟨rfl, hw3⟩
        rw [show inR 11 x (-1) = (-1) from rfl]
        subst hw3
        clear q0 q1 q2 q3 q4 q5
        obtain ⟨w3, hw3⟩ : ∃ w3, ((w2.alloc (.cells #[.int .i64 11, .int .i64 x, .int .i64 y, .int .i64 n, .slice A B.len c, .slice A' E.len c'] 36)).alloc (.cells #[.int .i64 (-1)] 3)) = w3 := ⟨_, rfl⟩
        obtain ⟨hz3, hbw3, r0, r1, f2⟩ := boxR C0.out C1.out hbw2 hw3
        have HW3 := Lib.hid hw3
        have f1 : w3.cell? ⟨w.heap.size + 1, 0, none⟩ = some (.int .i64 d) := by rw [row_cell r1]; rfl
        have f4 : w3.cell? ⟨w.heap.size, 4, none⟩ = some (.slice A B.len c) := by rw [row_cell r0]; rfl
        have f5 : w3.cell? ⟨w.heap.size, 5, none⟩ = some (.slice A' E.len c') := by rw [row_cell r0]; rfl
        have HZ3 := Lib.hid hz3
        have G1 := Lib.hid f1
        have G2 := Lib.hid f2
        have R0 := Lib.hid r0
        have R1 := Lib.hid r1
        have G4 := Lib.hid (show (((w2.alloc (.cells #[.int .i64 11, .int .i64 x, .int .i64 y, .int .i64 n, .slice A B.len c, .slice A' E.len c'] 36)).alloc (.cells #[.int .i64 (-1)] 3))).cell? ⟨w.heap.size, 4, none⟩ = some (.slice A B.len c) from by rw [hw3]; exact f4)
        clear r0 r1 hw3 hz3 f1 f2 f4
        have g4 := G4.out
        go_wp2_with fail
        clear g4 G4
        rw [HW3.out]
        have f1 := G1.out
        have f2 := G2.out
        refine (containsBad B (d - 1) (-1) A B.len c N (w.heap.size + 1) (w2.heap.size + 1) m w3 HM.out (by omega) (sB.below (hbw3.mono hN)) (by have := hbw3.size; omega) (by rw [f1, Int.sub_add_cancel]) f2 (by have := HZ3.out; omega) (by have := HZ3.out; omega) (by omega) (by omega) (by omega) (by omega)).mono ?_
        rintro e w4 ⟨rfl, hb4⟩
        rw [H1.out]
        have hz4 := hb4.size
        have hbw4 := hbw3.trans (hb4.mono hbw3.size)
        have g1 : w4.cell? ⟨w.heap.size + 1, 0, none⟩ = some (.int .i64 d) := by rw [hb4.cell (by have := HZ3.out; show w.heap.size + 1 < _; omega)]; exact f1
        have g2 : w4.cell? ⟨w2.heap.size + 1, 0, none⟩ = some (.int .i64 (-1)) := by rw [hb4.cell (by have := HZ3.out; show w2.heap.size + 1 < _; omega)]; exact f2
        have g5 : w4.cell? ⟨w.heap.size, 5, none⟩ = some (.slice A' E.len c') := by rw [hb4.cell (by have := HZ3.out; show w.heap.size < _; omega)]; exact f5
        clear hb4 f1 f2 f5
        go_wp2_with fail
        refine (containsBad E (d - 1) (-1) A' E.len c' N (w.heap.size + 1) (w2.heap.size + 1) m w4 HM.out (by omega) (sE.below (hbw4.mono hN)) (by have := hbw4.size; omega) (by rw [g1, Int.sub_add_cancel]) g2 (by have := HZ3.out; omega) (by have := HZ3.out; omega) (by omega) (by omega) (by omega) (by omega)).mono ?_
        rintro e w5 ⟨rfl, hb5⟩
        go_wp2_with fail
        go_ret
        exact ⟨retB H.out.symm, hbw4.trans (hb5.mono hbw4.size)⟩
      · have HR := Lib.hid (show roomB r = true from decide_eq_true (by omega))
        go_enter Tryz.func33, Tryz.ntmps33
        go_wp2_with fail
        refine (isRoom r _).mono ?_
        rintro e w' ⟨rfl, rfl⟩
        rw [HR.out]
        go_wp2_with fail
        refine (kindOf_yield x y n _ _ _).mono ?_
        rintro e w1 ⟨rfl, hb1⟩
        obtain ⟨hz1, hbw1, b0, b1⟩ := box2 hb1
        have B0 := Lib.hid b0
        have B1 := Lib.hid b1
        clear hb1 b0 b1
        go_wp2_with fail
        refine (fits_yield x y n r A A' B.len c E.len c' _ (by omega) (by omega)).mono ?_
        rintro e w2 ⟨rfl, hb2⟩
        rw [HF.out]
        have hz2 := hb2.size
        have hbw2 := hbw1.trans (hb2.mono (by omega))
        have c0 : w2.heap[w.heap.size]? = _ := (hb2.block _ (by omega)).trans B0.out
        have c1 : w2.heap[w.heap.size + 1]? = _ := (hb2.block _ (by omega)).trans B1.out
        obtain ⟨q0, q1, q2, q3, q4, q5⟩ := cells6 c0
        have C0 := Lib.hid c0
        have C1 := Lib.hid c1
        clear hb2 c0 c1
        go_wp2_with fail
        refine (roomWithin 11 x y n r _ _ _).mono ?_
        rintro e w3 ⟨rfl, hw3⟩
        rw [show inR 11 x r = r from rfl]
        subst hw3
        clear q0 q1 q2 q3 q4 q5
        obtain ⟨w3, hw3⟩ : ∃ w3, ((w2.alloc (.cells #[.int .i64 11, .int .i64 x, .int .i64 y, .int .i64 n, .slice A B.len c, .slice A' E.len c'] 36)).alloc (.cells #[.int .i64 r] 3)) = w3 := ⟨_, rfl⟩
        obtain ⟨hz3, hbw3, r0, r1, f2⟩ := boxR C0.out C1.out hbw2 hw3
        have HW3 := Lib.hid hw3
        have f1 : w3.cell? ⟨w.heap.size + 1, 0, none⟩ = some (.int .i64 d) := by rw [row_cell r1]; rfl
        have f4 : w3.cell? ⟨w.heap.size, 4, none⟩ = some (.slice A B.len c) := by rw [row_cell r0]; rfl
        have f5 : w3.cell? ⟨w.heap.size, 5, none⟩ = some (.slice A' E.len c') := by rw [row_cell r0]; rfl
        have HZ3 := Lib.hid hz3
        have G1 := Lib.hid f1
        have G2 := Lib.hid f2
        have R0 := Lib.hid r0
        have R1 := Lib.hid r1
        have G4 := Lib.hid (show (((w2.alloc (.cells #[.int .i64 11, .int .i64 x, .int .i64 y, .int .i64 n, .slice A B.len c, .slice A' E.len c'] 36)).alloc (.cells #[.int .i64 r] 3))).cell? ⟨w.heap.size, 4, none⟩ = some (.slice A B.len c) from by rw [hw3]; exact f4)
        clear r0 r1 hw3 hz3 f1 f2 f4
        have g4 := G4.out
        go_wp2_with fail
        clear g4 G4
        rw [HW3.out]
        have f1 := G1.out
        have f2 := G2.out
        refine (containsBad B (d - 1) r A B.len c N (w.heap.size + 1) (w2.heap.size + 1) m w3 HM.out (by omega) (sB.below (hbw3.mono hN)) (by have := hbw3.size; omega) (by rw [f1, Int.sub_add_cancel]) f2 (by have := HZ3.out; omega) (by have := HZ3.out; omega) (by omega) (by omega) (by omega) (by omega)).mono ?_
        rintro e w4 ⟨rfl, hb4⟩
        rw [H1.out]
        have hz4 := hb4.size
        have hbw4 := hbw3.trans (hb4.mono hbw3.size)
        have g1 : w4.cell? ⟨w.heap.size + 1, 0, none⟩ = some (.int .i64 d) := by rw [hb4.cell (by have := HZ3.out; show w.heap.size + 1 < _; omega)]; exact f1
        have g2 : w4.cell? ⟨w2.heap.size + 1, 0, none⟩ = some (.int .i64 r) := by rw [hb4.cell (by have := HZ3.out; show w2.heap.size + 1 < _; omega)]; exact f2
        have g5 : w4.cell? ⟨w.heap.size, 5, none⟩ = some (.slice A' E.len c') := by rw [hb4.cell (by have := HZ3.out; show w.heap.size < _; omega)]; exact f5
        clear hb4 f1 f2 f5
        go_wp2_with fail
        refine (containsBad E (d - 1) r A' E.len c' N (w.heap.size + 1) (w2.heap.size + 1) m w4 HM.out (by omega) (sE.below (hbw4.mono hN)) (by have := hbw4.size; omega) (by rw [g1, Int.sub_add_cancel]) g2 (by have := HZ3.out; omega) (by have := HZ3.out; omega) (by omega) (by omega) (by omega) (by omega)).mono ?_
        rintro e w5 ⟨rfl, hb5⟩
        go_wp2_with fail
        go_ret
        exact ⟨retB H.out.symm, hbw4.trans (hb5.mono hbw4.size)⟩
end Go.Proofs.YtnfnjhbaaefbpaaGreatDoor
