/- The program's StmtOk, kind by kind, given what it says of what is within. -/
import Derived.Test.YtkiekabfmdcemaaOkBox
namespace Go.Proofs.Ytkiekabfmdcemaa
open Go.ChangeShapes Go.WideShapes Go.ChangeAt Go.RowKit

set_option maxRecDepth 100000 in
set_option maxHeartbeats 4000000 in
theorem stmtOk_signal (m : Nat) (hm : StmtSays m) (x y n d r : Int) (B E : SL) (A A' : Option Addr) (c c' N : Nat) (w : World) (hlt : B.size + E.size < m + 1) (sB : Sl w N B A B.len c) (sE : Sl w N E A' E.len c') (hN : N ≤ w.heap.size) (hd1 : 1 ≤ d) (hd3 : d ≤ 3) (hr0 : -1 ≤ r) (hr1 : r ≤ 1) :
    Calls Try.prog 73 #[.agg #[.int .i64 10, .int .i64 x, .int .i64 y, .int .i64 n, .slice A B.len c, .slice A' E.len c'], .int .i64 d, .int .i64 r] w fun e w' => e = .returned (.bool (okS 10 x y n B E d r)) ∧ Below w.heap.size w w' := by
  have HM := Lib.hid hm
  clear hm
  cases hfit : fitB 10 x y n B.len E.len r
  · have H := Lib.hid (okS_fit (d := d) hfit)
    have HF := Lib.hid hfit
    clear hfit
    by_cases hr : r = -1
    · subst hr
      go_enter Try.func73, Try.ntmps73
      go_wp2_with fail
      refine (kindOf_signal x y n _ _ _).mono ?_
      rintro e w1 ⟨rfl, hb1⟩
      obtain ⟨hz1, hbw1, k0, k1, k2, kf⟩ := box3 hb1
      have q0 := k0 0; have q1 := k0 1; have q4 := k0 4; have q5 := k0 5
      simp at q0 q1 q4 q5
      clear hb1 k0
      go_wp2_with fail
      refine (fits_signal x y n (-1) A A' B.len c E.len c' _ (by omega) (by omega)).mono ?_
      rintro e w2 ⟨rfl, hb2⟩
      rw [HF.out]
      have hz2 := hb2.size
      have hbw2 := hbw1.trans (hb2.mono (by omega))
      go_wp2_with fail
      go_ret
      exact ⟨by rw [H.out]; rfl, hbw2⟩
    · have HR := Lib.hid (show roomB r = true from decide_eq_true (by omega))
      go_enter Try.func73, Try.ntmps73
      go_wp2_with fail
      refine (isRoom r _).mono ?_
      rintro e w' ⟨rfl, rfl⟩
      rw [HR.out]
      go_wp2_with fail
      refine (kindOf_signal x y n _ _ _).mono ?_
      rintro e w1 ⟨rfl, hb1⟩
      obtain ⟨hz1, hbw1, k0, k1, k2, kf⟩ := box3 hb1
      have q0 := k0 0; have q1 := k0 1; have q4 := k0 4; have q5 := k0 5
      simp at q0 q1 q4 q5
      clear hb1 k0
      go_wp2_with fail
      refine (fits_signal x y n r A A' B.len c E.len c' _ (by omega) (by omega)).mono ?_
      rintro e w2 ⟨rfl, hb2⟩
      rw [HF.out]
      have hz2 := hb2.size
      have hbw2 := hbw1.trans (hb2.mono (by omega))
      go_wp2_with fail
      go_ret
      exact ⟨by rw [H.out]; rfl, hbw2⟩
  · have HS := okS_fits hd1 hfit
    rw [show inR 10 x r = r from rfl] at HS
    have HF := Lib.hid hfit
    clear hfit
    cases hb1 : okL B (d - 1) r
    · have H := Lib.hid (show okS 10 x y n B E d r = false from by rw [HS, hb1]; rfl)
      have H1 := Lib.hid hb1
      clear HS hb1
      by_cases hr : r = -1
      · subst hr
        go_enter Try.func73, Try.ntmps73
        go_wp2_with fail
        refine (kindOf_signal x y n _ _ _).mono ?_
        rintro e w1 ⟨rfl, hb1⟩
        obtain ⟨hz1, hbw1, k0, k1, k2, kf⟩ := box3 hb1
        have q0 := k0 0; have q1 := k0 1; have q4 := k0 4; have q5 := k0 5
        simp at q0 q1 q4 q5
        clear hb1 k0
        go_wp2_with fail
        refine (fits_signal x y n (-1) A A' B.len c E.len c' _ (by omega) (by omega)).mono ?_
        rintro e w2 ⟨rfl, hb2⟩
        rw [HF.out]
        have hz2 := hb2.size
        have hbw2 := hbw1.trans (hb2.mono (by omega))
        have f1 : w2.cell? ⟨w.heap.size + 1, 0, none⟩ = some (.int .i64 d) := by rw [hb2.cell (by show w.heap.size + 1 < _; omega)]; exact k1
        have f2 : w2.cell? ⟨w.heap.size + 1 + 1, 0, none⟩ = some (.int .i64 (-1)) := by rw [hb2.cell (by show w.heap.size + 1 + 1 < _; omega)]; exact k2
        have e0 : w2.cell? ⟨w.heap.size, 0, none⟩ = some (.int .i64 10) := by rw [hb2.cell (by show w.heap.size < _; omega)]; exact q0
        have e4 : w2.cell? ⟨w.heap.size, 4, none⟩ = some (.slice A B.len c) := by rw [hb2.cell (by show w.heap.size < _; omega)]; exact q4
        have f5 : w2.cell? ⟨w.heap.size, 5, none⟩ = some (.slice A' E.len c') := by rw [hb2.cell (by show w.heap.size < _; omega)]; exact q5
        clear q0 q1 q4 q5 k1 k2 kf hb2
        go_wp2_with fail
        refine (containsBad B (d - 1) (-1) A B.len c N (w.heap.size + 1) (w.heap.size + 1 + 1) m w2 HM.out (by omega) (sB.below (hbw2.mono hN)) (by omega) (by rw [f1, Int.sub_add_cancel]) f2 (by omega) (by omega) (by omega) (by omega) (by omega) (by omega)).mono ?_
        rintro e w4 ⟨rfl, hb4⟩
        rw [H1.out]
        have hz4 := hb4.size
        have hbw4 := hbw2.trans (hb4.mono (by omega))
        go_wp2_with fail
        go_ret
        exact ⟨by rw [H.out]; rfl, hbw4⟩
      · have HR := Lib.hid (show roomB r = true from decide_eq_true (by omega))
        go_enter Try.func73, Try.ntmps73
        go_wp2_with fail
        refine (isRoom r _).mono ?_
        rintro e w' ⟨rfl, rfl⟩
        rw [HR.out]
        go_wp2_with fail
        refine (kindOf_signal x y n _ _ _).mono ?_
        rintro e w1 ⟨rfl, hb1⟩
        obtain ⟨hz1, hbw1, k0, k1, k2, kf⟩ := box3 hb1
        have q0 := k0 0; have q1 := k0 1; have q4 := k0 4; have q5 := k0 5
        simp at q0 q1 q4 q5
        clear hb1 k0
        go_wp2_with fail
        refine (fits_signal x y n r A A' B.len c E.len c' _ (by omega) (by omega)).mono ?_
        rintro e w2 ⟨rfl, hb2⟩
        rw [HF.out]
        have hz2 := hb2.size
        have hbw2 := hbw1.trans (hb2.mono (by omega))
        have f1 : w2.cell? ⟨w.heap.size + 1, 0, none⟩ = some (.int .i64 d) := by rw [hb2.cell (by show w.heap.size + 1 < _; omega)]; exact k1
        have f2 : w2.cell? ⟨w.heap.size + 1 + 1, 0, none⟩ = some (.int .i64 r) := by rw [hb2.cell (by show w.heap.size + 1 + 1 < _; omega)]; exact k2
        have e0 : w2.cell? ⟨w.heap.size, 0, none⟩ = some (.int .i64 10) := by rw [hb2.cell (by show w.heap.size < _; omega)]; exact q0
        have e4 : w2.cell? ⟨w.heap.size, 4, none⟩ = some (.slice A B.len c) := by rw [hb2.cell (by show w.heap.size < _; omega)]; exact q4
        have f5 : w2.cell? ⟨w.heap.size, 5, none⟩ = some (.slice A' E.len c') := by rw [hb2.cell (by show w.heap.size < _; omega)]; exact q5
        clear q0 q1 q4 q5 k1 k2 kf hb2
        go_wp2_with fail
        refine (containsBad B (d - 1) r A B.len c N (w.heap.size + 1) (w.heap.size + 1 + 1) m w2 HM.out (by omega) (sB.below (hbw2.mono hN)) (by omega) (by rw [f1, Int.sub_add_cancel]) f2 (by omega) (by omega) (by omega) (by omega) (by omega) (by omega)).mono ?_
        rintro e w4 ⟨rfl, hb4⟩
        rw [H1.out]
        have hz4 := hb4.size
        have hbw4 := hbw2.trans (hb4.mono (by omega))
        go_wp2_with fail
        go_ret
        exact ⟨by rw [H.out]; rfl, hbw4⟩
    · have H := Lib.hid (show okS 10 x y n B E d r = okL E (d - 1) r from by rw [HS, hb1]; rfl)
      have H1 := Lib.hid hb1
      clear HS hb1
      by_cases hr : r = -1
      · subst hr
        go_enter Try.func73, Try.ntmps73
        go_wp2_with fail
        refine (kindOf_signal x y n _ _ _).mono ?_
        rintro e w1 ⟨rfl, hb1⟩
        obtain ⟨hz1, hbw1, k0, k1, k2, kf⟩ := box3 hb1
        have q0 := k0 0; have q1 := k0 1; have q4 := k0 4; have q5 := k0 5
        simp at q0 q1 q4 q5
        clear hb1 k0
        go_wp2_with fail
        refine (fits_signal x y n (-1) A A' B.len c E.len c' _ (by omega) (by omega)).mono ?_
        rintro e w2 ⟨rfl, hb2⟩
        rw [HF.out]
        have hz2 := hb2.size
        have hbw2 := hbw1.trans (hb2.mono (by omega))
        have f1 : w2.cell? ⟨w.heap.size + 1, 0, none⟩ = some (.int .i64 d) := by rw [hb2.cell (by show w.heap.size + 1 < _; omega)]; exact k1
        have f2 : w2.cell? ⟨w.heap.size + 1 + 1, 0, none⟩ = some (.int .i64 (-1)) := by rw [hb2.cell (by show w.heap.size + 1 + 1 < _; omega)]; exact k2
        have e0 : w2.cell? ⟨w.heap.size, 0, none⟩ = some (.int .i64 10) := by rw [hb2.cell (by show w.heap.size < _; omega)]; exact q0
        have e4 : w2.cell? ⟨w.heap.size, 4, none⟩ = some (.slice A B.len c) := by rw [hb2.cell (by show w.heap.size < _; omega)]; exact q4
        have f5 : w2.cell? ⟨w.heap.size, 5, none⟩ = some (.slice A' E.len c') := by rw [hb2.cell (by show w.heap.size < _; omega)]; exact q5
        clear q0 q1 q4 q5 k1 k2 kf hb2
        go_wp2_with fail
        refine (containsBad B (d - 1) (-1) A B.len c N (w.heap.size + 1) (w.heap.size + 1 + 1) m w2 HM.out (by omega) (sB.below (hbw2.mono hN)) (by omega) (by rw [f1, Int.sub_add_cancel]) f2 (by omega) (by omega) (by omega) (by omega) (by omega) (by omega)).mono ?_
        rintro e w4 ⟨rfl, hb4⟩
        rw [H1.out]
        have hz4 := hb4.size
        have hbw4 := hbw2.trans (hb4.mono (by omega))
        have g1 : w4.cell? ⟨w.heap.size + 1, 0, none⟩ = some (.int .i64 d) := by rw [hb4.cell (by show w.heap.size + 1 < _; omega)]; exact f1
        have g2 : w4.cell? ⟨w.heap.size + 1 + 1, 0, none⟩ = some (.int .i64 (-1)) := by rw [hb4.cell (by show w.heap.size + 1 + 1 < _; omega)]; exact f2
        have g5 : w4.cell? ⟨w.heap.size, 5, none⟩ = some (.slice A' E.len c') := by rw [hb4.cell (by show w.heap.size < _; omega)]; exact f5
        clear hb4 f1 f2 f5
        go_wp2_with fail
        refine (containsBad E (d - 1) (-1) A' E.len c' N (w.heap.size + 1) (w.heap.size + 1 + 1) m w4 HM.out (by omega) (sE.below (hbw4.mono hN)) (by omega) (by rw [g1, Int.sub_add_cancel]) g2 (by omega) (by omega) (by omega) (by omega) (by omega) (by omega)).mono ?_
        rintro e w5 ⟨rfl, hb5⟩
        go_wp2_with fail
        go_ret
        exact ⟨retB H.out.symm, hbw4.trans (hb5.mono (by omega))⟩
      · have HR := Lib.hid (show roomB r = true from decide_eq_true (by omega))
        go_enter Try.func73, Try.ntmps73
        go_wp2_with fail
        refine (isRoom r _).mono ?_
        rintro e w' ⟨rfl, rfl⟩
        rw [HR.out]
        go_wp2_with fail
        refine (kindOf_signal x y n _ _ _).mono ?_
        rintro e w1 ⟨rfl, hb1⟩
        obtain ⟨hz1, hbw1, k0, k1, k2, kf⟩ := box3 hb1
        have q0 := k0 0; have q1 := k0 1; have q4 := k0 4; have q5 := k0 5
        simp at q0 q1 q4 q5
        clear hb1 k0
        go_wp2_with fail
        refine (fits_signal x y n r A A' B.len c E.len c' _ (by omega) (by omega)).mono ?_
        rintro e w2 ⟨rfl, hb2⟩
        rw [HF.out]
        have hz2 := hb2.size
        have hbw2 := hbw1.trans (hb2.mono (by omega))
        have f1 : w2.cell? ⟨w.heap.size + 1, 0, none⟩ = some (.int .i64 d) := by rw [hb2.cell (by show w.heap.size + 1 < _; omega)]; exact k1
        have f2 : w2.cell? ⟨w.heap.size + 1 + 1, 0, none⟩ = some (.int .i64 r) := by rw [hb2.cell (by show w.heap.size + 1 + 1 < _; omega)]; exact k2
        have e0 : w2.cell? ⟨w.heap.size, 0, none⟩ = some (.int .i64 10) := by rw [hb2.cell (by show w.heap.size < _; omega)]; exact q0
        have e4 : w2.cell? ⟨w.heap.size, 4, none⟩ = some (.slice A B.len c) := by rw [hb2.cell (by show w.heap.size < _; omega)]; exact q4
        have f5 : w2.cell? ⟨w.heap.size, 5, none⟩ = some (.slice A' E.len c') := by rw [hb2.cell (by show w.heap.size < _; omega)]; exact q5
        clear q0 q1 q4 q5 k1 k2 kf hb2
        go_wp2_with fail
        refine (containsBad B (d - 1) r A B.len c N (w.heap.size + 1) (w.heap.size + 1 + 1) m w2 HM.out (by omega) (sB.below (hbw2.mono hN)) (by omega) (by rw [f1, Int.sub_add_cancel]) f2 (by omega) (by omega) (by omega) (by omega) (by omega) (by omega)).mono ?_
        rintro e w4 ⟨rfl, hb4⟩
        rw [H1.out]
        have hz4 := hb4.size
        have hbw4 := hbw2.trans (hb4.mono (by omega))
        have g1 : w4.cell? ⟨w.heap.size + 1, 0, none⟩ = some (.int .i64 d) := by rw [hb4.cell (by show w.heap.size + 1 < _; omega)]; exact f1
        have g2 : w4.cell? ⟨w.heap.size + 1 + 1, 0, none⟩ = some (.int .i64 r) := by rw [hb4.cell (by show w.heap.size + 1 + 1 < _; omega)]; exact f2
        have g5 : w4.cell? ⟨w.heap.size, 5, none⟩ = some (.slice A' E.len c') := by rw [hb4.cell (by show w.heap.size < _; omega)]; exact f5
        clear hb4 f1 f2 f5
        go_wp2_with fail
        refine (containsBad E (d - 1) r A' E.len c' N (w.heap.size + 1) (w.heap.size + 1 + 1) m w4 HM.out (by omega) (sE.below (hbw4.mono hN)) (by omega) (by rw [g1, Int.sub_add_cancel]) g2 (by omega) (by omega) (by omega) (by omega) (by omega) (by omega)).mono ?_
        rintro e w5 ⟨rfl, hb5⟩
        go_wp2_with fail
        go_ret
        exact ⟨retB H.out.symm, hbw4.trans (hb5.mono (by omega))⟩

set_option maxRecDepth 100000 in
set_option maxHeartbeats 4000000 in
theorem stmtOk_yield (m : Nat) (hm : StmtSays m) (x y n d r : Int) (B E : SL) (A A' : Option Addr) (c c' N : Nat) (w : World) (hlt : B.size + E.size < m + 1) (sB : Sl w N B A B.len c) (sE : Sl w N E A' E.len c') (hN : N ≤ w.heap.size) (hd1 : 1 ≤ d) (hd3 : d ≤ 3) (hr0 : -1 ≤ r) (hr1 : r ≤ 1) :
    Calls Try.prog 73 #[.agg #[.int .i64 11, .int .i64 x, .int .i64 y, .int .i64 n, .slice A B.len c, .slice A' E.len c'], .int .i64 d, .int .i64 r] w fun e w' => e = .returned (.bool (okS 11 x y n B E d r)) ∧ Below w.heap.size w w' := by
  have HM := Lib.hid hm
  clear hm
  cases hfit : fitB 11 x y n B.len E.len r
  · have H := Lib.hid (okS_fit (d := d) hfit)
    have HF := Lib.hid hfit
    clear hfit
    by_cases hr : r = -1
    · subst hr
      go_enter Try.func73, Try.ntmps73
      go_wp2_with fail
      refine (kindOf_yield x y n _ _ _).mono ?_
      rintro e w1 ⟨rfl, hb1⟩
      obtain ⟨hz1, hbw1, k0, k1, k2, kf⟩ := box3 hb1
      have q0 := k0 0; have q1 := k0 1; have q4 := k0 4; have q5 := k0 5
      simp at q0 q1 q4 q5
      clear hb1 k0
      go_wp2_with fail
      refine (fits_yield x y n (-1) A A' B.len c E.len c' _ (by omega) (by omega)).mono ?_
      rintro e w2 ⟨rfl, hb2⟩
      rw [HF.out]
      have hz2 := hb2.size
      have hbw2 := hbw1.trans (hb2.mono (by omega))
      go_wp2_with fail
      go_ret
      exact ⟨by rw [H.out]; rfl, hbw2⟩
    · have HR := Lib.hid (show roomB r = true from decide_eq_true (by omega))
      go_enter Try.func73, Try.ntmps73
      go_wp2_with fail
      refine (isRoom r _).mono ?_
      rintro e w' ⟨rfl, rfl⟩
      rw [HR.out]
      go_wp2_with fail
      refine (kindOf_yield x y n _ _ _).mono ?_
      rintro e w1 ⟨rfl, hb1⟩
      obtain ⟨hz1, hbw1, k0, k1, k2, kf⟩ := box3 hb1
      have q0 := k0 0; have q1 := k0 1; have q4 := k0 4; have q5 := k0 5
      simp at q0 q1 q4 q5
      clear hb1 k0
      go_wp2_with fail
      refine (fits_yield x y n r A A' B.len c E.len c' _ (by omega) (by omega)).mono ?_
      rintro e w2 ⟨rfl, hb2⟩
      rw [HF.out]
      have hz2 := hb2.size
      have hbw2 := hbw1.trans (hb2.mono (by omega))
      go_wp2_with fail
      go_ret
      exact ⟨by rw [H.out]; rfl, hbw2⟩
  · have HS := okS_fits hd1 hfit
    rw [show inR 11 x r = r from rfl] at HS
    have HF := Lib.hid hfit
    clear hfit
    cases hb1 : okL B (d - 1) r
    · have H := Lib.hid (show okS 11 x y n B E d r = false from by rw [HS, hb1]; rfl)
      have H1 := Lib.hid hb1
      clear HS hb1
      by_cases hr : r = -1
      · subst hr
        go_enter Try.func73, Try.ntmps73
        go_wp2_with fail
        refine (kindOf_yield x y n _ _ _).mono ?_
        rintro e w1 ⟨rfl, hb1⟩
        obtain ⟨hz1, hbw1, k0, k1, k2, kf⟩ := box3 hb1
        have q0 := k0 0; have q1 := k0 1; have q4 := k0 4; have q5 := k0 5
        simp at q0 q1 q4 q5
        clear hb1 k0
        go_wp2_with fail
        refine (fits_yield x y n (-1) A A' B.len c E.len c' _ (by omega) (by omega)).mono ?_
        rintro e w2 ⟨rfl, hb2⟩
        rw [HF.out]
        have hz2 := hb2.size
        have hbw2 := hbw1.trans (hb2.mono (by omega))
        have f1 : w2.cell? ⟨w.heap.size + 1, 0, none⟩ = some (.int .i64 d) := by rw [hb2.cell (by show w.heap.size + 1 < _; omega)]; exact k1
        have f2 : w2.cell? ⟨w.heap.size + 1 + 1, 0, none⟩ = some (.int .i64 (-1)) := by rw [hb2.cell (by show w.heap.size + 1 + 1 < _; omega)]; exact k2
        have e0 : w2.cell? ⟨w.heap.size, 0, none⟩ = some (.int .i64 11) := by rw [hb2.cell (by show w.heap.size < _; omega)]; exact q0
        have e4 : w2.cell? ⟨w.heap.size, 4, none⟩ = some (.slice A B.len c) := by rw [hb2.cell (by show w.heap.size < _; omega)]; exact q4
        have f5 : w2.cell? ⟨w.heap.size, 5, none⟩ = some (.slice A' E.len c') := by rw [hb2.cell (by show w.heap.size < _; omega)]; exact q5
        clear q0 q1 q4 q5 k1 k2 kf hb2
        go_wp2_with fail
        refine (containsBad B (d - 1) (-1) A B.len c N (w.heap.size + 1) (w.heap.size + 1 + 1) m w2 HM.out (by omega) (sB.below (hbw2.mono hN)) (by omega) (by rw [f1, Int.sub_add_cancel]) f2 (by omega) (by omega) (by omega) (by omega) (by omega) (by omega)).mono ?_
        rintro e w4 ⟨rfl, hb4⟩
        rw [H1.out]
        have hz4 := hb4.size
        have hbw4 := hbw2.trans (hb4.mono (by omega))
        go_wp2_with fail
        go_ret
        exact ⟨by rw [H.out]; rfl, hbw4⟩
      · have HR := Lib.hid (show roomB r = true from decide_eq_true (by omega))
        go_enter Try.func73, Try.ntmps73
        go_wp2_with fail
        refine (isRoom r _).mono ?_
        rintro e w' ⟨rfl, rfl⟩
        rw [HR.out]
        go_wp2_with fail
        refine (kindOf_yield x y n _ _ _).mono ?_
        rintro e w1 ⟨rfl, hb1⟩
        obtain ⟨hz1, hbw1, k0, k1, k2, kf⟩ := box3 hb1
        have q0 := k0 0; have q1 := k0 1; have q4 := k0 4; have q5 := k0 5
        simp at q0 q1 q4 q5
        clear hb1 k0
        go_wp2_with fail
        refine (fits_yield x y n r A A' B.len c E.len c' _ (by omega) (by omega)).mono ?_
        rintro e w2 ⟨rfl, hb2⟩
        rw [HF.out]
        have hz2 := hb2.size
        have hbw2 := hbw1.trans (hb2.mono (by omega))
        have f1 : w2.cell? ⟨w.heap.size + 1, 0, none⟩ = some (.int .i64 d) := by rw [hb2.cell (by show w.heap.size + 1 < _; omega)]; exact k1
        have f2 : w2.cell? ⟨w.heap.size + 1 + 1, 0, none⟩ = some (.int .i64 r) := by rw [hb2.cell (by show w.heap.size + 1 + 1 < _; omega)]; exact k2
        have e0 : w2.cell? ⟨w.heap.size, 0, none⟩ = some (.int .i64 11) := by rw [hb2.cell (by show w.heap.size < _; omega)]; exact q0
        have e4 : w2.cell? ⟨w.heap.size, 4, none⟩ = some (.slice A B.len c) := by rw [hb2.cell (by show w.heap.size < _; omega)]; exact q4
        have f5 : w2.cell? ⟨w.heap.size, 5, none⟩ = some (.slice A' E.len c') := by rw [hb2.cell (by show w.heap.size < _; omega)]; exact q5
        clear q0 q1 q4 q5 k1 k2 kf hb2
        go_wp2_with fail
        refine (containsBad B (d - 1) r A B.len c N (w.heap.size + 1) (w.heap.size + 1 + 1) m w2 HM.out (by omega) (sB.below (hbw2.mono hN)) (by omega) (by rw [f1, Int.sub_add_cancel]) f2 (by omega) (by omega) (by omega) (by omega) (by omega) (by omega)).mono ?_
        rintro e w4 ⟨rfl, hb4⟩
        rw [H1.out]
        have hz4 := hb4.size
        have hbw4 := hbw2.trans (hb4.mono (by omega))
        go_wp2_with fail
        go_ret
        exact ⟨by rw [H.out]; rfl, hbw4⟩
    · have H := Lib.hid (show okS 11 x y n B E d r = okL E (d - 1) r from by rw [HS, hb1]; rfl)
      have H1 := Lib.hid hb1
      clear HS hb1
      by_cases hr : r = -1
      · subst hr
        go_enter Try.func73, Try.ntmps73
        go_wp2_with fail
        refine (kindOf_yield x y n _ _ _).mono ?_
        rintro e w1 ⟨rfl, hb1⟩
        obtain ⟨hz1, hbw1, k0, k1, k2, kf⟩ := box3 hb1
        have q0 := k0 0; have q1 := k0 1; have q4 := k0 4; have q5 := k0 5
        simp at q0 q1 q4 q5
        clear hb1 k0
        go_wp2_with fail
        refine (fits_yield x y n (-1) A A' B.len c E.len c' _ (by omega) (by omega)).mono ?_
        rintro e w2 ⟨rfl, hb2⟩
        rw [HF.out]
        have hz2 := hb2.size
        have hbw2 := hbw1.trans (hb2.mono (by omega))
        have f1 : w2.cell? ⟨w.heap.size + 1, 0, none⟩ = some (.int .i64 d) := by rw [hb2.cell (by show w.heap.size + 1 < _; omega)]; exact k1
        have f2 : w2.cell? ⟨w.heap.size + 1 + 1, 0, none⟩ = some (.int .i64 (-1)) := by rw [hb2.cell (by show w.heap.size + 1 + 1 < _; omega)]; exact k2
        have e0 : w2.cell? ⟨w.heap.size, 0, none⟩ = some (.int .i64 11) := by rw [hb2.cell (by show w.heap.size < _; omega)]; exact q0
        have e4 : w2.cell? ⟨w.heap.size, 4, none⟩ = some (.slice A B.len c) := by rw [hb2.cell (by show w.heap.size < _; omega)]; exact q4
        have f5 : w2.cell? ⟨w.heap.size, 5, none⟩ = some (.slice A' E.len c') := by rw [hb2.cell (by show w.heap.size < _; omega)]; exact q5
        clear q0 q1 q4 q5 k1 k2 kf hb2
        go_wp2_with fail
        refine (containsBad B (d - 1) (-1) A B.len c N (w.heap.size + 1) (w.heap.size + 1 + 1) m w2 HM.out (by omega) (sB.below (hbw2.mono hN)) (by omega) (by rw [f1, Int.sub_add_cancel]) f2 (by omega) (by omega) (by omega) (by omega) (by omega) (by omega)).mono ?_
        rintro e w4 ⟨rfl, hb4⟩
        rw [H1.out]
        have hz4 := hb4.size
        have hbw4 := hbw2.trans (hb4.mono (by omega))
        have g1 : w4.cell? ⟨w.heap.size + 1, 0, none⟩ = some (.int .i64 d) := by rw [hb4.cell (by show w.heap.size + 1 < _; omega)]; exact f1
        have g2 : w4.cell? ⟨w.heap.size + 1 + 1, 0, none⟩ = some (.int .i64 (-1)) := by rw [hb4.cell (by show w.heap.size + 1 + 1 < _; omega)]; exact f2
        have g5 : w4.cell? ⟨w.heap.size, 5, none⟩ = some (.slice A' E.len c') := by rw [hb4.cell (by show w.heap.size < _; omega)]; exact f5
        clear hb4 f1 f2 f5
        go_wp2_with fail
        refine (containsBad E (d - 1) (-1) A' E.len c' N (w.heap.size + 1) (w.heap.size + 1 + 1) m w4 HM.out (by omega) (sE.below (hbw4.mono hN)) (by omega) (by rw [g1, Int.sub_add_cancel]) g2 (by omega) (by omega) (by omega) (by omega) (by omega) (by omega)).mono ?_
        rintro e w5 ⟨rfl, hb5⟩
        go_wp2_with fail
        go_ret
        exact ⟨retB H.out.symm, hbw4.trans (hb5.mono (by omega))⟩
      · have HR := Lib.hid (show roomB r = true from decide_eq_true (by omega))
        go_enter Try.func73, Try.ntmps73
        go_wp2_with fail
        refine (isRoom r _).mono ?_
        rintro e w' ⟨rfl, rfl⟩
        rw [HR.out]
        go_wp2_with fail
        refine (kindOf_yield x y n _ _ _).mono ?_
        rintro e w1 ⟨rfl, hb1⟩
        obtain ⟨hz1, hbw1, k0, k1, k2, kf⟩ := box3 hb1
        have q0 := k0 0; have q1 := k0 1; have q4 := k0 4; have q5 := k0 5
        simp at q0 q1 q4 q5
        clear hb1 k0
        go_wp2_with fail
        refine (fits_yield x y n r A A' B.len c E.len c' _ (by omega) (by omega)).mono ?_
        rintro e w2 ⟨rfl, hb2⟩
        rw [HF.out]
        have hz2 := hb2.size
        have hbw2 := hbw1.trans (hb2.mono (by omega))
        have f1 : w2.cell? ⟨w.heap.size + 1, 0, none⟩ = some (.int .i64 d) := by rw [hb2.cell (by show w.heap.size + 1 < _; omega)]; exact k1
        have f2 : w2.cell? ⟨w.heap.size + 1 + 1, 0, none⟩ = some (.int .i64 r) := by rw [hb2.cell (by show w.heap.size + 1 + 1 < _; omega)]; exact k2
        have e0 : w2.cell? ⟨w.heap.size, 0, none⟩ = some (.int .i64 11) := by rw [hb2.cell (by show w.heap.size < _; omega)]; exact q0
        have e4 : w2.cell? ⟨w.heap.size, 4, none⟩ = some (.slice A B.len c) := by rw [hb2.cell (by show w.heap.size < _; omega)]; exact q4
        have f5 : w2.cell? ⟨w.heap.size, 5, none⟩ = some (.slice A' E.len c') := by rw [hb2.cell (by show w.heap.size < _; omega)]; exact q5
        clear q0 q1 q4 q5 k1 k2 kf hb2
        go_wp2_with fail
        refine (containsBad B (d - 1) r A B.len c N (w.heap.size + 1) (w.heap.size + 1 + 1) m w2 HM.out (by omega) (sB.below (hbw2.mono hN)) (by omega) (by rw [f1, Int.sub_add_cancel]) f2 (by omega) (by omega) (by omega) (by omega) (by omega) (by omega)).mono ?_
        rintro e w4 ⟨rfl, hb4⟩
        rw [H1.out]
        have hz4 := hb4.size
        have hbw4 := hbw2.trans (hb4.mono (by omega))
        have g1 : w4.cell? ⟨w.heap.size + 1, 0, none⟩ = some (.int .i64 d) := by rw [hb4.cell (by show w.heap.size + 1 < _; omega)]; exact f1
        have g2 : w4.cell? ⟨w.heap.size + 1 + 1, 0, none⟩ = some (.int .i64 r) := by rw [hb4.cell (by show w.heap.size + 1 + 1 < _; omega)]; exact f2
        have g5 : w4.cell? ⟨w.heap.size, 5, none⟩ = some (.slice A' E.len c') := by rw [hb4.cell (by show w.heap.size < _; omega)]; exact f5
        clear hb4 f1 f2 f5
        go_wp2_with fail
        refine (containsBad E (d - 1) r A' E.len c' N (w.heap.size + 1) (w.heap.size + 1 + 1) m w4 HM.out (by omega) (sE.below (hbw4.mono hN)) (by omega) (by rw [g1, Int.sub_add_cancel]) g2 (by omega) (by omega) (by omega) (by omega) (by omega) (by omega)).mono ?_
        rintro e w5 ⟨rfl, hb5⟩
        go_wp2_with fail
        go_ret
        exact ⟨retB H.out.symm, hbw4.trans (hb5.mono (by omega))⟩
end Go.Proofs.Ytkiekabfmdcemaa
