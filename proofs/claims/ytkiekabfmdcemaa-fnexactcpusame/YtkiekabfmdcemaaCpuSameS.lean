/- spec.CpuSame (written by tools/gen_cpusame3.py). -/
import Derived.Test.YtkiekabfmdcemaaCpuRec
import Derived.Test.YtkiekabfmdcemaaListsSame
import Derived.Test.YtkiekabfmdcemaaSaySame
namespace Go.Proofs.Ytkiekabfmdcemaa
open Go.ChangeShapes Go.WideShapes Go.ChangeAt Go.RowKit

set_option maxRecDepth 100000 in
set_option maxHeartbeats 4000000 in
theorem specCpuSame_ {X0 Y0 : List CtxP} {X1 Y1 : List Int} {X2 Y2 : List Int} {X3 Y3 : List (List Int)} {X4 Y4 : List (List Int)} {X5 Y5 : List Int} {X6 Y6 : Int} {X7 Y7 : Int} {X8 Y8 : List Int} {X9 Y9 : List Int} {X10 Y10 : List Int} {A0 B0 : Option Addr} {c0 d0 : Nat} {A1 B1 : Option Addr} {c1 d1 : Nat} {A2 B2 : Option Addr} {c2 d2 : Nat} {A3 B3 : Option Addr} {c3 d3 : Nat} {A4 B4 : Option Addr} {c4 d4 : Nat} {A5 B5 : Option Addr} {c5 d5 : Nat} {A8 B8 : Option Addr} {c8 d8 : Nat} {A9 B9 : Option Addr} {c9 d9 : Nat} {A10 B10 : Option Addr} {c10 d10 : Nat} {S T : Nat → Prop} {w : World} (f0 : Recs ctxShape w S X0 A0 X0.length c0) (g0 : Recs ctxShape w T Y0 B0 Y0.length d0) (f1 : Fl w S 1 X1 A1 X1.length c1) (g1 : Fl w T 1 Y1 B1 Y1.length d1) (f2 : Fl w S 1 X2 A2 X2.length c2) (g2 : Fl w T 1 Y2 B2 Y2.length d2) (f3 : Recs issShape w S X3 A3 X3.length c3) (g3 : Recs issShape w T Y3 B3 Y3.length d3) (f4 : Recs issShape w S X4 A4 X4.length c4) (g4 : Recs issShape w T Y4 B4 Y4.length d4) (f5 : Fl w S 1 X5 A5 X5.length c5) (g5 : Fl w T 1 Y5 B5 Y5.length d5) (f8 : Fl w S 2 X8 A8 (X8.length / 2) c8) (g8 : Fl w T 2 Y8 B8 (Y8.length / 2) d8) (f9 : Fl w S 1 X9 A9 X9.length c9) (g9 : Fl w T 1 Y9 B9 Y9.length d9) (f10 : Fl w S 1 X10 A10 X10.length c10) (g10 : Fl w T 1 Y10 B10 Y10.length d10) :
    Calls Try.prog 8 #[.agg #[.slice A0 X0.length c0, .slice A1 X1.length c1, .slice A2 X2.length c2, .slice A3 X3.length c3, .slice A4 X4.length c4, .slice A5 X5.length c5, .int .i64 X6, .int .i64 X7, .slice A8 (X8.length / 2) c8, .slice A9 X9.length c9, .slice A10 X10.length c10], .agg #[.slice B0 Y0.length d0, .slice B1 Y1.length d1, .slice B2 Y2.length d2, .slice B3 Y3.length d3, .slice B4 Y4.length d4, .slice B5 Y5.length d5, .int .i64 Y6, .int .i64 Y7, .slice B8 (Y8.length / 2) d8, .slice B9 Y9.length d9, .slice B10 Y10.length d10]] w
      fun e w' => e = .returned (.bool (decide ((⟨X0, X1, X2, X3, X4, X5, X6, X7, X8, X9, X10⟩ : CpuP) = ⟨Y0, Y1, Y2, Y3, Y4, Y5, Y6, Y7, Y8, Y9, Y10⟩))) ∧ Below w.heap.size w w' := by
  have b0 : Below w.heap.size w ((w.alloc (.cells #[.slice A0 X0.length c0, .slice A1 X1.length c1, .slice A2 X2.length c2, .slice A3 X3.length c3, .slice A4 X4.length c4, .slice A5 X5.length c5, .int .i64 X6, .int .i64 X7, .slice A8 (X8.length / 2) c8, .slice A9 X9.length c9, .slice A10 X10.length c10] 33)).alloc (.cells #[.slice B0 Y0.length d0, .slice B1 Y1.length d1, .slice B2 Y2.length d2, .slice B3 Y3.length d3, .slice B4 Y4.length d4, .slice B5 Y5.length d5, .int .i64 Y6, .int .i64 Y7, .slice B8 (Y8.length / 2) d8, .slice B9 Y9.length d9, .slice B10 Y10.length d10] 33)) := ((Below.refl _ _).alloc (Nat.le_refl _) _).alloc (by simp) _
  have P0 := Lib.hid (row_first w #[.slice A0 X0.length c0, .slice A1 X1.length c1, .slice A2 X2.length c2, .slice A3 X3.length c3, .slice A4 X4.length c4, .slice A5 X5.length c5, .int .i64 X6, .int .i64 X7, .slice A8 (X8.length / 2) c8, .slice A9 X9.length c9, .slice A10 X10.length c10] #[.slice B0 Y0.length d0, .slice B1 Y1.length d1, .slice B2 Y2.length d2, .slice B3 Y3.length d3, .slice B4 Y4.length d4, .slice B5 Y5.length d5, .int .i64 Y6, .int .i64 Y7, .slice B8 (Y8.length / 2) d8, .slice B9 Y9.length d9, .slice B10 Y10.length d10] 33 33)
  have Q0 := Lib.hid (row_second w #[.slice A0 X0.length c0, .slice A1 X1.length c1, .slice A2 X2.length c2, .slice A3 X3.length c3, .slice A4 X4.length c4, .slice A5 X5.length c5, .int .i64 X6, .int .i64 X7, .slice A8 (X8.length / 2) c8, .slice A9 X9.length c9, .slice A10 X10.length c10] #[.slice B0 Y0.length d0, .slice B1 Y1.length d1, .slice B2 Y2.length d2, .slice B3 Y3.length d3, .slice B4 Y4.length d4, .slice B5 Y5.length d5, .int .i64 Y6, .int .i64 Y7, .slice B8 (Y8.length / 2) d8, .slice B9 Y9.length d9, .slice B10 Y10.length d10] 33 33)
  have hmax := f0.max
  have hmax' := g0.max
  by_cases h0 : ¬ X0.length = Y0.length
  · have HF := Lib.hid (show decide ((⟨X0, X1, X2, X3, X4, X5, X6, X7, X8, X9, X10⟩ : CpuP) = ⟨Y0, Y1, Y2, Y3, Y4, Y5, Y6, Y7, Y8, Y9, Y10⟩) = false from decide_eq_false (fun e => h0 (congrArg List.length (congrArg CpuP.ctxs e))))
    go_enter Try.func8, Try.ntmps8
    go_wp2
    go_ret
    exact ⟨by first | (rw [HF.out]; rfl) | rfl, b0⟩
  have E0 := Lib.hid (Decidable.not_not.1 h0)
  clear h0
  have hn1 := E0.out
  rw [← hn1] at g0 hmax' ⊢
  rw [← hn1] at b0 P0 Q0
  generalize hn : X0.length = n at *
  have HN := Lib.hid hn
  clear hn hn1 hmax' 
  by_cases h6 : ¬ X6 = Y6
  · have HF := Lib.hid (show decide ((⟨X0, X1, X2, X3, X4, X5, X6, X7, X8, X9, X10⟩ : CpuP) = ⟨Y0, Y1, Y2, Y3, Y4, Y5, Y6, Y7, Y8, Y9, Y10⟩) = false from decide_eq_false (fun e => h6 (congrArg CpuP.left e)))
    have h6' : (X6 == Y6) = false := by simpa using h6
    have h6'' : (X6 != Y6) = true := by simpa [bne] using h6
    go_enter Try.func8, Try.ntmps8
    go_wp2
    go_ret
    exact ⟨by first | (rw [HF.out]; rfl) | rfl, b0⟩
  have E6 := Lib.hid (Decidable.not_not.1 h6)
  clear h6
  have h6 := E6.out
  subst h6
  by_cases h7 : ¬ X7 = Y7
  · have HF := Lib.hid (show decide ((⟨X0, X1, X2, X3, X4, X5, X6, X7, X8, X9, X10⟩ : CpuP) = ⟨Y0, Y1, Y2, Y3, Y4, Y5, X6, Y7, Y8, Y9, Y10⟩) = false from decide_eq_false (fun e => h7 (congrArg CpuP.gap e)))
    have h7' : (X7 == Y7) = false := by simpa using h7
    have h7'' : (X7 != Y7) = true := by simpa [bne] using h7
    go_enter Try.func8, Try.ntmps8
    go_wp2
    go_ret
    exact ⟨by first | (rw [HF.out]; rfl) | rfl, b0⟩
  have E7 := Lib.hid (Decidable.not_not.1 h7)
  clear h7
  have h7 := E7.out
  subst h7
  go_enter Try.func8, Try.ntmps8
  go_wp2_with fail
  refine (l5Said (f8.later b0) (g8.later b0)).mono ?_
  rintro e w1 ⟨rfl, hb⟩
  have b1 := b0.trans (hb.mono b0.size)
  have P1 := Lib.hid (rowk hb P0.out)
  have Q1 := Lib.hid (rowk hb Q0.out)
  clear hb b0 P0 Q0
  cases hq : decide (X8 = Y8)
  · have HF := Lib.hid (show decide ((⟨X0, X1, X2, X3, X4, X5, X6, X7, X8, X9, X10⟩ : CpuP) = ⟨Y0, Y1, Y2, Y3, Y4, Y5, X6, X7, Y8, Y9, Y10⟩) = false from decide_eq_false (fun e => of_decide_eq_false hq (congrArg CpuP.said e)))
    clear hq
    go_wp2
    go_ret
    exact ⟨by first | (rw [HF.out]; rfl) | rfl, b1⟩
  have E8 := Lib.hid (of_decide_eq_true hq)
  clear hq
  go_wp2_with fail
  go_loopw [5] (fun i wr => ∃ k : Nat, k ≤ n ∧ i = .int .i64 k ∧ Go.RowKit.Hid (X0.take k = Y0.take k) ∧ Below w1.heap.size w1 wr) (fun i _ => n - (intOf i).toNat)
  case atStart => exact ⟨0, Nat.zero_le _, rfl, Lib.hid rfl, Below.refl _ _⟩
  case round =>
    obtain ⟨k, hk, rfl, HEQ, hb⟩ := hrel
    have P2 := Lib.hid (rowk hb P1.out)
    have Q2 := Lib.hid (rowk hb Q1.out)
    have b2 := b1.trans (hb.mono b1.size)
    clear P1 Q1 b1
    have cp0 : wr.cell? ⟨w.heap.size, 0, none⟩ = some (.slice A0 n c0) := by rw [row_cell P2.out]; rfl
    have cq0 : wr.cell? ⟨w.heap.size + 1, 0, none⟩ = some (.slice B0 n d0) := by rw [row_cell Q2.out]; rfl
    by_cases hlt : k < n
    · have hkL : k < X0.length := by rw [HN.out]; exact hlt
      have hkM : k < Y0.length := by rw [← E0.out]; exact hlt
      obtain ⟨a, x, A', c', hx, rfl, q0, q1, q2, q3, q4, hI⟩ := ctx_at (f0.later (by decide) b2) k hkL
      obtain ⟨b, y, B', d', hy, rfl, r0, r1, r2, r3, r4, hJ⟩ := ctx_at (g0.later (by decide) b2) k hkM
      have HX := Lib.hid hx
      have HY := Lib.hid hy
      obtain ⟨_, _, hv, fx⟩ := hI
      obtain ⟨_, _, hu, fy⟩ := hJ
      simp only [List.cons.injEq, Value.slice.injEq, true_and, and_true] at hv hu
      obtain ⟨rfl, rfl⟩ := hv
      obtain ⟨rfl, rfl⟩ := hu
      clear hx hy
      obtain ⟨xr, xp, xm, xo, xq⟩ := x
      obtain ⟨yr, yp, ym, yo, yq⟩ := y
      dsimp only at *
      have hW1 : Below wr.heap.size wr (wr.alloc (.cells #[.slice A' xr.length c', .int .i64 xp, .int .i64 xm, .int .i64 xo, .int .i64 xq] 60)) := (Below.refl _ _).alloc (Nat.le_refl _) _
      have hW2 : Below wr.heap.size wr ((wr.alloc (.cells #[.slice A' xr.length c', .int .i64 xp, .int .i64 xm, .int .i64 xo, .int .i64 xq] 60)).alloc (.cells #[.slice B' yr.length d', .int .i64 yp, .int .i64 ym, .int .i64 yo, .int .i64 yq] 60)) := hW1.alloc (by simp) _
      have U2 := Lib.hid (row_first wr #[.slice A' xr.length c', .int .i64 xp, .int .i64 xm, .int .i64 xo, .int .i64 xq] #[.slice B' yr.length d', .int .i64 yp, .int .i64 ym, .int .i64 yo, .int .i64 yq] 60 60)
      have V2 := Lib.hid (row_second wr #[.slice A' xr.length c', .int .i64 xp, .int .i64 xm, .int .i64 xo, .int .i64 xq] #[.slice B' yr.length d', .int .i64 yp, .int .i64 ym, .int .i64 yo, .int .i64 yq] 60 60)
      have cr0 := cell_later cq0 hW1
      have s0 := cell_later r0 hW1
      have s1 := cell_later r1 hW1
      have s2 := cell_later r2 hW1
      have s3 := cell_later r3 hW1
      have s4 := cell_later r4 hW1
      have HW2 := Lib.hid hW2
      clear hW1 hW2
      go_wp2_with fail
      refine (l3Ints (fx.later HW2.out) (fy.later HW2.out)).mono ?_
      rintro e w3 ⟨rfl, hb3⟩
      have U3 := rowk hb3 U2.out
      have V3 := rowk hb3 V2.out
      have bw3 := HW2.out.trans (hb3.mono HW2.out.size)
      have b3 := b2.trans (bw3.mono b2.size)
      have bb3 := hb.trans (bw3.mono hb.size)
      clear cp0 cq0 q0 q1 q2 q3 q4 r0 r1 r2 r3 r4 cr0 s0 s1 s2 s3 s4 U2 V2 HW2 hb3 bw3
      have x1 : w3.cell? ⟨wr.heap.size, 1, none⟩ = some (.int .i64 xp) := by rw [row_cell U3]; rfl
      have y1 : w3.cell? ⟨wr.heap.size + 1, 1, none⟩ = some (.int .i64 yp) := by rw [row_cell V3]; rfl
      have x2 : w3.cell? ⟨wr.heap.size, 2, none⟩ = some (.int .i64 xm) := by rw [row_cell U3]; rfl
      have y2 : w3.cell? ⟨wr.heap.size + 1, 2, none⟩ = some (.int .i64 ym) := by rw [row_cell V3]; rfl
      have x3 : w3.cell? ⟨wr.heap.size, 3, none⟩ = some (.int .i64 xo) := by rw [row_cell U3]; rfl
      have y3 : w3.cell? ⟨wr.heap.size + 1, 3, none⟩ = some (.int .i64 yo) := by rw [row_cell V3]; rfl
      have x4 : w3.cell? ⟨wr.heap.size, 4, none⟩ = some (.int .i64 xq) := by rw [row_cell U3]; rfl
      have y4 : w3.cell? ⟨wr.heap.size + 1, 4, none⟩ = some (.int .i64 yq) := by rw [row_cell V3]; rfl
      clear U3 V3
      have NO := Lib.hid (show ¬ ((⟨xr, xp, xm, xo, xq⟩ : CtxP) = ⟨yr, yp, ym, yo, yq⟩) → decide ((⟨X0, X1, X2, X3, X4, X5, X6, X7, X8, X9, X10⟩ : CpuP) = ⟨Y0, Y1, Y2, Y3, Y4, Y5, X6, X7, Y8, Y9, Y10⟩) = false from fun h => decide_eq_false (fun e => get_ne hkL hkM (by rw [HX.out, HY.out]; exact h) (congrArg CpuP.ctxs e)))
      cases hq : decide (xr = yr)
      · have HQ := Lib.hid (of_decide_eq_false hq)
        clear hq
        go_wp2
        go_ret
        exact ⟨by first | (rw [NO.out (fun e => HQ.out (congrArg CtxP.regs e))]; rfl) | rfl, b3⟩
      have HR := Lib.hid (of_decide_eq_true hq)
      clear hq
      by_cases hp : ¬ xp = yp
      · have hp' : (xp == yp) = false := by simpa using hp
        have hp'' : (xp != yp) = true := by simpa [bne] using hp
        have HP := Lib.hid hp
        clear hp
        go_wp2
        go_ret
        exact ⟨by first | (rw [NO.out (fun e => HP.out (congrArg CtxP.pc e))]; rfl) | rfl, b3⟩
      have hp1 := Decidable.not_not.1 hp
      subst hp1
      clear hp
      by_cases hp : ¬ xm = ym
      · have hp' : (xm == ym) = false := by simpa using hp
        have hp'' : (xm != ym) = true := by simpa [bne] using hp
        have HP := Lib.hid hp
        clear hp
        go_wp2
        go_ret
        exact ⟨by first | (rw [NO.out (fun e => HP.out (congrArg CtxP.mode e))]; rfl) | rfl, b3⟩
      have hp1 := Decidable.not_not.1 hp
      subst hp1
      clear hp
      by_cases hp : ¬ xo = yo
      · have hp' : (xo == yo) = false := by simpa using hp
        have hp'' : (xo != yo) = true := by simpa [bne] using hp
        have HP := Lib.hid hp
        clear hp
        go_wp2
        go_ret
        exact ⟨by first | (rw [NO.out (fun e => HP.out (congrArg CtxP.on e))]; rfl) | rfl, b3⟩
      have hp1 := Decidable.not_not.1 hp
      subst hp1
      clear hp
      by_cases hp : ¬ xq = yq
      · have hp' : (xq == yq) = false := by simpa using hp
        have hp'' : (xq != yq) = true := by simpa [bne] using hp
        have HP := Lib.hid hp
        clear hp
        go_wp2
        go_ret
        exact ⟨by first | (rw [NO.out (fun e => HP.out (congrArg CtxP.room e))]; rfl) | rfl, b3⟩
      have hp1 := Decidable.not_not.1 hp
      subst hp1
      clear hp
      go_wp2
      go_roundw
      case rel => exact ⟨k + 1, by omega, by go_num, Lib.hid (take_more HEQ.out hkL hkM (by rw [HX.out, HY.out, HR.out])), bb3⟩
      case measure => simp [intOf]; omega
    · have HC := Lib.hid (take_whole HEQ.out (by rw [HN.out]; omega) (by rw [← E0.out]; omega))
      clear HEQ hb
      have cp : wr.cell? ⟨w.heap.size, 1, none⟩ = some (.slice A1 X1.length c1) := by rw [row_cell P2.out]; rfl
      have cq : wr.cell? ⟨w.heap.size + 1, 1, none⟩ = some (.slice B1 Y1.length d1) := by rw [row_cell Q2.out]; rfl
      go_wp2_with fail
      clear cp cq cp0 cq0
      refine (l3Ints (f1.later b2) (g1.later b2)).mono ?_
      rintro e w3 ⟨rfl, hb⟩
      have b3 := b2.trans (hb.mono b2.size)
      have P3 := Lib.hid (rowk hb P2.out)
      have Q3 := Lib.hid (rowk hb Q2.out)
      clear hb b2 P2 Q2
      cases hq : decide (X1 = Y1)
      · have HF := Lib.hid (show decide ((⟨X0, X1, X2, X3, X4, X5, X6, X7, X8, X9, X10⟩ : CpuP) = ⟨Y0, Y1, Y2, Y3, Y4, Y5, X6, X7, Y8, Y9, Y10⟩) = false from decide_eq_false (fun e => of_decide_eq_false hq (congrArg CpuP.cells e)))
        clear hq
        go_wp2
        go_ret
        exact ⟨by first | (rw [HF.out]; rfl) | rfl, b3⟩
      have E1 := Lib.hid (of_decide_eq_true hq)
      clear hq
      have cp : w3.cell? ⟨w.heap.size, 2, none⟩ = some (.slice A2 X2.length c2) := by rw [row_cell P3.out]; rfl
      have cq : w3.cell? ⟨w.heap.size + 1, 2, none⟩ = some (.slice B2 Y2.length d2) := by rw [row_cell Q3.out]; rfl
      go_wp2_with fail
      clear cp cq
      refine (l3Ints (f2.later b3) (g2.later b3)).mono ?_
      rintro e w4 ⟨rfl, hb⟩
      have b4 := b3.trans (hb.mono b3.size)
      have P4 := Lib.hid (rowk hb P3.out)
      have Q4 := Lib.hid (rowk hb Q3.out)
      clear hb b3 P3 Q3
      cases hq : decide (X2 = Y2)
      · have HF := Lib.hid (show decide ((⟨X0, X1, X2, X3, X4, X5, X6, X7, X8, X9, X10⟩ : CpuP) = ⟨Y0, Y1, Y2, Y3, Y4, Y5, X6, X7, Y8, Y9, Y10⟩) = false from decide_eq_false (fun e => of_decide_eq_false hq (congrArg CpuP.rooms e)))
        clear hq
        go_wp2
        go_ret
        exact ⟨by first | (rw [HF.out]; rfl) | rfl, b4⟩
      have E2 := Lib.hid (of_decide_eq_true hq)
      clear hq
      have cp : w4.cell? ⟨w.heap.size, 3, none⟩ = some (.slice A3 X3.length c3) := by rw [row_cell P4.out]; rfl
      have cq : w4.cell? ⟨w.heap.size + 1, 3, none⟩ = some (.slice B3 Y3.length d3) := by rw [row_cell Q4.out]; rfl
      go_wp2_with fail
      clear cp cq
      refine (l5Lists (f3.later (by decide) b4) (g3.later (by decide) b4)).mono ?_
      rintro e w5 ⟨rfl, hb⟩
      have b5 := b4.trans (hb.mono b4.size)
      have P5 := Lib.hid (rowk hb P4.out)
      have Q5 := Lib.hid (rowk hb Q4.out)
      clear hb b4 P4 Q4
      cases hq : decide (X3 = Y3)
      · have HF := Lib.hid (show decide ((⟨X0, X1, X2, X3, X4, X5, X6, X7, X8, X9, X10⟩ : CpuP) = ⟨Y0, Y1, Y2, Y3, Y4, Y5, X6, X7, Y8, Y9, Y10⟩) = false from decide_eq_false (fun e => of_decide_eq_false hq (congrArg CpuP.lines e)))
        clear hq
        go_wp2
        go_ret
        exact ⟨by first | (rw [HF.out]; rfl) | rfl, b5⟩
      have E3 := Lib.hid (of_decide_eq_true hq)
      clear hq
      have cp : w5.cell? ⟨w.heap.size, 4, none⟩ = some (.slice A4 X4.length c4) := by rw [row_cell P5.out]; rfl
      have cq : w5.cell? ⟨w.heap.size + 1, 4, none⟩ = some (.slice B4 Y4.length d4) := by rw [row_cell Q5.out]; rfl
      go_wp2_with fail
      clear cp cq
      refine (l5Lists (f4.later (by decide) b5) (g4.later (by decide) b5)).mono ?_
      rintro e w6 ⟨rfl, hb⟩
      have b6 := b5.trans (hb.mono b5.size)
      have P6 := Lib.hid (rowk hb P5.out)
      have Q6 := Lib.hid (rowk hb Q5.out)
      clear hb b5 P5 Q5
      cases hq : decide (X4 = Y4)
      · have HF := Lib.hid (show decide ((⟨X0, X1, X2, X3, X4, X5, X6, X7, X8, X9, X10⟩ : CpuP) = ⟨Y0, Y1, Y2, Y3, Y4, Y5, X6, X7, Y8, Y9, Y10⟩) = false from decide_eq_false (fun e => of_decide_eq_false hq (congrArg CpuP.signs e)))
        clear hq
        go_wp2
        go_ret
        exact ⟨by first | (rw [HF.out]; rfl) | rfl, b6⟩
      have E4 := Lib.hid (of_decide_eq_true hq)
      clear hq
      have cp : w6.cell? ⟨w.heap.size, 5, none⟩ = some (.slice A5 X5.length c5) := by rw [row_cell P6.out]; rfl
      have cq : w6.cell? ⟨w.heap.size + 1, 5, none⟩ = some (.slice B5 Y5.length d5) := by rw [row_cell Q6.out]; rfl
      go_wp2_with fail
      clear cp cq
      refine (l3Ints (f5.later b6) (g5.later b6)).mono ?_
      rintro e w7 ⟨rfl, hb⟩
      have b7 := b6.trans (hb.mono b6.size)
      have P7 := Lib.hid (rowk hb P6.out)
      have Q7 := Lib.hid (rowk hb Q6.out)
      clear hb b6 P6 Q6
      cases hq : decide (X5 = Y5)
      · have HF := Lib.hid (show decide ((⟨X0, X1, X2, X3, X4, X5, X6, X7, X8, X9, X10⟩ : CpuP) = ⟨Y0, Y1, Y2, Y3, Y4, Y5, X6, X7, Y8, Y9, Y10⟩) = false from decide_eq_false (fun e => of_decide_eq_false hq (congrArg CpuP.ready e)))
        clear hq
        go_wp2
        go_ret
        exact ⟨by first | (rw [HF.out]; rfl) | rfl, b7⟩
      have E5 := Lib.hid (of_decide_eq_true hq)
      clear hq
      have cp : w7.cell? ⟨w.heap.size, 9, none⟩ = some (.slice A9 X9.length c9) := by rw [row_cell P7.out]; rfl
      have cq : w7.cell? ⟨w.heap.size + 1, 9, none⟩ = some (.slice B9 Y9.length d9) := by rw [row_cell Q7.out]; rfl
      go_wp2_with fail
      clear cp cq
      refine (l3Ints (f9.later b7) (g9.later b7)).mono ?_
      rintro e w8 ⟨rfl, hb⟩
      have b8 := b7.trans (hb.mono b7.size)
      have P8 := Lib.hid (rowk hb P7.out)
      have Q8 := Lib.hid (rowk hb Q7.out)
      clear hb b7 P7 Q7
      cases hq : decide (X9 = Y9)
      · have HF := Lib.hid (show decide ((⟨X0, X1, X2, X3, X4, X5, X6, X7, X8, X9, X10⟩ : CpuP) = ⟨Y0, Y1, Y2, Y3, Y4, Y5, X6, X7, Y8, Y9, Y10⟩) = false from decide_eq_false (fun e => of_decide_eq_false hq (congrArg CpuP.ran e)))
        clear hq
        go_wp2
        go_ret
        exact ⟨by first | (rw [HF.out]; rfl) | rfl, b8⟩
      have E9 := Lib.hid (of_decide_eq_true hq)
      clear hq
      have cp : w8.cell? ⟨w.heap.size, 10, none⟩ = some (.slice A10 X10.length c10) := by rw [row_cell P8.out]; rfl
      have cq : w8.cell? ⟨w.heap.size + 1, 10, none⟩ = some (.slice B10 Y10.length d10) := by rw [row_cell Q8.out]; rfl
      go_wp2_with fail
      clear cp cq
      refine (l3Ints (f10.later b8) (g10.later b8)).mono ?_
      rintro e w9 ⟨rfl, hb⟩
      have b9 := b8.trans (hb.mono b8.size)
      have P9 := Lib.hid (rowk hb P8.out)
      have Q9 := Lib.hid (rowk hb Q8.out)
      clear hb b8 P8 Q8
      cases hq : decide (X10 = Y10)
      · have HF := Lib.hid (show decide ((⟨X0, X1, X2, X3, X4, X5, X6, X7, X8, X9, X10⟩ : CpuP) = ⟨Y0, Y1, Y2, Y3, Y4, Y5, X6, X7, Y8, Y9, Y10⟩) = false from decide_eq_false (fun e => of_decide_eq_false hq (congrArg CpuP.picks e)))
        clear hq
        go_wp2
        go_ret
        exact ⟨by first | (rw [HF.out]; rfl) | rfl, b9⟩
      have E10 := Lib.hid (of_decide_eq_true hq)
      clear hq
      have HF := Lib.hid (show decide ((⟨X0, X1, X2, X3, X4, X5, X6, X7, X8, X9, X10⟩ : CpuP) = ⟨Y0, Y1, Y2, Y3, Y4, Y5, X6, X7, Y8, Y9, Y10⟩) = true from decide_eq_true (by rw [HC.out, E1.out, E2.out, E3.out, E4.out, E5.out, E8.out, E9.out, E10.out]))
      go_wp2
      go_ret
      exact ⟨by first | (rw [HF.out]; rfl) | rfl, b9⟩

theorem specCpuSame {x y : CpuP} {vs us : List Value} {S T : Nat → Prop} {w : World} (hI : cpuShape.I w S vs x) (hJ : cpuShape.I w T us y) :
    Calls Try.prog 8 #[.agg vs.toArray, .agg us.toArray] w fun e w' => e = .returned (.bool (decide (x = y))) ∧ Below w.heap.size w w' := by
  obtain ⟨A0, c0, A1, c1, A2, c2, A3, c3, A4, c4, A5, c5, A8, c8, A9, c9, A10, c10, rfl, f0, f1, f2, f3, f4, f5, f8, f9, f10⟩ := hI
  obtain ⟨B0, d0, B1, d1, B2, d2, B3, d3, B4, d4, B5, d5, B8, d8, B9, d9, B10, d10, rfl, g0, g1, g2, g3, g4, g5, g8, g9, g10⟩ := hJ
  exact specCpuSame_ f0 g0 f1 g1 f2 g2 f3 g3 f4 g4 f5 g5 f8 g8 f9 g9 f10 g10
end Go.Proofs.Ytkiekabfmdcemaa