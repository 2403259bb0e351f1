/- spec.CpuTwin (written by tools/gen_twin2.py). -/
import Derived.Test.YtkiekabfmdcemaaTwinPure
import Derived.Test.YtkiekabfmdcemaaListsSame
import Derived.Test.YtkiekabfmdcemaaSaySame
namespace Go.Proofs.Ytkiekabfmdcemaa
open Go.ChangeShapes Go.WideShapes Go.ChangeAt Go.RowKit

set_option maxRecDepth 100000 in
set_option maxHeartbeats 4000000 in
theorem specCpuTwin {x : CpuP} {y : WorldP} {vs us : List Value} {S T : Nat → Prop} {w : World} (hI : cpuShape.I w S vs x) (hJ : worldShape.I w T us y) :
    Calls Try.prog 13 #[.agg vs.toArray, .agg us.toArray] w fun e w' => e = .returned (.bool (twinB x y)) ∧ Below w.heap.size w w' := by
  obtain ⟨A0, c0, A1, c1, A2, c2, A3, c3, A4, c4, A5, c5, A8, c8, A9, c9, A10, c10, rfl, f0, f1, f2, f3, f4, f5, f8, f9, f10⟩ := hI
  obtain ⟨B0, d0, B1, d1, B2, d2, B3, d3, B4, d4, rfl, g0, g1, g2, g3, g4⟩ := hJ
  have b0 : Below w.heap.size w ((w.alloc (.cells #[.slice A0 x.ctxs.length c0, .slice A1 x.cells.length c1, .slice A2 x.rooms.length c2, .slice A3 x.lines.length c3, .slice A4 x.signs.length c4, .slice A5 x.ready.length c5, .int .i64 x.left, .int .i64 x.gap, .slice A8 (x.said.length / 2) c8, .slice A9 x.ran.length c9, .slice A10 x.picks.length c10] 33)).alloc (.cells #[.slice B0 y.procs.length d0, .slice B1 y.cells.length d1, .slice B2 y.rooms.length d2, .slice B3 y.signs.length d3, .slice B4 (y.said.length / 2) d4] 43)) := ((Below.refl _ _).alloc (Nat.le_refl _) _).alloc (by simp) _
  have P0 := Lib.hid (row_first w #[.slice A0 x.ctxs.length c0, .slice A1 x.cells.length c1, .slice A2 x.rooms.length c2, .slice A3 x.lines.length c3, .slice A4 x.signs.length c4, .slice A5 x.ready.length c5, .int .i64 x.left, .int .i64 x.gap, .slice A8 (x.said.length / 2) c8, .slice A9 x.ran.length c9, .slice A10 x.picks.length c10] #[.slice B0 y.procs.length d0, .slice B1 y.cells.length d1, .slice B2 y.rooms.length d2, .slice B3 y.signs.length d3, .slice B4 (y.said.length / 2) d4] 33 43)
  have Q0 := Lib.hid (row_second w #[.slice A0 x.ctxs.length c0, .slice A1 x.cells.length c1, .slice A2 x.rooms.length c2, .slice A3 x.lines.length c3, .slice A4 x.signs.length c4, .slice A5 x.ready.length c5, .int .i64 x.left, .int .i64 x.gap, .slice A8 (x.said.length / 2) c8, .slice A9 x.ran.length c9, .slice A10 x.picks.length c10] #[.slice B0 y.procs.length d0, .slice B1 y.cells.length d1, .slice B2 y.rooms.length d2, .slice B3 y.signs.length d3, .slice B4 (y.said.length / 2) d4] 33 43)
  have hmax := f0.max
  have hmax' := g0.max
  by_cases h0 : ¬ x.ctxs.length = y.procs.length
  · have HF := Lib.hid (show twinB x y = false from by unfold twinB; rw [twins_len h0]; simp)
    go_enter Try.func13, Try.ntmps13
    go_wp2
    go_ret
    exact ⟨by first | (rw [HF.out]; rfl) | rfl, b0⟩
  have E0 := Lib.hid (Decidable.not_not.1 h0)
  clear h0
  have hn1 := E0.out
  rw [← hn1] at g0 hmax' ⊢
  rw [← hn1] at b0 P0 Q0
  generalize hn : x.ctxs.length = n at *
  have HN := Lib.hid hn
  clear hn hn1 hmax'
  go_enter Try.func13, Try.ntmps13
  go_wp2_with fail
  refine (l3Ints (f1.later b0) (g1.later b0)).mono ?_
  rintro e w1 ⟨rfl, hb⟩
  have b1 := b0.trans (hb.mono b0.size)
  have P1 := Lib.hid (rowk hb P0.out)
  have Q1 := Lib.hid (rowk hb Q0.out)
  clear hb b0 P0 Q0
  cases hq : decide (x.cells = y.cells)
  · have HF := Lib.hid (show twinB x y = false from by unfold twinB; rw [hq]; simp)
    clear hq
    go_wp2
    go_ret
    exact ⟨by first | (rw [HF.out]; rfl) | rfl, b1⟩
  have E1 := Lib.hid hq
  clear hq
  have cp : w1.cell? ⟨w.heap.size, 2, none⟩ = some (.slice A2 x.rooms.length c2) := by rw [row_cell P1.out]; rfl
  have cq : w1.cell? ⟨w.heap.size + 1, 2, none⟩ = some (.slice B2 y.rooms.length d2) := by rw [row_cell Q1.out]; rfl
  go_wp2_with fail
  clear cp cq
  refine (l3Ints (f2.later b1) (g2.later b1)).mono ?_
  rintro e w2 ⟨rfl, hb⟩
  have b2 := b1.trans (hb.mono b1.size)
  have P2 := Lib.hid (rowk hb P1.out)
  have Q2 := Lib.hid (rowk hb Q1.out)
  clear hb b1 P1 Q1
  cases hq : decide (x.rooms = y.rooms)
  · have HF := Lib.hid (show twinB x y = false from by unfold twinB; rw [hq]; simp)
    clear hq
    go_wp2
    go_ret
    exact ⟨by first | (rw [HF.out]; rfl) | rfl, b2⟩
  have E2 := Lib.hid hq
  clear hq
  have cp : w2.cell? ⟨w.heap.size, 4, none⟩ = some (.slice A4 x.signs.length c4) := by rw [row_cell P2.out]; rfl
  have cq : w2.cell? ⟨w.heap.size + 1, 3, none⟩ = some (.slice B3 y.signs.length d3) := by rw [row_cell Q2.out]; rfl
  go_wp2_with fail
  clear cp cq
  refine (l5Lists (f4.later (by decide) b2) (g3.later (by decide) b2)).mono ?_
  rintro e w3 ⟨rfl, hb⟩
  have b3 := b2.trans (hb.mono b2.size)
  have P3 := Lib.hid (rowk hb P2.out)
  have Q3 := Lib.hid (rowk hb Q2.out)
  clear hb b2 P2 Q2
  cases hq : decide (x.signs = y.signs)
  · have HF := Lib.hid (show twinB x y = false from by unfold twinB; rw [hq]; simp)
    clear hq
    go_wp2
    go_ret
    exact ⟨by first | (rw [HF.out]; rfl) | rfl, b3⟩
  have E3 := Lib.hid hq
  clear hq
  have cp : w3.cell? ⟨w.heap.size, 8, none⟩ = some (.slice A8 (x.said.length / 2) c8) := by rw [row_cell P3.out]; rfl
  have cq : w3.cell? ⟨w.heap.size + 1, 4, none⟩ = some (.slice B4 (y.said.length / 2) d4) := by rw [row_cell Q3.out]; rfl
  go_wp2_with fail
  clear cp cq
  refine (l5Said (f8.later b3) (g4.later b3)).mono ?_
  rintro e w4 ⟨rfl, hb⟩
  have b4 := b3.trans (hb.mono b3.size)
  have P4 := Lib.hid (rowk hb P3.out)
  have Q4 := Lib.hid (rowk hb Q3.out)
  clear hb b3 P3 Q3
  cases hq : decide (x.said = y.said)
  · have HF := Lib.hid (show twinB x y = false from by unfold twinB; rw [hq]; simp)
    clear hq
    go_wp2
    go_ret
    exact ⟨by first | (rw [HF.out]; rfl) | rfl, b4⟩
  have E4 := Lib.hid hq
  clear hq
  have HB := Lib.hid (show twinB x y = twins x.ctxs y.procs from by unfold twinB; rw [E1.out, E2.out, E3.out, E4.out]; simp)
  clear E1 E2 E3 E4
  go_wp2_with fail
  go_loopw [5] (fun i wr => ∃ k : Nat, k ≤ n ∧ i = .int .i64 k ∧ Go.RowKit.Hid (TwK x.ctxs y.procs k) ∧ Below w4.heap.size w4 wr) (fun i _ => n - (intOf i).toNat)
  case atStart => exact ⟨0, Nat.zero_le _, rfl, Lib.hid (TwK.zero _ _), Below.refl _ _⟩
  case round =>
    obtain ⟨k, hk, rfl, HEQ, hb⟩ := hrel
    have P5 := Lib.hid (rowk hb P4.out)
    have Q5 := Lib.hid (rowk hb Q4.out)
    have b5 := b4.trans (hb.mono b4.size)
    clear P4 Q4 b4
    have cp0 : wr.cell? ⟨w.heap.size, 0, none⟩ = some (.slice A0 n c0) := by rw [row_cell P5.out]; rfl
    have cq0 : wr.cell? ⟨w.heap.size + 1, 0, none⟩ = some (.slice B0 n d0) := by rw [row_cell Q5.out]; rfl
    by_cases hlt : ¬ k < n
    · have HF := Lib.hid (show twins x.ctxs y.procs = true from HEQ.out.all (by rw [HN.out, E0.out]) (by rw [HN.out]; omega))
      go_wp2_with fail
      go_ret
      exact ⟨by rw [HB.out, HF.out]; rfl, b5⟩
    have hlt1 := Decidable.not_not.1 hlt
    clear hlt
    have hkL : k < x.ctxs.length := by rw [HN.out]; exact hlt1
    have hkM : k < y.procs.length := by rw [← E0.out]; exact hlt1
    obtain ⟨a, cx, A', c', hx, rfl, q0, q1, q2, q3, q4, hI⟩ := ctx_at (f0.later (by decide) b5) k hkL
    obtain ⟨b, cy, B', d', B'', d'', hy, rfl, r0, r1, r2, r3, r4, hJ⟩ := proc_at (g0.later (by decide) b5) k hkM
    have HX := Lib.hid hx
    have HY := Lib.hid hy
    obtain ⟨_, _, hv, fx⟩ := hI
    obtain ⟨_, _, _, _, hu, fy, _⟩ := hJ
    simp only [List.cons.injEq, Value.slice.injEq, true_and, and_true] at hv hu
    obtain ⟨rfl, rfl⟩ := hv
    obtain ⟨⟨rfl, rfl⟩, rfl, rfl⟩ := hu
    clear hx hy
    obtain ⟨xr, xp, xm, xo, xq⟩ := cx
    obtain ⟨yr, yt, ym, yo, yq⟩ := cy
    dsimp only at *
    have hW1 : Below wr.heap.size wr (wr.alloc (.cells #[.slice A' xr.length c', .int .i64 xp, .int .i64 xm, .int .i64 xo, .int .i64 xq] 60)) := (Below.refl _ _).alloc (Nat.le_refl _) _
    have hW2 : Below wr.heap.size wr ((wr.alloc (.cells #[.slice A' xr.length c', .int .i64 xp, .int .i64 xm, .int .i64 xo, .int .i64 xq] 60)).alloc (.cells #[.slice B' yr.length d', .slice B'' yt.len d'', .int .i64 ym, .int .i64 yo, .int .i64 yq] 74)) := hW1.alloc (by simp) _
    have U2 := Lib.hid (row_first wr #[.slice A' xr.length c', .int .i64 xp, .int .i64 xm, .int .i64 xo, .int .i64 xq] #[.slice B' yr.length d', .slice B'' yt.len d'', .int .i64 ym, .int .i64 yo, .int .i64 yq] 60 74)
    have V2 := Lib.hid (row_second wr #[.slice A' xr.length c', .int .i64 xp, .int .i64 xm, .int .i64 xo, .int .i64 xq] #[.slice B' yr.length d', .slice B'' yt.len d'', .int .i64 ym, .int .i64 yo, .int .i64 yq] 60 74)
    have cr0 := cell_later cq0 hW1
    have s0 := cell_later r0 hW1
    have s1 := cell_later r1 hW1
    have s2 := cell_later r2 hW1
    have s3 := cell_later r3 hW1
    have s4 := cell_later r4 hW1
    have HW2 := Lib.hid hW2
    clear hW1 hW2
    have NO := Lib.hid (show twin1 (⟨xr, xp, xm, xo, xq⟩ : CtxP) ⟨yr, yt, ym, yo, yq⟩ = false → twinB x y = false from fun h => by rw [HB.out]; exact twins_no hkL hkM (by rw [HX.out, HY.out]; exact h))
    have T1 := Lib.hid (show twin1 (⟨xr, xp, xm, xo, xq⟩ : CtxP) ⟨yr, yt, ym, yo, yq⟩ = (decide (xr = yr) && (modeP xm == ym) && (xo == yo) && (xq == yq)) from rfl)
    have hm3 : (xm = 1 ∧ modeP xm = 1) ∨ (xm = 2 ∧ modeP xm = 2) ∨ (¬ xm = 1 ∧ ¬ xm = 2 ∧ modeP xm = 0) := by
      unfold modeP
      by_cases h1 : xm = 1
      · exact .inl ⟨h1, if_pos h1⟩
      · by_cases h2 : xm = 2
        · exact .inr (.inl ⟨h2, by rw [if_neg h1, if_pos h2]⟩)
        · exact .inr (.inr ⟨h1, h2, by rw [if_neg h1, if_neg h2]⟩)
    rcases hm3 with ⟨h1, hM⟩ | ⟨h1, hM⟩ | ⟨h1, h2, hM⟩
    ·
      subst h1
      rw [hM] at T1
      clear hM
      go_wp2_with fail
      refine (l3Ints (fx.later HW2.out) (fy.later HW2.out)).mono ?_
      rintro e w6 ⟨rfl, hb6⟩
      have U3 := rowk hb6 U2.out
      have V3 := rowk hb6 V2.out
      have bw6 := HW2.out.trans (hb6.mono HW2.out.size)
      have b6 := b5.trans (bw6.mono b5.size)
      have bb6 := hb.trans (bw6.mono hb.size)
      clear cp0 cq0 q0 q1 q2 q3 q4 r0 r1 r2 r3 r4 cr0 s0 s1 s2 s3 s4 U2 V2 HW2 hb6 bw6
      have x3 : w6.cell? ⟨wr.heap.size, 3, none⟩ = some (.int .i64 xo) := by rw [row_cell U3]; rfl
      have x4 : w6.cell? ⟨wr.heap.size, 4, none⟩ = some (.int .i64 xq) := by rw [row_cell U3]; rfl
      have y2 : w6.cell? ⟨wr.heap.size + 1, 2, none⟩ = some (.int .i64 ym) := by rw [row_cell V3]; rfl
      have y3 : w6.cell? ⟨wr.heap.size + 1, 3, none⟩ = some (.int .i64 yo) := by rw [row_cell V3]; rfl
      have y4 : w6.cell? ⟨wr.heap.size + 1, 4, none⟩ = some (.int .i64 yq) := by rw [row_cell V3]; rfl
      clear U3 V3
      cases hq : decide (xr = yr)
      · have HQ := Lib.hid (NO.out (by rw [T1.out, hq]; simp))
        clear hq
        go_wp2
        go_ret
        exact ⟨by first | (rw [HQ.out]; rfl) | rfl, b6⟩
      have HR := Lib.hid hq
      clear hq
      by_cases hp : ¬ xo = yo
      · have hp' : (xo == yo) = false := by simpa using hp
        have hp'' : (xo != yo) = true := by simpa [bne] using hp
        have HQ := Lib.hid (NO.out (by rw [T1.out, hp']; simp))
        clear hp
        go_wp2
        go_ret
        exact ⟨by first | (rw [HQ.out]; rfl) | rfl, b6⟩
      have hp1 := Decidable.not_not.1 hp
      subst hp1
      clear hp
      by_cases hp : ¬ xq = yq
      · have hp' : (xq == yq) = false := by simpa using hp
        have hp'' : (xq != yq) = true := by simpa [bne] using hp
        have HQ := Lib.hid (NO.out (by rw [T1.out, hp']; simp))
        clear hp
        go_wp2
        go_ret
        exact ⟨by first | (rw [HQ.out]; rfl) | rfl, b6⟩
      have hp1 := Decidable.not_not.1 hp
      subst hp1
      clear hp
      by_cases hp : ¬ (1 : Int) = ym
      · have hp' : ((1 : Int) == ym) = false := by simpa using hp
        have hp'' : ((1 : Int) != ym) = true := by simpa [bne] using hp
        have HQ := Lib.hid (NO.out (by rw [T1.out, hp']; simp))
        clear hp
        go_wp2
        go_ret
        exact ⟨by first | (rw [HQ.out]; rfl) | rfl, b6⟩
      have hp1 := Decidable.not_not.1 hp
      subst hp1
      clear hp
      have HY1 := Lib.hid (show twin1 x.ctxs[k] y.procs[k] = true from by rw [HX.out, HY.out, T1.out, HR.out]; simp)
      go_wp2
      go_roundw
      case rel => exact ⟨k + 1, by omega, by go_num, Lib.hid (HEQ.out.more hkL hkM HY1.out), bb6⟩
      case measure => simp [intOf]; omega
    ·
      subst h1
      rw [hM] at T1
      clear hM
      go_wp2_with fail
      refine (l3Ints (fx.later HW2.out) (fy.later HW2.out)).mono ?_
      rintro e w6 ⟨rfl, hb6⟩
      have U3 := rowk hb6 U2.out
      have V3 := rowk hb6 V2.out
      have bw6 := HW2.out.trans (hb6.mono HW2.out.size)
      have b6 := b5.trans (bw6.mono b5.size)
      have bb6 := hb.trans (bw6.mono hb.size)
      clear cp0 cq0 q0 q1 q2 q3 q4 r0 r1 r2 r3 r4 cr0 s0 s1 s2 s3 s4 U2 V2 HW2 hb6 bw6
      have x3 : w6.cell? ⟨wr.heap.size, 3, none⟩ = some (.int .i64 xo) := by rw [row_cell U3]; rfl
      have x4 : w6.cell? ⟨wr.heap.size, 4, none⟩ = some (.int .i64 xq) := by rw [row_cell U3]; rfl
      have y2 : w6.cell? ⟨wr.heap.size + 1, 2, none⟩ = some (.int .i64 ym) := by rw [row_cell V3]; rfl
      have y3 : w6.cell? ⟨wr.heap.size + 1, 3, none⟩ = some (.int .i64 yo) := by rw [row_cell V3]; rfl
      have y4 : w6.cell? ⟨wr.heap.size + 1, 4, none⟩ = some (.int .i64 yq) := by rw [row_cell V3]; rfl
      clear U3 V3
      cases hq : decide (xr = yr)
      · have HQ := Lib.hid (NO.out (by rw [T1.out, hq]; simp))
        clear hq
        go_wp2
        go_ret
        exact ⟨by first | (rw [HQ.out]; rfl) | rfl, b6⟩
      have HR := Lib.hid hq
      clear hq
      by_cases hp : ¬ xo = yo
      · have hp' : (xo == yo) = false := by simpa using hp
        have hp'' : (xo != yo) = true := by simpa [bne] using hp
        have HQ := Lib.hid (NO.out (by rw [T1.out, hp']; simp))
        clear hp
        go_wp2
        go_ret
        exact ⟨by first | (rw [HQ.out]; rfl) | rfl, b6⟩
      have hp1 := Decidable.not_not.1 hp
      subst hp1
      clear hp
      by_cases hp : ¬ xq = yq
      · have hp' : (xq == yq) = false := by simpa using hp
        have hp'' : (xq != yq) = true := by simpa [bne] using hp
        have HQ := Lib.hid (NO.out (by rw [T1.out, hp']; simp))
        clear hp
        go_wp2
        go_ret
        exact ⟨by first | (rw [HQ.out]; rfl) | rfl, b6⟩
      have hp1 := Decidable.not_not.1 hp
      subst hp1
      clear hp
      by_cases hp : ¬ (2 : Int) = ym
      · have hp' : ((2 : Int) == ym) = false := by simpa using hp
        have hp'' : ((2 : Int) != ym) = true := by simpa [bne] using hp
        have HQ := Lib.hid (NO.out (by rw [T1.out, hp']; simp))
        clear hp
        go_wp2
        go_ret
        exact ⟨by first | (rw [HQ.out]; rfl) | rfl, b6⟩
      have hp1 := Decidable.not_not.1 hp
      subst hp1
      clear hp
      have HY1 := Lib.hid (show twin1 x.ctxs[k] y.procs[k] = true from by rw [HX.out, HY.out, T1.out, HR.out]; simp)
      go_wp2
      go_roundw
      case rel => exact ⟨k + 1, by omega, by go_num, Lib.hid (HEQ.out.more hkL hkM HY1.out), bb6⟩
      case measure => simp [intOf]; omega
    ·
      have h1' : (xm == 1) = false := by simpa using h1
      have h2' : (xm == 2) = false := by simpa using h2
      rw [hM] at T1
      clear hM
      go_wp2_with fail
      refine (l3Ints (fx.later HW2.out) (fy.later HW2.out)).mono ?_
      rintro e w6 ⟨rfl, hb6⟩
      have U3 := rowk hb6 U2.out
      have V3 := rowk hb6 V2.out
      have bw6 := HW2.out.trans (hb6.mono HW2.out.size)
      have b6 := b5.trans (bw6.mono b5.size)
      have bb6 := hb.trans (bw6.mono hb.size)
      clear cp0 cq0 q0 q1 q2 q3 q4 r0 r1 r2 r3 r4 cr0 s0 s1 s2 s3 s4 U2 V2 HW2 hb6 bw6
      have x3 : w6.cell? ⟨wr.heap.size, 3, none⟩ = some (.int .i64 xo) := by rw [row_cell U3]; rfl
      have x4 : w6.cell? ⟨wr.heap.size, 4, none⟩ = some (.int .i64 xq) := by rw [row_cell U3]; rfl
      have y2 : w6.cell? ⟨wr.heap.size + 1, 2, none⟩ = some (.int .i64 ym) := by rw [row_cell V3]; rfl
      have y3 : w6.cell? ⟨wr.heap.size + 1, 3, none⟩ = some (.int .i64 yo) := by rw [row_cell V3]; rfl
      have y4 : w6.cell? ⟨wr.heap.size + 1, 4, none⟩ = some (.int .i64 yq) := by rw [row_cell V3]; rfl
      clear U3 V3
      cases hq : decide (xr = yr)
      · have HQ := Lib.hid (NO.out (by rw [T1.out, hq]; simp))
        clear hq
        go_wp2
        go_ret
        exact ⟨by first | (rw [HQ.out]; rfl) | rfl, b6⟩
      have HR := Lib.hid hq
      clear hq
      by_cases hp : ¬ xo = yo
      · have hp' : (xo == yo) = false := by simpa using hp
        have hp'' : (xo != yo) = true := by simpa [bne] using hp
        have HQ := Lib.hid (NO.out (by rw [T1.out, hp']; simp))
        clear hp
        go_wp2
        go_ret
        exact ⟨by first | (rw [HQ.out]; rfl) | rfl, b6⟩
      have hp1 := Decidable.not_not.1 hp
      subst hp1
      clear hp
      by_cases hp : ¬ xq = yq
      · have hp' : (xq == yq) = false := by simpa using hp
        have hp'' : (xq != yq) = true := by simpa [bne] using hp
        have HQ := Lib.hid (NO.out (by rw [T1.out, hp']; simp))
        clear hp
        go_wp2
        go_ret
        exact ⟨by first | (rw [HQ.out]; rfl) | rfl, b6⟩
      have hp1 := Decidable.not_not.1 hp
      subst hp1
      clear hp
      by_cases hp : ¬ (0 : Int) = ym
      · have hp' : ((0 : Int) == ym) = false := by simpa using hp
        have hp'' : ((0 : Int) != ym) = true := by simpa [bne] using hp
        have HQ := Lib.hid (NO.out (by rw [T1.out, hp']; simp))
        clear hp
        go_wp2
        go_ret
        exact ⟨by first | (rw [HQ.out]; rfl) | rfl, b6⟩
      have hp1 := Decidable.not_not.1 hp
      subst hp1
      clear hp
      have HY1 := Lib.hid (show twin1 x.ctxs[k] y.procs[k] = true from by rw [HX.out, HY.out, T1.out, HR.out]; simp)
      go_wp2
      go_roundw
      case rel => exact ⟨k + 1, by omega, by go_num, Lib.hid (HEQ.out.more hkL hkM HY1.out), bb6⟩
      case measure => simp [intOf]; omega
end Go.Proofs.Ytkiekabfmdcemaa