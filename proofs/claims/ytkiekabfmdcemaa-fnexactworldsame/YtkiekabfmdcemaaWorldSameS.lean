/- spec.WorldSame (written by tools/gen_worldsame.py). -/
import Derived.Test.YtkiekabfmdcemaaWorldPure
import Derived.Test.YtkiekabfmdcemaaSaySame
import Derived.StillTailTactics
namespace Go.Proofs.Ytkiekabfmdcemaa
open Go.ChangeShapes Go.WideShapes Go.ChangeAt Go.RowKit

set_option maxRecDepth 100000 in
set_option maxHeartbeats 4000000 in
theorem specWorldSame {x y : WorldP} {vs us : List Value} {S T : Nat → Prop} {w : World} (hI : worldShape.I w S vs x) (hJ : worldShape.I w T us y) :
    Calls Try.prog 17 #[.agg vs.toArray, .agg us.toArray] w fun e w' => e = .returned (.bool (worldB x y)) ∧ Below w.heap.size w w' := by
  obtain ⟨A0, c0, A1, c1, A2, c2, A3, c3, A4, c4, rfl, f0, f1, f2, f3, f4⟩ := hI
  obtain ⟨B0, d0, B1, d1, B2, d2, B3, d3, B4, d4, rfl, g0, g1, g2, g3, g4⟩ := hJ
  have b0 : Below w.heap.size w ((w.alloc (.cells #[.slice A0 x.procs.length c0, .slice A1 x.cells.length c1, .slice A2 x.rooms.length c2, .slice A3 x.signs.length c3, .slice A4 (x.said.length / 2) c4] 43)).alloc (.cells #[.slice B0 y.procs.length d0, .slice B1 y.cells.length d1, .slice B2 y.rooms.length d2, .slice B3 y.signs.length d3, .slice B4 (y.said.length / 2) d4] 43)) := ((Below.refl _ _).alloc (Nat.le_refl _) _).alloc (by simp) _
  have P0 := Lib.hid (row_first w #[.slice A0 x.procs.length c0, .slice A1 x.cells.length c1, .slice A2 x.rooms.length c2, .slice A3 x.signs.length c3, .slice A4 (x.said.length / 2) c4] #[.slice B0 y.procs.length d0, .slice B1 y.cells.length d1, .slice B2 y.rooms.length d2, .slice B3 y.signs.length d3, .slice B4 (y.said.length / 2) d4] 43 43)
  have Q0 := Lib.hid (row_second w #[.slice A0 x.procs.length c0, .slice A1 x.cells.length c1, .slice A2 x.rooms.length c2, .slice A3 x.signs.length c3, .slice A4 (x.said.length / 2) c4] #[.slice B0 y.procs.length d0, .slice B1 y.cells.length d1, .slice B2 y.rooms.length d2, .slice B3 y.signs.length d3, .slice B4 (y.said.length / 2) d4] 43 43)
  have m0 := f0.max
  have m0' := g0.max
  have m3 := f3.max
  have m3' := g3.max
  have m4 : x.said.length / 2 ≤ 9223372036854775807 := by have := f4.le; have := f4.top; unfold maxLen at this; omega
  have m4' : y.said.length / 2 ≤ 9223372036854775807 := by have := g4.le; have := g4.top; unfold maxLen at this; omega
  have LX := Lib.hid f4.len
  have LY := Lib.hid g4.len
  by_cases h : ¬ x.procs.length = y.procs.length
  · have HF := Lib.hid (show worldB x y = false from by unfold worldB; rw [procsB_len h]; simp)
    go_enter Try.func17, Try.ntmps17
    go_wp2
    go_ret
    exact ⟨by first | (rw [HF.out]; rfl) | rfl, b0⟩
  have E0 := Lib.hid (Decidable.not_not.1 h)
  clear h
  have hn1 := E0.out
  rw [← hn1] at g0 m0' ⊢
  rw [← hn1] at b0 P0 Q0
  generalize hn : x.procs.length = n0 at *
  have N0 := Lib.hid hn
  clear hn hn1 m0'
  by_cases h : ¬ x.signs.length = y.signs.length
  · have HF := Lib.hid (show worldB x y = false from by unfold worldB; rw [decide_eq_false (show ¬ x.signs = y.signs from fun e => h (by rw [e]))]; simp)
    go_enter Try.func17, Try.ntmps17
    go_wp2
    go_ret
    exact ⟨by first | (rw [HF.out]; rfl) | rfl, b0⟩
  have E3 := Lib.hid (Decidable.not_not.1 h)
  clear h
  have hn1 := E3.out
  rw [← hn1] at g3 m3' ⊢
  rw [← hn1] at b0 P0 Q0
  generalize hn : x.signs.length = n3 at *
  have N3 := Lib.hid hn
  clear hn hn1 m3'
  by_cases h : ¬ x.said.length / 2 = y.said.length / 2
  · have HF := Lib.hid (show worldB x y = false from by unfold worldB; rw [decide_eq_false (show ¬ x.said = y.said from fun e => h (by rw [e]))]; simp)
    go_enter Try.func17, Try.ntmps17
    go_wp2
    go_ret
    exact ⟨by first | (rw [HF.out]; rfl) | rfl, b0⟩
  have E4 := Lib.hid (Decidable.not_not.1 h)
  clear h
  have hn1 := E4.out
  rw [← hn1] at g4 m4' ⊢
  rw [← hn1] at b0 P0 Q0
  generalize hn : x.said.length / 2 = n4 at *
  have N4 := Lib.hid hn
  clear hn hn1 m4'
  go_enter Try.func17, Try.ntmps17
  go_wp2_with fail
  refine (l3Ints (f1.later b0) (g1.later b0)).mono ?_
  rintro e w1 ⟨rfl, hb⟩
  have b1 := b0.trans (hb.mono b0.size)
  have P1 := Lib.hid (rowk hb P0.out)
  have Q1 := Lib.hid (rowk hb Q0.out)
  clear hb b0 P0 Q0
  cases hq : decide (x.cells = y.cells)
  · have HF := Lib.hid (show worldB x y = false from by unfold worldB; rw [hq]; simp)
    clear hq
    go_wp2
    go_ret
    exact ⟨by first | (rw [HF.out]; rfl) | rfl, b1⟩
  have D1 := Lib.hid hq
  clear hq
  have cp : w1.cell? ⟨w.heap.size, 2, none⟩ = some (.slice A2 x.rooms.length c2) := by rw [row_cell P1.out]; rfl
  have cq : w1.cell? ⟨w.heap.size + 1, 2, none⟩ = some (.slice B2 y.rooms.length d2) := by rw [row_cell Q1.out]; rfl
  go_wp2_with fail
  clear cp cq
  refine (l3Ints (f2.later b1) (g2.later b1)).mono ?_
  rintro e w2 ⟨rfl, hb⟩
  have b2 := b1.trans (hb.mono b1.size)
  have P2 := Lib.hid (rowk hb P1.out)
  have Q2 := Lib.hid (rowk hb Q1.out)
  clear hb b1 P1 Q1
  cases hq : decide (x.rooms = y.rooms)
  · have HF := Lib.hid (show worldB x y = false from by unfold worldB; rw [hq]; simp)
    clear hq
    go_wp2
    go_ret
    exact ⟨by first | (rw [HF.out]; rfl) | rfl, b2⟩
  have D2 := Lib.hid hq
  clear hq
  have HB := Lib.hid (show worldB x y = (procsB x.procs y.procs && decide (x.signs = y.signs) && decide (x.said = y.said)) from by unfold worldB; rw [D1.out, D2.out]; simp)
  clear D1 D2
  go_wp2_with fail
  go_loopw [5] (fun i wr => ∃ k : Nat, k ≤ n0 ∧ i = .int .i64 k ∧ Go.RowKit.Hid (PrK x.procs y.procs k) ∧ Below w2.heap.size w2 wr) (fun i _ => n0 - (intOf i).toNat)
  case atStart => exact ⟨0, Nat.zero_le _, rfl, Lib.hid (PrK.zero _ _), Below.refl _ _⟩
  case round =>
    obtain ⟨k, hk, rfl, HEQ, hb⟩ := hrel
    have P3 := Lib.hid (rowk hb P2.out)
    have Q3 := Lib.hid (rowk hb Q2.out)
    have b3 := b2.trans (hb.mono b2.size)
    clear P2 Q2 b2
    generalize hwr : wr = w3 at *
    clear hwr
    have cp0 : w3.cell? ⟨w.heap.size, 0, none⟩ = some (.slice A0 n0 c0) := by rw [row_cell P3.out]; rfl
    have cq0 : w3.cell? ⟨w.heap.size + 1, 0, none⟩ = some (.slice B0 n0 d0) := by rw [row_cell Q3.out]; rfl
    by_cases hlt : k < n0
    · have hkL : k < x.procs.length := by rw [N0.out]; exact hlt
      have hkM : k < y.procs.length := by rw [← E0.out]; exact hlt
      obtain ⟨a, cx, A', c', A'', c'', hx, rfl, q0, q1, q2, q3, q4, hI⟩ := proc_at (f0.later (by decide) b3) k hkL
      obtain ⟨b, cy, B', d', B'', d'', hy, rfl, r0, r1, r2, r3, r4, hJ⟩ := proc_at (g0.later (by decide) b3) k hkM
      have HX := Lib.hid hx
      have HY := Lib.hid hy
      have HI := Lib.hid hI
      have HJ := Lib.hid hJ
      have hsz := hb.size
      clear hx hy hI hJ
      go_wp2_with fail
      go_still_tail 10, (by kernel_rfl)
      change wpList _ _ _ _ _ w3.drew
      have hdr : Below w3.heap.size w3 w3.drew := (Below.refl _ _).drew
      go_wp2_with fail
      refine (l3Proc (procShape.keep (w' := w3.drew) HI.out fun p _ => rfl) (procShape.keep (w' := w3.drew) HJ.out fun p _ => rfl)).mono ?_
      rintro e wq ⟨rfl, hb1⟩
      have hb1' : Below w3.heap.size w3 wq := hdr.trans hb1
      have bq := b3.trans (hb1'.mono b3.size)
      clear hb1 hdr q0 q1 q2 q3 q4 r0 r1 r2 r3 r4 cp0 cq0
      cases hq : procB cx cy
      · have HF := Lib.hid (show worldB x y = false from by rw [HB.out, procsB_no hkL hkM (by rw [HX.out, HY.out]; exact hq)]; simp)
        clear hq
        go_wp2_with fail
        go_ret
        exact ⟨by rw [HF.out]; rfl, bq⟩
      have HQ := Lib.hid hq
      clear hq
      go_wp2_with fail
      go_roundw
      case rel => exact ⟨k + 1, by omega, by go_num, Lib.hid (HEQ.out.more hkL hkM (by rw [HX.out, HY.out]; exact HQ.out)), hb.trans (hb1'.mono hsz)⟩
      case measure => simp [intOf]; omega
    have HB1 := Lib.hid (show worldB x y = (decide (x.signs = y.signs) && decide (x.said = y.said)) from by rw [HB.out, HEQ.out.all (by rw [N0.out, E0.out]) (by rw [N0.out]; omega)]; simp)
    clear HB hb HEQ
    go_wp2_with fail
    clear cp0 cq0 hlt hk
    go_loopw [6] (fun i wr => ∃ k : Nat, k ≤ n3 ∧ i = .int .i64 k ∧ Go.RowKit.Hid (x.signs.take k = y.signs.take k) ∧ Below w3.heap.size w3 wr) (fun i _ => n3 - (intOf i).toNat)
    case atStart => exact ⟨0, Nat.zero_le _, rfl, Lib.hid (rfl), Below.refl _ _⟩
    case round =>
      obtain ⟨k, hk, rfl, HEQ, hb⟩ := hrel
      have P4 := Lib.hid (rowk hb P3.out)
      have Q4 := Lib.hid (rowk hb Q3.out)
      have b4 := b3.trans (hb.mono b3.size)
      clear P3 Q3 b3
      generalize hwr : wr = w4 at *
      clear hwr
      have cp0 : w4.cell? ⟨w.heap.size, 3, none⟩ = some (.slice A3 n3 c3) := by rw [row_cell P4.out]; rfl
      have cq0 : w4.cell? ⟨w.heap.size + 1, 3, none⟩ = some (.slice B3 n3 d3) := by rw [row_cell Q4.out]; rfl
      by_cases hlt : k < n3
      · have hkL : k < x.signs.length := by rw [N3.out]; exact hlt
        have hkM : k < y.signs.length := by rw [← E3.out]; exact hlt
        obtain ⟨a, A', c', rfl, q0, s1⟩ := (f3.later (by decide) b4).iss.at_ k hkL
        obtain ⟨b, B', d', rfl, r0, s2⟩ := (g3.later (by decide) b4).iss.at_ k hkM
        have hsz := hb.size
        generalize hx : x.signs[k] = cx at *
        generalize hy : y.signs[k] = cy at *
        have HX := Lib.hid hx
        have HY := Lib.hid hy
        clear hx hy
        go_wp2_with fail
        go_still_tail 10, (by kernel_rfl)
        change wpList _ _ _ _ _ w4.drew
        have hdr : Below w4.heap.size w4 w4.drew := (Below.refl _ _).drew
        go_wp2_with fail
        refine (l3Ints (s1.later hdr) (s2.later hdr)).mono ?_
        rintro e wq ⟨rfl, hb1⟩
        have hb1' : Below w4.heap.size w4 wq := hdr.trans hb1
        have bq := b4.trans (hb1'.mono b4.size)
        clear hb1 hdr q0 r0 cp0 cq0
        cases hq : decide (cx = cy)
        · have HF := Lib.hid (show worldB x y = false from by rw [HB1.out, decide_eq_false (get_ne hkL hkM (by rw [HX.out, HY.out]; exact of_decide_eq_false hq))]; simp)
          clear hq
          go_wp2_with fail
          go_ret
          exact ⟨by rw [HF.out]; rfl, bq⟩
        have HQ := Lib.hid (of_decide_eq_true hq)
        clear hq
        go_wp2_with fail
        go_roundw
        case rel => exact ⟨k + 1, by omega, by go_num, Lib.hid (take_more HEQ.out hkL hkM (HX.out.trans (HQ.out.trans HY.out.symm))), hb.trans (hb1'.mono hsz)⟩
        case measure => simp [intOf]; omega
      have HB2 := Lib.hid (show worldB x y = decide (x.said = y.said) from by rw [HB1.out, decide_eq_true (take_whole HEQ.out (by rw [N3.out]; omega) (by rw [← E3.out]; omega))]; simp)
      clear HB1 hb HEQ
      go_wp2_with fail
      clear cp0 cq0 hlt hk
      go_loopw [7] (fun i wr => ∃ k : Nat, k ≤ n4 ∧ i = .int .i64 k ∧ Go.RowKit.Hid (∀ j, j < k * 2 → x.said.getD j 0 = y.said.getD j 0) ∧ Below w4.heap.size w4 wr) (fun i _ => n4 - (intOf i).toNat)
      case atStart => exact ⟨0, Nat.zero_le _, rfl, Lib.hid (fun j hj => by omega), Below.refl _ _⟩
      case round =>
        obtain ⟨k, hk, rfl, HEQ, hb⟩ := hrel
        have P5 := Lib.hid (rowk hb P4.out)
        have Q5 := Lib.hid (rowk hb Q4.out)
        have b5 := b4.trans (hb.mono b4.size)
        clear P4 Q4 b4
        generalize hwr : wr = w5 at *
        clear hwr
        have cp0 : w5.cell? ⟨w.heap.size, 4, none⟩ = some (.slice A4 n4 c4) := by rw [row_cell P5.out]; rfl
        have cq0 : w5.cell? ⟨w.heap.size + 1, 4, none⟩ = some (.slice B4 n4 d4) := by rw [row_cell Q5.out]; rfl
        by_cases hlt : k < n4
        · have f5 := f4.later b5
          have g5 := g4.later b5
          obtain ⟨a, rfl⟩ := f5.some (by omega)
          obtain ⟨b, rfl⟩ := g5.some (by omega)
          obtain ⟨c0, c1⟩ := f5.two k hlt
          obtain ⟨d0, d1⟩ := g5.two k hlt
          have hsz := hb.size
          generalize hx0 : x.said.getD (k * 2) 0 = x0 at c0
          generalize hx1 : x.said.getD (k * 2 + 1) 0 = x1 at c1
          generalize hy0 : y.said.getD (k * 2) 0 = y0 at d0
          generalize hy1 : y.said.getD (k * 2 + 1) 0 = y1 at d1
          have H8 := Lib.hid (And.intro hx0 (And.intro hx1 (And.intro hy0 hy1)))
          have i1 : (0 : Int) ≤ (k : Int) := by omega
          have i2 : (k : Int) < (n4 : Int) := by omega
          clear hx0 hx1 hy0 hy1 f5 g5
          by_cases hq : x0 = y0 ∧ x1 = y1
          · obtain ⟨rfl, rfl⟩ := hq
            have hne := fun W => neqSay x0 x1 x0 x1 W
            simp only [beq_self_eq_true, Bool.and_self, Bool.not_true] at hne
            go_wp2_with fail
            go_quiet (fail)
            go_wp2_with fail
            go_roundw
            case rel =>
              obtain ⟨a0, a1, e0, e1⟩ := H8.out
              exact ⟨k + 1, by omega, by go_num, Lib.hid (more_two HEQ.out (a0.trans e0.symm) (a1.trans e1.symm)), ⟨hb.os, hb.tape, hb.output, hb.size, hb.block⟩⟩
            case measure => simp [intOf]; omega
          · have hne := fun W => neqSay x0 x1 y0 y1 W
            have hb0 : (x0 == y0 && x1 == y1) = false := by
              apply Bool.eq_false_iff.2
              intro h
              simp only [Bool.and_eq_true, beq_iff_eq] at h
              exact hq h
            simp only [hb0, Bool.not_false] at hne
            have HQ := Lib.hid hq
            clear hq hb0
            go_wp2_with fail
            go_quiet (fail)
            go_wp2_with fail
            go_ret
            refine ⟨?_, ⟨b5.os, b5.tape, b5.output, b5.size, b5.block⟩⟩
            have : ¬ x.said = y.said := by
              intro e
              obtain ⟨a0, a1, e0, e1⟩ := H8.out
              rw [e] at a0 a1
              exact HQ.out ⟨a0.symm.trans e0, a1.symm.trans e1⟩
            rw [HB2.out, decide_eq_false this]; rfl
        · have HF := Lib.hid (show worldB x y = true from by
            rw [HB2.out]
            exact decide_eq_true (eq_two n4 (by have h1 := LX.out; have h2 := N4.out; omega) (by have h1 := LY.out; have h2 := E4.out; omega) (fun j hj => HEQ.out j (by omega))))
          go_wp2_with fail
          go_ret
          exact ⟨by rw [HF.out]; rfl, b5⟩
end Go.Proofs.Ytkiekabfmdcemaa