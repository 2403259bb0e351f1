/- impl.CpuTwin (written by tools/gen_twin2.py). -/
import Derived.Test.YtkiekabfmdcemaaIsTwin
import Derived.Test.YtkiekabfmdcemaaWorldSameI
namespace Go.Proofs.Ytkiekabfmdcemaa
open Go.ChangeShapes Go.WideShapes Go.ChangeAt Go.RowKit

set_option maxRecDepth 100000 in
set_option maxHeartbeats 4000000 in
theorem implCpuTwin {x : CpuP} {y : WorldP} {vs us : List Value} {S T : Nat → Prop} {w : World} (hI : cpuShape.I w S vs x) (hJ : worldShape.I w T us y) :
    Calls Try.prog 15 #[.agg vs.toArray, .agg us.toArray] w fun e w' => e = .returned (.bool (twinB x y)) ∧ Below w.heap.size w w' := by
  obtain ⟨A0, c0, A1, c1, A2, c2, A3, c3, A4, c4, A5, c5, A8, c8, A9, c9, A10, c10, rfl, f0, f1, f2, f3, f4, f5, f8, f9, f10⟩ := hI
  obtain ⟨B0, d0, B1, d1, B2, d2, B3, d3, B4, d4, rfl, g0, g1, g2, g3, g4⟩ := hJ
  have b0 : Below w.heap.size w ((w.alloc (.cells #[.slice A0 x.ctxs.length c0, .slice A1 x.cells.length c1, .slice A2 x.rooms.length c2, .slice A3 x.lines.length c3, .slice A4 x.signs.length c4, .slice A5 x.ready.length c5, .int .i64 x.left, .int .i64 x.gap, .slice A8 (x.said.length / 2) c8, .slice A9 x.ran.length c9, .slice A10 x.picks.length c10] 33)).alloc (.cells #[.slice B0 y.procs.length d0, .slice B1 y.cells.length d1, .slice B2 y.rooms.length d2, .slice B3 y.signs.length d3, .slice B4 (y.said.length / 2) d4] 43)) := ((Below.refl _ _).alloc (Nat.le_refl _) _).alloc (by simp) _
  have P0 := Lib.hid (row_first w #[.slice A0 x.ctxs.length c0, .slice A1 x.cells.length c1, .slice A2 x.rooms.length c2, .slice A3 x.lines.length c3, .slice A4 x.signs.length c4, .slice A5 x.ready.length c5, .int .i64 x.left, .int .i64 x.gap, .slice A8 (x.said.length / 2) c8, .slice A9 x.ran.length c9, .slice A10 x.picks.length c10] #[.slice B0 y.procs.length d0, .slice B1 y.cells.length d1, .slice B2 y.rooms.length d2, .slice B3 y.signs.length d3, .slice B4 (y.said.length / 2) d4] 33 43)
  have Q0 := Lib.hid (row_second w #[.slice A0 x.ctxs.length c0, .slice A1 x.cells.length c1, .slice A2 x.rooms.length c2, .slice A3 x.lines.length c3, .slice A4 x.signs.length c4, .slice A5 x.ready.length c5, .int .i64 x.left, .int .i64 x.gap, .slice A8 (x.said.length / 2) c8, .slice A9 x.ran.length c9, .slice A10 x.picks.length c10] #[.slice B0 y.procs.length d0, .slice B1 y.cells.length d1, .slice B2 y.rooms.length d2, .slice B3 y.signs.length d3, .slice B4 (y.said.length / 2) d4] 33 43)
  obtain ⟨t0, ht0⟩ : ∃ t, twins x.ctxs y.procs = t := ⟨_, rfl⟩
  obtain ⟨t1, ht1⟩ : ∃ t, (true && decide (x.cells = y.cells) && decide (x.rooms = y.rooms) && decide (x.signs = y.signs) && decide (x.said = y.said)) = t := ⟨_, rfl⟩
  have HT := Lib.hid (show twinB x y = (t0 && t1) from by rw [← ht0, ← ht1]; unfold twinB; simp only [Bool.true_and, Bool.and_assoc])
  have H0 := Lib.hid ht0
  have H1 := Lib.hid ht1
  clear ht0 ht1
  go_enter Try.func15, Try.ntmps15
  go_wp2_with fail
  refine (equalTwins (f0.later (by decide) b0) (g0.later (by decide) b0)).mono ?_
  rintro e w1 ⟨rfl, hb⟩
  rw [H0.out]
  have b1 := b0.trans (hb.mono b0.size)
  have P1 := rowk hb P0.out
  have Q1 := rowk hb Q0.out
  have z1 : w.heap.size + 2 ≤ w1.heap.size := by have := hb.size; simp at this; omega
  clear hb b0 P0 Q0 H0
  have qq : w1.cell? ⟨w.heap.size + 1, 0, none⟩ = some (.slice B0 y.procs.length d0) := by rw [row_cell Q1]; rfl
  have qf := row_frozen Q1 0
  have b2 := b1.setCell (p := ⟨w.heap.size + 1, 0, none⟩) (by show _ ≤ w.heap.size + 1; omega) (.slice none 0 0)
  have P2 := Lib.hid ((row_other (i := 0) (show w.heap.size ≠ w.heap.size + 1 by omega) (.slice none 0 0)).trans P1)
  have Q2 := Lib.hid (show (w1.setCell ⟨w.heap.size + 1, 0, none⟩ (.slice none 0 0)).heap[w.heap.size + 1]? = some (.cells #[.slice none 0 0, .slice B1 y.cells.length d1, .slice B2 y.rooms.length d2, .slice B3 y.signs.length d3, .slice B4 (y.said.length / 2) d4] 43 (0, 0)) from by rw [row_set Q1]; rfl)
  have z2 : w.heap.size + 2 ≤ (w1.setCell ⟨w.heap.size + 1, 0, none⟩ (.slice none 0 0)).heap.size := by rw [size_set]; exact z1
  have BU := Lib.hid b2
  clear b2 P1 Q1 b1 z1
  go_wp2_with fail
  clear qq qf
  generalize w1.setCell ⟨w.heap.size + 1, 0, none⟩ (.slice none 0 0) = u at *
  have HK := Lib.hid (show ∀ W, Below u.heap.size u W → Calls Try.prog 37 #[.agg #[.slice A0 x.ctxs.length c0, .slice A1 x.cells.length c1, .slice A2 x.rooms.length c2, .slice A3 x.lines.length c3, .slice A4 x.signs.length c4, .slice A5 x.ready.length c5, .int .i64 x.left, .int .i64 x.gap, .slice A8 (x.said.length / 2) c8, .slice A9 x.ran.length c9, .slice A10 x.picks.length c10]] W fun e w' => e = .returned (.agg #[.slice none 0 0, .slice A1 x.cells.length c1, .slice A2 x.rooms.length c2, .slice A4 x.signs.length c4, .slice A8 (x.said.length / 2) c8]) ∧ Below u.heap.size u w' from fun W hW => (common_ _ _ _ _ _ _ _ _ _ _ _ _ _ _ _ _ _ _ _ _ _ _ _ W rfl rfl rfl rfl).mono fun e w' he => ⟨he.1, hW.trans (he.2.mono hW.size)⟩)
  have HW := Lib.hid (show ∀ W, Below u.heap.size u W → Calls Try.prog 18 #[.agg #[.slice none 0 0, .slice A1 x.cells.length c1, .slice A2 x.rooms.length c2, .slice A4 x.signs.length c4, .slice A8 (x.said.length / 2) c8], .agg #[.slice none 0 0, .slice B1 y.cells.length d1, .slice B2 y.rooms.length d2, .slice B3 y.signs.length d3, .slice B4 (y.said.length / 2) d4]] W fun e w' => e = .returned (.bool t1) ∧ Below u.heap.size u w' from fun W hW => by
    have bw := BU.out.trans (hW.mono BU.out.size)
    refine (worldSame_ (b := true) (f1.later bw) (g1.later bw) (f2.later bw) (g2.later bw) (f4.later (by decide) bw) (g3.later (by decide) bw) (f8.later bw) (g4.later bw) (fun V _ => equalNone 0 0 V)).mono fun e w' he => ⟨by rw [← H1.out]; exact he.1, hW.trans (he.2.mono hW.size)⟩)
  generalize hh : w.heap.size = h at *
  have HH := Lib.hid hh
  clear hh f0 f1 f2 f3 f4 f5 f8 f9 f10 g0 g1 g2 g3 g4 H1
  have KS := Lib.hid (show ∀ W, Below u.heap.size u W → (W.cell? ⟨h, 0, none⟩ = some (.slice A0 x.ctxs.length c0) ∧ W.cell? ⟨h, 1, none⟩ = some (.slice A1 x.cells.length c1) ∧ W.cell? ⟨h, 2, none⟩ = some (.slice A2 x.rooms.length c2) ∧ W.cell? ⟨h, 3, none⟩ = some (.slice A3 x.lines.length c3) ∧ W.cell? ⟨h, 4, none⟩ = some (.slice A4 x.signs.length c4) ∧ W.cell? ⟨h, 5, none⟩ = some (.slice A5 x.ready.length c5) ∧ W.cell? ⟨h, 6, none⟩ = some (.int .i64 x.left) ∧ W.cell? ⟨h, 7, none⟩ = some (.int .i64 x.gap) ∧ W.cell? ⟨h, 8, none⟩ = some (.slice A8 (x.said.length / 2) c8) ∧ W.cell? ⟨h, 9, none⟩ = some (.slice A9 x.ran.length c9) ∧ W.cell? ⟨h, 10, none⟩ = some (.slice A10 x.picks.length c10) ∧ W.cell? ⟨h + 1, 0, none⟩ = some (.slice none 0 0) ∧ W.cell? ⟨h + 1, 1, none⟩ = some (.slice B1 y.cells.length d1) ∧ W.cell? ⟨h + 1, 2, none⟩ = some (.slice B2 y.rooms.length d2) ∧ W.cell? ⟨h + 1, 3, none⟩ = some (.slice B3 y.signs.length d3) ∧ W.cell? ⟨h + 1, 4, none⟩ = some (.slice B4 (y.said.length / 2) d4) ∧ Below u.heap.size u W) from fun W hW => ⟨cell_later (by rw [row_cell P2.out]; rfl) hW, cell_later (by rw [row_cell P2.out]; rfl) hW, cell_later (by rw [row_cell P2.out]; rfl) hW, cell_later (by rw [row_cell P2.out]; rfl) hW, cell_later (by rw [row_cell P2.out]; rfl) hW, cell_later (by rw [row_cell P2.out]; rfl) hW, cell_later (by rw [row_cell P2.out]; rfl) hW, cell_later (by rw [row_cell P2.out]; rfl) hW, cell_later (by rw [row_cell P2.out]; rfl) hW, cell_later (by rw [row_cell P2.out]; rfl) hW, cell_later (by rw [row_cell P2.out]; rfl) hW, cell_later (by rw [row_cell Q2.out]; rfl) hW, cell_later (by rw [row_cell Q2.out]; rfl) hW, cell_later (by rw [row_cell Q2.out]; rfl) hW, cell_later (by rw [row_cell Q2.out]; rfl) hW, cell_later (by rw [row_cell Q2.out]; rfl) hW, hW⟩)
  clear P2 Q2
  cases t0
  ·
    refine wp_region_held_drew (S := fun W => W.cell? ⟨h, 0, none⟩ = some (.slice A0 x.ctxs.length c0) ∧ W.cell? ⟨h, 1, none⟩ = some (.slice A1 x.cells.length c1) ∧ W.cell? ⟨h, 2, none⟩ = some (.slice A2 x.rooms.length c2) ∧ W.cell? ⟨h, 3, none⟩ = some (.slice A3 x.lines.length c3) ∧ W.cell? ⟨h, 4, none⟩ = some (.slice A4 x.signs.length c4) ∧ W.cell? ⟨h, 5, none⟩ = some (.slice A5 x.ready.length c5) ∧ W.cell? ⟨h, 6, none⟩ = some (.int .i64 x.left) ∧ W.cell? ⟨h, 7, none⟩ = some (.int .i64 x.gap) ∧ W.cell? ⟨h, 8, none⟩ = some (.slice A8 (x.said.length / 2) c8) ∧ W.cell? ⟨h, 9, none⟩ = some (.slice A9 x.ran.length c9) ∧ W.cell? ⟨h, 10, none⟩ = some (.slice A10 x.picks.length c10) ∧ W.cell? ⟨h + 1, 0, none⟩ = some (.slice none 0 0) ∧ W.cell? ⟨h + 1, 1, none⟩ = some (.slice B1 y.cells.length d1) ∧ W.cell? ⟨h + 1, 2, none⟩ = some (.slice B2 y.rooms.length d2) ∧ W.cell? ⟨h + 1, 3, none⟩ = some (.slice B3 y.signs.length d3) ∧ W.cell? ⟨h + 1, 4, none⟩ = some (.slice B4 (y.said.length / 2) d4) ∧ Below u.heap.size u W) (by kernel_rfl) (KS.out _ (Below.refl _ _).drew) (fun hHeld => ?_)
    refine take_w (i := 0) (d := some 12) (v := ?_) rfl rfl (by kernel_rfl) (by kernel_rfl) (by kernel_rfl) (fun _ _ _ h => h) (by rfl) ?_ (by assumption) ?_
    rotate_left
    · intro _ hSw; (try dsimp only at hSw); go_simp; try (with_reducible rfl)
    try simp only [Act.put, List.setIfInBounds_toArray, List.set_cons_zero, List.set_cons_succ]
    refine take_w (i := 1) (d := some 13) (v := ?_) rfl rfl (by kernel_rfl) (by kernel_rfl) (by kernel_rfl) (fun _ _ _ h => h) (by rfl) ?_ (by assumption) ?_
    rotate_left
    · intro _ hSw; (try dsimp only at hSw); go_simp; try (with_reducible rfl)
    try simp only [Act.put, List.setIfInBounds_toArray, List.set_cons_zero, List.set_cons_succ]
    refine take_u (i := 2) (d := some 14) rfl rfl (by kernel_rfl) (by kernel_rfl) (by kernel_rfl) (fun _ _ _ h => h) (by rfl) (by assumption) ?_
    try simp only [Act.put, List.setIfInBounds_toArray, List.set_cons_zero, List.set_cons_succ]
    refine take_u (i := 3) (d := some 15) rfl rfl (by kernel_rfl) (by kernel_rfl) (by kernel_rfl) (fun _ _ _ h => h) (by rfl) (by assumption) ?_
    try simp only [Act.put, List.setIfInBounds_toArray, List.set_cons_zero, List.set_cons_succ]
    refine take_u (i := 4) (d := some 16) rfl rfl (by kernel_rfl) (by kernel_rfl) (by kernel_rfl) (fun _ _ _ h => h) (by rfl) (by assumption) ?_
    try simp only [Act.put, List.setIfInBounds_toArray, List.set_cons_zero, List.set_cons_succ]
    refine take_u (i := 5) (d := some 17) rfl rfl (by kernel_rfl) (by kernel_rfl) (by kernel_rfl) (fun _ _ _ h => h) (by rfl) (by assumption) ?_
    try simp only [Act.put, List.setIfInBounds_toArray, List.set_cons_zero, List.set_cons_succ]
    refine take_w (i := 6) (d := some 18) (v := ?_) rfl rfl (by kernel_rfl) (by kernel_rfl) (by kernel_rfl) (fun _ _ _ h => h) (by rfl) ?_ (by assumption) ?_
    rotate_left
    · intro _ hSw; (try dsimp only at hSw); go_simp; try (with_reducible rfl)
    try simp only [Act.put, List.setIfInBounds_toArray, List.set_cons_zero, List.set_cons_succ]
    refine take_w (i := 7) (d := some 4) (v := ?_) rfl rfl (by kernel_rfl) (by kernel_rfl) (by kernel_rfl) (fun _ _ _ h => h) (by rfl) ?_ (by assumption) ?_
    rotate_left
    · intro _ hSw; (try dsimp only at hSw); go_simp; try (with_reducible rfl)
    try simp only [Act.put, List.setIfInBounds_toArray, List.set_cons_zero, List.set_cons_succ]
    refine wpAnyH_done (by kernel_rfl) ?_ _
    go_wp2
    go_ret
    exact ⟨by rw [HT.out]; rfl, by rw [HH.out]; exact BU.out.trans ((Below.refl u.heap.size u).drew.mono (by omega))⟩
  refine wp_region_held_drew (S := fun W => W.cell? ⟨h, 0, none⟩ = some (.slice A0 x.ctxs.length c0) ∧ W.cell? ⟨h, 1, none⟩ = some (.slice A1 x.cells.length c1) ∧ W.cell? ⟨h, 2, none⟩ = some (.slice A2 x.rooms.length c2) ∧ W.cell? ⟨h, 3, none⟩ = some (.slice A3 x.lines.length c3) ∧ W.cell? ⟨h, 4, none⟩ = some (.slice A4 x.signs.length c4) ∧ W.cell? ⟨h, 5, none⟩ = some (.slice A5 x.ready.length c5) ∧ W.cell? ⟨h, 6, none⟩ = some (.int .i64 x.left) ∧ W.cell? ⟨h, 7, none⟩ = some (.int .i64 x.gap) ∧ W.cell? ⟨h, 8, none⟩ = some (.slice A8 (x.said.length / 2) c8) ∧ W.cell? ⟨h, 9, none⟩ = some (.slice A9 x.ran.length c9) ∧ W.cell? ⟨h, 10, none⟩ = some (.slice A10 x.picks.length c10) ∧ W.cell? ⟨h + 1, 0, none⟩ = some (.slice none 0 0) ∧ W.cell? ⟨h + 1, 1, none⟩ = some (.slice B1 y.cells.length d1) ∧ W.cell? ⟨h + 1, 2, none⟩ = some (.slice B2 y.rooms.length d2) ∧ W.cell? ⟨h + 1, 3, none⟩ = some (.slice B3 y.signs.length d3) ∧ W.cell? ⟨h + 1, 4, none⟩ = some (.slice B4 (y.said.length / 2) d4) ∧ Below u.heap.size u W) (by kernel_rfl) (KS.out _ (Below.refl _ _).drew) (fun hHeld => ?_)
  refine take_w (i := 0) (d := some 12) (v := ?_) rfl rfl (by kernel_rfl) (by kernel_rfl) (by kernel_rfl) (fun _ _ _ h => h) (by rfl) ?_ (by assumption) ?_
  rotate_left
  · intro _ hSw; (try dsimp only at hSw); go_simp; try (with_reducible rfl)
  try simp only [Act.put, List.setIfInBounds_toArray, List.set_cons_zero, List.set_cons_succ]
  refine take_w (i := 1) (d := some 13) (v := ?_) rfl rfl (by kernel_rfl) (by kernel_rfl) (by kernel_rfl) (fun _ _ _ h => h) (by rfl) ?_ (by assumption) ?_
  rotate_left
  · intro _ hSw; (try dsimp only at hSw); go_simp; try (with_reducible rfl)
  try simp only [Act.put, List.setIfInBounds_toArray, List.set_cons_zero, List.set_cons_succ]
  refine take_w (i := 2) (d := some 14) (v := ?_) rfl rfl (by kernel_rfl) (by kernel_rfl) (by kernel_rfl) (fun _ _ _ h => h) (by rfl) ?_ (by assumption) ?_
  rotate_left
  · intro _ hSw; (try dsimp only at hSw); go_simp; try (with_reducible rfl)
  try simp only [Act.put, List.setIfInBounds_toArray, List.set_cons_zero, List.set_cons_succ]
  refine take_w (i := 4) (d := some 16) (v := ?_) rfl rfl (by kernel_rfl) (by kernel_rfl) (by kernel_rfl) (fun _ _ _ h => h) (by rfl) ?_ (by assumption) ?_
  rotate_left
  · intro _ hSw; (try dsimp only at hSw); go_simp; try (with_reducible rfl)
  try simp only [Act.put, List.setIfInBounds_toArray, List.set_cons_zero, List.set_cons_succ]
  refine wpAnyH_ready (rs := [3]) (by kernel_rfl) (by simp) ?_
  refine AllReadyH.cons rfl (fun K hK => ?_) AllReadyH.nil
  go_simp
  go_at_call 37
  refine (HK.out _ (by first | assumption | exact (Below.refl _ _).drew)).mono ?_
  rintro e w3 ⟨rfl, b3⟩
  go_wp2_with fail
  refine hK.out _ _ (KS.out _ b3) (fun hHeld3 => ?_)
  clear hK K
  try simp only [Act.put, List.setIfInBounds_toArray, List.set_cons_zero, List.set_cons_succ]
  refine wpAnyH_ready (rs := [5]) (by kernel_rfl) (by simp) ?_
  refine AllReadyH.cons rfl (fun K hK => ?_) AllReadyH.nil
  go_simp
  go_at_call 18
  refine (HW.out _ (by first | assumption | exact (Below.refl _ _).drew)).mono ?_
  rintro e w5 ⟨rfl, b5⟩
  go_wp2_with fail
  refine hK.out _ _ (KS.out _ b5) (fun hHeld5 => ?_)
  clear hK K
  try simp only [Act.put, List.setIfInBounds_toArray, List.set_cons_zero, List.set_cons_succ]
  refine take_w (i := 6) (d := some 18) (v := ?_) rfl rfl (by kernel_rfl) (by kernel_rfl) (by kernel_rfl) (fun _ _ _ h => h) (by rfl) ?_ (by assumption) ?_
  rotate_left
  · intro _ hSw; (try dsimp only at hSw); go_simp; try (with_reducible rfl)
  try simp only [Act.put, List.setIfInBounds_toArray, List.set_cons_zero, List.set_cons_succ]
  refine take_w (i := 7) (d := some 4) (v := ?_) rfl rfl (by kernel_rfl) (by kernel_rfl) (by kernel_rfl) (fun _ _ _ h => h) (by rfl) ?_ (by assumption) ?_
  rotate_left
  · intro _ hSw; (try dsimp only at hSw); go_simp; try (with_reducible rfl)
  try simp only [Act.put, List.setIfInBounds_toArray, List.set_cons_zero, List.set_cons_succ]
  refine wpAnyH_done (by kernel_rfl) ?_ _
  go_wp2
  go_ret
  exact ⟨by rw [HT.out]; cases t1 <;> rfl, by rw [HH.out]; exact BU.out.trans (b5.mono (by omega))⟩
end Go.Proofs.Ytkiekabfmdcemaa