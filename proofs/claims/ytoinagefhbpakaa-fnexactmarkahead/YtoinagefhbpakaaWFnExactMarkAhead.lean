/- The walk of laws.FnExactMarkAhead (written by tools/gen_law2.py). -/
import Derived.Test.YtoinagefhbpakaaMarkAh
import Derived.Test.YtoinagefhbpakaaTakeOp
namespace Go.Proofs.Ytoinagefhbpakaa
open Go.ChangeShapes Go.WideShapes Go.ChangeAt Go.RowKit

theorem list5 {vs : List Value} (h : vs.length = 5) : ∃ v0 v1 v2 v3 v4 : Value, vs = [v0, v1, v2, v3, v4] := by
  match vs, h with
  | [v0, v1, v2, v3, v4], _ => exact ⟨v0, v1, v2, v3, v4, rfl⟩
theorem cells5x {W : World} {g : Nat} {t : TypeId} {v0 v1 v2 v3 v4 : Value} (h : W.heap[g]? = some (.cells #[v0, v1, v2, v3, v4] t (0, 0))) :
    W.cell? ⟨g, 0, none⟩ = some v0 ∧ W.cell? ⟨g, 1, none⟩ = some v1 ∧ W.cell? ⟨g, 2, none⟩ = some v2 ∧ W.cell? ⟨g, 3, none⟩ = some v3 ∧ W.cell? ⟨g, 4, none⟩ = some v4 := by
  refine ⟨?_, ?_, ?_, ?_, ?_⟩ <;> (rw [row_cell h]; rfl)

set_option maxRecDepth 100000 in
set_option maxHeartbeats 4000000 in
theorem wFnExactMarkAhead (x : MarkP) (y : MarkP) (xa0 xa1 xa2 xa3 xa4 xb0 xb1 xb2 xb3 xb4 : Value) (w : World) (hI : markShape.I w (fun _ => True) [xa0, xa1, xa2, xa3, xa4] x) (hJ : markShape.I w (fun _ => True) [xb0, xb1, xb2, xb3, xb4] y) :
    Calls Try.prog 5 #[.agg #[xa0, xa1, xa2, xa3, xa4], .agg #[xb0, xb1, xb2, xb3, xb4]] w fun e w' => e = .returned (.bool true) ∧ Below w.heap.size w w' := by
  have HI := Lib.hid hI
  have HJ := Lib.hid hJ
  clear hI hJ
  have b0 : Below w.heap.size w ((w.alloc (.cells #[xa0, xa1, xa2, xa3, xa4] 28)).alloc (.cells #[xb0, xb1, xb2, xb3, xb4] 28)) := ((Below.refl _ _).alloc (Nat.le_refl _) _).alloc (by simp) _
  have PA0 := Lib.hid (row_first w #[xa0, xa1, xa2, xa3, xa4] #[xb0, xb1, xb2, xb3, xb4] 28 28)
  have PB0 := Lib.hid (row_second w #[xa0, xa1, xa2, xa3, xa4] #[xb0, xb1, xb2, xb3, xb4] 28 28)
  by_cases hx : ¬ (sizeMark x : Int) ≤ 1048576
  · have H := Lib.hid (szI_no hx)
    clear hx
    obtain ⟨q0, q1, q2, q3, q4⟩ := cells5x PA0.out
    go_enter Try.func5, Try.ntmps5
    go_wp2_with fail
    refine (mark_sz (left := 1048576) (markShape.later HI.out b0) (by omega) (by omega)).mono ?_
    rintro e w1 ⟨rfl, hb⟩
    rw [H.out]
    have b1 := b0.trans (hb.mono b0.size)
    clear hb
    go_wp2_with fail
    go_ret
    exact ⟨rfl, b1⟩
  have hx1 := Decidable.not_not.1 hx
  clear hx
  obtain ⟨L, EL, p1, q1⟩ : ∃ z : Int, Go.RowKit.Hid (szI (sizeMark x) 1048576 = z) ∧ 0 ≤ z ∧ z ≤ 1048576 := ⟨1048576 - (sizeMark x : Int), Lib.hid (szI_yes hx1), by omega, by omega⟩
  have nx : sizeMark x ≤ 1048576 := by omega
  clear hx1
  obtain ⟨qA0, qA1, qA2, qA3, qA4⟩ := cells5x PA0.out
  go_enter Try.func5, Try.ntmps5
  go_wp2_with fail
  clear qA0 qA1 qA2 qA3 qA4
  refine (mark_sz (left := 1048576) (markShape.later HI.out b0) (by omega) (by omega)).mono ?_
  rintro e w1 ⟨rfl, hb⟩
  rw [EL.out]
  have b1 := b0.trans (hb.mono b0.size)
  have PA1 := Lib.hid (rowk hb PA0.out)
  have PB1 := Lib.hid (rowk hb PB0.out)
  clear hb b0 PA0 PB0
  obtain ⟨qB0, qB1, qB2, qB3, qB4⟩ := cells5x PB1.out
  by_cases hy : ¬ (sizeMark y : Int) ≤ L
  · have H := Lib.hid (szI_no hy)
    clear hy
    go_wp2_with fail
    refine (mark_sz (markShape.later HJ.out b1) p1 q1).mono ?_
    rintro e w2 ⟨rfl, hb⟩
    rw [H.out]
    have b2 := b1.trans (hb.mono b1.size)
    clear hb
    go_wp2_with fail
    go_ret
    exact ⟨rfl, b2⟩
  have hy1 := Decidable.not_not.1 hy
  clear hy
  obtain ⟨M, EM, p2⟩ : ∃ z : Int, Go.RowKit.Hid (szI (sizeMark y) L = z) ∧ 0 ≤ z := ⟨L - (sizeMark y : Int), Lib.hid (szI_yes hy1), by omega⟩
  have ny : sizeMark y ≤ 1048576 := by omega
  clear hy1
  go_wp2_with fail
  clear qB0 qB1 qB2 qB3 qB4
  refine (mark_sz (markShape.later HJ.out b1) p1 q1).mono ?_
  rintro e w2 ⟨rfl, hb⟩
  rw [EM.out]
  have b2 := b1.trans (hb.mono b1.size)
  have PA2 := Lib.hid (rowk hb PA1.out)
  have PB2 := Lib.hid (rowk hb PB1.out)
  clear hb b1 PA1 PB1
  obtain ⟨d, hd⟩ : ∃ d, aheadB x.who x.clock y.who y.clock = d := ⟨_, rfl⟩
  have HD := Lib.hid hd
  clear hd
  have KS := Lib.hid (show ∀ W, Below w2.heap.size w2 W → (W.cell? ⟨w.heap.size, 0, none⟩ = some (xa0) ∧ W.cell? ⟨w.heap.size, 1, none⟩ = some (xa1) ∧ W.cell? ⟨w.heap.size, 2, none⟩ = some (xa2) ∧ W.cell? ⟨w.heap.size, 3, none⟩ = some (xa3) ∧ W.cell? ⟨w.heap.size, 4, none⟩ = some (xa4) ∧ W.cell? ⟨w.heap.size + 1, 0, none⟩ = some (xb0) ∧ W.cell? ⟨w.heap.size + 1, 1, none⟩ = some (xb1) ∧ W.cell? ⟨w.heap.size + 1, 2, none⟩ = some (xb2) ∧ W.cell? ⟨w.heap.size + 1, 3, none⟩ = some (xb3) ∧ W.cell? ⟨w.heap.size + 1, 4, none⟩ = some (xb4) ∧ Below w2.heap.size w2 W) from fun W hW => ⟨cell_later (by rw [row_cell PA2.out]; rfl) hW, cell_later (by rw [row_cell PA2.out]; rfl) hW, cell_later (by rw [row_cell PA2.out]; rfl) hW, cell_later (by rw [row_cell PA2.out]; rfl) hW, cell_later (by rw [row_cell PA2.out]; rfl) hW, cell_later (by rw [row_cell PB2.out]; rfl) hW, cell_later (by rw [row_cell PB2.out]; rfl) hW, cell_later (by rw [row_cell PB2.out]; rfl) hW, cell_later (by rw [row_cell PB2.out]; rfl) hW, cell_later (by rw [row_cell PB2.out]; rfl) hW, hW⟩)
  go_wp2_with fail
  refine wp_region_held_drew (S := fun W => W.cell? ⟨w.heap.size, 0, none⟩ = some (xa0) ∧ W.cell? ⟨w.heap.size, 1, none⟩ = some (xa1) ∧ W.cell? ⟨w.heap.size, 2, none⟩ = some (xa2) ∧ W.cell? ⟨w.heap.size, 3, none⟩ = some (xa3) ∧ W.cell? ⟨w.heap.size, 4, none⟩ = some (xa4) ∧ W.cell? ⟨w.heap.size + 1, 0, none⟩ = some (xb0) ∧ W.cell? ⟨w.heap.size + 1, 1, none⟩ = some (xb1) ∧ W.cell? ⟨w.heap.size + 1, 2, none⟩ = some (xb2) ∧ W.cell? ⟨w.heap.size + 1, 3, none⟩ = some (xb3) ∧ W.cell? ⟨w.heap.size + 1, 4, none⟩ = some (xb4) ∧ Below w2.heap.size w2 W) (by kernel_rfl) (KS.out _ (Below.refl _ _).drew) (fun hHeld => ?_)
  refine take_w (i := 0) (d := some 20) (v := ?_) rfl rfl (by kernel_rfl) (by kernel_rfl) (by kernel_rfl) (fun _ _ _ h => h) (by rfl) ?_ (by assumption) ?_
  rotate_left
  · intro _ hSw; (try dsimp only at hSw); go_simp; try (with_reducible rfl)
  try simp only [Act.put, List.setIfInBounds_toArray, List.set_cons_zero, List.set_cons_succ]
  refine take_w (i := 2) (d := some 22) (v := ?_) rfl rfl (by kernel_rfl) (by kernel_rfl) (by kernel_rfl) (fun _ _ _ h => h) (by rfl) ?_ (by assumption) ?_
  rotate_left
  · intro _ hSw; (try dsimp only at hSw); go_simp; try (with_reducible rfl)
  try simp only [Act.put, List.setIfInBounds_toArray, List.set_cons_zero, List.set_cons_succ]
  have hdr : Below w2.heap.size w2 w2.drew := (Below.refl _ _).drew
  have bwd := b2.trans (hdr.mono b2.size)
  refine wpAnyH_ready (rs := [1]) (by kernel_rfl) (by simp) ?_
  refine AllReadyH.cons rfl (fun K hK => ?_) AllReadyH.nil
  go_simp
  go_at_call 21
  refine (mark_to (markShape.later HI.out bwd) nx).mono ?_
  rintro e w3 ⟨v3, rfl, i3, hb⟩
  have u3 := hdr.trans (hb.mono (by simp))
  have b3 := b2.trans (u3.mono b2.size)
  have I3 := Lib.hid i3
  clear hb i3
  go_wp2_with fail
  refine hK.out _ _ (KS.out _ u3) (fun hHeld3 => ?_)
  clear hK K
  try simp only [Act.put, List.setIfInBounds_toArray, List.set_cons_zero, List.set_cons_succ]
  refine wpAnyH_ready (rs := [3]) (by kernel_rfl) (by simp) ?_
  refine AllReadyH.cons rfl (fun K hK => ?_) AllReadyH.nil
  go_simp
  go_at_call 21
  refine (mark_to (markShape.later HJ.out b3) ny).mono ?_
  rintro e w4 ⟨v4, rfl, i4, hb⟩
  have u4 := u3.trans (hb.mono u3.size)
  have b4 := b2.trans (u4.mono b2.size)
  replace I3 := Lib.hid (markShape.later I3.out hb)
  have I4 := Lib.hid i4
  clear hb i4 hHeld hHeld3
  go_wp2_with fail
  refine hK.out _ _ (KS.out _ u4) (fun hHeld4 => ?_)
  clear hK K
  try simp only [Act.put, List.setIfInBounds_toArray, List.set_cons_zero, List.set_cons_succ]
  refine wpAnyH_ready (rs := [4]) (by kernel_rfl) (by simp) ?_
  refine AllReadyH.cons rfl (fun K hK => ?_) AllReadyH.nil
  go_simp
  go_at_call 20
  refine (specMarkAhead_ I3.out I4.out).mono ?_
  rintro e w5 ⟨rfl, hb⟩
  rw [HD.out]
  have u5 := u4.trans (hb.mono u4.size)
  clear hb I3 I4
  go_wp2_with fail
  refine hK.out _ _ (KS.out _ u5) (fun hHeld5 => ?_)
  clear hK K
  try simp only [Act.put, List.setIfInBounds_toArray, List.set_cons_zero, List.set_cons_succ]
  refine take_w (i := 5) (d := some 6) (v := ?_) rfl rfl (by kernel_rfl) (by kernel_rfl) (by kernel_rfl) (fun _ _ _ h => h) (by rfl) ?_ (by assumption) ?_
  rotate_left
  · intro _ hSw; (try dsimp only at hSw); go_simp; try (with_reducible rfl)
  try simp only [Act.put, List.setIfInBounds_toArray, List.set_cons_zero, List.set_cons_succ]
  refine wpAnyH_done (by kernel_rfl) ?_ _
  have hb := u5
  clear KS hHeld4 hHeld5 hdr bwd u3 u4 u5 b3 b4
  have b5 := b2.trans (hb.mono b2.size)
  have PA5 := Lib.hid (rowk hb PA2.out)
  have PB5 := Lib.hid (rowk hb PB2.out)
  clear hb b2 PA2 PB2
  obtain ⟨qA0, qA1, qA2, qA3, qA4⟩ := cells5x PA5.out
  go_wp2_with fail
  clear qA0 qA1 qA2 qA3 qA4
  refine (mark_to (markShape.later HI.out b5) nx).mono ?_
  rintro e w6 ⟨v6, rfl, i6, hb⟩
  have DC := Lib.hid i6
  clear i6
  have b6 := b5.trans (hb.mono b5.size)
  have PA6 := Lib.hid (rowk hb PA5.out)
  have PB6 := Lib.hid (rowk hb PB5.out)
  clear hb b5 PA5 PB5
  obtain ⟨uA4, uc4, rfl, _⟩ := id DC.out
  have hb : Below w6.heap.size w6 (w6.alloc (.cells #[.int .i64 x.who, .int .i64 x.at_, .bool x.store, .int .i64 x.cell, .slice uA4 x.clock.length uc4] 31)) := (Below.refl _ _).alloc (Nat.le_refl _) _
  have PC0 := Lib.hid (new_row w6 #[.int .i64 x.who, .int .i64 x.at_, .bool x.store, .int .i64 x.cell, .slice uA4 x.clock.length uc4] 31)
  obtain ⟨qB0, qB1, qB2, qB3, qB4⟩ := cells5x (rowk hb PB6.out)
  go_wp2_with fail
  clear qB0 qB1 qB2 qB3 qB4
  generalize w6.alloc (.cells #[.int .i64 x.who, .int .i64 x.at_, .bool x.store, .int .i64 x.cell, .slice uA4 x.clock.length uc4] 31) = w7 at *
  generalize hgC : w6.heap.size = gC at hb PC0 ⊢
  rw [← hgC] at hb
  have b7 := b6.trans (hb.mono b6.size)
  have PA7 := Lib.hid (rowk hb PA6.out)
  have PB7 := Lib.hid (rowk hb PB6.out)
  replace DC := Lib.hid (markShape.later DC.out hb)
  clear hb b6 PA6 PB6
  have PC7 := PC0
  clear PC0 hgC
  refine (mark_to (markShape.later HJ.out b7) ny).mono ?_
  rintro e w8 ⟨v8, rfl, i8, hb⟩
  have DD := Lib.hid i8
  clear i8
  have b8 := b7.trans (hb.mono b7.size)
  have PA8 := Lib.hid (rowk hb PA7.out)
  have PB8 := Lib.hid (rowk hb PB7.out)
  have PC8 := Lib.hid (rowk hb PC7.out)
  replace DC := Lib.hid (markShape.later DC.out hb)
  clear hb b7 PA7 PB7 PC7
  obtain ⟨vA4, vc4, rfl, _⟩ := id DD.out
  have hb : Below w8.heap.size w8 (w8.alloc (.cells #[.int .i64 y.who, .int .i64 y.at_, .bool y.store, .int .i64 y.cell, .slice vA4 y.clock.length vc4] 31)) := (Below.refl _ _).alloc (Nat.le_refl _) _
  have PD0 := Lib.hid (new_row w8 #[.int .i64 y.who, .int .i64 y.at_, .bool y.store, .int .i64 y.cell, .slice vA4 y.clock.length vc4] 31)
  obtain ⟨qC0, qC1, qC2, qC3, qC4⟩ := cells5x (rowk hb PC8.out)
  go_wp2_with fail
  clear qC0 qC1 qC2 qC3 qC4
  generalize w8.alloc (.cells #[.int .i64 y.who, .int .i64 y.at_, .bool y.store, .int .i64 y.cell, .slice vA4 y.clock.length vc4] 31) = w9 at *
  generalize hgD : w8.heap.size = gD at hb PD0 ⊢
  rw [← hgD] at hb
  have b9 := b8.trans (hb.mono b8.size)
  have PA9 := Lib.hid (rowk hb PA8.out)
  have PB9 := Lib.hid (rowk hb PB8.out)
  have PC9 := Lib.hid (rowk hb PC8.out)
  replace DC := Lib.hid (markShape.later DC.out hb)
  replace DD := Lib.hid (markShape.later DD.out hb)
  clear hb b8 PA8 PB8 PC8
  have PD9 := PD0
  clear PD0 hgD
  refine (implMarkAhead_ DC.out DD.out).mono ?_
  rintro e w10 ⟨rfl, hb⟩
  rw [HD.out]
  have b10 := b9.trans (hb.mono b9.size)
  have PA10 := Lib.hid (rowk hb PA9.out)
  have PB10 := Lib.hid (rowk hb PB9.out)
  have PC10 := Lib.hid (rowk hb PC9.out)
  have PD10 := Lib.hid (rowk hb PD9.out)
  replace DC := Lib.hid (markShape.later DC.out hb)
  replace DD := Lib.hid (markShape.later DD.out hb)
  clear hb b9 PA9 PB9 PC9 PD9
  clear HD
  have KS := Lib.hid (show ∀ W, Below w10.heap.size w10 W → (W.cell? ⟨gC, 0, none⟩ = some (.int .i64 x.who) ∧ W.cell? ⟨gC, 1, none⟩ = some (.int .i64 x.at_) ∧ W.cell? ⟨gC, 2, none⟩ = some (.bool x.store) ∧ W.cell? ⟨gC, 3, none⟩ = some (.int .i64 x.cell) ∧ W.cell? ⟨gC, 4, none⟩ = some (.slice uA4 x.clock.length uc4) ∧ W.cell? ⟨w.heap.size, 0, none⟩ = some (xa0) ∧ W.cell? ⟨w.heap.size, 1, none⟩ = some (xa1) ∧ W.cell? ⟨w.heap.size, 2, none⟩ = some (xa2) ∧ W.cell? ⟨w.heap.size, 3, none⟩ = some (xa3) ∧ W.cell? ⟨w.heap.size, 4, none⟩ = some (xa4) ∧ Below w10.heap.size w10 W) from fun W hW => ⟨cell_later (by rw [row_cell PC10.out]; rfl) hW, cell_later (by rw [row_cell PC10.out]; rfl) hW, cell_later (by rw [row_cell PC10.out]; rfl) hW, cell_later (by rw [row_cell PC10.out]; rfl) hW, cell_later (by rw [row_cell PC10.out]; rfl) hW, cell_later (by rw [row_cell PA10.out]; rfl) hW, cell_later (by rw [row_cell PA10.out]; rfl) hW, cell_later (by rw [row_cell PA10.out]; rfl) hW, cell_later (by rw [row_cell PA10.out]; rfl) hW, cell_later (by rw [row_cell PA10.out]; rfl) hW, hW⟩)
  go_wp2_with fail
  refine wp_region_held_drew (S := fun W => W.cell? ⟨gC, 0, none⟩ = some (.int .i64 x.who) ∧ W.cell? ⟨gC, 1, none⟩ = some (.int .i64 x.at_) ∧ W.cell? ⟨gC, 2, none⟩ = some (.bool x.store) ∧ W.cell? ⟨gC, 3, none⟩ = some (.int .i64 x.cell) ∧ W.cell? ⟨gC, 4, none⟩ = some (.slice uA4 x.clock.length uc4) ∧ W.cell? ⟨w.heap.size, 0, none⟩ = some (xa0) ∧ W.cell? ⟨w.heap.size, 1, none⟩ = some (xa1) ∧ W.cell? ⟨w.heap.size, 2, none⟩ = some (xa2) ∧ W.cell? ⟨w.heap.size, 3, none⟩ = some (xa3) ∧ W.cell? ⟨w.heap.size, 4, none⟩ = some (xa4) ∧ Below w10.heap.size w10 W) (by kernel_rfl) (KS.out _ (Below.refl _ _).drew) (fun hHeld => ?_)
  refine take_w (i := 0) (d := some 35) (v := ?_) rfl rfl (by kernel_rfl) (by kernel_rfl) (by kernel_rfl) (fun _ _ _ h => h) (by rfl) ?_ (by assumption) ?_
  rotate_left
  · intro _ hSw; (try dsimp only at hSw); go_simp; try (with_reducible rfl)
  try simp only [Act.put, List.setIfInBounds_toArray, List.set_cons_zero, List.set_cons_succ]
  refine take_w (i := 1) (d := some 36) (v := ?_) rfl rfl (by kernel_rfl) (by kernel_rfl) (by kernel_rfl) (fun _ _ _ h => h) (by rfl) ?_ (by assumption) ?_
  rotate_left
  · intro _ hSw; (try dsimp only at hSw); go_simp; try (with_reducible rfl)
  try simp only [Act.put, List.setIfInBounds_toArray, List.set_cons_zero, List.set_cons_succ]
  have hdr : Below w10.heap.size w10 w10.drew := (Below.refl _ _).drew
  have bwd := b10.trans (hdr.mono b10.size)
  refine wpAnyH_ready (rs := [2]) (by kernel_rfl) (by simp) ?_
  refine AllReadyH.cons rfl (fun K hK => ?_) AllReadyH.nil
  go_simp
  go_at_call 21
  refine (mark_to (markShape.later HI.out bwd) nx).mono ?_
  rintro e wt11 ⟨v11, rfl, it, hb⟩
  have ut := hdr.trans (hb.mono (by simp))
  have IT := Lib.hid it
  clear hb it
  go_wp2_with fail
  refine hK.out _ _ (KS.out _ ut) (fun hHeldt => ?_)
  clear hK K
  try simp only [Act.put, List.setIfInBounds_toArray, List.set_cons_zero, List.set_cons_succ]
  refine wpAnyH_ready (rs := [3]) (by kernel_rfl) (by simp) ?_
  refine AllReadyH.cons rfl (fun K hK => ?_) AllReadyH.nil
  go_simp
  go_at_call 23
  refine (mark_eq (markShape.later DC.out ut) IT.out).mono ?_
  rintro e w11 ⟨rfl, hb1⟩
  have uq := ut.trans (hb1.mono ut.size)
  clear hb1 IT
  go_wp2_with fail
  refine hK.out _ _ (KS.out _ uq) (fun hHeldq => ?_)
  clear hK K
  try simp only [Act.put, List.setIfInBounds_toArray, List.set_cons_zero, List.set_cons_succ]
  refine take_w (i := 4) (d := some 39) (v := ?_) rfl rfl (by kernel_rfl) (by kernel_rfl) (by kernel_rfl) (fun _ _ _ h => h) (by rfl) ?_ (by assumption) ?_
  rotate_left
  · intro _ hSw; (try dsimp only at hSw); go_simp; try (with_reducible rfl)
  try simp only [Act.put, List.setIfInBounds_toArray, List.set_cons_zero, List.set_cons_succ]
  refine wpAnyH_done (by kernel_rfl) ?_ _
  have hb := uq
  clear KS hHeld hHeldt hHeldq hdr bwd ut uq
  have b11 := b10.trans (hb.mono b10.size)
  have PA11 := Lib.hid (rowk hb PA10.out)
  have PB11 := Lib.hid (rowk hb PB10.out)
  have PC11 := Lib.hid (rowk hb PC10.out)
  have PD11 := Lib.hid (rowk hb PD10.out)
  replace DC := Lib.hid (markShape.later DC.out hb)
  replace DD := Lib.hid (markShape.later DD.out hb)
  clear hb b10 PA10 PB10 PC10 PD10
  have KS := Lib.hid (show ∀ W, Below w11.heap.size w11 W → (W.cell? ⟨gD, 0, none⟩ = some (.int .i64 y.who) ∧ W.cell? ⟨gD, 1, none⟩ = some (.int .i64 y.at_) ∧ W.cell? ⟨gD, 2, none⟩ = some (.bool y.store) ∧ W.cell? ⟨gD, 3, none⟩ = some (.int .i64 y.cell) ∧ W.cell? ⟨gD, 4, none⟩ = some (.slice vA4 y.clock.length vc4) ∧ W.cell? ⟨w.heap.size + 1, 0, none⟩ = some (xb0) ∧ W.cell? ⟨w.heap.size + 1, 1, none⟩ = some (xb1) ∧ W.cell? ⟨w.heap.size + 1, 2, none⟩ = some (xb2) ∧ W.cell? ⟨w.heap.size + 1, 3, none⟩ = some (xb3) ∧ W.cell? ⟨w.heap.size + 1, 4, none⟩ = some (xb4) ∧ Below w11.heap.size w11 W) from fun W hW => ⟨cell_later (by rw [row_cell PD11.out]; rfl) hW, cell_later (by rw [row_cell PD11.out]; rfl) hW, cell_later (by rw [row_cell PD11.out]; rfl) hW, cell_later (by rw [row_cell PD11.out]; rfl) hW, cell_later (by rw [row_cell PD11.out]; rfl) hW, cell_later (by rw [row_cell PB11.out]; rfl) hW, cell_later (by rw [row_cell PB11.out]; rfl) hW, cell_later (by rw [row_cell PB11.out]; rfl) hW, cell_later (by rw [row_cell PB11.out]; rfl) hW, cell_later (by rw [row_cell PB11.out]; rfl) hW, hW⟩)
  go_wp2_with fail
  refine wp_region_held_drew (S := fun W => W.cell? ⟨gD, 0, none⟩ = some (.int .i64 y.who) ∧ W.cell? ⟨gD, 1, none⟩ = some (.int .i64 y.at_) ∧ W.cell? ⟨gD, 2, none⟩ = some (.bool y.store) ∧ W.cell? ⟨gD, 3, none⟩ = some (.int .i64 y.cell) ∧ W.cell? ⟨gD, 4, none⟩ = some (.slice vA4 y.clock.length vc4) ∧ W.cell? ⟨w.heap.size + 1, 0, none⟩ = some (xb0) ∧ W.cell? ⟨w.heap.size + 1, 1, none⟩ = some (xb1) ∧ W.cell? ⟨w.heap.size + 1, 2, none⟩ = some (xb2) ∧ W.cell? ⟨w.heap.size + 1, 3, none⟩ = some (xb3) ∧ W.cell? ⟨w.heap.size + 1, 4, none⟩ = some (xb4) ∧ Below w11.heap.size w11 W) (by kernel_rfl) (KS.out _ (Below.refl _ _).drew) (fun hHeld => ?_)
  refine take_w (i := 0) (d := some 40) (v := ?_) rfl rfl (by kernel_rfl) (by kernel_rfl) (by kernel_rfl) (fun _ _ _ h => h) (by rfl) ?_ (by assumption) ?_
  rotate_left
  · intro _ hSw; (try dsimp only at hSw); go_simp; try (with_reducible rfl)
  try simp only [Act.put, List.setIfInBounds_toArray, List.set_cons_zero, List.set_cons_succ]
  refine take_w (i := 1) (d := some 41) (v := ?_) rfl rfl (by kernel_rfl) (by kernel_rfl) (by kernel_rfl) (fun _ _ _ h => h) (by rfl) ?_ (by assumption) ?_
  rotate_left
  · intro _ hSw; (try dsimp only at hSw); go_simp; try (with_reducible rfl)
  try simp only [Act.put, List.setIfInBounds_toArray, List.set_cons_zero, List.set_cons_succ]
  have hdr : Below w11.heap.size w11 w11.drew := (Below.refl _ _).drew
  have bwd := b11.trans (hdr.mono b11.size)
  refine wpAnyH_ready (rs := [2]) (by kernel_rfl) (by simp) ?_
  refine AllReadyH.cons rfl (fun K hK => ?_) AllReadyH.nil
  go_simp
  go_at_call 21
  refine (mark_to (markShape.later HJ.out bwd) ny).mono ?_
  rintro e wt12 ⟨v12, rfl, it, hb⟩
  have ut := hdr.trans (hb.mono (by simp))
  have IT := Lib.hid it
  clear hb it
  go_wp2_with fail
  refine hK.out _ _ (KS.out _ ut) (fun hHeldt => ?_)
  clear hK K
  try simp only [Act.put, List.setIfInBounds_toArray, List.set_cons_zero, List.set_cons_succ]
  refine wpAnyH_ready (rs := [3]) (by kernel_rfl) (by simp) ?_
  refine AllReadyH.cons rfl (fun K hK => ?_) AllReadyH.nil
  go_simp
  go_at_call 23
  refine (mark_eq (markShape.later DD.out ut) IT.out).mono ?_
  rintro e w12 ⟨rfl, hb1⟩
  have uq := ut.trans (hb1.mono ut.size)
  clear hb1 IT
  go_wp2_with fail
  refine hK.out _ _ (KS.out _ uq) (fun hHeldq => ?_)
  clear hK K
  try simp only [Act.put, List.setIfInBounds_toArray, List.set_cons_zero, List.set_cons_succ]
  refine take_w (i := 4) (d := some 44) (v := ?_) rfl rfl (by kernel_rfl) (by kernel_rfl) (by kernel_rfl) (fun _ _ _ h => h) (by rfl) ?_ (by assumption) ?_
  rotate_left
  · intro _ hSw; (try dsimp only at hSw); go_simp; try (with_reducible rfl)
  try simp only [Act.put, List.setIfInBounds_toArray, List.set_cons_zero, List.set_cons_succ]
  refine wpAnyH_done (by kernel_rfl) ?_ _
  have hb := uq
  clear KS hHeld hHeldt hHeldq hdr bwd ut uq
  have b12 := b11.trans (hb.mono b11.size)
  have PA12 := Lib.hid (rowk hb PA11.out)
  have PB12 := Lib.hid (rowk hb PB11.out)
  have PC12 := Lib.hid (rowk hb PC11.out)
  have PD12 := Lib.hid (rowk hb PD11.out)
  replace DC := Lib.hid (markShape.later DC.out hb)
  replace DD := Lib.hid (markShape.later DD.out hb)
  clear hb b11 PA11 PB11 PC11 PD11
  go_wp2_with fail
  go_ret
  exact ⟨rfl, b12⟩
end Go.Proofs.Ytoinagefhbpakaa
