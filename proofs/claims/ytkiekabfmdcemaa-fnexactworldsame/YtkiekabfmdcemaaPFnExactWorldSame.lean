/- PROVED: laws.FnExactWorldSame returns true for every input, and its arguments read as before. No condition. -/
import Derived.Test.YtkiekabfmdcemaaRows
import Derived.Deep.RegionHeld3
import Derived.Test.YtkiekabfmdcemaaWorldSame
import Derived.Test.YtkiekabfmdcemaaWorldSameS
import Derived.Test.YtkiekabfmdcemaaWorldN
import Derived.WalkKit
import Derived.ProofKit
import Derived.OpenShut
import Derived.Below
import Derived.Carry
import Derived.Test.YtkiekabfmdcemaaShape
import Derived.Test.YtkiekabfmdcemaaKinds
import Derived.Deep.Fields
import Derived.Test.YtkiekabfmdcemaaCpuRec
import Derived.Test.YtkiekabfmdcemaaSl
import Derived.Test.YtkiekabfmdcemaaWorldRec
/- Operations of a region that draws its order, taken one by one: one that is wanted, one that is not. -/
namespace Go.Proofs.Ytkiekabfmdcemaa

variable {P : Program} {ops : Array Oper} {Q : Exit → Act → World → Prop} {md : Region.Mode} {S : World → Prop}

theorem take_w {i : Nat} {oi : Oper} {d : Option Tmp} {v : Value} {fuel : Nat} {listed : Array Bool} {a : Act} {w : World} (hi : ops[i]? = some oi) (hd : oi.dst = d)
    (hs : Region.noSelect ops = true) (hf : Region.free md ops listed i = true) (hr : (Region.ready md ops listed).contains i = true)
    (hQ : ∀ c a w, Q (.panic c) (a.put d v) w → Q (.panic c) a w) (hw : Region.wanted oi (yielded ops a.tmps) = true) (hy : ∀ w, S w → (execOp a.eval oi).run P w = .ok (.value v) w) (hS : S w)
    (h : wpAnyH P md ops Q S fuel (listed.setIfInBounds i true) (a.put d v) w) : wpAnyH P md ops Q S (fuel + 1) listed a w := by
  subst hd
  exact wpAnyH_take hi hs hf hr hQ (Or.inl ⟨hw, hy⟩) hS h

theorem take_u {i : Nat} {oi : Oper} {d : Option Tmp} {fuel : Nat} {listed : Array Bool} {a : Act} {w : World} (hi : ops[i]? = some oi) (hd : oi.dst = d)
    (hs : Region.noSelect ops = true) (hf : Region.free md ops listed i = true) (hr : (Region.ready md ops listed).contains i = true)
    (hQ : ∀ c a w, Q (.panic c) (a.put d undef) w → Q (.panic c) a w) (hw : Region.wanted oi (yielded ops a.tmps) = false) (hS : S w)
    (h : wpAnyH P md ops Q S fuel (listed.setIfInBounds i true) (a.put d undef) w) : wpAnyH P md ops Q S (fuel + 1) listed a w := by
  subst hd
  exact wpAnyH_take hi hs hf hr hQ (Or.inr ⟨hw, rfl⟩) hS h

end Go.Proofs.Ytkiekabfmdcemaa

/- The walk of laws.FnExactWorldSame (written by tools/gen_law2.py). -/
namespace Go.Proofs.Ytkiekabfmdcemaa
open Go.ChangeShapes Go.WideShapes Go.ChangeAt Go.RowKit

theorem list5 {vs : List Value} (h : vs.length = 5) : ∃ v0 v1 v2 v3 v4 : Value, vs = [v0, v1, v2, v3, v4] := by
  match vs, h with
  | [v0, v1, v2, v3, v4], _ => exact ⟨v0, v1, v2, v3, v4, rfl⟩
theorem cells5x {W : World} {g : Nat} {t : TypeId} {v0 v1 v2 v3 v4 : Value} (h : W.heap[g]? = some (.cells #[v0, v1, v2, v3, v4] t (0, 0))) :
    W.cell? ⟨g, 0, none⟩ = some v0 ∧ W.cell? ⟨g, 1, none⟩ = some v1 ∧ W.cell? ⟨g, 2, none⟩ = some v2 ∧ W.cell? ⟨g, 3, none⟩ = some v3 ∧ W.cell? ⟨g, 4, none⟩ = some v4 := by
  refine ⟨?_, ?_, ?_, ?_, ?_⟩ <;> (rw [row_cell h]; rfl)

set_option maxRecDepth 100000 in
set_option maxHeartbeats 4000000 in
theorem wFnExactWorldSame (x : WorldP) (y : WorldP) (xa0 xa1 xa2 xa3 xa4 xb0 xb1 xb2 xb3 xb4 : Value) (w : World) (hI : worldShape.I w (fun _ => True) [xa0, xa1, xa2, xa3, xa4] x) (hJ : worldShape.I w (fun _ => True) [xb0, xb1, xb2, xb3, xb4] y) :
    Calls Try.prog 5 #[.agg #[xa0, xa1, xa2, xa3, xa4], .agg #[xb0, xb1, xb2, xb3, xb4]] w fun e w' => e = .returned (.bool true) ∧ Below w.heap.size w w' := by
  have HI := Lib.hid hI
  have HJ := Lib.hid hJ
  clear hI hJ
  have b0 : Below w.heap.size w ((w.alloc (.cells #[xa0, xa1, xa2, xa3, xa4] 38)).alloc (.cells #[xb0, xb1, xb2, xb3, xb4] 38)) := ((Below.refl _ _).alloc (Nat.le_refl _) _).alloc (by simp) _
  have PA0 := Lib.hid (row_first w #[xa0, xa1, xa2, xa3, xa4] #[xb0, xb1, xb2, xb3, xb4] 38 38)
  have PB0 := Lib.hid (row_second w #[xa0, xa1, xa2, xa3, xa4] #[xb0, xb1, xb2, xb3, xb4] 38 38)
  by_cases hx : ¬ (sizeWorld x : Int) ≤ 1048576
  · have H := Lib.hid (szI_no hx)
    clear hx
    obtain ⟨q0, q1, q2, q3, q4⟩ := cells5x PA0.out
    go_enter Try.func5, Try.ntmps5
    go_wp2_with fail
    refine (world_sz (left := 1048576) (worldShape.later HI.out b0) (by omega) (by omega)).mono ?_
    rintro e w1 ⟨rfl, hb⟩
    rw [H.out]
    have b1 := b0.trans (hb.mono b0.size)
    clear hb
    go_wp2_with fail
    go_ret
    exact ⟨rfl, b1⟩
  have hx1 := Decidable.not_not.1 hx
  clear hx
  obtain ⟨L, EL, p1, q1⟩ : ∃ z : Int, Go.RowKit.Hid (szI (sizeWorld x) 1048576 = z) ∧ 0 ≤ z ∧ z ≤ 1048576 := ⟨1048576 - (sizeWorld x : Int), Lib.hid (szI_yes hx1), by omega, by omega⟩
  have nx : sizeWorld x ≤ 1048576 := by omega
  clear hx1
  obtain ⟨qA0, qA1, qA2, qA3, qA4⟩ := cells5x PA0.out
  go_enter Try.func5, Try.ntmps5
  go_wp2_with fail
  clear qA0 qA1 qA2 qA3 qA4
  refine (world_sz (left := 1048576) (worldShape.later HI.out b0) (by omega) (by omega)).mono ?_
  rintro e w1 ⟨rfl, hb⟩
  rw [EL.out]
  have b1 := b0.trans (hb.mono b0.size)
  have PA1 := Lib.hid (rowk hb PA0.out)
  have PB1 := Lib.hid (rowk hb PB0.out)
  clear hb b0 PA0 PB0
  obtain ⟨qB0, qB1, qB2, qB3, qB4⟩ := cells5x PB1.out
  by_cases hy : ¬ (sizeWorld y : Int) ≤ L
  · have H := Lib.hid (szI_no hy)
    clear hy
    go_wp2_with fail
    refine (world_sz (worldShape.later HJ.out b1) p1 q1).mono ?_
    rintro e w2 ⟨rfl, hb⟩
    rw [H.out]
    have b2 := b1.trans (hb.mono b1.size)
    clear hb
    go_wp2_with fail
    go_ret
    exact ⟨rfl, b2⟩
  have hy1 := Decidable.not_not.1 hy
  clear hy
  obtain ⟨M, EM, p2⟩ : ∃ z : Int, Go.RowKit.Hid (szI (sizeWorld y) L = z) ∧ 0 ≤ z := ⟨L - (sizeWorld y : Int), Lib.hid (szI_yes hy1), by omega⟩
  have ny : sizeWorld y ≤ 1048576 := by omega
  clear hy1
  go_wp2_with fail
  clear qB0 qB1 qB2 qB3 qB4
  refine (world_sz (worldShape.later HJ.out b1) p1 q1).mono ?_
  rintro e w2 ⟨rfl, hb⟩
  rw [EM.out]
  have b2 := b1.trans (hb.mono b1.size)
  have PA2 := Lib.hid (rowk hb PA1.out)
  have PB2 := Lib.hid (rowk hb PB1.out)
  clear hb b1 PA1 PB1
  obtain ⟨d, hd⟩ : ∃ d, worldB x y = d := ⟨_, rfl⟩
  have HD := Lib.hid hd
  clear hd
  have KS := Lib.hid (show ∀ W, Below w2.heap.size w2 W → (W.cell? ⟨w.heap.size, 0, none⟩ = some (xa0) ∧ W.cell? ⟨w.heap.size, 1, none⟩ = some (xa1) ∧ W.cell? ⟨w.heap.size, 2, none⟩ = some (xa2) ∧ W.cell? ⟨w.heap.size, 3, none⟩ = some (xa3) ∧ W.cell? ⟨w.heap.size, 4, none⟩ = some (xa4) ∧ W.cell? ⟨w.heap.size + 1, 0, none⟩ = some (xb0) ∧ W.cell? ⟨w.heap.size + 1, 1, none⟩ = some (xb1) ∧ W.cell? ⟨w.heap.size + 1, 2, none⟩ = some (xb2) ∧ W.cell? ⟨w.heap.size + 1, 3, none⟩ = some (xb3) ∧ W.cell? ⟨w.heap.size + 1, 4, none⟩ = some (xb4) ∧ Below w2.heap.size w2 W) from fun W hW => ⟨cell_later (by rw [row_cell PA2.out]; rfl) hW, cell_later (by rw [row_cell PA2.out]; rfl) hW, cell_later (by rw [row_cell PA2.out]; rfl) hW, cell_later (by rw [row_cell PA2.out]; rfl) hW, cell_later (by rw [row_cell PA2.out]; rfl) hW, cell_later (by rw [row_cell PB2.out]; rfl) hW, cell_later (by rw [row_cell PB2.out]; rfl) hW, cell_later (by rw [row_cell PB2.out]; rfl) hW, cell_later (by rw [row_cell PB2.out]; rfl) hW, cell_later (by rw [row_cell PB2.out]; rfl) hW, hW⟩)
  go_wp2_with fail
  refine wp_region_held_drew (S := fun W => W.cell? ⟨w.heap.size, 0, none⟩ = some (xa0) ∧ W.cell? ⟨w.heap.size, 1, none⟩ = some (xa1) ∧ W.cell? ⟨w.heap.size, 2, none⟩ = some (xa2) ∧ W.cell? ⟨w.heap.size, 3, none⟩ = some (xa3) ∧ W.cell? ⟨w.heap.size, 4, none⟩ = some (xa4) ∧ W.cell? ⟨w.heap.size + 1, 0, none⟩ = some (xb0) ∧ W.cell? ⟨w.heap.size + 1, 1, none⟩ = some (xb1) ∧ W.cell? ⟨w.heap.size + 1, 2, none⟩ = some (xb2) ∧ W.cell? ⟨w.heap.size + 1, 3, none⟩ = some (xb3) ∧ W.cell? ⟨w.heap.size + 1, 4, none⟩ = some (xb4) ∧ Below w2.heap.size w2 W) (by kernel_rfl) (KS.out _ (Below.refl _ _).drew) (fun hHeld => ?_)
  refine take_w (i := 0) (d := some 20) (v := ?_) rfl rfl (by kernel_rfl) (by kernel_rfl) (by kernel_rfl) (fun _ _ _ h => h) (by rfl) ?_ (by assumption) ?_
  rotate_left
  · intro _ hSw; (try dsimp only at hSw); go_simp; try (with_reducible rfl)
  try simp only [Act.put, List.setIfInBounds_toArray, List.set_cons_zero, List.set_cons_succ]
  refine take_w (i := 2) (d := some 22) (v := ?_) rfl rfl (by kernel_rfl) (by kernel_rfl) (by kernel_rfl) (fun _ _ _ h => h) (by rfl) ?_ (by assumption) ?_
  rotate_left
  · intro _ hSw; (try dsimp only at hSw); go_simp; try (with_reducible rfl)
  try simp only [Act.put, List.setIfInBounds_toArray, List.set_cons_zero, List.set_cons_succ]
  have hdr : Below w2.heap.size w2 w2.drew := (Below.refl _ _).drew
  have bwd := b2.trans (hdr.mono b2.size)
  refine wpAnyH_ready (rs := [1]) (by kernel_rfl) (by simp) ?_
  refine AllReadyH.cons rfl (fun K hK => ?_) AllReadyH.nil
  go_simp
  go_at_call 14
  refine (world_to (worldShape.later HI.out bwd) nx).mono ?_
  rintro e w3 ⟨v3, rfl, i3, hb⟩
  have u3 := hdr.trans (hb.mono (by simp))
  have b3 := b2.trans (u3.mono b2.size)
  have I3 := Lib.hid i3
  clear hb i3
  go_wp2_with fail
  refine hK.out _ _ (KS.out _ u3) (fun hHeld3 => ?_)
  clear hK K
  try simp only [Act.put, List.setIfInBounds_toArray, List.set_cons_zero, List.set_cons_succ]
  refine wpAnyH_ready (rs := [3]) (by kernel_rfl) (by simp) ?_
  refine AllReadyH.cons rfl (fun K hK => ?_) AllReadyH.nil
  go_simp
  go_at_call 14
  refine (world_to (worldShape.later HJ.out b3) ny).mono ?_
  rintro e w4 ⟨v4, rfl, i4, hb⟩
  have u4 := u3.trans (hb.mono u3.size)
  have b4 := b2.trans (u4.mono b2.size)
  replace I3 := Lib.hid (worldShape.later I3.out hb)
  have I4 := Lib.hid i4
  clear hb i4 hHeld hHeld3
  go_wp2_with fail
  refine hK.out _ _ (KS.out _ u4) (fun hHeld4 => ?_)
  clear hK K
  try simp only [Act.put, List.setIfInBounds_toArray, List.set_cons_zero, List.set_cons_succ]
  refine wpAnyH_ready (rs := [4]) (by kernel_rfl) (by simp) ?_
  refine AllReadyH.cons rfl (fun K hK => ?_) AllReadyH.nil
  go_simp
  go_at_call 17
  refine (specWorldSame I3.out I4.out).mono ?_
  rintro e w5 ⟨rfl, hb⟩
  rw [HD.out]
  have u5 := u4.trans (hb.mono u4.size)
  clear hb I3 I4
  go_wp2_with fail
  refine hK.out _ _ (KS.out _ u5) (fun hHeld5 => ?_)
  clear hK K
  try simp only [Act.put, List.setIfInBounds_toArray, List.set_cons_zero, List.set_cons_succ]
  refine take_w (i := 5) (d := some 6) (v := ?_) rfl rfl (by kernel_rfl) (by kernel_rfl) (by kernel_rfl) (fun _ _ _ h => h) (by rfl) ?_ (by assumption) ?_
  rotate_left
  · intro _ hSw; (try dsimp only at hSw); go_simp; try (with_reducible rfl)
  try simp only [Act.put, List.setIfInBounds_toArray, List.set_cons_zero, List.set_cons_succ]
  refine wpAnyH_done (by kernel_rfl) ?_ _
  have hb := u5
  clear KS hHeld4 hHeld5 hdr bwd u3 u4 u5 b3 b4
  have b5 := b2.trans (hb.mono b2.size)
  have PA5 := Lib.hid (rowk hb PA2.out)
  have PB5 := Lib.hid (rowk hb PB2.out)
  clear hb b2 PA2 PB2
  obtain ⟨qA0, qA1, qA2, qA3, qA4⟩ := cells5x PA5.out
  go_wp2_with fail
  clear qA0 qA1 qA2 qA3 qA4
  refine (world_toN (worldShape.later HI.out b5) nx).mono ?_
  rintro e w6 ⟨v6, rfl, i6, hb, hn⟩
  have PLC := Lib.hid (show AllPl w6 (Born w5 w6) from fun b h => hn b h.1 h.2)
  clear hn
  have DC := Lib.hid i6
  clear i6
  have b6 := b5.trans (hb.mono b5.size)
  have PA6 := Lib.hid (rowk hb PA5.out)
  have PB6 := Lib.hid (rowk hb PB5.out)
  clear hb b5 PA5 PB5
  obtain ⟨uA0, uc0, uA1, uc1, uA2, uc2, uA3, uc3, uA4, uc4, rfl, _, _, _, _, _⟩ := id DC.out
  have hb : Below w6.heap.size w6 (w6.alloc (.cells #[.slice uA0 x.procs.length uc0, .slice uA1 x.cells.length uc1, .slice uA2 x.rooms.length uc2, .slice uA3 x.signs.length uc3, .slice uA4 (x.said.length / 2) uc4] 43)) := (Below.refl _ _).alloc (Nat.le_refl _) _
  have PC0 := Lib.hid (new_row w6 #[.slice uA0 x.procs.length uc0, .slice uA1 x.cells.length uc1, .slice uA2 x.rooms.length uc2, .slice uA3 x.signs.length uc3, .slice uA4 (x.said.length / 2) uc4] 43)
  obtain ⟨qB0, qB1, qB2, qB3, qB4⟩ := cells5x (rowk hb PB6.out)
  go_wp2_with fail
  clear qB0 qB1 qB2 qB3 qB4
  generalize w6.alloc (.cells #[.slice uA0 x.procs.length uc0, .slice uA1 x.cells.length uc1, .slice uA2 x.rooms.length uc2, .slice uA3 x.signs.length uc3, .slice uA4 (x.said.length / 2) uc4] 43) = w7 at *
  generalize hgC : w6.heap.size = gC at hb PC0 ⊢
  rw [← hgC] at hb
  have b7 := b6.trans (hb.mono b6.size)
  have PA7 := Lib.hid (rowk hb PA6.out)
  have PB7 := Lib.hid (rowk hb PB6.out)
  replace DC := Lib.hid (worldShape.later DC.out hb)
  replace PLC := Lib.hid (PLC.out.later hb)
  clear hb b6 PA6 PB6
  have PC7 := PC0
  clear PC0 hgC
  refine (world_toN (worldShape.later HJ.out b7) ny).mono ?_
  rintro e w8 ⟨v8, rfl, i8, hb, hn⟩
  have PLD := Lib.hid (show AllPl w8 (Born w7 w8) from fun b h => hn b h.1 h.2)
  clear hn
  have DD := Lib.hid i8
  clear i8
  have b8 := b7.trans (hb.mono b7.size)
  have PA8 := Lib.hid (rowk hb PA7.out)
  have PB8 := Lib.hid (rowk hb PB7.out)
  have PC8 := Lib.hid (rowk hb PC7.out)
  replace DC := Lib.hid (worldShape.later DC.out hb)
  replace PLC := Lib.hid (PLC.out.later hb)
  clear hb b7 PA7 PB7 PC7
  obtain ⟨vA0, vc0, vA1, vc1, vA2, vc2, vA3, vc3, vA4, vc4, rfl, _, _, _, _, _⟩ := id DD.out
  have hb : Below w8.heap.size w8 (w8.alloc (.cells #[.slice vA0 y.procs.length vc0, .slice vA1 y.cells.length vc1, .slice vA2 y.rooms.length vc2, .slice vA3 y.signs.length vc3, .slice vA4 (y.said.length / 2) vc4] 43)) := (Below.refl _ _).alloc (Nat.le_refl _) _
  have PD0 := Lib.hid (new_row w8 #[.slice vA0 y.procs.length vc0, .slice vA1 y.cells.length vc1, .slice vA2 y.rooms.length vc2, .slice vA3 y.signs.length vc3, .slice vA4 (y.said.length / 2) vc4] 43)
  obtain ⟨qC0, qC1, qC2, qC3, qC4⟩ := cells5x (rowk hb PC8.out)
  go_wp2_with fail
  clear qC0 qC1 qC2 qC3 qC4
  generalize w8.alloc (.cells #[.slice vA0 y.procs.length vc0, .slice vA1 y.cells.length vc1, .slice vA2 y.rooms.length vc2, .slice vA3 y.signs.length vc3, .slice vA4 (y.said.length / 2) vc4] 43) = w9 at *
  generalize hgD : w8.heap.size = gD at hb PD0 ⊢
  rw [← hgD] at hb
  have b9 := b8.trans (hb.mono b8.size)
  have PA9 := Lib.hid (rowk hb PA8.out)
  have PB9 := Lib.hid (rowk hb PB8.out)
  have PC9 := Lib.hid (rowk hb PC8.out)
  replace DC := Lib.hid (worldShape.later DC.out hb)
  replace DD := Lib.hid (worldShape.later DD.out hb)
  replace PLC := Lib.hid (PLC.out.later hb)
  replace PLD := Lib.hid (PLD.out.later hb)
  clear hb b8 PA8 PB8 PC8
  have PD9 := PD0
  clear PD0 hgD
  have nz : sizeProcS x.procs ≤ 1048576 := Nat.le_trans (show sizeProcS x.procs ≤ sizeWorld x from by unfold sizeWorld; omega) nx
  refine (implWorldSame DC.out DD.out PLC.out PLD.out nz).mono ?_
  rintro e w10 ⟨rfl, hb⟩
  rw [HD.out]
  clear nz PLC PLD
  have b10 := b9.trans (hb.mono b9.size)
  have PA10 := Lib.hid (rowk hb PA9.out)
  have PB10 := Lib.hid (rowk hb PB9.out)
  have PC10 := Lib.hid (rowk hb PC9.out)
  have PD10 := Lib.hid (rowk hb PD9.out)
  replace DC := Lib.hid (worldShape.later DC.out hb)
  replace DD := Lib.hid (worldShape.later DD.out hb)
  clear hb b9 PA9 PB9 PC9 PD9
  clear HD
  have KS := Lib.hid (show ∀ W, Below w10.heap.size w10 W → (W.cell? ⟨gC, 0, none⟩ = some (.slice uA0 x.procs.length uc0) ∧ W.cell? ⟨gC, 1, none⟩ = some (.slice uA1 x.cells.length uc1) ∧ W.cell? ⟨gC, 2, none⟩ = some (.slice uA2 x.rooms.length uc2) ∧ W.cell? ⟨gC, 3, none⟩ = some (.slice uA3 x.signs.length uc3) ∧ W.cell? ⟨gC, 4, none⟩ = some (.slice uA4 (x.said.length / 2) uc4) ∧ W.cell? ⟨w.heap.size, 0, none⟩ = some (xa0) ∧ W.cell? ⟨w.heap.size, 1, none⟩ = some (xa1) ∧ W.cell? ⟨w.heap.size, 2, none⟩ = some (xa2) ∧ W.cell? ⟨w.heap.size, 3, none⟩ = some (xa3) ∧ W.cell? ⟨w.heap.size, 4, none⟩ = some (xa4) ∧ Below w10.heap.size w10 W) from fun W hW => ⟨cell_later (by rw [row_cell PC10.out]; rfl) hW, cell_later (by rw [row_cell PC10.out]; rfl) hW, cell_later (by rw [row_cell PC10.out]; rfl) hW, cell_later (by rw [row_cell PC10.out]; rfl) hW, cell_later (by rw [row_cell PC10.out]; rfl) hW, cell_later (by rw [row_cell PA10.out]; rfl) hW, cell_later (by rw [row_cell PA10.out]; rfl) hW, cell_later (by rw [row_cell PA10.out]; rfl) hW, cell_later (by rw [row_cell PA10.out]; rfl) hW, cell_later (by rw [row_cell PA10.out]; rfl) hW, hW⟩)
  go_wp2_with fail
  refine wp_region_held_drew (S := fun W => W.cell? ⟨gC, 0, none⟩ = some (.slice uA0 x.procs.length uc0) ∧ W.cell? ⟨gC, 1, none⟩ = some (.slice uA1 x.cells.length uc1) ∧ W.cell? ⟨gC, 2, none⟩ = some (.slice uA2 x.rooms.length uc2) ∧ W.cell? ⟨gC, 3, none⟩ = some (.slice uA3 x.signs.length uc3) ∧ W.cell? ⟨gC, 4, none⟩ = some (.slice uA4 (x.said.length / 2) uc4) ∧ W.cell? ⟨w.heap.size, 0, none⟩ = some (xa0) ∧ W.cell? ⟨w.heap.size, 1, none⟩ = some (xa1) ∧ W.cell? ⟨w.heap.size, 2, none⟩ = some (xa2) ∧ W.cell? ⟨w.heap.size, 3, none⟩ = some (xa3) ∧ W.cell? ⟨w.heap.size, 4, none⟩ = some (xa4) ∧ Below w10.heap.size w10 W) (by kernel_rfl) (KS.out _ (Below.refl _ _).drew) (fun hHeld => ?_)
  refine take_w (i := 0) (d := some 35) (v := ?_) rfl rfl (by kernel_rfl) (by kernel_rfl) (by kernel_rfl) (fun _ _ _ h => h) (by rfl) ?_ (by assumption) ?_
  rotate_left
  · intro _ hSw; (try dsimp only at hSw); go_simp; try (with_reducible rfl)
  try simp only [Act.put, List.setIfInBounds_toArray, List.set_cons_zero, List.set_cons_succ]
  refine take_w (i := 1) (d := some 36) (v := ?_) rfl rfl (by kernel_rfl) (by kernel_rfl) (by kernel_rfl) (fun _ _ _ h => h) (by rfl) ?_ (by assumption) ?_
  rotate_left
  · intro _ hSw; (try dsimp only at hSw); go_simp; try (with_reducible rfl)
  try simp only [Act.put, List.setIfInBounds_toArray, List.set_cons_zero, List.set_cons_succ]
  have hdr : Below w10.heap.size w10 w10.drew := (Below.refl _ _).drew
  have bwd := b10.trans (hdr.mono b10.size)
  refine wpAnyH_ready (rs := [2]) (by kernel_rfl) (by simp) ?_
  refine AllReadyH.cons rfl (fun K hK => ?_) AllReadyH.nil
  go_simp
  go_at_call 14
  refine (world_to (worldShape.later HI.out bwd) nx).mono ?_
  rintro e wt11 ⟨v11, rfl, it, hb⟩
  have ut := hdr.trans (hb.mono (by simp))
  have IT := Lib.hid it
  clear hb it
  go_wp2_with fail
  refine hK.out _ _ (KS.out _ ut) (fun hHeldt => ?_)
  clear hK K
  try simp only [Act.put, List.setIfInBounds_toArray, List.set_cons_zero, List.set_cons_succ]
  refine wpAnyH_ready (rs := [3]) (by kernel_rfl) (by simp) ?_
  refine AllReadyH.cons rfl (fun K hK => ?_) AllReadyH.nil
  go_simp
  go_at_call 16
  refine (world_eq (worldShape.later DC.out ut) IT.out).mono ?_
  rintro e w11 ⟨rfl, hb1⟩
  have uq := ut.trans (hb1.mono ut.size)
  clear hb1 IT
  go_wp2_with fail
  refine hK.out _ _ (KS.out _ uq) (fun hHeldq => ?_)
  clear hK K
  try simp only [Act.put, List.setIfInBounds_toArray, List.set_cons_zero, List.set_cons_succ]
  refine take_w (i := 4) (d := some 39) (v := ?_) rfl rfl (by kernel_rfl) (by kernel_rfl) (by kernel_rfl) (fun _ _ _ h => h) (by rfl) ?_ (by assumption) ?_
  rotate_left
  · intro _ hSw; (try dsimp only at hSw); go_simp; try (with_reducible rfl)
  try simp only [Act.put, List.setIfInBounds_toArray, List.set_cons_zero, List.set_cons_succ]
  refine wpAnyH_done (by kernel_rfl) ?_ _
  have hb := uq
  clear KS hHeld hHeldt hHeldq hdr bwd ut uq
  have b11 := b10.trans (hb.mono b10.size)
  have PA11 := Lib.hid (rowk hb PA10.out)
  have PB11 := Lib.hid (rowk hb PB10.out)
  have PC11 := Lib.hid (rowk hb PC10.out)
  have PD11 := Lib.hid (rowk hb PD10.out)
  replace DC := Lib.hid (worldShape.later DC.out hb)
  replace DD := Lib.hid (worldShape.later DD.out hb)
  clear hb b10 PA10 PB10 PC10 PD10
  have KS := Lib.hid (show ∀ W, Below w11.heap.size w11 W → (W.cell? ⟨gD, 0, none⟩ = some (.slice vA0 y.procs.length vc0) ∧ W.cell? ⟨gD, 1, none⟩ = some (.slice vA1 y.cells.length vc1) ∧ W.cell? ⟨gD, 2, none⟩ = some (.slice vA2 y.rooms.length vc2) ∧ W.cell? ⟨gD, 3, none⟩ = some (.slice vA3 y.signs.length vc3) ∧ W.cell? ⟨gD, 4, none⟩ = some (.slice vA4 (y.said.length / 2) vc4) ∧ W.cell? ⟨w.heap.size + 1, 0, none⟩ = some (xb0) ∧ W.cell? ⟨w.heap.size + 1, 1, none⟩ = some (xb1) ∧ W.cell? ⟨w.heap.size + 1, 2, none⟩ = some (xb2) ∧ W.cell? ⟨w.heap.size + 1, 3, none⟩ = some (xb3) ∧ W.cell? ⟨w.heap.size + 1, 4, none⟩ = some (xb4) ∧ Below w11.heap.size w11 W) from fun W hW => ⟨cell_later (by rw [row_cell PD11.out]; rfl) hW, cell_later (by rw [row_cell PD11.out]; rfl) hW, cell_later (by rw [row_cell PD11.out]; rfl) hW, cell_later (by rw [row_cell PD11.out]; rfl) hW, cell_later (by rw [row_cell PD11.out]; rfl) hW, cell_later (by rw [row_cell PB11.out]; rfl) hW, cell_later (by rw [row_cell PB11.out]; rfl) hW, cell_later (by rw [row_cell PB11.out]; rfl) hW, cell_later (by rw [row_cell PB11.out]; rfl) hW, cell_later (by rw [row_cell PB11.out]; rfl) hW, hW⟩)
  go_wp2_with fail
  refine wp_region_held_drew (S := fun W => W.cell? ⟨gD, 0, none⟩ = some (.slice vA0 y.procs.length vc0) ∧ W.cell? ⟨gD, 1, none⟩ = some (.slice vA1 y.cells.length vc1) ∧ W.cell? ⟨gD, 2, none⟩ = some (.slice vA2 y.rooms.length vc2) ∧ W.cell? ⟨gD, 3, none⟩ = some (.slice vA3 y.signs.length vc3) ∧ W.cell? ⟨gD, 4, none⟩ = some (.slice vA4 (y.said.length / 2) vc4) ∧ W.cell? ⟨w.heap.size + 1, 0, none⟩ = some (xb0) ∧ W.cell? ⟨w.heap.size + 1, 1, none⟩ = some (xb1) ∧ W.cell? ⟨w.heap.size + 1, 2, none⟩ = some (xb2) ∧ W.cell? ⟨w.heap.size + 1, 3, none⟩ = some (xb3) ∧ W.cell? ⟨w.heap.size + 1, 4, none⟩ = some (xb4) ∧ Below w11.heap.size w11 W) (by kernel_rfl) (KS.out _ (Below.refl _ _).drew) (fun hHeld => ?_)
  refine take_w (i := 0) (d := some 40) (v := ?_) rfl rfl (by kernel_rfl) (by kernel_rfl) (by kernel_rfl) (fun _ _ _ h => h) (by rfl) ?_ (by assumption) ?_
  rotate_left
  · intro _ hSw; (try dsimp only at hSw); go_simp; try (with_reducible rfl)
  try simp only [Act.put, List.setIfInBounds_toArray, List.set_cons_zero, List.set_cons_succ]
  refine take_w (i := 1) (d := some 41) (v := ?_) rfl rfl (by kernel_rfl) (by kernel_rfl) (by kernel_rfl) (fun _ _ _ h => h) (by rfl) ?_ (by assumption) ?_
  rotate_left
  · intro _ hSw; (try dsimp only at hSw); go_simp; try (with_reducible rfl)
  try simp only [Act.put, List.setIfInBounds_toArray, List.set_cons_zero, List.set_cons_succ]
  have hdr : Below w11.heap.size w11 w11.drew := (Below.refl _ _).drew
  have bwd := b11.trans (hdr.mono b11.size)
  refine wpAnyH_ready (rs := [2]) (by kernel_rfl) (by simp) ?_
  refine AllReadyH.cons rfl (fun K hK => ?_) AllReadyH.nil
  go_simp
  go_at_call 14
  refine (world_to (worldShape.later HJ.out bwd) ny).mono ?_
  rintro e wt12 ⟨v12, rfl, it, hb⟩
  have ut := hdr.trans (hb.mono (by simp))
  have IT := Lib.hid it
  clear hb it
  go_wp2_with fail
  refine hK.out _ _ (KS.out _ ut) (fun hHeldt => ?_)
  clear hK K
  try simp only [Act.put, List.setIfInBounds_toArray, List.set_cons_zero, List.set_cons_succ]
  refine wpAnyH_ready (rs := [3]) (by kernel_rfl) (by simp) ?_
  refine AllReadyH.cons rfl (fun K hK => ?_) AllReadyH.nil
  go_simp
  go_at_call 16
  refine (world_eq (worldShape.later DD.out ut) IT.out).mono ?_
  rintro e w12 ⟨rfl, hb1⟩
  have uq := ut.trans (hb1.mono ut.size)
  clear hb1 IT
  go_wp2_with fail
  refine hK.out _ _ (KS.out _ uq) (fun hHeldq => ?_)
  clear hK K
  try simp only [Act.put, List.setIfInBounds_toArray, List.set_cons_zero, List.set_cons_succ]
  refine take_w (i := 4) (d := some 44) (v := ?_) rfl rfl (by kernel_rfl) (by kernel_rfl) (by kernel_rfl) (fun _ _ _ h => h) (by rfl) ?_ (by assumption) ?_
  rotate_left
  · intro _ hSw; (try dsimp only at hSw); go_simp; try (with_reducible rfl)
  try simp only [Act.put, List.setIfInBounds_toArray, List.set_cons_zero, List.set_cons_succ]
  refine wpAnyH_done (by kernel_rfl) ?_ _
  have hb := uq
  clear KS hHeld hHeldt hHeldq hdr bwd ut uq
  have b12 := b11.trans (hb.mono b11.size)
  have PA12 := Lib.hid (rowk hb PA11.out)
  have PB12 := Lib.hid (rowk hb PB11.out)
  have PC12 := Lib.hid (rowk hb PC11.out)
  have PD12 := Lib.hid (rowk hb PD11.out)
  replace DC := Lib.hid (worldShape.later DC.out hb)
  replace DD := Lib.hid (worldShape.later DD.out hb)
  clear hb b11 PA11 PB11 PC11 PD11
  go_wp2_with fail
  go_ret
  exact ⟨rfl, b12⟩
end Go.Proofs.Ytkiekabfmdcemaa

/- From a walk to the statement: the row's last step where nothing old has turned, whatever came in. -/
namespace Go.Proofs.Ytkiekabfmdcemaa
open Go.ChangeShapes Go.WideShapes Go.ChangeAt Go.RowKit

theorem own : ownKnob Try.prog.godebug = none := by kernel_rfl
theorem laidOut : laidOutB Try.prog = true := by kernel_rfl

section
variable {H : Type} {enc : TypeId × Value → H}

variable {P : Program}
/-- The row's last step where below the heap's old size nothing has turned. -/
theorem post_below {f : Func} {s : ChangeSpec} {apart fresh handsOn again : Bool} {W W' : World} {args : Array Value} {v : Value} {ds gs : List (DataW H)} {before pa pv : List MemPlace}
    (hW : DataW.Whole enc P f.params.toList s.vars apart W args.toList ds gs before)
    (hres : ∀ (b : Nat) (sp : Nat → Bool) (hd : Bool), DataW.TrodAll enc P W' b sp hd f.resultTypes.toList (v.resultList f.resultTypes.size) (s.fn H (ds ++ gs)).results [])
    (hargs : ∀ sp : Nat → Bool, (∀ p ∈ before, sp p.block = true) → DataW.TrodAll enc P W' 0 sp true f.params.toList args.toList (s.fn H (ds ++ gs)).args pa)
    (hvars : ∀ sp : Nat → Bool, (∀ p ∈ before, sp p.block = true) → DataW.TrodVars enc P W' sp s.vars (s.fn H (ds ++ gs)).vars pv)
    (hps : before = pa ++ pv) (hb : Below W.heap.size W W')
    (hok : ∀ (j : Nat) (t : TypeId) (r : Value), f.resultTypes[j]? = some t → (v.resultList f.resultTypes.size)[j]? = some r → Value.okWide P W' .any 0 t r) :
    s.post enc P f apart fresh handsOn again W args v W' := by
  have lt : ∀ p ∈ before, p.block < W.heap.size := fun p hp => hW.lt p hp
  have old : ∀ p ∈ before, (fun b => decide (b < W.heap.size)) p.block = true := fun p hp => decide_eq_true (lt p hp)
  have frame : W.keptBut W' (fun p => p ∈ before ∧ (p ∈ ([] : List MemPlace) ∨ p ∈ pa ∨ p ∈ pv)) :=
    World.keptBut_mono (fun p hp => ⟨hp, Or.inr (by rw [hps] at hp; simpa using hp)⟩) (hb.frame (· ∈ before))
  obtain ⟨_, _, _, _, _, hz, hn⟩ := id hW
  refine ⟨ds, gs, before, [], pa, pv, hW, hres _ _ _, hargs _ old, hvars _ old, by simpa using frame, fun _ => ?_⟩
  refine ⟨hok, _, _, ([] ++ pa) ++ pv, ⟨[] ++ pa, pv, trodAll_append (hargs _ (fun _ _ => rfl)) (hres _ _ _), hvars _ (fun _ _ => rfl), rfl, fun b off hp => ?_, fun ha => ?_⟩, fun p hp _ => ?_⟩
  · have hin : MemPlace.cell b off ∈ before := by rw [hps]; simpa using hp
    rw [hb.frozen (lt _ hin)]
    exact hz b off hin
  · have := hn ha
    rw [hps] at this
    simpa using this
  · rw [hps]
    simpa using hp

/-- An argument reads behind the call as it did, whatever counts as spare. -/
theorem arg_kept {t : TypeId} (hl : laidOutB P = true) (hr : P.readableRec t = true) (hrow : t < P.types.size) {W W' : World} {v : Value} {d : DataW H} {ps : List MemPlace} {sp : Nat → Bool}
    (h : DataW.Trod enc P W 0 (fun _ => true) true t v d ps) (hb : Below W.heap.size W W') (hlt : ∀ x ∈ ps, x.block < W.heap.size) (hsp : ∀ x ∈ ps, sp x.block = true) : DataW.Trod enc P W' 0 sp true t v d ps :=
  WideElems.Trod_stays hl hr hrow h (fun x hx => hb.same (hlt x hx)) (fun x hx => hsp x hx)
end
end Go.Proofs.Ytkiekabfmdcemaa

/- Slices that come in, wherever they stand in an argument: of numbers, of records, of slices of numbers. -/
namespace Go.Proofs.Ytkiekabfmdcemaa
open Go.ChangeShapes Go.WideShapes Go.ChangeAt Go.RowKit Go.Deep

theorem cellsIntR : Try.prog.cellsOf 3 = 1 := by kernel_rfl
theorem cellsIntsR : Try.prog.cellsOf 23 = 1 := by kernel_rfl

section
variable {H : Type} {enc : TypeId × Value → H} {w : World} {base : Nat} {spare : Nat → Bool} {held : Bool}

theorem open_recs {α : Type} {s : Shape α} {ts te : TypeId} (hu : Try.prog.underlying ts = some (.slice te)) (hc : Try.prog.cellsOf te = s.z)
    (hel : ∀ (fuel : Nat) (cs : List Value) (x : DataW H × List MemPlace), DataW.trod enc Try.prog w base spare held fuel te cs = some x → ∃ y, s.I w (fun _ => True) cs y)
    {fuel : Nat} {v : Value} {x : DataW H × List MemPlace} (h : DataW.trod enc Try.prog w base spare held fuel ts [v] = some x) :
    ∃ (Ls : List α) (A : Option Addr) (n c : Nat), v = .slice A n c ∧ Recs s w (fun _ => True) Ls A n c := by
  rcases DataW.trod_slice hu h with ⟨h0, _⟩ | ⟨a, len, cap, elems, rest, f, rfl, h0, _, _, hl, hm, hlen, hel', _, _⟩
  · simp at h0
    subst h0
    exact ⟨[], none, 0, 0, rfl, Recs.none _ _ _ (Nat.zero_le _)⟩
  · simp at h0
    subst h0
    have key : ∀ m, m ≤ len → ∃ Ls : List α, Ls.length = m ∧ ∀ i (h : i < Ls.length), ∃ vs : List Value, (∀ q, q < s.z → w.cell? ((a.add (i * s.z)).add q) = vs[q]?) ∧ s.I w (fun _ => True) vs (Ls[i]) := by
      intro m
      induction m with
      | zero => intro _; exact ⟨[], rfl, fun i h => by simp at h⟩
      | succ m ih =>
        intro hm'
        obtain ⟨Ls, hL, hg⟩ := ih (by omega)
        have h1 := hel' m (by omega)
        rw [hc, List.getElem?_eq_getElem (by omega)] at h1
        obtain ⟨cs, hcs, ht⟩ := Option.bind_eq_some_iff.1 h1
        obtain ⟨_, hcl, hcell⟩ := World.cells?_some hcs
        obtain ⟨y, hy⟩ := hel _ _ _ ht
        refine ⟨Ls ++ [y], by simp [hL], fun i hi => ?_⟩
        by_cases e : i < Ls.length
        · obtain ⟨vs, g1, g2⟩ := hg i e
          exact ⟨vs, g1, by rw [List.getElem_append_left e]; exact g2⟩
        · have : i = Ls.length := by simp at hi; omega
          subst this
          refine ⟨cs, fun q hq => ?_, by simpa using hy⟩
          rw [hL]
          exact hcell q hq
    obtain ⟨Ls, hL, hg⟩ := key len (Nat.le_refl _)
    exact ⟨Ls, some a, len, cap, rfl, hL.symm, hl, hm, fun i hi => by
      obtain ⟨vs, g1, g2⟩ := hg i hi
      exact ⟨a, vs, rfl, trivial, g1, g2⟩⟩

set_option maxRecDepth 100000 in
theorem open_intsF {fuel : Nat} {v : Value} {x : DataW H × List MemPlace} (h : DataW.trod enc Try.prog w base spare held fuel 23 [v] = some x) :
    ∃ (xs : List Int) (A : Option Addr) (n c : Nat), v = .slice A n c ∧ Fl w (fun _ => True) 1 xs A n c := by
  rcases DataW.trod_slice Try.underlying23 h with ⟨h0, _⟩ | ⟨a, len, cap, elems, rest, f, rfl, h0, _, _, hl, hm, hlen, hel, _, _⟩
  · simp at h0
    subst h0
    exact ⟨[], none, 0, 0, rfl, rfl, Nat.le_refl _, Nat.zero_le _, fun _ => rfl, fun a ha => by cases ha⟩
  · simp at h0
    subst h0
    have key : ∀ m, m ≤ len → ∃ xs : List Int, xs.length = m * 1 ∧ ∀ j, j < xs.length → w.cell? (a.add j) = some (.int .i64 (xs.getD j 0)) := by
      intro m
      induction m with
      | zero => intro _; exact ⟨[], rfl, fun j hj => by simp at hj⟩
      | succ m ih =>
        intro hm'
        obtain ⟨xs, hx, hg⟩ := ih (by omega)
        have h1 := hel m (by omega)
        rw [cellsIntR, List.getElem?_eq_getElem (by omega)] at h1
        obtain ⟨cs, hcs, ht⟩ := Option.bind_eq_some_iff.1 h1
        obtain ⟨_, hcl, hcell⟩ := World.cells?_some hcs
        match cs, hcl with
        | [c0], _ =>
          obtain ⟨x, e0, _, _⟩ := DataW.trod_int Try.underlying3 ht
          simp at e0
          subst e0
          have z0 := hcell 0 (by omega)
          rw [add_ad] at z0
          simp at z0
          refine ⟨xs ++ [x], by simp [hx], fun j hj => ?_⟩
          by_cases e : j < xs.length
          · rw [hg j e]; simp [List.getD, e, List.getElem?_append_left e]
          · have : j = m := by simp at hj; omega
            subst this
            rw [z0]
            simp at hx
            simp [List.getD, ← hx]
    obtain ⟨xs, hx, hg⟩ := key len (Nat.le_refl _)
    exact ⟨xs, some a, len, cap, rfl, hx, hl, hm, (fun h => by cases h), fun b hb j hj => by
      obtain rfl : b = a := by injection hb with h; exact h.symm
      exact ⟨trivial, hg j hj⟩⟩



theorem open_issF {fuel : Nat} {v : Value} {x : DataW H × List MemPlace} (h : DataW.trod enc Try.prog w base spare held fuel 24 [v] = some x) :
    ∃ (Ls : List (List Int)) (A : Option Addr) (n c : Nat), v = .slice A n c ∧ Recs issShape w (fun _ => True) Ls A n c :=
  open_recs (s := issShape) Try.underlying24 cellsIntsR (fun fuel cs x h => by
    have hl : cs.length = 1 := by
      rcases DataW.trod_slice Try.underlying23 h with ⟨h0, _⟩ | ⟨a, len, cap, _, _, _, _, h0, _⟩ <;> rw [h0] <;> rfl
    match cs, hl with
    | [v], _ =>
      obtain ⟨xs, A, n, c, rfl, hf⟩ := open_intsF h
      obtain rfl := fl_one hf
      exact ⟨xs, A, c, rfl, hf⟩) h
end
end Go.Proofs.Ytkiekabfmdcemaa

/- Processors that come in: what an argument's reading says of memory. -/
namespace Go.Proofs.Ytkiekabfmdcemaa
open Go.ChangeShapes Go.WideShapes Go.ChangeAt Go.RowKit Go.Deep

theorem cellsCtxR : Try.prog.cellsOf 93 = 5 := by kernel_rfl
theorem cellsSayR : Try.prog.cellsOf 96 = 2 := by kernel_rfl
theorem cellsCpuR : Try.prog.cellsOf 27 = 11 := by kernel_rfl
theorem cellsIssR : Try.prog.cellsOf 24 = 1 := by kernel_rfl
theorem cellsCtxsR : Try.prog.cellsOf 22 = 1 := by kernel_rfl
theorem cellsSaysR : Try.prog.cellsOf 25 = 1 := by kernel_rfl

section
variable {H : Type} {enc : TypeId × Value → H} {w : World} {base : Nat} {spare : Nat → Bool} {held : Bool}

set_option maxRecDepth 100000 in
theorem open_sayF {fuel : Nat} {cs : List Value} {x : DataW H × List MemPlace} (h : DataW.trod enc Try.prog w base spare held fuel 96 cs = some x) :
    ∃ (a b : Int), cs = [.int .i64 a, .int .i64 b] := by
  obtain ⟨xs, f, rfl, _, hl, hxl, hf⟩ := DataW.trod_struct Try.underlying96 h
  rw [cellsSayR] at hl
  match cs, hl with
  | [c0, c1], _ =>
    match xs, hxl with
    | [x0, x1], _ =>
      have g0 := hf 0 _ rfl
      have g1 := hf 1 _ rfl
      simp [cellsIntR] at g0 g1
      obtain ⟨k, e0, _, _⟩ := DataW.trod_int Try.underlying3 g0
      obtain ⟨a, e1, _, _⟩ := DataW.trod_int Try.underlying3 g1
      simp at e0 e1
      subst e0 e1
      exact ⟨k, a, rfl⟩

set_option maxRecDepth 100000 in
theorem open_saysF {fuel : Nat} {v : Value} {x : DataW H × List MemPlace} (h : DataW.trod enc Try.prog w base spare held fuel 25 [v] = some x) :
    ∃ (xs : List Int) (A : Option Addr) (n c : Nat), v = .slice A n c ∧ Fl w (fun _ => True) 2 xs A n c := by
  rcases DataW.trod_slice Try.underlying25 h with ⟨h0, _⟩ | ⟨a, len, cap, elems, rest, f, rfl, h0, _, _, hl, hm, hlen, hel, _, _⟩
  · simp at h0
    subst h0
    exact ⟨[], none, 0, 0, rfl, rfl, Nat.le_refl _, Nat.zero_le _, fun _ => rfl, fun a ha => by cases ha⟩
  · simp at h0
    subst h0
    have key : ∀ m, m ≤ len → ∃ xs : List Int, xs.length = m * 2 ∧ ∀ j, j < xs.length → w.cell? (a.add j) = some (.int .i64 (xs.getD j 0)) := by
      intro m
      induction m with
      | zero => intro _; exact ⟨[], rfl, fun j hj => by simp at hj⟩
      | succ m ih =>
        intro hm'
        obtain ⟨xs, hx, hg⟩ := ih (by omega)
        have h1 := hel m (by omega)
        rw [cellsSayR, List.getElem?_eq_getElem (by omega)] at h1
        obtain ⟨cs, hcs, ht⟩ := Option.bind_eq_some_iff.1 h1
        obtain ⟨_, _, hcell⟩ := World.cells?_some hcs
        obtain ⟨x, y, rfl⟩ := open_sayF ht
        have z0 := hcell 0 (by omega)
        have z1 := hcell 1 (by omega)
        rw [add_ad] at z0 z1
        simp at z0 z1
        refine ⟨xs ++ [x, y], by simp [hx]; omega, fun j hj => ?_⟩
        by_cases e : j < xs.length
        · rw [hg j e]; simp [List.getD, e, List.getElem?_append_left e]
        · have : j = m * 2 ∨ j = m * 2 + 1 := by simp at hj; omega
          rcases this with rfl | rfl
          · rw [z0, ← hx]; simp [List.getD]
          · rw [z1, ← hx]; simp [List.getD]
    obtain ⟨xs, hx, hg⟩ := key len (Nat.le_refl _)
    exact ⟨xs, some a, len, cap, rfl, hx, hl, hm, (fun h => by cases h), fun b hb j hj => by
      obtain rfl : b = a := by injection hb with h; exact h.symm
      exact ⟨trivial, hg j hj⟩⟩

set_option maxRecDepth 100000 in
theorem open_ctx {fuel : Nat} {cs : List Value} {x : DataW H × List MemPlace} (h : DataW.trod enc Try.prog w base spare held fuel 93 cs = some x) :
    ∃ y, ctxShape.I w (fun _ => True) cs y := by
  obtain ⟨xs, f, rfl, _, hl, hxl, hf⟩ := DataW.trod_struct Try.underlying93 h
  rw [cellsCtxR] at hl
  match cs, hl with
  | [c0, c1, c2, c3, c4], _ =>
    match xs, hxl with
    | [x0, x1, x2, x3, x4], _ =>
      have g0 := hf 0 _ rfl
      have g1 := hf 1 _ rfl
      have g2 := hf 2 _ rfl
      have g3 := hf 3 _ rfl
      have g4 := hf 4 _ rfl
      simp [cellsIntR, cellsIntsR] at g0 g1 g2 g3 g4
      obtain ⟨X0, A0, n0, k0, rfl, p0⟩ := open_intsF g0
      obtain rfl := fl_one p0
      obtain ⟨z1, e1, _, _⟩ := DataW.trod_int Try.underlying3 g1
      simp at e1
      subst e1
      obtain ⟨z2, e2, _, _⟩ := DataW.trod_int Try.underlying3 g2
      simp at e2
      subst e2
      obtain ⟨z3, e3, _, _⟩ := DataW.trod_int Try.underlying3 g3
      simp at e3
      subst e3
      obtain ⟨z4, e4, _, _⟩ := DataW.trod_int Try.underlying3 g4
      simp at e4
      subst e4
      exact ⟨⟨X0, z1, z2, z3, z4⟩, A0, k0, rfl, p0⟩

theorem open_ctxs {fuel : Nat} {v : Value} {x : DataW H × List MemPlace} (h : DataW.trod enc Try.prog w base spare held fuel 22 [v] = some x) :
    ∃ (Ls : List CtxP) (A : Option Addr) (n c : Nat), v = .slice A n c ∧ Recs ctxShape w (fun _ => True) Ls A n c :=
  open_recs (s := ctxShape) Try.underlying22 cellsCtxR (fun _ _ _ h => open_ctx h) h

set_option maxRecDepth 100000 in
theorem open_cpu {fuel : Nat} {cs : List Value} {x : DataW H × List MemPlace} (h : DataW.trod enc Try.prog w base spare held fuel 27 cs = some x) :
    ∃ y, cpuShape.I w (fun _ => True) cs y := by
  obtain ⟨xs, f, rfl, _, hl, hxl, hf⟩ := DataW.trod_struct Try.underlying27 h
  rw [cellsCpuR] at hl
  match cs, hl with
  | [c0, c1, c2, c3, c4, c5, c6, c7, c8, c9, c10], _ =>
    match xs, hxl with
    | [x0, x1, x2, x3, x4, x5, x6, x7, x8, x9, x10], _ =>
      have g0 := hf 0 _ rfl
      have g1 := hf 1 _ rfl
      have g2 := hf 2 _ rfl
      have g3 := hf 3 _ rfl
      have g4 := hf 4 _ rfl
      have g5 := hf 5 _ rfl
      have g6 := hf 6 _ rfl
      have g7 := hf 7 _ rfl
      have g8 := hf 8 _ rfl
      have g9 := hf 9 _ rfl
      have g10 := hf 10 _ rfl
      simp [cellsIntR, cellsIntsR, cellsCtxsR, cellsIssR, cellsSaysR] at g0 g1 g2 g3 g4 g5 g6 g7 g8 g9 g10
      obtain ⟨X0, A0, n0, k0, rfl, p0⟩ := open_ctxs g0
      obtain rfl := Recs.len p0
      obtain ⟨X1, A1, n1, k1, rfl, p1⟩ := open_intsF g1
      obtain rfl := fl_one p1
      obtain ⟨X2, A2, n2, k2, rfl, p2⟩ := open_intsF g2
      obtain rfl := fl_one p2
      obtain ⟨X3, A3, n3, k3, rfl, p3⟩ := open_issF g3
      obtain rfl := Recs.len p3
      obtain ⟨X4, A4, n4, k4, rfl, p4⟩ := open_issF g4
      obtain rfl := Recs.len p4
      obtain ⟨X5, A5, n5, k5, rfl, p5⟩ := open_intsF g5
      obtain rfl := fl_one p5
      obtain ⟨z6, e6, _, _⟩ := DataW.trod_int Try.underlying3 g6
      simp at e6
      subst e6
      obtain ⟨z7, e7, _, _⟩ := DataW.trod_int Try.underlying3 g7
      simp at e7
      subst e7
      obtain ⟨X8, A8, n8, k8, rfl, p8⟩ := open_saysF g8
      obtain rfl := fl_two p8
      obtain ⟨X9, A9, n9, k9, rfl, p9⟩ := open_intsF g9
      obtain rfl := fl_one p9
      obtain ⟨X10, A10, n10, k10, rfl, p10⟩ := open_intsF g10
      obtain rfl := fl_one p10
      exact ⟨⟨X0, X1, X2, X3, X4, X5, z6, z7, X8, X9, X10⟩, A0, k0, A1, k1, A2, k2, A3, k3, A4, k4, A5, k5, A8, k8, A9, k9, A10, k10, rfl, p0, p1, p2, p3, p4, p5, p8, p9, p10⟩


set_option maxRecDepth 100000 in
theorem open_cpuA (hl : ∀ {vs : List Value}, vs.length = 11 → ∃ v0 v1 v2 v3 v4 v5 v6 v7 v8 v9 v10 : Value, vs = [v0, v1, v2, v3, v4, v5, v6, v7, v8, v9, v10]) {W : World} {base : Nat} {v : Value} {d : DataW H} {ps : List MemPlace} (hval : Value.okWide Try.prog W .any base 27 v) (h : DataW.Trod enc Try.prog W 0 (fun _ => true) true 27 v d ps) :
    ∃ (v0 v1 v2 v3 v4 v5 v6 v7 v8 v9 v10 : Value) (x : CpuP), v = .agg #[v0, v1, v2, v3, v4, v5, v6, v7, v8, v9, v10] ∧ cpuShape.I W (fun _ => True) [v0, v1, v2, v3, v4, v5, v6, v7, v8, v9, v10] x := by
  obtain ⟨cs, rfl, _⟩ := okWide_struct Try.underlying27 hval
  obtain ⟨fuel, hf⟩ := h
  obtain ⟨l⟩ := cs
  obtain ⟨x, hx⟩ := open_cpu hf
  simp only [Value.cells] at hx
  obtain ⟨v0, v1, v2, v3, v4, v5, v6, v7, v8, v9, v10, rfl⟩ := hl (cpuShape.len hx)
  exact ⟨v0, v1, v2, v3, v4, v5, v6, v7, v8, v9, v10, x, rfl, hx⟩
end
end Go.Proofs.Ytkiekabfmdcemaa

/- Statements that come in: what an argument's reading says of memory. -/
namespace Go.Proofs.Ytkiekabfmdcemaa
open Go.ChangeShapes Go.WideShapes Go.ChangeAt Go.RowKit Go.Deep

theorem cellsStmt : Try.prog.cellsOf 85 = 6 := by kernel_rfl
theorem cellsInt : Try.prog.cellsOf 3 = 1 := by kernel_rfl
theorem cellsList : Try.prog.cellsOf 48 = 1 := by kernel_rfl

section
variable {H : Type} {enc : TypeId × Value → H} {w : World} {base : Nat} {spare : Nat → Bool} {held : Bool}

set_option maxRecDepth 100000 in
/-- A statement's six cells. -/
theorem open_stmt {fuel : Nat} {cs : List Value} {x : DataW H × List MemPlace} (h : DataW.trod enc Try.prog w base spare held fuel 85 cs = some x) :
    ∃ (f : Nat) (k a b n : Int) (v4 v5 : Value) (y4 y5 : DataW H × List MemPlace), fuel = f + 1 ∧ cs = [.int .i64 k, .int .i64 a, .int .i64 b, .int .i64 n, v4, v5] ∧
      DataW.trod enc Try.prog w base spare held f 48 [v4] = some y4 ∧ DataW.trod enc Try.prog w base spare held f 48 [v5] = some y5 := by
  obtain ⟨xs, f, rfl, _, hl, hxl, hf⟩ := DataW.trod_struct Try.underlying85 h
  rw [cellsStmt] at hl
  match cs, hl with
  | [c0, c1, c2, c3, c4, c5], _ =>
    match xs, hxl with
    | [x0, x1, x2, x3, x4, x5], _ =>
      have g0 := hf 0 _ rfl
      have g1 := hf 1 _ rfl
      have g2 := hf 2 _ rfl
      have g3 := hf 3 _ rfl
      have g4 := hf 4 _ rfl
      have g5 := hf 5 _ rfl
      simp [cellsInt, cellsList] at g0 g1 g2 g3 g4 g5
      obtain ⟨k, e0, _, _⟩ := DataW.trod_int Try.underlying3 g0
      obtain ⟨a, e1, _, _⟩ := DataW.trod_int Try.underlying3 g1
      obtain ⟨b, e2, _, _⟩ := DataW.trod_int Try.underlying3 g2
      obtain ⟨n, e3, _, _⟩ := DataW.trod_int Try.underlying3 g3
      simp at e0 e1 e2 e3
      subst e0 e1 e2 e3
      exact ⟨f, k, a, b, n, c4, c5, x4, x5, rfl, rfl, g4, g5⟩

theorem slice_of {fuel : Nat} {v : Value} {x : DataW H × List MemPlace} (h : DataW.trod enc Try.prog w base spare held fuel 48 [v] = some x) : ∃ (A : Option Addr) (n c : Nat), v = .slice A n c := by
  rcases DataW.trod_slice Try.underlying48 h with ⟨h0, _⟩ | ⟨a, len, cap, _, _, _, _, h0, _⟩
  · simp at h0; exact ⟨_, _, _, h0⟩
  · simp at h0; exact ⟨_, _, _, h0⟩

theorem open_list (fuel : Nat) : ∀ (A : Option Addr) (n c : Nat) (x : DataW H × List MemPlace), DataW.trod enc Try.prog w base spare held fuel 48 [.slice A n c] = some x → ∃ L, Sl w w.heap.size L A n c := by
  induction fuel using Nat.strongRecOn with
  | ind fuel ih =>
    intro A n c x h
    rcases DataW.trod_slice Try.underlying48 h with ⟨h0, _⟩ | ⟨a, len, cap, elems, rest, f, rfl, h0, _, _, hl, hm, hlen, hel, _, _⟩
    · simp at h0
      obtain ⟨rfl, rfl, rfl⟩ := h0
      exact ⟨.nil, Sl.none w _ 0 (Nat.zero_le _)⟩
    · simp at h0
      obtain ⟨rfl, rfl, rfl⟩ := h0
      have key : ∀ j, j ≤ n → ∃ L : SL, L.len = j ∧ At w w.heap.size L (a.add ((n - j) * 6)) := by
        intro j
        induction j with
        | zero => intro _; exact ⟨.nil, rfl, trivial⟩
        | succ j jh =>
          intro hj
          obtain ⟨R, hRl, hR⟩ := jh (by omega)
          have hi := hel (n - (j + 1)) (by omega)
          rw [cellsStmt, List.getElem?_eq_getElem (by omega)] at hi
          obtain ⟨cs, hcs, ht⟩ := Option.bind_eq_some_iff.1 hi
          obtain ⟨_, _, hcell⟩ := World.cells?_some hcs
          obtain ⟨g, k, p, q, r, v4, v5, y4, y5, hg, rfl, t4, t5⟩ := open_stmt ht
          obtain ⟨A4, n4, c4, rfl⟩ := slice_of t4
          obtain ⟨A5, n5, c5, rfl⟩ := slice_of t5
          obtain ⟨B, hB⟩ := ih g (by omega) _ _ _ _ t4
          obtain ⟨E, hE⟩ := ih g (by omega) _ _ _ _ t5
          obtain rfl := hB.len
          obtain rfl := hE.len
          have z0 := hcell 0 (by omega)
          have z1 := hcell 1 (by omega)
          have z2 := hcell 2 (by omega)
          have z3 := hcell 3 (by omega)
          have z4 := hcell 4 (by omega)
          have z5 := hcell 5 (by omega)
          simp at z0 z1 z2 z3 z4 z5
          have e0 : ∀ b : Addr, b.add 0 = b := fun b => by simp [Addr.add]
          rw [e0] at z0
          refine ⟨.cons k p q r B E R, by simp only [SL.len, hRl], At.mk (World.block_lt_of_cell? _ _ z0) z0 z1 z2 z3 z4 z5 hB hE ?_⟩
          rw [addr_add, show (n - (j + 1)) * 6 + 6 = (n - j) * 6 from by omega]
          exact hR
      obtain ⟨L, hL, hA⟩ := key n (Nat.le_refl _)
      refine ⟨L, hL.symm, hl, hm, (fun h => by cases h), fun p hp => ?_⟩
      injection hp with hp
      subst hp
      rw [Nat.sub_self, Nat.zero_mul] at hA
      simpa [Addr.add] using hA
end
end Go.Proofs.Ytkiekabfmdcemaa

/- Configurations that come in: what an argument's reading says of memory. -/
namespace Go.Proofs.Ytkiekabfmdcemaa
open Go.ChangeShapes Go.WideShapes Go.ChangeAt Go.RowKit Go.Deep

theorem cellsProcR : Try.prog.cellsOf 100 = 5 := by kernel_rfl
theorem cellsWorldR : Try.prog.cellsOf 38 = 5 := by kernel_rfl
theorem cellsProcsR : Try.prog.cellsOf 36 = 1 := by kernel_rfl
theorem cellsStmtsR : Try.prog.cellsOf 48 = 1 := by kernel_rfl

theorem At.toP {w : World} {N : Nat} {L : SL} : ∀ {a : Addr}, At w N L a → AtP w (fun _ => True) L a := by
  induction L with
  | nil => intro a _; trivial
  | cons k x y n B E R hB hE hR =>
    rintro a ⟨ha, h0, h1, h2, h3, ⟨A, c, h4, l4, m4, n4, p4⟩, ⟨A', c', h5, l5, m5, n5, p5⟩, h6⟩
    exact ⟨trivial, h0, h1, h2, h3, ⟨A, c, h4, l4, m4, n4, fun p hp => hB (p4 p hp)⟩, ⟨A', c', h5, l5, m5, n5, fun p hp => hE (p5 p hp)⟩, hR h6⟩
theorem Sl.toP {w : World} {N : Nat} {L : SL} {A : Option Addr} {n c : Nat} (h : Sl w N L A n c) : SlP w (fun _ => True) L A n c := ⟨h.len, h.le, h.top, h.nil, fun p hp => (h.at_ p hp).toP⟩

section
variable {H : Type} {enc : TypeId × Value → H} {w : World} {base : Nat} {spare : Nat → Bool} {held : Bool}

theorem open_stmtsF {fuel : Nat} {v : Value} {x : DataW H × List MemPlace} (h : DataW.trod enc Try.prog w base spare held fuel 48 [v] = some x) :
    ∃ (L : SL) (A : Option Addr) (n c : Nat), v = .slice A n c ∧ SlP w (fun _ => True) L A n c := by
  obtain ⟨A, n, c, rfl⟩ := slice_of h
  obtain ⟨L, hL⟩ := open_list fuel A n c _ h
  exact ⟨L, A, n, c, rfl, hL.toP⟩

set_option maxRecDepth 100000 in
theorem open_proc {fuel : Nat} {cs : List Value} {x : DataW H × List MemPlace} (h : DataW.trod enc Try.prog w base spare held fuel 100 cs = some x) :
    ∃ y, procShape.I w (fun _ => True) cs y := by
  obtain ⟨xs, f, rfl, _, hl, hxl, hf⟩ := DataW.trod_struct Try.underlying100 h
  rw [cellsProcR] at hl
  match cs, hl with
  | [c0, c1, c2, c3, c4], _ =>
    match xs, hxl with
    | [x0, x1, x2, x3, x4], _ =>
      have g0 := hf 0 _ rfl
      have g1 := hf 1 _ rfl
      have g2 := hf 2 _ rfl
      have g3 := hf 3 _ rfl
      have g4 := hf 4 _ rfl
      simp [cellsIntR, cellsIntsR, cellsStmtsR] at g0 g1 g2 g3 g4
      obtain ⟨X0, A0, n0, k0, rfl, p0⟩ := open_intsF g0
      obtain rfl := fl_one p0
      obtain ⟨X1, A1, n1, k1, rfl, p1⟩ := open_stmtsF g1
      obtain rfl := SlP.len p1
      obtain ⟨z2, e2, _, _⟩ := DataW.trod_int Try.underlying3 g2
      simp at e2
      subst e2
      obtain ⟨z3, e3, _, _⟩ := DataW.trod_int Try.underlying3 g3
      simp at e3
      subst e3
      obtain ⟨z4, e4, _, _⟩ := DataW.trod_int Try.underlying3 g4
      simp at e4
      subst e4
      exact ⟨⟨X0, X1, z2, z3, z4⟩, A0, k0, A1, k1, rfl, p0, p1⟩

theorem open_procs {fuel : Nat} {v : Value} {x : DataW H × List MemPlace} (h : DataW.trod enc Try.prog w base spare held fuel 36 [v] = some x) :
    ∃ (Ls : List ProcP) (A : Option Addr) (n c : Nat), v = .slice A n c ∧ Recs procShape w (fun _ => True) Ls A n c :=
  open_recs (s := procShape) Try.underlying36 cellsProcR (fun _ _ _ h => open_proc h) h

set_option maxRecDepth 100000 in
theorem open_world {fuel : Nat} {cs : List Value} {x : DataW H × List MemPlace} (h : DataW.trod enc Try.prog w base spare held fuel 38 cs = some x) :
    ∃ y, worldShape.I w (fun _ => True) cs y := by
  obtain ⟨xs, f, rfl, _, hl, hxl, hf⟩ := DataW.trod_struct Try.underlying38 h
  rw [cellsWorldR] at hl
  match cs, hl with
  | [c0, c1, c2, c3, c4], _ =>
    match xs, hxl with
    | [x0, x1, x2, x3, x4], _ =>
      have g0 := hf 0 _ rfl
      have g1 := hf 1 _ rfl
      have g2 := hf 2 _ rfl
      have g3 := hf 3 _ rfl
      have g4 := hf 4 _ rfl
      simp [cellsIntsR, cellsProcsR, cellsIssR, cellsSaysR] at g0 g1 g2 g3 g4
      obtain ⟨X0, A0, n0, k0, rfl, p0⟩ := open_procs g0
      obtain rfl := Recs.len p0
      obtain ⟨X1, A1, n1, k1, rfl, p1⟩ := open_intsF g1
      obtain rfl := fl_one p1
      obtain ⟨X2, A2, n2, k2, rfl, p2⟩ := open_intsF g2
      obtain rfl := fl_one p2
      obtain ⟨X3, A3, n3, k3, rfl, p3⟩ := open_issF g3
      obtain rfl := Recs.len p3
      obtain ⟨X4, A4, n4, k4, rfl, p4⟩ := open_saysF g4
      obtain rfl := fl_two p4
      exact ⟨⟨X0, X1, X2, X3, X4⟩, A0, k0, A1, k1, A2, k2, A3, k3, A4, k4, rfl, p0, p1, p2, p3, p4⟩


set_option maxRecDepth 100000 in
theorem open_worldA (hl : ∀ {vs : List Value}, vs.length = 5 → ∃ v0 v1 v2 v3 v4 : Value, vs = [v0, v1, v2, v3, v4]) {W : World} {base : Nat} {v : Value} {d : DataW H} {ps : List MemPlace} (hval : Value.okWide Try.prog W .any base 38 v) (h : DataW.Trod enc Try.prog W 0 (fun _ => true) true 38 v d ps) :
    ∃ (v0 v1 v2 v3 v4 : Value) (x : WorldP), v = .agg #[v0, v1, v2, v3, v4] ∧ worldShape.I W (fun _ => True) [v0, v1, v2, v3, v4] x := by
  obtain ⟨cs, rfl, _⟩ := okWide_struct Try.underlying38 hval
  obtain ⟨fuel, hf⟩ := h
  obtain ⟨l⟩ := cs
  obtain ⟨x, hx⟩ := open_world hf
  simp only [Value.cells] at hx
  obtain ⟨v0, v1, v2, v3, v4, rfl⟩ := hl (worldShape.len hx)
  exact ⟨v0, v1, v2, v3, v4, x, rfl, hx⟩
end
end Go.Proofs.Ytkiekabfmdcemaa

namespace Go.Proofs.Ytkiekabfmdcemaa.pFnExactWorldSame
open Go.ChangeShapes Go.WideShapes Go.ChangeAt Go.RowKit

set_option maxRecDepth 100000 in
theorem lifted (os : Os) (started : os.Started) (H : Type) (enc : TypeId × Value → H) :
    ReturnsInHanded {} Try.checked os 5 .any (Rows.fnExactWorldSameSpec.pre6 enc Try.prog Try.f5 Rows.fnExactWorldSameRow.domain false) (Rows.fnExactWorldSameSpec.post enc Try.prog Try.f5 false true false false) := by
  refine returnsInHanded_of_change (C := Try.checked) own started (by kernel_rfl) Try.func5
    (ChangeSpec.witness6 (enc := enc) (C := Try.checked) false ⟨#[], #[.agg #[.slice none 0 0, .slice none 0 0, .slice none 0 0, .slice none 0 0, .slice none 0 0], .agg #[.slice none 0 0, .slice none 0 0, .slice none 0 0, .slice none 0 0, .slice none 0 0]], []⟩ 8 (by kernel_rfl) (by kernel_rfl) (by kernel_rfl) (by kernel_rfl)) ?_
  intro W base args ds gs before hval0 hW hcnd _
  have hval : ∀ (j : Nat) t v, Try.f5.params[j]? = some t → args[j]? = some v → Value.okWide Try.prog W .any base t v := hval0
  have hW' := hW
  obtain ⟨p, q, hA0, hV, rfl, _, _⟩ := hW
  have hA : DataW.TrodAll enc Try.prog W 0 (fun _ => true) true Try.f5.params.toList args.toList ds p := hA0
  rw [Try.params5] at hA hval
  obtain ⟨v0, vs0, d0, ds0, p0, q0, hargs, rfl, rfl, h0, r0⟩ := trodAll_cons hA
  obtain ⟨v1, vs1, d1, ds1, p1, q1, rfl, rfl, rfl, h1, r1⟩ := trodAll_cons r0
  obtain ⟨rfl, rfl, rfl⟩ := trodAll_nil r1
  obtain rfl : args = #[v0, v1] := by cases args; simp_all
  obtain ⟨rfl, rfl⟩ := trodVars_none hV
  obtain ⟨xa0, xa1, xa2, xa3, xa4, x, rfl, s0⟩ := open_worldA list5 (hval 0 38 v0 rfl rfl) h0
  obtain ⟨xb0, xb1, xb2, xb3, xb4, y, rfl, s1⟩ := open_worldA list5 (hval 1 38 v1 rfl rfl) h1
  clear hA0 hval0
  simp only [List.append_nil] at hW'
  refine (wFnExactWorldSame x y xa0 xa1 xa2 xa3 xa4 xb0 xb1 xb2 xb3 xb4 W s0 s1).mono fun e W' ⟨he, hb⟩ => ?_
  subst he
  have lt0 : ∀ x ∈ p0, x.block < W.heap.size := fun x hx => hW'.lt x (List.mem_append_left _ hx)
  have lt1 : ∀ x ∈ p1, x.block < W.heap.size := fun x hx => hW'.lt x (List.mem_append_right _ hx)
  have hargs' : ∀ sp : Nat → Bool, (∀ x ∈ p0 ++ p1, sp x.block = true) → DataW.TrodAll enc Try.prog W' 0 sp true [38, 38] [.agg #[xa0, xa1, xa2, xa3, xa4], .agg #[xb0, xb1, xb2, xb3, xb4]] [d0, d1] (p0 ++ p1) := fun sp hsp => by
    have h : DataW.TrodAll enc Try.prog W' 0 sp true _ _ _ _ := (trodAll_cons_mk (arg_kept laidOut (by kernel_rfl) (of_decide_eq_true (by kernel_rfl)) h0 hb lt0 (fun x hx => hsp x (List.mem_append_left _ hx))) (trodAll_cons_mk (arg_kept laidOut (by kernel_rfl) (of_decide_eq_true (by kernel_rfl)) h1 hb lt1 (fun x hx => hsp x (List.mem_append_right _ hx))) trodAll_mk0))
    simpa only [List.append_nil] using h
  exact ⟨_, rfl, post_below (pa := p0 ++ p1) (pv := []) hW' (fun _ _ _ => (trodAll_cons_mk (shut_bool Try.underlying4 _) trodAll_mk0)) (fun sp hsp => hargs' sp hsp) (fun _ _ => rfl) (by simp)
    hb (ok_one (by kernel_rfl) rfl (okWide_bool_mk Try.underlying4 _))⟩

/-- THE STATEMENT. -/
theorem proved : Rows.FnExactWorldSameSaid :=
  OpenClaim.holds_of_wide 5 Try.f5 rfl rfl rfl rfl rfl rfl rfl ⟨rfl, rfl, rfl, rfl, rfl⟩ rfl rfl rfl rfl rfl (by kernel_rfl) Try.func5 (by kernel_rfl)
    (of_decide_eq_true (by kernel_rfl)) (by unfold Func.isWrapper; first | (rw [if_pos (by decide +kernel)]; kernel_rfl) | (rw [if_neg (by decide +kernel)]; exact ⟨rfl, rfl⟩))
    (fun os started H enc _ => lifted os started H enc)
#print axioms proved
end Go.Proofs.Ytkiekabfmdcemaa.pFnExactWorldSame
