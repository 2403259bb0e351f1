/- The walk of laws.FnExactCodeOf. -/
import Derived.Test.YtlmgbpbiljnohaaDoorCodeBoth2
import Derived.Test.YtlmgbpbiljnohaaDoorCopyF
import Derived.Test.YtlmgbpbiljnohaaDoorMarkWalk
import Derived.Test.YtlmgbpbiljnohaaDoorInsMark
import Derived.Test.YtlmgbpbiljnohaaDoorSz
import Derived.Test.YtlmgbpbiljnohaaDoorEq
namespace Go.Proofs.YtlmgbpbiljnohaaDoor
open Go.ChangeShapes Go.WideShapes Go.ChangeAt Go.RowKit

theorem SlF.sl' {w : World} {L : SL} {A : Option Addr} {c N : Nat} {F : List Nat} (h : SlF w L A c F) (hF : ∀ b ∈ F, b < N) : Sl w N L A L.len c := (h.slP (S := fun b => b < N) hF).sl fun _ h => h
theorem SlF.below {w w' : World} {L : SL} {A : Option Addr} {c N : Nat} {F : List Nat} (h : SlF w L A c F) (hb : Below N w w') (hF : ∀ b ∈ F, b < N) : SlF w' L A c F := h.keep fun b hb' => hb.block b (hF b hb')
/-- A row that is owned, read as a slice, at its own value. -/
theorem own_fl' {w : World} {base : Nat} {e : TypeId} {z : Nat} {A : Option Addr} {c n : Nat} {xs : List Int} (ho : w.ownsRow base e z (.slice A n c) n (ints xs)) : Fl w (fun _ => True) z xs A n c := by
  obtain ⟨_, _, e, f⟩ := own_fl ho
  simp only [Value.slice.injEq, true_and] at e
  obtain ⟨rfl, rfl⟩ := e
  exact f.mono fun _ _ => trivial

set_option maxRecDepth 100000 in
set_option maxHeartbeats 4000000 in
theorem wFnExactCodeOf (L : SL) (A : Option Addr) (n c : Nat) (w : World) (hs : Sl w w.heap.size L A n c) (h0 : 0 < w.heap.size) (hop : Ops w) :
    Calls Tryd.prog 3 #[.slice A n c] w fun e w' => e = .returned (.bool true) ∧ Below w.heap.size w w' := by
  have HOP := Lib.hid hop
  clear hop
  by_cases hfit : (L.size : Int) ≤ 1048576
  · have HS := Lib.hid (show szR L.size 1048576 = 1048576 - (L.size : Int) from if_pos hfit)
    have hpos : 0 ≤ (1048576 : Int) - L.size := by omega
    have lL : L.size ≤ 1048576 := by omega
    clear hfit
    obtain ⟨m, hm⟩ : ∃ m, codeN L = m := ⟨_, rfl⟩
    obtain ⟨xs, hx⟩ : ∃ xs, codeX L = xs := ⟨_, rfl⟩
    have hm29 : m ≤ 29 := hm ▸ codeN_le L
    have hSC := fun (A : Option Addr) (n c M : Nat) (w : World) (hs : Sl w M L A n c) (hM : M ≤ w.heap.size) => specCode hs hM lL
    have hIC := fun (A : Option Addr) (n c M : Nat) (w : World) (hs : Sl w M L A n c) (hM : M ≤ w.heap.size) (h0 : 0 < w.heap.size) (hop : Ops w) => implCode hs hM h0 hop
    rw [hm, hx] at hSC hIC
    have HSC := Lib.hid hSC
    have HIC := Lib.hid hIC
    clear hSC hIC hm hx
    go_enter Tryd.func3, Tryd.ntmps3
    go_wp2_with fail
    refine (szStmtS hs (Nat.le_refl _) (by omega) (by omega)).mono ?_
    rintro e w0 ⟨rfl, b0⟩
    rw [HS.out]
    have z0 := b0.size
    clear HS
    go_wp2_with fail
    refine (toStmtSF L lL A n c w.heap.size w0 (hs.below b0) z0).mono ?_
    rintro e w1 ⟨A1, c1, F1, rfl, s1, _, f1, hb1⟩
    have z1 := hb1.size
    have b1 := b0.trans (hb1.mono z0)
    have u1 : Sl w1 w1.heap.size L A1 L.len c1 := s1.sl' fun b hb => (f1 b hb).2
    clear hb1 s1 f1
    go_wp2_with fail
    refine (HSC.out A1 L.len c1 w1.heap.size w1 u1 (Nat.le_refl _)).mono ?_
    rintro e w2 ⟨vw, rfl, ow2, hb2⟩
    have z2 := hb2.size
    have b2 := b1.trans (hb2.mono (by omega))
    clear hb2 u1
    obtain ⟨AW, cW, rfl⟩ := own_slice ow2
    go_wp2_with fail
    refine (toStmtSF L lL A n c w.heap.size w2 (hs.below b2) (by omega)).mono ?_
    rintro e w3 ⟨A3, c3, F3, rfl, s3, d3, f3, hb3⟩
    have z3 := hb3.size
    have b3 := b2.trans (hb3.mono (by omega))
    have ow3 := own_below ow2 hb3
    have hwF : ∀ b, (Value.slice AW m cW).ownBlock = some b → b ∉ F3 := fun b h1 h2 => by have := (own_at ow2 h1).2; have := (f3 b h2).1; omega
    have f3' : ∀ b ∈ F3, b < w3.heap.size := fun b hb => (f3 b hb).2
    have f3'' : ∀ b ∈ F3, w.heap.size ≤ b := fun b hb => by have := (f3 b hb).1; omega
    clear hb3 ow2 f3
    go_wp2_with fail
    refine (HIC.out A3 L.len c3 w3.heap.size w3 (s3.sl' f3') (Nat.le_refl _) (by omega) (HOP.out.below b3 h0)).mono ?_
    rintro e w4 ⟨vg, rfl, og4, hb4⟩
    have z4 := hb4.size
    have b4 := b3.trans (hb4.mono (by omega))
    have ow4 := own_below ow3 hb4
    have s4 := s3.below hb4 f3'
    obtain ⟨AG, cG, rfl⟩ := own_slice og4
    have hgF : ∀ b, (Value.slice AG m cG).ownBlock = some b → b ∉ F3 := fun b h1 h2 => by have := (own_at og4 h1).1; have := f3' b h2; omega
    have hgw : ∀ b, (Value.slice AW m cW).ownBlock = some b → (Value.slice AG m cG).ownBlock ≠ some b := fun b h1 h2 => by have := (own_at ow3 h1).2; have := (own_at og4 h2).1; omega
    have hgl : ∀ b, (Value.slice AG m cG).ownBlock = some b → w.heap.size ≤ b := fun b h => by have := (own_at og4 h).1; omega
    clear hb4 ow3 s3
    go_wp2_with fail
    refine (eqInsS (own_fl' og4) (own_fl' ow4)).mono ?_
    rintro e w5 ⟨rfl, hb5⟩
    have z5 := hb5.size
    have b5 := b4.trans (hb5.mono (by omega))
    have og5 := own_below og4 hb5
    have ow5 := own_below ow4 hb5
    have s5 := s4.below hb5 (fun b hb => by have := f3' b hb; omega)
    clear og4 ow4 s4 hb5
    go_wp2_with fail
    refine (toStmtSF L lL A n c w.heap.size w5 (hs.below b5) (by omega)).mono ?_
    rintro e w6 ⟨A6, c6, F6, rfl, s6, _, f6, hb6⟩
    have z6 := hb6.size
    have b6 := b5.trans (hb6.mono (by omega))
    have og6 := own_below og5 hb6
    have ow6 := own_below ow5 hb6
    have t6 := s5.below hb6 (fun b hb => by have := f3' b hb; omega)
    have u6 : Sl w6 w6.heap.size L A6 L.len c6 := s6.sl' fun b hb => (f6 b hb).2
    clear og5 ow5 s5 hb6 s6 f6
    go_wp2_with fail
    refine (eqStmtS L A3 A6 L.len c3 L.len c6 w6.heap.size w6.heap.size w6 (t6.sl' (fun b hb => by have := f3' b hb; omega)) u6 (Nat.le_refl _) (Nat.le_refl _)).mono ?_
    rintro e w7 ⟨rfl, hb7⟩
    have z7 := hb7.size
    have b7 := b6.trans (hb7.mono (by omega))
    have og7 := own_below og6 hb7
    have ow7 := own_below ow6 hb7
    have t7 := t6.below hb7 (fun b hb => by have := f3' b hb; omega)
    clear og6 ow6 t6 hb7 u6
    have HK := Lib.hid (show (1 : Int) + 4 * L.size ≤ 4194305 by omega)
    go_wp2_with fail
    refine (markStmtS L lL A3 c3 F3 1 w7 t7 d3 (fun b hb => by have := f3' b hb; omega) (by omega) (by omega)).mono ?_
    rintro e w8 ⟨rfl, _, hb8⟩
    have z8 := hb8.size
    have b8 := b7.trans (hb8.below (by omega) f3'')
    have og8 := own_block og7 fun b hb => hb8.block b (own_at og7 hb).2 (hgF b hb)
    have ow8 := own_block ow7 fun b hb => hb8.block b (own_at ow7 hb).2 (hwF b hb)
    clear og7 ow7 t7 hb8 hgF hwF f3' f3''
    go_wp2_with fail
    refine (eqInsS (own_fl' og8) (own_fl' ow8)).mono ?_
    rintro e w9 ⟨rfl, hb9⟩
    have z9 := hb9.size
    have b9 := b8.trans (hb9.mono (by omega))
    have og9 := own_below og8 hb9
    have ow9 := own_below ow8 hb9
    clear og8 ow8 hb9
    go_wp2_with fail
    refine (markInsS og9 1 (by omega) (by omega) (by omega)).mono ?_
    rintro e w10 ⟨rfl, og10, hb10⟩
    have z10 := hb10.size
    have b10 := b9.trans (hb10.below (by omega) hgl)
    have ow10 := hb10.own ow9 hgw
    clear og9 ow9 hb10 hgl hgw
    have HP := Lib.hid (fun j (hj : j < m * 4) => put_get xs 1 (m * 4) j hj)
    go_wp2_with fail
    refine (heldInsS (own_fl' og10) 1 (by omega) (by omega) (by omega) (fun j hj => HP.out j hj)).mono ?_
    rintro e w11 ⟨rfl, hb11⟩
    have z11 := hb11.size
    have b11 := b10.trans (hb11.mono (by omega))
    have og11 := own_below og10 hb11
    have ow11 := own_below ow10 hb11
    clear og10 ow10 hb11
    go_wp2_with fail
    refine (toStmtSF L lL A n c w.heap.size w11 (hs.below b11) (by omega)).mono ?_
    rintro e w12 ⟨A12, c12, F12, rfl, s12, _, f12, hb12⟩
    have z12 := hb12.size
    have b12 := b11.trans (hb12.mono (by omega))
    have og12 := own_below og11 hb12
    have ow12 := own_below ow11 hb12
    have u12 : Sl w12 w12.heap.size L A12 L.len c12 := s12.sl' fun b hb => (f12 b hb).2
    clear og11 ow11 hb12 s12 f12
    go_wp2_with fail
    refine (HIC.out A12 L.len c12 w12.heap.size w12 u12 (Nat.le_refl _) (by omega) (HOP.out.below b12 h0)).mono ?_
    rintro e w13 ⟨vh, rfl, oh13, hb13⟩
    have z13 := hb13.size
    have b13 := b12.trans (hb13.mono (by omega))
    have og13 := own_below og12 hb13
    have ow13 := own_below ow12 hb13
    obtain ⟨AH, cH, rfl⟩ := own_slice oh13
    clear og12 ow12 hb13 u12
    go_wp2_with fail
    refine (eqInsS (own_fl' oh13) (own_fl' ow13)).mono ?_
    rintro e w14 ⟨rfl, hb14⟩
    have z14 := hb14.size
    have b14 := b13.trans (hb14.mono (by omega))
    have og14 := own_below og13 hb14
    clear og13 ow13 hb14 oh13
    go_wp2_with fail
    refine (heldInsS (own_fl' og14) 1 (by omega) (by omega) (by omega) (fun j hj => HP.out j hj)).mono ?_
    rintro e w15 ⟨rfl, hb15⟩
    have b15 := b14.trans (hb15.mono (by omega))
    clear og14 hb15
    go_wp2_with fail
    go_ret
    exact ⟨rfl, b15⟩
  · have HS := Lib.hid (show szR L.size 1048576 = -1 from if_neg hfit)
    clear hfit
    go_enter Tryd.func3, Tryd.ntmps3
    go_wp2_with fail
    refine (szStmtS hs (Nat.le_refl _) (by omega) (by omega)).mono ?_
    rintro e w1 ⟨rfl, hb1⟩
    rw [HS.out]
    go_wp2_with fail
    go_ret
    exact ⟨rfl, hb1⟩
end Go.Proofs.YtlmgbpbiljnohaaDoor
