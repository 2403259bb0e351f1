/- The walk of laws.FnExactClockUnder (written by tools/gen_ints.py). -/
import Derived.Test.YtoinagefhbpakaaClockAll
namespace Go.Proofs.Ytoinagefhbpakaa
open Go.ChangeShapes Go.WideShapes Go.ChangeAt Go.RowKit

set_option maxRecDepth 100000 in
set_option maxHeartbeats 2000000 in
theorem wFnExactClockUnder (xs ys : List Int) (A B : Option Addr) (n c m d : Nat) (w : World) (hs : Fl w (fun _ => True) 1 xs A n c) (ht : Fl w (fun _ => True) 1 ys B m d) :
    Calls Try.prog 4 #[.slice A n c, .slice B m d] w fun e w' => e = .returned (.bool true) ∧ Below w.heap.size w w' := by
  have hn9 : n ≤ 9223372036854775807 := by have := hs.le; have := hs.top; unfold maxLen at this; omega
  have hm9 : m ≤ 9223372036854775807 := by have := ht.le; have := ht.top; unfold maxLen at this; omega
  by_cases hn : n ≤ 1048576
  · by_cases hm : m ≤ 1048576
    · skip
      have b0 : Below w.heap.size w w := Below.refl _ _
      have z0 : w.heap.size ≤ w.heap.size := Nat.le_refl _
      have l0 := hs.len
      have l1 := ht.len
      rw [Nat.mul_one] at l0 l1
      go_enter Try.func4, Try.ntmps4
      go_wp2_with fail
      refine (toIntS (hs.later b0) hn).mono ?_
      rintro e w1 ⟨vu, rfl, ou1, hb⟩
      have z1 : w.heap.size ≤ w1.heap.size := by have := hb.size; omega
      have t1 := hb.size
      have b1 := b0.trans (hb.mono z0)
      obtain ⟨Au, cu, rfl, _⟩ := own_fl ou1
      have hl_u : ∀ b, (Value.slice Au n cu).ownBlock = some b → w.heap.size ≤ b := fun b h => by have := (own_at ou1 h).1; omega
      clear hb
      go_wp2_with fail
      refine (toIntS (ht.later b1) hm).mono ?_
      rintro e w2 ⟨vv, rfl, ov2, hb⟩
      have z2 : w.heap.size ≤ w2.heap.size := by have := hb.size; omega
      have t2 := hb.size
      have b2 := b1.trans (hb.mono z1)
      obtain ⟨Av, cv, rfl, _⟩ := own_fl ov2
      have hl_v : ∀ b, (Value.slice Av m cv).ownBlock = some b → w.heap.size ≤ b := fun b h => by have := (own_at ov2 h).1; omega
      have ne_u_v : ∀ b, (Value.slice Av m cv).ownBlock = some b → (Value.slice Au n cu).ownBlock ≠ some b := fun b h2 h1 => by have := (own_at ou1 h1).2; have := (own_at ov2 h2).1; omega
      have ne_v_u : ∀ b, (Value.slice Au n cu).ownBlock = some b → (Value.slice Av m cv).ownBlock ≠ some b := fun b h1 h2 => ne_u_v b h2 h1
      have ou2 := own_below ou1 hb
      clear ou1
      clear hb
      go_wp2_with fail
      refine (specClockUnder (own_fl1 ou2) (own_fl1 ov2)).mono ?_
      rintro e w3 ⟨rfl, hb⟩
      have z3 : w.heap.size ≤ w3.heap.size := by have := hb.size; omega
      have t3 := hb.size
      have b3 := b2.trans (hb.mono z2)
      have ou3 := own_below ou2 hb
      have ov3 := own_below ov2 hb
      clear ou2 ov2
      clear hb
      clear ou3 hl_u ne_u_v ne_v_u
      clear ov3 hl_v
      go_wp2_with fail
      refine (toIntS (hs.later b3) hn).mono ?_
      rintro e w4 ⟨vp, rfl, op4, hb⟩
      have z4 : w.heap.size ≤ w4.heap.size := by have := hb.size; omega
      have t4 := hb.size
      have b4 := b3.trans (hb.mono z3)
      obtain ⟨Ap, cp, rfl, _⟩ := own_fl op4
      have hl_p : ∀ b, (Value.slice Ap n cp).ownBlock = some b → w.heap.size ≤ b := fun b h => by have := (own_at op4 h).1; omega
      clear hb
      go_wp2_with fail
      refine (toIntS (ht.later b4) hm).mono ?_
      rintro e w5 ⟨vq, rfl, oq5, hb⟩
      have z5 : w.heap.size ≤ w5.heap.size := by have := hb.size; omega
      have t5 := hb.size
      have b5 := b4.trans (hb.mono z4)
      obtain ⟨Aq, cq, rfl, _⟩ := own_fl oq5
      have hl_q : ∀ b, (Value.slice Aq m cq).ownBlock = some b → w.heap.size ≤ b := fun b h => by have := (own_at oq5 h).1; omega
      have ne_p_q : ∀ b, (Value.slice Aq m cq).ownBlock = some b → (Value.slice Ap n cp).ownBlock ≠ some b := fun b h2 h1 => by have := (own_at op4 h1).2; have := (own_at oq5 h2).1; omega
      have ne_q_p : ∀ b, (Value.slice Ap n cp).ownBlock = some b → (Value.slice Aq m cq).ownBlock ≠ some b := fun b h1 h2 => ne_p_q b h2 h1
      have op5 := own_below op4 hb
      clear op4
      clear hb
      go_wp2_with fail
      refine (implClockUnder (own_fl1 op5) (own_fl1 oq5)).mono ?_
      rintro e w6 ⟨rfl, hb⟩
      have z6 : w.heap.size ≤ w6.heap.size := by have := hb.size; omega
      have t6 := hb.size
      have b6 := b5.trans (hb.mono z5)
      have op6 := own_below op5 hb
      have oq6 := own_below oq5 hb
      clear op5 oq5
      clear hb
      generalize underB xs ys = res
      cases res
      · skip
        go_wp2_with fail
        refine (toIntS (hs.later b6) hn).mono ?_
        rintro e w7 ⟨vr, rfl, or7, hb⟩
        have z7 : w.heap.size ≤ w7.heap.size := by have := hb.size; omega
        have t7 := hb.size
        have b7 := b6.trans (hb.mono z6)
        obtain ⟨Ar, cr, rfl, _⟩ := own_fl or7
        have hl_r : ∀ b, (Value.slice Ar n cr).ownBlock = some b → w.heap.size ≤ b := fun b h => by have := (own_at or7 h).1; omega
        have ne_p_r : ∀ b, (Value.slice Ar n cr).ownBlock = some b → (Value.slice Ap n cp).ownBlock ≠ some b := fun b h2 h1 => by have := (own_at op6 h1).2; have := (own_at or7 h2).1; omega
        have ne_r_p : ∀ b, (Value.slice Ap n cp).ownBlock = some b → (Value.slice Ar n cr).ownBlock ≠ some b := fun b h1 h2 => ne_p_r b h2 h1
        have ne_q_r : ∀ b, (Value.slice Ar n cr).ownBlock = some b → (Value.slice Aq m cq).ownBlock ≠ some b := fun b h2 h1 => by have := (own_at oq6 h1).2; have := (own_at or7 h2).1; omega
        have ne_r_q : ∀ b, (Value.slice Aq m cq).ownBlock = some b → (Value.slice Ar n cr).ownBlock ≠ some b := fun b h1 h2 => ne_q_r b h2 h1
        have op7 := own_below op6 hb
        have oq7 := own_below oq6 hb
        clear op6 oq6
        clear hb
        go_wp2_with fail
        refine (eqIntS (own_fl1 op7) (own_fl1 or7)).mono ?_
        rintro e w8 ⟨rfl, hb⟩
        have z8 : w.heap.size ≤ w8.heap.size := by have := hb.size; omega
        have t8 := hb.size
        have b8 := b7.trans (hb.mono z7)
        have op8 := own_below op7 hb
        have oq8 := own_below oq7 hb
        have or8 := own_below or7 hb
        clear op7 oq7 or7
        clear hb
        clear or8 hl_r ne_r_p ne_p_r ne_r_q ne_q_r
        clear op8 hl_p ne_p_q ne_q_p
        go_wp2_with fail
        refine (toIntS (ht.later b8) hm).mono ?_
        rintro e w9 ⟨vs, rfl, os9, hb⟩
        have z9 : w.heap.size ≤ w9.heap.size := by have := hb.size; omega
        have t9 := hb.size
        have b9 := b8.trans (hb.mono z8)
        obtain ⟨As, cs, rfl, _⟩ := own_fl os9
        have hl_s : ∀ b, (Value.slice As m cs).ownBlock = some b → w.heap.size ≤ b := fun b h => by have := (own_at os9 h).1; omega
        have ne_q_s : ∀ b, (Value.slice As m cs).ownBlock = some b → (Value.slice Aq m cq).ownBlock ≠ some b := fun b h2 h1 => by have := (own_at oq8 h1).2; have := (own_at os9 h2).1; omega
        have ne_s_q : ∀ b, (Value.slice Aq m cq).ownBlock = some b → (Value.slice As m cs).ownBlock ≠ some b := fun b h1 h2 => ne_q_s b h2 h1
        have oq9 := own_below oq8 hb
        clear oq8
        clear hb
        go_wp2_with fail
        refine (eqIntS (own_fl1 oq9) (own_fl1 os9)).mono ?_
        rintro e w10 ⟨rfl, hb⟩
        have z10 : w.heap.size ≤ w10.heap.size := by have := hb.size; omega
        have t10 := hb.size
        have b10 := b9.trans (hb.mono z9)
        have oq10 := own_below oq9 hb
        have os10 := own_below os9 hb
        clear oq9 os9
        clear hb
        go_wp2_with fail
        go_ret
        exact ⟨rfl, b10⟩
      · skip
        go_wp2_with fail
        refine (toIntS (hs.later b6) hn).mono ?_
        rintro e w7 ⟨vr, rfl, or7, hb⟩
        have z7 : w.heap.size ≤ w7.heap.size := by have := hb.size; omega
        have t7 := hb.size
        have b7 := b6.trans (hb.mono z6)
        obtain ⟨Ar, cr, rfl, _⟩ := own_fl or7
        have hl_r : ∀ b, (Value.slice Ar n cr).ownBlock = some b → w.heap.size ≤ b := fun b h => by have := (own_at or7 h).1; omega
        have ne_p_r : ∀ b, (Value.slice Ar n cr).ownBlock = some b → (Value.slice Ap n cp).ownBlock ≠ some b := fun b h2 h1 => by have := (own_at op6 h1).2; have := (own_at or7 h2).1; omega
        have ne_r_p : ∀ b, (Value.slice Ap n cp).ownBlock = some b → (Value.slice Ar n cr).ownBlock ≠ some b := fun b h1 h2 => ne_p_r b h2 h1
        have ne_q_r : ∀ b, (Value.slice Ar n cr).ownBlock = some b → (Value.slice Aq m cq).ownBlock ≠ some b := fun b h2 h1 => by have := (own_at oq6 h1).2; have := (own_at or7 h2).1; omega
        have ne_r_q : ∀ b, (Value.slice Aq m cq).ownBlock = some b → (Value.slice Ar n cr).ownBlock ≠ some b := fun b h1 h2 => ne_q_r b h2 h1
        have op7 := own_below op6 hb
        have oq7 := own_below oq6 hb
        clear op6 oq6
        clear hb
        go_wp2_with fail
        refine (eqIntS (own_fl1 op7) (own_fl1 or7)).mono ?_
        rintro e w8 ⟨rfl, hb⟩
        have z8 : w.heap.size ≤ w8.heap.size := by have := hb.size; omega
        have t8 := hb.size
        have b8 := b7.trans (hb.mono z7)
        have op8 := own_below op7 hb
        have oq8 := own_below oq7 hb
        have or8 := own_below or7 hb
        clear op7 oq7 or7
        clear hb
        clear or8 hl_r ne_r_p ne_p_r ne_r_q ne_q_r
        clear op8 hl_p ne_p_q ne_q_p
        go_wp2_with fail
        refine (toIntS (ht.later b8) hm).mono ?_
        rintro e w9 ⟨vs, rfl, os9, hb⟩
        have z9 : w.heap.size ≤ w9.heap.size := by have := hb.size; omega
        have t9 := hb.size
        have b9 := b8.trans (hb.mono z8)
        obtain ⟨As, cs, rfl, _⟩ := own_fl os9
        have hl_s : ∀ b, (Value.slice As m cs).ownBlock = some b → w.heap.size ≤ b := fun b h => by have := (own_at os9 h).1; omega
        have ne_q_s : ∀ b, (Value.slice As m cs).ownBlock = some b → (Value.slice Aq m cq).ownBlock ≠ some b := fun b h2 h1 => by have := (own_at oq8 h1).2; have := (own_at os9 h2).1; omega
        have ne_s_q : ∀ b, (Value.slice Aq m cq).ownBlock = some b → (Value.slice As m cs).ownBlock ≠ some b := fun b h1 h2 => ne_q_s b h2 h1
        have oq9 := own_below oq8 hb
        clear oq8
        clear hb
        go_wp2_with fail
        refine (eqIntS (own_fl1 oq9) (own_fl1 os9)).mono ?_
        rintro e w10 ⟨rfl, hb⟩
        have z10 : w.heap.size ≤ w10.heap.size := by have := hb.size; omega
        have t10 := hb.size
        have b10 := b9.trans (hb.mono z9)
        have oq10 := own_below oq9 hb
        have os10 := own_below os9 hb
        clear oq9 os9
        clear hb
        go_wp2_with fail
        go_ret
        exact ⟨rfl, b10⟩
    · go_enter Try.func4, Try.ntmps4
      go_wp2_with fail
      go_ret
      exact ⟨rfl, Below.refl _ _⟩
  · go_enter Try.func4, Try.ntmps4
    go_wp2_with fail
    go_ret
    exact ⟨rfl, Below.refl _ _⟩
end Go.Proofs.Ytoinagefhbpakaa
