/- The walk of laws.FnExactClockJoin (written by tools/gen_ints.py). -/
import Derived.Test.YtoinagefhbpakaaClockAll
import Derived.Test.YtoinagefhbpakaaFlEq
namespace Go.Proofs.Ytoinagefhbpakaa
open Go.ChangeShapes Go.WideShapes Go.ChangeAt Go.RowKit

set_option maxRecDepth 100000 in
set_option maxHeartbeats 2000000 in
theorem wFnExactClockJoin (xs ys : List Int) (A B : Option Addr) (n c m d : Nat) (w : World) (hs : Fl w (fun _ => True) 1 xs A n c) (ht : Fl w (fun _ => True) 1 ys B m d) :
    Calls Try.prog 3 #[.slice A n c, .slice B m d] w fun e w' => e = .returned (.bool true) ∧ Below w.heap.size w w' := by
  have hn9 : n ≤ 9223372036854775807 := by have := hs.le; have := hs.top; unfold maxLen at this; omega
  have hm9 : m ≤ 9223372036854775807 := by have := ht.le; have := ht.top; unfold maxLen at this; omega
  by_cases hn : n ≤ 1048576
  · by_cases hm : m ≤ 1048576
    · skip
      have b0 : Below w.heap.size w w := Below.refl _ _
      have z0 : w.heap.size ≤ w.heap.size := Nat.le_refl _
      have l0 := hs.len
      have l1 := ht.len
      rw [Nat.mul_one] at l0 l1
      have lj : (joinL xs ys).length ≤ 1048576 := by unfold joinL; rw [joinK_len]; omega
      generalize hJ0 : joinL xs ys = js at lj
      have HJ0 := Lib.hid hJ0
      clear hJ0
      go_enter Try.func3, Try.ntmps3
      go_wp2_with fail
      refine (toIntS (hs.later b0) hn).mono ?_
      rintro e w1 ⟨vu, rfl, ou1, hb⟩
      have z1 : w.heap.size ≤ w1.heap.size := by have := hb.size; omega
      have t1 := hb.size
      have b1 := b0.trans (hb.mono z0)
      obtain ⟨Au, cu, rfl, _⟩ := own_fl ou1
      have hl_u : ∀ b, (Value.slice Au n cu).ownBlock = some b → w.heap.size ≤ b := fun b h => by have := (own_at ou1 h).1; omega
      clear hb
      go_wp2_with fail
      refine (toIntS (ht.later b1) hm).mono ?_
      rintro e w2 ⟨vv, rfl, ov2, hb⟩
      have z2 : w.heap.size ≤ w2.heap.size := by have := hb.size; omega
      have t2 := hb.size
      have b2 := b1.trans (hb.mono z1)
      obtain ⟨Av, cv, rfl, _⟩ := own_fl ov2
      have hl_v : ∀ b, (Value.slice Av m cv).ownBlock = some b → w.heap.size ≤ b := fun b h => by have := (own_at ov2 h).1; omega
      have ne_u_v : ∀ b, (Value.slice Av m cv).ownBlock = some b → (Value.slice Au n cu).ownBlock ≠ some b := fun b h2 h1 => by have := (own_at ou1 h1).2; have := (own_at ov2 h2).1; omega
      have ne_v_u : ∀ b, (Value.slice Au n cu).ownBlock = some b → (Value.slice Av m cv).ownBlock ≠ some b := fun b h1 h2 => ne_u_v b h2 h1
      have ou2 := own_below ou1 hb
      clear ou1
      clear hb
      have specJ : ∀ (A B : Option Addr) (c d : Nat) (S T : Nat → Prop) (W : World), Fl W S 1 xs A n c → Fl W T 1 ys B m d → Calls Try.prog 11 #[.slice A n c, .slice B m d] W fun e w' => ∃ v, e = .returned v ∧ w'.ownsRow W.heap.size 3 1 v js.length (ints js) ∧ Below W.heap.size W w'   := fun _ _ _ _ _ _ _ h1 h2 => by rw [← HJ0.out]; exact specClockJoin h1 h2 hn hm
      have implJ : ∀ (A B : Option Addr) (c d : Nat) (S T : Nat → Prop) (W : World), Fl W S 1 xs A n c → Fl W T 1 ys B m d → Calls Try.prog 13 #[.slice A n c, .slice B m d] W fun e w' => ∃ v, e = .returned v ∧ w'.ownsRow W.heap.size 3 1 v js.length (ints js) ∧ Below W.heap.size W w'   := fun _ _ _ _ _ _ _ h1 h2 => by rw [← HJ0.out]; exact implClockJoin h1 h2 hn hm
      have SPECJ := Lib.hid specJ
      have IMPLJ := Lib.hid implJ
      clear specJ implJ
      go_wp2_with fail
      refine (SPECJ.out _ _ _ _ _ _ _ (own_fl1 ou2) (own_fl1 ov2)).mono ?_
      rintro e w3 ⟨vw, rfl, ow3, hb⟩
      have z3 : w.heap.size ≤ w3.heap.size := by have := hb.size; omega
      have t3 := hb.size
      have b3 := b2.trans (hb.mono z2)
      obtain ⟨Aw, cw, rfl, _⟩ := own_fl ow3
      have hl_w : ∀ b, (Value.slice Aw js.length cw).ownBlock = some b → w.heap.size ≤ b := fun b h => by have := (own_at ow3 h).1; omega
      have ne_u_w : ∀ b, (Value.slice Aw js.length cw).ownBlock = some b → (Value.slice Au n cu).ownBlock ≠ some b := fun b h2 h1 => by have := (own_at ou2 h1).2; have := (own_at ow3 h2).1; omega
      have ne_w_u : ∀ b, (Value.slice Au n cu).ownBlock = some b → (Value.slice Aw js.length cw).ownBlock ≠ some b := fun b h1 h2 => ne_u_w b h2 h1
      have ne_v_w : ∀ b, (Value.slice Aw js.length cw).ownBlock = some b → (Value.slice Av m cv).ownBlock ≠ some b := fun b h2 h1 => by have := (own_at ov2 h1).2; have := (own_at ow3 h2).1; omega
      have ne_w_v : ∀ b, (Value.slice Av m cv).ownBlock = some b → (Value.slice Aw js.length cw).ownBlock ≠ some b := fun b h1 h2 => ne_v_w b h2 h1
      have ou3 := own_below ou2 hb
      have ov3 := own_below ov2 hb
      clear ou2 ov2
      clear hb
      clear ou3 hl_u ne_u_v ne_v_u ne_u_w ne_w_u
      clear ov3 hl_v ne_v_w ne_w_v
      go_wp2_with fail
      refine (toIntS (hs.later b3) hn).mono ?_
      rintro e w4 ⟨vx, rfl, ox4, hb⟩
      have z4 : w.heap.size ≤ w4.heap.size := by have := hb.size; omega
      have t4 := hb.size
      have b4 := b3.trans (hb.mono z3)
      obtain ⟨Ax, cx, rfl, _⟩ := own_fl ox4
      have hl_x : ∀ b, (Value.slice Ax n cx).ownBlock = some b → w.heap.size ≤ b := fun b h => by have := (own_at ox4 h).1; omega
      have ne_w_x : ∀ b, (Value.slice Ax n cx).ownBlock = some b → (Value.slice Aw js.length cw).ownBlock ≠ some b := fun b h2 h1 => by have := (own_at ow3 h1).2; have := (own_at ox4 h2).1; omega
      have ne_x_w : ∀ b, (Value.slice Aw js.length cw).ownBlock = some b → (Value.slice Ax n cx).ownBlock ≠ some b := fun b h1 h2 => ne_w_x b h2 h1
      have ow4 := own_below ow3 hb
      clear ow3
      clear hb
      go_wp2_with fail
      refine (toIntS (ht.later b4) hm).mono ?_
      rintro e w5 ⟨vy, rfl, oy5, hb⟩
      have z5 : w.heap.size ≤ w5.heap.size := by have := hb.size; omega
      have t5 := hb.size
      have b5 := b4.trans (hb.mono z4)
      obtain ⟨Ay, cy, rfl, _⟩ := own_fl oy5
      have hl_y : ∀ b, (Value.slice Ay m cy).ownBlock = some b → w.heap.size ≤ b := fun b h => by have := (own_at oy5 h).1; omega
      have ne_w_y : ∀ b, (Value.slice Ay m cy).ownBlock = some b → (Value.slice Aw js.length cw).ownBlock ≠ some b := fun b h2 h1 => by have := (own_at ow4 h1).2; have := (own_at oy5 h2).1; omega
      have ne_y_w : ∀ b, (Value.slice Aw js.length cw).ownBlock = some b → (Value.slice Ay m cy).ownBlock ≠ some b := fun b h1 h2 => ne_w_y b h2 h1
      have ne_x_y : ∀ b, (Value.slice Ay m cy).ownBlock = some b → (Value.slice Ax n cx).ownBlock ≠ some b := fun b h2 h1 => by have := (own_at ox4 h1).2; have := (own_at oy5 h2).1; omega
      have ne_y_x : ∀ b, (Value.slice Ax n cx).ownBlock = some b → (Value.slice Ay m cy).ownBlock ≠ some b := fun b h1 h2 => ne_x_y b h2 h1
      have ow5 := own_below ow4 hb
      have ox5 := own_below ox4 hb
      clear ow4 ox4
      clear hb
      go_wp2_with fail
      refine (IMPLJ.out _ _ _ _ _ _ _ (own_fl1 ox5) (own_fl1 oy5)).mono ?_
      rintro e w6 ⟨vg, rfl, og6, hb⟩
      have z6 : w.heap.size ≤ w6.heap.size := by have := hb.size; omega
      have t6 := hb.size
      have b6 := b5.trans (hb.mono z5)
      obtain ⟨Ag, cg, rfl, _⟩ := own_fl og6
      have hl_g : ∀ b, (Value.slice Ag js.length cg).ownBlock = some b → w.heap.size ≤ b := fun b h => by have := (own_at og6 h).1; omega
      have ne_w_g : ∀ b, (Value.slice Ag js.length cg).ownBlock = some b → (Value.slice Aw js.length cw).ownBlock ≠ some b := fun b h2 h1 => by have := (own_at ow5 h1).2; have := (own_at og6 h2).1; omega
      have ne_g_w : ∀ b, (Value.slice Aw js.length cw).ownBlock = some b → (Value.slice Ag js.length cg).ownBlock ≠ some b := fun b h1 h2 => ne_w_g b h2 h1
      have ne_x_g : ∀ b, (Value.slice Ag js.length cg).ownBlock = some b → (Value.slice Ax n cx).ownBlock ≠ some b := fun b h2 h1 => by have := (own_at ox5 h1).2; have := (own_at og6 h2).1; omega
      have ne_g_x : ∀ b, (Value.slice Ax n cx).ownBlock = some b → (Value.slice Ag js.length cg).ownBlock ≠ some b := fun b h1 h2 => ne_x_g b h2 h1
      have ne_y_g : ∀ b, (Value.slice Ag js.length cg).ownBlock = some b → (Value.slice Ay m cy).ownBlock ≠ some b := fun b h2 h1 => by have := (own_at oy5 h1).2; have := (own_at og6 h2).1; omega
      have ne_g_y : ∀ b, (Value.slice Ay m cy).ownBlock = some b → (Value.slice Ag js.length cg).ownBlock ≠ some b := fun b h1 h2 => ne_y_g b h2 h1
      have ow6 := own_below ow5 hb
      have ox6 := own_below ox5 hb
      have oy6 := own_below oy5 hb
      clear ow5 ox5 oy5
      clear hb
      go_wp2_with fail
      refine (eqIntS (own_fl1 og6) (own_fl1 ow6)).mono ?_
      rintro e w7 ⟨rfl, hb⟩
      have z7 : w.heap.size ≤ w7.heap.size := by have := hb.size; omega
      have t7 := hb.size
      have b7 := b6.trans (hb.mono z6)
      have ow7 := own_below ow6 hb
      have ox7 := own_below ox6 hb
      have oy7 := own_below oy6 hb
      have og7 := own_below og6 hb
      clear ow6 ox6 oy6 og6
      clear hb
      go_wp2_with fail
      refine (toIntS (hs.later b7) hn).mono ?_
      rintro e w8 ⟨vr, rfl, or8, hb⟩
      have z8 : w.heap.size ≤ w8.heap.size := by have := hb.size; omega
      have t8 := hb.size
      have b8 := b7.trans (hb.mono z7)
      obtain ⟨Ar, cr, rfl, _⟩ := own_fl or8
      have hl_r : ∀ b, (Value.slice Ar n cr).ownBlock = some b → w.heap.size ≤ b := fun b h => by have := (own_at or8 h).1; omega
      have ne_w_r : ∀ b, (Value.slice Ar n cr).ownBlock = some b → (Value.slice Aw js.length cw).ownBlock ≠ some b := fun b h2 h1 => by have := (own_at ow7 h1).2; have := (own_at or8 h2).1; omega
      have ne_r_w : ∀ b, (Value.slice Aw js.length cw).ownBlock = some b → (Value.slice Ar n cr).ownBlock ≠ some b := fun b h1 h2 => ne_w_r b h2 h1
      have ne_x_r : ∀ b, (Value.slice Ar n cr).ownBlock = some b → (Value.slice Ax n cx).ownBlock ≠ some b := fun b h2 h1 => by have := (own_at ox7 h1).2; have := (own_at or8 h2).1; omega
      have ne_r_x : ∀ b, (Value.slice Ax n cx).ownBlock = some b → (Value.slice Ar n cr).ownBlock ≠ some b := fun b h1 h2 => ne_x_r b h2 h1
      have ne_y_r : ∀ b, (Value.slice Ar n cr).ownBlock = some b → (Value.slice Ay m cy).ownBlock ≠ some b := fun b h2 h1 => by have := (own_at oy7 h1).2; have := (own_at or8 h2).1; omega
      have ne_r_y : ∀ b, (Value.slice Ay m cy).ownBlock = some b → (Value.slice Ar n cr).ownBlock ≠ some b := fun b h1 h2 => ne_y_r b h2 h1
      have ne_g_r : ∀ b, (Value.slice Ar n cr).ownBlock = some b → (Value.slice Ag js.length cg).ownBlock ≠ some b := fun b h2 h1 => by have := (own_at og7 h1).2; have := (own_at or8 h2).1; omega
      have ne_r_g : ∀ b, (Value.slice Ag js.length cg).ownBlock = some b → (Value.slice Ar n cr).ownBlock ≠ some b := fun b h1 h2 => ne_g_r b h2 h1
      have ow8 := own_below ow7 hb
      have ox8 := own_below ox7 hb
      have oy8 := own_below oy7 hb
      have og8 := own_below og7 hb
      clear ow7 ox7 oy7 og7
      clear hb
      go_wp2_with fail
      refine (eqIntS (own_fl1 ox8) (own_fl1 or8)).mono ?_
      rintro e w9 ⟨rfl, hb⟩
      have z9 : w.heap.size ≤ w9.heap.size := by have := hb.size; omega
      have t9 := hb.size
      have b9 := b8.trans (hb.mono z8)
      have ow9 := own_below ow8 hb
      have ox9 := own_below ox8 hb
      have oy9 := own_below oy8 hb
      have og9 := own_below og8 hb
      have or9 := own_below or8 hb
      clear ow8 ox8 oy8 og8 or8
      clear hb
      clear or9 hl_r ne_r_w ne_w_r ne_r_x ne_x_r ne_r_y ne_y_r ne_r_g ne_g_r
      go_wp2_with fail
      refine (toIntS (ht.later b9) hm).mono ?_
      rintro e w10 ⟨vs, rfl, os10, hb⟩
      have z10 : w.heap.size ≤ w10.heap.size := by have := hb.size; omega
      have t10 := hb.size
      have b10 := b9.trans (hb.mono z9)
      obtain ⟨As, cs, rfl, _⟩ := own_fl os10
      have hl_s : ∀ b, (Value.slice As m cs).ownBlock = some b → w.heap.size ≤ b := fun b h => by have := (own_at os10 h).1; omega
      have ne_w_s : ∀ b, (Value.slice As m cs).ownBlock = some b → (Value.slice Aw js.length cw).ownBlock ≠ some b := fun b h2 h1 => by have := (own_at ow9 h1).2; have := (own_at os10 h2).1; omega
      have ne_s_w : ∀ b, (Value.slice Aw js.length cw).ownBlock = some b → (Value.slice As m cs).ownBlock ≠ some b := fun b h1 h2 => ne_w_s b h2 h1
      have ne_x_s : ∀ b, (Value.slice As m cs).ownBlock = some b → (Value.slice Ax n cx).ownBlock ≠ some b := fun b h2 h1 => by have := (own_at ox9 h1).2; have := (own_at os10 h2).1; omega
      have ne_s_x : ∀ b, (Value.slice Ax n cx).ownBlock = some b → (Value.slice As m cs).ownBlock ≠ some b := fun b h1 h2 => ne_x_s b h2 h1
      have ne_y_s : ∀ b, (Value.slice As m cs).ownBlock = some b → (Value.slice Ay m cy).ownBlock ≠ some b := fun b h2 h1 => by have := (own_at oy9 h1).2; have := (own_at os10 h2).1; omega
      have ne_s_y : ∀ b, (Value.slice Ay m cy).ownBlock = some b → (Value.slice As m cs).ownBlock ≠ some b := fun b h1 h2 => ne_y_s b h2 h1
      have ne_g_s : ∀ b, (Value.slice As m cs).ownBlock = some b → (Value.slice Ag js.length cg).ownBlock ≠ some b := fun b h2 h1 => by have := (own_at og9 h1).2; have := (own_at os10 h2).1; omega
      have ne_s_g : ∀ b, (Value.slice Ag js.length cg).ownBlock = some b → (Value.slice As m cs).ownBlock ≠ some b := fun b h1 h2 => ne_g_s b h2 h1
      have ow10 := own_below ow9 hb
      have ox10 := own_below ox9 hb
      have oy10 := own_below oy9 hb
      have og10 := own_below og9 hb
      clear ow9 ox9 oy9 og9
      clear hb
      go_wp2_with fail
      refine (eqIntS (own_fl1 oy10) (own_fl1 os10)).mono ?_
      rintro e w11 ⟨rfl, hb⟩
      have z11 : w.heap.size ≤ w11.heap.size := by have := hb.size; omega
      have t11 := hb.size
      have b11 := b10.trans (hb.mono z10)
      have ow11 := own_below ow10 hb
      have ox11 := own_below ox10 hb
      have oy11 := own_below oy10 hb
      have og11 := own_below og10 hb
      have os11 := own_below os10 hb
      clear ow10 ox10 oy10 og10 os10
      clear hb
      clear os11 hl_s ne_s_w ne_w_s ne_s_x ne_x_s ne_s_y ne_y_s ne_s_g ne_g_s
      go_wp2_with fail
      refine (markIntS ox11 1 (by omega) (by omega) (by omega)).mono ?_
      rintro e w12 ⟨rfl, ox12, hb⟩
      have z12 : w.heap.size ≤ w12.heap.size := by have := hb.size; omega
      have t12 := hb.size
      have b12 := b11.trans (hb.below z11 hl_x)
      have ow12 := hb.own ow11 ne_x_w
      have oy12 := hb.own oy11 ne_x_y
      have og12 := hb.own og11 ne_x_g
      clear ow11 ox11 oy11 og11
      clear hb
      clear ox12 hl_x ne_x_w ne_w_x ne_x_y ne_y_x ne_x_g ne_g_x
      go_wp2_with fail
      refine (markIntS oy12 (1 + n) (by omega) (by omega) (by omega)).mono ?_
      rintro e w13 ⟨rfl, oy13, hb⟩
      have z13 : w.heap.size ≤ w13.heap.size := by have := hb.size; omega
      have t13 := hb.size
      have b13 := b12.trans (hb.below z12 hl_y)
      have ow13 := hb.own ow12 ne_y_w
      have og13 := hb.own og12 ne_y_g
      clear ow12 oy12 og12
      clear hb
      clear oy13 hl_y ne_y_w ne_w_y ne_y_g ne_g_y
      go_wp2_with fail
      refine (eqIntS (own_fl1 og13) (own_fl1 ow13)).mono ?_
      rintro e w14 ⟨rfl, hb⟩
      have z14 : w.heap.size ≤ w14.heap.size := by have := hb.size; omega
      have t14 := hb.size
      have b14 := b13.trans (hb.mono z13)
      have ow14 := own_below ow13 hb
      have og14 := own_below og13 hb
      clear ow13 og13
      clear hb
      go_wp2_with fail
      refine (markIntS og14 1 (by omega) (by omega) (by omega)).mono ?_
      rintro e w15 ⟨rfl, og15, hb⟩
      have z15 : w.heap.size ≤ w15.heap.size := by have := hb.size; omega
      have t15 := hb.size
      have b15 := b14.trans (hb.below z14 hl_g)
      have ow15 := hb.own ow14 ne_g_w
      clear ow14 og14
      clear hb
      go_wp2_with fail
      refine (heldIntS (own_fl1 og15) 1 (by omega) (by omega) (by omega) (fun j hj => put_get _ _ _ _ hj)).mono ?_
      rintro e w16 ⟨rfl, hb⟩
      have z16 : w.heap.size ≤ w16.heap.size := by have := hb.size; omega
      have t16 := hb.size
      have b16 := b15.trans (hb.mono z15)
      have ow16 := own_below ow15 hb
      have og16 := own_below og15 hb
      clear ow15 og15
      clear hb
      go_wp2_with fail
      refine (toIntS (hs.later b16) hn).mono ?_
      rintro e w17 ⟨vh1, rfl, oh117, hb⟩
      have z17 : w.heap.size ≤ w17.heap.size := by have := hb.size; omega
      have t17 := hb.size
      have b17 := b16.trans (hb.mono z16)
      obtain ⟨Ah1, ch1, rfl, _⟩ := own_fl oh117
      have hl_h1 : ∀ b, (Value.slice Ah1 n ch1).ownBlock = some b → w.heap.size ≤ b := fun b h => by have := (own_at oh117 h).1; omega
      have ne_w_h1 : ∀ b, (Value.slice Ah1 n ch1).ownBlock = some b → (Value.slice Aw js.length cw).ownBlock ≠ some b := fun b h2 h1 => by have := (own_at ow16 h1).2; have := (own_at oh117 h2).1; omega
      have ne_h1_w : ∀ b, (Value.slice Aw js.length cw).ownBlock = some b → (Value.slice Ah1 n ch1).ownBlock ≠ some b := fun b h1 h2 => ne_w_h1 b h2 h1
      have ne_g_h1 : ∀ b, (Value.slice Ah1 n ch1).ownBlock = some b → (Value.slice Ag js.length cg).ownBlock ≠ some b := fun b h2 h1 => by have := (own_at og16 h1).2; have := (own_at oh117 h2).1; omega
      have ne_h1_g : ∀ b, (Value.slice Ag js.length cg).ownBlock = some b → (Value.slice Ah1 n ch1).ownBlock ≠ some b := fun b h1 h2 => ne_g_h1 b h2 h1
      have ow17 := own_below ow16 hb
      have og17 := own_below og16 hb
      clear ow16 og16
      clear hb
      go_wp2_with fail
      refine (toIntS (ht.later b17) hm).mono ?_
      rintro e w18 ⟨vh2, rfl, oh218, hb⟩
      have z18 : w.heap.size ≤ w18.heap.size := by have := hb.size; omega
      have t18 := hb.size
      have b18 := b17.trans (hb.mono z17)
      obtain ⟨Ah2, ch2, rfl, _⟩ := own_fl oh218
      have hl_h2 : ∀ b, (Value.slice Ah2 m ch2).ownBlock = some b → w.heap.size ≤ b := fun b h => by have := (own_at oh218 h).1; omega
      have ne_w_h2 : ∀ b, (Value.slice Ah2 m ch2).ownBlock = some b → (Value.slice Aw js.length cw).ownBlock ≠ some b := fun b h2 h1 => by have := (own_at ow17 h1).2; have := (own_at oh218 h2).1; omega
      have ne_h2_w : ∀ b, (Value.slice Aw js.length cw).ownBlock = some b → (Value.slice Ah2 m ch2).ownBlock ≠ some b := fun b h1 h2 => ne_w_h2 b h2 h1
      have ne_g_h2 : ∀ b, (Value.slice Ah2 m ch2).ownBlock = some b → (Value.slice Ag js.length cg).ownBlock ≠ some b := fun b h2 h1 => by have := (own_at og17 h1).2; have := (own_at oh218 h2).1; omega
      have ne_h2_g : ∀ b, (Value.slice Ag js.length cg).ownBlock = some b → (Value.slice Ah2 m ch2).ownBlock ≠ some b := fun b h1 h2 => ne_g_h2 b h2 h1
      have ne_h1_h2 : ∀ b, (Value.slice Ah2 m ch2).ownBlock = some b → (Value.slice Ah1 n ch1).ownBlock ≠ some b := fun b h2 h1 => by have := (own_at oh117 h1).2; have := (own_at oh218 h2).1; omega
      have ne_h2_h1 : ∀ b, (Value.slice Ah1 n ch1).ownBlock = some b → (Value.slice Ah2 m ch2).ownBlock ≠ some b := fun b h1 h2 => ne_h1_h2 b h2 h1
      have ow18 := own_below ow17 hb
      have og18 := own_below og17 hb
      have oh118 := own_below oh117 hb
      clear ow17 og17 oh117
      clear hb
      go_wp2_with fail
      refine (IMPLJ.out _ _ _ _ _ _ _ (own_fl1 oh118) (own_fl1 oh218)).mono ?_
      rintro e w19 ⟨vh, rfl, oh19, hb⟩
      have z19 : w.heap.size ≤ w19.heap.size := by have := hb.size; omega
      have t19 := hb.size
      have b19 := b18.trans (hb.mono z18)
      obtain ⟨Ah, ch, rfl, _⟩ := own_fl oh19
      have hl_h : ∀ b, (Value.slice Ah js.length ch).ownBlock = some b → w.heap.size ≤ b := fun b h => by have := (own_at oh19 h).1; omega
      have ne_w_h : ∀ b, (Value.slice Ah js.length ch).ownBlock = some b → (Value.slice Aw js.length cw).ownBlock ≠ some b := fun b h2 h1 => by have := (own_at ow18 h1).2; have := (own_at oh19 h2).1; omega
      have ne_h_w : ∀ b, (Value.slice Aw js.length cw).ownBlock = some b → (Value.slice Ah js.length ch).ownBlock ≠ some b := fun b h1 h2 => ne_w_h b h2 h1
      have ne_g_h : ∀ b, (Value.slice Ah js.length ch).ownBlock = some b → (Value.slice Ag js.length cg).ownBlock ≠ some b := fun b h2 h1 => by have := (own_at og18 h1).2; have := (own_at oh19 h2).1; omega
      have ne_h_g : ∀ b, (Value.slice Ag js.length cg).ownBlock = some b → (Value.slice Ah js.length ch).ownBlock ≠ some b := fun b h1 h2 => ne_g_h b h2 h1
      have ne_h1_h : ∀ b, (Value.slice Ah js.length ch).ownBlock = some b → (Value.slice Ah1 n ch1).ownBlock ≠ some b := fun b h2 h1 => by have := (own_at oh118 h1).2; have := (own_at oh19 h2).1; omega
      have ne_h_h1 : ∀ b, (Value.slice Ah1 n ch1).ownBlock = some b → (Value.slice Ah js.length ch).ownBlock ≠ some b := fun b h1 h2 => ne_h1_h b h2 h1
      have ne_h2_h : ∀ b, (Value.slice Ah js.length ch).ownBlock = some b → (Value.slice Ah2 m ch2).ownBlock ≠ some b := fun b h2 h1 => by have := (own_at oh218 h1).2; have := (own_at oh19 h2).1; omega
      have ne_h_h2 : ∀ b, (Value.slice Ah2 m ch2).ownBlock = some b → (Value.slice Ah js.length ch).ownBlock ≠ some b := fun b h1 h2 => ne_h2_h b h2 h1
      have ow19 := own_below ow18 hb
      have og19 := own_below og18 hb
      have oh119 := own_below oh118 hb
      have oh219 := own_below oh218 hb
      clear ow18 og18 oh118 oh218
      clear hb
      clear oh119 hl_h1 ne_h1_w ne_w_h1 ne_h1_g ne_g_h1 ne_h1_h2 ne_h2_h1 ne_h1_h ne_h_h1
      clear oh219 hl_h2 ne_h2_w ne_w_h2 ne_h2_g ne_g_h2 ne_h2_h ne_h_h2
      go_wp2_with fail
      refine (eqIntS (own_fl1 oh19) (own_fl1 ow19)).mono ?_
      rintro e w20 ⟨rfl, hb⟩
      have z20 : w.heap.size ≤ w20.heap.size := by have := hb.size; omega
      have t20 := hb.size
      have b20 := b19.trans (hb.mono z19)
      have ow20 := own_below ow19 hb
      have og20 := own_below og19 hb
      have oh20 := own_below oh19 hb
      clear ow19 og19 oh19
      clear hb
      clear oh20 hl_h ne_h_w ne_w_h ne_h_g ne_g_h
      clear ow20 hl_w ne_w_g ne_g_w
      go_wp2_with fail
      refine (heldIntS (own_fl1 og20) 1 (by omega) (by omega) (by omega) (fun j hj => put_get _ _ _ _ hj)).mono ?_
      rintro e w21 ⟨rfl, hb⟩
      have z21 : w.heap.size ≤ w21.heap.size := by have := hb.size; omega
      have t21 := hb.size
      have b21 := b20.trans (hb.mono z20)
      have og21 := own_below og20 hb
      clear og20
      clear hb
      go_wp2_with fail
      go_ret
      exact ⟨rfl, b21⟩
    · go_enter Try.func3, Try.ntmps3
      go_wp2_with fail
      go_ret
      exact ⟨rfl, Below.refl _ _⟩
  · go_enter Try.func3, Try.ntmps3
    go_wp2_with fail
    go_ret
    exact ⟨rfl, Below.refl _ _⟩
end Go.Proofs.Ytoinagefhbpakaa
