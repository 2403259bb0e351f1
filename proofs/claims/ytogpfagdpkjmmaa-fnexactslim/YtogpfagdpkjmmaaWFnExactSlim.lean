/- The walk of laws.FnExactSlim (written by tools/gen_slim.py). -/
import Derived.Test.YtogpfagdpkjmmaaSlim
import Derived.Test.YtogpfagdpkjmmaaInsIn
import Derived.Test.YtogpfagdpkjmmaaInsMark
namespace Go.Proofs.Ytogpfagdpkjmmaa
open Go.ChangeShapes Go.WideShapes Go.ChangeAt Go.RowKit

set_option maxRecDepth 100000 in
set_option maxHeartbeats 2000000 in
theorem wFnExactSlim (xs : List Int) (A : Option Addr) (n c : Nat) (w : World) (hs : Fl w (fun _ => True) 4 xs A n c) :
    Calls Try.prog 7 #[.slice A n c] w fun e w' => e = .returned (.bool true) ∧ Below w.heap.size w w' := by
  have hm : n ≤ maxLen := by have := hs.le; have := hs.top; omega
  by_cases hfit : (n : Int) ≤ 1048576
  · have HS := Lib.hid (show (if (n : Int) ≤ 1048576 then 1048576 - (n : Int) else -1) = 1048576 - (n : Int) from if_pos hfit)
    have hn : n ≤ 1048576 := by omega
    have hpos : 0 ≤ (1048576 : Int) - n := by omega
    clear hfit
    obtain ⟨js, hjs⟩ : ∃ js, slimR xs n = js := ⟨_, rfl⟩
    obtain ⟨jn, hjn⟩ : ∃ jn, slimN xs n = jn := ⟨_, rfl⟩
    have hle : jn ≤ 1048576 := by have := slimN_le xs n; omega
    have specj : ∀ (A : Option Addr) (c : Nat) (S : Nat → Prop) (W : World), Fl W S 4 xs A n c → Calls Try.prog 30 #[.slice A n c] W fun e w' => ∃ v, e = .returned v ∧ w'.ownsRow W.heap.size 40 4 v jn (ints js) ∧ Below W.heap.size W w' := fun _ _ _ _ h => by rw [← hjs, ← hjn]; exact specSlim h
    have SPECJ := Lib.hid specj
    have implj : ∀ (A : Option Addr) (c : Nat) (S : Nat → Prop) (W : World), Fl W S 4 xs A n c → Calls Try.prog 31 #[.slice A n c] W fun e w' => ∃ v, e = .returned v ∧ w'.ownsRow W.heap.size 40 4 v jn (ints js) ∧ Below W.heap.size W w' := fun _ _ _ _ h => by rw [← hjs, ← hjn]; exact implSlim h
    have IMPLJ := Lib.hid implj
    clear specj implj hjs hjn
    have b0 : Below w.heap.size w w := Below.refl _ _
    have z0 : w.heap.size ≤ w.heap.size := Nat.le_refl _
    go_enter Try.func7, Try.ntmps7
    go_wp2_with fail
    refine (szInsS A n c 1048576 w hm (by omega) (by omega)).mono ?_
    rintro e w0 ⟨rfl, rfl⟩
    rw [HS.out]
    clear HS hm
    go_wp2_with fail
    refine (toInsS (hs.later b0) hn).mono ?_
    rintro e w1 ⟨vu, rfl, ou1, hb⟩
    have z1 : w0.heap.size ≤ w1.heap.size := by have := hb.size; omega
    have b1 := b0.trans (hb.mono z0)
    obtain ⟨Au, cu, rfl⟩ := own_slc' ou1
    have hl_u : ∀ b, (Value.slice Au n cu).ownBlock = some b → w0.heap.size ≤ b := fun b h => by have := (own_at ou1 h).1; omega
    clear hb
    go_wp2_with fail
    refine (SPECJ.out _ _ _ _ (own_fl1 ou1)).mono ?_
    rintro e w2 ⟨vw, rfl, ow2, hb⟩
    have z2 : w0.heap.size ≤ w2.heap.size := by have := hb.size; omega
    have b2 := b1.trans (hb.mono z1)
    obtain ⟨Aw, cw, rfl⟩ := own_slc' ow2
    have hl_w : ∀ b, (Value.slice Aw jn cw).ownBlock = some b → w0.heap.size ≤ b := fun b h => by have := (own_at ow2 h).1; omega
    have ou2 := own_below ou1 hb
    clear ou1
    clear hb
    clear ou2 hl_u
    go_wp2_with fail
    refine (toInsS (hs.later b2) hn).mono ?_
    rintro e w3 ⟨vx, rfl, ox3, hb⟩
    have z3 : w0.heap.size ≤ w3.heap.size := by have := hb.size; omega
    have b3 := b2.trans (hb.mono z2)
    obtain ⟨Ax, cx, rfl⟩ := own_slc' ox3
    have hl_x : ∀ b, (Value.slice Ax n cx).ownBlock = some b → w0.heap.size ≤ b := fun b h => by have := (own_at ox3 h).1; omega
    have ne_w_x : ∀ b, (Value.slice Ax n cx).ownBlock = some b → (Value.slice Aw jn cw).ownBlock ≠ some b := fun b h2 h1 => by have := (own_at ow2 h1).2; have := (own_at ox3 h2).1; omega
    have ne_x_w : ∀ b, (Value.slice Aw jn cw).ownBlock = some b → (Value.slice Ax n cx).ownBlock ≠ some b := fun b h1 h2 => ne_w_x b h2 h1
    have ow3 := own_below ow2 hb
    clear ow2
    clear hb
    go_wp2_with fail
    refine (IMPLJ.out _ _ _ _ (own_fl1 ox3)).mono ?_
    rintro e w4 ⟨vg, rfl, og4, hb⟩
    have z4 : w0.heap.size ≤ w4.heap.size := by have := hb.size; omega
    have b4 := b3.trans (hb.mono z3)
    obtain ⟨Ag, cg, rfl⟩ := own_slc' og4
    have hl_g : ∀ b, (Value.slice Ag jn cg).ownBlock = some b → w0.heap.size ≤ b := fun b h => by have := (own_at og4 h).1; omega
    have ne_w_g : ∀ b, (Value.slice Ag jn cg).ownBlock = some b → (Value.slice Aw jn cw).ownBlock ≠ some b := fun b h2 h1 => by have := (own_at ow3 h1).2; have := (own_at og4 h2).1; omega
    have ne_g_w : ∀ b, (Value.slice Aw jn cw).ownBlock = some b → (Value.slice Ag jn cg).ownBlock ≠ some b := fun b h1 h2 => ne_w_g b h2 h1
    have ne_x_g : ∀ b, (Value.slice Ag jn cg).ownBlock = some b → (Value.slice Ax n cx).ownBlock ≠ some b := fun b h2 h1 => by have := (own_at ox3 h1).2; have := (own_at og4 h2).1; omega
    have ne_g_x : ∀ b, (Value.slice Ax n cx).ownBlock = some b → (Value.slice Ag jn cg).ownBlock ≠ some b := fun b h1 h2 => ne_x_g b h2 h1
    have ow4 := own_below ow3 hb
    have ox4 := own_below ox3 hb
    clear ow3 ox3
    clear hb
    go_wp2_with fail
    refine (eqInsS (own_fl1 og4) (own_fl1 ow4)).mono ?_
    rintro e w5 ⟨rfl, hb⟩
    have z5 : w0.heap.size ≤ w5.heap.size := by have := hb.size; omega
    have b5 := b4.trans (hb.mono z4)
    have ow5 := own_below ow4 hb
    have ox5 := own_below ox4 hb
    have og5 := own_below og4 hb
    clear ow4 ox4 og4
    clear hb
    go_wp2_with fail
    refine (toInsS (hs.later b5) hn).mono ?_
    rintro e w6 ⟨vr, rfl, or6, hb⟩
    have z6 : w0.heap.size ≤ w6.heap.size := by have := hb.size; omega
    have b6 := b5.trans (hb.mono z5)
    obtain ⟨Ar, cr, rfl⟩ := own_slc' or6
    have hl_r : ∀ b, (Value.slice Ar n cr).ownBlock = some b → w0.heap.size ≤ b := fun b h => by have := (own_at or6 h).1; omega
    have ow6 := own_below ow5 hb
    have ox6 := own_below ox5 hb
    have og6 := own_below og5 hb
    clear ow5 ox5 og5
    clear hb
    go_wp2_with fail
    refine (eqInsS (own_fl1 ox6) (own_fl1 or6)).mono ?_
    rintro e w7 ⟨rfl, hb⟩
    have z7 : w0.heap.size ≤ w7.heap.size := by have := hb.size; omega
    have b7 := b6.trans (hb.mono z6)
    have ow7 := own_below ow6 hb
    have ox7 := own_below ox6 hb
    have og7 := own_below og6 hb
    have or7 := own_below or6 hb
    clear ow6 ox6 og6 or6
    clear hb
    clear or7 hl_r
    go_wp2_with fail
    refine (markInsS ox7 1 (by omega) (by omega) (by omega)).mono ?_
    rintro e w8 ⟨rfl, ox8, hb⟩
    have z8 : w0.heap.size ≤ w8.heap.size := by have := hb.size; omega
    have b8 := b7.trans (hb.below z7 hl_x)
    have ow8 := hb.own ow7 ne_x_w
    have og8 := hb.own og7 ne_x_g
    clear ow7 ox7 og7
    clear hb
    clear ox8 hl_x ne_x_w ne_w_x ne_x_g ne_g_x
    go_wp2_with fail
    refine (eqInsS (own_fl1 og8) (own_fl1 ow8)).mono ?_
    rintro e w9 ⟨rfl, hb⟩
    have z9 : w0.heap.size ≤ w9.heap.size := by have := hb.size; omega
    have b9 := b8.trans (hb.mono z8)
    have ow9 := own_below ow8 hb
    have og9 := own_below og8 hb
    clear ow8 og8
    clear hb
    go_wp2_with fail
    refine (markInsS og9 1 (by omega) (by omega) (by omega)).mono ?_
    rintro e w10 ⟨rfl, og10, hb⟩
    have z10 : w0.heap.size ≤ w10.heap.size := by have := hb.size; omega
    have b10 := b9.trans (hb.below z9 hl_g)
    have ow10 := hb.own ow9 ne_g_w
    clear ow9 og9
    clear hb
    go_wp2_with fail
    refine (heldInsS (own_fl1 og10) 1 (by omega) (by omega) (by omega) (fun j hj => put_get _ _ _ _ hj)).mono ?_
    rintro e w11 ⟨rfl, hb⟩
    have z11 : w0.heap.size ≤ w11.heap.size := by have := hb.size; omega
    have b11 := b10.trans (hb.mono z10)
    have ow11 := own_below ow10 hb
    have og11 := own_below og10 hb
    clear ow10 og10
    clear hb
    go_wp2_with fail
    refine (toInsS (hs.later b11) hn).mono ?_
    rintro e w12 ⟨vh, rfl, oh12, hb⟩
    have z12 : w0.heap.size ≤ w12.heap.size := by have := hb.size; omega
    have b12 := b11.trans (hb.mono z11)
    obtain ⟨Ah, ch, rfl⟩ := own_slc' oh12
    have hl_h : ∀ b, (Value.slice Ah n ch).ownBlock = some b → w0.heap.size ≤ b := fun b h => by have := (own_at oh12 h).1; omega
    have ow12 := own_below ow11 hb
    have og12 := own_below og11 hb
    clear ow11 og11
    clear hb
    go_wp2_with fail
    refine (IMPLJ.out _ _ _ _ (own_fl1 oh12)).mono ?_
    rintro e w13 ⟨vk, rfl, ok13, hb⟩
    have z13 : w0.heap.size ≤ w13.heap.size := by have := hb.size; omega
    have b13 := b12.trans (hb.mono z12)
    obtain ⟨Ak, ck, rfl⟩ := own_slc' ok13
    have hl_k : ∀ b, (Value.slice Ak jn ck).ownBlock = some b → w0.heap.size ≤ b := fun b h => by have := (own_at ok13 h).1; omega
    have ow13 := own_below ow12 hb
    have og13 := own_below og12 hb
    have oh13 := own_below oh12 hb
    clear ow12 og12 oh12
    clear hb
    clear oh13 hl_h
    go_wp2_with fail
    refine (eqInsS (own_fl1 ok13) (own_fl1 ow13)).mono ?_
    rintro e w14 ⟨rfl, hb⟩
    have z14 : w0.heap.size ≤ w14.heap.size := by have := hb.size; omega
    have b14 := b13.trans (hb.mono z13)
    have ow14 := own_below ow13 hb
    have og14 := own_below og13 hb
    have ok14 := own_below ok13 hb
    clear ow13 og13 ok13
    clear hb
    clear ok14 hl_k
    clear ow14 hl_w ne_w_g ne_g_w
    go_wp2_with fail
    refine (heldInsS (own_fl1 og14) 1 (by omega) (by omega) (by omega) (fun j hj => put_get _ _ _ _ hj)).mono ?_
    rintro e w15 ⟨rfl, hb⟩
    have z15 : w0.heap.size ≤ w15.heap.size := by have := hb.size; omega
    have b15 := b14.trans (hb.mono z14)
    have og15 := own_below og14 hb
    clear og14
    clear hb
    go_wp2_with fail
    go_ret
    exact ⟨rfl, b15⟩
  · have HS := Lib.hid (show (if (n : Int) ≤ 1048576 then 1048576 - (n : Int) else -1) = -1 from if_neg hfit)
    clear hfit
    go_enter Try.func7, Try.ntmps7
    go_wp2_with fail
    refine (szInsS A n c 1048576 w hm (by omega) (by omega)).mono ?_
    rintro e w ⟨rfl, rfl⟩
    rw [HS.out]
    clear HS hm
    go_wp2_with fail
    go_ret
    exact ⟨rfl, Below.refl _ _⟩
end Go.Proofs.Ytogpfagdpkjmmaa
