/- The walk of laws.FnExactSaidBy. -/
import Derived.Test.YtjddhhlehkdloaaSaidBy
namespace Go.Proofs.Ytjddhhlehkdloaa
open Go.ChangeShapes Go.WideShapes Go.ChangeAt Go.RowKit

set_option maxRecDepth 100000 in
set_option maxHeartbeats 1000000 in
theorem wFnExactSaidBy (xs : List Int) (who : Int) (A : Option Addr) (n c : Nat) (w : World) (hs : Fl w (fun _ => True) 2 xs A n c) :
    Calls Try.prog 5 #[.slice A n c, .int .i64 who] w fun e w' => e = .returned (.bool true) ∧ Below w.heap.size w w' := by
  have hm : n ≤ maxLen := by have := hs.le; have := hs.top; omega
  by_cases hfit : (n : Int) ≤ 1048576
  · have HS := Lib.hid (show (if (n : Int) ≤ 1048576 then 1048576 - (n : Int) else -1) = 1048576 - (n : Int) from if_pos hfit)
    have hpos : 0 ≤ (1048576 : Int) - n := by omega
    have hn : n ≤ 1048576 := by omega
    clear hfit
    have hle := saidK_le xs who n
    go_enter Try.func5, Try.ntmps5
    go_wp2_with fail
    refine (szSayS A n c 1048576 w hm (by omega) (by omega)).mono ?_
    rintro e w ⟨rfl, rfl⟩
    rw [HS.out]
    clear HS hm
    go_wp2_with fail
    refine (toSayS hs hn).mono ?_
    rintro e w1 ⟨v1, rfl, o1, b1⟩
    obtain ⟨A1, c1, rfl, f1⟩ := own_fl o1
    go_wp2_with fail
    refine (specSaidBy who f1 hn).mono ?_
    rintro e w2 ⟨vw, rfl, ow2, hb2⟩
    have z1 := b1.size
    have b2 := b1.trans (hb2.mono z1)
    have z2 := b2.size
    clear o1 f1 hb2
    go_wp2_with fail
    refine (toSayS (hs.later b2) hn).mono ?_
    rintro e w3 ⟨vx, rfl, ox3, hb3⟩
    have z3 := hb3.size
    have b3 := b2.trans (hb3.mono z2)
    have ow3 := own_below ow2 hb3
    have hwx : ∀ b, vw.ownBlock = some b → vx.ownBlock ≠ some b := fun b h1 h2 => by have := (own_at ow2 h1).2; have := (own_at ox3 h2).1; omega
    obtain ⟨AX, cX, rfl, fx3⟩ := own_fl ox3
    clear hb3 ow2
    go_wp2_with fail
    refine (saidBy who fx3 hn).mono ?_
    rintro e w4 ⟨vg, rfl, og4, hb4⟩
    have z4 := hb4.size
    have b4 := b3.trans (hb4.mono (by omega))
    have hwg : ∀ b, vw.ownBlock = some b → vg.ownBlock ≠ some b := fun b h1 h2 => by have := (own_at ow3 h1).2; have := (own_at og4 h2).1; omega
    have hxg : ∀ b, vg.ownBlock = some b → (Value.slice AX n cX).ownBlock ≠ some b := fun b h1 h2 => by have := (own_at ox3 h2).2; have := (own_at og4 h1).1; omega
    have ow4 := own_below ow3 hb4
    have ox4 := own_below ox3 hb4
    have hgl : ∀ b, vg.ownBlock = some b → w.heap.size ≤ b := fun b h => by have := (own_at og4 h).1; omega
    have hxl : ∀ b, (Value.slice AX n cX).ownBlock = some b → w.heap.size ≤ b := fun b h => by have := (own_at ox3 h).1; omega
    clear hb4 ow3 ox3 fx3
    obtain ⟨AG, cG, rfl, fg4⟩ := own_fl og4
    obtain ⟨AW, cW, rfl, fw4⟩ := own_fl ow4
    go_wp2_with fail
    refine (eqIntS fg4 fw4).mono ?_
    rintro e w5 ⟨rfl, hb5⟩
    have z5 := hb5.size
    have b5 := b4.trans (hb5.mono (by omega))
    have og5 := own_below og4 hb5
    have ow5 := own_below ow4 hb5
    have ox5 := own_below ox4 hb5
    clear og4 ow4 ox4 fg4 fw4 hb5
    go_wp2_with fail
    refine (toSayS (hs.later b5) hn).mono ?_
    rintro e w6 ⟨v6, rfl, o6, hb6⟩
    have z6 := hb6.size
    have b6 := b5.trans (hb6.mono (by omega))
    have og6 := own_below og5 hb6
    have ow6 := own_below ow5 hb6
    have ox6 := own_below ox5 hb6
    obtain ⟨A6, c6, rfl, f6⟩ := own_fl o6
    have fx6 : Fl w6 (fun _ => True) 2 xs AX n cX := by
      obtain ⟨_, _, e, f⟩ := own_fl ox6
      simp only [Value.slice.injEq, true_and] at e
      obtain ⟨rfl, rfl⟩ := e
      exact f.mono fun _ _ => trivial
    clear og5 ow5 ox5 hb6 o6
    go_wp2_with fail
    refine (eqSayS fx6 f6).mono ?_
    rintro e w7 ⟨rfl, hb7⟩
    have z7 := hb7.size
    have b7 := b6.trans (hb7.mono (by omega))
    have og7 := own_below og6 hb7
    have ow7 := own_below ow6 hb7
    have ox7 := own_below ox6 hb7
    clear og6 ow6 ox6 hb7 fx6 f6
    go_wp2_with fail
    refine (markSayS ox7 1 (by omega) (by omega) (by omega)).mono ?_
    rintro e w8 ⟨rfl, _, hb8⟩
    have z8 := hb8.size
    have b8 := b7.trans (hb8.below (by omega) hxl)
    have og8 := hb8.own og7 hxg
    have ow8 := hb8.own ow7 hwx
    clear og7 ow7 ox7 hb8 hxg hwx hxl
    have fg8 : Fl w8 (fun _ => True) 1 (saidK xs who n) AG (saidK xs who n).length cG := by
      obtain ⟨_, _, e, f⟩ := own_fl og8
      simp only [Value.slice.injEq, true_and] at e
      obtain ⟨rfl, rfl⟩ := e
      exact f.mono fun _ _ => trivial
    have fw8 : Fl w8 (fun _ => True) 1 (saidK xs who n) AW (saidK xs who n).length cW := by
      obtain ⟨_, _, e, f⟩ := own_fl ow8
      simp only [Value.slice.injEq, true_and] at e
      obtain ⟨rfl, rfl⟩ := e
      exact f.mono fun _ _ => trivial
    go_wp2_with fail
    refine (eqIntS fg8 fw8).mono ?_
    rintro e w9 ⟨rfl, hb9⟩
    have z9 := hb9.size
    have b9 := b8.trans (hb9.mono (by omega))
    have og9 := own_below og8 hb9
    have ow9 := own_below ow8 hb9
    clear og8 ow8 hb9 fg8 fw8
    go_wp2_with fail
    refine (markIntS og9 1 (by omega) (by omega) (by omega)).mono ?_
    rintro e w10 ⟨rfl, og10, hb10⟩
    have z10 := hb10.size
    have b10 := b9.trans (hb10.below (by omega) hgl)
    have ow10 := hb10.own ow9 hwg
    clear og9 ow9 hb10 hgl hwg
    have hp : ∀ (W : World), W.ownsRow w3.heap.size 3 1 (.slice AG (saidK xs who n).length cG) (saidK xs who n).length (ints (put (saidK xs who n) 1 (saidK xs who n).length)) → Fl W (fun _ => True) 1 (put (saidK xs who n) 1 (saidK xs who n).length) AG (saidK xs who n).length cG := fun W ho => by
      obtain ⟨_, _, e, f⟩ := own_fl ho
      simp only [Value.slice.injEq, true_and] at e
      obtain ⟨rfl, rfl⟩ := e
      exact f.mono fun _ _ => trivial
    have hq : ∀ (W : World), W.ownsRow w1.heap.size 3 1 (.slice AW (saidK xs who n).length cW) (saidK xs who n).length (ints (saidK xs who n)) → Fl W (fun _ => True) 1 (saidK xs who n) AW (saidK xs who n).length cW := fun W ho => by
      obtain ⟨_, _, e, f⟩ := own_fl ho
      simp only [Value.slice.injEq, true_and] at e
      obtain ⟨rfl, rfl⟩ := e
      exact f.mono fun _ _ => trivial
    have HP := Lib.hid hp
    have HQ := Lib.hid hq
    clear hp hq
    go_wp2_with fail
    refine (heldIntS (HP.out _ og10) 1 (by omega) (by omega) (by omega) (fun j hj => put_get _ _ _ _ hj)).mono ?_
    rintro e w11 ⟨rfl, hb11⟩
    have z11 := hb11.size
    have b11 := b10.trans (hb11.mono (by omega))
    have og11 := own_below og10 hb11
    have ow11 := own_below ow10 hb11
    clear og10 ow10 hb11
    go_wp2_with fail
    refine (toSayS (hs.later b11) hn).mono ?_
    rintro e w12 ⟨v12, rfl, o12, hb12⟩
    obtain ⟨A12, c12, rfl, f12⟩ := own_fl o12
    have z12 := hb12.size
    have b12 := b11.trans (hb12.mono (by omega))
    have og12 := own_below og11 hb12
    have ow12 := own_below ow11 hb12
    clear og11 ow11 hb12 o12
    go_wp2_with fail
    refine (saidBy who f12 hn).mono ?_
    rintro e w13 ⟨v13, rfl, o13, hb13⟩
    obtain ⟨A13, c13, rfl, f13⟩ := own_fl o13
    have z13 := hb13.size
    have b13 := b12.trans (hb13.mono (by omega))
    have og13 := own_below og12 hb13
    have ow13 := own_below ow12 hb13
    clear og12 ow12 hb13 o13 f12
    go_wp2_with fail
    refine (eqIntS f13 (HQ.out _ ow13)).mono ?_
    rintro e w14 ⟨rfl, hb14⟩
    have z14 := hb14.size
    have b14 := b13.trans (hb14.mono (by omega))
    have og14 := own_below og13 hb14
    clear og13 ow13 hb14 f13
    go_wp2_with fail
    refine (heldIntS (HP.out _ og14) 1 (by omega) (by omega) (by omega) (fun j hj => put_get _ _ _ _ hj)).mono ?_
    rintro e w15 ⟨rfl, hb15⟩
    have b15 := b14.trans (hb15.mono (by omega))
    clear og14 hb15 HP HQ
    go_wp2_with fail
    go_ret
    exact ⟨rfl, b15⟩
  · have HS := Lib.hid (show (if (n : Int) ≤ 1048576 then 1048576 - (n : Int) else -1) = -1 from if_neg hfit)
    clear hfit
    go_enter Try.func5, Try.ntmps5
    go_wp2_with fail
    refine (szSayS A n c 1048576 w hm (by omega) (by omega)).mono ?_
    rintro e w ⟨rfl, rfl⟩
    rw [HS.out]
    go_wp2_with fail
    go_ret
    exact ⟨rfl, Below.refl _ _⟩
end Go.Proofs.Ytjddhhlehkdloaa
