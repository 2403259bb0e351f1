/- The walk of laws.FnCodeBoth. -/
import Derived.Test.YtlmgbpbiljnohaaDoorDrawCode
import Derived.Test.YtlmgbpbiljnohaaDoorBothX
namespace Go.Proofs.YtlmgbpbiljnohaaDoor
open Go.ChangeShapes Go.WideShapes Go.ChangeAt Go.RowKit

set_option maxRecDepth 100000 in
set_option maxHeartbeats 4000000 in
theorem wFnCodeBoth (A : Option Addr) (n c : Nat) (w : World) (h : Bytes w A n) (hn : n ≤ c) (hc : c ≤ maxLen) (h0 : 0 < w.heap.size) (hop : Ops w) :
    Calls Tryd.prog 4 #[.slice A n c] w fun e w' => e = .returned (.bool true) ∧ Below w.heap.size w w' := by
  have HOP := Lib.hid hop
  clear hop
  by_cases hl : 1048576 < n
  · go_enter Tryd.func4, Tryd.ntmps4
    go_wp2
    go_ret
    exact ⟨rfl, Below.refl _ _⟩
  · go_enter Tryd.func4, Tryd.ntmps4
    go_wp2_with fail
    refine (drawCodeOf A n c _ h hn hc).mono ?_
    rintro e w1 ⟨L, a, c1, rfl, s1, hL, b1⟩
    have z1 := b1.size
    have lL : L.size ≤ 1048576 := by omega
    have s1' : Sl w1 w1.heap.size L (some a) L.len c1 := s1.sl fun b hb => hb.2
    clear s1
    obtain ⟨m, hm⟩ : ∃ m, codeN L = m := ⟨_, rfl⟩
    obtain ⟨xs, hx⟩ : ∃ xs, codeX L = xs := ⟨_, rfl⟩
    have hm29 : m ≤ 29 := hm ▸ codeN_le L
    have hxl : xs.length = m * 4 := hm ▸ hx ▸ codeX_len L
    have hSC := fun (A : Option Addr) (n c M : Nat) (w : World) (hs : Sl w M L A n c) (hM : M ≤ w.heap.size) => specCode hs hM lL
    have hIC := fun (A : Option Addr) (n c M : Nat) (w : World) (hs : Sl w M L A n c) (hM : M ≤ w.heap.size) (h0 : 0 < w.heap.size) (hop : Ops w) => implCode hs hM h0 hop
    rw [hm, hx] at hSC hIC
    have HM := Lib.hid hm
    have HX := Lib.hid hx
    clear hm hx
    have HSC := Lib.hid hSC
    have HIC := Lib.hid hIC
    have HXL := Lib.hid hxl
    clear hSC hIC hxl
    go_wp2_with fail
    refine (HIC.out _ _ _ w1.heap.size w1 s1' (Nat.le_refl _) (by omega) (HOP.out.below b1 h0)).mono ?_
    rintro e w2 ⟨vc, rfl, oc2, hb2⟩
    have z2 := hb2.size
    have b2 := b1.trans (hb2.mono z1)
    have s2 := s1'.later hb2 hb2.size
    clear s1' hb2
    obtain ⟨AC, cC, rfl⟩ := own_slice oc2
    have HST := Lib.hid (fun (W : World) (hs : Sl W W.heap.size L (some a) L.len c1) => specStmtsOk L lL (some a) L.len c1 W.heap.size W hs (Nat.le_refl _))
    have HBX := Lib.hid (fun (h : okP L = true) (q : Nat) => bothX h q)
    have HKD := Lib.hid (fun (h : okP L = true) => (okP_parts h).1)
    go_wp2_with fail
    refine (HSC.out _ _ _ w2.heap.size w2 s2 (Nat.le_refl _)).mono ?_
    rintro e w3 ⟨vw, rfl, ow3, hb3⟩
    have z3 := hb3.size
    have b3 := b2.trans (hb3.mono (by omega))
    have oc3 := own_below oc2 hb3
    have s3 := s2.later hb3 hb3.size
    clear oc2 s2 hb3
    obtain ⟨AW, cW, rfl⟩ := own_slice ow3
    go_wp2_with fail
    refine (codeSame (own_flat oc3) (own_flat ow3)).mono ?_
    rintro e w4 ⟨rfl, hb4⟩
    have z4 := hb4.size
    have b4 := b3.trans (hb4.mono (by omega))
    have oc4 := own_below oc3 hb4
    have s4 := s3.later hb4 hb4.size
    clear oc3 ow3 hb4 s3
    rw [decide_eq_true rfl]
    go_wp2_with fail
    refine (HST.out w4 s4).mono ?_
    rintro e w5 ⟨rfl, hb5⟩
    have z5 := hb5.size
    have b5 := b4.trans (hb5.mono (by omega))
    have oc5 := own_below oc4 hb5
    have s5 := s4.later hb5 hb5.size
    clear oc4 s4 hb5 HST
    cases hok : okP L
    · clear hok HBX HKD HIC
      go_wp2_with fail
      refine (HSC.out _ _ _ w5.heap.size w5 s5 (Nat.le_refl _)).mono ?_
      rintro e w6 ⟨vw, rfl, ow6, hb6⟩
      have z6 := hb6.size
      have b6 := b5.trans (hb6.mono (by omega))
      have oc6 := own_below oc5 hb6
      clear oc5 s5 hb6
      obtain ⟨AV, cV, rfl⟩ := own_slice ow6
      go_wp2_with fail
      refine (codeSame (own_flat oc6) (own_flat ow6)).mono ?_
      rintro e w7 ⟨rfl, hb7⟩
      have b7 := b6.trans (hb7.mono (by omega))
      clear oc6 ow6 hb7
      rw [decide_eq_true rfl]
      go_wp2_with fail
      go_ret
      exact ⟨rfl, b7⟩
    · have HOK := Lib.hid hok
      clear hok
      by_cases hl0 : L.len = 0
      · rw [hl0] at s5 ⊢
        clear HBX HKD HIC
        go_wp2_with fail
        refine (HSC.out _ _ _ w5.heap.size w5 s5 (Nat.le_refl _)).mono ?_
        rintro e w6 ⟨vw, rfl, ow6, hb6⟩
        have z6 := hb6.size
        have b6 := b5.trans (hb6.mono (by omega))
        have oc6 := own_below oc5 hb6
        clear oc5 s5 hb6
        obtain ⟨AV, cV, rfl⟩ := own_slice ow6
        go_wp2_with fail
        refine (codeSame (own_flat oc6) (own_flat ow6)).mono ?_
        rintro e w7 ⟨rfl, hb7⟩
        have b7 := b6.trans (hb7.mono (by omega))
        clear oc6 ow6 hb7
        rw [decide_eq_true rfl]
        go_wp2_with fail
        go_ret
        exact ⟨rfl, b7⟩
      · obtain ⟨q, hq⟩ : ∃ q, L.len = q + 1 := ⟨L.len - 1, by omega⟩
        have hs14 := HKD.out HOK.out
        have hll := L.len_le
        have hbx := HBX.out HOK.out q
        rw [HM.out, HX.out] at hbx
        have lT : (L.take q).size ≤ 1048576 := by have := L.take_drop_size q; omega
        have lD : (L.drop q).size ≤ 1048576 := by have := L.take_drop_size q; omega
        obtain ⟨mT, hmT⟩ : ∃ m, codeN (L.take q) = m := ⟨_, rfl⟩
        obtain ⟨ys, hys⟩ : ∃ xs, codeX (L.take q) = xs := ⟨_, rfl⟩
        obtain ⟨mD, hmD⟩ : ∃ m, codeN (L.drop q) = m := ⟨_, rfl⟩
        obtain ⟨zs, hzs⟩ : ∃ xs, codeX (L.drop q) = xs := ⟨_, rfl⟩
        have tT : mT ≤ 29 := hmT ▸ codeN_le (L.take q)
        have tD : mD ≤ 29 := hmD ▸ codeN_le (L.drop q)
        have HIT := Lib.hid (fun (A : Option Addr) (n c M : Nat) (w : World) (hs : Sl w M (L.take q) A n c) (hM : M ≤ w.heap.size) (h0 : 0 < w.heap.size) (hop : Ops w) => hmT ▸ hys ▸ implCode hs hM h0 hop)
        have HID := Lib.hid (fun (A : Option Addr) (n c M : Nat) (w : World) (hs : Sl w M (L.drop q) A n c) (hM : M ≤ w.heap.size) (h0 : 0 < w.heap.size) (hop : Ops w) => hmD ▸ hzs ▸ implCode hs hM h0 hop)
        rw [hmT, hys, hmD, hzs] at hbx
        obtain ⟨hmany, hone, hleft, hright, hsmall⟩ := hbx
        have HB := Lib.hid (And.intro hleft (And.intro hright hsmall))
        have hcc := s5.le
        have sT : Sl w5 w5.heap.size (L.take q) (some a) q c1 := ⟨(L.take_len q (by omega)).symm, by omega, s5.top, (fun h => by cases h), fun p hp => by injection hp with hp; subst hp; exact (s5.at_ a rfl).take q⟩
        have sD : Sl w5 w5.heap.size (L.drop q) (some (a.add (q * 6))) 1 (c1 - q) := ⟨by rw [L.drop_len, hq]; omega, by omega, by have := s5.top; omega, (fun h => by cases h), fun p hp => by injection hp with hp; subst hp; exact (s5.at_ a rfl).drop q⟩
        clear hmT hys hmD hzs hleft hright hsmall s5 HBX HKD HSC HIC lT lD
        generalize L.len = N at *
        subst hq
        go_wp2_with fail
        refine (HIT.out _ _ _ w5.heap.size w5 sT (Nat.le_refl _) (by omega) (HOP.out.below b5 h0)).mono ?_
        rintro e w6 ⟨va, rfl, oa6, hb6⟩
        have z6 := hb6.size
        have b6 := b5.trans (hb6.mono (by omega))
        have oc6 := own_below oc5 hb6
        have sD6 := sD.later hb6 hb6.size
        obtain ⟨AA, cA, rfl⟩ := own_slice oa6
        clear oc5 sT sD hb6 HIT
        go_wp2_with fail
        refine (HID.out _ _ _ w6.heap.size w6 sD6 (Nat.le_refl _) (by omega) (HOP.out.below b6 h0)).mono ?_
        rintro e w7 ⟨vb, rfl, ob7, hb7⟩
        have z7 := hb7.size
        have b7 := b6.trans (hb7.mono (by omega))
        have fc := own_flat (own_below oc6 hb7)
        have fa := own_flat (own_below oa6 hb7)
        obtain ⟨AB, cB, rfl⟩ := own_slice ob7
        have fb := own_flat ob7
        clear oc6 oa6 ob7 hb7 HID sD6 HX HM HOK
        obtain ⟨nT, rfl⟩ : ∃ t, mT = t + 1 := ⟨mT - 1, by omega⟩
        obtain ⟨rfl⟩ : m = nT + mD := by omega
        clear hmany hone
        go_wp2_with fail
        go_loopw [9] (fun i wr => ∃ k : Nat, k ≤ nT + mD ∧ i = .int .i64 k ∧ Below w7.heap.size w7 wr) (fun i _ => nT + mD - (intOf i).toNat)
        case atStart => exact ⟨0, Nat.zero_le _, rfl, Below.refl _ _⟩
        case round =>
          obtain ⟨k, hk, rfl, hb⟩ := hrel
          have hzr := hb.size
          by_cases hkm : k < nT + mD
          · obtain ⟨ac, rfl⟩ := fc.some (by omega)
            obtain ⟨c0, c1, c2, c3⟩ := (fc.later hb).four k hkm
            by_cases hkT : k < nT
            · obtain ⟨aa, rfl⟩ := fa.some (by omega)
              obtain ⟨d0, d1, d2, d3⟩ := (fa.later hb).four k (by omega)
              have e0 := HB.out.1 k 0 (by omega) (by omega)
              have e1 := HB.out.1 k 1 (by omega) (by omega)
              have e2 := HB.out.1 k 2 (by omega) (by omega)
              have e3 := HB.out.1 k 3 (by omega) (by omega)
              rw [Nat.add_zero] at e0
              rw [e0] at c0
              rw [e1] at c1
              rw [e2] at c2
              rw [e3] at c3
              clear e0 e1 e2 e3
              generalize ys.getD (k * 4) 0 = x0 at c0 d0
              generalize ys.getD (k * 4 + 1) 0 = x1 at c1 d1
              generalize ys.getD (k * 4 + 2) 0 = x2 at c2 d2
              generalize ys.getD (k * 4 + 3) 0 = x3 at c3 d3
              have hne := fun W => neqIns x0 x1 x2 x3 x0 x1 x2 x3 W
              simp only [beq_self_eq_true, Bool.and_self, Bool.not_true] at hne
              have q0 := World.block_lt_of_cell? _ _ c0
              have q1 := World.block_lt_of_cell? _ _ d0
              go_wp2_with fail
              go_region
              all_goals (try go_wp2)
              exact ⟨⟨k + 1, by omega, by go_num, (hb.alloc hzr _).drew⟩, by simp [intOf]; omega⟩
            · obtain ⟨j, rfl⟩ : ∃ j, k = nT + j := ⟨k - nT, by omega⟩
              obtain ⟨ab, rfl⟩ := fb.some (by omega)
              obtain ⟨d0, d1, d2, d3⟩ := (fb.later hb).four j (by omega)
              obtain ⟨e0, e1, e2, e3⟩ := HB.out.2.1 (nT + j) hkm (by omega)
              have hsm := HB.out.2.2 j (by omega)
              rw [show nT + j + 1 - (nT + 1) = j from by omega] at e0 e1 e2 e3
              rw [show (((nT + 1 : Nat) : Int) - 1) = (nT : Int) from by omega] at e3
              rw [e0] at c0
              rw [e1] at c1
              rw [e2] at c2
              rw [e3] at c3
              clear e0 e1 e2 e3 hkT
              have q0 := World.block_lt_of_cell? _ _ c0
              have q1 := World.block_lt_of_cell? _ _ d0
              generalize zs.getD (j * 4) 0 = x0 at c0 d0 c3 hsm
              generalize zs.getD (j * 4 + 1) 0 = x1 at c1 d1
              generalize zs.getD (j * 4 + 2) 0 = x2 at c2 d2
              generalize zs.getD (j * 4 + 3) 0 = x3 at c3 d3 hsm
              by_cases h67 : x0 = 6 ∨ x0 = 7
              · rw [if_pos h67] at c3
                obtain ⟨m1, m2⟩ := hsm h67
                clear hsm
                have hne := fun W => neqIns x0 x1 x2 (x3 + nT) x0 x1 x2 (x3 + nT) W
                simp only [beq_self_eq_true, Bool.and_self, Bool.not_true] at hne
                rcases h67 with rfl | rfl
                · go_wp2_with fail
                  go_region
                  all_goals (try go_wp2)
                  exact ⟨⟨nT + j + 1, by omega, by go_num, (hb.alloc hzr _).drew⟩, by simp [intOf]; omega⟩
                · go_wp2_with fail
                  go_region
                  all_goals (try go_wp2)
                  exact ⟨⟨nT + j + 1, by omega, by go_num, (hb.alloc hzr _).drew⟩, by simp [intOf]; omega⟩
              · rw [if_neg h67] at c3
                have h6 : (x0 == 6) = false := by rw [beq_eq_false_iff_ne]; exact fun h => h67 (.inl h)
                have h7 : (x0 == 7) = false := by rw [beq_eq_false_iff_ne]; exact fun h => h67 (.inr h)
                clear hsm h67
                have hne := fun W => neqIns x0 x1 x2 x3 x0 x1 x2 x3 W
                simp only [beq_self_eq_true, Bool.and_self, Bool.not_true] at hne
                go_wp2_with fail
                go_region
                all_goals (try go_wp2)
                exact ⟨⟨nT + j + 1, by omega, by go_num, (hb.alloc hzr _).drew⟩, by simp [intOf]; omega⟩
          · go_wp2_with fail
            go_ret
            exact ⟨rfl, b7.trans (hb.mono (by omega))⟩
end Go.Proofs.YtlmgbpbiljnohaaDoor
