/- The walk of laws.FnCodeJump. -/
import Derived.Test.YtlmgbpbiljnohaaDoorDrawCode
import Derived.Test.YtlmgbpbiljnohaaDoorJumpX
import Derived.Test.YtlmgbpbiljnohaaDoorRoomPure
namespace Go.Proofs.YtlmgbpbiljnohaaDoor
open Go.ChangeShapes Go.WideShapes Go.ChangeAt Go.RowKit

set_option maxRecDepth 100000 in
set_option maxHeartbeats 4000000 in
theorem wFnCodeJump (A : Option Addr) (n c : Nat) (w : World) (h : Bytes w A n) (hn : n ≤ c) (hc : c ≤ maxLen) (h0 : 0 < w.heap.size) (hop : Ops w) :
    Calls Tryd.prog 5 #[.slice A n c] w fun e w' => e = .returned (.bool true) ∧ Below w.heap.size w w' := by
  have HOP := Lib.hid hop
  clear hop
  by_cases hl : 1048576 < n
  · go_enter Tryd.func5, Tryd.ntmps5
    go_wp2
    go_ret
    exact ⟨rfl, Below.refl _ _⟩
  · go_enter Tryd.func5, Tryd.ntmps5
    go_wp2_with fail
    refine (drawCodeOf A n c _ h hn hc).mono ?_
    rintro e w1 ⟨L, a, c1, rfl, s1, hL, b1⟩
    have z1 := b1.size
    have lL : L.size ≤ 1048576 := by omega
    have s1' : Sl w1 w1.heap.size L (some a) L.len c1 := s1.sl fun b hb => hb.2
    clear s1
    obtain ⟨m, hm⟩ : ∃ m, codeN L = m := ⟨_, rfl⟩
    obtain ⟨xs, hx⟩ : ∃ xs, codeX L = xs := ⟨_, rfl⟩
    have hm29 : m ≤ 29 := hm ▸ codeN_le L
    have hxl : xs.length = m * 4 := hm ▸ hx ▸ codeX_len L
    have hsk : ∀ i, i < m → opC xs i = 6 → ∃ j : Nat, toC xs i = ((j + 1 : Nat) : Int) ∧ i ≤ j ∧ j + 1 < m ∧ opC xs j = 7 := hm ▸ hx ▸ skipX L
    have hju : ∀ i, i < m → opC xs i = 7 → (∃ j : Nat, toC xs i = (j : Int) ∧ i < j ∧ j < m) ∨ ∃ j : Nat, toC xs i = (j : Int) ∧ j < i ∧ opC xs j = 6 := hm ▸ hx ▸ jumpX L
    have hcn : cntC 6 xs = cntC 7 xs := hx ▸ cntX L
    have hSC := fun (A : Option Addr) (n c M : Nat) (w : World) (hs : Sl w M L A n c) (hM : M ≤ w.heap.size) => specCode hs hM lL
    have hIC := fun (A : Option Addr) (n c M : Nat) (w : World) (hs : Sl w M L A n c) (hM : M ≤ w.heap.size) (h0 : 0 < w.heap.size) (hop : Ops w) => implCode hs hM h0 hop
    rw [hm, hx] at hSC hIC
    have HSC := Lib.hid hSC
    have HIC := Lib.hid hIC
    have HXL := Lib.hid hxl
    have HSK := Lib.hid hsk
    have HJU := Lib.hid hju
    have HCN := Lib.hid hcn
    clear hSC hIC hm hx hxl hsk hju hcn
    go_wp2_with fail
    refine (HIC.out _ _ _ w1.heap.size w1 s1' (Nat.le_refl _) (by omega) (HOP.out.below b1 h0)).mono ?_
    rintro e w2 ⟨vc, rfl, oc2, hb2⟩
    have z2 := hb2.size
    have b2 := b1.trans (hb2.mono z1)
    have s2 := s1'.later hb2 hb2.size
    clear s1' hb2
    obtain ⟨AC, cC, rfl⟩ := own_slice oc2
    go_wp2_with fail
    refine (HSC.out _ _ _ w2.heap.size w2 s2 (Nat.le_refl _)).mono ?_
    rintro e w3 ⟨vw, rfl, ow3, hb3⟩
    have z3 := hb3.size
    have b3 := b2.trans (hb3.mono (by omega))
    have oc3 := own_below oc2 hb3
    clear oc2 s2 hb3
    obtain ⟨AW, cW, rfl⟩ := own_slice ow3
    go_wp2_with fail
    refine (codeSame (own_flat oc3) (own_flat ow3)).mono ?_
    rintro e w4 ⟨rfl, hb4⟩
    have z4 := hb4.size
    have b4 := b3.trans (hb4.mono (by omega))
    have f4 := own_flat (own_below oc3 hb4)
    clear oc3 ow3 hb4 HSC HIC
    rw [decide_eq_true rfl]
    go_wp2_with fail
    go_loopw [5, 6, 7] (fun sk ju i wr => ∃ k s t : Nat, k ≤ m ∧ sk = .int .i64 s ∧ ju = .int .i64 t ∧ i = .int .i64 k ∧ s ≤ k ∧ t ≤ k ∧ s + cntC 6 (xs.drop (k * 4)) = t + cntC 7 (xs.drop (k * 4)) ∧ w4 = wr) (fun _ _ i _ => m - (intOf i).toNat)
    case atStart => exact ⟨0, 0, 0, Nat.zero_le _, rfl, rfl, rfl, Nat.le_refl _, Nat.le_refl _, by simpa using HCN.out, rfl⟩
    case round =>
      obtain ⟨k, s, t, hk, rfl, rfl, rfl, hsk, htk, hcn, rfl⟩ := hrel
      by_cases hkm : k < m
      · obtain ⟨a, rfl⟩ := f4.some (by omega)
        obtain ⟨c0, c1, c2, c3⟩ := f4.four k hkm
        rw [four_cons HXL.out hkm, cnt_step, cnt_step] at hcn
        have HK := Lib.hid (HSK.out k hkm)
        have HJ := Lib.hid (HJU.out k hkm)
        have hop : opC xs k = xs.getD (k * 4) 0 := rfl
        have hto : toC xs k = xs.getD (k * 4 + 3) 0 := rfl
        generalize xs.getD (k * 4) 0 = x0 at c0 hcn hop
        generalize xs.getD (k * 4 + 1) 0 = x1 at c1
        generalize xs.getD (k * 4 + 2) 0 = x2 at c2
        generalize xs.getD (k * 4 + 3) 0 = x3 at c3 hto
        have HC := Lib.hid hcn
        clear hcn
        by_cases h6 : x0 = 6
        · obtain ⟨j, e, j1, j2, j3⟩ := HK.out (hop.trans h6)
          obtain ⟨d0, d1, d2, d3⟩ := f4.four j (by omega)
          rw [show xs.getD (j * 4) 0 = 7 from j3] at d0
          rw [hto] at e
          subst h6 e
          clear hop hto j3 d1 d2 d3 HK HJ
          have hc := HC.out
          rw [if_pos rfl, if_neg (by decide)] at hc
          have HC' := Lib.hid hc
          clear hc HC
          go_wp2_with fail
          exact ⟨⟨k + 1, s + 1, t, by omega, by go_num, rfl, by go_num, by omega, by omega, by have := HC'.out; omega, trivial⟩, by simp [intOf]; omega⟩
        · by_cases h7 : x0 = 7
          · have hc := HC.out
            rw [if_neg h6, if_pos h7] at hc
            have HC' := Lib.hid hc
            clear hc HC h6
            rcases HJ.out (hop.trans h7) with ⟨j, e, j1, j2⟩ | ⟨j, e, j1, j3⟩
            · rw [hto] at e
              subst h7 e
              clear hop hto HK HJ
              go_wp2_with fail
              exact ⟨⟨k + 1, s, t + 1, by omega, rfl, by go_num, by go_num, by omega, by omega, by have := HC'.out; omega, trivial⟩, by simp [intOf]; omega⟩
            · obtain ⟨d0, d1, d2, d3⟩ := f4.four j (by omega)
              rw [show xs.getD (j * 4) 0 = 6 from j3] at d0
              rw [hto] at e
              subst h7 e
              clear hop hto j3 d1 d2 d3 HK HJ
              go_wp2_with fail
              exact ⟨⟨k + 1, s, t + 1, by omega, rfl, by go_num, by go_num, by omega, by omega, by have := HC'.out; omega, trivial⟩, by simp [intOf]; omega⟩
          · have hc := HC.out
            rw [if_neg h6, if_neg h7] at hc
            have HC' := Lib.hid hc
            clear hc HC HK HJ hop hto
            go_wp2_with fail
            exact ⟨⟨k + 1, s, t, by omega, rfl, rfl, by go_num, by omega, by omega, by have := HC'.out; omega, trivial⟩, by simp [intOf]; omega⟩
      · obtain rfl : k = m := by omega
        have hl := HXL.out
        rw [List.drop_eq_nil_of_le (by omega)] at hcn
        obtain rfl : s = t := by simpa [cntC] using hcn
        clear hcn hl
        go_wp2_with fail
        go_ret
        exact ⟨rfl, b4⟩
end Go.Proofs.YtlmgbpbiljnohaaDoor
