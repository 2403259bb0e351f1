/- The walk of laws.FnCodeRooms. -/
import Derived.Test.YtlmgbpbiljnohaaDoorDrawCode
import Derived.Test.YtlmgbpbiljnohaaDoorRoomPure
import Derived.Test.YtlmgbpbiljnohaaDoorTake
namespace Go.Proofs.YtlmgbpbiljnohaaDoor
open Go.ChangeShapes Go.WideShapes Go.ChangeAt Go.RowKit

theorem scan_codeX (m : Int) (L : SL) : roomScan m false (codeX L) = some false := by
  unfold codeX
  cases h : okP L
  · rfl
  · exact scan_whole m (okP_parts h).2

set_option maxRecDepth 100000 in
set_option maxHeartbeats 4000000 in
theorem wFnCodeRooms (A : Option Addr) (n c : Nat) (w : World) (h : Bytes w A n) (hn : n ≤ c) (hc : c ≤ maxLen) (h0 : 0 < w.heap.size) (hop : Ops w) :
    Calls Tryd.prog 6 #[.slice A n c] w fun e w' => e = .returned (.bool true) ∧ Below w.heap.size w w' := by
  have HOP := Lib.hid hop
  clear hop
  by_cases hl : 1048576 < n
  · go_enter Tryd.func6, Tryd.ntmps6
    go_wp2
    go_ret
    exact ⟨rfl, Below.refl _ _⟩
  · go_enter Tryd.func6, Tryd.ntmps6
    go_wp2_with fail
    refine (drawCodeOf A n c _ h hn hc).mono ?_
    rintro e w1 ⟨L, a, c1, rfl, s1, hL, b1⟩
    have z1 := b1.size
    have lL : L.size ≤ 1048576 := by omega
    have s1' : Sl w1 w1.heap.size L (some a) L.len c1 := s1.sl fun b hb => hb.2
    clear s1
    obtain ⟨m, hm⟩ : ∃ m, codeN L = m := ⟨_, rfl⟩
    obtain ⟨xs, hx⟩ : ∃ xs, codeX L = xs := ⟨_, rfl⟩
    have hm29 : m ≤ 29 := hm ▸ codeN_le L
    have hxl : xs.length = m * 4 := hm ▸ hx ▸ codeX_len L
    have hsc : ∀ q, roomScan q false xs = some false := fun q => hx ▸ scan_codeX q L
    have hSC := fun (A : Option Addr) (n c M : Nat) (w : World) (hs : Sl w M L A n c) (hM : M ≤ w.heap.size) => specCode hs hM lL
    have hIC := fun (A : Option Addr) (n c M : Nat) (w : World) (hs : Sl w M L A n c) (hM : M ≤ w.heap.size) (h0 : 0 < w.heap.size) (hop : Ops w) => implCode hs hM h0 hop
    rw [hm, hx] at hSC hIC
    have HSC := Lib.hid hSC
    have HIC := Lib.hid hIC
    have HXL := Lib.hid hxl
    have HS := Lib.hid hsc
    clear hSC hIC hm hx hxl hsc
    go_wp2_with fail
    refine (HIC.out _ _ _ w1.heap.size w1 s1' (Nat.le_refl _) (by omega) (HOP.out.below b1 h0)).mono ?_
    rintro e w2 ⟨vc, rfl, oc2, hb2⟩
    have z2 := hb2.size
    have b2 := b1.trans (hb2.mono z1)
    have s2 := s1'.later hb2 hb2.size
    clear s1' hb2
    obtain ⟨AC, cC, rfl⟩ := own_slice oc2
    go_wp2_with fail
    refine (HSC.out _ _ _ w2.heap.size w2 s2 (Nat.le_refl _)).mono ?_
    rintro e w3 ⟨vw, rfl, ow3, hb3⟩
    have z3 := hb3.size
    have b3 := b2.trans (hb3.mono (by omega))
    have oc3 := own_below oc2 hb3
    clear oc2 s2 hb3
    obtain ⟨AW, cW, rfl⟩ := own_slice ow3
    go_wp2_with fail
    refine (codeSame (own_flat oc3) (own_flat ow3)).mono ?_
    rintro e w4 ⟨rfl, hb4⟩
    have z4 := hb4.size
    have b4 := b3.trans (hb4.mono (by omega))
    have f4 := own_flat (own_below oc3 hb4)
    clear oc3 ow3 hb4 HSC HIC
    rw [decide_eq_true rfl]
    go_wp2_with fail
    go_loopw [5] (fun i wr => ∃ q : Nat, q ≤ 2 ∧ i = .int .i64 q ∧ w4 = wr) (fun i _ => 2 - (intOf i).toNat)
    case atStart => exact ⟨0, Nat.zero_le _, rfl, rfl⟩
    case round =>
      obtain ⟨q, hq, rfl, rfl⟩ := hrel
      by_cases hlt : q < 2
      · go_wp2_with fail
        go_loopw [6, 7, 8] (fun b z i wr => ∃ (k : Nat) (β : Bool), k ≤ m ∧ b = .bool β ∧ z = .int .i64 (if β then 1 else 0) ∧ i = .int .i64 k ∧ roomScan q β (xs.drop (k * 4)) = some false ∧ w4 = wr) (fun _ _ i _ => m - (intOf i).toNat)
        case atStart => exact ⟨0, false, Nat.zero_le _, rfl, rfl, rfl, by simpa using HS.out q, rfl⟩
        case round =>
          obtain ⟨k, β, hk, rfl, rfl, rfl, hsc, rfl⟩ := hrel
          by_cases hkm : k < m
          · obtain ⟨a, rfl⟩ := f4.some (by omega)
            obtain ⟨c0, c1, c2, c3⟩ := f4.four k hkm
            rw [four_cons HXL.out hkm] at hsc
            generalize xs.getD (k * 4) 0 = x0 at c0 hsc
            generalize xs.getD (k * 4 + 1) 0 = x1 at c1 hsc
            generalize xs.getD (k * 4 + 2) 0 = x2 at c2 hsc
            generalize xs.getD (k * 4 + 3) 0 = x3 at c3 hsc
            obtain ⟨r1, r2, r3, r4⟩ := scan_in hsc
            clear hsc
            have HR := Lib.hid (And.intro r1 (And.intro r2 (And.intro r3 r4)))
            clear r1 r2 r3 r4
            by_cases hx : x1 = q
            · by_cases h8 : x0 = 8
              · obtain ⟨rfl, hs⟩ := HR.out.2.1 hx h8
                have HSS := Lib.hid hs
                subst hx h8
                clear hs
                go_wp2_with fail
                go_roundw
                case rel => exact ⟨k + 1, true, by omega, rfl, rfl, by go_num, HSS.out, trivial⟩
                case measure => simp [intOf]; omega
              · by_cases h9 : x0 = 9
                · obtain ⟨rfl, hs⟩ := HR.out.2.2.1 hx h9
                  have HSS := Lib.hid hs
                  subst hx h9
                  clear hs h8
                  go_wp2_with fail
                  go_roundw
                  case rel => exact ⟨k + 1, false, by omega, rfl, rfl, by go_num, HSS.out, trivial⟩
                  case measure => simp [intOf]; omega
                · have HSS := Lib.hid (HR.out.2.2.2 h8 h9)
                  subst hx
                  go_wp2_with fail
                  go_roundw
                  case rel => exact ⟨k + 1, β, by omega, rfl, rfl, by go_num, HSS.out, trivial⟩
                  case measure => simp [intOf]; omega
            · have HSS := Lib.hid (HR.out.1 hx)
              go_wp2_with fail
              go_roundw
              case rel => exact ⟨k + 1, β, by omega, rfl, rfl, by go_num, HSS.out, trivial⟩
              case measure => simp [intOf]; omega
          · obtain rfl : k = m := by omega
            have hl := HXL.out
            rw [List.drop_eq_nil_of_le (by omega)] at hsc
            obtain rfl : β = false := by simpa [roomScan] using hsc
            clear hsc hl
            go_wp2_with fail
            go_roundw
            case rel => exact ⟨q + 1, by omega, by go_num, trivial⟩
            case measure => simp [intOf]; omega
      · go_wp2_with fail
        go_ret
        exact ⟨rfl, b4⟩
end Go.Proofs.YtlmgbpbiljnohaaDoor
