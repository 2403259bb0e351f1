/- The walk of laws.FnProgParts. -/
import Derived.Test.YtlmgbpbiljnohaaDrawSome
import Derived.Test.YtlmgbpbiljnohaaTake
import Derived.Test.YtlmgbpbiljnohaaStmtsMany
import Derived.Deep.RegionHeld3
namespace Go.Proofs.Ytlmgbpbiljnohaa
open Go.ChangeShapes Go.WideShapes Go.ChangeAt Go.RowKit

theorem wrapI (x : Int) (h0 : 0 ≤ x) (h1 : x ≤ 9223372036854775807) : IntKind.i64.wrap x = x := by
  rw [IntKind.wrap_i64]
  omega

set_option maxRecDepth 100000 in
set_option maxHeartbeats 2000000 in
theorem wFnProgParts (A : Option Addr) (n c : Nat) (w : World) (h : Bytes w A n) (hn : n ≤ c) (hc : c ≤ maxLen) :
    Calls Try.prog 3 #[.slice A n c] w fun e w' => e = .returned (.bool true) ∧ Below w.heap.size w w' := by
  by_cases hl : 1048576 < n
  · go_enter Try.func3, Try.ntmps3
    go_wp2
    go_ret
    exact ⟨rfl, Below.refl _ _⟩
  · go_enter Try.func3, Try.ntmps3
    go_wp2_with fail
    refine (drawStmtsOk A n c _ h hn hc).mono ?_
    rintro e w1 ⟨L, a, c1, rfl, s1, hL, b1⟩
    have lL : L.size ≤ 1048576 := by omega
    have t1 : Sl w1 w1.heap.size L (some a) L.len c1 := s1.sl fun _ h => h.2
    have z1 := b1.size
    clear s1 h hn hc
    go_wp2_with fail
    refine (stmtsOk L _ _ _ w1.heap.size w1 t1 (Nat.le_refl _)).mono ?_
    rintro e w2 ⟨rfl, hb2⟩
    have z2 := hb2.size
    have t2 := t1.below hb2
    have b2 := b1.trans (hb2.mono z1)
    clear t1 hb2
    go_wp2_with fail
    refine (stmtsMany L _ _ _ w1.heap.size w2 t2 z2).mono ?_
    rintro e w3 ⟨rfl, hb3⟩
    have z3 := hb3.size
    have t3 := t2.below (hb3.mono z2)
    have b3 := b2.trans (hb3.mono (by omega))
    clear t2 hb3
    go_wp2_with fail
    refine (specStmtsOk L lL _ _ _ w1.heap.size w3 t3 (by omega)).mono ?_
    rintro e w4 ⟨rfl, hb4⟩
    have z4 := hb4.size
    have t4 := t3.below (hb4.mono (by omega))
    have b4 := b3.trans (hb4.mono (by omega))
    clear t3 hb4
    generalize hbe : okP L = ok at *
    have HOK := Lib.hid hbe
    clear hbe
    go_wp2_with fail
    refine (specStmtsMany L lL _ _ _ w1.heap.size w4 t4 (by omega)).mono ?_
    rintro e w5 ⟨rfl, hb5⟩
    have z5 := hb5.size
    have t5 := t4.below (hb5.mono (by omega))
    have b5 := b4.trans (hb5.mono (by omega))
    clear t4 hb5
    have hle : L.len ≤ c1 := t5.le
    have htop : c1 ≤ 9223372036854775807 := by have := t5.top; unfold maxLen at this; omega
    have hll := L.len_le
    cases ok
    · have HM := Lib.hid (show manyI L = 0 from if_neg (by rw [HOK.out]; simp))
      rw [HM.out]
      clear HM
      go_wp2_with fail
      go_loopw [6, 7] (fun v i wr => ∃ (j : Nat) (b : Bool), j ≤ L.len ∧ v = .bool b ∧ i = .int .i64 j ∧ Below w5.heap.size w5 wr) (fun _ i _ => L.len - (intOf i).toNat)
      case atStart => exact ⟨0, true, Nat.zero_le _, rfl, rfl, Below.refl _ _⟩
      case round =>
        obtain ⟨j, b, hj, rfl, rfl, hb⟩ := hrel
        have hzr := hb.size
        by_cases hlt : j < L.len
        · obtain ⟨K, X, Y, V, B', E', R', hdr⟩ := SL.drop_cons (L := L) (i := j) hlt
          have hat := ((t5.below (hb.mono (by omega))).at_ a rfl).drop j
          rw [hdr] at hat
          clear hdr
          obtain ⟨_, c0, c1', c2, c3, A2, cc2, A3, cc3, c4, c5, sB', sE', _⟩ := hat.first
          clear hat
          cases b
          · go_wp2_with fail
            go_roundw
            case rel => exact ⟨j + 1, false, by omega, rfl, by go_num, hb⟩
            case measure => simp [intOf]; omega
          · go_wp2_with fail
            refine (stmtOk K X Y V 3 (-1) B' E' A2 A3 cc2 cc3 w1.heap.size _ sB' sE' (by omega)).mono ?_
            rintro e w6 ⟨rfl, hb6⟩
            generalize (inB 3 (-1) && okS K X Y V B' E' 3 (-1)) = bb
            go_wp2_with fail
            go_roundw
            case rel => exact ⟨j + 1, bb, by omega, rfl, by go_num, hb.trans (hb6.mono hzr)⟩
            case measure => simp [intOf]; omega
        · go_wp2_with fail
          go_ret
          exact ⟨rfl, b5.trans (hb.mono (by omega))⟩
    · have HM := Lib.hid (show manyI L = L.size from if_pos HOK.out)
      rw [HM.out]
      clear HM
      have hs14 := (okP_parts HOK.out).1
      go_wp2_with fail
      go_loopw [6, 7] (fun v i wr => ∃ (j : Nat), j ≤ L.len ∧ v = .bool true ∧ i = .int .i64 j ∧ Below w5.heap.size w5 wr) (fun _ i _ => L.len - (intOf i).toNat)
      case atStart => exact ⟨0, Nat.zero_le _, rfl, rfl, Below.refl _ _⟩
      case round =>
        obtain ⟨j, hj, rfl, rfl, hb⟩ := hrel
        have hzr := hb.size
        by_cases hlt : j < L.len
        · obtain ⟨K, X, Y, V, B', E', R', hdr⟩ := SL.drop_cons (L := L) (i := j) hlt
          have hat := ((t5.below (hb.mono (by omega))).at_ a rfl).drop j
          have HK := Lib.hid (show (inB 3 (-1) && okS K X Y V B' E' 3 (-1)) = true from by rw [okL_at (okP_parts HOK.out).2 hdr]; rfl)
          rw [hdr] at hat
          clear hdr
          obtain ⟨_, c0, c1', c2, c3, A2, cc2, A3, cc3, c4, c5, sB', sE', _⟩ := hat.first
          clear hat
          go_wp2_with fail
          refine (stmtOk K X Y V 3 (-1) B' E' A2 A3 cc2 cc3 w1.heap.size _ sB' sE' (by omega)).mono ?_
          rintro e w6 ⟨rfl, hb6⟩
          rw [HK.out]
          go_wp2_with fail
          go_roundw
          case rel => exact ⟨j + 1, by omega, rfl, by go_num, hb.trans (hb6.mono hzr)⟩
          case measure => simp [intOf]; omega
        · have b6 := b5.trans (hb.mono (by omega))
          have t6 := t5.below (hb.mono (by omega))
          have hz6 : w1.heap.size ≤ wr.heap.size := by omega
          obtain rfl : j = L.len := by omega
          clear t5 hb b5 b4 b3 b2 b1 hlt hj
          by_cases hk0 : L.len = 0
          · rw [hk0]
            generalize L.size = zL at *
            have g1 : (0 : Int) ≤ (zL : Int) := by omega
            have g2 : (zL : Int) ≤ 14 := by omega
            clear HOK lL hll hle hk0 t6 hs14 hL
            go_wp2_with fail
            go_quiet (fail)
            go_wp2
            go_ret
            exact ⟨rfl, below_drewN b6 _⟩
          · obtain ⟨m, hm⟩ : ∃ m, L.len = m + 1 := ⟨L.len - 1, by omega⟩
            obtain ⟨hT, hD⟩ := okP_both HOK.out m
            have hsz := L.take_drop_size m
            have sT : ∀ W, Below wr.heap.size wr W → Sl W w1.heap.size (L.take m) (some a) m c1 := fun W hW =>
              ⟨(L.take_len m (by omega)).symm, by omega, t6.top, (fun h => by cases h), fun p hp => by injection hp with hp; subst hp; exact (((t6.below (hW.mono hz6)).at_ a rfl).take m)⟩
            have sD : ∀ W, Below wr.heap.size wr W → Sl W w1.heap.size (L.drop m) (some (a.add (m * 6))) 1 (c1 - m) := fun W hW =>
              ⟨by rw [L.drop_len, hm]; omega, by omega, by have := t6.top; omega, (fun h => by cases h), fun p hp => by injection hp with hp; subst hp; exact (((t6.below (hW.mono hz6)).at_ a rfl).drop m)⟩
            have HO1 := Lib.hid (show ∀ W, Below wr.heap.size wr W → Calls Try.prog 11 #[.slice (some a) m c1] W fun e w' => e = .returned (.bool true) ∧ Below wr.heap.size wr w' from fun W hW =>
              (stmtsOk (L.take m) _ _ _ w1.heap.size W (sT W hW) (by have := hW.size; omega)).mono fun e w' ⟨he, hb⟩ => ⟨by rw [he, hT], hW.trans (hb.mono hW.size)⟩)
            have HM1 := Lib.hid (show ∀ W, Below wr.heap.size wr W → Calls Try.prog 12 #[.slice (some a) m c1] W fun e w' => e = .returned (.int .i64 ((L.take m).size : Int)) ∧ Below wr.heap.size wr w' from fun W hW =>
              (stmtsMany (L.take m) _ _ _ w1.heap.size W (sT W hW) (by have := hW.size; omega)).mono fun e w' ⟨he, hb⟩ => ⟨by rw [he, show manyI (L.take m) = (L.take m).size from if_pos hT], hW.trans (hb.mono hW.size)⟩)
            have HM2 := Lib.hid (show ∀ W, Below wr.heap.size wr W → Calls Try.prog 12 #[.slice (some (a.add (m * 6))) 1 (c1 - m)] W fun e w' => e = .returned (.int .i64 ((L.drop m).size : Int)) ∧ Below wr.heap.size wr w' from fun W hW =>
              (stmtsMany (L.drop m) _ _ _ w1.heap.size W (sD W hW) (by have := hW.size; omega)).mono fun e w' ⟨he, hb⟩ => ⟨by rw [he, show manyI (L.drop m) = (L.drop m).size from if_pos hD], hW.trans (hb.mono hW.size)⟩)
            generalize (L.take m).size = zT at *
            generalize (L.drop m).size = zD at *
            generalize hzL : L.size = zL at *
            clear hzL sT sD hT hD t6 HOK lL
            rw [hm]
            have hm14 : m + 1 ≤ zL := by omega
            have hmc : m + 1 ≤ c1 := by omega
            have g1 : decide (((m + 1 : Nat) : Int) ≤ (zL : Int)) = true := decide_eq_true (by omega)
            have g2 : decide ((m : Int) + 1 ≤ (zL : Int)) = true := decide_eq_true (by omega)
            have g3 : decide ((zL : Int) ≤ 14) = true := decide_eq_true (by omega)
            have g4 : (((m + 1 : Nat) : Int) == 0) = false := by rw [beq_eq_false_iff_ne]; omega
            have g6 : IntKind.i64.wrap (((m + 1 : Nat) : Int) - 1) = (m : Int) := by rw [show ((m + 1 : Nat) : Int) - 1 = (m : Int) by omega]; exact wrapI _ (by omega) (by omega)
            have g7 : IntKind.i64.wrap ((m : Int) + 1 - 1) = (m : Int) := by rw [show (m : Int) + 1 - 1 = (m : Int) by omega]; exact wrapI _ (by omega) (by omega)
            have g8 : (0 : Int) ≤ (m : Int) := by omega
            have g9 : (m : Int) ≤ (c1 : Int) := by omega
            have g10 : (m : Int) ≤ (m : Int) + 1 := by omega
            have g11 : IntKind.i64.wrap ((zT : Int) + (zD : Int)) = (zL : Int) := by rw [show (zT : Int) + (zD : Int) = (zL : Int) by omega]; exact wrapI _ (by omega) (by omega)
            have g12 : IntKind.i64.wrap (m : Int) = (m : Int) := wrapI _ (by omega) (by omega)
            have g5 : ((m : Int) + 1 == 0) = false := by rw [beq_eq_false_iff_ne]; omega
            clear hk0 hll hle hm
            go_wp2_with fail
            go_region_held3 (fun w' => Below wr.heap.size wr w') (first | assumption | exact (Below.refl _ _).drew)
              (first
                | (go_at_call 11; refine (HO1.out _ (by assumption)).mono ?_; rintro e wA ⟨rfl, bA⟩)
                | (go_at_call_of 12 (Value.slice (some a) m c1); refine (HM1.out _ (by assumption)).mono ?_; rintro e wB ⟨rfl, bB⟩)
                | (go_at_call 12; refine (HM2.out _ (by assumption)).mono ?_; rintro e wC ⟨rfl, bC⟩))
            all_goals (try go_wp2)
            all_goals go_ret
            all_goals exact ⟨by simp, b6.trans (Below.mono (by assumption) b6.size)⟩
end Go.Proofs.Ytlmgbpbiljnohaa
