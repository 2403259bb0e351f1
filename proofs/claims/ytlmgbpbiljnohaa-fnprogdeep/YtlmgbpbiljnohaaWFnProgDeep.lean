/- The walk of laws.FnProgDeep. -/
import Derived.Test.YtlmgbpbiljnohaaDrawStOk
import Derived.Test.YtlmgbpbiljnohaaStmtOkSpec
import Derived.Test.YtlmgbpbiljnohaaOkMore
namespace Go.Proofs.Ytlmgbpbiljnohaa
open Go.ChangeShapes Go.WideShapes Go.ChangeAt Go.RowKit

set_option maxRecDepth 100000 in
set_option maxHeartbeats 2000000 in
theorem wFnProgDeep (A : Option Addr) (n c : Nat) (w : World) (h : Bytes w A n) (hn : n ≤ c) (hc : c ≤ maxLen) :
    Calls Try.prog 8 #[.slice A n c] w fun e w' => e = .returned (.bool true) ∧ Below w.heap.size w w' := by
  by_cases hl : 1048576 < n
  · go_enter Try.func8, Try.ntmps8
    go_wp2
    go_ret
    exact ⟨rfl, Below.refl _ _⟩
  · go_enter Try.func8, Try.ntmps8
    go_wp2_with fail
    refine (drawStmtOk A n c _ h hn hc).mono ?_
    rintro e w1 ⟨k, x, y, v, d, r, B, E, AB, cB, AE, cE, rfl, sB1, sE1, hz, d0, d1, r0, r1, b1⟩
    have row1 := Lib.hid (new_row w1 #[.int .i64 k, .int .i64 x, .int .i64 y, .int .i64 v, .slice AB B.len cB, .slice AE E.len cE] 29)
    have hb1 : Below w1.heap.size w1 (w1.alloc (.cells #[.int .i64 k, .int .i64 x, .int .i64 y, .int .i64 v, .slice AB B.len cB, .slice AE E.len cE] 29)) := (Below.refl _ _).alloc (Nat.le_refl _) _
    have tB1 : Sl w1 w1.heap.size B AB B.len cB := sB1.sl fun _ h => h.2
    have tE1 : Sl w1 w1.heap.size E AE E.len cE := sE1.sl fun _ h => h.2
    have hs1 : (w1.alloc (.cells #[.int .i64 k, .int .i64 x, .int .i64 y, .int .i64 v, .slice AB B.len cB, .slice AE E.len cE] 29)).heap.size = w1.heap.size + 1 := by simp
    have z1 := b1.size
    clear sB1 sE1 h
    go_wp2_with fail
    refine (stmtOk k x y v d r B E AB AE cB cE w1.heap.size _ (tB1.below hb1) (tE1.below hb1) (by rw [hs1]; omega)).mono ?_
    rintro e w2 ⟨rfl, hb2⟩
    rw [hs1] at hb2
    have row2 := Lib.hid (show w2.heap[w1.heap.size]? = _ from (hb2.block _ (by omega)).trans row1.out)
    have b12 := hb1.trans (hb2.mono (by omega))
    have tB2 := tB1.below b12
    have tE2 := tE1.below b12
    have z2 : w1.heap.size + 1 ≤ w2.heap.size := by have := hb2.size; rw [hs1] at this; exact this
    have b2 := b1.trans (b12.mono z1)
    obtain ⟨p0, p1, p2, p3, p4, p5⟩ := cells6 row2.out
    clear hb2 row1 hb1 tB1 tE1 hs1 b12 b1
    cases hok : (inB d r && okS k x y v B E d r)
    · have HOK := Lib.hid hok
      clear hok
      go_wp2_with fail
      refine (specStmtOk k x y v d r B E AB AE cB cE w1.heap.size _ tB2 tE2 (by omega)).mono ?_
      rintro e w3 ⟨rfl, hb3⟩
      rw [HOK.out]
      have z3 := hb3.size
      have tB3 := tB2.below (hb3.mono (by omega))
      have tE3 := tE2.below (hb3.mono (by omega))
      obtain ⟨q0, q1, q2, q3, q4, q5⟩ := cells6 (show w3.heap[w1.heap.size]? = _ from (hb3.block _ (by omega)).trans row2.out)
      clear p0 p1 p2 p3 p4 p5 tB2 tE2
      go_wp2_with fail
      refine (specStmtOk k x y v d r B E AB AE cB cE w1.heap.size _ tB3 tE3 (by omega)).mono ?_
      rintro e w4 ⟨rfl, hb4⟩
      rw [HOK.out]
      go_wp2_with fail
      go_ret
      exact ⟨rfl, (b2.trans (hb3.mono (by omega))).trans (hb4.mono (by omega))⟩
    · have HOK := Lib.hid hok
      rw [Bool.and_eq_true] at hok
      have hin := inR_in hok.1 hok.2
      obtain ⟨hh, hB, hE⟩ := okS_parts hok.2
      have hd1 := headB_one hh
      have HB := Lib.hid (show ∀ (i : Nat) (K X Y V : Int) (B' E' R' : SL), B.drop i = .cons K X Y V B' E' R' → (inB (d - 1) (inR k x r) && okS K X Y V B' E' (d - 1) (inR k x r)) = true from fun i K X Y V B' E' R' hd => by rw [hin, okL_at hB hd]; rfl)
      have HE := Lib.hid (show ∀ (i : Nat) (K X Y V : Int) (B' E' R' : SL), E.drop i = .cons K X Y V B' E' R' → (inB (d - 1) (inR k x r) && okS K X Y V B' E' (d - 1) (inR k x r)) = true from fun i K X Y V B' E' R' hd => by rw [hin, okL_at hE hd]; rfl)
      clear hok hin hh hB hE
      go_wp2_with fail
      refine (specStmtOk k x y v d r B E AB AE cB cE w1.heap.size _ tB2 tE2 (by omega)).mono ?_
      rintro e w3 ⟨rfl, hb3⟩
      rw [HOK.out]
      have z3 := hb3.size
      have tB3 := tB2.below (hb3.mono (by omega))
      have tE3 := tE2.below (hb3.mono (by omega))
      have b3 := b2.trans (hb3.mono (by omega))
      have row3 := Lib.hid (show w3.heap[w1.heap.size]? = _ from (hb3.block _ (by omega)).trans row2.out)
      obtain ⟨q0, q1, q2, q3, q4, q5⟩ := cells6 row3.out
      clear p0 p1 p2 p3 p4 p5 tB2 tE2 row2 hb3 b2 HOK
      have hBm : B.len ≤ 9223372036854775807 := by have := tB3.le; have := tB3.top; unfold maxLen at this; omega
      have hEm : E.len ≤ 9223372036854775807 := by have := tE3.le; have := tE3.top; unfold maxLen at this; omega
      by_cases hk : k = 8
      focus
        have HB' := Lib.hid (by have := HB.out; rw [show inR k x r = x from if_pos hk] at this; exact this)
        have HE' := Lib.hid (by have := HE.out; rw [show inR k x r = x from if_pos hk] at this; exact this)
        clear HB HE
        go_wp2_with fail
      rotate_left
      focus
        have HB' := Lib.hid (by have := HB.out; rw [show inR k x r = r from if_neg hk] at this; exact this)
        have HE' := Lib.hid (by have := HE.out; rw [show inR k x r = r from if_neg hk] at this; exact this)
        have hk' : (k == 8) = false := by simpa using hk
        clear HB HE hk
        go_wp2_with fail
      all_goals
        go_loopw [8] (fun i wr => ∃ j : Nat, j ≤ B.len ∧ i = .int .i64 j ∧ Below w3.heap.size w3 wr) (fun i _ => B.len - (intOf i).toNat)
        case atStart => exact ⟨0, Nat.zero_le _, rfl, Below.refl _ _⟩
        case round =>
          obtain ⟨j, hj, rfl, hb⟩ := hrel
          have hzr := hb.size
          obtain ⟨s0, s1, s2, s3, s4, s5⟩ := cells6 (show wr.heap[w1.heap.size]? = _ from (hb.block _ (by omega)).trans row3.out)
          have tBr := tB3.below (hb.mono (by omega))
          by_cases hlt : j < B.len
          · obtain ⟨K, X, Y, V, B', E', R', hdr⟩ := SL.drop_cons (L := B) (i := j) hlt
            have HOK := Lib.hid (HB'.out j K X Y V B' E' R' hdr)
            obtain ⟨a, rfl⟩ := tBr.some (by omega)
            have hat := (tBr.at_ a rfl).drop j
            rw [hdr] at hat
            clear hdr
            obtain ⟨_, c0, c1, c2, c3, A2, cc2, A3, cc3, c4, c5, sB', sE', _⟩ := hat.first
            clear hat
            go_wp2_with fail
            refine (stmtOk K X Y V (d - 1) _ B' E' A2 A3 cc2 cc3 w1.heap.size _ sB' sE' (by omega)).mono ?_
            rintro e w4 ⟨rfl, hb4⟩
            rw [HOK.out]
            go_wp2_with fail
            go_roundw
            case rel => exact ⟨j + 1, by omega, by go_num, hb.trans (hb4.mono hzr)⟩
            case measure => simp [intOf]; omega
          · have b4 := b3.trans (hb.mono (by omega))
            have row4 := Lib.hid (show wr.heap[w1.heap.size]? = _ from (hb.block _ (by omega)).trans row3.out)
            have tE4 := tE3.below (hb.mono (by omega))
            clear tB3 tE3 tBr row3 hb b3
            go_wp2_with fail
            have hzv := b4.size
            generalize hwv : wr = wv at *
            clear hwv
            go_loopw [9] (fun i ws => ∃ j : Nat, j ≤ E.len ∧ i = .int .i64 j ∧ Below wv.heap.size wv ws) (fun i _ => E.len - (intOf i).toNat)
            case atStart => exact ⟨0, Nat.zero_le _, rfl, Below.refl _ _⟩
            case round =>
              obtain ⟨m, hm, rfl, hb⟩ := hrel
              have hzs := hb.size
              obtain ⟨s0, s1, s2, s3, s4, s5⟩ := cells6 (show wr.heap[w1.heap.size]? = _ from (hb.block _ (by omega)).trans row4.out)
              have tEr := tE4.below (hb.mono (by omega))
              by_cases hlt : m < E.len
              · obtain ⟨K, X, Y, V, B', E', R', hdr⟩ := SL.drop_cons (L := E) (i := m) hlt
                have HOK := Lib.hid (HE'.out m K X Y V B' E' R' hdr)
                obtain ⟨a, rfl⟩ := tEr.some (by omega)
                have hat := (tEr.at_ a rfl).drop m
                rw [hdr] at hat
                clear hdr
                obtain ⟨_, c0, c1, c2, c3, A2, cc2, A3, cc3, c4, c5, sB', sE', _⟩ := hat.first
                clear hat
                go_wp2_with fail
                refine (stmtOk K X Y V (d - 1) _ B' E' A2 A3 cc2 cc3 w1.heap.size _ sB' sE' (by omega)).mono ?_
                rintro e w4 ⟨rfl, hb4⟩
                rw [HOK.out]
                go_wp2_with fail
                go_roundw
                case rel => exact ⟨m + 1, by omega, by go_num, hb.trans (hb4.mono hzs)⟩
                case measure => simp [intOf]; omega
              · go_wp2_with fail
                go_ret
                exact ⟨by simp, b4.trans (hb.mono (by omega))⟩
end Go.Proofs.Ytlmgbpbiljnohaa
