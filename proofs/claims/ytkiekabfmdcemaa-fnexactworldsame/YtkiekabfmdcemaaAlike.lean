/- The model's l2Alike: whether two lists are one, however deep. -/
import Derived.Test.YtkiekabfmdcemaaSame
namespace Go.Proofs.Ytkiekabfmdcemaa
open Go.ChangeShapes Go.WideShapes Go.ChangeAt Go.RowKit

/-- What the model's l2Alike answers of two lists. -/
def SpecAlike (L L' : SL) : Prop := ∀ (A A' : Option Addr) (n c n' c' N N' : Nat) (w : World), Sl w N L A n c → Sl w N' L' A' n' c' → N ≤ w.heap.size → N' ≤ w.heap.size →
  Calls Try.prog 69 #[.slice A n c, .slice A' n' c'] w fun e w' => e = .returned (.bool (sameL L L')) ∧ Below w.heap.size w w'

set_option maxRecDepth 100000 in
set_option maxHeartbeats 4000000 in
theorem specAlike_any (m : Nat) : ∀ (L L' : SL), L.size < m → SpecAlike L L' := by
  induction m with
  | zero => intro L L' hL; omega
  | succ m ih =>
    intro L L' hL A A' n c n' c' N N' w hs ht hN hN'
    have IH := Lib.hid ih
    clear ih
    have hlen : n ≤ L.len := Nat.le_of_eq hs.len
    have hlen' : L.len ≤ n := Nat.le_of_eq hs.len.symm
    have hmax : n ≤ 9223372036854775807 := by have := hs.le; have := hs.top; unfold maxLen at this; omega
    by_cases hll : n = n'
    · subst hll
      have hLL : L.len = L'.len := hs.len.symm.trans ht.len
      have HLL := Lib.hid hLL
      clear hLL
      go_enter Try.func69, Try.ntmps69
      go_wp2_with fail
      go_loopw [5] (fun i wr => SameRel L L' w i wr) (fun i _ => n - (intOf i).toNat)
      case atStart => exact ⟨0, Nat.zero_le _, rfl, by rw [SL.drop_zero, SL.drop_zero], Below.refl _ _⟩
      case round =>
        obtain ⟨k, hk, rfl, hz, hb⟩ := hrel
        have HZ := Lib.hid hz
        clear hz
        by_cases hlt : k < n
        · obtain ⟨K, x, y, v, B, E, R, K', x', y', v', B', E', R', hd, hd'⟩ := drop_cons2 (L := L) (L' := L') (i := k) (by omega) HLL.out
          have HD := Lib.hid hd
          have HD' := Lib.hid hd'
          obtain ⟨s1, s2⟩ := SL.drop_size hd
          clear hd hd'
          obtain ⟨a, rfl⟩ := hs.some (by omega)
          obtain ⟨b, rfl⟩ := ht.some (by omega)
          have hat := ((hs.at_ a rfl).below (hb.mono hN)).drop k
          have hbt := ((ht.at_ b rfl).below (hb.mono hN')).drop k
          rw [HD.out] at hat
          rw [HD'.out] at hbt
          obtain ⟨_, c0, c1, c2, c3, AB, cB, AE, cE, c4, c5, sB, sE, _⟩ := hat.first
          have hsz := hb.size
          have ba : Below wr.heap.size wr (wr.alloc (.cells #[.int .i64 K, .int .i64 x, .int .i64 y, .int .i64 v, .slice AB B.len cB, .slice AE E.len cE] 89)) := (Below.refl _ _).alloc (Nat.le_refl _) _
          obtain ⟨_, f0, f1, f2, f3, FB, fB, FE, fE, f4, f5, tB, tE, _⟩ := (hbt.below (ba.mono (by omega))).first
          have hstep : sameL L L' = (sameS K x y v K' x' y' v' B E B' E' && sameL R R') := by rw [HZ.out, HD.out, HD'.out, sameL_cons]
          have hcB := IH.out B B' (by omega)
          have hcE := IH.out E E' (by omega)
          have HCB := Lib.hid hcB
          have HCE := Lib.hid hcE
          clear hcB hcE
          have bb : Below wr.heap.size wr ((wr.alloc (.cells #[.int .i64 K, .int .i64 x, .int .i64 y, .int .i64 v, .slice AB B.len cB, .slice AE E.len cE] 89)).alloc (.cells #[.int .i64 K', .int .i64 x', .int .i64 y', .int .i64 v', .slice FB B'.len fB, .slice FE E'.len fE] 89)) := ba.trans ((Below.refl _ _).alloc (by simp) _)
          have tB' : Sl ((wr.alloc (.cells #[.int .i64 K, .int .i64 x, .int .i64 y, .int .i64 v, .slice AB B.len cB, .slice AE E.len cE] 89)).alloc (.cells #[.int .i64 K', .int .i64 x', .int .i64 y', .int .i64 v', .slice FB B'.len fB, .slice FE E'.len fE] 89)) N' B' FB B'.len fB := tB.below ((Below.refl _ _).alloc (by simp; omega) _)
          have tE' : Sl ((wr.alloc (.cells #[.int .i64 K, .int .i64 x, .int .i64 y, .int .i64 v, .slice AB B.len cB, .slice AE E.len cE] 89)).alloc (.cells #[.int .i64 K', .int .i64 x', .int .i64 y', .int .i64 v', .slice FB B'.len fB, .slice FE E'.len fE] 89)) N' E' FE E'.len fE := tE.below ((Below.refl _ _).alloc (by simp; omega) _)
          have sB' := sB.below (bb.mono (by omega))
          have sE' := sE.below (bb.mono (by omega))
          have SB := Lib.hid sB'
          have SE := Lib.hid sE'
          have TB := Lib.hid tB'
          have TE := Lib.hid tE'
          have BB := Lib.hid bb
          clear ba bb tB tE tB' tE' sB' sE'
          by_cases hF : K = K' ∧ x = x' ∧ y = y' ∧ v = v'
          · obtain ⟨rfl, rfl, rfl, rfl⟩ := hF
            have hst : sameL L L' = (sameL B B' && sameL E E' && sameL R R') := by rw [hstep, sameS]; simp
            clear hstep
            cases hbB : sameL B B'
            · have H := Lib.hid (show sameL L L' = false from by rw [hst, hbB]; rfl)
              have H1 := Lib.hid hbB
              clear hst hbB
              go_wp2_with fail
              refine (HCB.out AB FB B.len cB B'.len fB N N' _ SB.out TB.out (by simp; omega) (by simp; omega)).mono ?_
              rintro e w1 ⟨rfl, hb1⟩
              rw [H1.out]
              go_wp2_with fail
              go_ret
              exact ⟨by rw [H.out]; rfl, hb.trans ((BB.out.trans (hb1.mono (by simp; omega))).mono hsz)⟩
            · have hst' : sameL L L' = (sameL E E' && sameL R R') := by rw [hst, hbB]; rfl
              have H1 := Lib.hid hbB
              clear hst hbB
              cases hbE : sameL E E'
              · have H := Lib.hid (show sameL L L' = false from by rw [hst', hbE]; rfl)
                have H2 := Lib.hid hbE
                clear hst' hbE
                go_wp2_with fail
                refine (HCB.out AB FB B.len cB B'.len fB N N' _ SB.out TB.out (by simp; omega) (by simp; omega)).mono ?_
                rintro e w1 ⟨rfl, hb1⟩
                rw [H1.out]
                obtain ⟨q1, q2⟩ := two_cells hb1
                have b1 : Below wr.heap.size wr w1 := BB.out.trans (hb1.mono (by simp; omega))
                have z1 := b1.size
                have sE1 := SE.out.below (hb1.mono (by simp; omega))
                have tE1 := TE.out.below (hb1.mono (by simp; omega))
                clear hb1
                go_wp2_with fail
                refine (HCE.out AE FE E.len cE E'.len fE N N' w1 sE1 tE1 (by omega) (by omega)).mono ?_
                rintro e w2 ⟨rfl, hb2⟩
                rw [H2.out]
                go_wp2_with fail
                go_ret
                exact ⟨by rw [H.out]; rfl, hb.trans ((b1.trans (hb2.mono z1)).mono hsz)⟩
              · have H := Lib.hid (show sameL L L' = sameL R R' from by rw [hst', hbE]; rfl)
                have H2 := Lib.hid hbE
                clear hst' hbE
                go_wp2_with fail
                refine (HCB.out AB FB B.len cB B'.len fB N N' _ SB.out TB.out (by simp; omega) (by simp; omega)).mono ?_
                rintro e w1 ⟨rfl, hb1⟩
                rw [H1.out]
                obtain ⟨q1, q2⟩ := two_cells hb1
                have b1 : Below wr.heap.size wr w1 := BB.out.trans (hb1.mono (by simp; omega))
                have z1 := b1.size
                have sE1 := SE.out.below (hb1.mono (by simp; omega))
                have tE1 := TE.out.below (hb1.mono (by simp; omega))
                clear hb1
                go_wp2_with fail
                refine (HCE.out AE FE E.len cE E'.len fE N N' w1 sE1 tE1 (by omega) (by omega)).mono ?_
                rintro e w2 ⟨rfl, hb2⟩
                rw [H2.out]
                go_wp2_with fail
                go_roundw
                case rel => exact ⟨k + 1, by omega, by go_num, by rw [SL.drop_succ HD.out, SL.drop_succ HD'.out]; exact H.out, hb.trans ((b1.trans (hb2.mono z1)).mono hsz)⟩
                case measure => simp [intOf]; omega
          · have H := Lib.hid (show sameL L L' = false from by
              rw [hstep, sameS, show (K == K' && x == x' && y == y' && v == v') = false from by
                rw [Bool.eq_false_iff]; intro h; apply hF; simpa [Bool.and_eq_true, and_assoc] using h, Bool.false_and, Bool.false_and, Bool.false_and])
            clear hstep
            go_wp2_with fail
            all_goals
              go_ret
              exact ⟨by rw [H.out]; rfl, hb.trans ((((Below.refl _ _).alloc (Nat.le_refl _) _).alloc (by simp) _).mono hsz)⟩
        · have hend : sameL L L' = true := by rw [HZ.out, SL.drop_end (by omega), SL.drop_end (by have := HLL.out; omega)]; rfl
          have H2 := Lib.hid hend
          clear hend
          go_wp2_with fail
          go_ret
          exact ⟨by rw [H2.out]; rfl, hb⟩
    · have H := Lib.hid (sameL_len (L := L) (L' := L') (by rw [← hs.len, ← ht.len]; exact hll))
      have hne : ((n : Int) != n') = true := by rw [bne_iff_ne]; omega
      go_enter Try.func69, Try.ntmps69
      go_wp2_with fail
      go_ret
      exact ⟨by rw [H.out]; rfl, Below.refl _ _⟩

theorem specAlike (L L' : SL) : SpecAlike L L' := specAlike_any (L.size + 1) L L' (by omega)
end Go.Proofs.Ytkiekabfmdcemaa
