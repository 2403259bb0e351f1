/- StmtsOk of the program and of the model; StmtsMany. -/
import Derived.Test.YtlmgbpbiljnohaaGreatDoorStmtOk
import Derived.Test.YtlmgbpbiljnohaaGreatDoorOkSpec
import Derived.Test.YtlmgbpbiljnohaaGreatDoorCount
import Derived.Test.YtlmgbpbiljnohaaGreatDoorMany
namespace Go.Proofs.YtlmgbpbiljnohaaGreatDoor
open Go.ChangeShapes Go.WideShapes Go.ChangeAt Go.RowKit

/-- Whether a list is a process. -/
def okP (L : SL) : Bool := decide (L.size ≤ 14) && okL L 3 (-1)

theorem below_drewN {B : Nat} {a w : World} (h : Below B a w) (n : Nat) : Below B a (w.drewN n) := ⟨h.os, h.tape, h.output, h.size, h.block⟩

theorem specStmtsOk (L : SL) (hL : L.size ≤ 1048576) (A : Option Addr) (n c N : Nat) (w : World) (hs : Sl w N L A n c) (hN : N ≤ w.heap.size) :
    Calls Tryz.prog 8 #[.slice A n c] w fun e w' => e = .returned (.bool (okP L)) ∧ Below w.heap.size w w' := by
  cases hb : okL L 3 (-1)
  · have H := Lib.hid (show okP L = false from by rw [okP, hb, Bool.and_false])
    have HB := Lib.hid hb
    clear hb
    go_enter Tryz.func8, Tryz.ntmps8
    go_wp2_with fail
    refine ((specList L 3 (-1) (by omega) (by omega)).at HB.out hs hN).mono ?_
    rintro e w1 ⟨rfl, hb1⟩
    go_wp2_with fail
    go_ret
    exact ⟨by rw [H.out]; rfl, hb1⟩
  · have H := Lib.hid (show okP L = decide (L.size ≤ 14) from by rw [okP, hb, Bool.and_true])
    have HM := Lib.hid (show manyN L (3 : Int).toNat = L.size from manyN_ok (by omega) hb)
    have HB := Lib.hid hb
    clear hb
    go_enter Tryz.func8, Tryz.ntmps8
    go_wp2_with fail
    refine ((specList L 3 (-1) (by omega) (by omega)).at HB.out hs hN).mono ?_
    rintro e w1 ⟨rfl, hb1⟩
    go_wp2_with fail
    refine (specMany L hL 3 (by omega) (by omega) A n c N w1 (hs.below (hb1.mono hN))).mono ?_
    rintro e w2 ⟨rfl, j, rfl⟩
    rw [HM.out]
    go_wp2_with fail
    go_ret
    exact ⟨retB (by rw [H.out, decide_eq_decide]; omega), below_drewN hb1 j⟩

/-- At a round's head all up to k are right. -/
def ProcRel (L : SL) (w : World) (i : Value) (wr : World) : Prop :=
  ∃ k : Nat, k ≤ L.len ∧ i = .int .i64 k ∧ okL L 3 (-1) = okL (L.drop k) 3 (-1) ∧ Below w.heap.size w wr

theorem stmtsOk (L : SL) (A : Option Addr) (n c N : Nat) (w : World) (hs : Sl w N L A n c) (hN : N ≤ w.heap.size) :
    Calls Tryz.prog 10 #[.slice A n c] w fun e w' => e = .returned (.bool (okP L)) ∧ Below w.heap.size w w' := by
  have hlen : n ≤ L.len := Nat.le_of_eq hs.len
  have hlen' : L.len ≤ n := Nat.le_of_eq hs.len.symm
  have hmax : n ≤ 9223372036854775807 := by have := hs.le; have := hs.top; unfold maxLen at this; omega
  by_cases h14 : L.size ≤ 14
  · have HP := Lib.hid (show okP L = okL L 3 (-1) from by rw [okP, decide_eq_true h14, Bool.true_and])
    have HC := Lib.hid (show cntI L.size = (L.size : Int) from if_pos h14)
    go_enter Tryz.func10, Tryz.ntmps10
    go_wp2_with fail
    refine (countStmts L A n c N w hs hN).mono ?_
    rintro e w1 ⟨rfl, hb1⟩
    rw [HC.out]
    have hz1 := hb1.size
    go_wp2_with fail
    go_loopw [10] (fun i wr => ProcRel L w i wr) (fun i _ => n - (intOf i).toNat)
    case atStart => exact ⟨0, Nat.zero_le _, rfl, by rw [L.drop_zero], hb1⟩
    case round =>
      obtain ⟨k, hk, rfl, hz, hb⟩ := hrel
      have HZ := Lib.hid hz
      clear hz
      by_cases hlt : k < n
      · obtain ⟨K, x, y, v, B, E, R, hd⟩ := SL.drop_cons (L := L) (i := k) (by omega)
        have HD := Lib.hid hd
        clear hd
        obtain ⟨a, rfl⟩ := hs.some (by omega)
        have hat := ((hs.at_ a rfl).below (hb.mono hN)).drop k
        rw [HD.out] at hat
        obtain ⟨_, c0, c1, c2, c3, AB, cB, AE, cE, c4, c5, sB, sE, _⟩ := hat.first
        have hsz := hb.size
        have ba : Below wr.heap.size wr (wr.alloc (.cells #[.int .i64 K, .int .i64 x, .int .i64 y, .int .i64 v, .slice AB B.len cB, .slice AE E.len cE] 30)) := (Below.refl _ _).alloc (Nat.le_refl _) _
        have hstep : okL L 3 (-1) = (okS K x y v B E 3 (-1) && okL R 3 (-1)) := by rw [HZ.out, HD.out, okL_cons]
        have hin : (inB 3 (-1) && okS K x y v B E 3 (-1)) = okS K x y v B E 3 (-1) := by rw [show inB 3 (-1) = true from rfl, Bool.true_and]
        cases hS : okS K x y v B E 3 (-1)
        · have H := Lib.hid (show okP L = false from by rw [HP.out, hstep, hS]; rfl)
          have HI := Lib.hid (hin.trans hS)
          clear hS hstep hin
          go_wp2_with fail
          refine (stmtOk K x y v 3 (-1) B E AB AE cB cE N _ (sB.below (ba.mono (by omega))) (sE.below (ba.mono (by omega))) (by simp; omega)).mono ?_
          rintro e w2 ⟨rfl, hb2⟩
          rw [HI.out]
          go_wp2_with fail
          go_ret
          exact ⟨by rw [H.out]; rfl, hb.trans ((ba.trans (hb2.mono (by simp))).mono hsz)⟩
        · have H := Lib.hid (show okL L 3 (-1) = okL R 3 (-1) from by rw [hstep, hS]; rfl)
          have HI := Lib.hid (hin.trans hS)
          clear hS hstep hin
          go_wp2_with fail
          refine (stmtOk K x y v 3 (-1) B E AB AE cB cE N _ (sB.below (ba.mono (by omega))) (sE.below (ba.mono (by omega))) (by simp; omega)).mono ?_
          rintro e w2 ⟨rfl, hb2⟩
          rw [HI.out]
          go_wp2_with fail
          go_roundw
          case rel => exact ⟨k + 1, by omega, by go_num, by rw [SL.drop_succ HD.out]; exact H.out, hb.trans ((ba.trans (hb2.mono (by simp))).mono hsz)⟩
          case measure => simp [intOf]; omega
      · have hend := SL.drop_end (L := L) (i := k) (by omega)
        have H2 := Lib.hid (show okP L = true from by rw [HP.out, HZ.out, hend]; rfl)
        clear hend
        go_wp2_with fail
        go_ret
        exact ⟨by rw [H2.out]; rfl, hb⟩
  · have HP := Lib.hid (show okP L = false from by rw [okP, decide_eq_false h14, Bool.false_and])
    have HC := Lib.hid (show cntI L.size = 15 from if_neg h14)
    go_enter Tryz.func10, Tryz.ntmps10
    go_wp2_with fail
    refine (countStmts L A n c N w hs hN).mono ?_
    rintro e w1 ⟨rfl, hb1⟩
    rw [HC.out]
    go_wp2_with fail
    go_ret
    exact ⟨by rw [HP.out]; rfl, hb1⟩

theorem okP_size {L : SL} (h : okP L = true) : L.size ≤ 14 ∧ okL L 3 (-1) = true := by
  rw [okP, Bool.and_eq_true, decide_eq_true_eq] at h; exact h
end Go.Proofs.YtlmgbpbiljnohaaGreatDoor
