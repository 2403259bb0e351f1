/- StmtsOk of the program and of the model; StmtsMany. -/
import Derived.Test.YtnfnjhbaaefbpaaGreatDoorStmtOk
import Derived.Test.YtnfnjhbaaefbpaaGreatDoorStmtsSpec
import Derived.Test.YtnfnjhbaaefbpaaGreatDoorCount
namespace Go.Proofs.YtnfnjhbaaefbpaaGreatDoor
open Go.ChangeShapes Go.WideShapes Go.ChangeAt Go.RowKit

/-- At a round's head all up to k are right. -/
def ProcRel (L : SL) (w : World) (i : Value) (wr : World) : Prop :=
  ∃ k : Nat, k ≤ L.len ∧ i = .int .i64 k ∧ okL L 3 (-1) = okL (L.drop k) 3 (-1) ∧ Below w.heap.size w wr

theorem stmtsOk (L : SL) (A : Option Addr) (n c N : Nat) (w : World) (hs : Sl w N L A n c) (hN : N ≤ w.heap.size) :
    Calls Tryz.prog 15 #[.slice A n c] w fun e w' => e = .returned (.bool (okP L)) ∧ Below w.heap.size w w' := by
  have hlen : n ≤ L.len := Nat.le_of_eq hs.len
  have hlen' : L.len ≤ n := Nat.le_of_eq hs.len.symm
  have hmax : n ≤ 9223372036854775807 := by have := hs.le; have := hs.top; unfold maxLen at this; omega
  by_cases h14 : L.size ≤ 14
  · have HP := Lib.hid (show okP L = okL L 3 (-1) from by rw [okP, decide_eq_true h14, Bool.true_and])
    have HC := Lib.hid (show cntI L.size = (L.size : Int) from if_pos h14)
    go_enter Tryz.func15, Tryz.ntmps15
    go_wp2_with fail
    refine (countStmts L A n c N w hs hN).mono ?_
    rintro e w1 ⟨rfl, hb1⟩
    rw [HC.out]
    have hz1 := hb1.size
    go_wp2_with fail
    go_loopw [10] (fun i wr => ProcRel L w i wr) (fun i _ => n - (intOf i).toNat)
    case atStart => exact ⟨0, Nat.zero_le _, rfl, by rw [L.drop_zero], hb1⟩
    case round =>
      obtain ⟨k, hk, rfl, hz, hb⟩ := hrel
      have HZ := Lib.hid hz
      clear hz
      by_cases hlt : k < n
      · obtain ⟨K, x, y, v, B, E, R, hd⟩ := SL.drop_cons (L := L) (i := k) (by omega)
        have HD := Lib.hid hd
        clear hd
        obtain ⟨a, rfl⟩ := hs.some (by omega)
        have hat := ((hs.at_ a rfl).below (hb.mono hN)).drop k
        rw [HD.out] at hat
        obtain ⟨_, c0, c1, c2, c3, AB, cB, AE, cE, c4, c5, sB, sE, _⟩ := hat.first
        have hsz := hb.size
        have ba : Below wr.heap.size wr (wr.alloc (.cells #[.int .i64 K, .int .i64 x, .int .i64 y, .int .i64 v, .slice AB B.len cB, .slice AE E.len cE] 36)) := (Below.refl _ _).alloc (Nat.le_refl _) _
        have hstep : okL L 3 (-1) = (okS K x y v B E 3 (-1) && okL R 3 (-1)) := by rw [HZ.out, HD.out, okL_cons]
        have hin : (inB 3 (-1) && okS K x y v B E 3 (-1)) = okS K x y v B E 3 (-1) := by rw [show inB 3 (-1) = true from rfl, Bool.true_and]
        cases hS : okS K x y v B E 3 (-1)
        · have H := Lib.hid (show okP L = false from by rw [HP.out, hstep, hS]; rfl)
          have HI := Lib.hid (hin.trans hS)
          clear hS hstep hin
          go_wp2_with fail
          refine (stmtOk K x y v 3 (-1) B E AB AE cB cE N _ (sB.below (ba.mono (by omega))) (sE.below (ba.mono (by omega))) (by simp; omega)).mono ?_
          rintro e w2 ⟨rfl, hb2⟩
          rw [HI.out]
          go_wp2_with fail
          go_ret
          exact ⟨by rw [H.out]; rfl, hb.trans ((ba.trans (hb2.mono (by simp))).mono hsz)⟩
        · have H := Lib.hid (show okL L 3 (-1) = okL R 3 (-1) from by rw [hstep, hS]; rfl)
          have HI := Lib.hid (hin.trans hS)
          clear hS hstep hin
          go_wp2_with fail
          refine (stmtOk K x y v 3 (-1) B E AB AE cB cE N _ (sB.below (ba.mono (by omega))) (sE.below (ba.mono (by omega))) (by simp; omega)).mono ?_
          rintro e w2 ⟨rfl, hb2⟩
          rw [HI.out]
          go_wp2_with fail
          go_roundw
          case rel => exact ⟨k + 1, by omega, by go_num, by rw [SL.drop_succ HD.out]; exact H.out, hb.trans ((ba.trans (hb2.mono (by simp))).mono hsz)⟩
          case measure => simp [intOf]; omega
      · have hend := SL.drop_end (L := L) (i := k) (by omega)
        have H2 := Lib.hid (show okP L = true from by rw [HP.out, HZ.out, hend]; rfl)
        clear hend
        go_wp2_with fail
        go_ret
        exact ⟨by rw [H2.out]; rfl, hb⟩
  · have HP := Lib.hid (show okP L = false from by rw [okP, decide_eq_false h14, Bool.false_and])
    have HC := Lib.hid (show cntI L.size = 15 from if_neg h14)
    go_enter Tryz.func15, Tryz.ntmps15
    go_wp2_with fail
    refine (countStmts L A n c N w hs hN).mono ?_
    rintro e w1 ⟨rfl, hb1⟩
    rw [HC.out]
    go_wp2_with fail
    go_ret
    exact ⟨by rw [HP.out]; rfl, hb1⟩
end Go.Proofs.YtnfnjhbaaefbpaaGreatDoor
