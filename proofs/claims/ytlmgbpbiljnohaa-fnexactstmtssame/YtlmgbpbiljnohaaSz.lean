/- The laws' count of what came in: szStmtS gives what is left, or -1 where there is more. -/
import Derived.Test.YtlmgbpbiljnohaaSl
namespace Go.Proofs.Ytlmgbpbiljnohaa
open Go.ChangeShapes Go.WideShapes Go.ChangeAt Go.RowKit

def szR (m : Nat) (left : Int) : Int := if (m : Int) ≤ left then left - m else -1

theorem szStmt_of (B E : SL) (hB : ∀ (A : Option Addr) (n c N : Nat) (w : World) (left : Int), Sl w N B A n c → N ≤ w.heap.size → 0 ≤ left → left ≤ 1048576 → Calls Try.prog 23 #[.slice A n c, .int .i64 left] w fun e w' => e = .returned (.int .i64 (szR B.size left)) ∧ Below w.heap.size w w')
    (hE : ∀ (A : Option Addr) (n c N : Nat) (w : World) (left : Int), Sl w N E A n c → N ≤ w.heap.size → 0 ≤ left → left ≤ 1048576 → Calls Try.prog 23 #[.slice A n c, .int .i64 left] w fun e w' => e = .returned (.int .i64 (szR E.size left)) ∧ Below w.heap.size w w')
    (k x y n : Int) (A A' : Option Addr) (c c' N : Nat) (w : World) (left : Int) (sB : Sl w N B A B.len c) (sE : Sl w N E A' E.len c') (hN : N ≤ w.heap.size) (h0 : 0 ≤ left) (h1 : left ≤ 1048576) :
    Calls Try.prog 44 #[.agg #[.int .i64 k, .int .i64 x, .int .i64 y, .int .i64 n, .slice A B.len c, .slice A' E.len c'], .int .i64 left] w fun e w' => e = .returned (.int .i64 (szR (B.size + E.size) left)) ∧ Below w.heap.size w w' := by
  have HB := Lib.hid hB
  have HE := Lib.hid hE
  clear hB hE
  have hb0 : Below w.heap.size w (w.alloc (.cells #[.int .i64 k, .int .i64 x, .int .i64 y, .int .i64 n, .slice A B.len c, .slice A' E.len c'] 62)) := (Below.refl _ _).alloc (Nat.le_refl _) _
  by_cases h2 : (B.size : Int) ≤ left
  · by_cases h3 : ((B.size + E.size : Nat) : Int) ≤ left
    · have e1 : szR B.size left = left - B.size := if_pos h2
      have e2 : szR E.size (left - B.size) = left - B.size - E.size := if_pos (by omega)
      have e3 : szR (B.size + E.size) left = left - B.size - E.size := by rw [szR, if_pos h3]; omega
      have H1 := Lib.hid e1; have H2 := Lib.hid e2; have H3 := Lib.hid e3
      clear e1 e2 e3
      have g1 : 0 ≤ left - (B.size : Int) := by omega
      have g2 : 0 ≤ left - (B.size : Int) - E.size := by omega
      go_enter Try.func44, Try.ntmps44
      go_wp2_with fail
      refine (HB.out A _ c N _ left (sB.below (hb0.mono hN)) (by simp; omega) h0 h1).mono ?_
      rintro e w1 ⟨rfl, hb1⟩
      rw [H1.out]
      have hb1' := hb0.trans (hb1.mono (by simp))
      have c5 : w1.cell? ⟨w.heap.size, 5, none⟩ = some (.slice A' E.len c') := by rw [cell_new hb1]; rfl
      have hz := hb1'.size
      go_wp2_with fail
      refine (HE.out A' _ c' N _ _ (sE.below (hb1'.mono hN)) (by omega) g1 (by omega)).mono ?_
      rintro e w2 ⟨rfl, hb2⟩
      rw [H2.out]
      go_wp2_with fail
      go_ret
      exact ⟨by rw [H3.out]; rfl, hb1'.trans (hb2.mono hz)⟩
    · have e1 : szR B.size left = left - B.size := if_pos h2
      have e2 : szR E.size (left - B.size) = -1 := if_neg (by omega)
      have e3 : szR (B.size + E.size) left = -1 := if_neg h3
      have H1 := Lib.hid e1; have H2 := Lib.hid e2; have H3 := Lib.hid e3
      clear e1 e2 e3
      have g1 : 0 ≤ left - (B.size : Int) := by omega
      go_enter Try.func44, Try.ntmps44
      go_wp2_with fail
      refine (HB.out A _ c N _ left (sB.below (hb0.mono hN)) (by simp; omega) h0 h1).mono ?_
      rintro e w1 ⟨rfl, hb1⟩
      rw [H1.out]
      have hb1' := hb0.trans (hb1.mono (by simp))
      have c5 : w1.cell? ⟨w.heap.size, 5, none⟩ = some (.slice A' E.len c') := by rw [cell_new hb1]; rfl
      have hz := hb1'.size
      go_wp2_with fail
      refine (HE.out A' _ c' N _ _ (sE.below (hb1'.mono hN)) (by omega) g1 (by omega)).mono ?_
      rintro e w2 ⟨rfl, hb2⟩
      rw [H2.out]
      go_wp2_with fail
      go_ret
      exact ⟨by rw [H3.out]; rfl, hb1'.trans (hb2.mono hz)⟩
  · have e1 : szR B.size left = -1 := if_neg h2
    have e3 : szR (B.size + E.size) left = -1 := if_neg (by omega)
    have H1 := Lib.hid e1; have H3 := Lib.hid e3
    clear e1 e3
    go_enter Try.func44, Try.ntmps44
    go_wp2_with fail
    refine (HB.out A _ c N _ left (sB.below (hb0.mono hN)) (by simp; omega) h0 h1).mono ?_
    rintro e w1 ⟨rfl, hb1⟩
    rw [H1.out]
    have hb1' := hb0.trans (hb1.mono (by simp))
    go_wp2_with fail
    go_ret
    exact ⟨by rw [H3.out]; rfl, hb1'⟩

/-- At a round's head: so many are counted, so much is left. -/
def SzRel (L : SL) (w : World) (left : Int) (l i : Value) (wr : World) : Prop :=
  ∃ (k : Nat) (z : Int), k ≤ L.len ∧ i = .int .i64 k ∧ l = .int .i64 z ∧ 0 ≤ z ∧ z ≤ 1048576 ∧ szR (L.drop k).inner z = szR L.size left ∧ Below w.heap.size w wr

theorem szR_step {b r : Nat} {z : Int} (_h : (b : Int) ≤ z) : szR (b + r) z = szR r (z - b) := by
  unfold szR; split <;> split <;> omega
theorem szR_stop {b r : Nat} {z : Int} (h : z < (b : Int)) : szR (b + r) z = -1 := if_neg (by omega)

theorem szStmtS_any (m : Nat) : ∀ (L : SL), L.size < m → ∀ (A : Option Addr) (n c N : Nat) (w : World) (left : Int), Sl w N L A n c → N ≤ w.heap.size → 0 ≤ left → left ≤ 1048576 → Calls Try.prog 23 #[.slice A n c, .int .i64 left] w fun e w' => e = .returned (.int .i64 (szR L.size left)) ∧ Below w.heap.size w w' := by
  induction m with
  | zero => intro L hL; omega
  | succ m ih =>
    intro L hL A n c N w left hs hN h0 h1
    have IH := Lib.hid ih
    clear ih
    have HL := Lib.hid hs.len
    have hlen : n ≤ L.len := Nat.le_of_eq hs.len
    have hlen' : L.len ≤ n := Nat.le_of_eq hs.len.symm
    have hmax : n ≤ 9223372036854775807 := by have := hs.le; have := hs.top; unfold maxLen at this; omega
    by_cases hl : (n : Int) ≤ left
    · have g1 : 0 ≤ left - (n : Int) := by omega
      go_enter Try.func23, Try.ntmps23
      go_wp2_with fail
      go_loopw [1, 5] (fun l i wr => SzRel L w left l i wr) (fun _ i _ => n - (intOf i).toNat)
      case atStart => exact ⟨0, left - n, Nat.zero_le _, rfl, rfl, g1, by omega, by rw [L.drop_zero, L.size_eq, ← HL.out]; exact (szR_step hl).symm, Below.refl _ _⟩
      case round =>
        obtain ⟨k, z, hk, rfl, rfl, z0, z1, hz, hb⟩ := hrel
        have HZ := Lib.hid hz
        clear hz
        by_cases hlt : k < n
        · obtain ⟨K, x, y, v, B, E, R, hd⟩ := SL.drop_cons (L := L) (i := k) (by omega)
          have HD := Lib.hid hd
          obtain ⟨s1, s2⟩ := SL.drop_size hd
          clear hd
          obtain ⟨a, rfl⟩ := hs.some (by omega)
          have hat := ((hs.at_ a rfl).below (hb.mono hN)).drop k
          rw [HD.out] at hat
          obtain ⟨_, c0, c1, c2, c3, AB, cB, AE, cE, c4, c5, sB, sE, _⟩ := hat.first
          have hsz := hb.size
          by_cases hfit : ((B.size + E.size : Nat) : Int) ≤ z
          · have H1 := Lib.hid (show szR (B.size + E.size) z = z - (B.size + E.size : Nat) from if_pos hfit)
            have g2 : 0 ≤ z - ((B.size + E.size : Nat) : Int) := by omega
            go_wp2_with fail
            refine (szStmt_of B E (IH.out B (by omega)) (IH.out E (by omega)) K x y v AB AE cB cE N wr z sB sE (by omega) z0 z1).mono ?_
            rintro e w1 ⟨rfl, hb1⟩
            rw [H1.out]
            go_wp2_with fail
            go_roundw
            case rel => exact ⟨k + 1, z - (B.size + E.size : Nat), by omega, by go_num, rfl, g2, by omega, by rw [SL.drop_succ HD.out, ← HZ.out, HD.out]; exact (szR_step hfit).symm, hb.trans (hb1.mono hsz)⟩
            case measure => simp [intOf]; omega
          · have H1 := Lib.hid (show szR (B.size + E.size) z = -1 from if_neg hfit)
            go_wp2_with fail
            refine (szStmt_of B E (IH.out B (by omega)) (IH.out E (by omega)) K x y v AB AE cB cE N wr z sB sE (by omega) z0 z1).mono ?_
            rintro e w1 ⟨rfl, hb1⟩
            rw [H1.out]
            go_wp2_with fail
            go_ret
            exact ⟨by rw [← HZ.out, HD.out, SL.inner, szR_stop hfit]; rfl, hb.trans (hb1.mono hsz)⟩
        · have hend := SL.drop_end (L := L) (i := k) (by omega)
          have H2 := Lib.hid (show szR L.size left = z from by rw [← HZ.out, hend, SL.inner, szR, if_pos (by simpa using z0)]; simp)
          clear hend
          go_wp2_with fail
          go_ret
          exact ⟨by rw [H2.out]; rfl, hb⟩
    · have H2 := Lib.hid (show szR L.size left = -1 from if_neg (by have := L.len_le; omega))
      go_enter Try.func23, Try.ntmps23
      go_wp2_with fail
      go_ret
      exact ⟨by rw [H2.out]; rfl, Below.refl _ _⟩

/-- The count of a list. -/
theorem szStmtS {L : SL} {A : Option Addr} {n c N : Nat} {w : World} {left : Int} (hs : Sl w N L A n c) (hN : N ≤ w.heap.size) (h0 : 0 ≤ left) (h1 : left ≤ 1048576) :
    Calls Try.prog 23 #[.slice A n c, .int .i64 left] w fun e w' => e = .returned (.int .i64 (szR L.size left)) ∧ Below w.heap.size w w' := szStmtS_any (L.size + 1) L (by omega) A n c N w left hs hN h0 h1

/-- The count of one. -/
theorem szStmt {k x y n : Int} {B E : SL} {A A' : Option Addr} {c c' N : Nat} {w : World} {left : Int} (sB : Sl w N B A B.len c) (sE : Sl w N E A' E.len c') (hN : N ≤ w.heap.size) (h0 : 0 ≤ left) (h1 : left ≤ 1048576) :
    Calls Try.prog 44 #[.agg #[.int .i64 k, .int .i64 x, .int .i64 y, .int .i64 n, .slice A B.len c, .slice A' E.len c'], .int .i64 left] w fun e w' => e = .returned (.int .i64 (szR (B.size + E.size) left)) ∧ Below w.heap.size w w' :=
  szStmt_of B E (szStmtS_any (B.size + 1) B (by omega)) (szStmtS_any (E.size + 1) E (by omega)) k x y n A A' c c' N w left sB sE hN h0 h1
end Go.Proofs.Ytlmgbpbiljnohaa
