/- The laws' comparison of two lists that read as one: it says yes. -/
import Derived.Test.YtlmgbpbiljnohaaSl
import Derived.StillTailTactics
namespace Go.Proofs.Ytlmgbpbiljnohaa
open Go.ChangeShapes Go.WideShapes Go.ChangeAt Go.RowKit

def EqSays (L : SL) : Prop := ∀ (A A' : Option Addr) (n c n' c' N N' : Nat) (w : World), Sl w N L A n c → Sl w N' L A' n' c' → N ≤ w.heap.size → N' ≤ w.heap.size →
  Calls Try.prog 27 #[.slice A n c, .slice A' n' c'] w fun e w' => e = .returned (.bool true) ∧ Below w.heap.size w w'

set_option maxRecDepth 100000 in
theorem eqStmt_of (k x y n : Int) (B E : SL) (hB : EqSays B) (hE : EqSays E) (A A' F F' : Option Addr) (c c' f f' N M : Nat) (w : World) (sB : Sl w N B A B.len c) (sE : Sl w N E A' E.len c') (tB : Sl w M B F B.len f) (tE : Sl w M E F' E.len f') (hN : N ≤ w.heap.size) (hM : M ≤ w.heap.size) :
    Calls Try.prog 48 #[.agg #[.int .i64 k, .int .i64 x, .int .i64 y, .int .i64 n, .slice A B.len c, .slice A' E.len c'], .agg #[.int .i64 k, .int .i64 x, .int .i64 y, .int .i64 n, .slice F B.len f, .slice F' E.len f']] w
      fun e w' => e = .returned (.bool true) ∧ Below w.heap.size w w' := by
  have HB := Lib.hid hB
  have HE := Lib.hid hE
  clear hB hE
  have hb0 : Below w.heap.size w ((w.alloc (.cells #[.int .i64 k, .int .i64 x, .int .i64 y, .int .i64 n, .slice A B.len c, .slice A' E.len c'] 29)).alloc (.cells #[.int .i64 k, .int .i64 x, .int .i64 y, .int .i64 n, .slice F B.len f, .slice F' E.len f'] 29)) :=
    ((Below.refl _ _).alloc (Nat.le_refl _) _).alloc (by simp) _
  go_enter Try.func48, Try.ntmps48
  go_wp2_with fail
  refine (HB.out A F B.len c B.len f N M _ (sB.below (hb0.mono hN)) (tB.below (hb0.mono hM)) (by simp; omega) (by simp; omega)).mono ?_
  rintro e w1 ⟨rfl, hb1⟩
  have q5 : w1.cell? ⟨w.heap.size, 5, none⟩ = some (.slice A' E.len c') := by
    rw [hb1.cell (by simp; omega), cell_of_row _ w.heap.size 5 #[.int .i64 k, .int .i64 x, .int .i64 y, .int .i64 n, .slice A B.len c, .slice A' E.len c'] 29 (0, 0) (by show ((w.heap.push _).push _)[w.heap.size]? = _; rw [Array.getElem?_push, if_neg (by simp), Array.getElem?_push, if_pos rfl])]; rfl
  have p5 : w1.cell? ⟨w.heap.size + 1, 5, none⟩ = some (.slice F' E.len f') := by
    rw [hb1.cell (by simp), cell_of_row _ (w.heap.size + 1) 5 #[.int .i64 k, .int .i64 x, .int .i64 y, .int .i64 n, .slice F B.len f, .slice F' E.len f'] 29 (0, 0) (by show ((w.heap.push _).push _)[w.heap.size + 1]? = _; rw [Array.getElem?_push, if_pos (by simp)])]; rfl
  have hb1' := hb0.trans (hb1.mono (by simp; omega))
  have hz := hb1'.size
  clear hb1 hb0
  go_wp2_with fail
  refine (HE.out A' F' E.len c' E.len f' N M _ (sE.below (hb1'.mono hN)) (tE.below (hb1'.mono hM)) (by omega) (by omega)).mono ?_
  rintro e w2 ⟨rfl, hb2⟩
  go_wp2_with fail
  go_ret
  exact ⟨rfl, hb1'.trans (hb2.mono hz)⟩

set_option maxRecDepth 100000 in
theorem eqStmtS_any (m : Nat) : ∀ L : SL, L.size < m → EqSays L := by
  induction m with
  | zero => intro L hL; omega
  | succ m ih =>
    intro L hL A A' n c n' c' N N' w hs ht hN hN'
    obtain rfl : n = n' := hs.len.trans ht.len.symm
    have IH := Lib.hid ih
    clear ih
    have hlen : n ≤ L.len := Nat.le_of_eq hs.len
    have hlen' : L.len ≤ n := Nat.le_of_eq hs.len.symm
    have hmax : n ≤ 9223372036854775807 := by have := hs.le; have := hs.top; unfold maxLen at this; omega
    go_enter Try.func27, Try.ntmps27
    go_wp2_with fail
    go_loopw [5] (fun i wr => ∃ k : Nat, k ≤ n ∧ i = .int .i64 k ∧ Below w.heap.size w wr) (fun i _ => n - (intOf i).toNat)
    case atStart => exact ⟨0, Nat.zero_le _, rfl, Below.refl _ _⟩
    case round =>
      obtain ⟨k, hk, rfl, hb⟩ := hrel
      by_cases hlt : k < n
      · obtain ⟨K, x, y, v, B, E, R, hd⟩ := SL.drop_cons (L := L) (i := k) (by omega)
        have HD := Lib.hid hd
        obtain ⟨s1, s2⟩ := SL.drop_size hd
        clear hd
        obtain ⟨a, rfl⟩ := hs.some (by omega)
        obtain ⟨b, rfl⟩ := ht.some (by omega)
        have hat := ((hs.at_ a rfl).below (hb.mono hN)).drop k
        have hbt := ((ht.at_ b rfl).below (hb.mono hN')).drop k
        rw [HD.out] at hat hbt
        obtain ⟨_, c0, c1, c2, c3, AB, cB, AE, cE, c4, c5, sB, sE, _⟩ := hat.first
        obtain ⟨_, d0, d1, d2, d3, FB, fB, FE, fE, d4, d5, tB, tE, _⟩ := hbt.first
        have hsz := hb.size
        go_wp2_with fail
        go_still_tail 8, (by kernel_rfl)
        change wpList _ _ _ _ _ wr.drew
        have hdr : Below wr.heap.size wr wr.drew := (Below.refl _ _).drew
        go_wp2_with fail
        refine (eqStmt_of K x y v B E (IH.out B (by omega)) (IH.out E (by omega)) AB AE FB FE cB cE fB fE N N' wr.drew (sB.below (hdr.mono (by omega))) (sE.below (hdr.mono (by omega))) (tB.below (hdr.mono (by omega))) (tE.below (hdr.mono (by omega))) (by show N ≤ wr.heap.size; omega) (by show N' ≤ wr.heap.size; omega)).mono ?_
        rintro e w1 ⟨rfl, hb1⟩
        have hb1' : Below wr.heap.size wr w1 := hdr.trans hb1
        clear hb1 hdr
        go_wp2_with fail
        go_roundw
        case rel => exact ⟨k + 1, by omega, by go_num, hb.trans (hb1'.mono hsz)⟩
        case measure => simp [intOf]; omega
      · go_wp2_with fail
        go_ret
        exact ⟨rfl, hb⟩

theorem eqStmtS (L : SL) : EqSays L := eqStmtS_any (L.size + 1) L (by omega)
theorem eqStmt (k x y n : Int) (B E : SL) (A A' F F' : Option Addr) (c c' f f' N M : Nat) (w : World) (sB : Sl w N B A B.len c) (sE : Sl w N E A' E.len c') (tB : Sl w M B F B.len f) (tE : Sl w M E F' E.len f') (hN : N ≤ w.heap.size) (hM : M ≤ w.heap.size) :
    Calls Try.prog 48 #[.agg #[.int .i64 k, .int .i64 x, .int .i64 y, .int .i64 n, .slice A B.len c, .slice A' E.len c'], .agg #[.int .i64 k, .int .i64 x, .int .i64 y, .int .i64 n, .slice F B.len f, .slice F' E.len f']] w
      fun e w' => e = .returned (.bool true) ∧ Below w.heap.size w w' := eqStmt_of k x y n B E (eqStmtS B) (eqStmtS E) A A' F F' c c' f f' N M w sB sE tB tE hN hM
end Go.Proofs.Ytlmgbpbiljnohaa
