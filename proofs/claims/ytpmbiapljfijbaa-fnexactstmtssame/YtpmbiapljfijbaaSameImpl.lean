/- Whether two lists are one, as the program asks: sameStmt and slices.EqualFunc; StmtsSame of both. -/
import Derived.Test.YtpmbiapljfijbaaSame
namespace Go.Proofs.Ytpmbiapljfijbaa
open Go.ChangeShapes Go.WideShapes Go.ChangeAt Go.RowKit

/-- What the program's comparison answers of two lists. -/
def ImplSame (L L' : SL) : Prop := ∀ (A A' : Option Addr) (n c n' c' N N' : Nat) (w : World), Sl w N L A n c → Sl w N' L' A' n' c' → N ≤ w.heap.size → N' ≤ w.heap.size →
  Calls Try.prog 39 #[.slice A n c, .slice A' n' c', .func (Fn.func 40) #[] #[]] w fun e w' => e = .returned (.bool (sameL L L')) ∧ Below w.heap.size w w'

set_option maxRecDepth 100000 in
set_option maxHeartbeats 4000000 in
theorem sameStmt_of (K x y v K' x' y' v' : Int) (B E B' E' : SL) (hB : ImplSame B B') (hE : ImplSame E E') (AB AE FB FE : Option Addr) (cB cE fB fE N N' : Nat) (wr : World) (sB : Sl wr N B AB B.len cB) (sE : Sl wr N E AE E.len cE) (tB : Sl wr N' B' FB B'.len fB) (tE : Sl wr N' E' FE E'.len fE) (hN : N ≤ wr.heap.size) (hN' : N' ≤ wr.heap.size) :
    Calls Try.prog 40 #[.agg #[.int .i64 K, .int .i64 x, .int .i64 y, .int .i64 v, .slice AB B.len cB, .slice AE E.len cE], .agg #[.int .i64 K', .int .i64 x', .int .i64 y', .int .i64 v', .slice FB B'.len fB, .slice FE E'.len fE]] wr fun e w' => e = .returned (.bool (sameS K x y v K' x' y' v' B E B' E')) ∧ Below wr.heap.size wr w' := by
  have HB := Lib.hid hB
  have HE := Lib.hid hE
  clear hB hE
  have bb : Below wr.heap.size wr ((wr.alloc (.cells #[.int .i64 K, .int .i64 x, .int .i64 y, .int .i64 v, .slice AB B.len cB, .slice AE E.len cE] 29)).alloc (.cells #[.int .i64 K', .int .i64 x', .int .i64 y', .int .i64 v', .slice FB B'.len fB, .slice FE E'.len fE] 29)) := ((Below.refl _ _).alloc (Nat.le_refl _) _).alloc (by simp) _
  by_cases hF : K = K' ∧ x = x' ∧ y = y' ∧ v = v'
  · obtain ⟨rfl, rfl, rfl, rfl⟩ := hF
    have hst : sameS K x y v K x y v B E B' E' = (sameL B B' && sameL E E') := by rw [sameS]; simp
    cases hbB : sameL B B'
    · have H := Lib.hid (show sameS K x y v K x y v B E B' E' = false from by rw [hst, hbB]; rfl)
      have H1 := Lib.hid hbB
      clear hst hbB
      go_enter Try.func40, Try.ntmps40
      go_wp2_with fail
      refine (HB.out AB FB B.len cB B'.len fB N N' _ (sB.below (bb.mono hN)) (tB.below (bb.mono hN')) (by simp; omega) (by simp; omega)).mono ?_
      rintro e w1 ⟨rfl, hb1⟩
      rw [H1.out]
      go_wp2_with fail
      go_ret
      exact ⟨by rw [H.out]; rfl, bb.trans (hb1.mono (by simp; omega))⟩
    · have H := Lib.hid (show sameS K x y v K x y v B E B' E' = sameL E E' from by rw [hst, hbB]; rfl)
      have H1 := Lib.hid hbB
      clear hst hbB
      go_enter Try.func40, Try.ntmps40
      go_wp2_with fail
      refine (HB.out AB FB B.len cB B'.len fB N N' _ (sB.below (bb.mono hN)) (tB.below (bb.mono hN')) (by simp; omega) (by simp; omega)).mono ?_
      rintro e w1 ⟨rfl, hb1⟩
      rw [H1.out]
      obtain ⟨q1, q2⟩ := two_cells hb1
      have b1 : Below wr.heap.size wr w1 := bb.trans (hb1.mono (by simp; omega))
      have z1 := b1.size
      clear hb1
      go_wp2_with fail
      refine (HE.out AE FE E.len cE E'.len fE N N' w1 (sE.below (b1.mono hN)) (tE.below (b1.mono hN')) (by omega) (by omega)).mono ?_
      rintro e w2 ⟨rfl, hb2⟩
      go_wp2_with fail
      go_ret
      exact ⟨by rw [H.out]; rfl, b1.trans (hb2.mono z1)⟩
  · have H := Lib.hid (show sameS K x y v K' x' y' v' B E B' E' = false from by
      rw [sameS, show (K == K' && x == x' && y == y' && v == v') = false from by
        rw [Bool.eq_false_iff]; intro h; apply hF; simpa [Bool.and_eq_true, and_assoc] using h, Bool.false_and, Bool.false_and])
    clear bb
    have hcut : ¬ (K = K' ∧ x = x' ∧ y = y' ∧ v = v') := hF
    clear hF
    rcases (by omega : K ≠ K' ∨ (K = K' ∧ x ≠ x') ∨ (K = K' ∧ x = x' ∧ y ≠ y') ∨ (K = K' ∧ x = x' ∧ y = y' ∧ v ≠ v')) with h1 | ⟨rfl, h1⟩ | ⟨rfl, rfl, h1⟩ | ⟨rfl, rfl, rfl, h1⟩
    all_goals
      clear hcut
      go_enter Try.func40, Try.ntmps40
      go_wp2_with fail
      go_ret
      exact ⟨by rw [H.out]; rfl, ((Below.refl _ _).alloc (Nat.le_refl _) _).alloc (by simp) _⟩

set_option maxRecDepth 100000 in
set_option maxHeartbeats 4000000 in
theorem implSame_any (m : Nat) : ∀ (L L' : SL), L.size < m → ImplSame L L' := by
  induction m with
  | zero => intro L L' hL; omega
  | succ m ih =>
    intro L L' hL A A' n c n' c' N N' w hs ht hN hN'
    have IH := Lib.hid ih
    clear ih
    have hlen : n ≤ L.len := Nat.le_of_eq hs.len
    have hlen' : L.len ≤ n := Nat.le_of_eq hs.len.symm
    have hmax : n ≤ 9223372036854775807 := by have := hs.le; have := hs.top; unfold maxLen at this; omega
    by_cases hll : n = n'
    · subst hll
      have hLL : L.len = L'.len := hs.len.symm.trans ht.len
      have HLL := Lib.hid hLL
      clear hLL
      go_enter Try.func39, Try.ntmps39
      go_wp2_with fail
      go_loopw [17] (fun i wr => SameRel L L' w i wr) (fun i _ => n - (intOf i).toNat)
      case atStart => exact ⟨0, Nat.zero_le _, rfl, by rw [SL.drop_zero, SL.drop_zero], Below.refl _ _⟩
      case round =>
        obtain ⟨k, hk, rfl, hz, hb⟩ := hrel
        have HZ := Lib.hid hz
        clear hz
        by_cases hlt : k < n
        · obtain ⟨K, x, y, v, B, E, R, K', x', y', v', B', E', R', hd, hd'⟩ := drop_cons2 (L := L) (L' := L') (i := k) (by omega) HLL.out
          have HD := Lib.hid hd
          have HD' := Lib.hid hd'
          obtain ⟨s1, s2⟩ := SL.drop_size hd
          clear hd hd'
          obtain ⟨a, rfl⟩ := hs.some (by omega)
          obtain ⟨b, rfl⟩ := ht.some (by omega)
          have hat := ((hs.at_ a rfl).below (hb.mono hN)).drop k
          have hbt := ((ht.at_ b rfl).below (hb.mono hN')).drop k
          rw [HD.out] at hat
          rw [HD'.out] at hbt
          obtain ⟨_, c0, c1, c2, c3, AB, cB, AE, cE, c4, c5, sB, sE, _⟩ := hat.first
          have hsz := hb.size
          have ba : Below wr.heap.size wr (wr.alloc (.cells #[.int .i64 K, .int .i64 x, .int .i64 y, .int .i64 v, .slice AB B.len cB, .slice AE E.len cE] 29)) := (Below.refl _ _).alloc (Nat.le_refl _) _
          obtain ⟨_, f0, f1, f2, f3, FB, fB, FE, fE, f4, f5, tB, tE, _⟩ := (hbt.below (ba.mono (by omega))).first
          have hstep : sameL L L' = (sameS K x y v K' x' y' v' B E B' E' && sameL R R') := by rw [HZ.out, HD.out, HD'.out, sameL_cons]
          have bb : Below wr.heap.size wr ((wr.alloc (.cells #[.int .i64 K, .int .i64 x, .int .i64 y, .int .i64 v, .slice AB B.len cB, .slice AE E.len cE] 29)).alloc (.cells #[.int .i64 K', .int .i64 x', .int .i64 y', .int .i64 v', .slice FB B'.len fB, .slice FE E'.len fE] 29)) := ba.trans ((Below.refl _ _).alloc (by simp) _)
          have tB' : Sl ((wr.alloc (.cells #[.int .i64 K, .int .i64 x, .int .i64 y, .int .i64 v, .slice AB B.len cB, .slice AE E.len cE] 29)).alloc (.cells #[.int .i64 K', .int .i64 x', .int .i64 y', .int .i64 v', .slice FB B'.len fB, .slice FE E'.len fE] 29)) N' B' FB B'.len fB := tB.below ((Below.refl _ _).alloc (by simp; omega) _)
          have tE' : Sl ((wr.alloc (.cells #[.int .i64 K, .int .i64 x, .int .i64 y, .int .i64 v, .slice AB B.len cB, .slice AE E.len cE] 29)).alloc (.cells #[.int .i64 K', .int .i64 x', .int .i64 y', .int .i64 v', .slice FB B'.len fB, .slice FE E'.len fE] 29)) N' E' FE E'.len fE := tE.below ((Below.refl _ _).alloc (by simp; omega) _)
          have sB' := sB.below (bb.mono (by omega))
          have sE' := sE.below (bb.mono (by omega))
          have hcall := sameStmt_of K x y v K' x' y' v' B E B' E' (IH.out B B' (by omega)) (IH.out E E' (by omega)) AB AE FB FE cB cE fB fE N N' _ sB' sE' tB' tE' (by simp; omega) (by simp; omega)
          have BB := Lib.hid bb
          clear ba bb tB tE tB' tE' sB' sE'
          cases hS : sameS K x y v K' x' y' v' B E B' E'
          · have H := Lib.hid (show sameL L L' = false from by rw [hstep, hS]; rfl)
            rw [hS] at hcall
            have HC := Lib.hid hcall
            clear hS hstep hcall
            go_wp2_with fail
            refine HC.out.mono ?_
            rintro e w1 ⟨rfl, hb1⟩
            go_wp2_with fail
            go_ret
            exact ⟨by rw [H.out]; rfl, hb.trans ((BB.out.trans (hb1.mono (by simp; omega))).mono hsz)⟩
          · have H := Lib.hid (show sameL L L' = sameL R R' from by rw [hstep, hS]; rfl)
            rw [hS] at hcall
            have HC := Lib.hid hcall
            clear hS hstep hcall
            go_wp2_with fail
            refine HC.out.mono ?_
            rintro e w1 ⟨rfl, hb1⟩
            go_wp2_with fail
            go_roundw
            case rel => exact ⟨k + 1, by omega, by go_num, by rw [SL.drop_succ HD.out, SL.drop_succ HD'.out]; exact H.out, hb.trans ((BB.out.trans (hb1.mono (by simp; omega))).mono hsz)⟩
            case measure => simp [intOf]; omega
        · have hend : sameL L L' = true := by rw [HZ.out, SL.drop_end (by omega), SL.drop_end (by have := HLL.out; omega)]; rfl
          have H2 := Lib.hid hend
          clear hend
          go_wp2_with fail
          go_ret
          exact ⟨by rw [H2.out]; rfl, hb⟩
    · have H := Lib.hid (sameL_len (L := L) (L' := L') (by rw [← hs.len, ← ht.len]; exact hll))
      have hne : ((n : Int) != n') = true := by rw [bne_iff_ne]; omega
      go_enter Try.func39, Try.ntmps39
      go_wp2_with fail
      go_ret
      exact ⟨by rw [H.out]; rfl, Below.refl _ _⟩

/-- Whether two lists are processes and one. -/
def sameP (L L' : SL) : Bool := okP L && okP L' && sameL L L'

theorem stmtsSame (L L' : SL) (A A' : Option Addr) (n c n' c' N N' : Nat) (w : World) (hs : Sl w N L A n c) (ht : Sl w N' L' A' n' c') (hN : N ≤ w.heap.size) (hN' : N' ≤ w.heap.size) :
    Calls Try.prog 27 #[.slice A n c, .slice A' n' c'] w fun e w' => e = .returned (.bool (sameP L L')) ∧ Below w.heap.size w w' := by
  cases h1 : okP L
  · have H := Lib.hid (show sameP L L' = false from by rw [sameP, h1]; rfl)
    have H1 := Lib.hid h1
    clear h1
    go_enter Try.func27, Try.ntmps27
    go_wp2_with fail
    refine (stmtsOk L A n c N w hs hN).mono ?_
    rintro e w1 ⟨rfl, hb1⟩
    rw [H1.out]
    go_wp2_with fail
    go_ret
    exact ⟨by rw [H.out]; rfl, hb1⟩
  · cases h2 : okP L'
    · have H := Lib.hid (show sameP L L' = false from by rw [sameP, h1, h2]; rfl)
      have H1 := Lib.hid h1
      have H2 := Lib.hid h2
      clear h1 h2
      go_enter Try.func27, Try.ntmps27
      go_wp2_with fail
      refine (stmtsOk L A n c N w hs hN).mono ?_
      rintro e w1 ⟨rfl, hb1⟩
      rw [H1.out]
      have z1 := hb1.size
      go_wp2_with fail
      refine (stmtsOk L' A' n' c' N' w1 (ht.below (hb1.mono hN')) (by omega)).mono ?_
      rintro e w2 ⟨rfl, hb2⟩
      rw [H2.out]
      go_wp2_with fail
      go_ret
      exact ⟨by rw [H.out]; rfl, hb1.trans (hb2.mono z1)⟩
    · have H := Lib.hid (show sameP L L' = sameL L L' from by rw [sameP, h1, h2]; rfl)
      have H1 := Lib.hid h1
      have H2 := Lib.hid h2
      clear h1 h2
      go_enter Try.func27, Try.ntmps27
      go_wp2_with fail
      refine (stmtsOk L A n c N w hs hN).mono ?_
      rintro e w1 ⟨rfl, hb1⟩
      rw [H1.out]
      have z1 := hb1.size
      go_wp2_with fail
      refine (stmtsOk L' A' n' c' N' w1 (ht.below (hb1.mono hN')) (by omega)).mono ?_
      rintro e w2 ⟨rfl, hb2⟩
      rw [H2.out]
      have b2 := hb1.trans (hb2.mono z1)
      have z2 := b2.size
      clear hb2
      go_wp2_with fail
      refine (implSame_any (L.size + 1) L L' (by omega) A A' n c n' c' N N' w2 (hs.below (b2.mono hN)) (ht.below (b2.mono hN')) (by omega) (by omega)).mono ?_
      rintro e w3 ⟨rfl, hb3⟩
      go_wp2_with fail
      go_ret
      exact ⟨by rw [H.out]; rfl, b2.trans (hb3.mono z2)⟩

theorem specStmtsSame (L L' : SL) (hL : L.size ≤ 1048576) (hL' : L'.size ≤ 1048576) (A A' : Option Addr) (n c n' c' N N' : Nat) (w : World) (hs : Sl w N L A n c) (ht : Sl w N' L' A' n' c') (hN : N ≤ w.heap.size) (hN' : N' ≤ w.heap.size) :
    Calls Try.prog 26 #[.slice A n c, .slice A' n' c'] w fun e w' => e = .returned (.bool (sameP L L')) ∧ Below w.heap.size w w' := by
  cases h1 : okP L
  · have H := Lib.hid (show sameP L L' = false from by rw [sameP, h1]; rfl)
    have H1 := Lib.hid h1
    clear h1
    go_enter Try.func26, Try.ntmps26
    go_wp2_with fail
    refine (specStmtsOk L hL A n c N w hs hN).mono ?_
    rintro e w1 ⟨rfl, hb1⟩
    rw [H1.out]
    go_wp2_with fail
    go_ret
    exact ⟨by rw [H.out]; rfl, hb1⟩
  · cases h2 : okP L'
    · have H := Lib.hid (show sameP L L' = false from by rw [sameP, h1, h2]; rfl)
      have H1 := Lib.hid h1
      have H2 := Lib.hid h2
      clear h1 h2
      go_enter Try.func26, Try.ntmps26
      go_wp2_with fail
      refine (specStmtsOk L hL A n c N w hs hN).mono ?_
      rintro e w1 ⟨rfl, hb1⟩
      rw [H1.out]
      have z1 := hb1.size
      go_wp2_with fail
      refine (specStmtsOk L' hL' A' n' c' N' w1 (ht.below (hb1.mono hN')) (by omega)).mono ?_
      rintro e w2 ⟨rfl, hb2⟩
      rw [H2.out]
      go_wp2_with fail
      go_ret
      exact ⟨by rw [H.out]; rfl, hb1.trans (hb2.mono z1)⟩
    · have H := Lib.hid (show sameP L L' = sameL L L' from by rw [sameP, h1, h2]; rfl)
      have H1 := Lib.hid h1
      have H2 := Lib.hid h2
      clear h1 h2
      go_enter Try.func26, Try.ntmps26
      go_wp2_with fail
      refine (specStmtsOk L hL A n c N w hs hN).mono ?_
      rintro e w1 ⟨rfl, hb1⟩
      rw [H1.out]
      have z1 := hb1.size
      go_wp2_with fail
      refine (specStmtsOk L' hL' A' n' c' N' w1 (ht.below (hb1.mono hN')) (by omega)).mono ?_
      rintro e w2 ⟨rfl, hb2⟩
      rw [H2.out]
      have b2 := hb1.trans (hb2.mono z1)
      have z2 := b2.size
      clear hb2
      go_wp2_with fail
      refine (specSame_any (L.size + 1) L L' (by omega) 4 (by have := deepL_ok (by omega) (okP_size H1.out).2; omega) (by omega) A A' n c n' c' N N' w2 (hs.below (b2.mono hN)) (ht.below (b2.mono hN')) (by omega) (by omega)).mono ?_
      rintro e w3 ⟨rfl, hb3⟩
      go_wp2_with fail
      go_ret
      exact ⟨by rw [H.out]; rfl, b2.trans (hb3.mono z2)⟩

end Go.Proofs.Ytpmbiapljfijbaa
