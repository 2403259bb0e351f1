/- Whether two lists are one: the model's l2Same, the program's sameStmt and slices.EqualFunc. -/
import Derived.Test.YtlmgbpbiljnohaaStmtsOk
namespace Go.Proofs.Ytlmgbpbiljnohaa
open Go.ChangeShapes Go.WideShapes Go.ChangeAt Go.RowKit

/-- Whether two lists are one. -/
def sameL : SL → SL → Bool
  | .nil, .nil => true
  | .nil, .cons .. => false
  | .cons .., .nil => false
  | .cons k x y n B E R, .cons k' x' y' n' B' E' R' => (k == k' && x == x' && y == y' && n == n') && sameL B B' && sameL E E' && sameL R R'
/-- Whether two statements are one. -/
def sameS (k x y n k' x' y' n' : Int) (B E B' E' : SL) : Bool := (k == k' && x == x' && y == y' && n == n') && sameL B B' && sameL E E'

theorem sameL_cons (k x y n k' x' y' n' : Int) (B E R B' E' R' : SL) : sameL (.cons k x y n B E R) (.cons k' x' y' n' B' E' R') = (sameS k x y n k' x' y' n' B E B' E' && sameL R R') := by simp only [sameL, sameS]
theorem sameL_len {L : SL} : ∀ {L' : SL}, L.len ≠ L'.len → sameL L L' = false := by
  induction L with
  | nil => intro L' h; cases L' with
    | nil => simp [SL.len] at h
    | cons => rfl
  | cons k x y n B E R _ _ ih => intro L' h; cases L' with
    | nil => rfl
    | cons k' x' y' n' B' E' R' => rw [sameL_cons, ih (by simp only [SL.len] at h; omega), Bool.and_false]

/-- What the model's l2Same answers of two lists. -/
def SpecSame (L L' : SL) (d : Int) : Prop := ∀ (A A' : Option Addr) (n c n' c' N N' : Nat) (w : World), Sl w N L A n c → Sl w N' L' A' n' c' → N ≤ w.heap.size → N' ≤ w.heap.size →
  Calls Try.prog 45 #[.slice A n c, .slice A' n' c', .int .i64 d] w fun e w' => e = .returned (.bool (sameL L L')) ∧ Below w.heap.size w w'

/-- So deep: right lists end in time. -/
def deepL : SL → Nat
  | .nil => 0
  | .cons _ _ _ _ B E R => max (max (deepL B + 1) (deepL E + 1)) (deepL R)

theorem deepL_drop {L : SL} {i : Nat} {k x y n : Int} {B E R : SL} (h : L.drop i = .cons k x y n B E R) : deepL B < deepL L ∧ deepL E < deepL L := by
  induction i generalizing L with
  | zero => rw [SL.drop_zero] at h; subst h; simp only [deepL]; omega
  | succ i ih => cases L with
    | nil => simp [SL.drop] at h
    | cons k' x' y' n' B' E' R' => have := ih (L := R') h; simp only [deepL]; omega

theorem deepL_ok {L : SL} : ∀ {d r : Int}, 0 ≤ d → okL L d r = true → (deepL L : Int) ≤ d := by
  induction L with
  | nil => intro d r hd _; simpa [deepL] using hd
  | cons k x y n B E R hB hE hR =>
    intro d r hd h
    rw [okL_cons, Bool.and_eq_true] at h
    obtain ⟨hS, hR'⟩ := h
    simp only [okS, Bool.and_eq_true] at hS
    obtain ⟨⟨hh, hB'⟩, hE'⟩ := hS
    have h1 : 1 ≤ d := by
      by_cases h1 : 1 ≤ d
      · exact h1
      · rw [headB_deep h1] at hh; cases hh
    have e1 := hB (by omega) hB'
    have e2 := hE (by omega) hE'
    have e3 := hR hd hR'
    simp only [deepL]
    omega

/-- Behind two boxed statements and a call: their Else. -/
theorem two_cells {w w' : World} {v0 v1 v2 v3 v4 v5 u0 u1 u2 u3 u4 u5 : Value} {t u : TypeId} (hb : Below ((w.alloc (.cells #[v0, v1, v2, v3, v4, v5] t)).alloc (.cells #[u0, u1, u2, u3, u4, u5] u)).heap.size ((w.alloc (.cells #[v0, v1, v2, v3, v4, v5] t)).alloc (.cells #[u0, u1, u2, u3, u4, u5] u)) w') :
    w'.cell? ⟨w.heap.size, 5, none⟩ = some v5 ∧ w'.cell? ⟨w.heap.size + 1, 5, none⟩ = some u5 := by
  refine ⟨?_, ?_⟩
  · rw [hb.cell (by simp; omega), cell_of_row _ w.heap.size 5 #[v0, v1, v2, v3, v4, v5] t (0, 0) (by show ((w.heap.push _).push _)[w.heap.size]? = _; rw [Array.getElem?_push, if_neg (by simp), Array.getElem?_push, if_pos rfl])]; rfl
  · rw [hb.cell (by simp), cell_of_row _ (w.heap.size + 1) 5 #[u0, u1, u2, u3, u4, u5] u (0, 0) (by show ((w.heap.push _).push _)[w.heap.size + 1]? = _; rw [Array.getElem?_push, if_pos (by simp)])]; rfl

/-- At a round's head all up to k are alike. -/
def SameRel (L L' : SL) (w : World) (i : Value) (wr : World) : Prop :=
  ∃ k : Nat, k ≤ L.len ∧ i = .int .i64 k ∧ sameL L L' = sameL (L.drop k) (L'.drop k) ∧ Below w.heap.size w wr

theorem drop_cons2 {L L' : SL} {i : Nat} (h : i < L.len) (h' : L.len = L'.len) : ∃ k x y n B E R k' x' y' n' B' E' R', L.drop i = .cons k x y n B E R ∧ L'.drop i = .cons k' x' y' n' B' E' R' := by
  obtain ⟨k, x, y, n, B, E, R, hd⟩ := SL.drop_cons h
  obtain ⟨k', x', y', n', B', E', R', hd'⟩ := SL.drop_cons (L := L') (i := i) (by omega)
  exact ⟨_, _, _, _, _, _, _, _, _, _, _, _, _, _, hd, hd'⟩

set_option maxRecDepth 100000 in
set_option maxHeartbeats 4000000 in
theorem specSame_any (m : Nat) : ∀ (L L' : SL), L.size < m → ∀ d : Int, (deepL L : Int) < d → d ≤ 10 → SpecSame L L' d := by
  induction m with
  | zero => intro L L' hL; omega
  | succ m ih =>
    intro L L' hL d hd0 hd1 A A' n c n' c' N N' w hs ht hN hN'
    have IH := Lib.hid ih
    clear ih
    have dpos : 0 ≤ d := by omega
    have hlen : n ≤ L.len := Nat.le_of_eq hs.len
    have hlen' : L.len ≤ n := Nat.le_of_eq hs.len.symm
    have hmax : n ≤ 9223372036854775807 := by have := hs.le; have := hs.top; unfold maxLen at this; omega
    by_cases hll : n = n'
    · subst hll
      have hLL : L.len = L'.len := hs.len.symm.trans ht.len
      have HLL := Lib.hid hLL
      clear hLL
      have hdl : decide (d < 0) = false := by simpa using dpos
      go_enter Try.func45, Try.ntmps45
      go_wp2_with fail
      go_loopw [7] (fun i wr => SameRel L L' w i wr) (fun i _ => n - (intOf i).toNat)
      case atStart => exact ⟨0, Nat.zero_le _, rfl, by rw [SL.drop_zero, SL.drop_zero], Below.refl _ _⟩
      case round =>
        obtain ⟨k, hk, rfl, hz, hb⟩ := hrel
        have HZ := Lib.hid hz
        clear hz
        by_cases hlt : k < n
        · obtain ⟨K, x, y, v, B, E, R, K', x', y', v', B', E', R', hd, hd'⟩ := drop_cons2 (L := L) (L' := L') (i := k) (by omega) HLL.out
          have HD := Lib.hid hd
          have HD' := Lib.hid hd'
          obtain ⟨s1, s2⟩ := SL.drop_size hd
          obtain ⟨d1, d2⟩ := deepL_drop hd
          clear hd hd'
          obtain ⟨a, rfl⟩ := hs.some (by omega)
          obtain ⟨b, rfl⟩ := ht.some (by omega)
          have hat := ((hs.at_ a rfl).below (hb.mono hN)).drop k
          have hbt := ((ht.at_ b rfl).below (hb.mono hN')).drop k
          rw [HD.out] at hat
          rw [HD'.out] at hbt
          obtain ⟨_, c0, c1, c2, c3, AB, cB, AE, cE, c4, c5, sB, sE, _⟩ := hat.first
          have hsz := hb.size
          have ba : Below wr.heap.size wr (wr.alloc (.cells #[.int .i64 K, .int .i64 x, .int .i64 y, .int .i64 v, .slice AB B.len cB, .slice AE E.len cE] 29)) := (Below.refl _ _).alloc (Nat.le_refl _) _
          obtain ⟨_, f0, f1, f2, f3, FB, fB, FE, fE, f4, f5, tB, tE, _⟩ := (hbt.below (ba.mono (by omega))).first
          have hstep : sameL L L' = (sameS K x y v K' x' y' v' B E B' E' && sameL R R') := by rw [HZ.out, HD.out, HD'.out, sameL_cons]
          have hcB := IH.out B B' (by omega) (d - 1) (by omega) (by omega)
          have hcE := IH.out E E' (by omega) (d - 1) (by omega) (by omega)
          have HCB := Lib.hid hcB
          have HCE := Lib.hid hcE
          clear hcB hcE
          have bb : Below wr.heap.size wr ((wr.alloc (.cells #[.int .i64 K, .int .i64 x, .int .i64 y, .int .i64 v, .slice AB B.len cB, .slice AE E.len cE] 29)).alloc (.cells #[.int .i64 K', .int .i64 x', .int .i64 y', .int .i64 v', .slice FB B'.len fB, .slice FE E'.len fE] 29)) := ba.trans ((Below.refl _ _).alloc (by simp) _)
          have tB' : Sl ((wr.alloc (.cells #[.int .i64 K, .int .i64 x, .int .i64 y, .int .i64 v, .slice AB B.len cB, .slice AE E.len cE] 29)).alloc (.cells #[.int .i64 K', .int .i64 x', .int .i64 y', .int .i64 v', .slice FB B'.len fB, .slice FE E'.len fE] 29)) N' B' FB B'.len fB := tB.below ((Below.refl _ _).alloc (by simp; omega) _)
          have tE' : Sl ((wr.alloc (.cells #[.int .i64 K, .int .i64 x, .int .i64 y, .int .i64 v, .slice AB B.len cB, .slice AE E.len cE] 29)).alloc (.cells #[.int .i64 K', .int .i64 x', .int .i64 y', .int .i64 v', .slice FB B'.len fB, .slice FE E'.len fE] 29)) N' E' FE E'.len fE := tE.below ((Below.refl _ _).alloc (by simp; omega) _)
          have sB' := sB.below (bb.mono (by omega))
          have sE' := sE.below (bb.mono (by omega))
          have SB := Lib.hid sB'
          have SE := Lib.hid sE'
          have TB := Lib.hid tB'
          have TE := Lib.hid tE'
          have BB := Lib.hid bb
          clear ba bb tB tE tB' tE' sB' sE'
          by_cases hF : K = K' ∧ x = x' ∧ y = y' ∧ v = v'
          · obtain ⟨rfl, rfl, rfl, rfl⟩ := hF
            have hst : sameL L L' = (sameL B B' && sameL E E' && sameL R R') := by rw [hstep, sameS]; simp
            clear hstep
            cases hbB : sameL B B'
            · have H := Lib.hid (show sameL L L' = false from by rw [hst, hbB]; rfl)
              have H1 := Lib.hid hbB
              clear hst hbB
              go_wp2_with fail
              refine (HCB.out AB FB B.len cB B'.len fB N N' _ SB.out TB.out (by simp; omega) (by simp; omega)).mono ?_
              rintro e w1 ⟨rfl, hb1⟩
              rw [H1.out]
              go_wp2_with fail
              go_ret
              exact ⟨by rw [H.out]; rfl, hb.trans ((BB.out.trans (hb1.mono (by simp; omega))).mono hsz)⟩
            · have hst' : sameL L L' = (sameL E E' && sameL R R') := by rw [hst, hbB]; rfl
              have H1 := Lib.hid hbB
              clear hst hbB
              cases hbE : sameL E E'
              · have H := Lib.hid (show sameL L L' = false from by rw [hst', hbE]; rfl)
                have H2 := Lib.hid hbE
                clear hst' hbE
                go_wp2_with fail
                refine (HCB.out AB FB B.len cB B'.len fB N N' _ SB.out TB.out (by simp; omega) (by simp; omega)).mono ?_
                rintro e w1 ⟨rfl, hb1⟩
                rw [H1.out]
                obtain ⟨q1, q2⟩ := two_cells hb1
                have b1 : Below wr.heap.size wr w1 := BB.out.trans (hb1.mono (by simp; omega))
                have z1 := b1.size
                have sE1 := SE.out.below (hb1.mono (by simp; omega))
                have tE1 := TE.out.below (hb1.mono (by simp; omega))
                clear hb1
                go_wp2_with fail
                refine (HCE.out AE FE E.len cE E'.len fE N N' w1 sE1 tE1 (by omega) (by omega)).mono ?_
                rintro e w2 ⟨rfl, hb2⟩
                rw [H2.out]
                go_wp2_with fail
                go_ret
                exact ⟨by rw [H.out]; rfl, hb.trans ((b1.trans (hb2.mono z1)).mono hsz)⟩
              · have H := Lib.hid (show sameL L L' = sameL R R' from by rw [hst', hbE]; rfl)
                have H2 := Lib.hid hbE
                clear hst' hbE
                go_wp2_with fail
                refine (HCB.out AB FB B.len cB B'.len fB N N' _ SB.out TB.out (by simp; omega) (by simp; omega)).mono ?_
                rintro e w1 ⟨rfl, hb1⟩
                rw [H1.out]
                obtain ⟨q1, q2⟩ := two_cells hb1
                have b1 : Below wr.heap.size wr w1 := BB.out.trans (hb1.mono (by simp; omega))
                have z1 := b1.size
                have sE1 := SE.out.below (hb1.mono (by simp; omega))
                have tE1 := TE.out.below (hb1.mono (by simp; omega))
                clear hb1
                go_wp2_with fail
                refine (HCE.out AE FE E.len cE E'.len fE N N' w1 sE1 tE1 (by omega) (by omega)).mono ?_
                rintro e w2 ⟨rfl, hb2⟩
                rw [H2.out]
                go_wp2_with fail
                go_roundw
                case rel => exact ⟨k + 1, by omega, by go_num, by rw [SL.drop_succ HD.out, SL.drop_succ HD'.out]; exact H.out, hb.trans ((b1.trans (hb2.mono z1)).mono hsz)⟩
                case measure => simp [intOf]; omega
          · have H := Lib.hid (show sameL L L' = false from by
              rw [hstep, sameS, show (K == K' && x == x' && y == y' && v == v') = false from by
                rw [Bool.eq_false_iff]; intro h; apply hF; simpa [Bool.and_eq_true, and_assoc] using h, Bool.false_and, Bool.false_and, Bool.false_and])
            clear hstep
            go_wp2_with fail
            all_goals
              go_ret
              exact ⟨by rw [H.out]; rfl, hb.trans ((((Below.refl _ _).alloc (Nat.le_refl _) _).alloc (by simp) _).mono hsz)⟩
        · have hend : sameL L L' = true := by rw [HZ.out, SL.drop_end (by omega), SL.drop_end (by have := HLL.out; omega)]; rfl
          have H2 := Lib.hid hend
          clear hend
          go_wp2_with fail
          go_ret
          exact ⟨by rw [H2.out]; rfl, hb⟩
    · have H := Lib.hid (sameL_len (L := L) (L' := L') (by rw [← hs.len, ← ht.len]; exact hll))
      have hne : ((n : Int) != n') = true := by rw [bne_iff_ne]; omega
      go_enter Try.func45, Try.ntmps45
      go_wp2_with fail
      go_ret
      exact ⟨by rw [H.out]; rfl, Below.refl _ _⟩
end Go.Proofs.Ytlmgbpbiljnohaa
