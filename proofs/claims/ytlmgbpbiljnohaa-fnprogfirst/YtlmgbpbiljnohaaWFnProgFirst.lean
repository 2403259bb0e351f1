/- The walk of laws.FnProgFirst. -/
import Derived.Test.YtlmgbpbiljnohaaDrawPs
import Derived.Test.YtlmgbpbiljnohaaDrawSome
import Derived.Test.YtlmgbpbiljnohaaStmtsMany
import Derived.Test.YtlmgbpbiljnohaaProgOk
namespace Go.Proofs.Ytlmgbpbiljnohaa
open Go.ChangeShapes Go.WideShapes Go.ChangeAt Go.RowKit

theorem drawStmtsMany (A : Option Addr) (n c : Nat) (w : World) (h : Bytes w A n) (hn : n ≤ c) (hc : c ≤ maxLen) :
    Calls Try.prog 19 #[.slice A n c] w (DrawnPost w) := by
  go_enter Try.func19, Try.ntmps19
  go_wp2_with fail
  refine (drawStmtsOk A n c _ h hn hc).mono ?_
  rintro e w1 ⟨L, a, c1, rfl, s1, hL, b1⟩
  have HA := Lib.hid (show DrawnPost w (.returned (.slice (some a) L.len c1)) w1 from ⟨L, a, c1, rfl, s1, hL, b1⟩)
  clear s1
  go_wp2_with fail
  go_ret
  exact HA.out

theorem Ps.take {N k : Nat} {w : World} {Ls : List SL} {A : Option Addr} {n c : Nat} (h : Ps w N Ls A n c) (hk : k ≤ n) : Ps w N (Ls.take k) A k c :=
  ⟨by rw [List.length_take, ← h.len]; omega, Nat.le_trans hk h.le, h.top, fun i hi => by
    have hi' : i < Ls.length := by rw [List.length_take] at hi; omega
    obtain ⟨a, A', c', h1, h2, h3, h4⟩ := h.at_ i hi'
    exact ⟨a, A', c', h1, h2, by rw [List.getElem_take]; exact h3, by rw [List.getElem_take]; exact h4⟩⟩

theorem okPr_take {Ls : List SL} {k : Nat} (h : okPr Ls = true) (h1 : 1 ≤ k) (hk : k ≤ Ls.length) : okPr (Ls.take k) = true := by
  unfold okPr at h ⊢
  rw [Bool.and_eq_true] at h ⊢
  have h3 := of_decide_eq_true h.1
  refine ⟨decide_eq_true (by rw [List.length_take]; omega), List.all_eq_true.2 fun L hL => List.all_eq_true.1 h.2 L (List.mem_of_mem_take hL)⟩

theorem okP_tail {k x y n : Int} {B E R : SL} (h : okP (.cons k x y n B E R) = true) : okP R = true ∧ R.size < (SL.cons k x y n B E R).size := by
  unfold okP at h ⊢
  rw [Bool.and_eq_true, okL_cons, Bool.and_eq_true] at h
  have h1 := of_decide_eq_true h.1
  simp only [SL.size] at h1 ⊢
  exact ⟨by rw [Bool.and_eq_true]; exact ⟨decide_eq_true (by omega), h.2.2⟩, by omega⟩

set_option maxRecDepth 100000 in
set_option maxHeartbeats 4000000 in
theorem wFnProgFirst (A : Option Addr) (n c : Nat) (w : World) (h : Bytes w A n) (hn : n ≤ c) (hc : c ≤ maxLen) :
    Calls Try.prog 7 #[.slice A n c] w fun e w' => e = .returned (.bool true) ∧ Below w.heap.size w w' := by
  by_cases hl : 1048576 < n
  · go_enter Try.func7, Try.ntmps7
    go_wp2
    go_ret
    exact ⟨rfl, Below.refl _ _⟩
  · go_enter Try.func7, Try.ntmps7
    go_wp2_with fail
    refine (drawStmtsMany A n c _ h hn hc).mono ?_
    rintro e w1 ⟨L, a, c1, rfl, s1, hL, b1⟩
    have lL : L.size ≤ 1048576 := by omega
    have hll := L.len_le
    go_wp2_with fail
    refine (drawProgOk A n c _ (h.below b1) hn hc).mono ?_
    rintro e w2 ⟨Ls, r, m, c2, rfl, p2, hP, hb2⟩
    have b2 := b1.trans (hb2.mono b1.size)
    have s2 : Sl w2 w2.heap.size L (some a) L.len c1 := (s1.sl (N := w1.heap.size) fun b hb => hb.2).later hb2 hb2.size
    have t2 : Ps w2 w2.heap.size Ls (some ⟨r, 0, none⟩) m c2 := p2.ps fun b hb => hb.2
    clear s1 p2 hb2
    go_wp2_with fail
    refine (stmtsMany L _ _ _ w2.heap.size w2 s2 (Nat.le_refl _)).mono ?_
    rintro e w3 ⟨rfl, hb3⟩
    have b3 := b2.trans (hb3.mono b2.size)
    have s3 := s2.later hb3 hb3.size
    have t3 := (t2.below hb3).mono hb3.size
    clear s2 t2 hb3
    go_wp2_with fail
    refine (specStmtsMany L lL _ _ _ w3.heap.size w3 s3 (Nat.le_refl _)).mono ?_
    rintro e w4 ⟨rfl, hb4⟩
    have b4 := b3.trans (hb4.mono b3.size)
    have s4 := s3.later hb4 hb4.size
    have t4 := (t3.below hb4).mono hb4.size
    clear s3 t3 hb4
    go_wp2_with fail
    refine (progOk Ls _ _ _ w4.heap.size w4 t4 (Nat.le_refl _)).mono ?_
    rintro e w5 ⟨rfl, hb5⟩
    have b5 := b4.trans (hb5.mono b4.size)
    have s5 := s4.later hb5 hb5.size
    have t5 := (t4.below hb5).mono hb5.size
    clear s4 t4 hb5
    go_wp2_with fail
    refine (specProgOk Ls hP _ _ _ w5.heap.size w5 t5 (Nat.le_refl _)).mono ?_
    rintro e w6 ⟨rfl, hb6⟩
    have b6 := b5.trans (hb6.mono b5.size)
    have s6 := s5.later hb6 hb6.size
    have t6 := (t5.below hb6).mono hb6.size
    clear s5 t5 hb6
    have hmL := t6.len
    have HML := Lib.hid hmL
    have hmc : m ≤ c2 := t6.le
    have hcm := t6.top
    unfold maxLen at hcm
    clear hmL
    cases hbp : okPr Ls
    focus
      have HBP := Lib.hid hbp
      clear hbp
      go_wp2_with fail
      refine (specProgOk Ls hP _ _ _ w6.heap.size w6 t6 (Nat.le_refl _)).mono ?_
      rintro e wz ⟨rfl, hbz⟩
      rw [HBP.out]
      have bz := b6.trans (hbz.mono b6.size)
      have sz := s6.later hbz hbz.size
      clear hbz t6 s6
      go_wp2_with fail
    rotate_left
    focus
      have HBP := Lib.hid hbp
      clear hbp
      by_cases h1 : 1 < m
      focus
        have h1' : (1 : Int) < m := by omega
        go_wp2_with fail
        refine (specProgOk Ls hP _ _ _ w6.heap.size w6 t6 (Nat.le_refl _)).mono ?_
        rintro e w7 ⟨rfl, hb7⟩
        rw [HBP.out]
        have b7 := b6.trans (hb7.mono b6.size)
        have s7 := s6.later hb7 hb7.size
        have t7 := (t6.below hb7).mono hb7.size
        have HT := Lib.hid (okPr_take HBP.out (k := m - 1) (by omega) (by rw [← HML.out]; omega))
        clear hb7 t6 s6
        go_wp2_with fail
        refine (progOk (Ls.take (m - 1)) _ _ _ w7.heap.size w7 (t7.take (by omega)) (Nat.le_refl _)).mono ?_
        rintro e wz ⟨rfl, hbz⟩
        rw [HT.out]
        have bz := b7.trans (hbz.mono b7.size)
        have sz := s7.later hbz hbz.size
        clear hbz t7 s7
        go_wp2_with fail
      rotate_left
      focus
        have h1' : ¬ (1 : Int) < m := by omega
        go_wp2_with fail
        refine (specProgOk Ls hP _ _ _ w6.heap.size w6 t6 (Nat.le_refl _)).mono ?_
        rintro e wz ⟨rfl, hbz⟩
        rw [HBP.out]
        have bz := b6.trans (hbz.mono b6.size)
        have sz := s6.later hbz hbz.size
        clear hbz t6 s6
        go_wp2_with fail
    all_goals
      cases hb : okP L
      · have HB := Lib.hid hb
        clear hb
        refine (specStmtsOk L lL _ _ _ wz.heap.size wz sz (Nat.le_refl _)).mono ?_
        rintro e wy ⟨rfl, hby⟩
        rw [HB.out]
        go_wp2_with fail
        go_ret
        exact ⟨rfl, bz.trans (hby.mono bz.size)⟩
      · have HB := Lib.hid hb
        have HM := Lib.hid (show manyI L = L.size from if_pos hb)
        clear hb
        refine (specStmtsOk L lL _ _ _ wz.heap.size wz sz (Nat.le_refl _)).mono ?_
        rintro e wy ⟨rfl, hby⟩
        rw [HB.out]
        have by_ := bz.trans (hby.mono bz.size)
        have sy := sz.later hby hby.size
        clear hby sz
        generalize hnl : L.len = nl at *
        cases L with
        | nil =>
          obtain rfl : nl = 0 := hnl.symm
          go_wp2_with fail
          go_ret
          exact ⟨rfl, by_⟩
        | cons k x y v B E R =>
          obtain rfl : nl = R.len + 1 := hnl.symm
          clear hnl
          have hcl := sy.le
          have hct := sy.top
          unfold maxLen at hct
          have hpos : 0 < R.len + 1 := by omega
          have hR2 := okP_tail HB.out
          have HR := Lib.hid hR2.1
          have HMR := Lib.hid (show manyI R = R.size from if_pos hR2.1)
          have hlt : (R.size : Int) < (SL.cons k x y v B E R).size := by have := hR2.2; omega
          rw [HM.out]
          obtain ⟨AR, cR, HE⟩ : ∃ (AR : Addr) (cR : Nat), Go.RowKit.Hid (Sl wy wy.heap.size R (some AR) R.len cR ∧ ((c1 = 1 ∧ AR = a ∧ cR = 0) ∨ (c1 ≠ 1 ∧ AR = ⟨a.block, a.off + 6, none⟩ ∧ cR = c1 - 1))) := by
            by_cases hc1 : c1 = 1
            · exact ⟨a, 0, Lib.hid ⟨⟨rfl, by omega, Nat.zero_le _, (fun h => by cases h), fun p _ => by rw [SL.nil_of_len (L := R) (by omega)]; trivial⟩, .inl ⟨hc1, rfl, rfl⟩⟩⟩
            · refine ⟨⟨a.block, a.off + 6, none⟩, c1 - 1, Lib.hid ⟨⟨rfl, by omega, by unfold maxLen; omega, (fun h => by cases h), fun p hp => ?_⟩, .inr ⟨hc1, rfl, rfl⟩⟩⟩
              obtain rfl : p = ⟨a.block, a.off + 6, none⟩ := by injection hp with h; exact h.symm
              obtain ⟨_, _, _, _, _, _, _, _, _, _, _, _, _, h6⟩ := (sy.at_ a rfl).first
              exact h6
          clear sy hR2
          generalize (SL.cons k x y v B E R).size = zL at *
          generalize hrz : R.size = zR at *
          clear hrz
          have HLT := Lib.hid hlt
          clear hlt
          clear HB HM lL hll hL
          clear hcm hmc HML b1 b2 b3 b4 b5 b6 bz hP HBP
          have hct' : c1 ≤ 9223372036854775807 := by omega
          clear hct
          clear h hn hc
          by_cases hc1 : c1 = 1
          · have sR : Sl wy wy.heap.size R (some a) R.len 0 := by
              obtain ⟨h1, ⟨_, rfl, rfl⟩ | ⟨h, _⟩⟩ := HE.out
              · exact h1
              · exact absurd hc1 h
            subst hc1
            clear HE
            have hR0 : R.len = 0 := by omega
            rw [hR0] at sR
            rw [hR0]
            clear hcl hpos
            go_wp2_with fail
            refine (stmtsOk R _ _ _ wy.heap.size wy sR (Nat.le_refl _)).mono ?_
            rintro e wx ⟨rfl, hbx⟩
            rw [HR.out]
            have sx := sR.later hbx hbx.size
            have bx := by_.trans (hbx.mono by_.size)
            clear sR hbx
            go_wp2_with fail
            refine (stmtsMany R _ _ _ wx.heap.size wx sx (Nat.le_refl _)).mono ?_
            rintro e wv ⟨rfl, hbv⟩
            rw [HMR.out]
            have hlt := HLT.out
            go_wp2_with fail
            go_ret
            exact ⟨rfl, bx.trans (hbv.mono bx.size)⟩
          · have sR : Sl wy wy.heap.size R (some ⟨a.block, a.off + 6, none⟩) R.len (c1 - 1) := by
              obtain ⟨h1, ⟨h, _⟩ | ⟨_, rfl, rfl⟩⟩ := HE.out
              · exact absurd h hc1
              · exact h1
            clear HE
            go_wp2_with fail
            refine (stmtsOk R _ _ _ wy.heap.size wy sR (Nat.le_refl _)).mono ?_
            rintro e wx ⟨rfl, hbx⟩
            rw [HR.out]
            have sx := sR.later hbx hbx.size
            have bx := by_.trans (hbx.mono by_.size)
            clear sR hbx
            go_wp2_with fail
            refine (stmtsMany R _ _ _ wx.heap.size wx sx (Nat.le_refl _)).mono ?_
            rintro e wv ⟨rfl, hbv⟩
            rw [HMR.out]
            have hlt := HLT.out
            go_wp2_with fail
            go_ret
            exact ⟨rfl, bx.trans (hbv.mono bx.size)⟩
end Go.Proofs.Ytlmgbpbiljnohaa
