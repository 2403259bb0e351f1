/- The walk of laws.FnSlimReach. -/
import Derived.Test.YtogpfagdpkjmmaaBent9
import Derived.Test.YtogpfagdpkjmmaaComeP
import Derived.Test.YtogpfagdpkjmmaaSlimReach
import Derived.Test.YtogpfagdpkjmmaaWpBools
namespace Go.Proofs.Ytogpfagdpkjmmaa
open Go.ChangeShapes Go.WideShapes Go.ChangeAt Go.RowKit

set_option maxRecDepth 100000 in
set_option maxHeartbeats 8000000 in
theorem wFnSlimReach (A : Option Addr) (n c : Nat) (w : World) (h : Bytes w A n) (hn : n ≤ c) (hc : c ≤ maxLen) :
    Calls Try.prog 9 #[.slice A n c] w fun e w' => e = .returned (.bool true) ∧ Below w.heap.size w w' := by
  by_cases hl : 1048576 < n
  · go_enter Try.func9, Try.ntmps9
    go_wp2
    go_ret
    exact ⟨rfl, Below.refl _ _⟩
  · go_enter Try.func9, Try.ntmps9
    go_wp2_with fail
    refine (drawSlimReach A n c _ h hn hc).mono ?_
    rintro e w1 ⟨ys, m, B, cB, rfl, o1, hm50, b1⟩
    have f1 := own_fl1 o1
    have z1 := b1.size
    clear o1
    go_wp2_with fail
    refine (implSlimReach f1).mono ?_
    rintro e w2 ⟨v2, rfl, o2, hb2⟩
    have z2 := hb2.size
    have b2 := b1.trans (hb2.mono z1)
    have f2 := f1.later hb2
    obtain ⟨A2, c2, rfl⟩ := own_slc' o2
    clear f1 hb2
    go_wp2_with fail
    refine (specSlimReach f2).mono ?_
    rintro e w3 ⟨v3, rfl, o3, hb3⟩
    have z3 := hb3.size
    have b3 := b2.trans (hb3.mono (by omega))
    have f3 := f2.later hb3
    have o23 := own_below o2 hb3
    obtain ⟨A3, c3, rfl⟩ := own_slc' o3
    clear f2 hb3 o2
    go_wp2_with fail
    refine (wpBools o23 o3).mono ?_
    rintro e w4 ⟨rfl, hb4⟩
    have z4 := hb4.size
    have b4 := b3.trans (hb4.mono (by omega))
    have f4 := f3.later hb4
    have o4 := own_below o23 hb4
    clear f3 hb4 o23 o3
    go_wp2_with fail
    refine (specCodeOk f4).mono ?_
    rintro e w5 ⟨rfl, hb5⟩
    have z5 := hb5.size
    have b5 := b4.trans (hb5.mono (by omega))
    have f5 := f4.later hb5
    have o5 := own_below o4 hb5
    clear f4 hb5 o4
    cases hcb : codeB ys m
    · have hrl : reachR ys m = [] := by unfold reachR; rw [hcb]; rfl
      rw [hrl] at o5 ⊢
      clear hrl hcb f5 o5
      go_wp2_with fail
      go_ret
      exact ⟨rfl, b5⟩
    · have hr := codeB_true f5.len hcb
      have hrl : reachR ys m = comeL ys m := by unfold reachR; rw [if_pos hcb]
      have hm1 := hr.lo
      rw [hrl, comeL_len] at o5 ⊢
      have HR := Lib.hid hr
      clear hrl hcb hr
      obtain ⟨gr, cr, hv, _, _⟩ := own_some' o5 (by omega)
      simp only [Value.slice.injEq, true_and] at hv
      obtain ⟨rfl, rfl⟩ := hv
      obtain ⟨b, rfl⟩ := f5.some (by omega)
      have HO := Lib.hid o5
      have HF := Lib.hid f5
      clear o5 f5
      go_wp2_with fail
      go_loopw [5] (fun i wr => ∃ k : Nat, 1 ≤ k ∧ k ≤ m ∧ i = .int .i64 k ∧ Below w5.heap.size w5 wr) (fun i _ => m - (intOf i).toNat)
      case atStart => exact ⟨1, Nat.le_refl _, hm1, rfl, Below.refl _ _⟩
      case round =>
        obtain ⟨i, hi1, him, rfl, hbw⟩ := hrel
        by_cases hlt : i < m
        · have ci := (own_below HO.out hbw).cellAt (i - 1) (by omega)
          rw [bls_get (by rw [comeL_len]; omega)] at ci
          have gi : ((i - 1 : Nat) : Int) = (i : Int) - 1 := by omega
          have gi2 : ((i : Int) - 1).toNat = i - 1 := by omega
          have gi3 : (0 : Int) ≤ (i : Int) - 1 := by omega
          have gi4 : (i : Int) - 1 < (m : Int) := by omega
          have c0 := ((HF.out.later hbw).four (i - 1) (by omega)).1
          have h0 : ys.getD ((i - 1) * 4) 0 = opC ys (i - 1) := rfl
          rw [h0] at c0
          have hfb0 : fromB ys m i 0 = ((comeL ys m).getD (i - 1) false && !(decide (opC ys (i - 1) = 7) || decide (opC ys (i - 1) = 13))) := rfl
          have hall : (∃ bb, fromB ys m i 0 = bb ∧ (((comeL ys m).getD (i - 1) false = false ∧ bb = false) ∨ ((comeL ys m).getD (i - 1) false = true ∧ (opC ys (i - 1) != 7) = false ∧ bb = false) ∨ ((comeL ys m).getD (i - 1) false = true ∧ (opC ys (i - 1) != 7) = true ∧ (opC ys (i - 1) != 13) = false ∧ bb = false) ∨ ((comeL ys m).getD (i - 1) false = true ∧ (opC ys (i - 1) != 7) = true ∧ (opC ys (i - 1) != 13) = true ∧ bb = true))) := by
            refine ⟨_, rfl, ?_⟩
            rw [hfb0]
            cases (comeL ys m).getD (i - 1) false
            · left; exact ⟨rfl, rfl⟩
            · right
              by_cases h7 : opC ys (i - 1) = 7
              · left; simp [h7]
              · right
                by_cases h13 : opC ys (i - 1) = 13
                · left; simp [h13]
                · right; simp [h7, h13]
          obtain ⟨bb, hbb, hcases⟩ := hall
          have HBB := Lib.hid hbb
          clear hfb0 hbb h0
          generalize (comeL ys m).getD (i - 1) false = r1 at *
          generalize opC ys (i - 1) = o1 at *
          rcases hcases with ⟨rfl, rfl⟩ | ⟨rfl, e7, rfl⟩ | ⟨rfl, e7, e13, rfl⟩ | ⟨rfl, e7, e13, rfl⟩
          all_goals
            go_wp2_with fail
            go_loopw [6, 7] (fun cv q wq => ∃ k : Nat, k ≤ m ∧ q = .int .i64 k ∧ cv = .bool (fromB ys m i k) ∧ Below wr.heap.size wr wq) (fun _ q _ => m - (intOf q).toNat)
            case atStart => exact ⟨0, Nat.zero_le _, rfl, by rw [HBB.out], Below.refl _ _⟩
            case round =>
              obtain ⟨k, hk, rfl, rfl, hbq⟩ := hrel
              have hbwq := hbw.trans (hbq.mono hbw.size)
              by_cases hlk : k < m
              · have hstep : fromB ys m i (k + 1) = (fromB ys m i k || ((comeL ys m).getD k false && (isT ys k && decide (toC ys k = (i : Int))))) := rfl
                have ck := (own_below HO.out hbwq).cellAt k (by omega)
                rw [bls_get (by rw [comeL_len]; omega)] at ck
                obtain ⟨d0, _, _, d3⟩ := (HF.out.later hbwq).four k hlk
                have h0 : ys.getD (k * 4) 0 = opC ys k := rfl
                have h3 : ys.getD (k * 4 + 3) 0 = toC ys k := rfl
                rw [h0] at d0
                rw [h3] at d3
                have hT : isT ys k = (opC ys k == 7 || opC ys k == 6) := by
                  unfold isT
                  rw [Bool.eq_iff_iff]
                  simp [or_comm]
                have hD : decide (toC ys k = (i : Int)) = (toC ys k == (i : Int)) := by
                  rw [Bool.eq_iff_iff]; simp
                rw [hT, hD] at hstep
                have HST := Lib.hid hstep
                clear hstep hT hD h0 h3
                obtain ⟨nb, hnb0⟩ : ∃ nb, fromB ys m i (k + 1) = nb := ⟨_, rfl⟩
                have HNB := Lib.hid (show ∀ q : Bool, nb = q → Value.bool q = Value.bool (fromB ys m i (k + 1)) from fun q e => by rw [hnb0, e])
                rw [hnb0] at HST
                clear hnb0
                generalize fromB ys m i k = fb at *
                generalize (comeL ys m).getD k false = r2 at *
                generalize toC ys k = t at *
                obtain ⟨p7, hp7⟩ : ∃ p7, (opC ys k == 7) = p7 := ⟨_, rfl⟩
                obtain ⟨p6, hp6⟩ : ∃ p6, (opC ys k == 6) = p6 := ⟨_, rfl⟩
                rw [hp7, hp6] at HST
                generalize opC ys k = oo at *
                have gk : (k : Int) < (m : Int) := by omega
                have hx : (fb = true ∧ nb = true) ∨ (fb = false ∧ r2 = false ∧ nb = false) ∨ (fb = false ∧ r2 = true ∧ p7 = true ∧ nb = (t == (i : Int))) ∨ (fb = false ∧ r2 = true ∧ p7 = false ∧ p6 = true ∧ nb = (t == (i : Int))) ∨ (fb = false ∧ r2 = true ∧ p7 = false ∧ p6 = false ∧ nb = false) := by
                  have := HST.out
                  revert this
                  cases fb <;> cases r2 <;> cases p7 <;> cases p6 <;> simp
                clear HST
                rcases hx with ⟨rfl, rfl⟩ | ⟨rfl, rfl, rfl⟩ | ⟨rfl, rfl, rfl, hnb⟩ | ⟨rfl, rfl, rfl, rfl, hnb⟩ | ⟨rfl, rfl, rfl, rfl, rfl⟩
                · go_wp2_with fail
                  go_roundw
                  case rel => exact ⟨k + 1, by omega, by go_num, HNB.out _ rfl, hbq⟩
                  case measure => simp [intOf]; omega
                · go_wp2_with fail
                  go_roundw
                  case rel => exact ⟨k + 1, by omega, by go_num, HNB.out _ rfl, hbq⟩
                  case measure => simp [intOf]; omega
                · have HQ := Lib.hid hnb
                  clear hnb
                  go_wp2_with fail
                  go_roundw
                  case rel => exact ⟨k + 1, by omega, by go_num, by rw [← HQ.out]; exact HNB.out _ rfl, hbq⟩
                  case measure => simp [intOf]; omega
                · have HQ := Lib.hid hnb
                  clear hnb
                  go_wp2_with fail
                  go_roundw
                  case rel => exact ⟨k + 1, by omega, by go_num, by rw [← HQ.out]; exact HNB.out _ rfl, hbq⟩
                  case measure => simp [intOf]; omega
                · go_wp2_with fail
                  go_roundw
                  case rel => exact ⟨k + 1, by omega, by go_num, HNB.out _ rfl, hbq⟩
                  case measure => simp [intOf]; omega
              · obtain rfl : k = m := by omega
                have hend := fromB_come HR.out hi1 hlt
                rw [hend]
                have ce := (own_below HO.out hbwq).cellAt i (by omega)
                rw [bls_get (by rw [comeL_len]; omega)] at ce
                generalize (comeL ys k).getD i false = r9 at *
                clear hend
                cases r9
                all_goals
                  go_wp2_with fail
                  go_roundw
                  case rel => exact ⟨i + 1, by omega, by omega, by go_num, hbwq⟩
                  case measure => simp [intOf]; omega
        · have c9 := (own_below HO.out hbw).cellAt 0 (by omega)
          rw [bls_get (by rw [comeL_len]; omega), come_zero (by omega)] at c9
          have hbF := b5.trans (hbw.mono b5.size)
          go_wp2_with fail
          go_ret
          exact ⟨rfl, hbF⟩
end Go.Proofs.Ytogpfagdpkjmmaa
