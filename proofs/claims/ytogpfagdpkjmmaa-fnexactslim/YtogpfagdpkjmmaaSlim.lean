/- Slim, of the program and of the model. -/
import Derived.Test.YtogpfagdpkjmmaaSlimDead
import Derived.Test.YtogpfagdpkjmmaaSlimJumps
import Derived.Test.YtogpfagdpkjmmaaCodeSame
import Derived.Test.YtogpfagdpkjmmaaSpecCodeSame
namespace Go.Proofs.Ytogpfagdpkjmmaa
open Go.ChangeShapes Go.WideShapes Go.ChangeAt Go.RowKit

open Classical in
/-- Both passes. -/
noncomputable def stp (p : List Int × Nat) : List Int × Nat := (deadR (jumpsR p.1 p.2) (jumpsN p.1 p.2), deadN (jumpsR p.1 p.2) (jumpsN p.1 p.2))
/-- .. until nothing turns, so many times at most. -/
noncomputable def slimI : Nat → List Int × Nat → List Int × Nat
  | 0, p => p
  | k + 1, p => if (stp p).1 = p.1 then stp p else slimI k (stp p)
theorem stp_le (p : List Int × Nat) : (stp p).2 ≤ p.2 := Nat.le_trans (deadN_le _ _) (jumpsN_le _ _)
theorem slimI_le (k : Nat) : ∀ p : List Int × Nat, (slimI k p).2 ≤ p.2 := by
  induction k with
  | zero => intro p; exact Nat.le_refl _
  | succ k ih =>
    intro p
    rw [slimI]
    split
    · exact stp_le p
    · exact Nat.le_trans (ih _) (stp_le p)
noncomputable def slimR (xs : List Int) (n : Nat) : List Int := (slimI 60 (xs, n)).1
noncomputable def slimN (xs : List Int) (n : Nat) : Nat := (slimI 60 (xs, n)).2
theorem slimN_le (xs : List Int) (n : Nat) : slimN xs n ≤ n := slimI_le 60 (xs, n)
theorem stp_bad {xs : List Int} {n : Nat} (h : codeB xs n = false) : stp (xs, n) = ([], 0) := by
  have h1 : jumpsR xs n = [] := by unfold jumpsR; rw [h]; rfl
  have h2 : jumpsN xs n = 0 := by unfold jumpsN; rw [h]; rfl
  have h3 : codeB [] 0 = false := codeB_few (by omega)
  unfold stp
  rw [h1, h2]
  unfold deadR deadN
  rw [h3]; rfl
theorem slim_bad {xs : List Int} {n : Nat} (h : codeB xs n = false) : slimI 60 (xs, n) = ([], 0) := by
  rw [slimI, stp_bad h]
  split
  · rfl
  · rw [slimI, stp_bad (codeB_few (by omega)), if_pos rfl]

/-- Between two rounds. -/
def SlimRel (xs : List Int) (n : Nat) (w : World) (k : Nat) (v : Value) (wr : World) : Prop :=
  ∃ (p : List Int × Nat) (A : Option Addr) (c : Nat) (S : Nat → Prop), v = .slice A p.2 c ∧ Fl wr S 4 p.1 A p.2 c ∧ (0 < k → wr.ownsRow w.heap.size 40 4 v p.2 (ints p.1)) ∧ slimI (60 - k) p = slimI 60 (xs, n) ∧ Below w.heap.size w wr

set_option maxRecDepth 100000 in
set_option maxHeartbeats 4000000 in
theorem specSlim {xs : List Int} {A : Option Addr} {n c : Nat} {S : Nat → Prop} {w : World} (hs : Fl w S 4 xs A n c) :
    Calls Try.prog 30 #[.slice A n c] w fun e w' => ∃ v, e = .returned v ∧ w'.ownsRow w.heap.size 40 4 v (slimN xs n) (ints (slimR xs n)) ∧ Below w.heap.size w w' := by
  unfold slimN slimR
  have hco := specCodeOk hs
  cases hc : codeB xs n
  · rw [hc] at hco
    have HC := Lib.hid hco
    rw [slim_bad hc]
    clear hco hc
    go_enter Try.func30, Try.ntmps30
    go_wp2_with fail
    refine HC.out.mono ?_
    rintro e w1 ⟨rfl, hb⟩
    go_wp2_with fail
    go_ret
    have z1 := hb.size
    exact ⟨_, rfl, World.ownsRow_lit (base := w.heap.size) (e := 40) (size := 4) w1 #[] 0 z1 (Nat.zero_le _) rfl, hb.alloc z1 _⟩
  · rw [hc] at hco
    have HC := Lib.hid hco
    have HS := Lib.hid hs
    clear hco hc hs
    go_enter Try.func30, Try.ntmps30
    go_wp2_with fail
    refine HC.out.mono ?_
    rintro e w1 ⟨rfl, hb⟩
    have hz := hb.size
    go_wp2_with fail
    go_loopw [0, 3] (fun v i wr => ∃ k : Nat, k ≤ 60 ∧ i = .int .i64 k ∧ SlimRel xs n w k v wr) (fun _ i _ => 60 - (intOf i).toNat)
    case atStart => exact ⟨0, Nat.zero_le _, rfl, (xs, n), _, _, _, rfl, HS.out.later hb, fun h => by omega, rfl, hb⟩
    case round =>
      obtain ⟨k, hk, rfl, p, Ap, cp, Sp, rfl, hfl, hrow, hsl, hbw⟩ := hrel
      have hzw := hbw.size
      by_cases hlt : k < 60
      · have gk : (k : Int) < 60 := by omega
        obtain ⟨d, hd⟩ : ∃ d, 60 - k = d + 1 := ⟨59 - k, by omega⟩
        rw [hd] at hsl
        have HSL := Lib.hid hsl
        have HFL := Lib.hid hfl
        clear hsl hfl hrow
        go_wp2_with fail
        refine (specSlimJumps HFL.out).mono ?_
        rintro e w2 ⟨v2, rfl, o2, hb2⟩
        obtain ⟨A2, c2, rfl, f2⟩ := own_fl o2
        have z2 := hb2.size
        have HFL2 := Lib.hid (HFL.out.later hb2)
        clear o2 HFL
        go_wp2_with fail
        refine (specSlimDead f2).mono ?_
        rintro e w3 ⟨v3, rfl, o3, hb3⟩
        have z3 := hb3.size
        obtain ⟨A3, c3, rfl, f3⟩ := own_fl o3
        have HFL3 := Lib.hid (HFL2.out.later hb3)
        have bw3 := hbw.trans ((hb2.trans (hb3.mono z2)).mono hzw)
        have O3 := Lib.hid (own_mono o3 (show w.heap.size ≤ w2.heap.size by omega))
        have F3 := Lib.hid f3
        clear f2 f3 o3 hb2 hb3 HFL2
        go_wp2_with fail
        refine (specCodeSame F3.out HFL3.out).mono ?_
        rintro e w4 ⟨rfl, hb4⟩
        have bw4 := bw3.trans (hb4.mono bw3.size)
        have O4 := Lib.hid (own_below O3.out hb4)
        have F4 := Lib.hid (F3.out.later hb4)
        clear O3 F3 HFL3 hb4
        by_cases he : deadR (jumpsR p.1 p.2) (jumpsN p.1 p.2) = p.1
        · have HE := Lib.hid (show slimI 60 (xs, n) = stp p from by rw [← HSL.out, slimI]; exact if_pos he)
          rw [decide_eq_true he]
          clear he
          go_wp2_with fail
          go_ret
          refine ⟨_, rfl, ?_, bw4⟩
          rw [HE.out]; exact O4.out
        · have HE := Lib.hid (show slimI d (stp p) = slimI 60 (xs, n) from by rw [← HSL.out, slimI]; exact (if_neg he).symm)
          rw [decide_eq_false he]
          clear he
          go_wp2_with fail
          go_roundw
          case rel => exact ⟨k + 1, by omega, by go_num, stp p, _, _, _, rfl, F4.out, fun _ => O4.out, by rw [show 60 - (k + 1) = d from by omega]; exact HE.out, bw4⟩
          case measure => simp [intOf]; omega
      · obtain rfl : k = 60 := by omega
        have O4 := Lib.hid (hrow (by omega))
        have HE := Lib.hid (show p = slimI 60 (xs, n) from hsl)
        clear hrow hsl hfl
        go_wp2_with fail
        go_ret
        refine ⟨_, rfl, ?_, hbw⟩
        rw [← HE.out]; exact O4.out

theorem indexPass0 (W : World) : (Instr.index 64 (.agg #[.func (.func 26) #[] #[], .func (.func 29) #[] #[]]) (.int .i64 0)).run Try.prog W = .ok (.func (.func 26) #[] #[]) W := by kernel_rfl
theorem indexPass1 (W : World) : (Instr.index 64 (.agg #[.func (.func 26) #[] #[], .func (.func 29) #[] #[]]) (.int .i64 1)).run Try.prog W = .ok (.func (.func 29) #[] #[]) W := by kernel_rfl

set_option maxRecDepth 100000 in
set_option maxHeartbeats 4000000 in
theorem implSlim {xs : List Int} {A : Option Addr} {n c : Nat} {S : Nat → Prop} {w : World} (hs : Fl w S 4 xs A n c) :
    Calls Try.prog 31 #[.slice A n c] w fun e w' => ∃ v, e = .returned v ∧ w'.ownsRow w.heap.size 40 4 v (slimN xs n) (ints (slimR xs n)) ∧ Below w.heap.size w w' := by
  unfold slimN slimR
  have HS := Lib.hid hs
  clear hs
  go_enter Try.func31, Try.ntmps31
  go_wp2_with fail
  go_loopw [0, 6] (fun v i wr => ∃ k : Nat, k ≤ 60 ∧ i = .int .i64 k ∧ SlimRel xs n w k v wr) (fun _ i _ => 60 - (intOf i).toNat)
  case atStart => exact ⟨0, Nat.zero_le _, rfl, (xs, n), _, _, _, rfl, HS.out, fun h => by omega, rfl, Below.refl _ _⟩
  case round =>
    obtain ⟨k, hk, rfl, p, Ap, cp, Sp, rfl, hfl, hrow, hsl, hbw⟩ := hrel
    have hzw := hbw.size
    by_cases hlt : k < 60
    · have gk : (k : Int) < 60 := by omega
      obtain ⟨d, hd⟩ : ∃ d, 60 - k = d + 1 := ⟨59 - k, by omega⟩
      rw [hd] at hsl
      have HSL := Lib.hid hsl
      have HFL := Lib.hid hfl
      clear hsl hfl hrow
      go_wp2_with fail
      generalize wr = W0 at *
      clear wr
      go_loopw [0, 10] (fun v i W => (i = .int .i64 (0 : Nat) ∧ v = .slice Ap p.2 cp ∧ W = W0) ∨
          (i = .int .i64 (1 : Nat) ∧ ∃ A2 c2, v = .slice A2 (jumpsN p.1 p.2) c2 ∧ W.ownsRow W0.heap.size 40 4 v (jumpsN p.1 p.2) (ints (jumpsR p.1 p.2)) ∧ Below W0.heap.size W0 W) ∨
          (i = .int .i64 (2 : Nat) ∧ ∃ A2 c2, v = .slice A2 (stp p).2 c2 ∧ W.ownsRow W0.heap.size 40 4 v (stp p).2 (ints (stp p).1) ∧ Below W0.heap.size W0 W)) (fun _ i _ => 2 - (intOf i).toNat)
      case atStart => exact .inl ⟨rfl, rfl, rfl⟩
      case round =>
        rcases hrel with ⟨rfl, rfl, rfl⟩ | ⟨rfl, A2, c2, rfl, o2, hb2⟩ | ⟨rfl, A2, c2, rfl, o3, hb3⟩
        · have ix := indexPass0 wr
          go_wp2_with fail
          refine (implSlimJumps HFL.out).mono ?_
          rintro e w2 ⟨v2, rfl, o2, hb2⟩
          obtain ⟨A2, c2, rfl⟩ := own_slc' o2
          have O2 := Lib.hid (And.intro o2 hb2)
          clear o2 hb2
          go_wp2_with fail
          go_roundw
          case rel => exact .inr (.inl ⟨by go_num, A2, c2, rfl, O2.out.1, O2.out.2⟩)
          case measure => simp [intOf]
        · have ix := indexPass1 wr
          have F2 := Lib.hid (own_fl1 o2)
          go_wp2_with fail
          refine (implSlimDead F2.out).mono ?_
          rintro e w3 ⟨v3, rfl, o3, hb3⟩
          obtain ⟨A3, c3, rfl⟩ := own_slc' o3
          have O3 := Lib.hid (And.intro (own_mono o3 hb2.size) (hb2.trans (hb3.mono hb2.size)))
          clear o2 hb2 o3 hb3 F2
          go_wp2_with fail
          go_roundw
          case rel => exact .inr (.inr ⟨by go_num, A3, c3, rfl, O3.out.1, O3.out.2⟩)
          case measure => simp [intOf]
        · have O3 := Lib.hid o3
          have HFL3 := Lib.hid (HFL.out.later hb3)
          have bw3 := hbw.trans (hb3.mono hzw)
          have F3 := Lib.hid (own_fl1 o3)
          clear o3
          go_wp2_with fail
          refine (codeSame F3.out HFL3.out).mono ?_
          rintro e w4 ⟨rfl, hb4⟩
          have bw4 := bw3.trans (hb4.mono bw3.size)
          have O4 := Lib.hid (own_mono (own_below O3.out hb4) hzw)
          have F4 := Lib.hid (F3.out.later hb4)
          clear O3 F3 HFL3 hb4 hb3
          by_cases he : (stp p).1 = p.1
          · have HE := Lib.hid (show slimI 60 (xs, n) = stp p from by rw [← HSL.out, slimI]; exact if_pos he)
            rw [decide_eq_true he]
            clear he
            go_wp2_with fail
            go_ret
            refine ⟨_, rfl, ?_, bw4⟩
            rw [HE.out]; exact O4.out
          · have HE := Lib.hid (show slimI d (stp p) = slimI 60 (xs, n) from by rw [← HSL.out, slimI]; exact (if_neg he).symm)
            rw [decide_eq_false he]
            clear he
            go_wp2_with fail
            go_roundw
            case rel => exact ⟨k + 1, by omega, by go_num, stp p, _, _, _, rfl, F4.out, fun _ => O4.out, by rw [show 60 - (k + 1) = d from by omega]; exact HE.out, bw4⟩
            case measure => simp [intOf]; omega
    · obtain rfl : k = 60 := by omega
      have O4 := Lib.hid (hrow (by omega))
      have HE := Lib.hid (show p = slimI 60 (xs, n) from hsl)
      clear hrow hsl hfl
      go_wp2_with fail
      go_ret
      refine ⟨_, rfl, ?_, hbw⟩
      rw [← HE.out]; exact O4.out
end Go.Proofs.Ytogpfagdpkjmmaa
