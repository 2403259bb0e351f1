/- SlimJumps, of the program and of the model. -/
import Derived.Test.YtogpfagdpkjmmaaSlimJumpsI
import Derived.Test.YtogpfagdpkjmmaaSlimReach
namespace Go.Proofs.Ytogpfagdpkjmmaa
open Go.ChangeShapes Go.WideShapes Go.ChangeAt Go.RowKit

set_option maxRecDepth 100000 in
theorem implSlimJumps {xs : List Int} {A : Option Addr} {n c : Nat} {S : Nat → Prop} {w : World} (hs : Fl w S 4 xs A n c) :
    Calls Try.prog 26 #[.slice A n c] w fun e w' => ∃ v, e = .returned v ∧ w'.ownsRow w.heap.size 40 4 v (jumpsN xs n) (ints (jumpsR xs n)) ∧ Below w.heap.size w w' := by
  cases hc : codeB xs n
  · have hbA : Below w.heap.size w (w.alloc (.cells #[.slice A n c] 25)) := (Below.refl _ _).alloc (Nat.le_refl _) _
    have hco := codeOk (hs.later hbA)
    rw [hc] at hco
    have HC := Lib.hid hco
    rw [show jumpsR xs n = [] from by unfold jumpsR; rw [hc]; rfl, show jumpsN xs n = 0 from by unfold jumpsN; rw [hc]; rfl]
    clear hco hc
    go_enter Try.func26, Try.ntmps26
    go_wp2_with fail
    refine HC.out.mono ?_
    rintro e w1 ⟨rfl, hb⟩
    go_wp2_with fail
    go_ret
    exact ⟨_, rfl, World.ownsRow_nil _ _ _ _, hbA.trans (hb.mono (by simp))⟩
  · have h := (callsIn_wide (n := 6)).1 (slimJumpsR hs (codeB_true hs.len hc) hc)
    rw [show jumpsR xs n = turnK xs (jumpF xs n) n from by unfold jumpsR; rw [if_pos hc], show jumpsN xs n = n from by unfold jumpsN; rw [if_pos hc]]
    exact h

set_option maxRecDepth 100000 in
set_option maxHeartbeats 4000000 in
theorem specSlimJumps {xs : List Int} {A : Option Addr} {n c : Nat} {S : Nat → Prop} {w : World} (hs : Fl w S 4 xs A n c) :
    Calls Try.prog 25 #[.slice A n c] w fun e w' => ∃ v, e = .returned v ∧ w'.ownsRow w.heap.size 40 4 v (jumpsN xs n) (ints (jumpsR xs n)) ∧ Below w.heap.size w w' := by
  cases hc : codeB xs n
  · have hco := specCodeOk hs
    rw [hc] at hco
    have HC := Lib.hid hco
    rw [show jumpsR xs n = [] from by unfold jumpsR; rw [hc]; rfl, show jumpsN xs n = 0 from by unfold jumpsN; rw [hc]; rfl]
    clear hco hc
    go_enter Try.func25, Try.ntmps25
    go_wp2_with fail
    refine HC.out.mono ?_
    rintro e w1 ⟨rfl, hb⟩
    go_wp2_with fail
    go_ret
    have z1 := hb.size
    exact ⟨_, rfl, World.ownsRow_lit (base := w.heap.size) (e := 40) (size := 4) w1 #[] 0 z1 (Nat.zero_le _) rfl, hb.alloc z1 _⟩
  · have hr := codeB_true hs.len hc
    have hn60 := hr.hi
    have hn1 := hr.lo
    have hlen := hs.len
    obtain ⟨a, rfl⟩ := hs.some (by omega)
    obtain ⟨i0, hi, hz0, hz1, hz2⟩ := info_parts infoIns
    have hco := specCodeOk hs
    rw [hc] at hco
    have HC := Lib.hid hco
    have HR := Lib.hid hr
    have HS := Lib.hid hs
    have h1 := ints_one9 xs
    have hl : (ints xs).length = n * 4 := by rw [ints_len]; exact hlen
    rw [show jumpsR xs n = turnK xs (jumpF xs n) n from by unfold jumpsR; rw [if_pos hc], show jumpsN xs n = n from by unfold jumpsN; rw [if_pos hc]]
    clear hco hc hs hr
    go_enter Try.func25, Try.ntmps25
    go_wp2_with fail
    refine HC.out.mono ?_
    rintro e w1 ⟨rfl, hb⟩
    have z1 := hb.size
    have b0 : Below w1.heap.size w1 (w1.alloc (.cells #[] 40)) := (Below.refl _ _).alloc (Nat.le_refl _) _
    have hnil := World.ownsRow_lit (base := w1.heap.size) (e := 40) (size := 4) w1 #[] 0 (Nat.le_refl _) (Nat.zero_le _) rfl
    have hc2 := flNews ((HS.out.later hb).later b0)
    go_wp2_with (first | (at_builtin; refine wpList_append_own _ rfl _ _ 25 rfl w1.heap.size 40 i0 _ 4 32 Try.underlying25 hi hz0 hz1 hz2 rfl (by decide) _ 0 [] rfl hnil a n c (ints xs) rfl hl hc2 h1 ?c1 ?c2 b0.size ?_) | fail)
    case c1 => unfold maxLen; omega
    case c2 => omega
    intro v' w2 hown' hgrow _
    have hb2 : Below w1.heap.size w1 w2 := b0.grown hgrow b0.size (fun b hb' => (own_at hnil hb').1)
    have ho2 : w2.ownsRow w1.heap.size 40 4 v' n (ints xs) := by simpa using hown'
    obtain ⟨g, cap, rfl, _, _⟩ := own_some' ho2 (by omega)
    have HO := Lib.hid ho2
    clear hown' hgrow hnil hc2 hl h1 ho2 b0
    go_wp2_with fail
    go_loopw [4] (fun i wr => ∃ k : Nat, k ≤ n ∧ i = .int .i64 k ∧ wr.ownsRow w1.heap.size 40 4 (.slice (some ⟨g, 0, none⟩) n cap) n (ints (turnK xs (jumpF xs n) k)) ∧ Below w1.heap.size w1 wr) (fun i _ => n - (intOf i).toNat)
    case atStart => exact ⟨0, Nat.zero_le _, rfl, HO.out, hb2⟩
    case round =>
      clear HO hb2
      obtain ⟨k, hk, rfl, hown, hbw⟩ := hrel
      by_cases hlt : k < n
      · have hyl : (turnK xs (jumpF xs n) k).length = n * 4 := by rw [turnK_len]; exact hlen
        have c0 := hown.cellAt (k * 4) (by omega)
        rw [ints_get (by omega)] at c0
        have h0 : (turnK xs (jumpF xs n) k).getD (k * 4) 0 = opC xs k := turnK_op _ _ _ _
        rw [h0] at c0
        have hgg := own_at hown (b := g) rfl
        have HOW := Lib.hid hown
        cases hT : isT xs k
        · have HN := Lib.hid (show turnK xs (jumpF xs n) (k + 1) = turnK xs (jumpF xs n) k from by rw [turnK, hT]; rfl)
          have hne : opC xs k ≠ 6 ∧ opC xs k ≠ 7 := by unfold isT at hT; have := of_decide_eq_false hT; omega
          have e6 : (opC xs k == 6) = false := by simpa using hne.1
          have e7 : (opC xs k == 7) = false := by simpa using hne.2
          generalize opC xs k = o at *
          clear hown h0 hne
          go_wp2_with fail
          go_roundw
          case rel => exact ⟨k + 1, by omega, by go_num, by rw [HN.out]; exact HOW.out, hbw⟩
          case measure => simp [intOf]; omega
        · have h67 : opC xs k = 6 ∨ opC xs k = 7 := by unfold isT at hT; exact of_decide_eq_true hT
          have hto := insB_to (HR.out.ins k hlt) h67
          obtain ⟨t, ht⟩ : ∃ t : Nat, toC xs k = (t : Int) := ⟨(toC xs k).toNat, by omega⟩
          have hjf : jumpF xs n k = (endTo xs n t : Nat) := by unfold jumpF; rw [ht]; rfl
          have hfl := HS.out.later (hb.trans (hbw.mono z1))
          have c3 := (hfl.four k hlt).2.2.2
          have h3 : xs.getD (k * 4 + 3) 0 = (t : Int) := ht
          rw [h3] at c3
          rw [ht] at hto
          have HCE := Lib.hid (l9To_ hfl HR.out t (by omega))
          have f3 := hown.frozenAt (k * 4 + 3)
          have ct := hown.cellAt (k * 4 + 3) (by omega)
          rw [ints_get (by omega)] at ct
          have hst := hown.stored (k * 4 + 3) (.int .i64 (endTo xs n t : Nat))
          rw [ints_set] at hst
          have HST := Lib.hid hst.1
          have HN := Lib.hid (show turnK xs (jumpF xs n) (k + 1) = (turnK xs (jumpF xs n) k).set (k * 4 + 3) (endTo xs n t : Nat) from by rw [turnK, if_pos hT, hjf])
          have HBN := Lib.hid (hbw.setCell (p := ⟨g, k * 4 + 3, none⟩) hgg.1 (.int .i64 (endTo xs n t : Nat)))
          generalize opC xs k = o at *
          clear hown h0 hst hjf hfl h3 ht
          rcases h67 with rfl | rfl
          all_goals
            go_wp2_with fail
            refine HCE.out.mono ?_
            rintro e w5 ⟨rfl, rfl⟩
            go_wp2_with fail
            go_roundw
            case rel => exact ⟨k + 1, by omega, by go_num, by rw [HN.out]; exact HST.out, HBN.out⟩
            case measure => simp [intOf]; omega
      · obtain rfl : k = n := by omega
        have HOW := Lib.hid (own_mono hown z1)
        clear hown
        go_wp2_with fail
        go_ret
        exact ⟨_, rfl, HOW.out, hb.trans (hbw.mono z1)⟩
end Go.Proofs.Ytogpfagdpkjmmaa
