/- SlimReach, of the program and of the model. -/
import Derived.Test.YtogpfagdpkjmmaaSlimReachI
import Derived.Test.YtogpfagdpkjmmaaSpecCodeOk
namespace Go.Proofs.Ytogpfagdpkjmmaa
open Go.ChangeShapes Go.WideShapes Go.ChangeAt Go.RowKit

theorem codeB_true {xs : List Int} {n : Nat} (hl : xs.length = n * 4) (h : codeB xs n = true) : Right xs n := by
  have h1 : 1 ≤ n ∧ n ≤ 60 := by
    apply Classical.byContradiction
    intro hn
    rw [codeB_few hn] at h; cases h
  have h2 : ∀ i, i < n → insB (opC xs i) (aC xs i) (bC xs i) (toC xs i) n = true ∧ (opC xs i = 13 ↔ i + 1 = n) := fun i hi => by
    apply Classical.byContradiction
    intro hn
    rw [codeB_not hi hn] at h; cases h
  exact ⟨hl, h1.1, h1.2, fun i hi => (h2 i hi).1, fun i hi => (h2 i hi).2⟩

open Classical in
/-- What SlimReach answers. -/
noncomputable def reachR (xs : List Int) (n : Nat) : List Bool := if codeB xs n = true then comeL xs n else []
theorem reachR_len (xs : List Int) (n : Nat) : (reachR xs n).length ≤ n := by
  unfold reachR
  split
  · rw [comeL_len]; omega
  · simp

set_option maxRecDepth 100000 in
theorem implSlimReach {xs : List Int} {A : Option Addr} {n c : Nat} {S : Nat → Prop} {w : World} (hs : Fl w S 4 xs A n c) :
    Calls Try.prog 20 #[.slice A n c] w fun e w' => ∃ v, e = .returned v ∧ w'.ownsRow w.heap.size 4 1 v (reachR xs n).length (bls (reachR xs n)) ∧ Below w.heap.size w w' := by
  cases hc : codeB xs n
  · have hco := codeOk hs
    rw [hc] at hco
    have HC := Lib.hid hco
    rw [show reachR xs n = [] from by unfold reachR; rw [hc]; rfl]
    clear hco hc
    go_enter Try.func20, Try.ntmps20
    go_wp2_with fail
    refine HC.out.mono ?_
    rintro e w1 ⟨rfl, hb⟩
    go_wp2_with fail
    go_ret
    exact ⟨_, rfl, World.ownsRow_nil _ _ _ _, hb⟩
  · have h := (callsIn_wide (n := 6)).1 (slimReachR hs (codeB_true hs.len hc) hc)
    rw [show reachR xs n = comeL xs n from by unfold reachR; rw [if_pos hc], comeL_len]
    exact h

set_option maxRecDepth 100000 in
set_option maxHeartbeats 2000000 in
/-- The model's row of places to which one may come. -/
theorem l9Reach_ {xs : List Int} {A : Option Addr} {n c : Nat} {S : Nat → Prop} {w : World} (hs : Fl w S 4 xs A n c) (hr : Right xs n) (hc : codeB xs n = true) :
    Calls Try.prog 48 #[.slice A n c] w fun e w' => ∃ v, e = .returned v ∧ w'.ownsRow w.heap.size 4 1 v n (bls (comeL xs n)) ∧ Below w.heap.size w w' := by
  have hn60 := hr.hi
  have hro : roomsB xs n = true := by rw [← codeB_right hr]; exact hc
  obtain ⟨i0, hi, hz0, hz1, hz2⟩ := info_parts infoBool
  have HRO := Lib.hid (specRoomsR hs hr)
  have HTR := Lib.hid hro
  clear hro hc
  go_enter Try.func48, Try.ntmps48
  go_wp2_with fail
  refine HRO.out.mono ?_
  rintro e w1 ⟨⟨v, rfl, hrow⟩, hb1⟩
  obtain ⟨R, oR, hR⟩ := hrow HTR.out
  have z1 := hb1.size
  have hRl : R.length = n := by have := oR.1; rw [ints_len] at this; omega
  have HRC := Lib.hid hR
  clear hrow hR HRO
  rw [HTR.out]
  go_wp2_with fail
  go_loopw [5, 6] (fun v i wr => ∃ k : Nat, k ≤ n ∧ i = .int .i64 k ∧ wr.ownsRow w1.heap.size 4 1 v k (bls ((comeL xs n).take k)) ∧ Below w1.heap.size w1 wr) (fun _ i _ => n - (intOf i).toNat)
  case atStart =>
    refine ⟨0, Nat.zero_le _, rfl, ?_, (Below.refl _ _).alloc (Nat.le_refl _) _⟩
    exact World.ownsRow_lit (base := w1.heap.size) (e := 4) (size := 1) w1 #[] 0 (Nat.le_refl _) (Nat.zero_le _) rfl
  case round =>
    obtain ⟨k, hk, rfl, hown, hb⟩ := hrel
    have hsz := hb.size
    by_cases hlt : k < n
    · have oR' := own_below oR hb
      obtain ⟨gr, cr, rfl, _, _⟩ := own_some' oR' (by omega)
      have cr0 := oR'.cellAt k (by omega)
      rw [ints_get (by omega)] at cr0
      have hcome := HRC.out k hlt
      have hget : (comeL xs n).getD k false = decide (0 ≤ R.getD k 0) := by
        classical
        rw [comeL_get hlt]
        exact decide_eq_decide.2 hcome.symm
      have htk : bls ((comeL xs n).take k) ++ [Value.bool (decide (0 ≤ R.getD k 0))] = bls ((comeL xs n).take (k + 1)) := by
        have hlk : k < (comeL xs n).length := by rw [comeL_len]; exact hlt
        rw [← hget, List.take_add_one]
        unfold bls
        rw [List.map_append]
        congr 1
        simp [List.getD, hlk]
      have HTK := Lib.hid htk
      clear htk hget hcome oR' oR
      generalize R.getD k 0 = r at *
      go_wp2_with (first | (at_builtin; refine wpList_append_at _ rfl _ _ 29 rfl w1.heap.size 4 i0 (.bool false) 1 1 Try.underlying29 hi hz0 hz1 hz2 rfl (by decide) _ _ _ rfl (hown.alloc _) ⟨wr.heap.size, 0, none⟩ 1 1 [.bool (decide (0 ≤ r))] rfl rfl ?c1 ?c2 ?c3 ?c4 ?c5 (by decide) ?_) | fail)
      case c1 =>
        intro j u hj
        match j, hj with
        | 0, hj => simp at hj; subst hj; simp [Addr.add]
      case c2 => intro u hu; simp at hu; subst hu; rfl
      case c3 => unfold maxLen; omega
      case c4 => omega
      case c5 => simp; omega
      intro v' w2 hown' hgrow _
      have hbw : Below w1.heap.size w1 w2 := (hb.alloc hsz _).grown hgrow (by simp; omega) (fun b hb' => (own_at hown hb').1)
      rw [HTK.out] at hown'
      have HO := Lib.hid hown'
      clear hown' hown hgrow HTK
      go_wp2_with fail
      go_roundw
      case rel => exact ⟨k + 1, by omega, by go_num, HO.out, hbw⟩
      case measure => simp [intOf]; omega
    · obtain rfl : n = k := by omega
      rw [List.take_of_length_le (by rw [comeL_len]; exact Nat.le_refl _)] at hown
      have HO := Lib.hid (own_mono hown z1)
      obtain ⟨AO, cO, rfl⟩ := own_slc' hown
      clear hown oR
      go_wp2_with fail
      go_ret
      exact ⟨_, rfl, HO.out, hb1.trans (hb.mono z1)⟩

set_option maxRecDepth 100000 in
theorem specSlimReach {xs : List Int} {A : Option Addr} {n c : Nat} {S : Nat → Prop} {w : World} (hs : Fl w S 4 xs A n c) :
    Calls Try.prog 19 #[.slice A n c] w fun e w' => ∃ v, e = .returned v ∧ w'.ownsRow w.heap.size 4 1 v (reachR xs n).length (bls (reachR xs n)) ∧ Below w.heap.size w w' := by
  cases hc : codeB xs n
  · have hco := specCodeOk hs
    rw [hc] at hco
    have HC := Lib.hid hco
    rw [show reachR xs n = [] from by unfold reachR; rw [hc]; rfl]
    clear hco hc
    go_enter Try.func19, Try.ntmps19
    go_wp2_with fail
    refine HC.out.mono ?_
    rintro e w1 ⟨rfl, hb⟩
    go_wp2_with fail
    go_ret
    have z1 := hb.size
    exact ⟨_, rfl, World.ownsRow_lit (base := w.heap.size) (e := 4) (size := 1) w1 #[] 0 z1 (Nat.zero_le _) rfl, hb.alloc z1 _⟩
  · have hco := specCodeOk hs
    rw [hc] at hco
    have HC := Lib.hid hco
    have HL := Lib.hid (fun (W : World) (h : Below w.heap.size w W) => l9Reach_ (hs.later h) (codeB_true hs.len hc) hc)
    rw [show reachR xs n = comeL xs n from by unfold reachR; rw [if_pos hc], comeL_len]
    clear hco hc
    go_enter Try.func19, Try.ntmps19
    go_wp2_with fail
    refine HC.out.mono ?_
    rintro e w1 ⟨rfl, hb⟩
    go_wp2_with fail
    refine (HL.out w1 hb).mono ?_
    rintro e w2 ⟨v, rfl, ho, hb2⟩
    have HO := Lib.hid (own_mono ho hb.size)
    obtain ⟨AO, cO, rfl⟩ := own_slc' ho
    clear ho
    go_wp2_with fail
    go_ret
    exact ⟨_, rfl, HO.out, hb.trans (hb2.mono hb.size)⟩
end Go.Proofs.Ytogpfagdpkjmmaa
