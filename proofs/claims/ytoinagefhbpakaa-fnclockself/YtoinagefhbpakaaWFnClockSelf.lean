/- The walk of laws.FnClockSelf (written by tools/gen_clocklaws.py). -/
import Derived.Test.YtoinagefhbpakaaDrawClock
import Derived.Test.YtoinagefhbpakaaClockPure
namespace Go.Proofs.Ytoinagefhbpakaa
open Go.ChangeShapes Go.WideShapes Go.ChangeAt Go.RowKit


theorem implJ {xs ys js : List Int} {A B : Option Addr} {c d : Nat} {w : World} (h : joinL xs ys = js) (hs : Fl w (fun _ => True) 1 xs A xs.length c) (ht : Fl w (fun _ => True) 1 ys B ys.length d) (hn : xs.length ≤ 3) (hm : ys.length ≤ 3) :
    Calls Try.prog 13 #[.slice A xs.length c, .slice B ys.length d] w fun e w' => ∃ (C : Option Addr) (k : Nat), e = .returned (.slice C js.length k) ∧ Fl w' (fun _ => True) 1 js C js.length k ∧ Below w.heap.size w w' := by
  subst h
  refine (implClockJoin hs ht (by omega) (by omega)).mono ?_
  rintro e w' ⟨v, rfl, ho, hb⟩
  obtain ⟨C, k, rfl, hf⟩ := own_fl ho
  exact ⟨C, k, rfl, hf.mono fun _ _ => trivial, hb⟩

theorem specJ {xs ys js : List Int} {A B : Option Addr} {c d : Nat} {w : World} (h : joinL xs ys = js) (hs : Fl w (fun _ => True) 1 xs A xs.length c) (ht : Fl w (fun _ => True) 1 ys B ys.length d) (hn : xs.length ≤ 3) (hm : ys.length ≤ 3) :
    Calls Try.prog 11 #[.slice A xs.length c, .slice B ys.length d] w fun e w' => ∃ (C : Option Addr) (k : Nat), e = .returned (.slice C js.length k) ∧ Fl w' (fun _ => True) 1 js C js.length k ∧ Below w.heap.size w w' := by
  subst h
  refine (specClockJoin hs ht (by omega) (by omega)).mono ?_
  rintro e w' ⟨v, rfl, ho, hb⟩
  obtain ⟨C, k, rfl, hf⟩ := own_fl ho
  exact ⟨C, k, rfl, hf.mono fun _ _ => trivial, hb⟩

theorem implU {xs ys : List Int} {b : Bool} {A B : Option Addr} {c d : Nat} {w : World} (h : underB xs ys = b) (hs : Fl w (fun _ => True) 1 xs A xs.length c) (ht : Fl w (fun _ => True) 1 ys B ys.length d) :
    Calls Try.prog 18 #[.slice A xs.length c, .slice B ys.length d] w fun e w' => e = .returned (.bool b) ∧ Below w.heap.size w w' := by
  subst h
  exact implClockUnder hs ht

theorem specU {xs ys : List Int} {b : Bool} {A B : Option Addr} {c d : Nat} {w : World} (h : underB xs ys = b) (hs : Fl w (fun _ => True) 1 xs A xs.length c) (ht : Fl w (fun _ => True) 1 ys B ys.length d) :
    Calls Try.prog 17 #[.slice A xs.length c, .slice B ys.length d] w fun e w' => e = .returned (.bool b) ∧ Below w.heap.size w w' := by
  subst h
  exact specClockUnder hs ht

set_option maxRecDepth 100000 in
set_option maxHeartbeats 2000000 in
theorem wFnClockSelf (A : Option Addr) (n c : Nat) (w : World) (h : Bytes w A n) (hn : n ≤ c) (hc : c ≤ maxLen) :
    Calls Try.prog 8 #[.slice A n c] w fun e w' => e = .returned (.bool true) ∧ Below w.heap.size w w' := by
  have n9 : n ≤ 9223372036854775807 := by unfold maxLen at hc; omega
  by_cases hl : 1048576 < n
  · go_enter Try.func8, Try.ntmps8
    go_wp2_with fail
    go_ret
    exact ⟨rfl, Below.refl _ _⟩
  have hl1 : ¬ 1048576 < (n : Int) := by omega
  have b0 : Below w.heap.size w w := Below.refl _ _
  go_enter Try.func8, Try.ntmps8
  go_wp2_with fail
  refine (drawClockUnder A n c _ h hn hc).mono ?_
  rintro e w1 ⟨xs, ys, Axs, Ays, cxs, cys, rfl, Fxs, Fys, lx, ly, hb⟩
  have b1 := b0.trans (hb.mono b0.size)
  replace Fxs := Lib.hid Fxs
  replace Fys := Lib.hid Fys
  clear hb b0
  obtain ⟨js, hj⟩ : ∃ js, joinL xs xs = js := ⟨_, rfl⟩
  have lj : js.length ≤ 3 := by rw [← hj, joinL_len]; omega
  obtain ⟨x, hx⟩ : ∃ b, underB xs ys = b := ⟨_, rfl⟩
  have H1 := Lib.hid hj
  have H2 := Lib.hid hx
  have H3 := Lib.hid (underB_self xs)
  have H4 := Lib.hid (underB_nil xs)
  have H5 := Lib.hid (show joinL js [] = js by rw [← hj]; exact joinL_nil ..)
  clear hj hx
  have FN : ∀ W : World, Fl W (fun _ => True) 1 [] none 0 0 := fun W => ⟨rfl, Nat.le_refl _, Nat.zero_le _, fun _ => rfl, fun a ha => by cases ha⟩
  go_wp2_with fail
  refine (implJ H1.out Fxs.out Fxs.out lx lx).mono ?_
  rintro e w2 ⟨Ajs, cjs, rfl, Fjs, hb⟩
  have b2 := b1.trans (hb.mono b1.size)
  replace Fxs := Lib.hid (Fxs.out.later hb)
  replace Fys := Lib.hid (Fys.out.later hb)
  replace Fjs := Lib.hid Fjs
  clear hb b1
  go_wp2_with fail
  refine (specJ H1.out Fxs.out Fxs.out lx lx).mono ?_
  rintro e w3 ⟨Aws, cws, rfl, Fws, hb⟩
  have b3 := b2.trans (hb.mono b2.size)
  replace Fxs := Lib.hid (Fxs.out.later hb)
  replace Fys := Lib.hid (Fys.out.later hb)
  replace Fjs := Lib.hid (Fjs.out.later hb)
  replace Fws := Lib.hid Fws
  clear hb b2
  go_wp2_with fail
  refine (wpInts_ Fjs.out Fws.out).mono ?_
  rintro e w4 ⟨rfl, hb⟩
  have b4 := b3.trans (hb.mono b3.size)
  replace Fxs := Lib.hid (Fxs.out.later hb)
  replace Fys := Lib.hid (Fys.out.later hb)
  replace Fjs := Lib.hid (Fjs.out.later hb)
  replace Fws := Lib.hid (Fws.out.later hb)
  clear hb b3
  cases x
  · skip
    go_wp2_with fail
    refine (implU H2.out Fxs.out Fys.out).mono ?_
    rintro e w5 ⟨rfl, hb⟩
    have b5 := b4.trans (hb.mono b4.size)
    replace Fxs := Lib.hid (Fxs.out.later hb)
    replace Fys := Lib.hid (Fys.out.later hb)
    replace Fjs := Lib.hid (Fjs.out.later hb)
    replace Fws := Lib.hid (Fws.out.later hb)
    clear hb b4
    go_wp2_with fail
    refine (specU H2.out Fxs.out Fys.out).mono ?_
    rintro e w6 ⟨rfl, hb⟩
    have b6 := b5.trans (hb.mono b5.size)
    replace Fxs := Lib.hid (Fxs.out.later hb)
    replace Fys := Lib.hid (Fys.out.later hb)
    replace Fjs := Lib.hid (Fjs.out.later hb)
    replace Fws := Lib.hid (Fws.out.later hb)
    clear hb b5
    clear Fys Fws
    go_wp2_with fail
    go_loopw [6, 7] (fun r i wr => ∃ (k : Nat) (b : Bool), k ≤ xs.length ∧ i = .int .i64 k ∧ r = .bool b ∧ Go.RowKit.Hid (b = true → ∀ j, j < k → 0 ≤ xs.getD j 0) ∧ Below w6.heap.size w6 wr) (fun _ i _ => xs.length - (intOf i).toNat)
    case atStart => exact ⟨0, true, Nat.zero_le _, rfl, rfl, Lib.hid fun _ j hj => by omega, Below.refl _ _⟩
    case round =>
      obtain ⟨k, b, hk, rfl, rfl, HT, hb⟩ := hrel
      by_cases hlt : k < xs.length
      · obtain ⟨a, hA⟩ := Fxs.out.some (by omega)
        subst hA
        have c0 := (Fxs.out.later hb).one k hlt
        obtain ⟨x0, hx0⟩ : ∃ z, xs.getD k 0 = z := ⟨_, rfl⟩
        rw [hx0] at c0
        have HX := Lib.hid hx0
        clear hx0
        cases b
        · have HN : Go.RowKit.Hid (false = true → ∀ j, j < k + 1 → 0 ≤ xs.getD j 0) := Lib.hid fun h => by cases h
          go_wp2_with fail
          go_roundw
          case rel => exact ⟨k + 1, false, by omega, by go_num, rfl, HN, hb⟩
          case measure => simp [intOf]; omega
        · by_cases h0 : 0 ≤ x0
          · have HN : Go.RowKit.Hid (true = true → ∀ j, j < k + 1 → 0 ≤ xs.getD j 0) := Lib.hid fun _ j hj => by
              by_cases e : j = k
              · subst e; rw [HX.out]; exact h0
              · exact HT.out rfl j (by omega)
            have h0d : decide (0 ≤ x0) = true := decide_eq_true h0
            go_wp2_with fail
            go_roundw
            case rel => exact ⟨k + 1, true, by omega, by go_num, by first | rfl | simp [h0d] | simp [h0], HN, hb⟩
            case measure => simp [intOf]; omega
          · have HN : Go.RowKit.Hid (false = true → ∀ j, j < k + 1 → 0 ≤ xs.getD j 0) := Lib.hid fun h => by cases h
            have h0d : decide (0 ≤ x0) = false := decide_eq_false h0
            go_wp2_with fail
            go_roundw
            case rel => exact ⟨k + 1, false, by omega, by go_num, by first | rfl | simp [h0d] | (simp; omega), HN, hb⟩
            case measure => simp [intOf]; omega
      · have hkx : k = xs.length := by omega
        obtain ⟨w7, hw⟩ : ∃ W, W = wr := ⟨_, rfl⟩
        subst hw
        have b7 := b6.trans (hb.mono b6.size)
        replace Fxs := Lib.hid (Fxs.out.later hb)
        replace Fjs := Lib.hid (Fjs.out.later hb)
        clear hb b6
        cases b
        · skip
          clear HT
          go_wp2_with fail
          refine (implU H3.out Fxs.out Fxs.out).mono ?_
          rintro e w8 ⟨rfl, hb⟩
          have b8 := b7.trans (hb.mono b7.size)
          replace Fxs := Lib.hid (Fxs.out.later hb)
          replace Fjs := Lib.hid (Fjs.out.later hb)
          clear hb b7
          go_wp2_with fail
          refine (implU H4.out (FN _) Fxs.out).mono ?_
          rintro e w9 ⟨rfl, hb⟩
          have b9 := b8.trans (hb.mono b8.size)
          replace Fxs := Lib.hid (Fxs.out.later hb)
          replace Fjs := Lib.hid (Fjs.out.later hb)
          clear hb b8
          go_wp2_with fail
          refine (implJ H5.out Fjs.out (FN _) lj (by simp)).mono ?_
          rintro e w10 ⟨Ats, cts, rfl, Fts, hb⟩
          have b10 := b9.trans (hb.mono b9.size)
          replace Fxs := Lib.hid (Fxs.out.later hb)
          replace Fjs := Lib.hid (Fjs.out.later hb)
          replace Fts := Lib.hid Fts
          clear hb b9
          go_wp2_with fail
          refine (wpInts_ Fts.out Fjs.out).mono ?_
          rintro e w11 ⟨rfl, hb⟩
          have b11 := b10.trans (hb.mono b10.size)
          replace Fxs := Lib.hid (Fxs.out.later hb)
          replace Fjs := Lib.hid (Fjs.out.later hb)
          replace Fts := Lib.hid (Fts.out.later hb)
          clear hb b10
          go_wp2_with fail
          go_ret
          exact ⟨rfl, b11⟩
        · skip
          have H6 := Lib.hid (joinL_self (fun j hj => HT.out rfl j (by omega)))
          clear HT
          go_wp2_with fail
          refine (implU H3.out Fxs.out Fxs.out).mono ?_
          rintro e w8 ⟨rfl, hb⟩
          have b8 := b7.trans (hb.mono b7.size)
          replace Fxs := Lib.hid (Fxs.out.later hb)
          replace Fjs := Lib.hid (Fjs.out.later hb)
          clear hb b7
          go_wp2_with fail
          refine (implU H4.out (FN _) Fxs.out).mono ?_
          rintro e w9 ⟨rfl, hb⟩
          have b9 := b8.trans (hb.mono b8.size)
          replace Fxs := Lib.hid (Fxs.out.later hb)
          replace Fjs := Lib.hid (Fjs.out.later hb)
          clear hb b8
          go_wp2_with fail
          refine (wpInts_ Fjs.out (by have := H1.out; rw [H6.out] at this; subst this; exact Fxs.out)).mono ?_
          rintro e w10 ⟨rfl, hb⟩
          have b10 := b9.trans (hb.mono b9.size)
          replace Fxs := Lib.hid (Fxs.out.later hb)
          replace Fjs := Lib.hid (Fjs.out.later hb)
          clear hb b9
          go_wp2_with fail
          refine (implJ H5.out Fjs.out (FN _) lj (by simp)).mono ?_
          rintro e w11 ⟨Ats, cts, rfl, Fts, hb⟩
          have b11 := b10.trans (hb.mono b10.size)
          replace Fxs := Lib.hid (Fxs.out.later hb)
          replace Fjs := Lib.hid (Fjs.out.later hb)
          replace Fts := Lib.hid Fts
          clear hb b10
          go_wp2_with fail
          refine (wpInts_ Fts.out Fjs.out).mono ?_
          rintro e w12 ⟨rfl, hb⟩
          have b12 := b11.trans (hb.mono b11.size)
          replace Fxs := Lib.hid (Fxs.out.later hb)
          replace Fjs := Lib.hid (Fjs.out.later hb)
          replace Fts := Lib.hid (Fts.out.later hb)
          clear hb b11
          go_wp2_with fail
          go_ret
          exact ⟨rfl, b12⟩
  · skip
    go_wp2_with fail
    refine (implU H2.out Fxs.out Fys.out).mono ?_
    rintro e w5 ⟨rfl, hb⟩
    have b5 := b4.trans (hb.mono b4.size)
    replace Fxs := Lib.hid (Fxs.out.later hb)
    replace Fys := Lib.hid (Fys.out.later hb)
    replace Fjs := Lib.hid (Fjs.out.later hb)
    replace Fws := Lib.hid (Fws.out.later hb)
    clear hb b4
    go_wp2_with fail
    refine (specU H2.out Fxs.out Fys.out).mono ?_
    rintro e w6 ⟨rfl, hb⟩
    have b6 := b5.trans (hb.mono b5.size)
    replace Fxs := Lib.hid (Fxs.out.later hb)
    replace Fys := Lib.hid (Fys.out.later hb)
    replace Fjs := Lib.hid (Fjs.out.later hb)
    replace Fws := Lib.hid (Fws.out.later hb)
    clear hb b5
    clear Fys Fws
    go_wp2_with fail
    go_loopw [6, 7] (fun r i wr => ∃ (k : Nat) (b : Bool), k ≤ xs.length ∧ i = .int .i64 k ∧ r = .bool b ∧ Go.RowKit.Hid (b = true → ∀ j, j < k → 0 ≤ xs.getD j 0) ∧ Below w6.heap.size w6 wr) (fun _ i _ => xs.length - (intOf i).toNat)
    case atStart => exact ⟨0, true, Nat.zero_le _, rfl, rfl, Lib.hid fun _ j hj => by omega, Below.refl _ _⟩
    case round =>
      obtain ⟨k, b, hk, rfl, rfl, HT, hb⟩ := hrel
      by_cases hlt : k < xs.length
      · obtain ⟨a, hA⟩ := Fxs.out.some (by omega)
        subst hA
        have c0 := (Fxs.out.later hb).one k hlt
        obtain ⟨x0, hx0⟩ : ∃ z, xs.getD k 0 = z := ⟨_, rfl⟩
        rw [hx0] at c0
        have HX := Lib.hid hx0
        clear hx0
        cases b
        · have HN : Go.RowKit.Hid (false = true → ∀ j, j < k + 1 → 0 ≤ xs.getD j 0) := Lib.hid fun h => by cases h
          go_wp2_with fail
          go_roundw
          case rel => exact ⟨k + 1, false, by omega, by go_num, rfl, HN, hb⟩
          case measure => simp [intOf]; omega
        · by_cases h0 : 0 ≤ x0
          · have HN : Go.RowKit.Hid (true = true → ∀ j, j < k + 1 → 0 ≤ xs.getD j 0) := Lib.hid fun _ j hj => by
              by_cases e : j = k
              · subst e; rw [HX.out]; exact h0
              · exact HT.out rfl j (by omega)
            have h0d : decide (0 ≤ x0) = true := decide_eq_true h0
            go_wp2_with fail
            go_roundw
            case rel => exact ⟨k + 1, true, by omega, by go_num, by first | rfl | simp [h0d] | simp [h0], HN, hb⟩
            case measure => simp [intOf]; omega
          · have HN : Go.RowKit.Hid (false = true → ∀ j, j < k + 1 → 0 ≤ xs.getD j 0) := Lib.hid fun h => by cases h
            have h0d : decide (0 ≤ x0) = false := decide_eq_false h0
            go_wp2_with fail
            go_roundw
            case rel => exact ⟨k + 1, false, by omega, by go_num, by first | rfl | simp [h0d] | (simp; omega), HN, hb⟩
            case measure => simp [intOf]; omega
      · have hkx : k = xs.length := by omega
        obtain ⟨w7, hw⟩ : ∃ W, W = wr := ⟨_, rfl⟩
        subst hw
        have b7 := b6.trans (hb.mono b6.size)
        replace Fxs := Lib.hid (Fxs.out.later hb)
        replace Fjs := Lib.hid (Fjs.out.later hb)
        clear hb b6
        cases b
        · skip
          clear HT
          go_wp2_with fail
          refine (implU H3.out Fxs.out Fxs.out).mono ?_
          rintro e w8 ⟨rfl, hb⟩
          have b8 := b7.trans (hb.mono b7.size)
          replace Fxs := Lib.hid (Fxs.out.later hb)
          replace Fjs := Lib.hid (Fjs.out.later hb)
          clear hb b7
          go_wp2_with fail
          refine (implU H4.out (FN _) Fxs.out).mono ?_
          rintro e w9 ⟨rfl, hb⟩
          have b9 := b8.trans (hb.mono b8.size)
          replace Fxs := Lib.hid (Fxs.out.later hb)
          replace Fjs := Lib.hid (Fjs.out.later hb)
          clear hb b8
          go_wp2_with fail
          refine (implJ H5.out Fjs.out (FN _) lj (by simp)).mono ?_
          rintro e w10 ⟨Ats, cts, rfl, Fts, hb⟩
          have b10 := b9.trans (hb.mono b9.size)
          replace Fxs := Lib.hid (Fxs.out.later hb)
          replace Fjs := Lib.hid (Fjs.out.later hb)
          replace Fts := Lib.hid Fts
          clear hb b9
          go_wp2_with fail
          refine (wpInts_ Fts.out Fjs.out).mono ?_
          rintro e w11 ⟨rfl, hb⟩
          have b11 := b10.trans (hb.mono b10.size)
          replace Fxs := Lib.hid (Fxs.out.later hb)
          replace Fjs := Lib.hid (Fjs.out.later hb)
          replace Fts := Lib.hid (Fts.out.later hb)
          clear hb b10
          go_wp2_with fail
          go_ret
          exact ⟨rfl, b11⟩
        · skip
          have H6 := Lib.hid (joinL_self (fun j hj => HT.out rfl j (by omega)))
          clear HT
          go_wp2_with fail
          refine (implU H3.out Fxs.out Fxs.out).mono ?_
          rintro e w8 ⟨rfl, hb⟩
          have b8 := b7.trans (hb.mono b7.size)
          replace Fxs := Lib.hid (Fxs.out.later hb)
          replace Fjs := Lib.hid (Fjs.out.later hb)
          clear hb b7
          go_wp2_with fail
          refine (implU H4.out (FN _) Fxs.out).mono ?_
          rintro e w9 ⟨rfl, hb⟩
          have b9 := b8.trans (hb.mono b8.size)
          replace Fxs := Lib.hid (Fxs.out.later hb)
          replace Fjs := Lib.hid (Fjs.out.later hb)
          clear hb b8
          go_wp2_with fail
          refine (wpInts_ Fjs.out (by have := H1.out; rw [H6.out] at this; subst this; exact Fxs.out)).mono ?_
          rintro e w10 ⟨rfl, hb⟩
          have b10 := b9.trans (hb.mono b9.size)
          replace Fxs := Lib.hid (Fxs.out.later hb)
          replace Fjs := Lib.hid (Fjs.out.later hb)
          clear hb b9
          go_wp2_with fail
          refine (implJ H5.out Fjs.out (FN _) lj (by simp)).mono ?_
          rintro e w11 ⟨Ats, cts, rfl, Fts, hb⟩
          have b11 := b10.trans (hb.mono b10.size)
          replace Fxs := Lib.hid (Fxs.out.later hb)
          replace Fjs := Lib.hid (Fjs.out.later hb)
          replace Fts := Lib.hid Fts
          clear hb b10
          go_wp2_with fail
          refine (wpInts_ Fts.out Fjs.out).mono ?_
          rintro e w12 ⟨rfl, hb⟩
          have b12 := b11.trans (hb.mono b11.size)
          replace Fxs := Lib.hid (Fxs.out.later hb)
          replace Fjs := Lib.hid (Fjs.out.later hb)
          replace Fts := Lib.hid (Fts.out.later hb)
          clear hb b11
          go_wp2_with fail
          go_ret
          exact ⟨rfl, b12⟩
end Go.Proofs.Ytoinagefhbpakaa
