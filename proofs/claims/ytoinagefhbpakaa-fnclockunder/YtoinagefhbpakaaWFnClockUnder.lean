/- The walk of laws.FnClockUnder (written by tools/gen_clocklaws.py). -/
import Derived.Test.YtoinagefhbpakaaDrawClock
import Derived.Test.YtoinagefhbpakaaClockPure
namespace Go.Proofs.Ytoinagefhbpakaa
open Go.ChangeShapes Go.WideShapes Go.ChangeAt Go.RowKit


theorem implU {xs ys : List Int} {b : Bool} {A B : Option Addr} {c d : Nat} {w : World} (h : underB xs ys = b) (hs : Fl w (fun _ => True) 1 xs A xs.length c) (ht : Fl w (fun _ => True) 1 ys B ys.length d) :
    Calls Try.prog 18 #[.slice A xs.length c, .slice B ys.length d] w fun e w' => e = .returned (.bool b) ∧ Below w.heap.size w w' := by
  subst h
  exact implClockUnder hs ht

theorem specU {xs ys : List Int} {b : Bool} {A B : Option Addr} {c d : Nat} {w : World} (h : underB xs ys = b) (hs : Fl w (fun _ => True) 1 xs A xs.length c) (ht : Fl w (fun _ => True) 1 ys B ys.length d) :
    Calls Try.prog 17 #[.slice A xs.length c, .slice B ys.length d] w fun e w' => e = .returned (.bool b) ∧ Below w.heap.size w w' := by
  subst h
  exact specClockUnder hs ht

set_option maxRecDepth 100000 in
set_option maxHeartbeats 2000000 in
theorem wFnClockUnder (A : Option Addr) (n c : Nat) (B : Option Addr) (m d : Nat) (w : World) (h : Bytes w A n) (hn : n ≤ c) (hc : c ≤ maxLen) (k : Bytes w B m) (km : m ≤ d) (kc : d ≤ maxLen) :
    Calls Try.prog 7 #[.slice A n c, .slice B m d] w fun e w' => e = .returned (.bool true) ∧ Below w.heap.size w w' := by
  have n9 : n ≤ 9223372036854775807 := by unfold maxLen at hc; omega
  have m9 : m ≤ 9223372036854775807 := by unfold maxLen at kc; omega
  by_cases hl : 1048576 < n
  · go_enter Try.func7, Try.ntmps7
    go_wp2_with fail
    go_ret
    exact ⟨rfl, Below.refl _ _⟩
  have hl1 : ¬ 1048576 < (n : Int) := by omega
  by_cases hk : 1048576 < m
  · go_enter Try.func7, Try.ntmps7
    go_wp2_with fail
    go_ret
    exact ⟨rfl, Below.refl _ _⟩
  have hk1 : ¬ 1048576 < (m : Int) := by omega
  have b0 : Below w.heap.size w w := Below.refl _ _
  go_enter Try.func7, Try.ntmps7
  go_wp2_with fail
  refine (drawClockUnder A n c _ h hn hc).mono ?_
  rintro e w1 ⟨xs, ys, Axs, Ays, cxs, cys, rfl, Fxs, Fys, lx, ly, hb⟩
  have b1 := b0.trans (hb.mono b0.size)
  replace Fxs := Lib.hid Fxs
  replace Fys := Lib.hid Fys
  clear hb b0
  go_wp2_with fail
  refine (drawClockUnder B m d _ (k.below b1) km kc).mono ?_
  rintro e w2 ⟨zs, us, Azs, Aus, czs, cus, rfl, Fzs, Fus, lz, lu, hb⟩
  have b2 := b1.trans (hb.mono b1.size)
  replace Fxs := Lib.hid (Fxs.out.later hb)
  replace Fys := Lib.hid (Fys.out.later hb)
  replace Fzs := Lib.hid Fzs
  replace Fus := Lib.hid Fus
  clear hb b1
  obtain ⟨x, hx⟩ : ∃ b, underB xs ys = b := ⟨_, rfl⟩
  obtain ⟨y, hy⟩ : ∃ b, underB ys zs = b := ⟨_, rfl⟩
  have H1 := Lib.hid hx
  have H2 := Lib.hid hy
  clear hx hy
  go_wp2_with fail
  refine (implU H1.out Fxs.out Fys.out).mono ?_
  rintro e w3 ⟨rfl, hb⟩
  have b3 := b2.trans (hb.mono b2.size)
  replace Fxs := Lib.hid (Fxs.out.later hb)
  replace Fys := Lib.hid (Fys.out.later hb)
  replace Fzs := Lib.hid (Fzs.out.later hb)
  replace Fus := Lib.hid (Fus.out.later hb)
  clear hb b2
  cases x
  · skip
    go_wp2_with fail
    refine (specU H1.out Fxs.out Fys.out).mono ?_
    rintro e w4 ⟨rfl, hb⟩
    have b4 := b3.trans (hb.mono b3.size)
    replace Fxs := Lib.hid (Fxs.out.later hb)
    replace Fys := Lib.hid (Fys.out.later hb)
    replace Fzs := Lib.hid (Fzs.out.later hb)
    replace Fus := Lib.hid (Fus.out.later hb)
    clear hb b3
    go_wp2_with fail
    go_ret
    exact ⟨rfl, b4⟩
  · skip
    go_wp2_with fail
    refine (specU H1.out Fxs.out Fys.out).mono ?_
    rintro e w4 ⟨rfl, hb⟩
    have b4 := b3.trans (hb.mono b3.size)
    replace Fxs := Lib.hid (Fxs.out.later hb)
    replace Fys := Lib.hid (Fys.out.later hb)
    replace Fzs := Lib.hid (Fzs.out.later hb)
    replace Fus := Lib.hid (Fus.out.later hb)
    clear hb b3
    cases y
    · skip
      go_wp2_with fail
      refine (implU H2.out Fys.out Fzs.out).mono ?_
      rintro e w5 ⟨rfl, hb⟩
      have b5 := b4.trans (hb.mono b4.size)
      replace Fxs := Lib.hid (Fxs.out.later hb)
      replace Fys := Lib.hid (Fys.out.later hb)
      replace Fzs := Lib.hid (Fzs.out.later hb)
      replace Fus := Lib.hid (Fus.out.later hb)
      clear hb b4
      go_wp2_with fail
      go_ret
      exact ⟨rfl, b5⟩
    · skip
      have H3 := Lib.hid (underB_trans H1.out H2.out)
      go_wp2_with fail
      refine (implU H2.out Fys.out Fzs.out).mono ?_
      rintro e w5 ⟨rfl, hb⟩
      have b5 := b4.trans (hb.mono b4.size)
      replace Fxs := Lib.hid (Fxs.out.later hb)
      replace Fys := Lib.hid (Fys.out.later hb)
      replace Fzs := Lib.hid (Fzs.out.later hb)
      replace Fus := Lib.hid (Fus.out.later hb)
      clear hb b4
      go_wp2_with fail
      refine (implU H3.out Fxs.out Fzs.out).mono ?_
      rintro e w6 ⟨rfl, hb⟩
      have b6 := b5.trans (hb.mono b5.size)
      replace Fxs := Lib.hid (Fxs.out.later hb)
      replace Fys := Lib.hid (Fys.out.later hb)
      replace Fzs := Lib.hid (Fzs.out.later hb)
      replace Fus := Lib.hid (Fus.out.later hb)
      clear hb b5
      go_wp2_with fail
      go_ret
      exact ⟨rfl, b6⟩
end Go.Proofs.Ytoinagefhbpakaa
