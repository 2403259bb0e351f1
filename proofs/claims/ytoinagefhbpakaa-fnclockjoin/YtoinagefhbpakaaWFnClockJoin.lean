/- The walk of laws.FnClockJoin (written by tools/gen_clocklaws.py). -/
import Derived.Test.YtoinagefhbpakaaDrawClock
import Derived.Test.YtoinagefhbpakaaClockPure
namespace Go.Proofs.Ytoinagefhbpakaa
open Go.ChangeShapes Go.WideShapes Go.ChangeAt Go.RowKit


theorem implJ {xs ys js : List Int} {A B : Option Addr} {c d : Nat} {w : World} (h : joinL xs ys = js) (hs : Fl w (fun _ => True) 1 xs A xs.length c) (ht : Fl w (fun _ => True) 1 ys B ys.length d) (hn : xs.length ≤ 3) (hm : ys.length ≤ 3) :
    Calls Try.prog 13 #[.slice A xs.length c, .slice B ys.length d] w fun e w' => ∃ (C : Option Addr) (k : Nat), e = .returned (.slice C js.length k) ∧ Fl w' (fun _ => True) 1 js C js.length k ∧ Below w.heap.size w w' := by
  subst h
  refine (implClockJoin hs ht (by omega) (by omega)).mono ?_
  rintro e w' ⟨v, rfl, ho, hb⟩
  obtain ⟨C, k, rfl, hf⟩ := own_fl ho
  exact ⟨C, k, rfl, hf.mono fun _ _ => trivial, hb⟩

theorem specJ {xs ys js : List Int} {A B : Option Addr} {c d : Nat} {w : World} (h : joinL xs ys = js) (hs : Fl w (fun _ => True) 1 xs A xs.length c) (ht : Fl w (fun _ => True) 1 ys B ys.length d) (hn : xs.length ≤ 3) (hm : ys.length ≤ 3) :
    Calls Try.prog 11 #[.slice A xs.length c, .slice B ys.length d] w fun e w' => ∃ (C : Option Addr) (k : Nat), e = .returned (.slice C js.length k) ∧ Fl w' (fun _ => True) 1 js C js.length k ∧ Below w.heap.size w w' := by
  subst h
  refine (specClockJoin hs ht (by omega) (by omega)).mono ?_
  rintro e w' ⟨v, rfl, ho, hb⟩
  obtain ⟨C, k, rfl, hf⟩ := own_fl ho
  exact ⟨C, k, rfl, hf.mono fun _ _ => trivial, hb⟩

theorem implU {xs ys : List Int} {b : Bool} {A B : Option Addr} {c d : Nat} {w : World} (h : underB xs ys = b) (hs : Fl w (fun _ => True) 1 xs A xs.length c) (ht : Fl w (fun _ => True) 1 ys B ys.length d) :
    Calls Try.prog 18 #[.slice A xs.length c, .slice B ys.length d] w fun e w' => e = .returned (.bool b) ∧ Below w.heap.size w w' := by
  subst h
  exact implClockUnder hs ht

set_option maxRecDepth 100000 in
set_option maxHeartbeats 2000000 in
theorem wFnClockJoin (A : Option Addr) (n c : Nat) (B : Option Addr) (m d : Nat) (w : World) (h : Bytes w A n) (hn : n ≤ c) (hc : c ≤ maxLen) (k : Bytes w B m) (km : m ≤ d) (kc : d ≤ maxLen) :
    Calls Try.prog 6 #[.slice A n c, .slice B m d] w fun e w' => e = .returned (.bool true) ∧ Below w.heap.size w w' := by
  have n9 : n ≤ 9223372036854775807 := by unfold maxLen at hc; omega
  have m9 : m ≤ 9223372036854775807 := by unfold maxLen at kc; omega
  by_cases hl : 1048576 < n
  · go_enter Try.func6, Try.ntmps6
    go_wp2_with fail
    go_ret
    exact ⟨rfl, Below.refl _ _⟩
  have hl1 : ¬ 1048576 < (n : Int) := by omega
  by_cases hk : 1048576 < m
  · go_enter Try.func6, Try.ntmps6
    go_wp2_with fail
    go_ret
    exact ⟨rfl, Below.refl _ _⟩
  have hk1 : ¬ 1048576 < (m : Int) := by omega
  have b0 : Below w.heap.size w w := Below.refl _ _
  go_enter Try.func6, Try.ntmps6
  go_wp2_with fail
  refine (drawClockJoin A n c _ h hn hc).mono ?_
  rintro e w1 ⟨xs, ys, Axs, Ays, cxs, cys, rfl, Fxs, Fys, lx, ly, hb⟩
  have b1 := b0.trans (hb.mono b0.size)
  replace Fxs := Lib.hid Fxs
  replace Fys := Lib.hid Fys
  clear hb b0
  go_wp2_with fail
  refine (drawClockJoin B m d _ (k.below b1) km kc).mono ?_
  rintro e w2 ⟨zs, us, Azs, Aus, czs, cus, rfl, Fzs, Fus, lz, lu, hb⟩
  have b2 := b1.trans (hb.mono b1.size)
  replace Fxs := Lib.hid (Fxs.out.later hb)
  replace Fys := Lib.hid (Fys.out.later hb)
  replace Fzs := Lib.hid Fzs
  replace Fus := Lib.hid Fus
  clear hb b1
  obtain ⟨js, hj⟩ : ∃ js, joinL xs ys = js := ⟨_, rfl⟩
  have lj : js.length ≤ 3 := by rw [← hj, joinL_len]; omega
  obtain ⟨ks, hks⟩ : ∃ ks, joinL js zs = ks := ⟨_, rfl⟩
  obtain ⟨ms, hms⟩ : ∃ ms, joinL ys zs = ms := ⟨_, rfl⟩
  have lm : ms.length ≤ 3 := by rw [← hms, joinL_len]; omega
  have H1 := Lib.hid hj
  have H2 := Lib.hid (show joinL ys xs = js by rw [joinL_comm]; exact hj)
  have H3 := Lib.hid (show underB xs js = true by rw [← hj]; exact underB_left ..)
  have H4 := Lib.hid (show underB ys js = true by rw [← hj]; exact underB_right ..)
  have H5 := Lib.hid (underB_self js)
  have H6 := Lib.hid (show underB js zs = (underB xs zs && underB ys zs) by rw [← hj]; exact underB_join ..)
  have H7 := Lib.hid hks
  have H8 := Lib.hid hms
  have H9 := Lib.hid (show joinL xs ms = ks by rw [← hms, ← joinL_assoc, hj, hks])
  clear hj hks hms
  go_wp2_with fail
  refine (implJ H1.out Fxs.out Fys.out lx ly).mono ?_
  rintro e w3 ⟨Ajs, cjs, rfl, Fjs, hb⟩
  have b3 := b2.trans (hb.mono b2.size)
  replace Fxs := Lib.hid (Fxs.out.later hb)
  replace Fys := Lib.hid (Fys.out.later hb)
  replace Fzs := Lib.hid (Fzs.out.later hb)
  replace Fus := Lib.hid (Fus.out.later hb)
  replace Fjs := Lib.hid Fjs
  clear hb b2
  go_wp2_with fail
  refine (specJ H1.out Fxs.out Fys.out lx ly).mono ?_
  rintro e w4 ⟨Aws, cws, rfl, Fws, hb⟩
  have b4 := b3.trans (hb.mono b3.size)
  replace Fxs := Lib.hid (Fxs.out.later hb)
  replace Fys := Lib.hid (Fys.out.later hb)
  replace Fzs := Lib.hid (Fzs.out.later hb)
  replace Fus := Lib.hid (Fus.out.later hb)
  replace Fjs := Lib.hid (Fjs.out.later hb)
  replace Fws := Lib.hid Fws
  clear hb b3
  go_wp2_with fail
  refine (wpInts_ Fjs.out Fws.out).mono ?_
  rintro e w5 ⟨rfl, hb⟩
  have b5 := b4.trans (hb.mono b4.size)
  replace Fxs := Lib.hid (Fxs.out.later hb)
  replace Fys := Lib.hid (Fys.out.later hb)
  replace Fzs := Lib.hid (Fzs.out.later hb)
  replace Fus := Lib.hid (Fus.out.later hb)
  replace Fjs := Lib.hid (Fjs.out.later hb)
  replace Fws := Lib.hid (Fws.out.later hb)
  clear hb b4
  go_wp2_with fail
  refine (implJ H2.out Fys.out Fxs.out ly lx).mono ?_
  rintro e w6 ⟨Avs, cvs, rfl, Fvs, hb⟩
  have b6 := b5.trans (hb.mono b5.size)
  replace Fxs := Lib.hid (Fxs.out.later hb)
  replace Fys := Lib.hid (Fys.out.later hb)
  replace Fzs := Lib.hid (Fzs.out.later hb)
  replace Fus := Lib.hid (Fus.out.later hb)
  replace Fjs := Lib.hid (Fjs.out.later hb)
  replace Fws := Lib.hid (Fws.out.later hb)
  replace Fvs := Lib.hid Fvs
  clear hb b5
  go_wp2_with fail
  refine (wpInts_ Fjs.out Fvs.out).mono ?_
  rintro e w7 ⟨rfl, hb⟩
  have b7 := b6.trans (hb.mono b6.size)
  replace Fxs := Lib.hid (Fxs.out.later hb)
  replace Fys := Lib.hid (Fys.out.later hb)
  replace Fzs := Lib.hid (Fzs.out.later hb)
  replace Fus := Lib.hid (Fus.out.later hb)
  replace Fjs := Lib.hid (Fjs.out.later hb)
  replace Fws := Lib.hid (Fws.out.later hb)
  replace Fvs := Lib.hid (Fvs.out.later hb)
  clear hb b6
  go_wp2_with fail
  refine (implU H3.out Fxs.out Fjs.out).mono ?_
  rintro e w8 ⟨rfl, hb⟩
  have b8 := b7.trans (hb.mono b7.size)
  replace Fxs := Lib.hid (Fxs.out.later hb)
  replace Fys := Lib.hid (Fys.out.later hb)
  replace Fzs := Lib.hid (Fzs.out.later hb)
  replace Fus := Lib.hid (Fus.out.later hb)
  replace Fjs := Lib.hid (Fjs.out.later hb)
  replace Fws := Lib.hid (Fws.out.later hb)
  replace Fvs := Lib.hid (Fvs.out.later hb)
  clear hb b7
  go_wp2_with fail
  refine (implU H4.out Fys.out Fjs.out).mono ?_
  rintro e w9 ⟨rfl, hb⟩
  have b9 := b8.trans (hb.mono b8.size)
  replace Fxs := Lib.hid (Fxs.out.later hb)
  replace Fys := Lib.hid (Fys.out.later hb)
  replace Fzs := Lib.hid (Fzs.out.later hb)
  replace Fus := Lib.hid (Fus.out.later hb)
  replace Fjs := Lib.hid (Fjs.out.later hb)
  replace Fws := Lib.hid (Fws.out.later hb)
  replace Fvs := Lib.hid (Fvs.out.later hb)
  clear hb b8
  go_wp2_with fail
  refine (implU H5.out Fjs.out Fjs.out).mono ?_
  rintro e w10 ⟨rfl, hb⟩
  have b10 := b9.trans (hb.mono b9.size)
  replace Fxs := Lib.hid (Fxs.out.later hb)
  replace Fys := Lib.hid (Fys.out.later hb)
  replace Fzs := Lib.hid (Fzs.out.later hb)
  replace Fus := Lib.hid (Fus.out.later hb)
  replace Fjs := Lib.hid (Fjs.out.later hb)
  replace Fws := Lib.hid (Fws.out.later hb)
  replace Fvs := Lib.hid (Fvs.out.later hb)
  clear hb b9
  obtain ⟨b2, hb2⟩ : ∃ b, underB xs zs = b := ⟨_, rfl⟩
  obtain ⟨b3, hb3⟩ : ∃ b, underB ys zs = b := ⟨_, rfl⟩
  have G1 := Lib.hid (show underB js zs = (b2 && b3) by rw [H6.out, hb2, hb3])
  have G2 := Lib.hid hb2
  have G3 := Lib.hid hb3
  clear hb2 hb3 H6
  cases b2
  · skip
    have G4 := Lib.hid (show underB js zs = false by rw [G1.out]; rfl)
    go_wp2_with fail
    refine (implU G4.out Fjs.out Fzs.out).mono ?_
    rintro e w11 ⟨rfl, hb⟩
    have b11 := b10.trans (hb.mono b10.size)
    replace Fxs := Lib.hid (Fxs.out.later hb)
    replace Fys := Lib.hid (Fys.out.later hb)
    replace Fzs := Lib.hid (Fzs.out.later hb)
    replace Fus := Lib.hid (Fus.out.later hb)
    replace Fjs := Lib.hid (Fjs.out.later hb)
    replace Fws := Lib.hid (Fws.out.later hb)
    replace Fvs := Lib.hid (Fvs.out.later hb)
    clear hb b10
    go_wp2_with fail
    refine (implU G2.out Fxs.out Fzs.out).mono ?_
    rintro e w12 ⟨rfl, hb⟩
    have b12 := b11.trans (hb.mono b11.size)
    replace Fxs := Lib.hid (Fxs.out.later hb)
    replace Fys := Lib.hid (Fys.out.later hb)
    replace Fzs := Lib.hid (Fzs.out.later hb)
    replace Fus := Lib.hid (Fus.out.later hb)
    replace Fjs := Lib.hid (Fjs.out.later hb)
    replace Fws := Lib.hid (Fws.out.later hb)
    replace Fvs := Lib.hid (Fvs.out.later hb)
    clear hb b11
    go_wp2_with fail
    refine (implJ H7.out Fjs.out Fzs.out lj lz).mono ?_
    rintro e w13 ⟨Aks, cks, rfl, Fks, hb⟩
    have b13 := b12.trans (hb.mono b12.size)
    replace Fxs := Lib.hid (Fxs.out.later hb)
    replace Fys := Lib.hid (Fys.out.later hb)
    replace Fzs := Lib.hid (Fzs.out.later hb)
    replace Fus := Lib.hid (Fus.out.later hb)
    replace Fjs := Lib.hid (Fjs.out.later hb)
    replace Fws := Lib.hid (Fws.out.later hb)
    replace Fvs := Lib.hid (Fvs.out.later hb)
    replace Fks := Lib.hid Fks
    clear hb b12
    go_wp2_with fail
    refine (implJ H8.out Fys.out Fzs.out ly lz).mono ?_
    rintro e w14 ⟨Ams, cms, rfl, Fms, hb⟩
    have b14 := b13.trans (hb.mono b13.size)
    replace Fxs := Lib.hid (Fxs.out.later hb)
    replace Fys := Lib.hid (Fys.out.later hb)
    replace Fzs := Lib.hid (Fzs.out.later hb)
    replace Fus := Lib.hid (Fus.out.later hb)
    replace Fjs := Lib.hid (Fjs.out.later hb)
    replace Fws := Lib.hid (Fws.out.later hb)
    replace Fvs := Lib.hid (Fvs.out.later hb)
    replace Fks := Lib.hid (Fks.out.later hb)
    replace Fms := Lib.hid Fms
    clear hb b13
    go_wp2_with fail
    refine (implJ H9.out Fxs.out Fms.out lx lm).mono ?_
    rintro e w15 ⟨Aks2, cks2, rfl, Fks2, hb⟩
    have b15 := b14.trans (hb.mono b14.size)
    replace Fxs := Lib.hid (Fxs.out.later hb)
    replace Fys := Lib.hid (Fys.out.later hb)
    replace Fzs := Lib.hid (Fzs.out.later hb)
    replace Fus := Lib.hid (Fus.out.later hb)
    replace Fjs := Lib.hid (Fjs.out.later hb)
    replace Fws := Lib.hid (Fws.out.later hb)
    replace Fvs := Lib.hid (Fvs.out.later hb)
    replace Fks := Lib.hid (Fks.out.later hb)
    replace Fms := Lib.hid (Fms.out.later hb)
    replace Fks2 := Lib.hid Fks2
    clear hb b14
    go_wp2_with fail
    refine (wpInts_ Fks.out Fks2.out).mono ?_
    rintro e w16 ⟨rfl, hb⟩
    have b16 := b15.trans (hb.mono b15.size)
    replace Fxs := Lib.hid (Fxs.out.later hb)
    replace Fys := Lib.hid (Fys.out.later hb)
    replace Fzs := Lib.hid (Fzs.out.later hb)
    replace Fus := Lib.hid (Fus.out.later hb)
    replace Fjs := Lib.hid (Fjs.out.later hb)
    replace Fws := Lib.hid (Fws.out.later hb)
    replace Fvs := Lib.hid (Fvs.out.later hb)
    replace Fks := Lib.hid (Fks.out.later hb)
    replace Fms := Lib.hid (Fms.out.later hb)
    replace Fks2 := Lib.hid (Fks2.out.later hb)
    clear hb b15
    go_wp2_with fail
    go_ret
    exact ⟨rfl, b16⟩
  · cases b3
    · skip
      have G4 := Lib.hid (show underB js zs = false by rw [G1.out]; rfl)
      go_wp2_with fail
      refine (implU G4.out Fjs.out Fzs.out).mono ?_
      rintro e w11 ⟨rfl, hb⟩
      have b11 := b10.trans (hb.mono b10.size)
      replace Fxs := Lib.hid (Fxs.out.later hb)
      replace Fys := Lib.hid (Fys.out.later hb)
      replace Fzs := Lib.hid (Fzs.out.later hb)
      replace Fus := Lib.hid (Fus.out.later hb)
      replace Fjs := Lib.hid (Fjs.out.later hb)
      replace Fws := Lib.hid (Fws.out.later hb)
      replace Fvs := Lib.hid (Fvs.out.later hb)
      clear hb b10
      go_wp2_with fail
      refine (implU G2.out Fxs.out Fzs.out).mono ?_
      rintro e w12 ⟨rfl, hb⟩
      have b12 := b11.trans (hb.mono b11.size)
      replace Fxs := Lib.hid (Fxs.out.later hb)
      replace Fys := Lib.hid (Fys.out.later hb)
      replace Fzs := Lib.hid (Fzs.out.later hb)
      replace Fus := Lib.hid (Fus.out.later hb)
      replace Fjs := Lib.hid (Fjs.out.later hb)
      replace Fws := Lib.hid (Fws.out.later hb)
      replace Fvs := Lib.hid (Fvs.out.later hb)
      clear hb b11
      go_wp2_with fail
      refine (implU G3.out Fys.out Fzs.out).mono ?_
      rintro e w13 ⟨rfl, hb⟩
      have b13 := b12.trans (hb.mono b12.size)
      replace Fxs := Lib.hid (Fxs.out.later hb)
      replace Fys := Lib.hid (Fys.out.later hb)
      replace Fzs := Lib.hid (Fzs.out.later hb)
      replace Fus := Lib.hid (Fus.out.later hb)
      replace Fjs := Lib.hid (Fjs.out.later hb)
      replace Fws := Lib.hid (Fws.out.later hb)
      replace Fvs := Lib.hid (Fvs.out.later hb)
      clear hb b12
      go_wp2_with fail
      refine (implJ H7.out Fjs.out Fzs.out lj lz).mono ?_
      rintro e w14 ⟨Aks, cks, rfl, Fks, hb⟩
      have b14 := b13.trans (hb.mono b13.size)
      replace Fxs := Lib.hid (Fxs.out.later hb)
      replace Fys := Lib.hid (Fys.out.later hb)
      replace Fzs := Lib.hid (Fzs.out.later hb)
      replace Fus := Lib.hid (Fus.out.later hb)
      replace Fjs := Lib.hid (Fjs.out.later hb)
      replace Fws := Lib.hid (Fws.out.later hb)
      replace Fvs := Lib.hid (Fvs.out.later hb)
      replace Fks := Lib.hid Fks
      clear hb b13
      go_wp2_with fail
      refine (implJ H8.out Fys.out Fzs.out ly lz).mono ?_
      rintro e w15 ⟨Ams, cms, rfl, Fms, hb⟩
      have b15 := b14.trans (hb.mono b14.size)
      replace Fxs := Lib.hid (Fxs.out.later hb)
      replace Fys := Lib.hid (Fys.out.later hb)
      replace Fzs := Lib.hid (Fzs.out.later hb)
      replace Fus := Lib.hid (Fus.out.later hb)
      replace Fjs := Lib.hid (Fjs.out.later hb)
      replace Fws := Lib.hid (Fws.out.later hb)
      replace Fvs := Lib.hid (Fvs.out.later hb)
      replace Fks := Lib.hid (Fks.out.later hb)
      replace Fms := Lib.hid Fms
      clear hb b14
      go_wp2_with fail
      refine (implJ H9.out Fxs.out Fms.out lx lm).mono ?_
      rintro e w16 ⟨Aks2, cks2, rfl, Fks2, hb⟩
      have b16 := b15.trans (hb.mono b15.size)
      replace Fxs := Lib.hid (Fxs.out.later hb)
      replace Fys := Lib.hid (Fys.out.later hb)
      replace Fzs := Lib.hid (Fzs.out.later hb)
      replace Fus := Lib.hid (Fus.out.later hb)
      replace Fjs := Lib.hid (Fjs.out.later hb)
      replace Fws := Lib.hid (Fws.out.later hb)
      replace Fvs := Lib.hid (Fvs.out.later hb)
      replace Fks := Lib.hid (Fks.out.later hb)
      replace Fms := Lib.hid (Fms.out.later hb)
      replace Fks2 := Lib.hid Fks2
      clear hb b15
      go_wp2_with fail
      refine (wpInts_ Fks.out Fks2.out).mono ?_
      rintro e w17 ⟨rfl, hb⟩
      have b17 := b16.trans (hb.mono b16.size)
      replace Fxs := Lib.hid (Fxs.out.later hb)
      replace Fys := Lib.hid (Fys.out.later hb)
      replace Fzs := Lib.hid (Fzs.out.later hb)
      replace Fus := Lib.hid (Fus.out.later hb)
      replace Fjs := Lib.hid (Fjs.out.later hb)
      replace Fws := Lib.hid (Fws.out.later hb)
      replace Fvs := Lib.hid (Fvs.out.later hb)
      replace Fks := Lib.hid (Fks.out.later hb)
      replace Fms := Lib.hid (Fms.out.later hb)
      replace Fks2 := Lib.hid (Fks2.out.later hb)
      clear hb b16
      go_wp2_with fail
      go_ret
      exact ⟨rfl, b17⟩
    · skip
      have G4 := Lib.hid (show underB js zs = true by rw [G1.out]; rfl)
      go_wp2_with fail
      refine (implU G4.out Fjs.out Fzs.out).mono ?_
      rintro e w11 ⟨rfl, hb⟩
      have b11 := b10.trans (hb.mono b10.size)
      replace Fxs := Lib.hid (Fxs.out.later hb)
      replace Fys := Lib.hid (Fys.out.later hb)
      replace Fzs := Lib.hid (Fzs.out.later hb)
      replace Fus := Lib.hid (Fus.out.later hb)
      replace Fjs := Lib.hid (Fjs.out.later hb)
      replace Fws := Lib.hid (Fws.out.later hb)
      replace Fvs := Lib.hid (Fvs.out.later hb)
      clear hb b10
      go_wp2_with fail
      refine (implU G2.out Fxs.out Fzs.out).mono ?_
      rintro e w12 ⟨rfl, hb⟩
      have b12 := b11.trans (hb.mono b11.size)
      replace Fxs := Lib.hid (Fxs.out.later hb)
      replace Fys := Lib.hid (Fys.out.later hb)
      replace Fzs := Lib.hid (Fzs.out.later hb)
      replace Fus := Lib.hid (Fus.out.later hb)
      replace Fjs := Lib.hid (Fjs.out.later hb)
      replace Fws := Lib.hid (Fws.out.later hb)
      replace Fvs := Lib.hid (Fvs.out.later hb)
      clear hb b11
      go_wp2_with fail
      refine (implU G3.out Fys.out Fzs.out).mono ?_
      rintro e w13 ⟨rfl, hb⟩
      have b13 := b12.trans (hb.mono b12.size)
      replace Fxs := Lib.hid (Fxs.out.later hb)
      replace Fys := Lib.hid (Fys.out.later hb)
      replace Fzs := Lib.hid (Fzs.out.later hb)
      replace Fus := Lib.hid (Fus.out.later hb)
      replace Fjs := Lib.hid (Fjs.out.later hb)
      replace Fws := Lib.hid (Fws.out.later hb)
      replace Fvs := Lib.hid (Fvs.out.later hb)
      clear hb b12
      go_wp2_with fail
      refine (implJ H7.out Fjs.out Fzs.out lj lz).mono ?_
      rintro e w14 ⟨Aks, cks, rfl, Fks, hb⟩
      have b14 := b13.trans (hb.mono b13.size)
      replace Fxs := Lib.hid (Fxs.out.later hb)
      replace Fys := Lib.hid (Fys.out.later hb)
      replace Fzs := Lib.hid (Fzs.out.later hb)
      replace Fus := Lib.hid (Fus.out.later hb)
      replace Fjs := Lib.hid (Fjs.out.later hb)
      replace Fws := Lib.hid (Fws.out.later hb)
      replace Fvs := Lib.hid (Fvs.out.later hb)
      replace Fks := Lib.hid Fks
      clear hb b13
      go_wp2_with fail
      refine (implJ H8.out Fys.out Fzs.out ly lz).mono ?_
      rintro e w15 ⟨Ams, cms, rfl, Fms, hb⟩
      have b15 := b14.trans (hb.mono b14.size)
      replace Fxs := Lib.hid (Fxs.out.later hb)
      replace Fys := Lib.hid (Fys.out.later hb)
      replace Fzs := Lib.hid (Fzs.out.later hb)
      replace Fus := Lib.hid (Fus.out.later hb)
      replace Fjs := Lib.hid (Fjs.out.later hb)
      replace Fws := Lib.hid (Fws.out.later hb)
      replace Fvs := Lib.hid (Fvs.out.later hb)
      replace Fks := Lib.hid (Fks.out.later hb)
      replace Fms := Lib.hid Fms
      clear hb b14
      go_wp2_with fail
      refine (implJ H9.out Fxs.out Fms.out lx lm).mono ?_
      rintro e w16 ⟨Aks2, cks2, rfl, Fks2, hb⟩
      have b16 := b15.trans (hb.mono b15.size)
      replace Fxs := Lib.hid (Fxs.out.later hb)
      replace Fys := Lib.hid (Fys.out.later hb)
      replace Fzs := Lib.hid (Fzs.out.later hb)
      replace Fus := Lib.hid (Fus.out.later hb)
      replace Fjs := Lib.hid (Fjs.out.later hb)
      replace Fws := Lib.hid (Fws.out.later hb)
      replace Fvs := Lib.hid (Fvs.out.later hb)
      replace Fks := Lib.hid (Fks.out.later hb)
      replace Fms := Lib.hid (Fms.out.later hb)
      replace Fks2 := Lib.hid Fks2
      clear hb b15
      go_wp2_with fail
      refine (wpInts_ Fks.out Fks2.out).mono ?_
      rintro e w17 ⟨rfl, hb⟩
      have b17 := b16.trans (hb.mono b16.size)
      replace Fxs := Lib.hid (Fxs.out.later hb)
      replace Fys := Lib.hid (Fys.out.later hb)
      replace Fzs := Lib.hid (Fzs.out.later hb)
      replace Fus := Lib.hid (Fus.out.later hb)
      replace Fjs := Lib.hid (Fjs.out.later hb)
      replace Fws := Lib.hid (Fws.out.later hb)
      replace Fvs := Lib.hid (Fvs.out.later hb)
      replace Fks := Lib.hid (Fks.out.later hb)
      replace Fms := Lib.hid (Fms.out.later hb)
      replace Fks2 := Lib.hid (Fks2.out.later hb)
      clear hb b16
      go_wp2_with fail
      go_ret
      exact ⟨rfl, b17⟩
end Go.Proofs.Ytoinagefhbpakaa
