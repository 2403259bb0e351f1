/- Lists of lists of numbers: the model's comparison and the program's. -/
import Derived.Test.YtkiekabfmdcemaaKinds
namespace Go.Proofs.Ytkiekabfmdcemaa
open Go.ChangeShapes Go.WideShapes Go.ChangeAt Go.RowKit

theorem take_more {α : Type} {xs ys : List α} {k : Nat} (h : xs.take k = ys.take k) (hx : k < xs.length) (hy : k < ys.length) (h0 : xs[k] = ys[k]) : xs.take (k + 1) = ys.take (k + 1) := by
  rw [List.take_add_one, List.take_add_one, h, List.getElem?_eq_getElem hx, List.getElem?_eq_getElem hy, h0]
theorem take_whole {α : Type} {xs ys : List α} {k : Nat} (h : xs.take k = ys.take k) (hx : xs.length ≤ k) (hy : ys.length ≤ k) : xs = ys := by
  rwa [List.take_of_length_le hx, List.take_of_length_le hy] at h
theorem get_ne {α : Type} {xs ys : List α} {k : Nat} (hx : k < xs.length) (hy : k < ys.length) (h0 : ¬ xs[k] = ys[k]) : ¬ xs = ys := by
  rintro rfl; exact h0 rfl

set_option maxRecDepth 100000 in
theorem l5Lists {Ls Ms : List (List Int)} {A A' : Option Addr} {c c' : Nat} {S T : Nat → Prop} {w : World} (hs : Recs issShape w S Ls A Ls.length c) (ht : Recs issShape w T Ms A' Ms.length c') :
    Calls Try.prog 30 #[.slice A Ls.length c, .slice A' Ms.length c'] w fun e w' => e = .returned (.bool (decide (Ls = Ms))) ∧ Below w.heap.size w w' := by
  have hmax := hs.max
  have hmax' := ht.max
  by_cases hn : Ls.length = Ms.length
  · rw [← hn] at ht hmax' ⊢
    have HN := Lib.hid hn
    generalize hg : Ls.length = n at *
    have HG := Lib.hid hg
    clear hn hg hmax'
    go_enter Try.func30, Try.ntmps30
    go_wp2_with fail
    go_loopw [5] (fun i wr => ∃ k : Nat, k ≤ n ∧ i = .int .i64 k ∧ Go.RowKit.Hid (Ls.take k = Ms.take k) ∧ Below w.heap.size w wr) (fun i _ => n - (intOf i).toNat)
    case atStart => exact ⟨0, Nat.zero_le _, rfl, Lib.hid rfl, Below.refl _ _⟩
    case round =>
      obtain ⟨k, hk, rfl, HEQ, hb⟩ := hrel
      by_cases hlt : k < n
      · have hkL : k < Ls.length := by rw [HG.out]; exact hlt
        have hkM : k < Ms.length := by rw [← HN.out]; exact hlt
        obtain ⟨a, A1, c1, rfl, h1, s1⟩ := (hs.later (by decide) hb).iss.at_ k hkL
        obtain ⟨b, A2, c2, rfl, h2, s2⟩ := (ht.later (by decide) hb).iss.at_ k hkM
        have hsz := hb.size
        generalize hx : Ls[k] = x at *
        generalize hy : Ms[k] = y at *
        have HX := Lib.hid hx
        have HY := Lib.hid hy
        clear hx hy
        by_cases hq : x = y
        · have HD := Lib.hid (decide_eq_true hq)
          have HQ := Lib.hid hq
          clear hq
          go_wp2_with fail
          go_still_tail 8, (by kernel_rfl)
          change wpList _ _ _ _ _ wr.drew
          have hdr : Below wr.heap.size wr wr.drew := (Below.refl _ _).drew
          go_wp2_with fail
          refine (l3Ints (s1.later hdr) (s2.later hdr)).mono ?_
          rintro e w1 ⟨rfl, hb1⟩
          have hb1' : Below wr.heap.size wr w1 := hdr.trans hb1
          rw [HD.out]
          clear hb1 hdr
          go_wp2_with fail
          go_roundw
          case rel => exact ⟨k + 1, by omega, by go_num, Lib.hid (take_more HEQ.out hkL hkM (HX.out.trans (HQ.out.trans HY.out.symm))), hb.trans (hb1'.mono hsz)⟩
          case measure => simp [intOf]; omega
        · have HD := Lib.hid (decide_eq_false hq)
          have HQ := Lib.hid hq
          clear hq
          go_wp2_with fail
          go_still_tail 8, (by kernel_rfl)
          change wpList _ _ _ _ _ wr.drew
          have hdr : Below wr.heap.size wr wr.drew := (Below.refl _ _).drew
          go_wp2_with fail
          refine (l3Ints (s1.later hdr) (s2.later hdr)).mono ?_
          rintro e w1 ⟨rfl, hb1⟩
          have hb1' : Below wr.heap.size wr w1 := hdr.trans hb1
          rw [HD.out]
          clear hb1 hdr
          go_wp2_with fail
          go_ret
          refine ⟨?_, hb.trans (hb1'.mono hsz)⟩
          rw [decide_eq_false (get_ne hkL hkM (by rw [HX.out, HY.out]; exact HQ.out))]; rfl
      · go_wp2_with fail
        go_ret
        refine ⟨?_, hb⟩
        rw [decide_eq_true (take_whole HEQ.out (by rw [HG.out]; omega) (by rw [← HN.out]; omega))]; rfl
  · have hd : decide (Ls = Ms) = false := decide_eq_false (by rintro rfl; exact hn rfl)
    rw [hd]
    clear hd
    go_enter Try.func30, Try.ntmps30
    go_wp2
    go_ret
    exact ⟨rfl, Below.refl _ _⟩

set_option maxRecDepth 100000 in
theorem equalLists {Ls Ms : List (List Int)} {A A' : Option Addr} {c c' : Nat} {S T : Nat → Prop} {w : World} (hs : Recs issShape w S Ls A Ls.length c) (ht : Recs issShape w T Ms A' Ms.length c') :
    Calls Try.prog 38 #[.slice A Ls.length c, .slice A' Ms.length c', .func (Fn.func 39) #[] #[]] w fun e w' => e = .returned (.bool (decide (Ls = Ms))) ∧ Below w.heap.size w w' := by
  have hmax := hs.max
  have hmax' := ht.max
  by_cases hn : Ls.length = Ms.length
  · rw [← hn] at ht hmax' ⊢
    have HN := Lib.hid hn
    generalize hg : Ls.length = n at *
    have HG := Lib.hid hg
    clear hn hg hmax'
    go_enter Try.func38, Try.ntmps38
    go_wp2_with fail
    go_loopw [17] (fun i wr => ∃ k : Nat, k ≤ n ∧ i = .int .i64 k ∧ Go.RowKit.Hid (Ls.take k = Ms.take k) ∧ Below w.heap.size w wr) (fun i _ => n - (intOf i).toNat)
    case atStart => exact ⟨0, Nat.zero_le _, rfl, Lib.hid rfl, Below.refl _ _⟩
    case round =>
      obtain ⟨k, hk, rfl, HEQ, hb⟩ := hrel
      by_cases hlt : k < n
      · have hkL : k < Ls.length := by rw [HG.out]; exact hlt
        have hkM : k < Ms.length := by rw [← HN.out]; exact hlt
        obtain ⟨a, A1, c1, rfl, h1, s1⟩ := (hs.later (by decide) hb).iss.at_ k hkL
        obtain ⟨b, A2, c2, rfl, h2, s2⟩ := (ht.later (by decide) hb).iss.at_ k hkM
        have hsz := hb.size
        generalize hx : Ls[k] = x at *
        generalize hy : Ms[k] = y at *
        have HX := Lib.hid hx
        have HY := Lib.hid hy
        clear hx hy
        by_cases hq : x = y
        · have HD := Lib.hid (decide_eq_true hq)
          have HQ := Lib.hid hq
          clear hq
          go_wp2_with fail
          refine (equalInt s1 s2).mono ?_
          rintro e w1 ⟨rfl, hb1⟩
          rw [HD.out]
          go_wp2_with fail
          go_roundw
          case rel => exact ⟨k + 1, by omega, by go_num, Lib.hid (take_more HEQ.out hkL hkM (HX.out.trans (HQ.out.trans HY.out.symm))), hb.trans (hb1.mono hsz)⟩
          case measure => simp [intOf]; omega
        · have HD := Lib.hid (decide_eq_false hq)
          have HQ := Lib.hid hq
          clear hq
          go_wp2_with fail
          refine (equalInt s1 s2).mono ?_
          rintro e w1 ⟨rfl, hb1⟩
          rw [HD.out]
          go_wp2_with fail
          go_ret
          refine ⟨?_, hb.trans (hb1.mono hsz)⟩
          rw [decide_eq_false (get_ne hkL hkM (by rw [HX.out, HY.out]; exact HQ.out))]; rfl
      · go_wp2_with fail
        go_ret
        refine ⟨?_, hb⟩
        rw [decide_eq_true (take_whole HEQ.out (by rw [HG.out]; omega) (by rw [← HN.out]; omega))]; rfl
  · have hd : decide (Ls = Ms) = false := decide_eq_false (by rintro rfl; exact hn rfl)
    rw [hd]
    clear hd
    go_enter Try.func38, Try.ntmps38
    go_wp2
    go_ret
    exact ⟨rfl, Below.refl _ _⟩
end Go.Proofs.Ytkiekabfmdcemaa
