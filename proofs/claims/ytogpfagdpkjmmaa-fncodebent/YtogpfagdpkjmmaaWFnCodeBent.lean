/- The walk of laws.FnCodeBent. -/
import Derived.Test.YtogpfagdpkjmmaaDrawC2
import Derived.Test.YtogpfagdpkjmmaaSpecCodeSame
import Derived.Test.YtogpfagdpkjmmaaImplCodeOk
import Derived.Test.YtogpfagdpkjmmaaSpecCodeOk
import Derived.Test.YtogpfagdpkjmmaaCodeNot
namespace Go.Proofs.Ytogpfagdpkjmmaa
open Go.ChangeShapes Go.WideShapes Go.ChangeAt Go.RowKit

theorem two4 {W : World} {b : Nat} {x y z u x' y' z' u' : Int} {t : TypeId} {fr : Nat × Nat} (h : W.heap[b]? = some (.cells #[.int .i64 x, .int .i64 y, .int .i64 z, .int .i64 u, .int .i64 x', .int .i64 y', .int .i64 z', .int .i64 u'] t fr)) : Fl W (fun _ => True) 4 [x, y, z, u, x', y', z', u'] (some ⟨b, 0, none⟩) 2 2 :=
  ⟨rfl, Nat.le_refl _, by unfold maxLen; omega, (fun h => by cases h), fun a ha j hj => by
    obtain rfl : a = ⟨b, 0, none⟩ := by injection ha with h; exact h.symm
    refine ⟨trivial, ?_⟩
    rw [add_off, cell_of_row W b j _ _ _ h]
    match j, hj with
    | 0, _ => rfl
    | 1, _ => rfl
    | 2, _ => rfl
    | 3, _ => rfl
    | 4, _ => rfl
    | 5, _ => rfl
    | 6, _ => rfl
    | 7, _ => rfl⟩

theorem cells_four (w : World) (v0 v1 v2 v3 : Value) (t : TypeId) : ∀ j u, [v0, v1, v2, v3][j]? = some u → (w.alloc (.cells #[v0, v1, v2, v3] t)).cell? ((⟨w.heap.size, 0, none⟩ : Addr).add j) = some u := by
  intro j u hj
  rw [add_off, cell_of_row _ w.heap.size j _ _ _ (new_row w _ _)]
  simpa using hj
theorem four_one (a b c d : Int) : ∀ u ∈ [Value.int .i64 a, .int .i64 b, .int .i64 c, .int .i64 d], u.oneCell' = true := by
  intro u hu
  simp at hu
  rcases hu with rfl | rfl | rfl | rfl <;> rfl

set_option maxRecDepth 100000 in
set_option maxHeartbeats 4000000 in
theorem wFnCodeBent (A : Option Addr) (n c : Nat) (w : World) (h : Bytes w A n) (hn : n ≤ c) (hc : c ≤ maxLen) :
    Calls Try.prog 8 #[.slice A n c] w fun e w' => e = .returned (.bool true) ∧ Below w.heap.size w w' := by
  by_cases hl : 1048576 < n
  · go_enter Try.func8, Try.ntmps8
    go_wp2
    go_ret
    exact ⟨rfl, Below.refl _ _⟩
  · obtain ⟨i0, hi, hz0, hz1, hz2⟩ := info_parts info_In4
    go_enter Try.func8, Try.ntmps8
    go_wp2_with fail
    refine (drawCodeSame A n c _ h hn hc).mono ?_
    rintro e w1 ⟨xs, ys, m, m', B, B', k, k', rfl, fx1, fy1, b1⟩
    have z1 := b1.size
    go_wp2_with fail
    refine (drawCodeOk A n c _ (h.below b1) hn hc).mono ?_
    rintro e w2 ⟨zs, l, AC, cC, rfl, o2, hl30, hb2⟩
    have z2 := hb2.size
    have b2 := b1.trans (hb2.mono z1)
    have fx2 := fx1.later hb2
    have fy2 := fy1.later hb2
    have f2 := own_fl4 o2
    clear fx1 fy1 hb2 o2
    obtain ⟨d, hd⟩ : ∃ d, decide (xs = ys) = d := ⟨_, rfl⟩
    have hd' : decide (ys = xs) = d := by rw [← hd]; exact decide_eq_decide.2 ⟨fun e => e.symm, fun e => e.symm⟩
    obtain ⟨t, ht⟩ : ∃ t, codeB zs l = t := ⟨_, rfl⟩
    have HCS := Lib.hid (fun (W : World) (f : Fl W (fun _ => True) 4 xs B m k) (g : Fl W (fun _ => True) 4 ys B' m' k') => hd ▸ codeSame f g)
    have HCT := Lib.hid (fun (W : World) (f : Fl W (fun _ => True) 4 xs B m k) (g : Fl W (fun _ => True) 4 ys B' m' k') => hd' ▸ codeSame g f)
    have HSS := Lib.hid (fun (W : World) (f : Fl W (fun _ => True) 4 xs B m k) (g : Fl W (fun _ => True) 4 ys B' m' k') => hd ▸ specCodeSame f g)
    have HCO := Lib.hid (fun (W : World) (f : Fl W (fun _ => True) 4 zs AC l cC) => ht ▸ codeOk f)
    have HSO := Lib.hid (fun (W : World) (f : Fl W (fun _ => True) 4 zs AC l cC) => ht ▸ specCodeOk f)
    have HT := Lib.hid ht
    clear hd hd' ht
    go_wp2_with fail
    refine (HCS.out w2 fx2 fy2).mono ?_
    rintro e w3 ⟨rfl, hb3⟩
    have z3 := hb3.size
    have b3 := b2.trans (hb3.mono (by omega))
    have fx3 := fx2.later hb3
    have fy3 := fy2.later hb3
    have f3 := f2.later hb3
    clear fx2 fy2 f2 hb3
    go_wp2_with fail
    refine (HSS.out w3 fx3 fy3).mono ?_
    rintro e w4 ⟨rfl, hb4⟩
    have z4 := hb4.size
    have b4 := b3.trans (hb4.mono (by omega))
    have fx4 := fx3.later hb4
    have fy4 := fy3.later hb4
    have f4 := f3.later hb4
    clear fx3 fy3 f3 hb4
    have hdd : (d != d) = false := by simp
    go_wp2_with fail
    refine (HCS.out w4 fx4 fy4).mono ?_
    rintro e w5 ⟨rfl, hb5⟩
    have z5 := hb5.size
    have b5 := b4.trans (hb5.mono (by omega))
    have fx5 := fx4.later hb5
    have fy5 := fy4.later hb5
    have f5 := f4.later hb5
    clear fx4 fy4 f4 hb5
    go_wp2_with fail
    refine (HCT.out w5 fx5 fy5).mono ?_
    rintro e w6 ⟨rfl, hb6⟩
    have z6 := hb6.size
    have b6 := b5.trans (hb6.mono (by omega))
    have f6 := f5.later hb6
    clear fx5 fy5 f5 hb6 HCS HCT HSS
    go_wp2_with fail
    refine (HCO.out w6 f6).mono ?_
    rintro e w7 ⟨rfl, hb7⟩
    have z7 := hb7.size
    have b7 := b6.trans (hb7.mono (by omega))
    have f7 := f6.later hb7
    clear f6 hb7
    go_wp2_with fail
    refine (HSO.out w7 f7).mono ?_
    rintro e w8 ⟨rfl, hb8⟩
    have z8 := hb8.size
    have b8 := b7.trans (hb8.mono (by omega))
    have f8 := f7.later hb8
    clear f7 hb8
    have htt : (t != t) = false := by simp
    go_wp2_with fail
    refine (codeOk (xs := []) (S := fun _ => True) ⟨rfl, Nat.le_refl _, Nat.zero_le _, fun _ => rfl, fun a ha => by cases ha⟩).mono ?_
    rintro e w9 ⟨rfl, hb9⟩
    rw [not_nil]
    have z9 := hb9.size
    have b9 := b8.trans (hb9.mono (by omega))
    have f9 := f8.later hb9
    clear f8 hb9
    go_wp2_with fail
    refine (HSO.out w9 f9).mono ?_
    rintro e w10 ⟨rfl, hb10⟩
    have z10 := hb10.size
    have b10 := b9.trans (hb10.mono (by omega))
    have f10 := f9.later hb10
    clear f9 hb10
    cases t
    · go_wp2_with fail
      go_ret
      exact ⟨rfl, b10⟩
    · obtain ⟨⟨l1, _⟩, _⟩ := codeB_parts HT.out
      have HN1 := Lib.hid (not_less HT.out)
      have HN2 := Lib.hid (not_more f10.len HT.out)
      obtain ⟨a, rfl⟩ := f10.some (by omega)
      have hown0 : (w10.alloc (.cells #[] 40)).ownsRow w10.heap.size 40 4 (.slice (some ⟨w10.heap.size, 0, none⟩) 0 0) 0 [] := World.ownsRow_lit w10 #[] 0 (Nat.le_refl _) (Nat.zero_le _) rfl
      have ba : Below w10.heap.size w10 (w10.alloc (.cells #[] 40)) := (Below.refl _ _).alloc (Nat.le_refl _) _
      have fa := f10.later ba
      have hcell : ∀ j u, (ints zs)[j]? = some u → (w10.alloc (.cells #[] 40)).cell? (a.add j) = some u := fun j u h => by
        have hj : j < zs.length := by have := (List.getElem?_eq_some_iff.1 h).1; rwa [ints_len] at this
        rw [ints_get hj] at h
        rw [(fa.at_ a rfl j hj).2, h]
      have hone : ∀ u ∈ ints zs, u.oneCell' = true := fun u hu => by
        obtain ⟨x, _, rfl⟩ := List.mem_map.1 hu
        rfl
      have HC := Lib.hid hcell
      have HO := Lib.hid hone
      have HX := Lib.hid (show (ints zs).length = l * 4 by rw [ints_len]; exact f10.len)
      clear hcell hone fa
      go_wp2_with (at_builtin; refine wpList_append_at _ rfl (.tmp 51) (.tmp 52) 25 rfl w10.heap.size 40 i0 _ 4 32 Try.underlying25 hi hz0 hz1 hz2 rfl (by decide) _ _ _ rfl hown0 a l cC (ints zs) rfl HX.out HC.out HO.out (by unfold maxLen; omega) (by omega) (by simp) (by omega) ?_)
      intro v1 w11 ho11 hg11 _
      have ho11' : w11.ownsRow w10.heap.size 40 4 v1 l (ints zs) := by simpa using ho11
      obtain ⟨r1, cap1, rfl, hr1, hr1'⟩ := ho11'.form (by omega)
      have b11 : Below w10.heap.size w10 w11 := ba.trans ⟨hg11.os, hg11.tape, hg11.output, hg11.size, fun q hq => hg11.block q (by simp; omega) (fun e => by simp [Value.ownBlock] at e; omega)⟩
      have z11 := b11.size
      clear ho11 hg11 hown0 ba HC HO
      go_wp2_with (at_builtin; refine wpList_append_at _ rfl (.tmp 53) (.tmp 55) 25 rfl w10.heap.size 40 i0 _ 4 32 Try.underlying25 hi hz0 hz1 hz2 rfl (by decide) _ _ _ rfl (ho11'.alloc _) ⟨w11.heap.size, 0, none⟩ 1 1 [.int .i64 13, .int .i64 0, .int .i64 0, .int .i64 0] rfl rfl (cells_four w11 _ _ _ _ _) (four_one _ _ _ _) (by unfold maxLen; omega) (by omega) (by simp; omega) (by omega) ?_)
      intro v2 w12 ho12 hg12 _
      have ho12' : w12.ownsRow w10.heap.size 40 4 v2 (l + 1) (ints (zs ++ [13, 0, 0, 0])) := by rw [ints_app]; exact ho12
      obtain ⟨r2, cap2, rfl, hr2, hr2'⟩ := ho12'.form (by omega)
      have b12 : Below w10.heap.size w10 w12 := (b11.alloc (by omega) _).trans ⟨hg12.os, hg12.tape, hg12.output, hg12.size, fun q hq => hg12.block q (by simp; omega) (fun e => by simp [Value.ownBlock] at e; omega)⟩
      have fx12 := own_fl4 ho12'
      have f12 := f10.later b12
      have z12 := b12.size
      have bw12 := b10.trans (b12.mono (by omega))
      clear ho11' ho12 ho12' hg12 f10 b11 b12 HX
      have hlc : l ≤ cC := f12.le
      have hcm : cC ≤ 9223372036854775807 := by have := f12.top; unfold maxLen at this; omega
      have g1 : (0 : Int) ≤ (l : Int) - 1 := by omega
      have g2 : (l : Int) - 1 ≤ (cC : Int) := by omega
      obtain ⟨l', rfl⟩ : ∃ l', l = l' + 1 := ⟨l - 1, by omega⟩
      have fl12 := f12.take4 (k := l') (by omega)
      rw [Nat.add_sub_cancel] at HN1
      have bY : Below w12.heap.size w12 (w12.alloc (.cells #[.int .i64 9, .int .i64 0, .int .i64 0, .int .i64 0, .int .i64 13, .int .i64 0, .int .i64 0, .int .i64 0] 40)) := (Below.refl _ _).alloc (Nat.le_refl _) _
      have fy := two4 (new_row w12 #[.int .i64 9, .int .i64 0, .int .i64 0, .int .i64 0, .int .i64 13, .int .i64 0, .int .i64 0, .int .i64 0] 40)
      have f13 := f12.later bY
      have fl13 := fl12.later bY
      have fx13 := fx12.later bY
      have b13 := bw12.trans (bY.mono (by omega))
      clear f12 fl12 fx12 bY
      have szY := size_one w12 (.cells #[.int .i64 9, .int .i64 0, .int .i64 0, .int .i64 0, .int .i64 13, .int .i64 0, .int .i64 0, .int .i64 0] 40)
      have zr := new_row (w12.alloc (.cells #[.int .i64 9, .int .i64 0, .int .i64 0, .int .i64 0, .int .i64 13, .int .i64 0, .int .i64 0, .int .i64 0] 40)) #[.int .i64 8, .int .i64 0, .int .i64 0, .int .i64 0, .int .i64 13, .int .i64 0, .int .i64 0, .int .i64 0] 40
      rw [szY] at zr
      have fz := two4 zr
      have bZ : Below (w12.alloc (.cells #[.int .i64 9, .int .i64 0, .int .i64 0, .int .i64 0, .int .i64 13, .int .i64 0, .int .i64 0, .int .i64 0] 40)).heap.size (w12.alloc (.cells #[.int .i64 9, .int .i64 0, .int .i64 0, .int .i64 0, .int .i64 13, .int .i64 0, .int .i64 0, .int .i64 0] 40)) ((w12.alloc (.cells #[.int .i64 9, .int .i64 0, .int .i64 0, .int .i64 0, .int .i64 13, .int .i64 0, .int .i64 0, .int .i64 0] 40)).alloc (.cells #[.int .i64 8, .int .i64 0, .int .i64 0, .int .i64 0, .int .i64 13, .int .i64 0, .int .i64 0, .int .i64 0] 40)) := (Below.refl _ _).alloc (Nat.le_refl _) _
      have f14 := f13.later bZ
      have fl14 := fl13.later bZ
      have fx14 := fx13.later bZ
      have fy14 := fy.later bZ
      have b14 := b13.trans (bZ.mono (by rw [szY]; omega))
      have z14 := b14.size
      clear f13 fl13 fx13 fy bZ zr b13 szY
      go_wp2_with fail
      refine (codeOk fl14).mono ?_
      rintro e w15 ⟨rfl, hb15⟩
      rw [HN1.out]
      have b15 := b14.trans (hb15.mono (by omega))
      have z15 := b15.size
      have f15 := f14.later hb15
      have fx15 := fx14.later hb15
      have fy15 := fy14.later hb15
      have fz15 := fz.later hb15
      clear f14 fl14 fx14 fy14 fz hb15 HN1
      go_wp2_with fail
      refine (codeOk fx15).mono ?_
      rintro e w16 ⟨rfl, hb16⟩
      rw [HN2.out]
      have b16 := b15.trans (hb16.mono (by omega))
      have z16 := b16.size
      have f16 := f15.later hb16
      have fx16 := fx15.later hb16
      have fy16 := fy15.later hb16
      have fz16 := fz15.later hb16
      clear f15 fx15 fy15 fz15 hb16 HN2
      go_wp2_with fail
      refine (codeOk fy16).mono ?_
      rintro e w17 ⟨rfl, hb17⟩
      rw [not_leave]
      have b17 := b16.trans (hb17.mono (by omega))
      have z17 := b17.size
      have f17 := f16.later hb17
      have fx17 := fx16.later hb17
      have fz17 := fz16.later hb17
      clear f16 fx16 fy16 fz16 hb17
      go_wp2_with fail
      refine (codeOk fz17).mono ?_
      rintro e w18 ⟨rfl, hb18⟩
      rw [not_enter]
      have b18 := b17.trans (hb18.mono (by omega))
      have z18 := b18.size
      have f18 := f17.later hb18
      have fx18 := fx17.later hb18
      clear f17 fx17 fz17 hb18
      go_wp2_with fail
      refine (codeSame f18 fx18).mono ?_
      rintro e w19 ⟨rfl, hb19⟩
      rw [not_same]
      have b19 := b18.trans (hb19.mono (by omega))
      clear f18 fx18 hb19
      go_wp2_with fail
      go_ret
      exact ⟨rfl, b19⟩
end Go.Proofs.Ytogpfagdpkjmmaa
