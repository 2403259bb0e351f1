/- WholeOk of the model. -/
import Derived.Test.YtoinagefhbpakaaOwnSpec
namespace Go.Proofs.Ytoinagefhbpakaa
open Go.ChangeShapes Go.WideShapes Go.ChangeAt Go.RowKit

theorem ownAll_drop {o : List Int} {Ls : List SL} {k : Nat} (h : k < Ls.length) : ((Ls.drop k).all fun L => ownL o L (-1)) = (ownL o Ls[k] (-1) && (Ls.drop (k + 1)).all fun L => ownL o L (-1)) := by
  rw [List.drop_eq_getElem_cons h]; rfl
def OwnAllRel (o : List Int) (Ls : List SL) (w : World) (i : Value) (wr : World) : Prop :=
  ∃ k : Nat, k ≤ Ls.length ∧ i = .int .i64 k ∧ (Ls.all fun L => ownL o L (-1)) = ((Ls.drop k).all fun L => ownL o L (-1)) ∧ Below w.heap.size w wr
theorem okPr_get {Ls : List SL} (h : okPr Ls = true) {k : Nat} (hk : k < Ls.length) : okL Ls[k] 3 (-1) = true := by
  unfold okPr at h
  rw [Bool.and_eq_true] at h
  exact (okP_size (List.all_eq_true.1 h.2 _ (List.getElem_mem hk))).2

set_option maxRecDepth 100000 in
set_option maxHeartbeats 8000000 in
theorem specWholeOk (Ls : List SL) (hL : sizeP Ls ≤ 1048576) (A : Option Addr) (n c N : Nat) (o : List Int) (B : Option Addr) (b c' : Nat) (S : Nat → Prop) (w : World) (hs : Ps w N Ls A n c) (hN : N ≤ w.heap.size) (ho : Fl w S 1 o B b c') :
    Calls Try.prog 28 #[.slice A n c, .slice B b c'] w fun e w' => e = .returned (.bool (wholeB Ls o)) ∧ Below w.heap.size w w' := by
  have HL := Lib.hid hs.len
  have HO := Lib.hid ho
  have ol := ho.len
  rw [Nat.mul_one] at ol
  have OL := Lib.hid ol
  clear ho ol
  have hlen : n ≤ Ls.length := Nat.le_of_eq hs.len
  have hlen' : Ls.length ≤ n := Nat.le_of_eq hs.len.symm
  have hmax : n ≤ 9223372036854775807 := by have := hs.le; have := hs.top; unfold maxLen at this; omega
  go_enter Try.func28, Try.ntmps28
  go_wp2_with fail
  refine (specProgOk Ls hL A n c N w hs hN).mono ?_
  rintro e w1 ⟨rfl, hb1⟩
  cases hp : okPr Ls
  · have H := Lib.hid (show wholeB Ls o = false from by unfold wholeB; rw [hp]; rfl)
    clear hp
    go_wp2_with fail
    go_ret
    exact ⟨by rw [H.out]; rfl, hb1⟩
  have HP := Lib.hid hp
  clear hp
  by_cases h5 : b = 5
  rotate_left
  · have H := Lib.hid (show wholeB Ls o = false from by unfold wholeB roomsB; rw [decide_eq_false (by have := OL.out; omega)]; simp)
    have h5i : ((b : Int) != 5) = true := by rw [bne_iff_ne]; omega
    clear h5
    go_wp2_with fail
    go_ret
    exact ⟨by rw [H.out]; rfl, hb1⟩
  subst h5
  have HR := Lib.hid (show roomsB o = o.all rmB from by unfold roomsB; rw [decide_eq_true (by have := OL.out; omega), Bool.true_and])
  go_wp2_with fail
  go_loopw [5] (fun i wr => ∃ k : Nat, k ≤ 5 ∧ i = .int .i64 k ∧ Go.RowKit.Hid ((o.take k).all rmB = true) ∧ Below w.heap.size w wr) (fun i _ => 5 - (intOf i).toNat)
  case atStart => exact ⟨0, Nat.zero_le _, rfl, Lib.hid (by simp), hb1⟩
  case round =>
    obtain ⟨k, hk, rfl, HT, hb⟩ := hrel
    by_cases hlt : k < 5
    · obtain ⟨a, rfl⟩ := HO.out.some (by omega)
      have c0 := (HO.out.later hb).one k hlt
      have hl := OL.out
      cases hg : rmB (o.getD k 0)
      · have HF := Lib.hid (show wholeB Ls o = false from by unfold wholeB; rw [HR.out, all_notR (by omega) hg]; simp)
        rcases rmB_false hg with h1 | ⟨h1, h2⟩
        all_goals
          clear hg hl
          generalize o.getD k 0 = x at *
          go_wp2_with fail
          go_ret
          exact ⟨by rw [HF.out]; rfl, hb⟩
      · have HN := Lib.hid (take_allR (by omega) HT.out hg)
        obtain ⟨h1, h2⟩ := rmB_true hg
        have h1' : ¬ o.getD k 0 < 0 := by omega
        have h2' : ¬ 2 ≤ o.getD k 0 := by omega
        clear hg hl
        generalize o.getD k 0 = x at *
        go_wp2_with fail
        go_roundw
        case rel => exact ⟨k + 1, by omega, by go_num, HN, hb⟩
        case measure => simp [intOf]; omega
    · have hall : o.all rmB = true := by have := HT.out; rwa [List.take_of_length_le (by have := OL.out; omega)] at this
      have HW := Lib.hid (show wholeB Ls o = Ls.all fun L => ownL o L (-1) from by unfold wholeB; rw [HP.out, HR.out, hall]; rfl)
      clear hall HT
      go_wp2_with fail
      go_loopw [6] (fun i wr => OwnAllRel o Ls w i wr) (fun i _ => n - (intOf i).toNat)
      case atStart => exact ⟨0, Nat.zero_le _, rfl, by rw [List.drop_zero], hb⟩
      case round =>
        obtain ⟨k, hk, rfl, hz, hb⟩ := hrel
        have HZ := Lib.hid hz
        clear hz
        by_cases hlt : k < n
        · have hk' : k < Ls.length := by omega
          have hsg := sizeP_get hk'
          have HD := Lib.hid (ownAll_drop (o := o) hk')
          have HK := Lib.hid (okPr_get HP.out hk')
          obtain ⟨a, A1, c1, rfl, _, hc, hsl⟩ := (hs.below (hb.mono hN)).at_ k hk'
          have hsz := hb.size
          generalize Ls[k] = L at *
          go_wp2_with fail
          refine (owns_any o OL.out (L.size + 1) L (by omega) 3 (-1) (by omega) (by omega) HK.out A1 _ c1 N B 5 c' S wr hsl (by omega) (HO.out.later hb)).mono ?_
          rintro e w2 ⟨rfl, hb2⟩
          cases hS : ownL o L (-1)
          · have H := Lib.hid (show wholeB Ls o = false from by rw [HW.out, HZ.out, HD.out, hS]; rfl)
            clear hS
            go_wp2_with fail
            go_ret
            exact ⟨by rw [H.out]; rfl, hb.trans (hb2.mono hsz)⟩
          · have H := Lib.hid (show (Ls.all fun L => ownL o L (-1)) = ((Ls.drop (k + 1)).all fun L => ownL o L (-1)) from by rw [HZ.out, HD.out, hS, Bool.true_and])
            clear hS
            go_wp2_with fail
            go_roundw
            case rel => exact ⟨k + 1, by omega, by go_num, H.out, hb.trans (hb2.mono hsz)⟩
            case measure => simp [intOf]; omega
        · have H2 := Lib.hid (show wholeB Ls o = true from by rw [HW.out, HZ.out, List.drop_of_length_le (by omega)]; rfl)
          go_wp2_with fail
          go_ret
          exact ⟨by rw [H2.out]; rfl, hb⟩
end Go.Proofs.Ytoinagefhbpakaa
