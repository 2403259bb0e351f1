/- ProgOk of the program and of the model. -/
import Derived.Test.YtlmgbpbiljnohaaStmtsOk
import Derived.Test.YtlmgbpbiljnohaaPs
namespace Go.Proofs.Ytlmgbpbiljnohaa
open Go.ChangeShapes Go.WideShapes Go.ChangeAt Go.RowKit

/-- Whether lists are a program. -/
def okPr (Ls : List SL) : Bool := decide (1 ≤ Ls.length ∧ Ls.length ≤ 3) && Ls.all okP

theorem all_drop {Ls : List SL} {k : Nat} (h : k < Ls.length) : (Ls.drop k).all okP = (okP Ls[k] && (Ls.drop (k + 1)).all okP) := by
  rw [List.drop_eq_getElem_cons h]; rfl

def AllRel (Ls : List SL) (w : World) (i : Value) (wr : World) : Prop :=
  ∃ k : Nat, k ≤ Ls.length ∧ i = .int .i64 k ∧ Ls.all okP = (Ls.drop k).all okP ∧ Below w.heap.size w wr

theorem specProgOk (Ls : List SL) (hL : sizeP Ls ≤ 1048576) (A : Option Addr) (n c N : Nat) (w : World) (hs : Ps w N Ls A n c) (hN : N ≤ w.heap.size) :
    Calls Try.prog 22 #[.slice A n c] w fun e w' => e = .returned (.bool (okPr Ls)) ∧ Below w.heap.size w w' := by
  have HL := Lib.hid hs.len
  have hlen : n ≤ Ls.length := Nat.le_of_eq hs.len
  have hlen' : Ls.length ≤ n := Nat.le_of_eq hs.len.symm
  have hmax : n ≤ 9223372036854775807 := by have := hs.le; have := hs.top; unfold maxLen at this; omega
  go_enter Try.func22, Try.ntmps22
  go_wp2_with fail
  go_loopw [3] (fun i wr => AllRel Ls w i wr) (fun i _ => n - (intOf i).toNat)
  case atStart => exact ⟨0, Nat.zero_le _, rfl, by rw [List.drop_zero], Below.refl _ _⟩
  case round =>
    obtain ⟨k, hk, rfl, hz, hb⟩ := hrel
    have HZ := Lib.hid hz
    clear hz
    by_cases hlt : k < n
    · have hk' : k < Ls.length := by omega
      have hsg := sizeP_get hk'
      have HD := Lib.hid (all_drop hk')
      obtain ⟨a, A1, c1, rfl, _, hc, hsl⟩ := (hs.below (hb.mono hN)).at_ k hk'
      have hsz := hb.size
      generalize Ls[k] = L at *
      cases hS : okP L
      · have H := Lib.hid (show okPr Ls = false from by rw [okPr, HZ.out, HD.out, hS, Bool.false_and, Bool.and_false])
        have H1 := Lib.hid hS
        clear hS
        go_wp2_with fail
        refine (specStmtsOk L (by omega) A1 _ c1 N wr hsl (by omega)).mono ?_
        rintro e w1 ⟨rfl, hb1⟩
        rw [H1.out]
        go_wp2_with fail
        go_ret
        exact ⟨by rw [H.out]; rfl, hb.trans (hb1.mono hsz)⟩
      · have H := Lib.hid (show Ls.all okP = (Ls.drop (k + 1)).all okP from by rw [HZ.out, HD.out, hS, Bool.true_and])
        have H1 := Lib.hid hS
        clear hS
        go_wp2_with fail
        refine (specStmtsOk L (by omega) A1 _ c1 N wr hsl (by omega)).mono ?_
        rintro e w1 ⟨rfl, hb1⟩
        rw [H1.out]
        go_wp2_with fail
        go_roundw
        case rel => exact ⟨k + 1, by omega, by go_num, H.out, hb.trans (hb1.mono hsz)⟩
        case measure => simp [intOf]; omega
    · have H2 := Lib.hid (show okPr Ls = decide (1 ≤ n ∧ n ≤ 3) from by rw [okPr, HZ.out, List.drop_of_length_le (by omega), List.all_nil, Bool.and_true, HL.out])
      by_cases h1 : 1 ≤ n
      · go_wp2_with fail
        go_ret
        exact ⟨retB (by rw [H2.out, decide_eq_decide]; omega), hb⟩
      · have h0 : n = 0 := by omega
        subst h0
        go_wp2_with fail
        go_ret
        exact ⟨retB (by rw [H2.out]; rfl), hb⟩

theorem progOk (Ls : List SL) (A : Option Addr) (n c N : Nat) (w : World) (hs : Ps w N Ls A n c) (hN : N ≤ w.heap.size) :
    Calls Try.prog 21 #[.slice A n c] w fun e w' => e = .returned (.bool (okPr Ls)) ∧ Below w.heap.size w w' := by
  have HL := Lib.hid hs.len
  have hlen : n ≤ Ls.length := Nat.le_of_eq hs.len
  have hlen' : Ls.length ≤ n := Nat.le_of_eq hs.len.symm
  by_cases h13 : 1 ≤ n ∧ n ≤ 3
  · have HP := Lib.hid (show okPr Ls = Ls.all okP from by rw [okPr, decide_eq_true (by rw [← HL.out]; exact h13), Bool.true_and])
    obtain ⟨h1, h3⟩ := h13
    have d1 : decide ((n : Int) < 1) = false := by simp; omega
    have d3 : decide ((3 : Int) < n) = false := by simp; omega
    go_enter Try.func21, Try.ntmps21
    go_wp2_with fail
    go_loopw [15] (fun i wr => AllRel Ls w i wr) (fun i _ => n - (intOf i).toNat)
    case atStart => exact ⟨0, Nat.zero_le _, rfl, by rw [List.drop_zero], Below.refl _ _⟩
    case round =>
      obtain ⟨k, hk, rfl, hz, hb⟩ := hrel
      have HZ := Lib.hid hz
      clear hz
      by_cases hlt : k < n
      · have hk' : k < Ls.length := by omega
        have HD := Lib.hid (all_drop hk')
        obtain ⟨a, A1, c1, rfl, _, hc, hsl⟩ := (hs.below (hb.mono hN)).at_ k hk'
        have hsz := hb.size
        generalize Ls[k] = L at *
        cases hS : okP L
        · have H := Lib.hid (show okPr Ls = false from by rw [HP.out, HZ.out, HD.out, hS, Bool.false_and])
          have H1 := Lib.hid hS
          clear hS
          go_wp2_with fail
          refine (stmtsOk L A1 _ c1 N wr hsl (by omega)).mono ?_
          rintro e w1 ⟨rfl, hb1⟩
          rw [H1.out]
          go_wp2_with fail
          go_ret
          exact ⟨by rw [H.out]; rfl, hb.trans (hb1.mono hsz)⟩
        · have H := Lib.hid (show Ls.all okP = (Ls.drop (k + 1)).all okP from by rw [HZ.out, HD.out, hS, Bool.true_and])
          have H1 := Lib.hid hS
          clear hS
          go_wp2_with fail
          refine (stmtsOk L A1 _ c1 N wr hsl (by omega)).mono ?_
          rintro e w1 ⟨rfl, hb1⟩
          rw [H1.out]
          go_wp2_with fail
          go_roundw
          case rel => exact ⟨k + 1, by omega, by go_num, H.out, hb.trans (hb1.mono hsz)⟩
          case measure => simp [intOf]; omega
      · have H2 := Lib.hid (show okPr Ls = true from by rw [HP.out, HZ.out, List.drop_of_length_le (by omega)]; rfl)
        go_wp2_with fail
        go_ret
        exact ⟨by rw [H2.out]; rfl, hb⟩
  · have HP := Lib.hid (show okPr Ls = false from by rw [okPr, decide_eq_false (by rw [← HL.out]; exact h13), Bool.false_and])
    by_cases h1 : 1 ≤ n
    · have h3 : 3 < n := by omega
      go_enter Try.func21, Try.ntmps21
      go_wp2_with fail
      go_ret
      exact ⟨by rw [HP.out]; rfl, Below.refl _ _⟩
    · have h0 : n < 1 := by omega
      clear h13
      go_enter Try.func21, Try.ntmps21
      go_wp2_with fail
      go_ret
      exact ⟨by rw [HP.out]; rfl, Below.refl _ _⟩
end Go.Proofs.Ytlmgbpbiljnohaa
