/- GapsOk of the program and of the model. -/
import Derived.Test.YtapckfapkhnbgaaFl
namespace Go.Proofs.Ytapckfapkhnbgaa
open Go.ChangeShapes Go.WideShapes Go.ChangeAt Go.RowKit

/-- Whether one gap is right, and all of them. -/
def gapB (x : Int) : Bool := decide (1 ≤ x ∧ x ≤ 12)
def gapsB (xs : List Int) (n : Nat) : Bool := decide (1 ≤ n ∧ n ≤ 20) && xs.all gapB

theorem all_not {xs : List Int} {k : Nat} (hk : k < xs.length) (h : gapB (xs.getD k 0) = false) : xs.all gapB = false := by
  rw [List.all_eq_false]
  refine ⟨xs.getD k 0, ?_, by rw [h]; decide⟩
  simp [List.getD, hk]
theorem take_all {xs : List Int} {k : Nat} (hk : k < xs.length) (h : (xs.take k).all gapB = true) (h1 : gapB (xs.getD k 0) = true) : (xs.take (k + 1)).all gapB = true := by
  rw [List.take_add_one, List.getElem?_eq_getElem hk, List.all_append, h]
  simp [List.getD, hk] at h1
  simp [h1]
theorem gapB_true {x : Int} (h : gapB x = true) : 1 ≤ x ∧ x ≤ 12 := of_decide_eq_true h
theorem gapB_false {x : Int} (h : gapB x = false) : x < 1 ∨ 12 < x := by
  have := of_decide_eq_false h
  omega

set_option maxRecDepth 100000 in
theorem specGaps {xs : List Int} {A : Option Addr} {n c : Nat} {S : Nat → Prop} {w : World} (hs : Fl w S 1 xs A n c) :
    Calls Try.prog 9 #[.slice A n c] w fun e w' => e = .returned (.bool (gapsB xs n)) ∧ Below w.heap.size w w' := by
  have hl := hs.len
  rw [Nat.mul_one] at hl
  have HL := Lib.hid hl
  clear hl
  have hmax : n ≤ 9223372036854775807 := by have := hs.le; have := hs.top; unfold maxLen at this; omega
  go_enter Try.func9, Try.ntmps9
  go_wp2_with fail
  go_loopw [3] (fun i wr => ∃ k : Nat, k ≤ n ∧ i = .int .i64 k ∧ Go.RowKit.Hid ((xs.take k).all gapB = true) ∧ Below w.heap.size w wr) (fun i _ => n - (intOf i).toNat)
  case atStart => exact ⟨0, Nat.zero_le _, rfl, Lib.hid (by simp), Below.refl _ _⟩
  case round =>
    obtain ⟨k, hk, rfl, HT, hb⟩ := hrel
    by_cases hlt : k < n
    · obtain ⟨a, rfl⟩ := hs.some (by omega)
      have c0 := (hs.later hb).one k hlt
      have hl := HL.out
      cases hg : gapB (xs.getD k 0)
      · have HF := Lib.hid (show gapsB xs n = false by unfold gapsB; rw [all_not (by omega) hg, Bool.and_false])
        have h12 := gapB_false hg
        clear hg hl
        generalize xs.getD k 0 = x at *
        rcases h12 with h1 | h1
        · go_wp2
          go_ret
          exact ⟨by rw [HF.out]; first | rfl | (simp; omega), hb⟩
        · have h2 : ¬ x < 1 := by omega
          go_wp2
          go_ret
          exact ⟨by rw [HF.out]; first | rfl | (simp; omega), hb⟩
      · have HN := Lib.hid (take_all (by omega) HT.out hg)
        obtain ⟨h1, h2⟩ := gapB_true hg
        have h1' : ¬ xs.getD k 0 < 1 := by omega
        have h2' : ¬ 12 < xs.getD k 0 := by omega
        clear hg hl h1 h2
        generalize xs.getD k 0 = x at *
        go_wp2
        go_roundw
        case rel => exact ⟨k + 1, by omega, by go_num, HN, hb⟩
        case measure => simp [intOf]; omega
    · have hall : xs.all gapB = true := by have := HT.out; rwa [List.take_of_length_le (by have := HL.out; omega)] at this
      by_cases h1 : 1 ≤ n
      · by_cases h2 : n ≤ 20
        · have HF := Lib.hid (show gapsB xs n = true by unfold gapsB; rw [hall, Bool.and_true]; exact decide_eq_true ⟨h1, h2⟩)
          clear hall
          go_wp2_with fail
          go_ret
          exact ⟨by rw [HF.out]; first | rfl | (simp; omega), hb⟩
        · have HF := Lib.hid (show gapsB xs n = false by unfold gapsB; rw [hall, Bool.and_true]; exact decide_eq_false (by omega))
          clear hall
          go_wp2_with fail
          go_ret
          exact ⟨by rw [HF.out]; first | rfl | (simp; omega), hb⟩
      · have HF := Lib.hid (show gapsB xs n = false by unfold gapsB; rw [hall, Bool.and_true]; exact decide_eq_false (by omega))
        clear hall
        go_wp2_with fail
        go_ret
        exact ⟨by rw [HF.out]; first | rfl | (simp; omega), hb⟩

theorem gapBad (x : Int) (w : World) : Calls Try.prog 36 #[.int .i64 x] w fun e w' => e = .returned (.bool (!gapB x)) ∧ w' = w := by
  cases hg : gapB x
  · rcases gapB_false hg with h1 | h1
    · clear hg
      go_enter Try.func36, Try.ntmps36
      go_wp2
      go_ret
      exact ⟨rfl, rfl⟩
    · have h2 : ¬ x < 1 := by omega
      clear hg
      go_enter Try.func36, Try.ntmps36
      go_wp2
      go_ret
      exact ⟨rfl, rfl⟩
  · obtain ⟨h1, h2⟩ := gapB_true hg
    have h1' : ¬ x < 1 := by omega
    have h2' : ¬ 12 < x := by omega
    clear hg
    go_enter Try.func36, Try.ntmps36
    go_wp2
    go_ret
    exact ⟨rfl, rfl⟩

/-- The first gap that is not right, or -1. -/
def BadAt (xs : List Int) (r : Int) : Prop := (xs.all gapB = true ∧ r = -1) ∨ (xs.all gapB = false ∧ 0 ≤ r)

set_option maxRecDepth 100000 in
theorem gapsIndex {xs : List Int} {A : Option Addr} {n c : Nat} {S : Nat → Prop} {w : World} (hs : Fl w S 1 xs A n c) :
    Calls Try.prog 82 #[.slice A n c, .func (Fn.func 36) #[] #[]] w fun e w' => ∃ r, e = .returned (.int .i64 r) ∧ BadAt xs r ∧ Below w.heap.size w w' := by
  have hl := hs.len
  rw [Nat.mul_one] at hl
  have HL := Lib.hid hl
  clear hl
  have hmax : n ≤ 9223372036854775807 := by have := hs.le; have := hs.top; unfold maxLen at this; omega
  go_enter Try.func82, Try.ntmps82
  go_wp2_with fail
  go_loopw [5, 8] (fun j i wr => ∃ k : Nat, k ≤ n ∧ i = .int .i64 k ∧ Go.RowKit.Hid ((xs.take k).all gapB = true) ∧ Below w.heap.size w wr) (fun _ i _ => n - (intOf i).toNat)
  case atStart => exact ⟨0, Nat.zero_le _, rfl, Lib.hid (by simp), Below.refl _ _⟩
  case round =>
    obtain ⟨k, hk, rfl, HT, hb⟩ := hrel
    by_cases hlt : k < n
    · obtain ⟨a, rfl⟩ := hs.some (by omega)
      have c0 := (hs.later hb).one k hlt
      have hl := HL.out
      cases hg : gapB (xs.getD k 0)
      · have HF := Lib.hid (show BadAt xs k from .inr ⟨all_not (by omega) hg, by omega⟩)
        have HG := Lib.hid hg
        clear hg hl
        generalize xs.getD k 0 = x at *
        go_wp2_with fail
        refine (gapBad x _).mono ?_
        rintro e wr ⟨rfl, rfl⟩
        rw [HG.out]
        go_wp2_with fail
        go_ret
        exact ⟨_, rfl, HF.out, hb⟩
      · have HN := Lib.hid (take_all (by omega) HT.out hg)
        have HG := Lib.hid hg
        clear hg hl
        generalize xs.getD k 0 = x at *
        go_wp2_with fail
        refine (gapBad x _).mono ?_
        rintro e wr ⟨rfl, rfl⟩
        rw [HG.out]
        go_wp2_with fail
        go_roundw
        case rel => exact ⟨k + 1, by omega, by go_num, HN, hb⟩
        case measure => simp [intOf]; omega
    · have hall : xs.all gapB = true := by have := HT.out; rwa [List.take_of_length_le (by have := HL.out; omega)] at this
      have HF := Lib.hid (show BadAt xs (-1) from .inl ⟨hall, rfl⟩)
      clear hall
      go_wp2_with fail
      go_ret
      exact ⟨_, rfl, HF.out, hb⟩

set_option maxRecDepth 100000 in
theorem gapsContains {xs : List Int} {A : Option Addr} {n c : Nat} {S : Nat → Prop} {w : World} (hs : Fl w S 1 xs A n c) :
    Calls Try.prog 37 #[.slice A n c, .func (Fn.func 36) #[] #[]] w fun e w' => e = .returned (.bool (!xs.all gapB)) ∧ Below w.heap.size w w' := by
  go_enter Try.func37, Try.ntmps37
  go_wp2_with fail
  refine (gapsIndex hs).mono ?_
  rintro e w1 ⟨r, rfl, ⟨ha, rfl⟩ | ⟨ha, h0⟩, hb⟩
  · have HA := Lib.hid ha
    clear ha
    go_wp2_with fail
    go_ret
    exact ⟨by rw [HA.out]; rfl, hb⟩
  · have HA := Lib.hid ha
    clear ha
    go_wp2_with fail
    go_ret
    exact ⟨by rw [HA.out]; rfl, hb⟩

set_option maxRecDepth 100000 in
theorem implGaps {xs : List Int} {A : Option Addr} {n c : Nat} {S : Nat → Prop} {w : World} (hs : Fl w S 1 xs A n c) :
    Calls Try.prog 11 #[.slice A n c] w fun e w' => e = .returned (.bool (gapsB xs n)) ∧ Below w.heap.size w w' := by
  have hmax : n ≤ 9223372036854775807 := by have := hs.le; have := hs.top; unfold maxLen at this; omega
  by_cases h1 : 1 ≤ n
  · by_cases h2 : n ≤ 20
    · have HF := Lib.hid (show gapsB xs n = xs.all gapB by unfold gapsB; rw [decide_eq_true ⟨h1, h2⟩, Bool.true_and])
      go_enter Try.func11, Try.ntmps11
      go_wp2_with fail
      refine (gapsContains hs).mono ?_
      rintro e w1 ⟨rfl, hb⟩
      cases ha : xs.all gapB
      · have HA := Lib.hid ha
        clear ha
        go_wp2_with fail
        go_ret
        exact ⟨by rw [HF.out, HA.out]; rfl, hb⟩
      · have HA := Lib.hid ha
        clear ha
        go_wp2_with fail
        go_ret
        exact ⟨by rw [HF.out, HA.out]; rfl, hb⟩
    · have HF := Lib.hid (show gapsB xs n = false by unfold gapsB; rw [decide_eq_false (by omega), Bool.false_and])
      go_enter Try.func11, Try.ntmps11
      go_wp2_with fail
      go_ret
      exact ⟨by rw [HF.out]; first | rfl | (simp; omega), Below.refl _ _⟩
  · have HF := Lib.hid (show gapsB xs n = false by unfold gapsB; rw [decide_eq_false (by omega), Bool.false_and])
    go_enter Try.func11, Try.ntmps11
    go_wp2_with fail
    go_ret
    exact ⟨by rw [HF.out]; first | rfl | (simp; omega), Below.refl _ _⟩
end Go.Proofs.Ytapckfapkhnbgaa
