/- isOwnership of the program. -/
import Derived.Test.YtoinagefhbpakaaOwnPure
import Derived.Test.YtoinagefhbpakaaFl
namespace Go.Proofs.Ytoinagefhbpakaa
open Go.ChangeShapes Go.WideShapes Go.ChangeAt Go.RowKit

theorem isRoom_ (x : Int) (w : World) : Calls Try.prog 57 #[.int .i64 x] w fun e w' => e = .returned (.bool (rmB x)) ∧ w' = w := by
  cases hg : rmB x
  · rcases rmB_false hg with h1 | ⟨h1, h2⟩
    · clear hg
      go_enter Try.func57, Try.ntmps57
      go_wp2
      go_ret
      exact ⟨rfl, rfl⟩
    · have h3 : ¬ x < 2 := by omega
      clear hg
      go_enter Try.func57, Try.ntmps57
      go_wp2
      go_ret
      exact ⟨by simp [*], rfl⟩
  · obtain ⟨h1, h2⟩ := rmB_true hg
    clear hg
    go_enter Try.func57, Try.ntmps57
    go_wp2
    go_ret
    exact ⟨rfl, rfl⟩

theorem rmBad (x : Int) (w : World) : Calls Try.prog 56 #[.int .i64 x] w fun e w' => e = .returned (.bool (!rmB x)) ∧ w' = w := by
  go_enter Try.func56, Try.ntmps56
  go_wp2_with fail
  refine (isRoom_ x _).mono ?_
  rintro e w1 ⟨rfl, rfl⟩
  go_wp2_with fail
  go_ret
  exact ⟨rfl, rfl⟩

/-- The first that is no monitor, or -1. -/
def NoRoomAt (xs : List Int) (r : Int) : Prop := (xs.all rmB = true ∧ r = -1) ∨ (xs.all rmB = false ∧ 0 ≤ r)

set_option maxRecDepth 100000 in
theorem roomsIndex {xs : List Int} {A : Option Addr} {n c : Nat} {S : Nat → Prop} {w : World} (hs : Fl w S 1 xs A n c) :
    Calls Try.prog 70 #[.slice A n c, .func (Fn.func 56) #[] #[]] w fun e w' => ∃ r, e = .returned (.int .i64 r) ∧ NoRoomAt xs r ∧ Below w.heap.size w w' := by
  have hl := hs.len
  rw [Nat.mul_one] at hl
  have HL := Lib.hid hl
  clear hl
  have hmax : n ≤ 9223372036854775807 := by have := hs.le; have := hs.top; unfold maxLen at this; omega
  go_enter Try.func70, Try.ntmps70
  go_wp2_with fail
  go_loopw [5, 8] (fun j i wr => ∃ k : Nat, k ≤ n ∧ i = .int .i64 k ∧ Go.RowKit.Hid ((xs.take k).all rmB = true) ∧ Below w.heap.size w wr) (fun _ i _ => n - (intOf i).toNat)
  case atStart => exact ⟨0, Nat.zero_le _, rfl, Lib.hid (by simp), Below.refl _ _⟩
  case round =>
    obtain ⟨k, hk, rfl, HT, hb⟩ := hrel
    by_cases hlt : k < n
    · obtain ⟨a, rfl⟩ := hs.some (by omega)
      have c0 := (hs.later hb).one k hlt
      have hl := HL.out
      cases hg : rmB (xs.getD k 0)
      · have HF := Lib.hid (show NoRoomAt xs k from .inr ⟨all_notR (by omega) hg, by omega⟩)
        have HG := Lib.hid hg
        clear hg hl
        generalize xs.getD k 0 = x at *
        go_wp2_with fail
        refine (rmBad x _).mono ?_
        rintro e wr ⟨rfl, rfl⟩
        rw [HG.out]
        go_wp2_with fail
        go_ret
        exact ⟨_, rfl, HF.out, hb⟩
      · have HN := Lib.hid (take_allR (by omega) HT.out hg)
        have HG := Lib.hid hg
        clear hg hl
        generalize xs.getD k 0 = x at *
        go_wp2_with fail
        refine (rmBad x _).mono ?_
        rintro e wr ⟨rfl, rfl⟩
        rw [HG.out]
        go_wp2_with fail
        go_roundw
        case rel => exact ⟨k + 1, by omega, by go_num, HN, hb⟩
        case measure => simp [intOf]; omega
    · have hall : xs.all rmB = true := by have := HT.out; rwa [List.take_of_length_le (by have := HL.out; omega)] at this
      have HF := Lib.hid (show NoRoomAt xs (-1) from .inl ⟨hall, rfl⟩)
      clear hall
      go_wp2_with fail
      go_ret
      exact ⟨_, rfl, HF.out, hb⟩

set_option maxRecDepth 100000 in
theorem roomsContains {xs : List Int} {A : Option Addr} {n c : Nat} {S : Nat → Prop} {w : World} (hs : Fl w S 1 xs A n c) :
    Calls Try.prog 58 #[.slice A n c, .func (Fn.func 56) #[] #[]] w fun e w' => e = .returned (.bool (!xs.all rmB)) ∧ Below w.heap.size w w' := by
  go_enter Try.func58, Try.ntmps58
  go_wp2_with fail
  refine (roomsIndex hs).mono ?_
  rintro e w1 ⟨r, rfl, ⟨ha, rfl⟩ | ⟨ha, h0⟩, hb⟩
  · have HA := Lib.hid ha
    clear ha
    go_wp2_with fail
    go_ret
    exact ⟨by rw [HA.out]; rfl, hb⟩
  · have HA := Lib.hid ha
    clear ha
    go_wp2_with fail
    go_ret
    exact ⟨by rw [HA.out]; rfl, hb⟩

set_option maxRecDepth 100000 in
theorem isOwnership_ {xs : List Int} {A : Option Addr} {n c : Nat} {S : Nat → Prop} {w : World} (hs : Fl w S 1 xs A n c) :
    Calls Try.prog 45 #[.slice A n c] w fun e w' => e = .returned (.bool (roomsB xs)) ∧ Below w.heap.size w w' := by
  have hl := hs.len
  rw [Nat.mul_one] at hl
  by_cases h5 : n = 5
  · have HF := Lib.hid (show roomsB xs = xs.all rmB by unfold roomsB; rw [decide_eq_true (by omega), Bool.true_and])
    subst h5
    clear hl
    go_enter Try.func45, Try.ntmps45
    go_wp2_with fail
    refine (roomsContains hs).mono ?_
    rintro e w1 ⟨rfl, hb⟩
    cases ha : xs.all rmB
    all_goals
      have HA := Lib.hid ha
      clear ha
      go_wp2_with fail
      go_ret
      exact ⟨by rw [HF.out, HA.out]; rfl, hb⟩
  · have HF := Lib.hid (show roomsB xs = false by unfold roomsB; rw [decide_eq_false (by omega), Bool.false_and])
    have h5i : ((n : Int) == 5) = false := by rw [beq_eq_false_iff_ne]; omega
    clear hl
    go_enter Try.func45, Try.ntmps45
    go_wp2_with fail
    go_ret
    exact ⟨by rw [HF.out]; rfl, Below.refl _ _⟩
end Go.Proofs.Ytoinagefhbpakaa
