/- ClockUnder of the program and of the model. -/
import Derived.Test.YtoinagefhbpakaaClockNum
namespace Go.Proofs.Ytoinagefhbpakaa
open Go.ChangeShapes Go.WideShapes Go.ChangeAt Go.RowKit

theorem underK_next {xs ys : List Int} {k : Nat} (h : underK xs ys k = true) (h1 : ¬ nAt ys k < xs.getD k 0) : underK xs ys (k + 1) = true := by
  unfold underK
  rw [h, decide_eq_true (by omega)]; rfl

set_option maxRecDepth 100000 in
theorem implClockUnder {xs ys : List Int} {A B : Option Addr} {n c m d : Nat} {S T : Nat → Prop} {w : World} (hs : Fl w S 1 xs A n c) (ht : Fl w T 1 ys B m d) :
    Calls Try.prog 18 #[.slice A n c, .slice B m d] w fun e w' => e = .returned (.bool (underB xs ys)) ∧ Below w.heap.size w w' := by
  have hl := hs.len
  rw [Nat.mul_one] at hl
  have HL := Lib.hid hl
  clear hl
  have hmax : n ≤ 9223372036854775807 := by have := hs.le; have := hs.top; unfold maxLen at this; omega
  go_enter Try.func18, Try.ntmps18
  go_wp2_with fail
  go_loopw [5, 6, 9] (fun _ _ i wr => ∃ k : Nat, k ≤ n ∧ i = .int .i64 k ∧ Go.RowKit.Hid (underK xs ys k = true) ∧ Below w.heap.size w wr) (fun _ _ i _ => n - (intOf i).toNat)
  case atStart => exact ⟨0, Nat.zero_le _, rfl, Lib.hid rfl, Below.refl _ _⟩
  case round =>
    obtain ⟨k, hk, rfl, HT, hb⟩ := hrel
    by_cases hlt : k < n
    · obtain ⟨a, rfl⟩ := hs.some (by omega)
      have c0 := (hs.later hb).one k hlt
      by_cases hu : nAt ys k < xs.getD k 0
      · have HF := Lib.hid (show underB xs ys = false from underK_false (by have := HL.out; omega) hu)
        generalize xs.getD k 0 = x at *
        go_wp2_with fail
        refine (numberAt_ (ht.later hb) k (by omega)).mono ?_
        rintro e w1 ⟨rfl, rfl⟩
        go_wp2_with fail
        go_ret
        exact ⟨by rw [HF.out]; rfl, hb⟩
      · have HN := Lib.hid (underK_next HT.out hu)
        generalize xs.getD k 0 = x at *
        go_wp2_with fail
        refine (numberAt_ (ht.later hb) k (by omega)).mono ?_
        rintro e w1 ⟨rfl, rfl⟩
        go_wp2_with fail
        go_roundw
        case rel => exact ⟨k + 1, by omega, by go_num, HN, hb⟩
        case measure => simp [intOf]; omega
    · have HF := Lib.hid (show underB xs ys = true by have := HT.out; rwa [show k = xs.length by have := HL.out; omega] at this)
      go_wp2_with fail
      go_ret
      exact ⟨by rw [HF.out]; rfl, hb⟩

set_option maxRecDepth 100000 in
theorem specClockUnder {xs ys : List Int} {A B : Option Addr} {n c m d : Nat} {S T : Nat → Prop} {w : World} (hs : Fl w S 1 xs A n c) (ht : Fl w T 1 ys B m d) :
    Calls Try.prog 17 #[.slice A n c, .slice B m d] w fun e w' => e = .returned (.bool (underB xs ys)) ∧ Below w.heap.size w w' := by
  have hl := hs.len
  rw [Nat.mul_one] at hl
  have HL := Lib.hid hl
  have hl2 := ht.len
  rw [Nat.mul_one] at hl2
  have HL2 := Lib.hid hl2
  clear hl hl2
  have hmax : n ≤ 9223372036854775807 := by have := hs.le; have := hs.top; unfold maxLen at this; omega
  have hmax2 : m ≤ 9223372036854775807 := by have := ht.le; have := ht.top; unfold maxLen at this; omega
  go_enter Try.func17, Try.ntmps17
  go_wp2_with fail
  go_loopw [5, 6] (fun i _ wr => ∃ k : Nat, k ≤ n ∧ i = .int .i64 k ∧ Go.RowKit.Hid (underK xs ys k = true) ∧ Below w.heap.size w wr) (fun i _ _ => n - (intOf i).toNat)
  case atStart => exact ⟨0, Nat.zero_le _, rfl, Lib.hid rfl, Below.refl _ _⟩
  case round =>
    obtain ⟨k, hk, rfl, HT, hb⟩ := hrel
    by_cases hlt : k < n
    · obtain ⟨a, rfl⟩ := hs.some (by omega)
      have c0 := (hs.later hb).one k hlt
      obtain ⟨y, hy, hyk⟩ : ∃ y, Go.RowKit.Hid (nAt ys k = y) ∧ (y < xs.getD k 0 → underB xs ys = false) ∧ (¬ y < xs.getD k 0 → underK xs ys (k + 1) = true) := ⟨nAt ys k, Lib.hid rfl, fun h => underK_false (by have := HL.out; omega) h, underK_next HT.out⟩
      have HY := Lib.hid hyk
      clear hyk
      by_cases hm : k < m
      · obtain ⟨a', rfl⟩ := ht.some (by omega)
        have d0 := (ht.later hb).one k hm
        have HX := Lib.hid (nAt_of (xs := ys) (i := k) (by have := HL2.out; omega))
        generalize ys.getD k 0 = z at *
        generalize xs.getD k 0 = x at *
        have hm0 := fun W => l1Max z 0 W
        rw [← HX.out, hy.out] at hm0
        by_cases hu : y < x
        · have HF := Lib.hid (HY.out.1 hu)
          go_wp2_with fail
          go_quiet (exact Calls.quiet_of_same (hm0 _))
          all_goals (try go_wp2_with fail)
          go_ret
          exact ⟨by rw [HF.out]; rfl, below_drewK hb _⟩
        · have HN := Lib.hid (HY.out.2 hu)
          go_wp2_with fail
          go_quiet (exact Calls.quiet_of_same (hm0 _))
          all_goals (try go_wp2_with fail)
          go_roundw
          case rel => exact ⟨k + 1, by omega, by go_num, HN, below_drewK hb _⟩
          case measure => simp [intOf]; omega
      · have HX := Lib.hid (nAt_out (xs := ys) (i := k) (by have := HL2.out; omega))
        generalize xs.getD k 0 = x at *
        have hm0 := fun W => l1Max 0 0 W
        rw [show max (0 : Int) 0 = y by rw [← hy.out, HX.out]; rfl] at hm0
        by_cases hu : y < x
        · have HF := Lib.hid (HY.out.1 hu)
          go_wp2_with fail
          go_quiet (exact Calls.quiet_of_same (hm0 _))
          all_goals (try go_wp2_with fail)
          go_ret
          exact ⟨by rw [HF.out]; rfl, below_drewK hb _⟩
        · have HN := Lib.hid (HY.out.2 hu)
          go_wp2_with fail
          go_quiet (exact Calls.quiet_of_same (hm0 _))
          all_goals (try go_wp2_with fail)
          go_roundw
          case rel => exact ⟨k + 1, by omega, by go_num, HN, below_drewK hb _⟩
          case measure => simp [intOf]; omega
    · have HF := Lib.hid (show underB xs ys = true by have := HT.out; rwa [show k = xs.length by have := HL.out; omega] at this)
      go_wp2_with fail
      go_ret
      exact ⟨by rw [HF.out]; rfl, hb⟩
end Go.Proofs.Ytoinagefhbpakaa
