/- MarkAhead of the program and of the model. -/
import Derived.Test.YtoinagefhbpakaaMarkRec
import Derived.BigQuiet
namespace Go.Proofs.Ytoinagefhbpakaa
open Go.ChangeShapes Go.WideShapes Go.ChangeAt Go.RowKit

theorem below_drewM {B : Nat} {a w : World} (h : Below B a w) (n : Nat) : Below B a (w.drewN n) := ⟨h.os, h.tape, h.output, h.size, h.block⟩

/-- Whether a mark of who with the clock xs is ahead of one of who' with the clock ys. -/
def aheadB (who : Int) (xs : List Int) (who' : Int) (ys : List Int) : Bool :=
  if who < 0 ∨ (xs.length : Int) ≤ who ∨ (ys.length : Int) ≤ who then false
  else if who = who' then decide (xs.getD who.toNat 0 < ys.getD who.toNat 0) else decide (xs.getD who.toNat 0 ≤ ys.getD who.toNat 0)
theorem aheadB_not {who : Int} {xs : List Int} {who' : Int} {ys : List Int} (h : who < 0 ∨ (xs.length : Int) ≤ who ∨ (ys.length : Int) ≤ who) : aheadB who xs who' ys = false := if_pos h
theorem aheadB_in {k : Nat} {xs : List Int} {who' : Int} {ys : List Int} (h : k < xs.length) (h' : k < ys.length) : aheadB k xs who' ys = if (k : Int) = who' then decide (xs.getD k 0 < ys.getD k 0) else decide (xs.getD k 0 ≤ ys.getD k 0) := by
  unfold aheadB
  rw [if_neg (by omega), Int.toNat_natCast]

set_option maxRecDepth 100000 in
set_option maxHeartbeats 1000000 in
theorem implMarkAhead {X0 X1 : Int} {X2 : Bool} {X3 : Int} {X4 : List Int} {A4 : Option Addr} {c4 : Nat} {Y0 Y1 : Int} {Y2 : Bool} {Y3 : Int} {Y4 : List Int} {B4 : Option Addr} {d4 : Nat} {S T : Nat → Prop} {w : World} (f4 : Fl w S 1 X4 A4 X4.length c4) (g4 : Fl w T 1 Y4 B4 Y4.length d4) :
    Calls Try.prog 22 #[.agg #[.int .i64 X0, .int .i64 X1, .bool X2, .int .i64 X3, .slice A4 X4.length c4], .agg #[.int .i64 Y0, .int .i64 Y1, .bool Y2, .int .i64 Y3, .slice B4 Y4.length d4]] w fun e w' => e = .returned (.bool (aheadB X0 X4 Y0 Y4)) ∧ Below w.heap.size w w' := by
  have b0 : Below w.heap.size w ((w.alloc (.cells #[.int .i64 X0, .int .i64 X1, .bool X2, .int .i64 X3, .slice A4 X4.length c4] 31)).alloc (.cells #[.int .i64 Y0, .int .i64 Y1, .bool Y2, .int .i64 Y3, .slice B4 Y4.length d4] 31)) := ((Below.refl _ _).alloc (Nat.le_refl _) _).alloc (by simp) _
  have hmx : X4.length ≤ 9223372036854775807 := by have := f4.le; have := f4.top; unfold maxLen at this; omega
  have hmy : Y4.length ≤ 9223372036854775807 := by have := g4.le; have := g4.top; unfold maxLen at this; omega
  by_cases h0 : X0 < 0
  · have HF := Lib.hid (aheadB_not (who' := Y0) (xs := X4) (ys := Y4) (.inl h0))
    go_enter Try.func22, Try.ntmps22
    go_wp2_with fail
    go_ret
    exact ⟨by rw [HF.out]; rfl, b0⟩
  · obtain ⟨k, rfl⟩ : ∃ k : Nat, X0 = (k : Int) := ⟨X0.toNat, by omega⟩
    by_cases h1 : X4.length ≤ k
    · have HF := Lib.hid (aheadB_not (who := (k : Int)) (who' := Y0) (xs := X4) (ys := Y4) (.inr (.inl (by omega))))
      go_enter Try.func22, Try.ntmps22
      go_wp2_with fail
      go_ret
      exact ⟨by rw [HF.out]; rfl, b0⟩
    · by_cases h2 : Y4.length ≤ k
      · have HF := Lib.hid (aheadB_not (who := (k : Int)) (who' := Y0) (xs := X4) (ys := Y4) (.inr (.inr (by omega))))
        go_enter Try.func22, Try.ntmps22
        go_wp2_with fail
        go_ret
        exact ⟨by rw [HF.out]; rfl, b0⟩
      · have HF := Lib.hid (aheadB_in (k := k) (who' := Y0) (xs := X4) (ys := Y4) (by omega) (by omega))
        obtain ⟨a, rfl⟩ := f4.some (by omega)
        obtain ⟨b, rfl⟩ := g4.some (by omega)
        have c0 := (f4.later b0).one k (by omega)
        have d0 := (g4.later b0).one k (by omega)
        generalize X4.getD k 0 = x at *
        generalize Y4.getD k 0 = y at *
        have k1 : k < X4.length := by omega
        have k2 : k < Y4.length := by omega
        have k1' : (k : Int) < (X4.length : Int) := by omega
        have k2' : (k : Int) < (Y4.length : Int) := by omega
        generalize X4.length = nx at *
        generalize Y4.length = ny at *
        by_cases he : (k : Int) = Y0
        · subst he
          rw [if_pos rfl] at HF
          have hne : (((k : Int) == (k : Int))) = true := by simp
          have hnb : (((k : Int) != (k : Int))) = false := by simp
          rcases Int.lt_trichotomy x y with hxy | hxy | hxy
          · have l1 : decide (x < y) = true := by simp; omega
            have l2 : decide (x ≤ y) = true := by simp; omega
            rw [l1] at HF
            clear hxy
            go_enter Try.func22, Try.ntmps22
            go_wp2_with fail
            go_quiet (fail)
            all_goals (try go_wp2_with fail)
            go_ret
            exact ⟨by rw [HF.out]; rfl, below_drewM b0 _⟩
          · have l1 : decide (x < y) = false := by simp; omega
            have l2 : decide (x ≤ y) = true := by simp; omega
            rw [l1] at HF
            clear hxy
            go_enter Try.func22, Try.ntmps22
            go_wp2_with fail
            go_quiet (fail)
            all_goals (try go_wp2_with fail)
            go_ret
            exact ⟨by rw [HF.out]; rfl, below_drewM b0 _⟩
          · have l1 : decide (x < y) = false := by simp; omega
            have l2 : decide (x ≤ y) = false := by simp; omega
            rw [l1] at HF
            clear hxy
            go_enter Try.func22, Try.ntmps22
            go_wp2_with fail
            go_quiet (fail)
            all_goals (try go_wp2_with fail)
            go_ret
            exact ⟨by rw [HF.out]; rfl, below_drewM b0 _⟩
        · rw [if_neg he] at HF
          have hne : (((k : Int) == Y0)) = false := by simpa using he
          have hnb : (((k : Int) != Y0)) = true := by simpa using he
          rcases Int.lt_trichotomy x y with hxy | hxy | hxy
          · have l1 : decide (x < y) = true := by simp; omega
            have l2 : decide (x ≤ y) = true := by simp; omega
            rw [l2] at HF
            clear hxy he
            go_enter Try.func22, Try.ntmps22
            go_wp2_with fail
            go_quiet (fail)
            all_goals (try go_wp2_with fail)
            go_ret
            exact ⟨by rw [HF.out]; rfl, below_drewM b0 _⟩
          · have l1 : decide (x < y) = false := by simp; omega
            have l2 : decide (x ≤ y) = true := by simp; omega
            rw [l2] at HF
            clear hxy he
            go_enter Try.func22, Try.ntmps22
            go_wp2_with fail
            go_quiet (fail)
            all_goals (try go_wp2_with fail)
            go_ret
            exact ⟨by rw [HF.out]; rfl, below_drewM b0 _⟩
          · have l1 : decide (x < y) = false := by simp; omega
            have l2 : decide (x ≤ y) = false := by simp; omega
            rw [l2] at HF
            clear hxy he
            go_enter Try.func22, Try.ntmps22
            go_wp2_with fail
            go_quiet (fail)
            all_goals (try go_wp2_with fail)
            go_ret
            exact ⟨by rw [HF.out]; rfl, below_drewM b0 _⟩

set_option maxRecDepth 100000 in
set_option maxHeartbeats 1000000 in
theorem specMarkAhead {X0 X1 : Int} {X2 : Bool} {X3 : Int} {X4 : List Int} {A4 : Option Addr} {c4 : Nat} {Y0 Y1 : Int} {Y2 : Bool} {Y3 : Int} {Y4 : List Int} {B4 : Option Addr} {d4 : Nat} {S T : Nat → Prop} {w : World} (f4 : Fl w S 1 X4 A4 X4.length c4) (g4 : Fl w T 1 Y4 B4 Y4.length d4) :
    Calls Try.prog 20 #[.agg #[.int .i64 X0, .int .i64 X1, .bool X2, .int .i64 X3, .slice A4 X4.length c4], .agg #[.int .i64 Y0, .int .i64 Y1, .bool Y2, .int .i64 Y3, .slice B4 Y4.length d4]] w fun e w' => e = .returned (.bool (aheadB X0 X4 Y0 Y4)) ∧ Below w.heap.size w w' := by
  have b0 : Below w.heap.size w ((w.alloc (.cells #[.int .i64 X0, .int .i64 X1, .bool X2, .int .i64 X3, .slice A4 X4.length c4] 31)).alloc (.cells #[.int .i64 Y0, .int .i64 Y1, .bool Y2, .int .i64 Y3, .slice B4 Y4.length d4] 31)) := ((Below.refl _ _).alloc (Nat.le_refl _) _).alloc (by simp) _
  have hmx : X4.length ≤ 9223372036854775807 := by have := f4.le; have := f4.top; unfold maxLen at this; omega
  have hmy : Y4.length ≤ 9223372036854775807 := by have := g4.le; have := g4.top; unfold maxLen at this; omega
  by_cases h0 : X0 < 0
  · have HF := Lib.hid (aheadB_not (who' := Y0) (xs := X4) (ys := Y4) (.inl h0))
    go_enter Try.func20, Try.ntmps20
    go_wp2_with fail
    go_ret
    exact ⟨by rw [HF.out]; rfl, b0⟩
  · obtain ⟨k, rfl⟩ : ∃ k : Nat, X0 = (k : Int) := ⟨X0.toNat, by omega⟩
    by_cases h1 : X4.length ≤ k
    · have HF := Lib.hid (aheadB_not (who := (k : Int)) (who' := Y0) (xs := X4) (ys := Y4) (.inr (.inl (by omega))))
      go_enter Try.func20, Try.ntmps20
      go_wp2_with fail
      go_ret
      exact ⟨by rw [HF.out]; rfl, b0⟩
    · by_cases h2 : Y4.length ≤ k
      · have HF := Lib.hid (aheadB_not (who := (k : Int)) (who' := Y0) (xs := X4) (ys := Y4) (.inr (.inr (by omega))))
        go_enter Try.func20, Try.ntmps20
        go_wp2_with fail
        go_ret
        exact ⟨by rw [HF.out]; rfl, b0⟩
      · have HF := Lib.hid (aheadB_in (k := k) (who' := Y0) (xs := X4) (ys := Y4) (by omega) (by omega))
        obtain ⟨a, rfl⟩ := f4.some (by omega)
        obtain ⟨b, rfl⟩ := g4.some (by omega)
        have c0 := (f4.later b0).one k (by omega)
        have d0 := (g4.later b0).one k (by omega)
        generalize X4.getD k 0 = x at *
        generalize Y4.getD k 0 = y at *
        have k1 : k < X4.length := by omega
        have k2 : k < Y4.length := by omega
        have k1' : (k : Int) < (X4.length : Int) := by omega
        have k2' : (k : Int) < (Y4.length : Int) := by omega
        generalize X4.length = nx at *
        generalize Y4.length = ny at *
        by_cases he : (k : Int) = Y0
        · subst he
          rw [if_pos rfl] at HF
          have hne : (((k : Int) == (k : Int))) = true := by simp
          have hnb : (((k : Int) != (k : Int))) = false := by simp
          rcases Int.lt_trichotomy x y with hxy | hxy | hxy
          · have l1 : decide (x < y) = true := by simp; omega
            have l2 : decide (x ≤ y) = true := by simp; omega
            rw [l1] at HF
            clear hxy
            go_enter Try.func20, Try.ntmps20
            go_wp2_with fail
            go_quiet (fail)
            all_goals (try go_wp2_with fail)
            go_ret
            exact ⟨by rw [HF.out]; rfl, below_drewM b0 _⟩
          · have l1 : decide (x < y) = false := by simp; omega
            have l2 : decide (x ≤ y) = true := by simp; omega
            rw [l1] at HF
            clear hxy
            go_enter Try.func20, Try.ntmps20
            go_wp2_with fail
            go_quiet (fail)
            all_goals (try go_wp2_with fail)
            go_ret
            exact ⟨by rw [HF.out]; rfl, below_drewM b0 _⟩
          · have l1 : decide (x < y) = false := by simp; omega
            have l2 : decide (x ≤ y) = false := by simp; omega
            rw [l1] at HF
            clear hxy
            go_enter Try.func20, Try.ntmps20
            go_wp2_with fail
            go_quiet (fail)
            all_goals (try go_wp2_with fail)
            go_ret
            exact ⟨by rw [HF.out]; rfl, below_drewM b0 _⟩
        · rw [if_neg he] at HF
          have hne : (((k : Int) == Y0)) = false := by simpa using he
          have hnb : (((k : Int) != Y0)) = true := by simpa using he
          rcases Int.lt_trichotomy x y with hxy | hxy | hxy
          · have l1 : decide (x < y) = true := by simp; omega
            have l2 : decide (x ≤ y) = true := by simp; omega
            rw [l2] at HF
            clear hxy he
            go_enter Try.func20, Try.ntmps20
            go_wp2_with fail
            go_quiet (fail)
            all_goals (try go_wp2_with fail)
            go_ret
            exact ⟨by rw [HF.out]; rfl, below_drewM b0 _⟩
          · have l1 : decide (x < y) = false := by simp; omega
            have l2 : decide (x ≤ y) = true := by simp; omega
            rw [l2] at HF
            clear hxy he
            go_enter Try.func20, Try.ntmps20
            go_wp2_with fail
            go_quiet (fail)
            all_goals (try go_wp2_with fail)
            go_ret
            exact ⟨by rw [HF.out]; rfl, below_drewM b0 _⟩
          · have l1 : decide (x < y) = false := by simp; omega
            have l2 : decide (x ≤ y) = false := by simp; omega
            rw [l2] at HF
            clear hxy he
            go_enter Try.func20, Try.ntmps20
            go_wp2_with fail
            go_quiet (fail)
            all_goals (try go_wp2_with fail)
            go_ret
            exact ⟨by rw [HF.out]; rfl, below_drewM b0 _⟩

theorem implMarkAhead_ {x y : MarkP} {vs us : List Value} {S T : Nat → Prop} {w : World} (hI : markShape.I w S vs x) (hJ : markShape.I w T us y) :
    Calls Try.prog 22 #[.agg vs.toArray, .agg us.toArray] w fun e w' => e = .returned (.bool (aheadB x.who x.clock y.who y.clock)) ∧ Below w.heap.size w w' := by
  obtain ⟨A4, c4, rfl, f4⟩ := hI
  obtain ⟨B4, d4, rfl, g4⟩ := hJ
  exact implMarkAhead f4 g4

theorem specMarkAhead_ {x y : MarkP} {vs us : List Value} {S T : Nat → Prop} {w : World} (hI : markShape.I w S vs x) (hJ : markShape.I w T us y) :
    Calls Try.prog 20 #[.agg vs.toArray, .agg us.toArray] w fun e w' => e = .returned (.bool (aheadB x.who x.clock y.who y.clock)) ∧ Below w.heap.size w w' := by
  obtain ⟨A4, c4, rfl, f4⟩ := hI
  obtain ⟨B4, d4, rfl, g4⟩ := hJ
  exact specMarkAhead f4 g4
end Go.Proofs.Ytoinagefhbpakaa
