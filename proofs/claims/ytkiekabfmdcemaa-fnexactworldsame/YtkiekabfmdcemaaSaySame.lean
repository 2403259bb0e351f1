/- What was said: the model's comparison and the program's. -/
import Derived.Test.YtkiekabfmdcemaaIntSame
import Derived.Laws.StructEq
namespace Go.Proofs.Ytkiekabfmdcemaa
open Go.ChangeShapes Go.WideShapes Go.ChangeAt Go.RowKit

theorem sayHeld : Try.prog.stoodInHeld 81 = false := by kernel_rfl
theorem sayU : Try.prog.underlying 81 = some (.struct (Try.prog.fieldsOf 81)) := by kernel_rfl

set_option maxRecDepth 100000 in
theorem neqSay (x y x' y' : Int) (w : World) :
    (binOp .neq 81 (.agg #[.int .i64 x, .int .i64 y]) (.agg #[.int .i64 x', .int .i64 y'])).run Try.prog w = .ok (.bool (!(x == x' && y == y'))) w := by
  rw [run_neq_struct, run_equalIn_agg _ _ _ _ _ sayU sayHeld]
  simp only [Program.fieldsOf, Try.underlying81]
  by_cases h0 : x = x' <;> by_cases h1 : y = y' <;> simp [go_sem, Op.eqFields, h0, h1]

theorem more_two {xs ys : List Int} {k : Nat} (h : ∀ j, j < k * 2 → xs.getD j 0 = ys.getD j 0) (h0 : xs.getD (k * 2) 0 = ys.getD (k * 2) 0) (h1 : xs.getD (k * 2 + 1) 0 = ys.getD (k * 2 + 1) 0) : ∀ j, j < (k + 1) * 2 → xs.getD j 0 = ys.getD j 0 := by
  intro j hj
  have : j < k * 2 ∨ j = k * 2 ∨ j = k * 2 + 1 := by omega
  rcases this with h' | rfl | rfl
  · exact h j h'
  all_goals assumption
theorem eq_two {xs ys : List Int} (n : Nat) (hx : xs.length = n * 2) (hy : ys.length = n * 2) (h : ∀ j, j < n * 2 → xs.getD j 0 = ys.getD j 0) : xs = ys := by
  apply List.ext_getElem (by omega)
  intro j h1 h2
  have := h j (by omega)
  simpa [List.getD, h1, h2] using this

set_option maxRecDepth 100000 in
theorem l5Said {xs ys : List Int} {A A' : Option Addr} {n c n' c' : Nat} {S T : Nat → Prop} {w : World} (hs : Fl w S 2 xs A n c) (ht : Fl w T 2 ys A' n' c') :
    Calls Try.prog 28 #[.slice A n c, .slice A' n' c'] w fun e w' => e = .returned (.bool (decide (xs = ys))) ∧ Below w.heap.size w w' := by
  have hmax : n ≤ 9223372036854775807 := by have := hs.le; have := hs.top; unfold maxLen at this; omega
  have hmax' : n' ≤ 9223372036854775807 := by have := ht.le; have := ht.top; unfold maxLen at this; omega
  have lx := hs.len
  have ly := ht.len
  by_cases hn : n = n'
  · subst hn
    have LX := Lib.hid lx
    have LY := Lib.hid ly
    clear lx ly hmax'
    go_enter Try.func28, Try.ntmps28
    go_wp2_with fail
    go_loopw [5] (fun i wr => ∃ k : Nat, k ≤ n ∧ i = .int .i64 k ∧ (∀ j, j < k * 2 → xs.getD j 0 = ys.getD j 0) ∧ Below w.heap.size w wr) (fun i _ => n - (intOf i).toNat)
    case atStart => exact ⟨0, Nat.zero_le _, rfl, fun j hj => by omega, Below.refl _ _⟩
    case round =>
      obtain ⟨k, hk, rfl, heq, hb⟩ := hrel
      have HEQ := Lib.hid heq
      clear heq
      by_cases hlt : k < n
      · obtain ⟨a, rfl⟩ := hs.some (by omega)
        obtain ⟨b, rfl⟩ := ht.some (by omega)
        obtain ⟨c0, c1⟩ := (hs.later hb).two k hlt
        obtain ⟨d0, d1⟩ := (ht.later hb).two k hlt
        have hsz := hb.size
        generalize hx0 : xs.getD (k * 2) 0 = x0 at c0
        generalize hx1 : xs.getD (k * 2 + 1) 0 = x1 at c1
        generalize hy0 : ys.getD (k * 2) 0 = y0 at d0
        generalize hy1 : ys.getD (k * 2 + 1) 0 = y1 at d1
        have H8 := Lib.hid (And.intro hx0 (And.intro hx1 (And.intro hy0 hy1)))
        clear hx0 hx1 hy0 hy1
        by_cases hq : x0 = y0 ∧ x1 = y1
        · obtain ⟨rfl, rfl⟩ := hq
          have hne := fun W => neqSay x0 x1 x0 x1 W
          simp only [beq_self_eq_true, Bool.and_self, Bool.not_true] at hne
          go_wp2_with fail
          go_region
          all_goals (try go_wp2)
          obtain ⟨a0, a1, b0, b1⟩ := H8.out
          exact ⟨⟨k + 1, by omega, by go_num, more_two HEQ.out (a0.trans b0.symm) (a1.trans b1.symm), hb.drew⟩, by simp [intOf]; omega⟩
        · have hne := fun W => neqSay x0 x1 y0 y1 W
          have hb0 : (x0 == y0 && x1 == y1) = false := by
            apply Bool.eq_false_iff.2
            intro h
            simp only [Bool.and_eq_true, beq_iff_eq] at h
            exact hq h
          simp only [hb0, Bool.not_false] at hne
          have HQ := Lib.hid hq
          clear hq hb0
          go_wp2_with fail
          go_region
          all_goals (try go_wp2)
          go_ret
          refine ⟨?_, hb.drew⟩
          have : ¬ xs = ys := by
            rintro rfl
            obtain ⟨a0, a1, b0, b1⟩ := H8.out
            exact HQ.out ⟨a0.symm.trans b0, a1.symm.trans b1⟩
          rw [decide_eq_false this]; rfl
      · obtain rfl : k = n := by omega
        go_wp2_with fail
        go_ret
        refine ⟨?_, hb⟩
        rw [decide_eq_true (eq_two k LX.out LY.out HEQ.out)]; rfl
  · have hd : decide (xs = ys) = false := decide_eq_false (by rintro rfl; omega)
    rw [hd]
    clear hd lx ly
    go_enter Try.func28, Try.ntmps28
    go_wp2
    go_ret
    exact ⟨rfl, Below.refl _ _⟩

set_option maxRecDepth 100000 in
theorem equalSay {xs ys : List Int} {A A' : Option Addr} {n c n' c' : Nat} {S T : Nat → Prop} {w : World} (hs : Fl w S 2 xs A n c) (ht : Fl w T 2 ys A' n' c') :
    Calls Try.prog 52 #[.slice A n c, .slice A' n' c'] w fun e w' => e = .returned (.bool (decide (xs = ys))) ∧ Below w.heap.size w w' := by
  have hmax : n ≤ 9223372036854775807 := by have := hs.le; have := hs.top; unfold maxLen at this; omega
  have hmax' : n' ≤ 9223372036854775807 := by have := ht.le; have := ht.top; unfold maxLen at this; omega
  have lx := hs.len
  have ly := ht.len
  by_cases hn : n = n'
  · subst hn
    have LX := Lib.hid lx
    have LY := Lib.hid ly
    clear lx ly hmax'
    go_enter Try.func52, Try.ntmps52
    go_wp2_with fail
    go_loopw [13] (fun i wr => ∃ k : Nat, k ≤ n ∧ i = .int .i64 k ∧ (∀ j, j < k * 2 → xs.getD j 0 = ys.getD j 0) ∧ Below w.heap.size w wr) (fun i _ => n - (intOf i).toNat)
    case atStart => exact ⟨0, Nat.zero_le _, rfl, fun j hj => by omega, Below.refl _ _⟩
    case round =>
      obtain ⟨k, hk, rfl, heq, hb⟩ := hrel
      have HEQ := Lib.hid heq
      clear heq
      by_cases hlt : k < n
      · obtain ⟨a, rfl⟩ := hs.some (by omega)
        obtain ⟨b, rfl⟩ := ht.some (by omega)
        obtain ⟨c0, c1⟩ := (hs.later hb).two k hlt
        obtain ⟨d0, d1⟩ := (ht.later hb).two k hlt
        have hsz := hb.size
        generalize hx0 : xs.getD (k * 2) 0 = x0 at c0
        generalize hx1 : xs.getD (k * 2 + 1) 0 = x1 at c1
        generalize hy0 : ys.getD (k * 2) 0 = y0 at d0
        generalize hy1 : ys.getD (k * 2 + 1) 0 = y1 at d1
        have H8 := Lib.hid (And.intro hx0 (And.intro hx1 (And.intro hy0 hy1)))
        clear hx0 hx1 hy0 hy1
        by_cases hq : x0 = y0 ∧ x1 = y1
        · obtain ⟨rfl, rfl⟩ := hq
          have hne := fun W => neqSay x0 x1 x0 x1 W
          simp only [beq_self_eq_true, Bool.and_self, Bool.not_true] at hne
          go_wp2_with fail
          go_region
          all_goals (try go_wp2)
          obtain ⟨a0, a1, b0, b1⟩ := H8.out
          exact ⟨⟨k + 1, by omega, by go_num, more_two HEQ.out (a0.trans b0.symm) (a1.trans b1.symm), hb.drew⟩, by simp [intOf]; omega⟩
        · have hne := fun W => neqSay x0 x1 y0 y1 W
          have hb0 : (x0 == y0 && x1 == y1) = false := by
            apply Bool.eq_false_iff.2
            intro h
            simp only [Bool.and_eq_true, beq_iff_eq] at h
            exact hq h
          simp only [hb0, Bool.not_false] at hne
          have HQ := Lib.hid hq
          clear hq hb0
          go_wp2_with fail
          go_region
          all_goals (try go_wp2)
          go_ret
          refine ⟨?_, hb.drew⟩
          have : ¬ xs = ys := by
            rintro rfl
            obtain ⟨a0, a1, b0, b1⟩ := H8.out
            exact HQ.out ⟨a0.symm.trans b0, a1.symm.trans b1⟩
          rw [decide_eq_false this]; rfl
      · obtain rfl : k = n := by omega
        go_wp2_with fail
        go_ret
        refine ⟨?_, hb⟩
        rw [decide_eq_true (eq_two k LX.out LY.out HEQ.out)]; rfl
  · have hd : decide (xs = ys) = false := decide_eq_false (by rintro rfl; omega)
    rw [hd]
    clear hd lx ly
    go_enter Try.func52, Try.ntmps52
    go_wp2
    go_ret
    exact ⟨rfl, Below.refl _ _⟩
end Go.Proofs.Ytkiekabfmdcemaa
