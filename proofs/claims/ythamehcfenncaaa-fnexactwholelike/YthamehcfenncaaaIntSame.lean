/- Slices of numbers: the laws' count, the model's comparison and the program's. -/
import Derived.Test.YthamehcfenncaaaIntEq
namespace Go.Proofs.Ythamehcfenncaaa
open Go.ChangeShapes Go.WideShapes Go.ChangeAt Go.RowKit

/-- What is left where n are taken, or -1. -/
def szI (n : Nat) (left : Int) : Int := if (n : Int) ≤ left then left - n else -1
theorem szI_yes {n : Nat} {left : Int} (h : (n : Int) ≤ left) : szI n left = left - n := if_pos h
theorem szI_no {n : Nat} {left : Int} (h : ¬ (n : Int) ≤ left) : szI n left = -1 := if_neg h
theorem szI_step (a b : Nat) (left : Int) : szI (a + b) left = szI b (left - a) := by
  unfold szI; split <;> split <;> omega
theorem szI_stop {a b : Nat} {left : Int} (h : ¬ (a : Int) ≤ left) : szI (a + b) left = -1 := by
  unfold szI; split <;> omega

theorem szIntS (A : Option Addr) (n c : Nat) (left : Int) (w : World) (hn : n ≤ maxLen) (h0 : 0 ≤ left) (h1 : left ≤ 1048576) :
    Calls Try.prog 55 #[.slice A n c, .int .i64 left] w fun e w' => e = .returned (.int .i64 (szI n left)) ∧ w' = w := by
  unfold maxLen at hn
  by_cases h : (n : Int) ≤ left
  · have H := Lib.hid (szI_yes h)
    go_enter Try.func55, Try.ntmps55
    go_wp2
    go_ret
    exact ⟨by rw [H.out]; rfl, rfl⟩
  · have H := Lib.hid (szI_no h)
    go_enter Try.func55, Try.ntmps55
    go_wp2
    go_ret
    exact ⟨by rw [H.out]; rfl, rfl⟩

theorem more_one {xs ys : List Int} {k : Nat} (h : ∀ j, j < k → xs.getD j 0 = ys.getD j 0) (h0 : xs.getD k 0 = ys.getD k 0) : ∀ j, j < k + 1 → xs.getD j 0 = ys.getD j 0 := by
  intro j hj
  have : j < k ∨ j = k := by omega
  rcases this with h' | rfl
  · exact h j h'
  · exact h0
theorem eq_one {xs ys : List Int} (n : Nat) (hx : xs.length = n) (hy : ys.length = n) (h : ∀ j, j < n → xs.getD j 0 = ys.getD j 0) : xs = ys := by
  apply List.ext_getElem (by omega)
  intro j h1 h2
  have := h j (by omega)
  simpa [List.getD, h1, h2] using this

set_option maxRecDepth 100000 in
theorem l3Ints {xs ys : List Int} {A A' : Option Addr} {n c n' c' : Nat} {S T : Nat → Prop} {w : World} (hs : Fl w S 1 xs A n c) (ht : Fl w T 1 ys A' n' c') :
    Calls Try.prog 58 #[.slice A n c, .slice A' n' c'] w fun e w' => e = .returned (.bool (decide (xs = ys))) ∧ Below w.heap.size w w' := by
  have hmax : n ≤ 9223372036854775807 := by have := hs.le; have := hs.top; unfold maxLen at this; omega
  have hmax' : n' ≤ 9223372036854775807 := by have := ht.le; have := ht.top; unfold maxLen at this; omega
  have lx : xs.length = n := by have := hs.len; omega
  have ly : ys.length = n' := by have := ht.len; omega
  by_cases hn : n = n'
  · subst hn
    have LX := Lib.hid lx
    have LY := Lib.hid ly
    clear lx ly hmax'
    go_enter Try.func58, Try.ntmps58
    go_wp2_with fail
    go_loopw [5] (fun i wr => ∃ k : Nat, k ≤ n ∧ i = .int .i64 k ∧ (∀ j, j < k → xs.getD j 0 = ys.getD j 0) ∧ Below w.heap.size w wr) (fun i _ => n - (intOf i).toNat)
    case atStart => exact ⟨0, Nat.zero_le _, rfl, fun j hj => by omega, Below.refl _ _⟩
    case round =>
      obtain ⟨k, hk, rfl, heq, hb⟩ := hrel
      have HEQ := Lib.hid heq
      clear heq
      by_cases hlt : k < n
      · obtain ⟨a, rfl⟩ := hs.some (by omega)
        obtain ⟨b, rfl⟩ := ht.some (by omega)
        have c0 := (hs.later hb).one k hlt
        have d0 := (ht.later hb).one k hlt
        generalize hx : xs.getD k 0 = x at c0
        generalize hy : ys.getD k 0 = y at d0
        have HX := Lib.hid hx
        have HY := Lib.hid hy
        clear hx hy
        by_cases hq : x = y
        · subst hq
          go_wp2_with fail
          go_region
          all_goals (try go_wp2)
          exact ⟨⟨k + 1, by omega, by go_num, more_one HEQ.out (HX.out.trans HY.out.symm), hb.drew⟩, by simp [intOf]; omega⟩
        · have hne : (x == y) = false := by simpa using hq
          have hne' : (x != y) = true := by simpa using hq
          have HQ := Lib.hid hq
          clear hq
          go_wp2_with fail
          go_region
          all_goals (try go_wp2)
          go_ret
          refine ⟨?_, hb.drew⟩
          have : ¬ xs = ys := by
            rintro rfl
            exact HQ.out (HX.out.symm.trans HY.out)
          rw [decide_eq_false this]; rfl
      · obtain rfl : k = n := by omega
        go_wp2_with fail
        go_ret
        refine ⟨?_, hb⟩
        rw [decide_eq_true (eq_one k LX.out LY.out HEQ.out)]; rfl
  · have hd : decide (xs = ys) = false := decide_eq_false (by rintro rfl; omega)
    rw [hd]
    clear hd lx ly
    go_enter Try.func58, Try.ntmps58
    go_wp2
    go_ret
    exact ⟨rfl, Below.refl _ _⟩

set_option maxRecDepth 100000 in
theorem equalInt {xs ys : List Int} {A A' : Option Addr} {n c n' c' : Nat} {S T : Nat → Prop} {w : World} (hs : Fl w S 1 xs A n c) (ht : Fl w T 1 ys A' n' c') :
    Calls Try.prog 63 #[.slice A n c, .slice A' n' c'] w fun e w' => e = .returned (.bool (decide (xs = ys))) ∧ Below w.heap.size w w' := by
  have hmax : n ≤ 9223372036854775807 := by have := hs.le; have := hs.top; unfold maxLen at this; omega
  have hmax' : n' ≤ 9223372036854775807 := by have := ht.le; have := ht.top; unfold maxLen at this; omega
  have lx : xs.length = n := by have := hs.len; omega
  have ly : ys.length = n' := by have := ht.len; omega
  by_cases hn : n = n'
  · subst hn
    have LX := Lib.hid lx
    have LY := Lib.hid ly
    clear lx ly hmax'
    go_enter Try.func63, Try.ntmps63
    go_wp2_with fail
    go_loopw [13] (fun i wr => ∃ k : Nat, k ≤ n ∧ i = .int .i64 k ∧ (∀ j, j < k → xs.getD j 0 = ys.getD j 0) ∧ Below w.heap.size w wr) (fun i _ => n - (intOf i).toNat)
    case atStart => exact ⟨0, Nat.zero_le _, rfl, fun j hj => by omega, Below.refl _ _⟩
    case round =>
      obtain ⟨k, hk, rfl, heq, hb⟩ := hrel
      have HEQ := Lib.hid heq
      clear heq
      by_cases hlt : k < n
      · obtain ⟨a, rfl⟩ := hs.some (by omega)
        obtain ⟨b, rfl⟩ := ht.some (by omega)
        have c0 := (hs.later hb).one k hlt
        have d0 := (ht.later hb).one k hlt
        generalize hx : xs.getD k 0 = x at c0
        generalize hy : ys.getD k 0 = y at d0
        have HX := Lib.hid hx
        have HY := Lib.hid hy
        clear hx hy
        by_cases hq : x = y
        · subst hq
          go_wp2_with fail
          go_region
          all_goals (try go_wp2)
          exact ⟨⟨k + 1, by omega, by go_num, more_one HEQ.out (HX.out.trans HY.out.symm), hb.drew⟩, by simp [intOf]; omega⟩
        · have hne : (x == y) = false := by simpa using hq
          have hne' : (x != y) = true := by simpa using hq
          have HQ := Lib.hid hq
          clear hq
          go_wp2_with fail
          go_region
          all_goals (try go_wp2)
          go_ret
          refine ⟨?_, hb.drew⟩
          have : ¬ xs = ys := by
            rintro rfl
            exact HQ.out (HX.out.symm.trans HY.out)
          rw [decide_eq_false this]; rfl
      · obtain rfl : k = n := by omega
        go_wp2_with fail
        go_ret
        refine ⟨?_, hb⟩
        rw [decide_eq_true (eq_one k LX.out LY.out HEQ.out)]; rfl
  · have hd : decide (xs = ys) = false := decide_eq_false (by rintro rfl; omega)
    rw [hd]
    clear hd lx ly
    go_enter Try.func63, Try.ntmps63
    go_wp2
    go_ret
    exact ⟨rfl, Below.refl _ _⟩
end Go.Proofs.Ythamehcfenncaaa
