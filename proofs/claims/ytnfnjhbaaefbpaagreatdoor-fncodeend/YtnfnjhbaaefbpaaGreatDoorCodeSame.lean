/- CodeSame of the program (slices.Equal). -/
import Derived.Test.YtnfnjhbaaefbpaaGreatDoorIns
import Derived.Laws.StructEq
namespace Go.Proofs.YtnfnjhbaaefbpaaGreatDoor
open Go.ChangeShapes Go.WideShapes Go.ChangeAt Go.RowKit

theorem insHeld : Tryz.prog.stoodInHeld 34 = false := by kernel_rfl
theorem insU : Tryz.prog.underlying 34 = some (.struct (Tryz.prog.fieldsOf 34)) := by kernel_rfl

set_option maxRecDepth 100000 in
theorem neqIns (x y z u x' y' z' u' : Int) (w : World) :
    (binOp .neq 34 (.agg #[.int .i64 x, .int .i64 y, .int .i64 z, .int .i64 u]) (.agg #[.int .i64 x', .int .i64 y', .int .i64 z', .int .i64 u'])).run Tryz.prog w = .ok (.bool (!(x == x' && (y == y' && (z == z' && u == u'))))) w := by
  rw [run_neq_struct, run_equalIn_agg _ _ _ _ _ insU insHeld]
  simp only [Program.fieldsOf, Tryz.underlying34]
  by_cases h0 : x = x' <;> by_cases h1 : y = y' <;> by_cases h2 : z = z' <;> by_cases h3 : u = u' <;> simp [go_sem, Op.eqFields, h0, h1, h2, h3]

theorem more_four {xs ys : List Int} {k : Nat} (h : ∀ j, j < k * 4 → xs.getD j 0 = ys.getD j 0) (h0 : xs.getD (k * 4) 0 = ys.getD (k * 4) 0) (h1 : xs.getD (k * 4 + 1) 0 = ys.getD (k * 4 + 1) 0)
    (h2 : xs.getD (k * 4 + 2) 0 = ys.getD (k * 4 + 2) 0) (h3 : xs.getD (k * 4 + 3) 0 = ys.getD (k * 4 + 3) 0) : ∀ j, j < (k + 1) * 4 → xs.getD j 0 = ys.getD j 0 := by
  intro j hj
  have : j < k * 4 ∨ j = k * 4 ∨ j = k * 4 + 1 ∨ j = k * 4 + 2 ∨ j = k * 4 + 3 := by omega
  rcases this with h' | rfl | rfl | rfl | rfl
  · exact h j h'
  all_goals assumption

theorem eq_four {xs ys : List Int} (n : Nat) (hx : xs.length = n * 4) (hy : ys.length = n * 4) (h : ∀ j, j < n * 4 → xs.getD j 0 = ys.getD j 0) : xs = ys := by
  apply List.ext_getElem (by omega)
  intro j h1 h2
  have := h j (by omega)
  simpa [List.getD, h1, h2] using this

set_option maxRecDepth 100000 in
theorem sliceEqual {xs ys : List Int} {A A' : Option Addr} {n c n' c' : Nat} {S T : Nat → Prop} {w : World} (hs : Fl w S 4 xs A n c) (ht : Fl w T 4 ys A' n' c') :
    Calls Tryz.prog 20 #[.slice A n c, .slice A' n' c'] w fun e w' => e = .returned (.bool (decide (xs = ys))) ∧ Below w.heap.size w w' := by
  have hmax : n ≤ 9223372036854775807 := by have := hs.le; have := hs.top; unfold maxLen at this; omega
  have hmax' : n' ≤ 9223372036854775807 := by have := ht.le; have := ht.top; unfold maxLen at this; omega
  have lx := hs.len
  have ly := ht.len
  by_cases hn : n = n'
  · subst hn
    have LX := Lib.hid lx
    have LY := Lib.hid ly
    clear lx ly hmax'
    go_enter Tryz.func20, Tryz.ntmps20
    go_wp2_with fail
    go_loopw [13] (fun i wr => ∃ k : Nat, k ≤ n ∧ i = .int .i64 k ∧ (∀ j, j < k * 4 → xs.getD j 0 = ys.getD j 0) ∧ Below w.heap.size w wr) (fun i _ => n - (intOf i).toNat)
    case atStart => exact ⟨0, Nat.zero_le _, rfl, fun j hj => by omega, Below.refl _ _⟩
    case round =>
      obtain ⟨k, hk, rfl, heq, hb⟩ := hrel
      have HEQ := Lib.hid heq
      clear heq
      by_cases hlt : k < n
      · obtain ⟨a, rfl⟩ := hs.some (by omega)
        obtain ⟨b, rfl⟩ := ht.some (by omega)
        obtain ⟨c0, c1, c2, c3⟩ := (hs.later hb).four k hlt
        obtain ⟨d0, d1, d2, d3⟩ := (ht.later hb).four k hlt
        have hsz := hb.size
        generalize hx0 : xs.getD (k * 4) 0 = x0 at c0
        generalize hx1 : xs.getD (k * 4 + 1) 0 = x1 at c1
        generalize hx2 : xs.getD (k * 4 + 2) 0 = x2 at c2
        generalize hx3 : xs.getD (k * 4 + 3) 0 = x3 at c3
        generalize hy0 : ys.getD (k * 4) 0 = y0 at d0
        generalize hy1 : ys.getD (k * 4 + 1) 0 = y1 at d1
        generalize hy2 : ys.getD (k * 4 + 2) 0 = y2 at d2
        generalize hy3 : ys.getD (k * 4 + 3) 0 = y3 at d3
        have H8 := Lib.hid (And.intro hx0 (And.intro hx1 (And.intro hx2 (And.intro hx3 (And.intro hy0 (And.intro hy1 (And.intro hy2 hy3)))))))
        clear hx0 hx1 hx2 hx3 hy0 hy1 hy2 hy3
        by_cases hq : x0 = y0 ∧ x1 = y1 ∧ x2 = y2 ∧ x3 = y3
        · obtain ⟨rfl, rfl, rfl, rfl⟩ := hq
          have hne := fun W => neqIns x0 x1 x2 x3 x0 x1 x2 x3 W
          simp only [beq_self_eq_true, Bool.and_self, Bool.not_true] at hne
          go_wp2_with fail
          go_region
          all_goals (try go_wp2)
          obtain ⟨a0, a1, a2, a3, b0, b1, b2, b3⟩ := H8.out
          exact ⟨⟨k + 1, by omega, by go_num, more_four HEQ.out (a0.trans b0.symm) (a1.trans b1.symm) (a2.trans b2.symm) (a3.trans b3.symm), hb.drew⟩, by simp [intOf]; omega⟩
        · have hne := fun W => neqIns x0 x1 x2 x3 y0 y1 y2 y3 W
          have hb0 : (x0 == y0 && (x1 == y1 && (x2 == y2 && x3 == y3))) = false := by
            apply Bool.eq_false_iff.2
            intro h
            simp only [Bool.and_eq_true, beq_iff_eq] at h
            exact hq h
          simp only [hb0, Bool.not_false] at hne
          have HQ := Lib.hid hq
          clear hq hb0
          go_wp2_with fail
          go_region
          all_goals (try go_wp2)
          go_ret
          refine ⟨?_, hb.drew⟩
          have : ¬ xs = ys := by
            rintro rfl
            obtain ⟨a0, a1, a2, a3, b0, b1, b2, b3⟩ := H8.out
            exact HQ.out ⟨a0.symm.trans b0, a1.symm.trans b1, a2.symm.trans b2, a3.symm.trans b3⟩
          rw [decide_eq_false this]; rfl
      · obtain rfl : k = n := by omega
        go_wp2_with fail
        go_ret
        refine ⟨?_, hb⟩
        rw [decide_eq_true (eq_four k LX.out LY.out HEQ.out)]; rfl
  · have hd : decide (xs = ys) = false := decide_eq_false (by rintro rfl; omega)
    rw [hd]
    clear hd lx ly
    go_enter Tryz.func20, Tryz.ntmps20
    go_wp2
    go_ret
    exact ⟨rfl, Below.refl _ _⟩

theorem codeSame {xs ys : List Int} {A A' : Option Addr} {n c n' c' : Nat} {S T : Nat → Prop} {w : World} (hs : Fl w S 4 xs A n c) (ht : Fl w T 4 ys A' n' c') :
    Calls Tryz.prog 8 #[.slice A n c, .slice A' n' c'] w fun e w' => e = .returned (.bool (decide (xs = ys))) ∧ Below w.heap.size w w' := by
  have HE := Lib.hid (sliceEqual hs ht)
  go_enter Tryz.func8, Tryz.ntmps8
  go_wp2_with fail
  refine HE.out.mono ?_
  rintro e w1 ⟨rfl, b1⟩
  go_wp2_with fail
  go_ret
  exact ⟨rfl, b1⟩
end Go.Proofs.YtnfnjhbaaefbpaaGreatDoor
