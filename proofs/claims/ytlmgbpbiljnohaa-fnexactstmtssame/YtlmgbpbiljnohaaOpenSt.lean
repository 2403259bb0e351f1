/- Statements that come in: what an argument's reading says of memory. -/
import Derived.Test.YtlmgbpbiljnohaaSl
import Derived.Deep.Fields
namespace Go.Proofs.Ytlmgbpbiljnohaa
open Go.ChangeShapes Go.WideShapes Go.ChangeAt Go.RowKit Go.Deep

theorem cellsStmt : Try.prog.cellsOf 62 = 6 := by kernel_rfl
theorem cellsInt : Try.prog.cellsOf 3 = 1 := by kernel_rfl
theorem cellsList : Try.prog.cellsOf 37 = 1 := by kernel_rfl

section
variable {H : Type} {enc : TypeId × Value → H} {w : World} {base : Nat} {spare : Nat → Bool} {held : Bool}

set_option maxRecDepth 100000 in
/-- A statement's six cells. -/
theorem open_stmt {fuel : Nat} {cs : List Value} {x : DataW H × List MemPlace} (h : DataW.trod enc Try.prog w base spare held fuel 62 cs = some x) :
    ∃ (f : Nat) (k a b n : Int) (v4 v5 : Value) (y4 y5 : DataW H × List MemPlace), fuel = f + 1 ∧ cs = [.int .i64 k, .int .i64 a, .int .i64 b, .int .i64 n, v4, v5] ∧
      DataW.trod enc Try.prog w base spare held f 37 [v4] = some y4 ∧ DataW.trod enc Try.prog w base spare held f 37 [v5] = some y5 := by
  obtain ⟨xs, f, rfl, _, hl, hxl, hf⟩ := DataW.trod_struct Try.underlying62 h
  rw [cellsStmt] at hl
  match cs, hl with
  | [c0, c1, c2, c3, c4, c5], _ =>
    match xs, hxl with
    | [x0, x1, x2, x3, x4, x5], _ =>
      have g0 := hf 0 _ rfl
      have g1 := hf 1 _ rfl
      have g2 := hf 2 _ rfl
      have g3 := hf 3 _ rfl
      have g4 := hf 4 _ rfl
      have g5 := hf 5 _ rfl
      simp [cellsInt, cellsList] at g0 g1 g2 g3 g4 g5
      obtain ⟨k, e0, _, _⟩ := DataW.trod_int Try.underlying3 g0
      obtain ⟨a, e1, _, _⟩ := DataW.trod_int Try.underlying3 g1
      obtain ⟨b, e2, _, _⟩ := DataW.trod_int Try.underlying3 g2
      obtain ⟨n, e3, _, _⟩ := DataW.trod_int Try.underlying3 g3
      simp at e0 e1 e2 e3
      subst e0 e1 e2 e3
      exact ⟨f, k, a, b, n, c4, c5, x4, x5, rfl, rfl, g4, g5⟩

theorem slice_of {fuel : Nat} {v : Value} {x : DataW H × List MemPlace} (h : DataW.trod enc Try.prog w base spare held fuel 37 [v] = some x) : ∃ (A : Option Addr) (n c : Nat), v = .slice A n c := by
  rcases DataW.trod_slice Try.underlying37 h with ⟨h0, _⟩ | ⟨a, len, cap, _, _, _, _, h0, _⟩
  · simp at h0; exact ⟨_, _, _, h0⟩
  · simp at h0; exact ⟨_, _, _, h0⟩

theorem open_list (fuel : Nat) : ∀ (A : Option Addr) (n c : Nat) (x : DataW H × List MemPlace), DataW.trod enc Try.prog w base spare held fuel 37 [.slice A n c] = some x → ∃ L, Sl w w.heap.size L A n c := by
  induction fuel using Nat.strongRecOn with
  | ind fuel ih =>
    intro A n c x h
    rcases DataW.trod_slice Try.underlying37 h with ⟨h0, _⟩ | ⟨a, len, cap, elems, rest, f, rfl, h0, _, _, hl, hm, hlen, hel, _, _⟩
    · simp at h0
      obtain ⟨rfl, rfl, rfl⟩ := h0
      exact ⟨.nil, Sl.none w _ 0 (Nat.zero_le _)⟩
    · simp at h0
      obtain ⟨rfl, rfl, rfl⟩ := h0
      have key : ∀ j, j ≤ n → ∃ L : SL, L.len = j ∧ At w w.heap.size L (a.add ((n - j) * 6)) := by
        intro j
        induction j with
        | zero => intro _; exact ⟨.nil, rfl, trivial⟩
        | succ j jh =>
          intro hj
          obtain ⟨R, hRl, hR⟩ := jh (by omega)
          have hi := hel (n - (j + 1)) (by omega)
          rw [cellsStmt, List.getElem?_eq_getElem (by omega)] at hi
          obtain ⟨cs, hcs, ht⟩ := Option.bind_eq_some_iff.1 hi
          obtain ⟨_, _, hcell⟩ := World.cells?_some hcs
          obtain ⟨g, k, p, q, r, v4, v5, y4, y5, hg, rfl, t4, t5⟩ := open_stmt ht
          obtain ⟨A4, n4, c4, rfl⟩ := slice_of t4
          obtain ⟨A5, n5, c5, rfl⟩ := slice_of t5
          obtain ⟨B, hB⟩ := ih g (by omega) _ _ _ _ t4
          obtain ⟨E, hE⟩ := ih g (by omega) _ _ _ _ t5
          obtain rfl := hB.len
          obtain rfl := hE.len
          have z0 := hcell 0 (by omega)
          have z1 := hcell 1 (by omega)
          have z2 := hcell 2 (by omega)
          have z3 := hcell 3 (by omega)
          have z4 := hcell 4 (by omega)
          have z5 := hcell 5 (by omega)
          simp at z0 z1 z2 z3 z4 z5
          have e0 : ∀ b : Addr, b.add 0 = b := fun b => by simp [Addr.add]
          rw [e0] at z0
          refine ⟨.cons k p q r B E R, by simp only [SL.len, hRl], At.mk (World.block_lt_of_cell? _ _ z0) z0 z1 z2 z3 z4 z5 hB hE ?_⟩
          rw [addr_add, show (n - (j + 1)) * 6 + 6 = (n - j) * 6 from by omega]
          exact hR
      obtain ⟨L, hL, hA⟩ := key n (Nat.le_refl _)
      refine ⟨L, hL.symm, hl, hm, (fun h => by cases h), fun p hp => ?_⟩
      injection hp with hp
      subst hp
      rw [Nat.sub_self, Nat.zero_mul] at hA
      simpa [Addr.add] using hA
end
end Go.Proofs.Ytlmgbpbiljnohaa
