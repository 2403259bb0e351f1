/- Marks that come in: what an argument's reading says of memory. -/
import Derived.Test.YtoinagefhbpakaaMarkRec
import Derived.Test.YtoinagefhbpakaaOpenInts
namespace Go.Proofs.Ytoinagefhbpakaa
open Go.ChangeShapes Go.WideShapes Go.ChangeAt Go.RowKit Go.Deep

theorem cellsIntM : Try.prog.cellsOf 3 = 1 := by kernel_rfl
theorem cellsIntsM : Try.prog.cellsOf 22 = 1 := by kernel_rfl
theorem cellsBoolM : Try.prog.cellsOf 4 = 1 := by kernel_rfl
theorem cellsMarkM : Try.prog.cellsOf 28 = 5 := by kernel_rfl

section
variable {H : Type} {enc : TypeId × Value → H} {w : World} {base : Nat} {spare : Nat → Bool} {held : Bool}
set_option maxRecDepth 100000 in
theorem open_intsM {fuel : Nat} {v : Value} {x : DataW H × List MemPlace} (h : DataW.trod enc Try.prog w base spare held fuel 22 [v] = some x) :
    ∃ (xs : List Int) (A : Option Addr) (n c : Nat), v = .slice A n c ∧ Fl w (fun _ => True) 1 xs A n c := by
  rcases DataW.trod_slice Try.underlying22 h with ⟨h0, _⟩ | ⟨a, len, cap, elems, rest, f, rfl, h0, _, _, hl, hm, hlen, hel, _, _⟩
  · simp at h0
    subst h0
    exact ⟨[], none, 0, 0, rfl, rfl, Nat.le_refl _, Nat.zero_le _, fun _ => rfl, fun a ha => by cases ha⟩
  · simp at h0
    subst h0
    have key : ∀ m, m ≤ len → ∃ xs : List Int, xs.length = m * 1 ∧ ∀ j, j < xs.length → w.cell? (a.add j) = some (.int .i64 (xs.getD j 0)) := by
      intro m
      induction m with
      | zero => intro _; exact ⟨[], rfl, fun j hj => by simp at hj⟩
      | succ m ih =>
        intro hm'
        obtain ⟨xs, hx, hg⟩ := ih (by omega)
        have h1 := hel m (by omega)
        rw [cellsIntM, List.getElem?_eq_getElem (by omega)] at h1
        obtain ⟨cs, hcs, ht⟩ := Option.bind_eq_some_iff.1 h1
        obtain ⟨_, hcl, hcell⟩ := World.cells?_some hcs
        match cs, hcl with
        | [c0], _ =>
          obtain ⟨x, e0, _, _⟩ := DataW.trod_int Try.underlying3 ht
          simp at e0
          subst e0
          have z0 := hcell 0 (by omega)
          rw [add_ad] at z0
          simp at z0
          refine ⟨xs ++ [x], by simp [hx], fun j hj => ?_⟩
          by_cases e : j < xs.length
          · rw [hg j e]; simp [List.getD, e, List.getElem?_append_left e]
          · have : j = m := by simp at hj; omega
            subst this
            rw [z0]
            simp at hx
            simp [List.getD, ← hx]
    obtain ⟨xs, hx, hg⟩ := key len (Nat.le_refl _)
    exact ⟨xs, some a, len, cap, rfl, hx, hl, hm, (fun h => by cases h), fun b hb j hj => by
      obtain rfl : b = a := by injection hb with h; exact h.symm
      exact ⟨trivial, hg j hj⟩⟩

set_option maxRecDepth 100000 in
theorem open_mark {fuel : Nat} {cs : List Value} {x : DataW H × List MemPlace} (h : DataW.trod enc Try.prog w base spare held fuel 28 cs = some x) :
    ∃ y, markShape.I w (fun _ => True) cs y := by
  obtain ⟨xs, f, rfl, _, hl, hxl, hf⟩ := DataW.trod_struct Try.underlying28 h
  rw [cellsMarkM] at hl
  match cs, hl with
  | [c0, c1, c2, c3, c4], _ =>
    match xs, hxl with
    | [x0, x1, x2, x3, x4], _ =>
      have g0 := hf 0 _ rfl
      have g1 := hf 1 _ rfl
      have g2 := hf 2 _ rfl
      have g3 := hf 3 _ rfl
      have g4 := hf 4 _ rfl
      simp [cellsIntM, cellsIntsM, cellsBoolM] at g0 g1 g2 g3 g4
      obtain ⟨X4, A4, n4, k4, rfl, p4⟩ := open_intsM g4
      obtain rfl : n4 = X4.length := by have := p4.len; omega
      obtain ⟨z0, e0, _, _⟩ := DataW.trod_int Try.underlying3 g0
      simp at e0
      subst e0
      obtain ⟨z1, e1, _, _⟩ := DataW.trod_int Try.underlying3 g1
      simp at e1
      subst e1
      obtain ⟨z2, e2, _, _⟩ := DataW.trod_bool Try.underlying4 g2
      simp at e2
      subst e2
      obtain ⟨z3, e3, _, _⟩ := DataW.trod_int Try.underlying3 g3
      simp at e3
      subst e3
      exact ⟨⟨z0, z1, z2, z3, X4⟩, A4, k4, rfl, p4⟩

set_option maxRecDepth 100000 in
theorem open_markA (hl : ∀ {vs : List Value}, vs.length = 5 → ∃ v0 v1 v2 v3 v4 : Value, vs = [v0, v1, v2, v3, v4]) {W : World} {base : Nat} {v : Value} {d : DataW H} {ps : List MemPlace} (hval : Value.okWide Try.prog W .any base 28 v) (h : DataW.Trod enc Try.prog W 0 (fun _ => true) true 28 v d ps) :
    ∃ (v0 v1 v2 v3 v4 : Value) (x : MarkP), v = .agg #[v0, v1, v2, v3, v4] ∧ markShape.I W (fun _ => True) [v0, v1, v2, v3, v4] x := by
  obtain ⟨cs, rfl, _⟩ := okWide_struct Try.underlying28 hval
  obtain ⟨fuel, hf⟩ := h
  obtain ⟨l⟩ := cs
  obtain ⟨x, hx⟩ := open_mark hf
  simp only [Value.cells] at hx
  obtain ⟨v0, v1, v2, v3, v4, rfl⟩ := hl (markShape.len hx)
  exact ⟨v0, v1, v2, v3, v4, x, rfl, hx⟩
end
end Go.Proofs.Ytoinagefhbpakaa
