/- Slices of numbers that come in: what an argument's reading says of memory. -/
import Derived.Test.YtoinagefhbpakaaFl
import Derived.Test.YtoinagefhbpakaaShutG
import Derived.Deep.Fields
namespace Go.Proofs.Ytoinagefhbpakaa
open Go.ChangeShapes Go.WideShapes Go.ChangeAt Go.RowKit Go.Deep

theorem cellsInt1 : Try.prog.cellsOf 3 = 1 := by kernel_rfl

section
variable {H : Type} {enc : TypeId × Value → H}

set_option maxRecDepth 100000 in
theorem open_ints {W : World} {base : Nat} {v : Value} {d : DataW H} {ps : List MemPlace} (hval : Value.okWide Try.prog W .any base 22 v) (h : DataW.Trod enc Try.prog W 0 (fun _ => true) true 22 v d ps) :
    ∃ (xs : List Int) (A : Option Addr) (n c : Nat), v = .slice A n c ∧ Fl W (fun _ => True) 1 xs A n c := by
  obtain ⟨A, n, c, rfl⟩ := okWide_slice Try.underlying22 hval
  obtain ⟨fuel, hf⟩ := h
  have hf' : DataW.trod enc Try.prog W 0 (fun _ => true) true fuel 22 [.slice A n c] = some (d, ps) := by simpa [Value.cells] using hf
  rcases DataW.trod_slice Try.underlying22 hf' with ⟨h0, _⟩ | ⟨a, len, cap, elems, rest, f, rfl, h0, _, _, hl, hm, hlen, hel, _, _⟩
  · simp at h0
    obtain ⟨rfl, rfl, rfl⟩ := h0
    exact ⟨[], none, 0, 0, rfl, rfl, Nat.le_refl _, Nat.zero_le _, fun _ => rfl, fun a ha => by cases ha⟩
  · simp at h0
    obtain ⟨rfl, rfl, rfl⟩ := h0
    have key : ∀ m, m ≤ n → ∃ xs : List Int, xs.length = m * 1 ∧ ∀ j, j < xs.length → W.cell? (a.add j) = some (.int .i64 (xs.getD j 0)) := by
      intro m
      induction m with
      | zero => intro _; exact ⟨[], rfl, fun j hj => by simp at hj⟩
      | succ m ih =>
        intro hm'
        obtain ⟨xs, hx, hg⟩ := ih (by omega)
        have h1 := hel m (by omega)
        rw [cellsInt1, List.getElem?_eq_getElem (by omega)] at h1
        obtain ⟨cs, hcs, ht⟩ := Option.bind_eq_some_iff.1 h1
        obtain ⟨hcl, _, hcell⟩ := World.cells?_some hcs
        match cs, hcl with
        | [c0], _ =>
          obtain ⟨x, e0, _, _⟩ := DataW.trod_int Try.underlying3 ht
          simp at e0
          subst e0
          have z0 := hcell 0 (by omega)
          rw [add_ad] at z0
          simp at z0
          refine ⟨xs ++ [x], by simp [hx], fun j hj => ?_⟩
          by_cases e : j < xs.length
          · rw [hg j e]; simp [List.getD, e, List.getElem?_append_left e]
          · have : j = m := by simp at hj; omega
            subst this
            rw [z0]
            simp at hx
            simp [List.getD, ← hx]
    obtain ⟨xs, hx, hg⟩ := key n (Nat.le_refl _)
    exact ⟨xs, some a, n, c, rfl, hx, hl, hm, (fun h => by cases h), fun b hb j hj => by
      obtain rfl : b = a := by injection hb with h; exact h.symm
      exact ⟨trivial, hg j hj⟩⟩
end
end Go.Proofs.Ytoinagefhbpakaa
