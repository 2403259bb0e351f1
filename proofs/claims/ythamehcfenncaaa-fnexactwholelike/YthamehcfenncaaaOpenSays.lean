/- What was said, coming in. -/
import Derived.Test.YthamehcfenncaaaOpenRec
namespace Go.Proofs.Ythamehcfenncaaa
open Go.ChangeShapes Go.WideShapes Go.ChangeAt Go.RowKit Go.Deep

theorem cellsSayR : Try.prog.cellsOf 131 = 2 := by kernel_rfl
theorem cellsIssR : Try.prog.cellsOf 57 = 1 := by kernel_rfl
theorem cellsSaysR : Try.prog.cellsOf 58 = 1 := by kernel_rfl

section
variable {H : Type} {enc : TypeId × Value → H} {w : World} {base : Nat} {spare : Nat → Bool} {held : Bool}

set_option maxRecDepth 100000 in
theorem open_sayF {fuel : Nat} {cs : List Value} {x : DataW H × List MemPlace} (h : DataW.trod enc Try.prog w base spare held fuel 131 cs = some x) :
    ∃ (a b : Int), cs = [.int .i64 a, .int .i64 b] := by
  obtain ⟨xs, f, rfl, _, hl, hxl, hf⟩ := DataW.trod_struct Try.underlying131 h
  rw [cellsSayR] at hl
  match cs, hl with
  | [c0, c1], _ =>
    match xs, hxl with
    | [x0, x1], _ =>
      have g0 := hf 0 _ rfl
      have g1 := hf 1 _ rfl
      simp [cellsIntR] at g0 g1
      obtain ⟨k, e0, _, _⟩ := DataW.trod_int Try.underlying3 g0
      obtain ⟨a, e1, _, _⟩ := DataW.trod_int Try.underlying3 g1
      simp at e0 e1
      subst e0 e1
      exact ⟨k, a, rfl⟩

set_option maxRecDepth 100000 in
theorem open_saysF {fuel : Nat} {v : Value} {x : DataW H × List MemPlace} (h : DataW.trod enc Try.prog w base spare held fuel 58 [v] = some x) :
    ∃ (xs : List Int) (A : Option Addr) (n c : Nat), v = .slice A n c ∧ Fl w (fun _ => True) 2 xs A n c := by
  rcases DataW.trod_slice Try.underlying58 h with ⟨h0, _⟩ | ⟨a, len, cap, elems, rest, f, rfl, h0, _, _, hl, hm, hlen, hel, _, _⟩
  · simp at h0
    subst h0
    exact ⟨[], none, 0, 0, rfl, rfl, Nat.le_refl _, Nat.zero_le _, fun _ => rfl, fun a ha => by cases ha⟩
  · simp at h0
    subst h0
    have key : ∀ m, m ≤ len → ∃ xs : List Int, xs.length = m * 2 ∧ ∀ j, j < xs.length → w.cell? (a.add j) = some (.int .i64 (xs.getD j 0)) := by
      intro m
      induction m with
      | zero => intro _; exact ⟨[], rfl, fun j hj => by simp at hj⟩
      | succ m ih =>
        intro hm'
        obtain ⟨xs, hx, hg⟩ := ih (by omega)
        have h1 := hel m (by omega)
        rw [cellsSayR, List.getElem?_eq_getElem (by omega)] at h1
        obtain ⟨cs, hcs, ht⟩ := Option.bind_eq_some_iff.1 h1
        obtain ⟨_, _, hcell⟩ := World.cells?_some hcs
        obtain ⟨x, y, rfl⟩ := open_sayF ht
        have z0 := hcell 0 (by omega)
        have z1 := hcell 1 (by omega)
        rw [add_ad] at z0 z1
        simp at z0 z1
        refine ⟨xs ++ [x, y], by simp [hx]; omega, fun j hj => ?_⟩
        by_cases e : j < xs.length
        · rw [hg j e]; simp [List.getD, e, List.getElem?_append_left e]
        · have : j = m * 2 ∨ j = m * 2 + 1 := by simp at hj; omega
          rcases this with rfl | rfl
          · rw [z0, ← hx]; simp [List.getD]
          · rw [z1, ← hx]; simp [List.getD]
    obtain ⟨xs, hx, hg⟩ := key len (Nat.le_refl _)
    exact ⟨xs, some a, len, cap, rfl, hx, hl, hm, (fun h => by cases h), fun b hb j hj => by
      obtain rfl : b = a := by injection hb with h; exact h.symm
      exact ⟨trivial, hg j hj⟩⟩

end
end Go.Proofs.Ythamehcfenncaaa
