/- Code that comes in: what an argument's reading says of memory. -/
import Derived.Test.YtogpfagdpkjmmaaFl
import Derived.Test.YtogpfagdpkjmmaaShutG
import Derived.Deep.Fields
namespace Go.Proofs.Ytogpfagdpkjmmaa
open Go.ChangeShapes Go.WideShapes Go.ChangeAt Go.RowKit Go.Deep

theorem cellsInsIn : Try.prog.cellsOf 47 = 4 := by kernel_rfl
theorem cellsIntN : Try.prog.cellsOf 3 = 1 := by kernel_rfl

section
variable {H : Type} {enc : TypeId × Value → H} {w : World} {base : Nat} {spare : Nat → Bool} {held : Bool}

set_option maxRecDepth 100000 in
theorem open_ins1 {fuel : Nat} {cs : List Value} {x : DataW H × List MemPlace} (h : DataW.trod enc Try.prog w base spare held fuel 47 cs = some x) :
    ∃ (a b c d : Int), cs = [.int .i64 a, .int .i64 b, .int .i64 c, .int .i64 d] := by
  obtain ⟨xs, f, rfl, _, hl, hxl, hf⟩ := DataW.trod_struct Try.underlying47 h
  rw [cellsInsIn] at hl
  match cs, hl with
  | [c0, c1, c2, c3], _ =>
    match xs, hxl with
    | [x0, x1, x2, x3], _ =>
      have g0 := hf 0 _ rfl
      have g1 := hf 1 _ rfl
      have g2 := hf 2 _ rfl
      have g3 := hf 3 _ rfl
      simp [cellsIntN] at g0 g1 g2 g3
      obtain ⟨k, e0, _, _⟩ := DataW.trod_int Try.underlying3 g0
      obtain ⟨a, e1, _, _⟩ := DataW.trod_int Try.underlying3 g1
      obtain ⟨b, e2, _, _⟩ := DataW.trod_int Try.underlying3 g2
      obtain ⟨c, e3, _, _⟩ := DataW.trod_int Try.underlying3 g3
      simp at e0 e1 e2 e3
      subst e0 e1 e2 e3
      exact ⟨k, a, b, c, rfl⟩

set_option maxRecDepth 100000 in
theorem open_inss {W : World} {base : Nat} {v : Value} {d : DataW H} {ps : List MemPlace} (hval : Value.okWide Try.prog W .any base 22 v) (h : DataW.Trod enc Try.prog W 0 (fun _ => true) true 22 v d ps) :
    ∃ (xs : List Int) (A : Option Addr) (n c : Nat), v = .slice A n c ∧ Fl W (fun _ => True) 4 xs A n c := by
  obtain ⟨A, n, c, rfl⟩ := okWide_slice Try.underlying22 hval
  obtain ⟨fuel, hf⟩ := h
  have hf' : DataW.trod enc Try.prog W 0 (fun _ => true) true fuel 22 [.slice A n c] = some (d, ps) := by simpa [Value.cells] using hf
  rcases DataW.trod_slice Try.underlying22 hf' with ⟨h0, _⟩ | ⟨a, len, cap, elems, rest, f, rfl, h0, _, _, hl, hm, hlen, hel, _, _⟩
  · simp at h0
    obtain ⟨rfl, rfl, rfl⟩ := h0
    exact ⟨[], none, 0, 0, rfl, rfl, Nat.le_refl _, Nat.zero_le _, fun _ => rfl, fun a ha => by cases ha⟩
  · simp at h0
    obtain ⟨rfl, rfl, rfl⟩ := h0
    have key : ∀ m, m ≤ n → ∃ xs : List Int, xs.length = m * 4 ∧ ∀ j, j < xs.length → W.cell? (a.add j) = some (.int .i64 (xs.getD j 0)) := by
      intro m
      induction m with
      | zero => intro _; exact ⟨[], rfl, fun j hj => by simp at hj⟩
      | succ m ih =>
        intro hm'
        obtain ⟨xs, hx, hg⟩ := ih (by omega)
        have h1 := hel m (by omega)
        rw [cellsInsIn, List.getElem?_eq_getElem (by omega)] at h1
        obtain ⟨cs, hcs, ht⟩ := Option.bind_eq_some_iff.1 h1
        obtain ⟨_, _, hcell⟩ := World.cells?_some hcs
        obtain ⟨x, y, z, u, rfl⟩ := open_ins1 ht
        have z0 := hcell 0 (by omega)
        have z1 := hcell 1 (by omega)
        have z2 := hcell 2 (by omega)
        have z3 := hcell 3 (by omega)
        rw [add_ad] at z0 z1 z2 z3
        simp at z0 z1 z2 z3
        refine ⟨xs ++ [x, y, z, u], by simp [hx]; omega, fun j hj => ?_⟩
        by_cases e : j < xs.length
        · rw [hg j e]; simp [List.getD, e, List.getElem?_append_left e]
        · have : j = m * 4 ∨ j = m * 4 + 1 ∨ j = m * 4 + 2 ∨ j = m * 4 + 3 := by simp at hj; omega
          rcases this with rfl | rfl | rfl | rfl
          · rw [z0, ← hx]; simp [List.getD]
          · rw [z1, ← hx]; simp [List.getD]
          · rw [z2, ← hx]; simp [List.getD]
          · rw [z3, ← hx]; simp [List.getD]
    obtain ⟨xs, hx, hg⟩ := key n (Nat.le_refl _)
    exact ⟨xs, some a, n, c, rfl, hx, hl, hm, (fun h => by cases h), fun b hb j hj => by
      obtain rfl : b = a := by injection hb with h; exact h.symm
      exact ⟨trivial, hg j hj⟩⟩
end
end Go.Proofs.Ytogpfagdpkjmmaa
