/- What a program that comes in gives a walk. -/
import Derived.Test.YtoinagefhbpakaaShutSt
import Derived.Test.YtoinagefhbpakaaPs
namespace Go.Proofs.Ytoinagefhbpakaa
open Go.ChangeShapes Go.WideShapes Go.ChangeAt Go.RowKit

section
variable {H : Type} {enc : TypeId × Value → H}

set_option maxRecDepth 100000 in
theorem open_ps {W : World} {base : Nat} {v : Value} {d : DataW H} {ps : List MemPlace} (hval : Value.okWide Try.prog W .any base 39 v) (h : DataW.Trod enc Try.prog W 0 (fun _ => true) true 39 v d ps) :
    ∃ (Ls : List SL) (A : Option Addr) (n c : Nat), v = .slice A n c ∧ Ps W W.heap.size Ls A n c := by
  obtain ⟨A, n, c, rfl⟩ := okWide_slice Try.underlying39 hval
  obtain ⟨fuel, hf⟩ := h
  have hf' : DataW.trod enc Try.prog W 0 (fun _ => true) true fuel 39 [.slice A n c] = some (d, ps) := by simpa [Value.cells] using hf
  rcases DataW.trod_slice Try.underlying39 hf' with ⟨h0, _⟩ | ⟨a, len, cap, elems, rest, f, rfl, h0, _, _, hl, hm, hlen, hel, _, _⟩
  · simp at h0
    obtain ⟨rfl, rfl, rfl⟩ := h0
    exact ⟨[], none, 0, 0, rfl, rfl, Nat.le_refl _, Nat.zero_le _, fun i hi => by simp at hi⟩
  · simp at h0
    obtain ⟨rfl, rfl, rfl⟩ := h0
    have key : ∀ i, i < n → ∃ (L : SL) (A' : Option Addr) (c' : Nat), a.block < W.heap.size ∧ W.cell? (a.add i) = some (.slice A' L.len c') ∧ Sl W W.heap.size L A' L.len c' := fun i hi => by
      have h1 := hel i hi
      rw [cellsList, Nat.mul_one, List.getElem?_eq_getElem (by omega)] at h1
      obtain ⟨cs, hcs, ht⟩ := Option.bind_eq_some_iff.1 h1
      obtain ⟨_, hcl, hcell⟩ := World.cells?_some hcs
      match cs, hcl with
      | [u], _ =>
        obtain ⟨A', n', c', rfl⟩ := slice_of ht
        obtain ⟨L, hL⟩ := open_list _ _ _ _ _ ht
        obtain rfl := hL.len
        have z0 := hcell 0 (by omega)
        have e0 : ∀ b : Addr, b.add 0 = b := fun b => by simp [Addr.add]
        rw [e0] at z0
        simp at z0
        have := World.block_lt_of_cell? _ _ z0
        rw [add_blk] at this
        exact ⟨L, A', c', this, z0, hL⟩
    obtain ⟨Ls, hLs, hget⟩ : ∃ Ls : List SL, Ls.length = n ∧ ∀ i (h : i < Ls.length), ∃ (A' : Option Addr) (c' : Nat), a.block < W.heap.size ∧ W.cell? (a.add i) = some (.slice A' (Ls[i]).len c') ∧ Sl W W.heap.size (Ls[i]) A' (Ls[i]).len c' := by
      have : ∀ m, m ≤ n → ∃ Ls : List SL, Ls.length = m ∧ ∀ i (h : i < Ls.length), ∃ (A' : Option Addr) (c' : Nat), a.block < W.heap.size ∧ W.cell? (a.add i) = some (.slice A' (Ls[i]).len c') ∧ Sl W W.heap.size (Ls[i]) A' (Ls[i]).len c' := by
        intro m
        induction m with
        | zero => intro _; exact ⟨[], rfl, fun i hi => by simp at hi⟩
        | succ m ih =>
          intro hm'
          obtain ⟨Ls, hl', hg⟩ := ih (by omega)
          obtain ⟨L, A', c', hb, hc, hs⟩ := key m (by omega)
          refine ⟨Ls ++ [L], by simp [hl'], fun i hi => ?_⟩
          by_cases e : i < Ls.length
          · rw [List.getElem_append_left e]; exact hg i e
          · have : i = Ls.length := by simp at hi; omega
            subst this
            rw [List.getElem_append_right (Nat.le_refl _)]
            simp only [Nat.sub_self, List.getElem_cons_zero]
            rw [hl']
            exact ⟨A', c', hb, hc, hs⟩
      exact this n (Nat.le_refl _)
    exact ⟨Ls, some a, n, c, rfl, hLs.symm, hl, hm, fun i hi => by
      obtain ⟨A', c', hb, hc, hs⟩ := hget i hi
      exact ⟨a, A', c', rfl, hb, hc, hs⟩⟩
end
end Go.Proofs.Ytoinagefhbpakaa
