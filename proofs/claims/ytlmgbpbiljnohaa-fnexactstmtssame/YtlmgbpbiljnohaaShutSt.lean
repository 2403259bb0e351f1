/- What statements that come in give a walk. -/
import Derived.Test.YtlmgbpbiljnohaaOpenSt
import Derived.Test.YtlmgbpbiljnohaaShutG
namespace Go.Proofs.Ytlmgbpbiljnohaa
open Go.ChangeShapes Go.WideShapes Go.ChangeAt Go.RowKit

section
variable {H : Type} {enc : TypeId × Value → H}

set_option maxRecDepth 100000 in
theorem open_sl {W : World} {base : Nat} {v : Value} {d : DataW H} {ps : List MemPlace} (hval : Value.okWide Try.prog W .any base 37 v) (h : DataW.Trod enc Try.prog W 0 (fun _ => true) true 37 v d ps) :
    ∃ (L : SL) (A : Option Addr) (n c : Nat), v = .slice A n c ∧ Sl W W.heap.size L A n c := by
  obtain ⟨A, n, c, rfl⟩ := okWide_slice Try.underlying37 hval
  obtain ⟨fuel, hf⟩ := h
  obtain ⟨L, hL⟩ := open_list fuel A n c _ (by simpa [Value.cells] using hf)
  exact ⟨L, A, n, c, rfl, hL⟩

set_option maxRecDepth 100000 in
theorem open_one {W : World} {base : Nat} {v : Value} {d : DataW H} {ps : List MemPlace} (hval : Value.okWide Try.prog W .any base 62 v) (h : DataW.Trod enc Try.prog W 0 (fun _ => true) true 62 v d ps) :
    ∃ (k x y n : Int) (B E : SL) (A : Option Addr) (c : Nat) (A' : Option Addr) (c' : Nat), v = .agg #[.int .i64 k, .int .i64 x, .int .i64 y, .int .i64 n, .slice A B.len c, .slice A' E.len c'] ∧ Sl W W.heap.size B A B.len c ∧ Sl W W.heap.size E A' E.len c' := by
  obtain ⟨cs, rfl, _⟩ := okWide_struct Try.underlying62 hval
  obtain ⟨fuel, hf⟩ := h
  obtain ⟨f, k, x, y, n, v4, v5, y4, y5, _, hcs, t4, t5⟩ := open_stmt hf
  obtain ⟨A, n4, c, rfl⟩ := slice_of t4
  obtain ⟨A', n5, c', rfl⟩ := slice_of t5
  obtain ⟨B, hB⟩ := open_list _ _ _ _ _ t4
  obtain ⟨E, hE⟩ := open_list _ _ _ _ _ t5
  obtain rfl := hB.len
  obtain rfl := hE.len
  refine ⟨k, x, y, n, B, E, A, c, A', c', ?_, hB, hE⟩
  obtain ⟨l⟩ := cs
  simp [Value.cells] at hcs
  rw [hcs]
end
end Go.Proofs.Ytlmgbpbiljnohaa
