/- Rows of yes and no, of numbers; what an op's form passes wherever the table lies. -/
import Derived.Test.YtogpfagdpkjmmaaPassed
import Derived.Test.YtogpfagdpkjmmaaApp
import Derived.Deep.RegionHeld3
namespace Go.Proofs.Ytogpfagdpkjmmaa
open Go.ChangeShapes Go.WideShapes Go.ChangeAt Go.RowKit

theorem infoBool : (Try.prog.info? 4).map (fun i => (i.zero, i.size, i.bytes)) = some (some (.bool false), 1, 1) := by kernel_rfl
theorem infoInt : (Try.prog.info? 3).map (fun i => (i.zero, i.size, i.bytes)) = some (some (.int .i64 0), 1, 8) := by kernel_rfl
theorem makeBools (n : Nat) (hn : n ≤ 60) (w : World) : (Instr.makeSlice 29 (.int .i64 (n : Int)) (.int .i64 (n : Int))).run Try.prog w =
    .ok (.slice (some ⟨w.heap.size, 0, none⟩) n n) (w.alloc (.cells (madeCells #[.bool false] n) 4)) := by
  obtain ⟨i, hi0, e0, e1, e2⟩ := info_parts infoBool
  have h := run_make (P := Try.prog) w 29 4 i _ Try.underlying29 hi0 e0 .i64 .i64 (n : Int) (n : Int) (by omega) (by omega) (by rw [e2]; omega) (by omega)
  rw [e1] at h
  simp only [Int.toNat_natCast, Nat.mul_one] at h
  exact h
theorem makeInts (n : Nat) (hn : n ≤ 60) (w : World) : (Instr.makeSlice 43 (.int .i64 (n : Int)) (.int .i64 (n : Int))).run Try.prog w =
    .ok (.slice (some ⟨w.heap.size, 0, none⟩) n n) (w.alloc (.cells (madeCells #[.int .i64 0] n) 3)) := by
  obtain ⟨i, hi0, e0, e1, e2⟩ := info_parts infoInt
  have h := run_make (P := Try.prog) w 43 3 i _ Try.underlying43 hi0 e0 .i64 .i64 (n : Int) (n : Int) (by omega) (by omega) (by rw [e2]; omega) (by omega)
  rw [e1] at h
  simp only [Int.toNat_natCast, Nat.mul_one] at h
  exact h

/-- Yes and no as cells. -/
def bls (M : List Bool) : List Value := M.map Value.bool
theorem bls_get {M : List Bool} {j : Nat} (h : j < M.length) : (bls M)[j]? = some (.bool (M.getD j false)) := by simp [bls, List.getD, h]
theorem bls_set (M : List Bool) (j : Nat) (x : Bool) : (bls M).set j (.bool x) = bls (M.set j x) := by simp [bls, List.map_set]
theorem madeB (n : Nat) : (madeCells #[.bool false] n).toList = bls (List.replicate n false) := by
  apply List.ext_getElem?
  intro j
  by_cases hj : j < n <;> simp [madeCells, hj, bls, Nat.mod_one]
theorem madeI (n : Nat) : (madeCells #[.int .i64 0] n).toList = ints (List.replicate n 0) := by
  apply List.ext_getElem?
  intro j
  by_cases hj : j < n <;> simp [madeCells, hj, ints, Nat.mod_one]

theorem own_slc' {w : World} {N z m : Nat} {e : TypeId} {v : Value} {fs : List Value} (ho : w.ownsRow N e z v m fs) : ∃ A c, v = .slice A m c := by
  obtain ⟨_, ⟨rfl, rfl⟩ | ⟨g, cap, cur, rfl, _⟩⟩ := ho
  · exact ⟨_, _, rfl⟩
  · exact ⟨_, _, rfl⟩
theorem own_some' {w : World} {base : Nat} {e : TypeId} {z : Nat} {v : Value} {n : Nat} {xs : List Value} (ho : w.ownsRow base e z v n xs) (h : 0 < n) : ∃ g cap, v = .slice (some ⟨g, 0, none⟩) n cap ∧ n ≤ cap ∧ cap ≤ maxLen := by
  obtain ⟨_, ⟨_, h0⟩ | ⟨g, cap, cur, h, _, _, h1, h2, _⟩⟩ := ho
  · omega
  · exact ⟨g, cap, h, h1, h2⟩
/-- What an op's form passes, wherever the table lies. -/
theorem passOf {w : World} {n g b : Nat} (hf : Forms w n g b) (k : Nat) (h1 : 1 ≤ k) (h2 : k ≤ 13) : ∃ (s : ByteArray) (u0 u1 u2 u3 : Value),
    w.cell? ⟨g, k * 5, none⟩ = some (.string s) ∧ w.cell? ⟨g, k * 5 + 1, none⟩ = some u0 ∧ w.cell? ⟨g, k * 5 + 2, none⟩ = some u1 ∧ w.cell? ⟨g, k * 5 + 3, none⟩ = some u2 ∧ w.cell? ⟨g, k * 5 + 4, none⟩ = some u3 ∧
    ∀ (a b t r : Int) (W : World), (r = -1 ∨ r = 0 ∨ r = 1) → Calls Try.prog 77 #[.agg #[.string s, u0, u1, u2, u3], .agg #[.int .i64 k, .int .i64 a, .int .i64 b, .int .i64 t], .int .i64 r] W (PassPost k a r W) := by
  have hk : k = 1 ∨ k = 2 ∨ k = 3 ∨ k = 4 ∨ k = 5 ∨ k = 6 ∨ k = 7 ∨ k = 8 ∨ k = 9 ∨ k = 10 ∨ k = 11 ∨ k = 12 ∨ k = 13 := by omega
  rcases hk with rfl | rfl | rfl | rfl | rfl | rfl | rfl | rfl | rfl | rfl | rfl | rfl | rfl
  · obtain ⟨q0, q1, q2, q3, q4⟩ := fc1 b
    exact ⟨_, _, _, _, _, (hf.cell _).trans q0, (hf.cell _).trans q1, (hf.cell _).trans q2, (hf.cell _).trans q3, (hf.cell _).trans q4, fun a b t r W hr => passed_nil _ _ _ _ 1 a b t r W (by omega)⟩
  · obtain ⟨q0, q1, q2, q3, q4⟩ := fc2 b
    exact ⟨_, _, _, _, _, (hf.cell _).trans q0, (hf.cell _).trans q1, (hf.cell _).trans q2, (hf.cell _).trans q3, (hf.cell _).trans q4, fun a b t r W hr => passed_nil _ _ _ _ 2 a b t r W (by omega)⟩
  · obtain ⟨q0, q1, q2, q3, q4⟩ := fc3 b
    exact ⟨_, _, _, _, _, (hf.cell _).trans q0, (hf.cell _).trans q1, (hf.cell _).trans q2, (hf.cell _).trans q3, (hf.cell _).trans q4, fun a b t r W hr => passed_nil _ _ _ _ 3 a b t r W (by omega)⟩
  · obtain ⟨q0, q1, q2, q3, q4⟩ := fc4 b
    exact ⟨_, _, _, _, _, (hf.cell _).trans q0, (hf.cell _).trans q1, (hf.cell _).trans q2, (hf.cell _).trans q3, (hf.cell _).trans q4, fun a b t r W hr => passed_nil _ _ _ _ 4 a b t r W (by omega)⟩
  · obtain ⟨q0, q1, q2, q3, q4⟩ := fc5 b
    exact ⟨_, _, _, _, _, (hf.cell _).trans q0, (hf.cell _).trans q1, (hf.cell _).trans q2, (hf.cell _).trans q3, (hf.cell _).trans q4, fun a b t r W hr => passed_nil _ _ _ _ 5 a b t r W (by omega)⟩
  · obtain ⟨q0, q1, q2, q3, q4⟩ := fc6 b
    exact ⟨_, _, _, _, _, (hf.cell _).trans q0, (hf.cell _).trans q1, (hf.cell _).trans q2, (hf.cell _).trans q3, (hf.cell _).trans q4, fun a b t r W hr => passed_nil _ _ _ _ 6 a b t r W (by omega)⟩
  · obtain ⟨q0, q1, q2, q3, q4⟩ := fc7 b
    exact ⟨_, _, _, _, _, (hf.cell _).trans q0, (hf.cell _).trans q1, (hf.cell _).trans q2, (hf.cell _).trans q3, (hf.cell _).trans q4, fun a b t r W hr => passed_nil _ _ _ _ 7 a b t r W (by omega)⟩
  · obtain ⟨q0, q1, q2, q3, q4⟩ := fc8 b
    exact ⟨_, _, _, _, _, (hf.cell _).trans q0, (hf.cell _).trans q1, (hf.cell _).trans q2, (hf.cell _).trans q3, (hf.cell _).trans q4, fun a b t r W hr => passed_passEnter _ _ _ _ a b t r W hr⟩
  · obtain ⟨q0, q1, q2, q3, q4⟩ := fc9 b
    exact ⟨_, _, _, _, _, (hf.cell _).trans q0, (hf.cell _).trans q1, (hf.cell _).trans q2, (hf.cell _).trans q3, (hf.cell _).trans q4, fun a b t r W hr => passed_passLeave _ _ _ _ a b t r W hr⟩
  · obtain ⟨q0, q1, q2, q3, q4⟩ := fc10 b
    exact ⟨_, _, _, _, _, (hf.cell _).trans q0, (hf.cell _).trans q1, (hf.cell _).trans q2, (hf.cell _).trans q3, (hf.cell _).trans q4, fun a b t r W hr => passed_passWait _ _ _ _ a b t r W hr⟩
  · obtain ⟨q0, q1, q2, q3, q4⟩ := fc11 b
    exact ⟨_, _, _, _, _, (hf.cell _).trans q0, (hf.cell _).trans q1, (hf.cell _).trans q2, (hf.cell _).trans q3, (hf.cell _).trans q4, fun a b t r W hr => passed_nil _ _ _ _ 11 a b t r W (by omega)⟩
  · obtain ⟨q0, q1, q2, q3, q4⟩ := fc12 b
    exact ⟨_, _, _, _, _, (hf.cell _).trans q0, (hf.cell _).trans q1, (hf.cell _).trans q2, (hf.cell _).trans q3, (hf.cell _).trans q4, fun a b t r W hr => passed_nil _ _ _ _ 12 a b t r W (by omega)⟩
  · obtain ⟨q0, q1, q2, q3, q4⟩ := fc13 b
    exact ⟨_, _, _, _, _, (hf.cell _).trans q0, (hf.cell _).trans q1, (hf.cell _).trans q2, (hf.cell _).trans q3, (hf.cell _).trans q4, fun a b t r W hr => passed_passEnd _ _ _ _ a b t r W hr⟩

end Go.Proofs.Ytogpfagdpkjmmaa
