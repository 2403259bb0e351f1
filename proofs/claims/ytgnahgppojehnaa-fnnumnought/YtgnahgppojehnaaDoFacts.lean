/- Plain facts on what NumDo computes. -/
import Derived.Test.YtgnahgppojehnaaNumDo
namespace Go.Proofs.Ytgnahgppojehnaa
open Go.ChangeShapes Go.WideShapes Go.ChangeAt Go.RowKit

theorem oneI_01 (b : Bool) : oneI b = 0 ∨ oneI b = 1 := by cases b <;> simp [oneI]
theorem doI_bd (op a b : Int) : -999 ≤ doI op a b ∧ doI op a b ≤ 999 := by
  unfold doI
  repeat' split
  all_goals first | exact cutI_bd _ | (have := oneI_01 (decide (a < b)); omega) | (have := oneI_01 (a == b); omega) | omega
theorem doI_okB (op a b : Int) : okB (doI op a b) = true := okB_true (doI_bd op a b)
theorem doOk_iff {op a b : Int} : doOk op a b = true ↔ okB a = true ∧ okB b = true ∧ 1 ≤ op ∧ op ≤ 5 := by simp [doOk]


theorem doI_no {op a b : Int} (h : doOk op a b = false) : doI op a b = 0 := by
  have hno : ¬ (okB a = true ∧ okB b = true ∧ 1 ≤ op ∧ op ≤ 5) := fun k => by rw [doOk_iff.2 k] at h; cases h
  unfold doI
  split
  · next k =>
    have : ¬ (1 ≤ op ∧ op ≤ 5) := fun j => hno ⟨k.1, k.2, j⟩
    rw [if_neg (by omega : ¬ op = 1), if_neg (by omega : ¬ op = 2), if_neg (by omega : ¬ op = 3), if_neg (by omega : ¬ op = 4), if_neg (by omega : ¬ op = 5)]
  · rfl
theorem doI_add {a b : Int} (ha : okB a = true) (hb : okB b = true) : doI 1 a b = cutI (a + b) := by simp [doI, ha, hb]
theorem doI_sub {a b : Int} (ha : okB a = true) (hb : okB b = true) : doI 2 a b = cutI (a - b) := by simp [doI, ha, hb]
theorem doI_mul {a b : Int} (ha : okB a = true) (hb : okB b = true) : doI 3 a b = cutI (a * b) := by simp [doI, ha, hb]
theorem doI_less {a b : Int} (ha : okB a = true) (hb : okB b = true) : doI 4 a b = oneI (decide (a < b)) := by simp [doI, ha, hb]
theorem doI_same {a b : Int} (ha : okB a = true) (hb : okB b = true) : doI 5 a b = oneI (a == b) := by simp [doI, ha, hb]
theorem doOk_comm (op a b : Int) : doOk op a b = doOk op b a := by
  rw [Bool.eq_iff_iff, doOk_iff, doOk_iff]; exact ⟨fun h => ⟨h.2.1, h.1, h.2.2⟩, fun h => ⟨h.2.1, h.1, h.2.2⟩⟩
theorem cutI_neg (n : Int) : cutI (-n) = -cutI n := by unfold cutI; split <;> split <;> (try split) <;> (try split) <;> omega
end Go.Proofs.Ytgnahgppojehnaa
