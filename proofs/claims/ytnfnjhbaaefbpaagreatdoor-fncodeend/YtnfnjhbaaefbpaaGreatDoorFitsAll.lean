/- What the functions of the forms answer; whether an instruction is right, as the program asks. -/
import Derived.Test.YtnfnjhbaaefbpaaGreatDoorFits
namespace Go.Proofs.YtnfnjhbaaefbpaaGreatDoor
open Go.ChangeShapes Go.WideShapes Go.ChangeAt Go.RowKit

def regB (x : Int) : Bool := decide (0 ≤ x ∧ x < 3)
def twoB (x : Int) : Bool := decide (0 ≤ x ∧ x < 2)
def opB (x : Int) : Bool := decide (1 ≤ x ∧ x ≤ 5)
def idxB (n : Nat) (x : Int) : Bool := decide (0 ≤ x ∧ x < n)
def nilB (x : Int) : Bool := decide (x = 0)

theorem isReg (x : Int) (w : World) : Calls Tryz.prog 40 #[.int .i64 x] w fun e w' => e = .returned (.bool (regB x)) ∧ ∃ k, w' = w.drewN k := by
  go_enter Tryz.func40, Tryz.ntmps40
  go_wp2
  all_goals
    go_ret
    refine ⟨retB ?_, 0, rfl⟩
    rw [Bool.eq_iff_iff]
    simp [regB, *] <;> omega
theorem isCel (x : Int) (w : World) : Calls Tryz.prog 43 #[.int .i64 x] w fun e w' => e = .returned (.bool (regB x)) ∧ ∃ k, w' = w.drewN k := by
  go_enter Tryz.func43, Tryz.ntmps43
  go_wp2
  all_goals
    go_ret
    refine ⟨retB ?_, 0, rfl⟩
    rw [Bool.eq_iff_iff]
    simp [regB, *] <;> omega
theorem isRoo (x : Int) (w : World) : Calls Tryz.prog 44 #[.int .i64 x] w fun e w' => e = .returned (.bool (twoB x)) ∧ ∃ k, w' = w.drewN k := by
  go_enter Tryz.func44, Tryz.ntmps44
  go_wp2
  all_goals
    go_ret
    refine ⟨retB ?_, 0, rfl⟩
    rw [Bool.eq_iff_iff]
    simp [twoB, *] <;> omega
theorem isSig (x : Int) (w : World) : Calls Tryz.prog 47 #[.int .i64 x] w fun e w' => e = .returned (.bool (twoB x)) ∧ ∃ k, w' = w.drewN k := by
  go_enter Tryz.func47, Tryz.ntmps47
  go_wp2
  all_goals
    go_ret
    refine ⟨retB ?_, 0, rfl⟩
    rw [Bool.eq_iff_iff]
    simp [twoB, *] <;> omega
theorem isOpe (x : Int) (w : World) : Calls Tryz.prog 42 #[.int .i64 x] w fun e w' => e = .returned (.bool (opB x)) ∧ ∃ k, w' = w.drewN k := by
  go_enter Tryz.func42, Tryz.ntmps42
  go_wp2
  all_goals
    go_ret
    refine ⟨retB ?_, 0, rfl⟩
    rw [Bool.eq_iff_iff]
    simp [opB, *] <;> omega
theorem isIdx (x : Int) (n b : Nat) (w : World) (hb : w.cell? ⟨b, 0, none⟩ = some (.int .i64 n)) : Calls Tryz.prog 39 #[.int .i64 x, .pointer (some ⟨b, 0, none⟩)] w fun e w' => e = .returned (.bool (idxB n x)) ∧ ∃ k, w' = w.drewN k := by
  go_enter Tryz.func39, Tryz.ntmps39
  go_wp2
  all_goals
    go_ret
    refine ⟨retB ?_, 0, rfl⟩
    rw [Bool.eq_iff_iff]
    simp [idxB, *] <;> omega

theorem sNil (w : World) : Says w none nilB := fun _ => rfl
theorem sReg (w : World) : Says w (some (40, #[])) regB := ⟨.inl rfl, fun x W _ => isReg x W⟩
theorem sCel (w : World) : Says w (some (43, #[])) regB := ⟨.inl rfl, fun x W _ => isCel x W⟩
theorem sRoo (w : World) : Says w (some (44, #[])) twoB := ⟨.inl rfl, fun x W _ => isRoo x W⟩
theorem sSig (w : World) : Says w (some (47, #[])) twoB := ⟨.inl rfl, fun x W _ => isSig x W⟩
theorem sOpe (w : World) : Says w (some (42, #[])) opB := ⟨.inl rfl, fun x W _ => isOpe x W⟩
theorem sNum (w : World) : Says w (some (41, #[])) okB := ⟨.inl rfl, fun x W _ => (numOk x W).mono fun _ _ ⟨h1, h2⟩ => ⟨h1, 0, h2.symm⟩⟩
theorem sIdx (w : World) (n b : Nat) (hb : w.cell? ⟨b, 0, none⟩ = some (.int .i64 n)) (hl : b < w.heap.size) : Says w (some (39, #[.pointer (some ⟨b, 0, none⟩)])) (idxB n) :=
  ⟨.inr ⟨_, rfl⟩, fun x W hW => isIdx x n b W ((hW.cell (p := ⟨b, 0, none⟩) hl).trans hb)⟩

theorem fc1 (b : Nat) : (formsA b)[1 * 5]? = some (.string ⟨#[110, 117, 109]⟩) ∧ (formsA b)[1 * 5 + 1]? = some (fo (some (40, #[]))) ∧ (formsA b)[1 * 5 + 2]? = some (fo none) ∧ (formsA b)[1 * 5 + 3]? = some (fo (some (41, #[]))) ∧ (formsA b)[1 * 5 + 4]? = some (fo none) := ⟨by kernel_rfl, by kernel_rfl, by kernel_rfl, by kernel_rfl, by kernel_rfl⟩
theorem fc2 (b : Nat) : (formsA b)[2 * 5]? = some (.string ⟨#[100, 111]⟩) ∧ (formsA b)[2 * 5 + 1]? = some (fo (some (40, #[]))) ∧ (formsA b)[2 * 5 + 2]? = some (fo (some (40, #[]))) ∧ (formsA b)[2 * 5 + 3]? = some (fo (some (42, #[]))) ∧ (formsA b)[2 * 5 + 4]? = some (fo none) := ⟨by kernel_rfl, by kernel_rfl, by kernel_rfl, by kernel_rfl, by kernel_rfl⟩
theorem fc3 (b : Nat) : (formsA b)[3 * 5]? = some (.string ⟨#[108, 111, 97, 100]⟩) ∧ (formsA b)[3 * 5 + 1]? = some (fo (some (40, #[]))) ∧ (formsA b)[3 * 5 + 2]? = some (fo (some (43, #[]))) ∧ (formsA b)[3 * 5 + 3]? = some (fo none) ∧ (formsA b)[3 * 5 + 4]? = some (fo none) := ⟨by kernel_rfl, by kernel_rfl, by kernel_rfl, by kernel_rfl, by kernel_rfl⟩
theorem fc4 (b : Nat) : (formsA b)[4 * 5]? = some (.string ⟨#[115, 116, 111, 114, 101]⟩) ∧ (formsA b)[4 * 5 + 1]? = some (fo (some (43, #[]))) ∧ (formsA b)[4 * 5 + 2]? = some (fo (some (40, #[]))) ∧ (formsA b)[4 * 5 + 3]? = some (fo none) ∧ (formsA b)[4 * 5 + 4]? = some (fo none) := ⟨by kernel_rfl, by kernel_rfl, by kernel_rfl, by kernel_rfl, by kernel_rfl⟩
theorem fc5 (b : Nat) : (formsA b)[5 * 5]? = some (.string ⟨#[115, 97, 121]⟩) ∧ (formsA b)[5 * 5 + 1]? = some (fo (some (40, #[]))) ∧ (formsA b)[5 * 5 + 2]? = some (fo none) ∧ (formsA b)[5 * 5 + 3]? = some (fo none) ∧ (formsA b)[5 * 5 + 4]? = some (fo none) := ⟨by kernel_rfl, by kernel_rfl, by kernel_rfl, by kernel_rfl, by kernel_rfl⟩
theorem fc6 (b : Nat) : (formsA b)[6 * 5]? = some (.string ⟨#[115, 107, 105, 112]⟩) ∧ (formsA b)[6 * 5 + 1]? = some (fo (some (40, #[]))) ∧ (formsA b)[6 * 5 + 2]? = some (fo none) ∧ (formsA b)[6 * 5 + 3]? = some (fo (some (39, #[.pointer (some ⟨b, 0, none⟩)]))) ∧ (formsA b)[6 * 5 + 4]? = some (fo none) := ⟨by kernel_rfl, by kernel_rfl, by kernel_rfl, by kernel_rfl, by kernel_rfl⟩
theorem fc7 (b : Nat) : (formsA b)[7 * 5]? = some (.string ⟨#[106, 117, 109, 112]⟩) ∧ (formsA b)[7 * 5 + 1]? = some (fo none) ∧ (formsA b)[7 * 5 + 2]? = some (fo none) ∧ (formsA b)[7 * 5 + 3]? = some (fo (some (39, #[.pointer (some ⟨b, 0, none⟩)]))) ∧ (formsA b)[7 * 5 + 4]? = some (fo none) := ⟨by kernel_rfl, by kernel_rfl, by kernel_rfl, by kernel_rfl, by kernel_rfl⟩
theorem fc8 (b : Nat) : (formsA b)[8 * 5]? = some (.string ⟨#[101, 110, 116, 101, 114]⟩) ∧ (formsA b)[8 * 5 + 1]? = some (fo (some (44, #[]))) ∧ (formsA b)[8 * 5 + 2]? = some (fo none) ∧ (formsA b)[8 * 5 + 3]? = some (fo none) ∧ (formsA b)[8 * 5 + 4]? = some (fo (some (45, #[]))) := ⟨by kernel_rfl, by kernel_rfl, by kernel_rfl, by kernel_rfl, by kernel_rfl⟩
theorem fc9 (b : Nat) : (formsA b)[9 * 5]? = some (.string ⟨#[108, 101, 97, 118, 101]⟩) ∧ (formsA b)[9 * 5 + 1]? = some (fo (some (44, #[]))) ∧ (formsA b)[9 * 5 + 2]? = some (fo none) ∧ (formsA b)[9 * 5 + 3]? = some (fo none) ∧ (formsA b)[9 * 5 + 4]? = some (fo (some (46, #[]))) := ⟨by kernel_rfl, by kernel_rfl, by kernel_rfl, by kernel_rfl, by kernel_rfl⟩
theorem fc10 (b : Nat) : (formsA b)[10 * 5]? = some (.string ⟨#[119, 97, 105, 116]⟩) ∧ (formsA b)[10 * 5 + 1]? = some (fo (some (47, #[]))) ∧ (formsA b)[10 * 5 + 2]? = some (fo none) ∧ (formsA b)[10 * 5 + 3]? = some (fo none) ∧ (formsA b)[10 * 5 + 4]? = some (fo (some (48, #[]))) := ⟨by kernel_rfl, by kernel_rfl, by kernel_rfl, by kernel_rfl, by kernel_rfl⟩
theorem fc11 (b : Nat) : (formsA b)[11 * 5]? = some (.string ⟨#[115, 105, 103, 110, 97, 108]⟩) ∧ (formsA b)[11 * 5 + 1]? = some (fo (some (47, #[]))) ∧ (formsA b)[11 * 5 + 2]? = some (fo none) ∧ (formsA b)[11 * 5 + 3]? = some (fo none) ∧ (formsA b)[11 * 5 + 4]? = some (fo none) := ⟨by kernel_rfl, by kernel_rfl, by kernel_rfl, by kernel_rfl, by kernel_rfl⟩
theorem fc12 (b : Nat) : (formsA b)[12 * 5]? = some (.string ⟨#[121, 105, 101, 108, 100]⟩) ∧ (formsA b)[12 * 5 + 1]? = some (fo none) ∧ (formsA b)[12 * 5 + 2]? = some (fo none) ∧ (formsA b)[12 * 5 + 3]? = some (fo none) ∧ (formsA b)[12 * 5 + 4]? = some (fo none) := ⟨by kernel_rfl, by kernel_rfl, by kernel_rfl, by kernel_rfl, by kernel_rfl⟩
theorem fc13 (b : Nat) : (formsA b)[13 * 5]? = some (.string ⟨#[101, 110, 100]⟩) ∧ (formsA b)[13 * 5 + 1]? = some (fo none) ∧ (formsA b)[13 * 5 + 2]? = some (fo none) ∧ (formsA b)[13 * 5 + 3]? = some (fo none) ∧ (formsA b)[13 * 5 + 4]? = some (fo (some (49, #[]))) := ⟨by kernel_rfl, by kernel_rfl, by kernel_rfl, by kernel_rfl, by kernel_rfl⟩

theorem fe1 (a b t : Int) (n : Nat) : (regB a && nilB b && okB t) = insB 1 a b t n := by
  rw [Bool.eq_iff_iff]
  simp [insB, leafB, regB, nilB, okB]
  try omega
theorem fe2 (a b t : Int) (n : Nat) : (regB a && regB b && opB t) = insB 2 a b t n := by
  rw [Bool.eq_iff_iff]
  simp [insB, leafB, regB, opB]
  try omega
theorem fe3 (a b t : Int) (n : Nat) : (regB a && regB b && nilB t) = insB 3 a b t n := by
  rw [Bool.eq_iff_iff]
  simp [insB, leafB, regB, nilB]
  try omega
theorem fe4 (a b t : Int) (n : Nat) : (regB a && regB b && nilB t) = insB 4 a b t n := by
  rw [Bool.eq_iff_iff]
  simp [insB, leafB, regB, nilB]
  try omega
theorem fe5 (a b t : Int) (n : Nat) : (regB a && nilB b && nilB t) = insB 5 a b t n := by
  rw [Bool.eq_iff_iff]
  simp [insB, leafB, regB, nilB]
  try omega
theorem fe6 (a b t : Int) (n : Nat) : (regB a && nilB b && (idxB n) t) = insB 6 a b t n := by
  rw [Bool.eq_iff_iff]
  simp [insB, regB, idxB, nilB]
  try omega
theorem fe7 (a b t : Int) (n : Nat) : (nilB a && nilB b && (idxB n) t) = insB 7 a b t n := by
  rw [Bool.eq_iff_iff]
  simp [insB, idxB, nilB]
  try omega
theorem fe8 (a b t : Int) (n : Nat) : (twoB a && nilB b && nilB t) = insB 8 a b t n := by
  rw [Bool.eq_iff_iff]
  simp [insB, twoB, nilB]
  try omega
theorem fe9 (a b t : Int) (n : Nat) : (twoB a && nilB b && nilB t) = insB 9 a b t n := by
  rw [Bool.eq_iff_iff]
  simp [insB, twoB, nilB]
  try omega
theorem fe10 (a b t : Int) (n : Nat) : (twoB a && nilB b && nilB t) = insB 10 a b t n := by
  rw [Bool.eq_iff_iff]
  simp [insB, twoB, nilB]
  try omega
theorem fe11 (a b t : Int) (n : Nat) : (twoB a && nilB b && nilB t) = insB 11 a b t n := by
  rw [Bool.eq_iff_iff]
  simp [insB, twoB, nilB]
  try omega
theorem fe12 (a b t : Int) (n : Nat) : (nilB a && nilB b && nilB t) = insB 12 a b t n := by
  rw [Bool.eq_iff_iff]
  simp [insB, nilB]
  try omega
theorem fe13 (a b t : Int) (n : Nat) : (nilB a && nilB b && nilB t) = insB 13 a b t n := by
  rw [Bool.eq_iff_iff]
  simp [insB, nilB]
  try omega

theorem Forms.cell {w : World} {n g b : Nat} (h : Forms w n g b) (j : Nat) : w.cell? ⟨g, j, none⟩ = (formsA b)[j]? := by
  simp [World.cell?, h.1]
theorem Forms.below {w w' : World} {n g b N : Nat} (h : Forms w n g b) (hb : Below N w w') (hg : g < N) (hbN : b < N) : Forms w' n g b :=
  ⟨(hb.block g hg).trans h.1, (hb.cell (p := ⟨b, 0, none⟩) hbN).trans h.2.1, Nat.lt_of_lt_of_le h.2.2 hb.size⟩

set_option maxRecDepth 100000 in
set_option maxHeartbeats 8000000 in
/-- Whether an instruction is right. -/
theorem fits (o a b t : Int) (n g bb : Nat) (w : World) (hf : Forms w n g bb) :
    Calls Tryz.prog 25 #[.pointer (some ⟨g, 0, none⟩), .agg #[.int .i64 o, .int .i64 a, .int .i64 b, .int .i64 t]] w fun e w' => e = .returned (.bool (insB o a b t n)) ∧ Below w.heap.size w w' := by
  have hI := sIdx w n bb hf.2.1 hf.2.2
  by_cases ho : 1 ≤ o ∧ o ≤ 13
  · have key : ∀ (k : Nat) (s : ByteArray) (o0 o1 o2 o3 : Option (Nat × Array Value)) (φ0 φ1 φ2 : Int → Bool), o = (k : Int) → 1 ≤ k → k ≤ 13 →
        (formsA bb)[k * 5]? = some (.string s) → (formsA bb)[k * 5 + 1]? = some (fo o0) → (formsA bb)[k * 5 + 2]? = some (fo o1) → (formsA bb)[k * 5 + 3]? = some (fo o2) → (formsA bb)[k * 5 + 4]? = some (fo o3) →
        Says w o0 φ0 → Says w o1 φ1 → Says w o2 φ2 →
        (o0 = none ∨ o0 = some (40, #[]) ∨ o0 = some (43, #[]) ∨ o0 = some (44, #[]) ∨ o0 = some (47, #[])) → (o1 = none ∨ o1 = some (40, #[]) ∨ o1 = some (43, #[])) →
        (o2 = none ∨ o2 = some (41, #[]) ∨ o2 = some (42, #[]) ∨ ∃ p, o2 = some (39, #[p])) → (φ0 a && φ1 b && φ2 t) = insB o a b t n →
        Calls Tryz.prog 25 #[.pointer (some ⟨g, 0, none⟩), .agg #[.int .i64 o, .int .i64 a, .int .i64 b, .int .i64 t]] w fun e w' => e = .returned (.bool (insB o a b t n)) ∧ Below w.heap.size w w' := by
      intro k s o0 o1 o2 o3 φ0 φ1 φ2 hk k1 k2 q0 q1 q2 q3 q4 s0 s1 s2 h0 h1 h2 he
      subst hk
      have := fits_of k a b t g s o0 o1 o2 o3 φ0 φ1 φ2 w k1 k2 ((hf.cell _).trans q0) ((hf.cell _).trans q1) ((hf.cell _).trans q2) ((hf.cell _).trans q3) ((hf.cell _).trans q4) s0 s1 s2 h0 h1 h2
      rw [he] at this
      exact this
    have hk : o = 1 ∨ o = 2 ∨ o = 3 ∨ o = 4 ∨ o = 5 ∨ o = 6 ∨ o = 7 ∨ o = 8 ∨ o = 9 ∨ o = 10 ∨ o = 11 ∨ o = 12 ∨ o = 13 := by omega
    rcases hk with rfl | rfl | rfl | rfl | rfl | rfl | rfl | rfl | rfl | rfl | rfl | rfl | rfl
    · obtain ⟨q0, q1, q2, q3, q4⟩ := fc1 bb
      exact key 1 ⟨#[110, 117, 109]⟩ (some (40, #[])) none (some (41, #[])) none regB nilB okB rfl (by omega) (by omega) q0 q1 q2 q3 q4 (sReg w) (sNil w) (sNum w) (.inr (.inl rfl)) (.inl rfl) (.inr (.inl rfl)) (fe1 a b t n)
    · obtain ⟨q0, q1, q2, q3, q4⟩ := fc2 bb
      exact key 2 ⟨#[100, 111]⟩ (some (40, #[])) (some (40, #[])) (some (42, #[])) none regB regB opB rfl (by omega) (by omega) q0 q1 q2 q3 q4 (sReg w) (sReg w) (sOpe w) (.inr (.inl rfl)) (.inr (.inl rfl)) (.inr (.inr (.inl rfl))) (fe2 a b t n)
    · obtain ⟨q0, q1, q2, q3, q4⟩ := fc3 bb
      exact key 3 ⟨#[108, 111, 97, 100]⟩ (some (40, #[])) (some (43, #[])) none none regB regB nilB rfl (by omega) (by omega) q0 q1 q2 q3 q4 (sReg w) (sCel w) (sNil w) (.inr (.inl rfl)) (.inr (.inr rfl)) (.inl rfl) (fe3 a b t n)
    · obtain ⟨q0, q1, q2, q3, q4⟩ := fc4 bb
      exact key 4 ⟨#[115, 116, 111, 114, 101]⟩ (some (43, #[])) (some (40, #[])) none none regB regB nilB rfl (by omega) (by omega) q0 q1 q2 q3 q4 (sCel w) (sReg w) (sNil w) (.inr (.inr (.inl rfl))) (.inr (.inl rfl)) (.inl rfl) (fe4 a b t n)
    · obtain ⟨q0, q1, q2, q3, q4⟩ := fc5 bb
      exact key 5 ⟨#[115, 97, 121]⟩ (some (40, #[])) none none none regB nilB nilB rfl (by omega) (by omega) q0 q1 q2 q3 q4 (sReg w) (sNil w) (sNil w) (.inr (.inl rfl)) (.inl rfl) (.inl rfl) (fe5 a b t n)
    · obtain ⟨q0, q1, q2, q3, q4⟩ := fc6 bb
      exact key 6 ⟨#[115, 107, 105, 112]⟩ (some (40, #[])) none (some (39, #[.pointer (some ⟨bb, 0, none⟩)])) none regB nilB (idxB n) rfl (by omega) (by omega) q0 q1 q2 q3 q4 (sReg w) (sNil w) hI (.inr (.inl rfl)) (.inl rfl) (.inr (.inr (.inr ⟨_, rfl⟩))) (fe6 a b t n)
    · obtain ⟨q0, q1, q2, q3, q4⟩ := fc7 bb
      exact key 7 ⟨#[106, 117, 109, 112]⟩ none none (some (39, #[.pointer (some ⟨bb, 0, none⟩)])) none nilB nilB (idxB n) rfl (by omega) (by omega) q0 q1 q2 q3 q4 (sNil w) (sNil w) hI (.inl rfl) (.inl rfl) (.inr (.inr (.inr ⟨_, rfl⟩))) (fe7 a b t n)
    · obtain ⟨q0, q1, q2, q3, q4⟩ := fc8 bb
      exact key 8 ⟨#[101, 110, 116, 101, 114]⟩ (some (44, #[])) none none (some (45, #[])) twoB nilB nilB rfl (by omega) (by omega) q0 q1 q2 q3 q4 (sRoo w) (sNil w) (sNil w) (.inr (.inr (.inr (.inl rfl)))) (.inl rfl) (.inl rfl) (fe8 a b t n)
    · obtain ⟨q0, q1, q2, q3, q4⟩ := fc9 bb
      exact key 9 ⟨#[108, 101, 97, 118, 101]⟩ (some (44, #[])) none none (some (46, #[])) twoB nilB nilB rfl (by omega) (by omega) q0 q1 q2 q3 q4 (sRoo w) (sNil w) (sNil w) (.inr (.inr (.inr (.inl rfl)))) (.inl rfl) (.inl rfl) (fe9 a b t n)
    · obtain ⟨q0, q1, q2, q3, q4⟩ := fc10 bb
      exact key 10 ⟨#[119, 97, 105, 116]⟩ (some (47, #[])) none none (some (48, #[])) twoB nilB nilB rfl (by omega) (by omega) q0 q1 q2 q3 q4 (sSig w) (sNil w) (sNil w) (.inr (.inr (.inr (.inr rfl)))) (.inl rfl) (.inl rfl) (fe10 a b t n)
    · obtain ⟨q0, q1, q2, q3, q4⟩ := fc11 bb
      exact key 11 ⟨#[115, 105, 103, 110, 97, 108]⟩ (some (47, #[])) none none none twoB nilB nilB rfl (by omega) (by omega) q0 q1 q2 q3 q4 (sSig w) (sNil w) (sNil w) (.inr (.inr (.inr (.inr rfl)))) (.inl rfl) (.inl rfl) (fe11 a b t n)
    · obtain ⟨q0, q1, q2, q3, q4⟩ := fc12 bb
      exact key 12 ⟨#[121, 105, 101, 108, 100]⟩ none none none none nilB nilB nilB rfl (by omega) (by omega) q0 q1 q2 q3 q4 (sNil w) (sNil w) (sNil w) (.inl rfl) (.inl rfl) (.inl rfl) (fe12 a b t n)
    · obtain ⟨q0, q1, q2, q3, q4⟩ := fc13 bb
      exact key 13 ⟨#[101, 110, 100]⟩ none none none (some (49, #[])) nilB nilB nilB rfl (by omega) (by omega) q0 q1 q2 q3 q4 (sNil w) (sNil w) (sNil w) (.inl rfl) (.inl rfl) (.inl rfl) (fe13 a b t n)
  · have hn : insB o a b t n = false := by
      cases hb : insB o a b t n
      · rfl
      · exact absurd (insB_op hb) ho
    rw [hn]
    have ho' : o < 1 ∨ 13 < o := by omega
    clear hn ho hI hf
    rcases ho' with h | h
    · go_enter Tryz.func25, Tryz.ntmps25
      go_wp2
      go_ret
      exact ⟨rfl, (Below.refl _ _).alloc (Nat.le_refl _) _⟩
    · have h1 : ¬ o < 1 := by omega
      go_enter Tryz.func25, Tryz.ntmps25
      go_wp2
      go_ret
      exact ⟨rfl, (Below.refl _ _).alloc (Nat.le_refl _) _⟩
end Go.Proofs.YtnfnjhbaaefbpaaGreatDoor
