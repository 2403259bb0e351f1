/- The contracts of NumDo, of the program (its table of operations is new memory) and of the model. -/
import Derived.Test.YtgnahgppojehnaaNum
import Derived.Laws.EntriesVeiled
import Derived.Below
namespace Go.Proofs.Ytgnahgppojehnaa
open Go.ChangeShapes Go.WideShapes Go.ChangeAt Go.RowKit

/-- What NumDo computes: the number, and whether there is one. -/
def doI (op a b : Int) : Int :=
  if okB a = true ∧ okB b = true then
    if op = 1 then cutI (a + b) else if op = 2 then cutI (a - b) else if op = 3 then cutI (a * b) else if op = 4 then oneI (decide (a < b)) else if op = 5 then oneI (a == b) else 0
  else 0
def doOk (op a b : Int) : Bool := decide (okB a = true ∧ okB b = true ∧ 1 ≤ op ∧ op ≤ 5)

theorem okB_iff {n : Int} : okB n = true ↔ -999 ≤ n ∧ n ≤ 999 := by simp [okB]

theorem operationOf_no (op : Int) (h : ¬ (1 ≤ op ∧ op ≤ 5)) (w : World) : Calls Try.prog 24 #[.int .i64 op] w fun e w' => e = .returned (.tuple #[.nilFunc, .bool false]) ∧ Below w.heap.size w w' := by
  rcases (by omega : op < 1 ∨ 6 ≤ op) with h1 | h1
  · go_enter Try.func24, Try.ntmps24
    go_wp2
    go_ret2
    exact ⟨rfl, (Below.refl _ _).alloc (Nat.le_refl _) _⟩
  · have h2 : ¬ op < 1 := by omega
    go_enter Try.func24, Try.ntmps24
    go_wp2
    go_ret2
    exact ⟨rfl, (Below.refl _ _).alloc (Nat.le_refl _) _⟩

theorem operationOf_plus (w : World) : Calls Try.prog 24 #[.int .i64 1] w fun e w' => e = .returned (.tuple #[.func (Fn.func 29) #[] #[], .bool true]) ∧ Below w.heap.size w w' := by
  go_enter Try.func24, Try.ntmps24
  go_wp2
  go_ret2
  exact ⟨rfl, (Below.refl _ _).alloc (Nat.le_refl _) _⟩

theorem numDo_plus (a b : Int) (ha : -999 ≤ a ∧ a ≤ 999) (hb : -999 ≤ b ∧ b ≤ 999) (w : World) : Calls Try.prog 13 #[.int .i64 1, .int .i64 a, .int .i64 b] w fun e w' => e = .returned (.tuple #[.int .i64 (cutI (a + b)), .bool true]) ∧ Below w.heap.size w w' := by
  have e1 : okB a = true := okB_true ha
  have e2 : okB b = true := okB_true hb
  go_enter Try.func13, Try.ntmps13
  go_wp2_with fail
  refine (operationOf_plus _).mono ?_
  rintro e w' ⟨rfl, hb1⟩
  go_wp2_with fail
  refine (numOk _ _).mono ?_
  rintro e w'' ⟨rfl, rfl⟩
  go_wp2_with fail
  refine (numOk _ _).mono ?_
  rintro e w'' ⟨rfl, rfl⟩
  go_wp2_with fail
  refine (plus _ _ ha.1 ha.2 hb.1 hb.2 _).mono ?_
  rintro e w'' ⟨rfl, rfl⟩
  go_wp2_with fail
  go_ret2
  exact ⟨rfl, hb1⟩

theorem operationOf_minus (w : World) : Calls Try.prog 24 #[.int .i64 2] w fun e w' => e = .returned (.tuple #[.func (Fn.func 30) #[] #[], .bool true]) ∧ Below w.heap.size w w' := by
  go_enter Try.func24, Try.ntmps24
  go_wp2
  go_ret2
  exact ⟨rfl, (Below.refl _ _).alloc (Nat.le_refl _) _⟩

theorem numDo_minus (a b : Int) (ha : -999 ≤ a ∧ a ≤ 999) (hb : -999 ≤ b ∧ b ≤ 999) (w : World) : Calls Try.prog 13 #[.int .i64 2, .int .i64 a, .int .i64 b] w fun e w' => e = .returned (.tuple #[.int .i64 (cutI (a - b)), .bool true]) ∧ Below w.heap.size w w' := by
  have e1 : okB a = true := okB_true ha
  have e2 : okB b = true := okB_true hb
  go_enter Try.func13, Try.ntmps13
  go_wp2_with fail
  refine (operationOf_minus _).mono ?_
  rintro e w' ⟨rfl, hb1⟩
  go_wp2_with fail
  refine (numOk _ _).mono ?_
  rintro e w'' ⟨rfl, rfl⟩
  go_wp2_with fail
  refine (numOk _ _).mono ?_
  rintro e w'' ⟨rfl, rfl⟩
  go_wp2_with fail
  refine (minus _ _ ha.1 ha.2 hb.1 hb.2 _).mono ?_
  rintro e w'' ⟨rfl, rfl⟩
  go_wp2_with fail
  go_ret2
  exact ⟨rfl, hb1⟩

theorem operationOf_times (w : World) : Calls Try.prog 24 #[.int .i64 3] w fun e w' => e = .returned (.tuple #[.func (Fn.func 31) #[] #[], .bool true]) ∧ Below w.heap.size w w' := by
  go_enter Try.func24, Try.ntmps24
  go_wp2
  go_ret2
  exact ⟨rfl, (Below.refl _ _).alloc (Nat.le_refl _) _⟩

theorem numDo_times (a b : Int) (ha : -999 ≤ a ∧ a ≤ 999) (hb : -999 ≤ b ∧ b ≤ 999) (w : World) : Calls Try.prog 13 #[.int .i64 3, .int .i64 a, .int .i64 b] w fun e w' => e = .returned (.tuple #[.int .i64 (cutI (a * b)), .bool true]) ∧ Below w.heap.size w w' := by
  have e1 : okB a = true := okB_true ha
  have e2 : okB b = true := okB_true hb
  go_enter Try.func13, Try.ntmps13
  go_wp2_with fail
  refine (operationOf_times _).mono ?_
  rintro e w' ⟨rfl, hb1⟩
  go_wp2_with fail
  refine (numOk _ _).mono ?_
  rintro e w'' ⟨rfl, rfl⟩
  go_wp2_with fail
  refine (numOk _ _).mono ?_
  rintro e w'' ⟨rfl, rfl⟩
  go_wp2_with fail
  refine (times _ _ ha.1 ha.2 hb.1 hb.2 _).mono ?_
  rintro e w'' ⟨rfl, rfl⟩
  go_wp2_with fail
  go_ret2
  exact ⟨rfl, hb1⟩

theorem operationOf_less (w : World) : Calls Try.prog 24 #[.int .i64 4] w fun e w' => e = .returned (.tuple #[.func (Fn.func 32) #[] #[], .bool true]) ∧ Below w.heap.size w w' := by
  go_enter Try.func24, Try.ntmps24
  go_wp2
  go_ret2
  exact ⟨rfl, (Below.refl _ _).alloc (Nat.le_refl _) _⟩

theorem numDo_less (a b : Int) (ha : -999 ≤ a ∧ a ≤ 999) (hb : -999 ≤ b ∧ b ≤ 999) (w : World) : Calls Try.prog 13 #[.int .i64 4, .int .i64 a, .int .i64 b] w fun e w' => e = .returned (.tuple #[.int .i64 (oneI (decide (a < b))), .bool true]) ∧ Below w.heap.size w w' := by
  have e1 : okB a = true := okB_true ha
  have e2 : okB b = true := okB_true hb
  go_enter Try.func13, Try.ntmps13
  go_wp2_with fail
  refine (operationOf_less _).mono ?_
  rintro e w' ⟨rfl, hb1⟩
  go_wp2_with fail
  refine (numOk _ _).mono ?_
  rintro e w'' ⟨rfl, rfl⟩
  go_wp2_with fail
  refine (numOk _ _).mono ?_
  rintro e w'' ⟨rfl, rfl⟩
  go_wp2_with fail
  refine (less _ _ _).mono ?_
  rintro e w'' ⟨rfl, rfl⟩
  go_wp2_with fail
  go_ret2
  exact ⟨rfl, hb1⟩

theorem operationOf_same (w : World) : Calls Try.prog 24 #[.int .i64 5] w fun e w' => e = .returned (.tuple #[.func (Fn.func 33) #[] #[], .bool true]) ∧ Below w.heap.size w w' := by
  go_enter Try.func24, Try.ntmps24
  go_wp2
  go_ret2
  exact ⟨rfl, (Below.refl _ _).alloc (Nat.le_refl _) _⟩

theorem numDo_same (a b : Int) (ha : -999 ≤ a ∧ a ≤ 999) (hb : -999 ≤ b ∧ b ≤ 999) (w : World) : Calls Try.prog 13 #[.int .i64 5, .int .i64 a, .int .i64 b] w fun e w' => e = .returned (.tuple #[.int .i64 (oneI (a == b)), .bool true]) ∧ Below w.heap.size w w' := by
  have e1 : okB a = true := okB_true ha
  have e2 : okB b = true := okB_true hb
  go_enter Try.func13, Try.ntmps13
  go_wp2_with fail
  refine (operationOf_same _).mono ?_
  rintro e w' ⟨rfl, hb1⟩
  go_wp2_with fail
  refine (numOk _ _).mono ?_
  rintro e w'' ⟨rfl, rfl⟩
  go_wp2_with fail
  refine (numOk _ _).mono ?_
  rintro e w'' ⟨rfl, rfl⟩
  go_wp2_with fail
  refine (same _ _ _).mono ?_
  rintro e w'' ⟨rfl, rfl⟩
  go_wp2_with fail
  go_ret2
  exact ⟨rfl, hb1⟩


theorem numDo_noOp (op a b : Int) (h : ¬ (1 ≤ op ∧ op ≤ 5)) (w : World) : Calls Try.prog 13 #[.int .i64 op, .int .i64 a, .int .i64 b] w fun e w' => e = .returned (.tuple #[.int .i64 0, .bool false]) ∧ Below w.heap.size w w' := by
  go_enter Try.func13, Try.ntmps13
  go_wp2_with fail
  refine (operationOf_no op h _).mono ?_
  rintro e w' ⟨rfl, hb1⟩
  go_wp2_with fail
  go_ret2
  exact ⟨rfl, hb1⟩

theorem operationOf_some (op : Int) (h : 1 ≤ op ∧ op ≤ 5) (w : World) : Calls Try.prog 24 #[.int .i64 op] w fun e w' => ∃ v, e = .returned (.tuple #[v, .bool true]) ∧ Below w.heap.size w w' := by
  obtain rfl | rfl | rfl | rfl | rfl : op = 1 ∨ op = 2 ∨ op = 3 ∨ op = 4 ∨ op = 5 := by omega
  · exact (operationOf_plus w).mono fun e w' h => ⟨_, h⟩
  · exact (operationOf_minus w).mono fun e w' h => ⟨_, h⟩
  · exact (operationOf_times w).mono fun e w' h => ⟨_, h⟩
  · exact (operationOf_less w).mono fun e w' h => ⟨_, h⟩
  · exact (operationOf_same w).mono fun e w' h => ⟨_, h⟩

theorem numDo_noNum (op a b : Int) (hop : 1 ≤ op ∧ op ≤ 5) (h : ¬ (okB a = true ∧ okB b = true)) (w : World) : Calls Try.prog 13 #[.int .i64 op, .int .i64 a, .int .i64 b] w fun e w' => e = .returned (.tuple #[.int .i64 0, .bool false]) ∧ Below w.heap.size w w' := by
  cases e1 : okB a
  · go_enter Try.func13, Try.ntmps13
    go_wp2_with fail
    refine (operationOf_some op hop _).mono ?_
    rintro e w' ⟨v, rfl, hb1⟩
    go_wp2_with fail
    refine (numOk _ _).mono ?_
    rintro e w'' ⟨rfl, rfl⟩
    go_wp2_with fail
    go_ret2
    exact ⟨rfl, hb1⟩
  · cases e2 : okB b
    · go_enter Try.func13, Try.ntmps13
      go_wp2_with fail
      refine (operationOf_some op hop _).mono ?_
      rintro e w' ⟨v, rfl, hb1⟩
      go_wp2_with fail
      refine (numOk _ _).mono ?_
      rintro e w'' ⟨rfl, rfl⟩
      go_wp2_with fail
      refine (numOk _ _).mono ?_
      rintro e w'' ⟨rfl, rfl⟩
      go_wp2_with fail
      go_ret2
      exact ⟨rfl, hb1⟩
    · exact absurd ⟨e1, e2⟩ h

/-- The program's NumDo. -/
theorem numDo (op a b : Int) (w : World) : Calls Try.prog 13 #[.int .i64 op, .int .i64 a, .int .i64 b] w fun e w' => e = .returned (.tuple #[.int .i64 (doI op a b), .bool (doOk op a b)]) ∧ Below w.heap.size w w' := by
  by_cases hop : 1 ≤ op ∧ op ≤ 5
  · by_cases h : okB a = true ∧ okB b = true
    · have ha := okB_iff.1 h.1
      have hb := okB_iff.1 h.2
      have e2 : doOk op a b = true := by simp [doOk, h, hop]
      rw [e2]
      obtain rfl | rfl | rfl | rfl | rfl : op = 1 ∨ op = 2 ∨ op = 3 ∨ op = 4 ∨ op = 5 := by omega
      · rw [show doI 1 a b = cutI (a + b) from by simp [doI, h]]; exact numDo_plus a b ha hb w
      · rw [show doI 2 a b = cutI (a - b) from by simp [doI, h]]; exact numDo_minus a b ha hb w
      · rw [show doI 3 a b = cutI (a * b) from by simp [doI, h]]; exact numDo_times a b ha hb w
      · rw [show doI 4 a b = oneI (decide (a < b)) from by simp [doI, h]]; exact numDo_less a b ha hb w
      · rw [show doI 5 a b = oneI (a == b) from by simp [doI, h]]; exact numDo_same a b ha hb w
    · rw [show doI op a b = 0 from by unfold doI; rw [if_neg h], show doOk op a b = false from by simp only [doOk, decide_eq_false_iff_not]; exact fun k => h ⟨k.1, k.2.1⟩]
      exact numDo_noNum op a b hop h w
  · rw [show doI op a b = 0 from by unfold doI; rw [if_neg (by omega : ¬ op = 1), if_neg (by omega : ¬ op = 2), if_neg (by omega : ¬ op = 3), if_neg (by omega : ¬ op = 4), if_neg (by omega : ¬ op = 5)]; split <;> rfl,
      show doOk op a b = false from by simp only [doOk, decide_eq_false_iff_not]; exact fun k => hop k.2.2]
    exact numDo_noOp op a b hop w

theorem specNumDo_plus (a b : Int) (ha : -999 ≤ a ∧ a ≤ 999) (hb : -999 ≤ b ∧ b ≤ 999) (w : World) : Calls Try.prog 14 #[.int .i64 1, .int .i64 a, .int .i64 b] w fun e w' => e = .returned (.tuple #[.int .i64 (cutI (a + b)), .bool true]) ∧ w = w' := by
  have e1 : okB a = true := okB_true ha
  have e2 : okB b = true := okB_true hb
  obtain ⟨a1, a2⟩ := ha
  obtain ⟨b1, b2⟩ := hb
  go_enter Try.func14, Try.ntmps14
  go_wp2_with fail
  refine (specNumOk _ _).mono ?_
  rintro e w'' ⟨rfl, rfl⟩
  go_wp2_with fail
  refine (specNumOk _ _).mono ?_
  rintro e w'' ⟨rfl, rfl⟩
  go_wp2_with fail
  refine (specNumCut _ _).mono ?_
  rintro e w'' ⟨rfl, rfl⟩
  go_wp2_with fail
  go_ret2
  exact ⟨rfl, rfl⟩

theorem specNumDo_minus (a b : Int) (ha : -999 ≤ a ∧ a ≤ 999) (hb : -999 ≤ b ∧ b ≤ 999) (w : World) : Calls Try.prog 14 #[.int .i64 2, .int .i64 a, .int .i64 b] w fun e w' => e = .returned (.tuple #[.int .i64 (cutI (a - b)), .bool true]) ∧ w = w' := by
  have e1 : okB a = true := okB_true ha
  have e2 : okB b = true := okB_true hb
  obtain ⟨a1, a2⟩ := ha
  obtain ⟨b1, b2⟩ := hb
  go_enter Try.func14, Try.ntmps14
  go_wp2_with fail
  refine (specNumOk _ _).mono ?_
  rintro e w'' ⟨rfl, rfl⟩
  go_wp2_with fail
  refine (specNumOk _ _).mono ?_
  rintro e w'' ⟨rfl, rfl⟩
  go_wp2_with fail
  refine (specNumCut _ _).mono ?_
  rintro e w'' ⟨rfl, rfl⟩
  go_wp2_with fail
  go_ret2
  exact ⟨rfl, rfl⟩

theorem specNumDo_times (a b : Int) (ha : -999 ≤ a ∧ a ≤ 999) (hb : -999 ≤ b ∧ b ≤ 999) (w : World) : Calls Try.prog 14 #[.int .i64 3, .int .i64 a, .int .i64 b] w fun e w' => e = .returned (.tuple #[.int .i64 (cutI (a * b)), .bool true]) ∧ w = w' := by
  have e1 : okB a = true := okB_true ha
  have e2 : okB b = true := okB_true hb
  obtain ⟨m1, m2⟩ := mul_bd ha.1 ha.2 hb.1 hb.2
  obtain ⟨a1, a2⟩ := ha
  obtain ⟨b1, b2⟩ := hb
  go_enter Try.func14, Try.ntmps14
  go_wp2_with fail
  refine (specNumOk _ _).mono ?_
  rintro e w'' ⟨rfl, rfl⟩
  go_wp2_with fail
  refine (specNumOk _ _).mono ?_
  rintro e w'' ⟨rfl, rfl⟩
  go_wp2_with fail
  refine (specNumCut _ _).mono ?_
  rintro e w'' ⟨rfl, rfl⟩
  go_wp2_with fail
  go_ret2
  exact ⟨rfl, rfl⟩

theorem specNumDo_less (a b : Int) (ha : -999 ≤ a ∧ a ≤ 999) (hb : -999 ≤ b ∧ b ≤ 999) (w : World) : Calls Try.prog 14 #[.int .i64 4, .int .i64 a, .int .i64 b] w fun e w' => e = .returned (.tuple #[.int .i64 (oneI (decide (a < b))), .bool true]) ∧ w = w' := by
  have e1 : okB a = true := okB_true ha
  have e2 : okB b = true := okB_true hb
  obtain ⟨a1, a2⟩ := ha
  obtain ⟨b1, b2⟩ := hb
  go_enter Try.func14, Try.ntmps14
  go_wp2_with fail
  refine (specNumOk _ _).mono ?_
  rintro e w'' ⟨rfl, rfl⟩
  go_wp2_with fail
  refine (specNumOk _ _).mono ?_
  rintro e w'' ⟨rfl, rfl⟩
  go_wp2_with fail
  refine (l1If _ _).mono ?_
  rintro e w'' ⟨rfl, rfl⟩
  go_wp2_with fail
  go_ret2
  exact ⟨rfl, rfl⟩

theorem specNumDo_same (a b : Int) (ha : -999 ≤ a ∧ a ≤ 999) (hb : -999 ≤ b ∧ b ≤ 999) (w : World) : Calls Try.prog 14 #[.int .i64 5, .int .i64 a, .int .i64 b] w fun e w' => e = .returned (.tuple #[.int .i64 (oneI (a == b)), .bool true]) ∧ w = w' := by
  have e1 : okB a = true := okB_true ha
  have e2 : okB b = true := okB_true hb
  obtain ⟨a1, a2⟩ := ha
  obtain ⟨b1, b2⟩ := hb
  go_enter Try.func14, Try.ntmps14
  go_wp2_with fail
  refine (specNumOk _ _).mono ?_
  rintro e w'' ⟨rfl, rfl⟩
  go_wp2_with fail
  refine (specNumOk _ _).mono ?_
  rintro e w'' ⟨rfl, rfl⟩
  go_wp2_with fail
  refine (l1If _ _).mono ?_
  rintro e w'' ⟨rfl, rfl⟩
  go_wp2_with fail
  go_ret2
  exact ⟨rfl, rfl⟩


theorem specNumDo_noOp (op a b : Int) (ha : -999 ≤ a ∧ a ≤ 999) (hb : -999 ≤ b ∧ b ≤ 999) (h : ¬ (1 ≤ op ∧ op ≤ 5)) (w : World) : Calls Try.prog 14 #[.int .i64 op, .int .i64 a, .int .i64 b] w fun e w' => e = .returned (.tuple #[.int .i64 0, .bool false]) ∧ w = w' := by
  have e1 : okB a = true := okB_true ha
  have e2 : okB b = true := okB_true hb
  have o1 : (op == 1) = false := beq_eq_false_iff_ne.2 (by omega)
  have o2 : (op == 2) = false := beq_eq_false_iff_ne.2 (by omega)
  have o3 : (op == 3) = false := beq_eq_false_iff_ne.2 (by omega)
  have o4 : (op == 4) = false := beq_eq_false_iff_ne.2 (by omega)
  have o5 : (op == 5) = false := beq_eq_false_iff_ne.2 (by omega)
  go_enter Try.func14, Try.ntmps14
  go_wp2_with fail
  refine (specNumOk _ _).mono ?_
  rintro e w'' ⟨rfl, rfl⟩
  go_wp2_with fail
  refine (specNumOk _ _).mono ?_
  rintro e w'' ⟨rfl, rfl⟩
  go_wp2_with fail
  go_ret2
  exact ⟨rfl, rfl⟩

theorem specNumDo_noNum (op a b : Int) (h : ¬ (okB a = true ∧ okB b = true)) (w : World) : Calls Try.prog 14 #[.int .i64 op, .int .i64 a, .int .i64 b] w fun e w' => e = .returned (.tuple #[.int .i64 0, .bool false]) ∧ w = w' := by
  cases e1 : okB a
  · go_enter Try.func14, Try.ntmps14
    go_wp2_with fail
    refine (specNumOk _ _).mono ?_
    rintro e w'' ⟨rfl, rfl⟩
    go_wp2_with fail
    go_ret2
    exact ⟨rfl, rfl⟩
  · cases e2 : okB b
    · go_enter Try.func14, Try.ntmps14
      go_wp2_with fail
      refine (specNumOk _ _).mono ?_
      rintro e w'' ⟨rfl, rfl⟩
      go_wp2_with fail
      refine (specNumOk _ _).mono ?_
      rintro e w'' ⟨rfl, rfl⟩
      go_wp2_with fail
      go_ret2
      exact ⟨rfl, rfl⟩
    · exact absurd ⟨e1, e2⟩ h

/-- The model's NumDo. -/
theorem specNumDo (op a b : Int) (w : World) : Calls Try.prog 14 #[.int .i64 op, .int .i64 a, .int .i64 b] w fun e w' => e = .returned (.tuple #[.int .i64 (doI op a b), .bool (doOk op a b)]) ∧ w = w' := by
  by_cases h : okB a = true ∧ okB b = true
  · have ha := okB_iff.1 h.1
    have hb := okB_iff.1 h.2
    by_cases hop : 1 ≤ op ∧ op ≤ 5
    · have e2 : doOk op a b = true := by simp [doOk, h, hop]
      rw [e2]
      obtain rfl | rfl | rfl | rfl | rfl : op = 1 ∨ op = 2 ∨ op = 3 ∨ op = 4 ∨ op = 5 := by omega
      · rw [show doI 1 a b = cutI (a + b) from by simp [doI, h]]; exact specNumDo_plus a b ha hb w
      · rw [show doI 2 a b = cutI (a - b) from by simp [doI, h]]; exact specNumDo_minus a b ha hb w
      · rw [show doI 3 a b = cutI (a * b) from by simp [doI, h]]; exact specNumDo_times a b ha hb w
      · rw [show doI 4 a b = oneI (decide (a < b)) from by simp [doI, h]]; exact specNumDo_less a b ha hb w
      · rw [show doI 5 a b = oneI (a == b) from by simp [doI, h]]; exact specNumDo_same a b ha hb w
    · rw [show doI op a b = 0 from by unfold doI; rw [if_neg (by omega : ¬ op = 1), if_neg (by omega : ¬ op = 2), if_neg (by omega : ¬ op = 3), if_neg (by omega : ¬ op = 4), if_neg (by omega : ¬ op = 5)]; split <;> rfl,
        show doOk op a b = false from by simp only [doOk, decide_eq_false_iff_not]; exact fun k => hop k.2.2]
      exact specNumDo_noOp op a b ha hb hop w
  · rw [show doI op a b = 0 from by unfold doI; rw [if_neg h], show doOk op a b = false from by simp only [doOk, decide_eq_false_iff_not]; exact fun k => h ⟨k.1, k.2.1⟩]
    exact specNumDo_noNum op a b h w
end Go.Proofs.Ytgnahgppojehnaa
