/- The laws' count and copy of code. -/
import Derived.Test.YtogpfagdpkjmmaaInsEq
namespace Go.Proofs.Ytogpfagdpkjmmaa
open Go.ChangeShapes Go.WideShapes Go.ChangeAt Go.RowKit

theorem szInsS (A : Option Addr) (n c : Nat) (left : Int) (w : World) (hn : n ≤ maxLen) (h0 : 0 ≤ left) (h1 : left ≤ 1048576) :
    Calls Try.prog 14 #[.slice A n c, .int .i64 left] w fun e w' => e = .returned (.int .i64 (if (n : Int) ≤ left then left - n else -1)) ∧ w' = w := by
  unfold maxLen at hn
  by_cases h : (n : Int) ≤ left
  · go_enter Try.func14, Try.ntmps14
    go_wp2
    go_ret
    exact ⟨rfl, rfl⟩
  · go_enter Try.func14, Try.ntmps14
    go_wp2
    go_ret
    exact ⟨rfl, rfl⟩

set_option maxRecDepth 100000 in
theorem toIns (x y z u : Int) (w : World) :
    Calls Try.prog 43 #[.agg #[.int .i64 x, .int .i64 y, .int .i64 z, .int .i64 u]] w fun e w' => e = .returned (.agg #[.int .i64 x, .int .i64 y, .int .i64 z, .int .i64 u]) ∧ Below w.heap.size w w' := by
  go_enter Try.func43, Try.ntmps43
  go_wp2
  have hz2 : w.heap.size ≤ w.heap.size + 1 + 1 := by omega
  refine bodyPost_ret (v := .agg #[.int .i64 x, .int .i64 y, .int .i64 z, .int .i64 u]) (by simp [results, Try.results43, go_sem]) rfl ⟨rfl, ?_⟩
  exact (((Below.refl _ _).alloc (Nat.le_refl _) _).alloc (by simp) _).alloc (by simp only [World.size_alloc]; exact hz2) _

theorem info_Ins : (Try.prog.info? 40).map (fun i => (i.zero, i.size, i.bytes)) = some (some (.agg #[.int .i64 0, .int .i64 0, .int .i64 0, .int .i64 0]), 4, 32) := by kernel_rfl

theorem make_Ins (n : Nat) (hn : n ≤ 1048576) (w : World) : (Instr.makeSlice 25 (.int .i64 (n : Int)) (.int .i64 (n : Int))).run Try.prog w =
    .ok (.slice (some ⟨w.heap.size, 0, none⟩) n n) (w.alloc (.cells (madeCells #[.int .i64 0, .int .i64 0, .int .i64 0, .int .i64 0] (n * 4)) 40)) := by
  have hi := info_Ins
  obtain ⟨i, hi0, hi1⟩ := Option.map_eq_some_iff.1 hi
  simp only [Prod.mk.injEq] at hi1
  obtain ⟨e0, e1, e2⟩ := hi1
  have h := run_make (P := Try.prog) w 25 40 i _ Try.underlying25 hi0 e0 .i64 .i64 (n : Int) (n : Int) (by omega) (by omega) (by rw [e2]; omega) (by omega)
  rw [e1] at h
  simp only [Int.toNat_natCast] at h
  exact h

/-- The first i cells copied into a row of noughts. -/
def cop4 (xs : List Int) (i : Nat) : List Int := xs.take i ++ List.replicate (xs.length - i) 0
theorem cop4_zero (xs : List Int) : cop4 xs 0 = List.replicate xs.length 0 := by simp [cop4]
theorem cop4_all (xs : List Int) : cop4 xs xs.length = xs := by simp [cop4]
theorem cop4_len (xs : List Int) (i : Nat) (h : i ≤ xs.length) : (cop4 xs i).length = xs.length := by simp [cop4]; omega
theorem cop4_set (xs : List Int) (i : Nat) (h : i < xs.length) : (cop4 xs i).set i (xs.getD i 0) = cop4 xs (i + 1) := by
  unfold cop4
  rw [List.set_append_right _ _ (by simp; omega), List.length_take, Nat.min_eq_left (by omega), Nat.sub_self]
  have : xs.length - i = (xs.length - (i + 1)) + 1 := by omega
  rw [this, List.replicate_succ, List.set_cons_zero, List.take_add_one, List.getElem?_eq_getElem h, List.append_assoc]
  congr 1
  simp [List.getD, h]

theorem made4 (n : Nat) : (madeCells #[.int .i64 0, .int .i64 0, .int .i64 0, .int .i64 0] (n * 4)).toList = ints (List.replicate (n * 4) 0) := by
  apply List.ext_getElem?
  intro j
  by_cases hj : j < n * 4
  · have : j % 4 = 0 ∨ j % 4 = 1 ∨ j % 4 = 2 ∨ j % 4 = 3 := by omega
    rcases this with h | h | h | h <;> simp [madeCells, hj, ints, h]
  · simp [madeCells, hj, ints]

set_option maxRecDepth 100000 in
/-- A copy, in new memory. -/
theorem toInsS {xs : List Int} {A : Option Addr} {n c : Nat} {S : Nat → Prop} {w : World} (hs : Fl w S 4 xs A n c) (hn : n ≤ 1048576) :
    Calls Try.prog 16 #[.slice A n c] w fun e w' => ∃ v, e = .returned v ∧ w'.ownsRow w.heap.size 40 4 v n (ints xs) ∧ Below w.heap.size w w' := by
  have hl := hs.len
  have hmk := fun W => make_Ins n hn W
  go_enter Try.func16, Try.ntmps16
  go_wp2_with fail
  go_loopw [4] (fun i wr => ∃ k : Nat, k ≤ n ∧ i = .int .i64 k ∧ wr.ownsRow w.heap.size 40 4 (.slice (some ⟨w.heap.size, 0, none⟩) n n) n (ints (cop4 xs (k * 4))) ∧ Below w.heap.size w wr) (fun i _ => n - (intOf i).toNat)
  case atStart =>
    refine ⟨0, Nat.zero_le _, rfl, ?_, (Below.refl _ _).alloc (Nat.le_refl _) _⟩
    have := World.ownsRow_lit (base := w.heap.size) (e := 40) (size := 4) w (madeCells #[.int .i64 0, .int .i64 0, .int .i64 0, .int .i64 0] (n * 4)) n (Nat.le_refl _) (by unfold maxLen; omega) (size_madeCells _ _)
    rw [made4] at this
    rw [Nat.zero_mul, cop4_zero, hl]
    exact this
  case round =>
    clear hmk
    obtain ⟨k, hk, rfl, hown, hb⟩ := hrel
    by_cases hlt : k < n
    · obtain ⟨a, rfl⟩ := hs.some (by omega)
      obtain ⟨c0, c1, c2, c3⟩ := (hs.later hb).four k hlt
      have HOWN := Lib.hid hown
      have HL := Lib.hid hl
      clear hown hl
      go_wp2_with fail
      refine (toIns _ _ _ _ _).mono ?_
      rintro e w1 ⟨rfl, hb1⟩
      have hown1 := own_below HOWN.out hb1
      have hz := cop4_len xs (k * 4) (by rw [HL.out]; omega)
      have hl := HL.out
      have q0 := hown1.cellAt (k * 4) (by omega)
      have q1 := hown1.cellAt (k * 4 + 1) (by omega)
      have q2 := hown1.cellAt (k * 4 + 2) (by omega)
      have q3 := hown1.cellAt (k * 4 + 3) (by omega)
      rw [ints_get (by omega)] at q0 q1 q2 q3
      have z0 := hown1.frozenAt (k * 4)
      have z1 := hown1.frozenAt (k * 4 + 1)
      have z2 := hown1.frozenAt (k * 4 + 2)
      have z3 := hown1.frozenAt (k * 4 + 3)
      have s1 := hown1.stored (k * 4) (.int .i64 (xs.getD (k * 4) 0))
      rw [ints_set, cop4_set xs (k * 4) (by omega)] at s1
      have s2 := s1.1.stored (k * 4 + 1) (.int .i64 (xs.getD (k * 4 + 1) 0))
      rw [ints_set, cop4_set xs (k * 4 + 1) (by omega)] at s2
      have s3 := s2.1.stored (k * 4 + 2) (.int .i64 (xs.getD (k * 4 + 2) 0))
      rw [ints_set, cop4_set xs (k * 4 + 2) (by omega)] at s3
      have s4 := s3.1.stored (k * 4 + 3) (.int .i64 (xs.getD (k * 4 + 3) 0))
      rw [ints_set, cop4_set xs (k * 4 + 3) (by omega)] at s4
      have b1 : Below w.heap.size w w1 := hb.trans (hb1.mono hb.size)
      have b2 := (((b1.setCell (p := ⟨w.heap.size, k * 4, none⟩) (Nat.le_refl _) (.int .i64 (xs.getD (k * 4) 0))).setCell (p := ⟨w.heap.size, k * 4 + 1, none⟩) (Nat.le_refl _) (.int .i64 (xs.getD (k * 4 + 1) 0))).setCell (p := ⟨w.heap.size, k * 4 + 2, none⟩) (Nat.le_refl _) (.int .i64 (xs.getD (k * 4 + 2) 0))).setCell (p := ⟨w.heap.size, k * 4 + 3, none⟩) (Nat.le_refl _) (.int .i64 (xs.getD (k * 4 + 3) 0))
      simp only [List.getD_eq_getElem?_getD] at s4 b2
      have S2 := Lib.hid s4
      have B2 := Lib.hid b2
      clear s1 s2 s3 s4 b2 hown1 hz hl c0 c1 c2 c3 hs
      go_wp2_with fail
      go_roundw
      case rel => exact ⟨k + 1, by omega, by go_num, (show (k + 1) * 4 = k * 4 + 3 + 1 by omega) ▸ S2.out.1, B2.out⟩
      case measure => simp [intOf]; omega
    · obtain rfl : k = n := by omega
      go_wp2_with fail
      go_ret
      refine ⟨_, rfl, ?_, hb⟩
      rw [← hl, cop4_all] at hown
      exact hown

end Go.Proofs.Ytogpfagdpkjmmaa
