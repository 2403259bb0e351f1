/- The laws' copy of a slice of numbers. -/
import Derived.Test.YtoinagefhbpakaaIntEq
namespace Go.Proofs.Ytoinagefhbpakaa
open Go.ChangeShapes Go.WideShapes Go.ChangeAt Go.RowKit

theorem info_Int : (Try.prog.info? 3).map (fun i => (i.zero, i.size, i.bytes)) = some (some (.int .i64 0), 1, 8) := by kernel_rfl

theorem make_Int (n : Nat) (hn : n ≤ 1048576) (w : World) : (Instr.makeSlice 22 (.int .i64 (n : Int)) (.int .i64 (n : Int))).run Try.prog w =
    .ok (.slice (some ⟨w.heap.size, 0, none⟩) n n) (w.alloc (.cells (madeCells #[.int .i64 0] (n * 1)) 3)) := by
  have hi := info_Int
  obtain ⟨i, hi0, hi1⟩ := Option.map_eq_some_iff.1 hi
  simp only [Prod.mk.injEq] at hi1
  obtain ⟨e0, e1, e2⟩ := hi1
  have h := run_make (P := Try.prog) w 22 3 i _ Try.underlying22 hi0 e0 .i64 .i64 (n : Int) (n : Int) (by omega) (by omega) (by rw [e2]; omega) (by omega)
  rw [e1] at h
  simp only [Int.toNat_natCast] at h
  exact h

/-- The first i numbers copied into a row of noughts. -/
def cop1 (xs : List Int) (i : Nat) : List Int := xs.take i ++ List.replicate (xs.length - i) 0
theorem cop1_zero (xs : List Int) : cop1 xs 0 = List.replicate xs.length 0 := by simp [cop1]
theorem cop1_all (xs : List Int) : cop1 xs xs.length = xs := by simp [cop1]
theorem cop1_len (xs : List Int) (i : Nat) (h : i ≤ xs.length) : (cop1 xs i).length = xs.length := by simp [cop1]; omega
theorem cop1_set (xs : List Int) (i : Nat) (h : i < xs.length) : (cop1 xs i).set i (xs.getD i 0) = cop1 xs (i + 1) := by
  unfold cop1
  rw [List.set_append_right _ _ (by simp; omega), List.length_take, Nat.min_eq_left (by omega), Nat.sub_self]
  have : xs.length - i = (xs.length - (i + 1)) + 1 := by omega
  rw [this, List.replicate_succ, List.set_cons_zero, List.take_add_one, List.getElem?_eq_getElem h, List.append_assoc]
  congr 1
  simp [List.getD, h]

theorem made1 (n : Nat) : (madeCells #[.int .i64 0] (n * 1)).toList = ints (List.replicate n 0) := by
  apply List.ext_getElem?
  intro j
  by_cases hj : j < n
  · simp [madeCells, hj, ints, Nat.mod_one]
  · simp [madeCells, hj, ints]

set_option maxRecDepth 100000 in
/-- A copy, in new memory. -/
theorem toIntS {xs : List Int} {A : Option Addr} {n c : Nat} {S : Nat → Prop} {w : World} (hs : Fl w S 1 xs A n c) (hn : n ≤ 1048576) :
    Calls Try.prog 12 #[.slice A n c] w fun e w' => ∃ v, e = .returned v ∧ w'.ownsRow w.heap.size 3 1 v n (ints xs) ∧ Below w.heap.size w w' := by
  have hl := hs.len
  rw [Nat.mul_one] at hl
  have hmk := fun W => make_Int n hn W
  go_enter Try.func12, Try.ntmps12
  go_wp2_with fail
  go_loopw [4] (fun i wr => ∃ k : Nat, k ≤ n ∧ i = .int .i64 k ∧ wr.ownsRow w.heap.size 3 1 (.slice (some ⟨w.heap.size, 0, none⟩) n n) n (ints (cop1 xs k)) ∧ Below w.heap.size w wr) (fun i _ => n - (intOf i).toNat)
  case atStart =>
    refine ⟨0, Nat.zero_le _, rfl, ?_, (Below.refl _ _).alloc (Nat.le_refl _) _⟩
    have := World.ownsRow_lit (base := w.heap.size) (e := 3) (size := 1) w (madeCells #[.int .i64 0] (n * 1)) n (Nat.le_refl _) (by unfold maxLen; omega) (size_madeCells _ _)
    rw [made1] at this
    rw [Nat.mul_one] at this
    rw [cop1_zero, hl]
    exact this
  case round =>
    clear hmk
    obtain ⟨k, hk, rfl, hown, hb⟩ := hrel
    by_cases hlt : k < n
    · obtain ⟨a, rfl⟩ := hs.some (by omega)
      have c0 := (hs.later hb).one k hlt
      have hz := cop1_len xs k (by omega)
      have q0 := hown.cellAt k (by omega)
      rw [ints_get (by omega)] at q0
      have z0 := hown.frozenAt k
      have s1 := hown.stored k (.int .i64 (xs.getD k 0))
      rw [ints_set, cop1_set xs k (by omega)] at s1
      have b2 := hb.setCell (p := ⟨w.heap.size, k, none⟩) (Nat.le_refl _) (.int .i64 (xs.getD k 0))
      have S2 := Lib.hid s1
      have B2 := Lib.hid b2
      clear s1 b2 hown hz hs hl
      generalize xs.getD k 0 = x at *
      go_wp2_with fail
      go_roundw
      case rel => exact ⟨k + 1, by omega, by go_num, S2.out.1, B2.out⟩
      case measure => simp [intOf]; omega
    · obtain rfl : k = n := by omega
      go_wp2_with fail
      go_ret
      refine ⟨_, rfl, ?_, hb⟩
      rw [← hl, cop1_all] at hown
      rw [← hl]
      exact hown
end Go.Proofs.Ytoinagefhbpakaa
